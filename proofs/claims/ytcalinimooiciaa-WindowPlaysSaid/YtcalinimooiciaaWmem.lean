/- Slices of numbers of 64 bits in memory: what they hold, of one's own, as arguments, appended to, written out. -/
import Derived.Test.YtcalinimooiciaaObj
import Derived.Test.YtcalinimooiciaaNew
namespace Go.Proofs.Ytcalinimooiciaa
open Go.RowKit Go.ChangeShapes Go.WideShapes Go.Deep
set_option linter.unusedVariables false
set_option linter.unusedSimpArgs false
/-- A number of 64 bits. -/
def u64 (x : Nat) : Value := Value.int .u64 (x : Int)
/-- A slice of n numbers of 64 bits at A, in blocks of F: they are l. -/
def UsIn (w : World) (F : Nat → Prop) (A : Option Addr) (n : Nat) (l : List Nat) : Prop :=
  l.length = n ∧ (0 < n → ∃ b off, A = some ⟨b, off, none⟩ ∧ F b ∧ b < w.heap.size ∧ ∀ (i x : Nat), l[i]? = some x → w.cell? ⟨b, off + i, none⟩ = some (.int .u64 (x : Int)))
namespace UsIn
variable {w w' : World} {F G : Nat → Prop} {A : Option Addr} {n : Nat} {l : List Nat}
theorem turned (h : UsIn w F A n l) (k : Turned G w w') (hd : ∀ b, F b → ¬ G b) : UsIn w' F A n l := ⟨h.1, fun hn => by
  obtain ⟨b, off, e, hb, hl, hc⟩ := h.2 hn
  exact ⟨b, off, e, hb, Nat.lt_of_lt_of_le hl k.size, fun i x hi => k.cell (hc i x hi) (hd b hb)⟩⟩
theorem keep (h : UsIn w F A n l) (k : Keep w w') : UsIn w' F A n l := h.turned (Turned.of_keep (F := fun _ => False) k) fun _ _ e => e
theorem mono (h : UsIn w F A n l) (hF : ∀ b, F b → b < w.heap.size → G b) : UsIn w G A n l := ⟨h.1, fun hn => by
  obtain ⟨b, off, e, hb, hl, hc⟩ := h.2 hn
  exact ⟨b, off, e, hF b hb hl, hl, hc⟩⟩
theorem any (h : UsIn w F A n l) : UsIn w (fun _ => True) A n l := h.mono fun _ _ _ => trivial
theorem at_ (h : UsIn w F A n l) {i : Nat} (hi : i < n) : ∃ b off x, A = some ⟨b, off, none⟩ ∧ F b ∧ b < w.heap.size ∧ l[i]? = some x ∧ w.cell? ⟨b, off + i, none⟩ = some (.int .u64 (x : Int)) := by
  obtain ⟨b, off, e, hb, hl, hc⟩ := h.2 (by omega)
  have hi' : i < l.length := by rw [h.1]; exact hi
  exact ⟨b, off, l[i], e, hb, hl, List.getElem?_eq_getElem hi', hc i _ (List.getElem?_eq_getElem hi')⟩
theorem nil (w : World) (F : Nat → Prop) (A : Option Addr) : UsIn w F A 0 [] := ⟨rfl, fun h => absurd h (by omega)⟩
end UsIn
/-- Numbers of 64 bits of one's own. -/
def OwnU (w : World) (base : Nat) (A : Option Addr) (n c : Nat) (l : List Nat) : Prop := w.ownsRow base 23 1 (.slice A n c) n (l.map u64)
namespace OwnU
variable {w w' : World} {base n c : Nat} {A : Option Addr} {l : List Nat}
theorem none_ (w : World) (base : Nat) : OwnU w base none 0 0 [] := World.ownsRow_nil w base 23 1
theorem length (h : OwnU w base A n c l) : l.length = n := by have := h.1; simpa using this
theorem rowLe (h : OwnU w base A n c l) : ∀ k, (Value.slice A n c).ownBlock = some k → base ≤ k := fun k hk => (World.ownsRow.lt h k hk).1
theorem keep (h : OwnU w base A n c l) (k : Keep w w') : OwnU w' base A n c l :=
  World.ownsRow.kept h (row := none) ⟨k.os, k.tape, k.output, k.size, fun i hi _ => k.block i hi⟩ (by
    cases hb : (Value.slice A n c).ownBlock with
    | none => exact Or.inl rfl
    | some g => exact Or.inr (by simp))
theorem alloc (h : OwnU w base A n c l) (o : Obj) : OwnU (w.alloc o) base A n c l := World.ownsRow.alloc h o
theorem lower {base' : Nat} (h : OwnU w base A n c l) (hb : base' ≤ base) : OwnU w base' A n c l := by
  refine ⟨h.1, ?_⟩
  rcases h.2 with h1 | ⟨g, cap, cur, hv, hg, r⟩
  · exact Or.inl h1
  · exact Or.inr ⟨g, cap, cur, hv, by omega, r⟩
theorem ins (h : OwnU w base A n c l) : UsIn w (fun b => base ≤ b) A n l := by
  refine ⟨h.length, fun hn => ?_⟩
  rcases h.2 with ⟨hv, h0⟩ | ⟨g, cap, cur, hv, hg, hh, _⟩
  · omega
  · injection hv with h1 _ _
    subst h1
    refine ⟨g, 0, rfl, hg, (Array.getElem?_eq_some_iff.1 hh).1, fun i x hx => ?_⟩
    have hil : i < l.length := by
      rcases Nat.lt_or_ge i l.length with h1 | h1
      · exact h1
      · rw [List.getElem?_eq_none h1] at hx; cases hx
    have := World.ownsRow.cellAt h i (by have := h.length; omega)
    rw [Nat.zero_add, this, List.getElem?_map, hx]; rfl
end OwnU
theorem infoU : (Try.prog.info? 23).map (fun i => (i.zero, i.size, i.bytes)) = some (some (.int .u64 0), 1, 8) := by kernel_rfl
section
variable {P : Program}
/-- append(numbers, one). -/
theorem run_append_u {w : World} {base n c cx t e : Nat} {A : Option Addr} {l : List Value} {ad : Addr} {x : Int} (ht : P.underlying t = some (.slice e))
    (hi : (P.info? e).map (fun i => (i.zero, i.size, i.bytes)) = some (some (.int .u64 0), 1, 8)) (hown : w.ownsRow base e 1 (.slice A n c) n l) (hx : w.cell? ad = some (.int .u64 x)) (hlen : n ≤ 1000000) (hbase : base ≤ w.heap.size) (ty : TypeId) :
    ∃ A2 c2 w', (Builtin.append_ #[t, t] ty #[.slice A n c, .slice (some ad) 1 cx]).run P w = .ok (.slice A2 (n + 1) c2) w' ∧ w'.ownsRow base e 1 (.slice A2 (n + 1) c2) (n + 1) (l ++ [.int .u64 x]) ∧ w.grownBy w' (Value.slice A n c).ownBlock := by
  obtain ⟨i0, hi0, hz0, hz1, hz2⟩ := info_parts hi
  obtain ⟨v', w', hrun, h2, h3, _, _⟩ := run_append_own_at (P := P) w base t ty e i0 (.int .u64 0) 1 8 ht hi0 hz0 hz1 hz2 rfl (by decide) _ n l hown ad 1 cx [.int .u64 x] rfl
    (fun j u hu => by
      match j, hu with
      | 0, hu =>
        simp at hu
        subst hu
        have ha : ad.add 0 = ad := by unfold Addr.add; split <;> simp_all
        rw [ha]; exact hx)
    (fun u hu => by simp at hu; subst hu; rfl) (by unfold maxLen; omega) (by omega) hbase
  obtain ⟨A2, c2, rfl⟩ := own_shape h2
  exact ⟨A2, c2, w', hrun, h2, h3⟩
theorem wpList_append_u {w : World} {ops : Array Oper} {rest : List Oper} {o : Oper} {a : Act} {Q : Exit → Act → World → Prop} (hgd : o.guard = none) (s x : Operand) (t : TypeId)
    (ho : o.op = .call { callee := .builtin .append, args := #[s, x], argTypes := #[t, t] }) {base n c cx e : Nat} {A : Option Addr} {l : List Value} {ad : Addr} {y : Int} (ht : P.underlying t = some (.slice e))
    (hi : (P.info? e).map (fun i => (i.zero, i.size, i.bytes)) = some (some (.int .u64 0), 1, 8)) (hs : a.eval s = .slice A n c) (hown : w.ownsRow base e 1 (.slice A n c) n l) (hx0 : a.eval x = .slice (some ad) 1 cx) (hx : w.cell? ad = some (.int .u64 y)) (hlen : n ≤ 1000000) (hbase : base ≤ w.heap.size)
    (h : ∀ A2 c2 w', w'.ownsRow base e 1 (.slice A2 (n + 1) c2) (n + 1) (l ++ [.int .u64 y]) → w.grownBy w' (Value.slice A n c).ownBlock → wpList P ops Q rest (a.put o.dst (.slice A2 (n + 1) c2)) w') : wpList P ops Q (o :: rest) a w := by
  refine wpList_plain hgd fun K hK => ?_
  obtain ⟨A2, c2, w', hr, h2, h3⟩ := run_append_u (P := P) (cx := cx) ht hi hown hx hlen hbase o.type
  unfold Oper.wp execOp
  simp only [ho, resolve, invoke, builtin, Sem.run_bind, Sem.run_pure, Result.andThen_ok, List.map_toArray, List.map_cons, List.map_nil, hs, hx0, hr]
  exact hK _ _ (h A2 c2 w' h2 h3)
end
section
variable {H : Type} {enc : TypeId × Value → H} {P : Program} {W : World}
/-- An argument that is a slice of numbers of 64 bits. -/
theorem arg_us {t e : TypeId} (ht : P.underlying t = some (.slice e)) (he : P.underlying e = some (.int .u64)) (hc : P.cellsOf e = 1) (hb : 1 ≤ P.bytesOf e)
    {ts : List TypeId} {ds : List (DataW H)} (hsz : (DataW.weightsEach P ts ds).all (· ≤ reachBytes) = true) {j : Nat} (hj : ts[j]? = some t) {v : Value} {d : DataW H} {p : List MemPlace} (hd : ds[j]? = some d)
    {base : Nat} (hv : Value.okWide P W .any base t v) (h : DataW.Trod enc P W 0 (fun _ => true) true t v d p) :
    ∃ (A : Option Addr) (n c : Nat) (l : List Nat), v = .slice A n c ∧ UsIn W (fun _ => True) A n l ∧ (∀ z ∈ l, z < 18446744073709551616) ∧ n ≤ 140737488351232 := by
  obtain ⟨A, n, c, rfl⟩ := okWide_slice ht hv
  obtain ⟨fuel, hf⟩ := h
  have hs : ∀ k ∈ d.weights P t, k ≤ reachBytes := fun k hk => by
    have := List.all_eq_true.1 hsz k (DataW.weights_mem_each hj hd k hk)
    simpa using this
  rcases open_ints ht he hc (by simpa [Value.cells] using hf) with ⟨hcs, _⟩ | ⟨a, len, cap, zs, hcs, _, hl, hm, hz, hx, hcell, hwz⟩
  · simp at hcs
    obtain ⟨rfl, rfl, rfl⟩ := hcs
    exact ⟨none, 0, 0, [], rfl, UsIn.nil _ _ _, fun z hz => by simp at hz, by omega⟩
  · simp at hcs
    obtain ⟨rfl, rfl, rfl⟩ := hcs
    have hz' : zs.length = c := by simpa using hz
    simp only [Prod.mk.injEq] at hx
    obtain ⟨hde, _⟩ := hx
    have hr : reachBytes = 140737488351232 := by decide
    have hsz2 : c ≤ reachBytes := by
      have h1 := hs (((lits .u64 (zs.take n) : List (DataW H)).length + (lits .u64 (zs.drop n) : List (DataW H)).length) * P.bytesOf e) (by rw [hde]; simp [DataW.weights, ht])
      simp only [lits, List.length_map, List.length_take, List.length_drop] at h1
      have h2 : c * 1 ≤ (min n zs.length + (zs.length - n)) * P.bytesOf e := Nat.mul_le_mul (by omega) hb
      omega
    refine ⟨some a, n, c, (zs.take n).map Int.toNat, rfl, ⟨by rw [List.length_map, List.length_take]; omega, fun hn => ?_⟩, fun z hz2 => ?_, by omega⟩
    · obtain ⟨b, off, spot⟩ := a
      have h0 := hcell 0 (by omega)
      have hspot : spot = none := by simpa [Addr.add] using World.cell?_spot h0
      subst hspot
      refine ⟨b, off, rfl, trivial, World.block_lt_of_cell? W _ (show W.cell? ⟨b, off, none⟩ = _ by simpa [Addr.add] using h0), fun i x hi => ?_⟩
      rw [List.getElem?_map, List.getElem?_take] at hi
      split at hi
      · rename_i hin
        have h1 := hcell i (by omega)
        have ha : (⟨b, off, none⟩ : Addr).add i = ⟨b, off + i, none⟩ := by unfold Addr.add; split <;> simp_all
        rw [ha] at h1
        rw [h1, List.getD_eq_getElem?_getD]
        have hil : i < zs.length := by omega
        rw [List.getElem?_eq_getElem hil] at hi ⊢
        have hw := bounds_u64 (hwz _ (List.getElem_mem hil))
        have hi : (zs[i]).toNat = x := by simpa using hi
        subst hi
        show some (Value.int .u64 zs[i]) = _
        rw [Int.toNat_of_nonneg hw.1]
      · cases hi
    · obtain ⟨y, hy, rfl⟩ := List.mem_map.1 hz2
      have hw := bounds_u64 (hwz y (List.mem_of_mem_take hy))
      omega
end
end Go.Proofs.Ytcalinimooiciaa
