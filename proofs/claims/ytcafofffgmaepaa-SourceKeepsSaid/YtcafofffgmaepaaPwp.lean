/- PadWhole, plainly: where chunks begin, what they are; and its memory: ints appended, a map of places. -/
import Derived.Test.YtcafofffgmaepaaPf1
import Derived.Maps.OwnOps
import Derived.Maps.Views
import Derived.Maps.OwnSet
import Derived.Maps.AppendAt
namespace Go.Proofs.Ytcafofffgmaepaa
open Go.RowKit Go.Maps
set_option linter.unusedVariables false
set_option linter.unusedSimpArgs false
/-- Where chunk i begins. -/
def offs (M : List (List Nat)) (i : Nat) : Nat := (M.take i).flatten.length
theorem offs_zero (M : List (List Nat)) : offs M 0 = 0 := by simp [offs]
theorem offs_succ {M : List (List Nat)} {i : Nat} {r : List Nat} (h : M[i]? = some r) : offs M (i + 1) = offs M i + r.length := by
  rw [offs, List.take_add_one, h, List.flatten_append, List.length_append, offs]; simp
theorem offs_all (M : List (List Nat)) : offs M M.length = M.flatten.length := by rw [offs, List.take_length]
theorem offs_le (M : List (List Nat)) (i : Nat) : offs M i ≤ M.flatten.length := by
  conv => rhs; rw [← List.take_append_drop i M, List.flatten_append, List.length_append]
  rw [offs]; omega
theorem row_piece {M : List (List Nat)} {xs : List Nat} {f i : Nat} {r : List Nat} (hf : M.flatten = xs.take f) (hl : f ≤ xs.length) (h : M[i]? = some r) : r = pieceN xs (offs M i) (offs M i + r.length) ∧ offs M i + r.length ≤ f := by
  have hfl : M.flatten.length = f := by rw [hf, List.length_take]; omega
  have hi : i < M.length := by
    rcases Nat.lt_or_ge i M.length with h1 | h1
    · exact h1
    · rw [List.getElem?_eq_none h1] at h; cases h
  have hle : offs M i + r.length ≤ f := by rw [← offs_succ h, ← hfl]; exact offs_le M (i + 1)
  refine ⟨?_, hle⟩
  have hd : M.drop i = r :: M.drop (i + 1) := by
    rw [List.drop_eq_getElem_cons hi]
    rw [List.getElem?_eq_getElem hi] at h
    injection h with h
    rw [h]
  have e1 : (xs.take f).drop (offs M i) = r ++ (M.drop (i + 1)).flatten := by
    have e0 : M.flatten = (M.take i).flatten ++ (M.drop i).flatten := by rw [← List.flatten_append, List.take_append_drop]
    rw [← hf, e0, List.drop_left' (show (M.take i).flatten.length = offs M i from rfl), hd, List.flatten_cons]
  have e2 : ((xs.take f).drop (offs M i)).take r.length = r := by rw [e1, List.take_left' rfl]
  rw [pieceN, Nat.add_sub_cancel_left]
  conv => lhs; rw [← e2]
  rw [List.drop_take, List.take_take, Nat.min_eq_left (by omega)]
section
variable {room : Nat} {cs xs : List Nat}
/-- Each cut is where a chunk begins, or the chunks end. -/
theorem cut_offs (h1 : 1 ≤ room) {c : Nat} (hc : c ∈ cs) (hn : c ≤ xs.length) : ∃ j, j ≤ (chunkN room cs xs (xs.length + 1)).1.length ∧ offs (chunkN room cs xs (xs.length + 1)).1 j = c := by
  rcases chunk_cut (xs := xs) h1 hc with h0 | ⟨h2, l, hl⟩
  · exact ⟨0, Nat.zero_le _, by rw [offs_zero, h0]⟩
  · obtain ⟨l2, e⟩ := chunk_more (room := room) (cuts := cs) (xs := xs) (c + 1) (xs.length - c)
    rw [show c + 1 + (xs.length - c) = xs.length + 1 by omega] at e
    have hfl := (chunk_flat (room := room) (cuts := cs) (xs := xs) h1 (c + 1) (by omega)).1
    rw [h2] at hfl
    refine ⟨(chunkN room cs xs (c + 1)).1.length, by rw [e, List.length_append]; omega, ?_⟩
    rw [offs, e, List.take_left' rfl, hfl, List.length_take]; omega
/-- Bytes behind change no chunk. -/
theorem chunk_first (ys : List Nat) : ∃ l, (chunkN room cs (xs ++ ys) (xs.length + ys.length + 1)).1 = (chunkN room cs xs (xs.length + 1)).1 ++ l := by
  obtain ⟨l, e⟩ := chunk_more (room := room) (cuts := cs) (xs := xs ++ ys) (xs.length + 1) ys.length
  rw [chunk_behind ys _ (Nat.le_refl _), show xs.length + 1 + ys.length = xs.length + ys.length + 1 by omega] at e
  exact ⟨l, e⟩
theorem chunk_open (h1 : 1 ≤ room) : (chunkN room cs xs (xs.length + 1)).2 ≤ xs.length ∧ xs.length - (chunkN room cs xs (xs.length + 1)).2 < room := by
  obtain ⟨a, b⟩ := chunk_from (room := room) (cuts := cs) (xs := xs) h1 (xs.length + 1)
  omega
end
/-- Cuts counted round, in order. -/
def Rising (n : Nat) (cs : List Nat) (last : Nat) : Prop := (∀ x ∈ cs, x ≤ last) ∧ last ≤ n ∧ ∀ (i j x y : Nat), i ≤ j → cs[i]? = some x → cs[j]? = some y → x ≤ y
theorem Rising.more {n last r : Nat} {cs : List Nat} (h : Rising n cs last) (hr : last + r ≤ n) : Rising n (cs ++ [last + r]) (last + r) := by
  refine ⟨fun x hx => ?_, hr, fun i j x y hij hi hj => ?_⟩
  · rcases List.mem_append.1 hx with hx | hx
    · have := h.1 x hx; omega
    · rw [List.mem_singleton] at hx; omega
  · rcases Nat.lt_or_ge j cs.length with h1 | h1
    · rw [List.getElem?_append_left (by omega)] at hi
      rw [List.getElem?_append_left h1] at hj
      exact h.2.2 i j x y hij hi hj
    · rw [List.getElem?_append_right h1] at hj
      have hy : y = last + r := by
        rcases Nat.eq_zero_or_pos (j - cs.length) with e | e
        · rw [e] at hj; simpa using hj.symm
        · rw [List.getElem?_eq_none (by simp; omega)] at hj; cases hj
      have hx : x ∈ cs ++ [last + r] := List.mem_of_getElem? hi
      rcases List.mem_append.1 hx with hx | hx
      · have := h.1 x hx; omega
      · rw [List.mem_singleton] at hx; omega
/-- Ints of one's own. -/
def OwnI (w : World) (base : Nat) (A : Option Addr) (n c : Nat) (l : List Nat) : Prop := w.ownsRow base 3 1 (.slice A n c) n (l.map fun x : Nat => Value.int .i64 (x : Int))
namespace OwnI
variable {w w' : World} {base n c : Nat} {A : Option Addr} {l : List Nat}
theorem none_ (w : World) (base : Nat) : OwnI w base none 0 0 [] := World.ownsRow_nil w base 3 1
theorem length (h : OwnI w base A n c l) : l.length = n := by have := h.1; simpa using this
theorem rowLe (h : OwnI w base A n c l) : ∀ k, (Value.slice A n c).ownBlock = some k → base ≤ k := fun k hk => (World.ownsRow.lt h k hk).1
theorem keep (h : OwnI w base A n c l) (k : Keep w w') : OwnI w' base A n c l :=
  World.ownsRow.kept h (row := none) ⟨k.os, k.tape, k.output, k.size, fun i hi _ => k.block i hi⟩ (by
    cases hb : (Value.slice A n c).ownBlock with
    | none => exact Or.inl rfl
    | some g => exact Or.inr (by simp))
theorem alloc (h : OwnI w base A n c l) (o : Obj) : OwnI (w.alloc o) base A n c l := World.ownsRow.alloc h o
theorem ints (h : OwnI w base A n c l) : IntsAt w w.heap.size A n (l.map fun x : Nat => (x : Int)) := by
  refine ⟨by rw [List.length_map]; exact h.length, fun hn => ?_⟩
  rcases h.2 with ⟨hv, h0⟩ | ⟨g, cap, cur, hv, hg, hh, _⟩
  · omega
  · injection hv with h1 _ _
    subst h1
    refine ⟨g, 0, rfl, (Array.getElem?_eq_some_iff.1 hh).1, fun i z hz => ?_⟩
    rw [List.getElem?_map] at hz
    cases hx : l[i]? with
    | none => rw [hx] at hz; cases hz
    | some x =>
      rw [hx] at hz
      have hz : (x : Int) = z := by simpa using hz
      subst hz
      have hil : i < l.length := by
        rcases Nat.lt_or_ge i l.length with h1 | h1
        · exact h1
        · rw [List.getElem?_eq_none h1] at hx; cases hx
      have := World.ownsRow.cellAt h i (by have := h.length; omega)
      rw [Nat.zero_add, this, List.getElem?_map, hx]; rfl
end OwnI
section
variable {P : Program}
/-- append(ints, one). -/
theorem run_append_one {w : World} {base n c cx t e : Nat} {A : Option Addr} {l : List Value} {ad : Addr} {x : Int} (ht : P.underlying t = some (.slice e))
    (hi : (P.info? e).map (fun i => (i.zero, i.size, i.bytes)) = some (some (.int .i64 0), 1, 8)) (hown : w.ownsRow base e 1 (.slice A n c) n l) (hx : w.cell? ad = some (.int .i64 x)) (hlen : n ≤ 1000000) (hbase : base ≤ w.heap.size) (ty : TypeId) :
    ∃ A2 c2 w', (Builtin.append_ #[t, t] ty #[.slice A n c, .slice (some ad) 1 cx]).run P w = .ok (.slice A2 (n + 1) c2) w' ∧ w'.ownsRow base e 1 (.slice A2 (n + 1) c2) (n + 1) (l ++ [.int .i64 x]) ∧ w.grownBy w' (Value.slice A n c).ownBlock := by
  obtain ⟨i0, hi0, hz0, hz1, hz2⟩ := info_parts hi
  obtain ⟨v', w', hrun, h2, h3, _, _⟩ := run_append_own_at (P := P) w base t ty e i0 (.int .i64 0) 1 8 ht hi0 hz0 hz1 hz2 rfl (by decide) _ n l hown ad 1 cx [.int .i64 x] rfl
    (fun j u hu => by
      match j, hu with
      | 0, hu =>
        simp at hu
        subst hu
        have ha : ad.add 0 = ad := by unfold Addr.add; split <;> simp_all
        rw [ha]; exact hx)
    (fun u hu => by simp at hu; subst hu; rfl) (by unfold maxLen; omega) (by omega) hbase
  obtain ⟨A2, c2, rfl⟩ := own_shape h2
  exact ⟨A2, c2, w', hrun, h2, h3⟩
theorem wpList_append_one {w : World} {ops : Array Oper} {rest : List Oper} {o : Oper} {a : Act} {Q : Exit → Act → World → Prop} (hgd : o.guard = none) (s x : Operand) (t : TypeId)
    (ho : o.op = .call { callee := .builtin .append, args := #[s, x], argTypes := #[t, t] }) {base n c cx e : Nat} {A : Option Addr} {l : List Value} {ad : Addr} {y : Int} (ht : P.underlying t = some (.slice e))
    (hi : (P.info? e).map (fun i => (i.zero, i.size, i.bytes)) = some (some (.int .i64 0), 1, 8)) (hs : a.eval s = .slice A n c) (hown : w.ownsRow base e 1 (.slice A n c) n l) (hx0 : a.eval x = .slice (some ad) 1 cx) (hx : w.cell? ad = some (.int .i64 y)) (hlen : n ≤ 1000000) (hbase : base ≤ w.heap.size)
    (h : ∀ A2 c2 w', w'.ownsRow base e 1 (.slice A2 (n + 1) c2) (n + 1) (l ++ [.int .i64 y]) → w.grownBy w' (Value.slice A n c).ownBlock → wpList P ops Q rest (a.put o.dst (.slice A2 (n + 1) c2)) w') : wpList P ops Q (o :: rest) a w := by
  refine wpList_plain hgd fun K hK => ?_
  obtain ⟨A2, c2, w', hr, h2, h3⟩ := run_append_one (P := P) (cx := cx) ht hi hown hx hlen hbase o.type
  unfold Oper.wp execOp
  simp only [ho, resolve, invoke, builtin, Sem.run_bind, Sem.run_pure, Result.andThen_ok, List.map_toArray, List.map_cons, List.map_nil, hs, hx0, hr]
  exact hK _ _ (h A2 c2 w' h2 h3)
end
/-- A map of places: those of E hold one. -/
def Ends (w : World) (B n : Nat) (E : Int → Prop) : Prop := ∃ D : DataW Unit, w.ownsMap Try.prog 3 (plainElem Try.prog 3) B n D ∧ IsMap D ∧ ∀ z, E z → D.atKey (.int .i64 z) (.lit (.int .i64 0)) = .lit (.int .i64 1)
theorem law : Keyed Try.prog 3 := int_keyed Try.underlying3
theorem zeroI (w : World) : (zeroValue 3).run Try.prog w = .ok (.int .i64 0) w := by kernel_rfl
theorem Ends.made (w : World) : Ends (w.alloc (.map #[] 0)) w.heap.size 0 (fun _ => False) := ⟨_, World.ownsMap_made _ _ _ _, isMap_empty, fun z h => h.elim⟩
theorem Ends.kept {w w' : World} {B n : Nat} {E : Int → Prop} (h : Ends w B n E) (k : Keep w w') : Ends w' B n E := by
  obtain ⟨D, h1, h2, h3⟩ := h
  exact ⟨D, h1.kept (row := none) ⟨k.os, k.tape, k.output, k.size, fun i hi _ => k.block i hi⟩ (by simp), h2, h3⟩
theorem wf_i64 {z : Int} (h1 : -9223372036854775808 ≤ z) (h2 : z ≤ 9223372036854775807) : (Lit.int .i64 z).wf = true := by
  simpa [Lit.wf, IntKind.min, IntKind.max, IntKind.signed, IntKind.bits] using And.intro h1 h2
end Go.Proofs.Ytcafofffgmaepaa
