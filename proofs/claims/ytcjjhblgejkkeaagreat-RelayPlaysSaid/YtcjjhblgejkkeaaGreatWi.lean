/- A window's numbers, plainly: what is in it, what goes, slots. -/
import Derived.Test.YtcjjhblgejkkeaaGreatMem
import Derived.Test.YtcjjhblgejkkeaaGreatObj
import Derived.Test.YtcjjhblgejkkeaaGreatNew
import Derived.Test.YtcjjhblgejkkeaaGreatMine
import Derived.RangeFuncNested
import Derived.RangeFuncBound
import Derived.RangeFuncCalls
import Derived.RangeFuncLeaves
import Derived.Shelf.Abstract
import Derived.Shelf.RegionOpen
import Derived.OwnWalkIn
import Derived.TacticsInMore
import Derived.LoopNIn
import Derived.LoopIn
namespace Go.Proofs.YtcjjhblgejkkeaaGreat
set_option linter.unusedVariables false
/-- All numbers end here. -/
def topN : Nat := 1099511627776
/-- Where a window of base b and width k ends. -/
def endN (b k : Nat) : Nat := min (b + k) topN
/-- What is in it, rising. -/
def winL (b k : Nat) : List Nat := List.range' b (endN b k - b)
def winIn (b k n : Nat) : Bool := decide (b ≤ n) && decide (n < endN b k)
/-- What is in it, and not in another one of the same width. -/
def winGone (b k c : Nat) : List Nat := (winL b k).filter fun n => !winIn c k n
theorem winL_length (b k : Nat) : (winL b k).length = endN b k - b := by simp [winL]
theorem winL_le (b k : Nat) : (winL b k).length ≤ k := by rw [winL_length, endN]; omega
theorem winL_get (b k i : Nat) (h : i < endN b k - b) : (winL b k)[i]? = some (b + i) := by
  rw [winL, List.getElem?_range' h, Nat.one_mul]
theorem winIn_iff (b k n : Nat) : winIn b k n = true ↔ b ≤ n ∧ n < endN b k := by simp [winIn]
theorem winIn_mem (b k n : Nat) : winIn b k n = decide (n ∈ winL b k) := by
  rw [Bool.eq_iff_iff, winIn_iff, decide_eq_true_eq, winL, List.mem_range'_1]
  omega
theorem winIn_at (b k i : Nat) (h : i < endN b k - b) : winIn b k (b + i) = true := by rw [winIn_iff]; omega
/-- The number behind the first i. -/
theorem first_succ (b i : Nat) : List.range' b (i + 1) = List.range' b i ++ [b + i] := by
  rw [List.range'_concat, Nat.one_mul]
theorem winL_first (b k i : Nat) (h : i ≤ endN b k - b) : (winL b k).take i = List.range' b i := by
  refine List.ext_getElem? fun j => ?_
  rw [winL, List.getElem?_take]
  rcases Nat.lt_or_ge j i with h1 | h1
  · rw [if_pos h1, List.getElem?_range' (by omega), List.getElem?_range' h1]
  · rw [if_neg (by omega), List.getElem?_eq_none (by simpa using h1)]
theorem winL_succ (b i : Nat) (h : b + i < topN) : winL b (i + 1) = winL b i ++ [b + i] := by
  have e1 : endN b (i + 1) - b = i + 1 := by rw [endN]; omega
  have e2 : endN b i - b = i := by rw [endN]; omega
  rw [winL, winL, e1, e2, first_succ]
theorem winL_more (b i : Nat) (h : ¬ b + i < topN) : winL b (i + 1) = winL b i := by
  have e : endN b (i + 1) = endN b i := by rw [endN, endN]; omega
  rw [winL, winL, e]
theorem winL_none (b : Nat) : winL b 0 = [] := by
  have e : endN b 0 - b = 0 := by rw [endN]; omega
  rw [winL, e]; rfl
/-- What has gone of the first i. -/
def goneN (b k c i : Nat) : List Nat := (List.range' b i).filter fun n => !winIn c k n
theorem goneN_zero (b k c : Nat) : goneN b k c 0 = [] := rfl
theorem goneN_in (b k c i : Nat) (h : winIn c k (b + i) = true) : goneN b k c (i + 1) = goneN b k c i := by
  rw [goneN, first_succ, List.filter_append, ← goneN]; simp [h]
theorem goneN_out (b k c i : Nat) (h : winIn c k (b + i) = false) : goneN b k c (i + 1) = goneN b k c i ++ [b + i] := by
  rw [goneN, first_succ, List.filter_append, ← goneN]; simp [h]
theorem goneN_all (b k c : Nat) : goneN b k c (endN b k - b) = winGone b k c := rfl
theorem goneN_le (b k c i : Nat) : (goneN b k c i).length ≤ i := by
  refine Nat.le_trans (List.length_filter_le _ _) ?_
  simp
theorem winGone_le (b k c : Nat) : (winGone b k c).length ≤ k := Nat.le_trans (List.length_filter_le _ _) (winL_le b k)
/-- The number that has gone at i stands where as many have gone before. -/
theorem goneN_get (b k c : Nat) : ∀ (m i : Nat), i < m → winIn c k (b + i) = false → (goneN b k c m)[(goneN b k c i).length]? = some (b + i)
  | 0, i, h, _ => by omega
  | m + 1, i, h, hi => by
    rcases Nat.lt_or_ge i m with h1 | h1
    · have ih := goneN_get b k c m i h1 hi
      cases e : winIn c k (b + m) with
      | true => rw [goneN_in _ _ _ _ e]; exact ih
      | false =>
        rw [goneN_out _ _ _ _ e]
        have hl : (goneN b k c i).length < (goneN b k c m).length := by
          rcases Nat.lt_or_ge (goneN b k c i).length (goneN b k c m).length with h2 | h2
          · exact h2
          · rw [List.getElem?_eq_none h2] at ih; cases ih
        rw [List.getElem?_append_left hl]; exact ih
    · obtain rfl : i = m := by omega
      rw [goneN_out _ _ _ _ hi, List.getElem?_append_right (Nat.le_refl _), Nat.sub_self]; rfl
/-- Slots taken by the first i. -/
def takenL (b k i : Nat) : List Bool := (List.range 16).map fun s => (List.range' b i).any fun n => n % k == s
theorem takenL_length (b k i : Nat) : (takenL b k i).length = 16 := by simp [takenL]
theorem takenL_zero (b k : Nat) : takenL b k 0 = List.replicate 16 false := by
  refine List.ext_getElem? fun s => ?_
  rw [takenL, List.getElem?_map, List.getElem?_replicate]
  rcases Nat.lt_or_ge s 16 with h | h
  · rw [List.getElem?_range h, if_pos h]; rfl
  · rw [if_neg (by omega), List.getElem?_eq_none (by simpa using h)]; rfl
theorem takenL_get (b k i s : Nat) (h : s < 16) : (takenL b k i)[s]? = some ((List.range' b i).any fun n => n % k == s) := by
  rw [takenL, List.getElem?_map, List.getElem?_range h]; rfl
theorem takenL_succ (b k i : Nat) : (takenL b k i).set ((b + i) % k) true = takenL b k (i + 1) := by
  refine List.ext_getElem? fun s => ?_
  rcases Nat.lt_or_ge s 16 with h | h
  · rw [takenL_get _ _ _ _ h, first_succ, List.any_append, List.getElem?_set]
    by_cases e : (b + i) % k = s
    · rw [if_pos e, if_pos (by rw [takenL_length]; omega)]
      simp [e]
    · rw [if_neg e, takenL_get _ _ _ _ h]
      simp [e]
  · rw [List.getElem?_eq_none (by rw [List.length_set, takenL_length]; omega), List.getElem?_eq_none (by rw [takenL_length]; omega)]
theorem takenL_free (b k i : Nat) (hk : i < k) (h16 : k ≤ 16) : (takenL b k i)[(b + i) % k]? = some false := by
  have hm : (b + i) % k < k := Nat.mod_lt _ (by omega)
  rw [takenL_get _ _ _ _ (by omega)]
  congr 1
  rw [Bool.eq_false_iff]
  intro hx
  obtain ⟨n, hn, he⟩ := List.any_eq_true.1 hx
  rw [List.mem_range'_1] at hn
  have he : n % k = (b + i) % k := by simpa using he
  have h1 := Nat.sub_mod_eq_zero_of_mod_eq he.symm
  rw [Nat.mod_eq_of_lt (by omega)] at h1
  omega
theorem winL_nil_of_top (k : Nat) : winL topN k = [] := by
  have e : endN topN k - topN = 0 := by rw [endN]; omega
  rw [winL, e]; rfl
/-- The document's end: the base, and as many as are in. -/
theorem end_count (b k : Nat) (hb : b ≤ topN) : b + (winL b k).length = endN b k := by
  rw [winL_length, endN]; omega
end Go.Proofs.YtcjjhblgejkkeaaGreat
/- Slices of numbers of 64 bits in memory: what they hold, of one's own, as arguments, appended to, written out. -/
namespace Go.Proofs.YtcjjhblgejkkeaaGreat
open Go.RowKit Go.ChangeShapes Go.WideShapes Go.Deep
set_option linter.unusedVariables false
set_option linter.unusedSimpArgs false
/-- A number of 64 bits. -/
def u64 (x : Nat) : Value := Value.int .u64 (x : Int)
/-- A slice of n numbers of 64 bits at A, in blocks of F: they are l. -/
def UsIn (w : World) (F : Nat → Prop) (A : Option Addr) (n : Nat) (l : List Nat) : Prop :=
  l.length = n ∧ (0 < n → ∃ b off, A = some ⟨b, off, none⟩ ∧ F b ∧ b < w.heap.size ∧ ∀ (i x : Nat), l[i]? = some x → w.cell? ⟨b, off + i, none⟩ = some (.int .u64 (x : Int)))
namespace UsIn
variable {w w' : World} {F G : Nat → Prop} {A : Option Addr} {n : Nat} {l : List Nat}
theorem turned (h : UsIn w F A n l) (k : Turned G w w') (hd : ∀ b, F b → ¬ G b) : UsIn w' F A n l := ⟨h.1, fun hn => by
  obtain ⟨b, off, e, hb, hl, hc⟩ := h.2 hn
  exact ⟨b, off, e, hb, Nat.lt_of_lt_of_le hl k.size, fun i x hi => k.cell (hc i x hi) (hd b hb)⟩⟩
theorem keep (h : UsIn w F A n l) (k : Keep w w') : UsIn w' F A n l := h.turned (Turned.of_keep (F := fun _ => False) k) fun _ _ e => e
theorem mono (h : UsIn w F A n l) (hF : ∀ b, F b → b < w.heap.size → G b) : UsIn w G A n l := ⟨h.1, fun hn => by
  obtain ⟨b, off, e, hb, hl, hc⟩ := h.2 hn
  exact ⟨b, off, e, hF b hb hl, hl, hc⟩⟩
theorem any (h : UsIn w F A n l) : UsIn w (fun _ => True) A n l := h.mono fun _ _ _ => trivial
theorem at_ (h : UsIn w F A n l) {i : Nat} (hi : i < n) : ∃ b off x, A = some ⟨b, off, none⟩ ∧ F b ∧ b < w.heap.size ∧ l[i]? = some x ∧ w.cell? ⟨b, off + i, none⟩ = some (.int .u64 (x : Int)) := by
  obtain ⟨b, off, e, hb, hl, hc⟩ := h.2 (by omega)
  have hi' : i < l.length := by rw [h.1]; exact hi
  exact ⟨b, off, l[i], e, hb, hl, List.getElem?_eq_getElem hi', hc i _ (List.getElem?_eq_getElem hi')⟩
theorem nil (w : World) (F : Nat → Prop) (A : Option Addr) : UsIn w F A 0 [] := ⟨rfl, fun h => absurd h (by omega)⟩
end UsIn
/-- Numbers of 64 bits of one's own. -/
def OwnU (w : World) (base : Nat) (A : Option Addr) (n c : Nat) (l : List Nat) : Prop := w.ownsRow base 31 1 (.slice A n c) n (l.map u64)
namespace OwnU
variable {w w' : World} {base n c : Nat} {A : Option Addr} {l : List Nat}
theorem none_ (w : World) (base : Nat) : OwnU w base none 0 0 [] := World.ownsRow_nil w base 31 1
theorem length (h : OwnU w base A n c l) : l.length = n := by have := h.1; simpa using this
theorem rowLe (h : OwnU w base A n c l) : ∀ k, (Value.slice A n c).ownBlock = some k → base ≤ k := fun k hk => (World.ownsRow.lt h k hk).1
theorem keep (h : OwnU w base A n c l) (k : Keep w w') : OwnU w' base A n c l :=
  World.ownsRow.kept h (row := none) ⟨k.os, k.tape, k.output, k.size, fun i hi _ => k.block i hi⟩ (by
    cases hb : (Value.slice A n c).ownBlock with
    | none => exact Or.inl rfl
    | some g => exact Or.inr (by simp))
theorem alloc (h : OwnU w base A n c l) (o : Obj) : OwnU (w.alloc o) base A n c l := World.ownsRow.alloc h o
theorem lower {base' : Nat} (h : OwnU w base A n c l) (hb : base' ≤ base) : OwnU w base' A n c l := by
  refine ⟨h.1, ?_⟩
  rcases h.2 with h1 | ⟨g, cap, cur, hv, hg, r⟩
  · exact Or.inl h1
  · exact Or.inr ⟨g, cap, cur, hv, by omega, r⟩
theorem ins (h : OwnU w base A n c l) : UsIn w (fun b => base ≤ b) A n l := by
  refine ⟨h.length, fun hn => ?_⟩
  rcases h.2 with ⟨hv, h0⟩ | ⟨g, cap, cur, hv, hg, hh, _⟩
  · omega
  · injection hv with h1 _ _
    subst h1
    refine ⟨g, 0, rfl, hg, (Array.getElem?_eq_some_iff.1 hh).1, fun i x hx => ?_⟩
    have hil : i < l.length := by
      rcases Nat.lt_or_ge i l.length with h1 | h1
      · exact h1
      · rw [List.getElem?_eq_none h1] at hx; cases hx
    have := World.ownsRow.cellAt h i (by have := h.length; omega)
    rw [Nat.zero_add, this, List.getElem?_map, hx]; rfl
end OwnU
theorem infoU : (Tryz.prog.info? 31).map (fun i => (i.zero, i.size, i.bytes)) = some (some (.int .u64 0), 1, 8) := by kernel_rfl
section
variable {P : Program}
/-- append(numbers, one). -/
theorem run_append_u {w : World} {base n c cx t e : Nat} {A : Option Addr} {l : List Value} {ad : Addr} {x : Int} (ht : P.underlying t = some (.slice e))
    (hi : (P.info? e).map (fun i => (i.zero, i.size, i.bytes)) = some (some (.int .u64 0), 1, 8)) (hown : w.ownsRow base e 1 (.slice A n c) n l) (hx : w.cell? ad = some (.int .u64 x)) (hlen : n ≤ 1000000) (hbase : base ≤ w.heap.size) (ty : TypeId) :
    ∃ A2 c2 w', (Builtin.append_ #[t, t] ty #[.slice A n c, .slice (some ad) 1 cx]).run P w = .ok (.slice A2 (n + 1) c2) w' ∧ w'.ownsRow base e 1 (.slice A2 (n + 1) c2) (n + 1) (l ++ [.int .u64 x]) ∧ w.grownBy w' (Value.slice A n c).ownBlock := by
  obtain ⟨i0, hi0, hz0, hz1, hz2⟩ := info_parts hi
  obtain ⟨v', w', hrun, h2, h3, _, _⟩ := run_append_own_at (P := P) w base t ty e i0 (.int .u64 0) 1 8 ht hi0 hz0 hz1 hz2 rfl (by decide) _ n l hown ad 1 cx [.int .u64 x] rfl
    (fun j u hu => by
      match j, hu with
      | 0, hu =>
        simp at hu
        subst hu
        have ha : ad.add 0 = ad := by unfold Addr.add; split <;> simp_all
        rw [ha]; exact hx)
    (fun u hu => by simp at hu; subst hu; rfl) (by unfold maxLen; omega) (by omega) hbase
  obtain ⟨A2, c2, rfl⟩ := own_shape h2
  exact ⟨A2, c2, w', hrun, h2, h3⟩
theorem wpList_append_u {w : World} {ops : Array Oper} {rest : List Oper} {o : Oper} {a : Act} {Q : Exit → Act → World → Prop} (hgd : o.guard = none) (s x : Operand) (t : TypeId)
    (ho : o.op = .call { callee := .builtin .append, args := #[s, x], argTypes := #[t, t] }) {base n c cx e : Nat} {A : Option Addr} {l : List Value} {ad : Addr} {y : Int} (ht : P.underlying t = some (.slice e))
    (hi : (P.info? e).map (fun i => (i.zero, i.size, i.bytes)) = some (some (.int .u64 0), 1, 8)) (hs : a.eval s = .slice A n c) (hown : w.ownsRow base e 1 (.slice A n c) n l) (hx0 : a.eval x = .slice (some ad) 1 cx) (hx : w.cell? ad = some (.int .u64 y)) (hlen : n ≤ 1000000) (hbase : base ≤ w.heap.size)
    (h : ∀ A2 c2 w', w'.ownsRow base e 1 (.slice A2 (n + 1) c2) (n + 1) (l ++ [.int .u64 y]) → w.grownBy w' (Value.slice A n c).ownBlock → wpList P ops Q rest (a.put o.dst (.slice A2 (n + 1) c2)) w') : wpList P ops Q (o :: rest) a w := by
  refine wpList_plain hgd fun K hK => ?_
  obtain ⟨A2, c2, w', hr, h2, h3⟩ := run_append_u (P := P) (cx := cx) ht hi hown hx hlen hbase o.type
  unfold Oper.wp execOp
  simp only [ho, resolve, invoke, builtin, Sem.run_bind, Sem.run_pure, Result.andThen_ok, List.map_toArray, List.map_cons, List.map_nil, hs, hx0, hr]
  exact hK _ _ (h A2 c2 w' h2 h3)
end
section
variable {H : Type} {enc : TypeId × Value → H} {P : Program} {W : World}
/-- An argument that is a slice of numbers of 64 bits. -/
theorem arg_us {t e : TypeId} (ht : P.underlying t = some (.slice e)) (he : P.underlying e = some (.int .u64)) (hc : P.cellsOf e = 1) (hb : 1 ≤ P.bytesOf e)
    {ts : List TypeId} {ds : List (DataW H)} (hsz : (DataW.weightsEach P ts ds).all (· ≤ reachBytes) = true) {j : Nat} (hj : ts[j]? = some t) {v : Value} {d : DataW H} {p : List MemPlace} (hd : ds[j]? = some d)
    {base : Nat} (hv : Value.okWide P W .any base t v) (h : DataW.Trod enc P W 0 (fun _ => true) true t v d p) :
    ∃ (A : Option Addr) (n c : Nat) (l : List Nat), v = .slice A n c ∧ UsIn W (fun _ => True) A n l ∧ (∀ z ∈ l, z < 18446744073709551616) ∧ n ≤ 140737488351232 := by
  obtain ⟨A, n, c, rfl⟩ := okWide_slice ht hv
  obtain ⟨fuel, hf⟩ := h
  have hs : ∀ k ∈ d.weights P t, k ≤ reachBytes := fun k hk => by
    have := List.all_eq_true.1 hsz k (DataW.weights_mem_each hj hd k hk)
    simpa using this
  rcases open_ints ht he hc (by simpa [Value.cells] using hf) with ⟨hcs, _⟩ | ⟨a, len, cap, zs, hcs, _, hl, hm, hz, hx, hcell, hwz⟩
  · simp at hcs
    obtain ⟨rfl, rfl, rfl⟩ := hcs
    exact ⟨none, 0, 0, [], rfl, UsIn.nil _ _ _, fun z hz => by simp at hz, by omega⟩
  · simp at hcs
    obtain ⟨rfl, rfl, rfl⟩ := hcs
    have hz' : zs.length = c := by simpa using hz
    simp only [Prod.mk.injEq] at hx
    obtain ⟨hde, _⟩ := hx
    have hr : reachBytes = 140737488351232 := by decide
    have hsz2 : c ≤ reachBytes := by
      have h1 := hs (((lits .u64 (zs.take n) : List (DataW H)).length + (lits .u64 (zs.drop n) : List (DataW H)).length) * P.bytesOf e) (by rw [hde]; simp [DataW.weights, ht])
      simp only [lits, List.length_map, List.length_take, List.length_drop] at h1
      have h2 : c * 1 ≤ (min n zs.length + (zs.length - n)) * P.bytesOf e := Nat.mul_le_mul (by omega) hb
      omega
    refine ⟨some a, n, c, (zs.take n).map Int.toNat, rfl, ⟨by rw [List.length_map, List.length_take]; omega, fun hn => ?_⟩, fun z hz2 => ?_, by omega⟩
    · obtain ⟨b, off, spot⟩ := a
      have h0 := hcell 0 (by omega)
      have hspot : spot = none := by simpa [Addr.add] using World.cell?_spot h0
      subst hspot
      refine ⟨b, off, rfl, trivial, World.block_lt_of_cell? W _ (show W.cell? ⟨b, off, none⟩ = _ by simpa [Addr.add] using h0), fun i x hi => ?_⟩
      rw [List.getElem?_map, List.getElem?_take] at hi
      split at hi
      · rename_i hin
        have h1 := hcell i (by omega)
        have ha : (⟨b, off, none⟩ : Addr).add i = ⟨b, off + i, none⟩ := by unfold Addr.add; split <;> simp_all
        rw [ha] at h1
        rw [h1, List.getD_eq_getElem?_getD]
        have hil : i < zs.length := by omega
        rw [List.getElem?_eq_getElem hil] at hi ⊢
        have hw := bounds_u64 (hwz _ (List.getElem_mem hil))
        have hi : (zs[i]).toNat = x := by simpa using hi
        subst hi
        show some (Value.int .u64 zs[i]) = _
        rw [Int.toNat_of_nonneg hw.1]
      · cases hi
    · obtain ⟨y, hy, rfl⟩ := List.mem_map.1 hz2
      have hw := bounds_u64 (hwz y (List.mem_of_mem_take hy))
      omega
end
end Go.Proofs.YtcjjhblgejkkeaaGreat
/- The landed window: how it lies, and its functions that make no list. -/
namespace Go.Proofs.YtcjjhblgejkkeaaGreat
open Go.RowKit
set_option linter.unusedVariables false
set_option linter.unusedSimpArgs false
/-- A window of width k and base b in block g. -/
structure WinR (w : World) (g k b : Nat) : Prop where
  block : w.heap[g]? = some (.cells #[.int .i64 (k : Int), .int .u64 (b : Int)] 144 (0, 0))
  low : 1 ≤ k
  high : k ≤ 16
  top : b ≤ topN
namespace WinR
variable {w w' : World} {g k b : Nat}
theorem lt (h : WinR w g k b) : g < w.heap.size := (Array.getElem?_eq_some_iff.1 h.block).1
theorem c0 (h : WinR w g k b) : w.cell? ⟨g, 0, none⟩ = some (.int .i64 (k : Int)) := by simp [World.cell?, h.block]
theorem c1 (h : WinR w g k b) : w.cell? ⟨g, 1, none⟩ = some (.int .u64 (b : Int)) := by simp [World.cell?, h.block]
theorem free (h : WinR w g k b) : w.frozen? ⟨g, 1, none⟩ = false := by simp [World.frozen?, h.block]
theorem turned {G : Nat → Prop} (h : WinR w g k b) (t : Turned G w w') (hn : ¬ G g) : WinR w' g k b := ⟨(t.block g h.lt hn).trans h.block, h.low, h.high, h.top⟩
theorem keep (h : WinR w g k b) (t : Keep w w') : WinR w' g k b := ⟨(t.block g h.lt).trans h.block, h.low, h.high, h.top⟩
theorem moved (h : WinR w g k b) {c : Nat} (hc : c ≤ topN) : WinR (w.setCell ⟨g, 1, none⟩ (.int .u64 (c : Int))) g k c :=
  ⟨by simp [World.setCell, Array.getElem?_modify, h.block], h.low, h.high, hc⟩
end WinR
section
variable {g k b : Nat} {w : World}
theorem made_any (h : WinR w g k b) : Calls Tryz.prog 107 #[.pointer (some ⟨g, 0, none⟩)] w fun e w' => e = .returned (.bool true) ∧ w' = w := by
  have c0 := h.c0
  have hk := h.low
  have d : decide (0 < k) = true := decide_eq_true (by omega)
  clear h hk
  go_enter Tryz.func107, Tryz.ntmps107
  go_wp2_with fail
  go_ret
  exact ⟨rfl, rfl⟩
theorem base_any (h : WinR w g k b) : Calls Tryz.prog 81 #[.pointer (some ⟨g, 0, none⟩)] w fun e w' => e = .returned (.int .u64 (b : Int)) ∧ w' = w := by
  have c1 := h.c1
  go_enter Tryz.func81, Tryz.ntmps81
  go_wp2_with fail
  refine (made_any h).mono ?_
  rintro e w1 ⟨rfl, rfl⟩
  go_wp2_with fail
  go_ret
  exact ⟨rfl, rfl⟩
theorem width_any (h : WinR w g k b) : Calls Tryz.prog 71 #[.pointer (some ⟨g, 0, none⟩)] w fun e w' => e = .returned (.int .i64 (k : Int)) ∧ w' = w := by
  have c0 := h.c0
  go_enter Tryz.func71, Tryz.ntmps71
  go_wp2_with fail
  refine (made_any h).mono ?_
  rintro e w1 ⟨rfl, rfl⟩
  go_wp2_with fail
  go_ret
  exact ⟨rfl, rfl⟩
theorem end_any (h : WinR w g k b) : Calls Tryz.prog 109 #[.pointer (some ⟨g, 0, none⟩)] w fun e w' => e = .returned (.int .u64 (endN b k : Int)) ∧ w' = w := by
  have hk := h.high
  have hb := h.top
  unfold topN at hb
  have e1 : IntKind.u64.wrap (k : Int) = (k : Int) := IntWalk.u64_in _ (by omega)
  have e2 : IntKind.u64.wrap ((b : Int) + (k : Int)) = ((b + k : Nat) : Int) := by rw [IntWalk.u64_in _ (by omega)]; omega
  go_enter Tryz.func109, Tryz.ntmps109
  go_wp2_with fail
  refine (base_any h).mono ?_
  rintro e w1 ⟨rfl, rfl⟩
  go_wp2_with fail
  refine (width_any h).mono ?_
  rintro e w1 ⟨rfl, rfl⟩
  go_wp2_with fail
  all_goals go_ret
  · rename_i h1
    exact ⟨by rw [show endN b k = topN by unfold endN topN; omega]; rfl, rfl⟩
  · rename_i h1
    exact ⟨by rw [show endN b k = b + k by unfold endN topN; omega]; rfl, rfl⟩
/-- In. -/
theorem in_any (n : Nat) (hn : n < 18446744073709551616) (h : WinR w g k b) : Calls Tryz.prog 82 #[.pointer (some ⟨g, 0, none⟩), .int .u64 (n : Int)] w fun e w' => e = .returned (.bool (winIn b k n)) ∧ w' = w := by
  by_cases h1 : b ≤ n
  · have d1 : decide ((b : Int) ≤ (n : Int)) = true := decide_eq_true (by omega)
    go_enter Tryz.func82, Tryz.ntmps82
    go_wp2_with fail
    refine (base_any h).mono ?_
    rintro e w1 ⟨rfl, rfl⟩
    go_wp2_with fail
    refine (end_any h).mono ?_
    rintro e w1 ⟨rfl, rfl⟩
    go_wp2_with fail
    go_ret
    exact ⟨by rw [winIn, decide_eq_true h1, Bool.true_and]; rfl, rfl⟩
  · have d1 : decide ((b : Int) ≤ (n : Int)) = false := decide_eq_false (by omega)
    go_enter Tryz.func82, Tryz.ntmps82
    go_wp2_with fail
    refine (base_any h).mono ?_
    rintro e w1 ⟨rfl, rfl⟩
    go_wp2_with fail
    go_ret
    exact ⟨by rw [winIn, decide_eq_false h1, Bool.false_and]; rfl, rfl⟩
/-- Slot. -/
def slotV (b k n : Nat) : Nat := if winIn b k n then n % k else 0
def slotE (b k n : Nat) : Int := if winIn b k n then 0 else 1
theorem slot_any (n : Nat) (hn : n < 18446744073709551616) (h : WinR w g k b) : Calls Tryz.prog 68 #[.pointer (some ⟨g, 0, none⟩), .int .u64 (n : Int)] w fun e w' => e = .returned (.tuple #[.int .i64 (slotV b k n : Int), .int .i64 (slotE b k n)]) ∧ w' = w := by
  have hk := h.high
  have hl := h.low
  have c0 := h.c0
  cases hi : winIn b k n with
  | true =>
    have hm : n % k < k := Nat.mod_lt _ (by omega)
    have e1 : IntKind.u64.wrap (k : Int) = (k : Int) := IntWalk.u64_in _ (by omega)
    have e2 : (n : Int).tmod (k : Int) = ((n % k : Nat) : Int) := by rw [Int.tmod_eq_emod_of_nonneg (by omega)]; rfl
    have e3 : IntKind.u64.wrap ((n % k : Nat) : Int) = ((n % k : Nat) : Int) := IntWalk.u64_in _ (by omega)
    have e4 : IntKind.i64.wrap ((n % k : Nat) : Int) = ((n % k : Nat) : Int) := IntWalk.i64_in _ (by omega)
    have e5 : (k : Int) ≠ 0 := by omega
    go_enter Tryz.func68, Tryz.ntmps68
    go_wp2_with fail
    refine (made_any h).mono ?_
    rintro e w1 ⟨rfl, rfl⟩
    go_wp2_with fail
    refine (in_any n hn h).mono ?_
    rw [hi]
    rintro e w1 ⟨rfl, rfl⟩
    go_wp2_with fail
    go_ret2
    exact ⟨by rw [slotV, slotE, hi]; rfl, rfl⟩
  | false =>
    go_enter Tryz.func68, Tryz.ntmps68
    go_wp2_with fail
    refine (made_any h).mono ?_
    rintro e w1 ⟨rfl, rfl⟩
    go_wp2_with fail
    refine (in_any n hn h).mono ?_
    rw [hi]
    rintro e w1 ⟨rfl, rfl⟩
    go_wp2_with fail
    go_ret2
    exact ⟨by rw [slotV, slotE, hi]; rfl, rfl⟩
theorem copy_any (h : WinR w g k b) : Calls Tryz.prog 66 #[.pointer (some ⟨g, 0, none⟩)] w fun e w' => e = .returned (.pointer (some ⟨w.heap.size, 0, none⟩)) ∧ WinR w' w.heap.size k b ∧ Keep w w' := by
  have c0 := h.c0
  have c1 := h.c1
  go_enter Tryz.func66, Tryz.ntmps66
  go_wp2_with fail
  refine (made_any h).mono ?_
  rintro e w1 ⟨rfl, rfl⟩
  go_wp2_with fail
  go_region
  go_wp2_with fail
  go_ret
  exact ⟨rfl, ⟨heap_alloc_new _ _, h.low, h.high, h.top⟩, ((Keep.refl _).alloc _ _).drew⟩
theorem new_out (k : Int) (h : k < 1 ∨ 16 < k) (w : World) : Calls Tryz.prog 43 #[.int .i64 k] w fun e w' => e = .returned (.tuple #[.pointer none, .int .i64 1]) ∧ w' = w := by
  by_cases h1 : k < 1
  · have b1 : decide (k < 1) = true := decide_eq_true h1
    clear h
    go_enter Tryz.func43, Tryz.ntmps43
    go_wp2_with fail
    go_ret2
    exact ⟨rfl, rfl⟩
  · have h2 : 16 < k := by omega
    have b1 : decide (k < 1) = false := decide_eq_false h1
    clear h
    go_enter Tryz.func43, Tryz.ntmps43
    go_wp2_with fail
    go_ret2
    exact ⟨rfl, rfl⟩
theorem new_in (k : Nat) (h1 : 1 ≤ k) (h2 : k ≤ 16) (w : World) : Calls Tryz.prog 43 #[.int .i64 (k : Int)] w fun e w' => e = .returned (.tuple #[.pointer (some ⟨w.heap.size, 0, none⟩), .int .i64 0]) ∧ WinR w' w.heap.size k 0 ∧ Keep w w' := by
  have b1 : decide ((k : Int) < 1) = false := decide_eq_false (by omega)
  have b2 : ¬ (16 : Int) < (k : Int) := by omega
  go_enter Tryz.func43, Tryz.ntmps43
  go_wp2_with fail
  go_ret2
  exact ⟨rfl, ⟨heap_alloc_new _ _, h1, h2, Nat.zero_le _⟩, (Keep.refl w).alloc _ _⟩
end
end Go.Proofs.YtcjjhblgejkkeaaGreat
/- A range over a method value, whose body goes on to its end: what the walk owes. -/
namespace Go.Proofs.YtcjjhblgejkkeaaGreat
open Go.RowKit
set_option linter.unusedVariables false
section
variable {F : Fence} {n : Nat} {P : Program}
/-- An iterator that hands yield N values, one behind the other; between two rounds it reads what Q says. -/
def Hands (F : Fence) (n : Nat) (P : Program) (gf : FuncId) (r : Value) (enc : Nat → Value) (Q : World → Prop) (N : Nat) : Prop :=
  ∀ (l : Nat) (J : Nat → World → Prop) (W : World), (∀ i W1, J i W1 → Q W1) →
    (∀ i W1, J i W1 → i < N → YieldAt F (n - 1) P l #[enc i] W1 fun e W' => e = .returned (.bool true) ∧ J (i + 1) W') → J 0 W →
    CallsIn F n P gf #[r, .func (.yield l) #[] #[]] W fun e W' => (∃ v, e = .returned v) ∧ J N W'
/-- The statement, where the function is a method value and the body always goes on. -/
theorem wpIn_range_method {g : Operand} {p : Tmp} {assign body : Code} {Q : Exit → Act → World → Prop} {a : Act} {w : World}
    (hro : F.round = none) (hn : 1 ≤ n) {gf : FuncId} {r : Value} (hg : a.eval g = .func (.func gf) #[r] #[]) (hF : F.fn gf) (eg : ∀ args w, (callFunc gf args).run P w = .ok (.enter gf args) w)
    {enc : Nat → Value} {R : World → Prop} {N : Nat} (hseq : Hands F (n - 1) P gf r enc R N)
    (I : Nat → World → Prop) (hR : ∀ i W, I i W → R W) (hI : OwnFrom w.heap.size I) (h0 : I 0 w) (b : Nat → Act)
    (hassign : ∀ (l i : Nat) (W : World) (K : Act → World → Prop), K (b i) W →
      assign.wpIn (F.inRound l) (n - 1 - 1) P (Exit.then K (fun _ _ _ => False)) { tmps := a.tmps.setIfInBounds p (enc i), defers := [] } W)
    (hbody : ∀ (l i : Nat) (W : World), I i W → i < N → w.heap.size ≤ W.heap.size → body.wpIn (F.inRound l) (n - 1 - 1) P (fun e _ W' => e = .normal ∧ KeepsFrom w.heap.size W W' ∧ I (i + 1) W') (b i) W)
    (hdone : ∀ (D : Nat) (W : World), w.heap.size ≤ D → I N W → W.heap[D]? = some (.deferred (some [])) → Q .normal { a with defers := { target := .collected D, args := #[] } :: a.defers } W) :
    (Code.rangeFunc g #[p] assign body).wpIn F n P Q a w := by
  refine wpIn_rangeFunc fun fn hfn => ?_
  rw [hro]
  -- the loop's record, ready, busy or done
  obtain ⟨rec, hrec⟩ : ∃ rec : LoopState → Loop, rec = fun st => { state := st, pending := none, fn, tmps := a.tmps, params := #[p], assign, body, defers := w.heap.size } := ⟨_, rfl⟩
  have hrec' : ∀ st, rec st = { state := st, pending := none, fn, tmps := a.tmps, params := #[p], assign, body, defers := w.heap.size } := fun st => by rw [hrec]
  -- what holds between two rounds
  obtain ⟨J, hJ⟩ : ∃ J : Nat → World → Prop, J = fun i W => I i W ∧ W.heap[w.heap.size + 1]? = some (.loop (rec .ready)) ∧ W.heap[w.heap.size]? = some (.deferred (some [])) := ⟨_, rfl⟩
  -- the world behind the two blocks that the statement lays
  obtain ⟨V, hV⟩ : ∃ V, (w.alloc (.deferred (some []))).alloc (.loop (rec .ready)) = V := ⟨_, rfl⟩
  refine ⟨w.heap.size + 1, [{ target := .collected w.heap.size, args := #[] }], V, { target := .fn (.func gf) #[], args := #[r, .func (.yield (w.heap.size + 1)) #[] #[]] }, V, gf, #[r, .func (.yield (w.heap.size + 1)) #[] #[]], V, ?_, ?_, ?_, ?_, fun _ => hn, ?_⟩
  · rw [← hV, hrec']
    exact run_enterLoop_outer _ _ _ _ _
  · simp only [resolve, hg]
    simp [go_sem]
  · intro f' hf'
    simp [Target.leads] at hf'
    subst hf'
    exact hF
  · simp [invoke, go_sem, eg]
  · have hz : J 0 V := by
      rw [hJ, ← hV]
      refine ⟨hI.alloc _ (hI.alloc _ h0), ?_, ?_⟩
      · have := World.alloc_heap_new (w.alloc (.deferred (some []))) (.loop (rec .ready))
        rw [World.size_alloc] at this
        exact this
      · exact (Below.heap_alloc _ _ _ (by simp)).trans (World.alloc_heap_new w _)
    refine (hseq (w.heap.size + 1) J _ (fun i W h => hR i W (by rw [hJ] at h; exact h.1)) ?_ hz).mono ?_
    · intro i W h hi
      rw [hJ] at h
      obtain ⟨h1, h2, h3⟩ := h
      have hlt := (Array.getElem?_eq_some_iff.1 h2).1
      have hy := run_yield (P := P) (args := #[enc i]) h2 (by rw [hrec']; rfl)
      rw [hrec'] at hy
      refine ⟨fn, a.tmps.setIfInBounds p (enc i), assign, body, by simpa using hy, roundIn_of_wpIn hfn (hassign _ i W _ ?_)⟩
      refine ⟨_, run_beginRound h2 (by rw [hrec']), ?_⟩
      have b1 : (W.putObj (w.heap.size + 1) (.loop { rec .ready with state := .busy })).heap[w.heap.size + 1]? = some (.loop (rec .busy)) := by
        rw [World.putObj_heap_same hlt, hrec', hrec']
      have b2 : (W.putObj (w.heap.size + 1) (.loop { rec .ready with state := .busy })).heap[w.heap.size]? = some (.deferred (some [])) := (World.putObj_heap_other (by omega)).trans h3
      refine wpIn_mono (hbody _ i _ (hI.putObj _ h1 (by omega) h2 rfl) hi (by simp; omega)) ?_
      rintro e a' W' ⟨rfl, k, hi'⟩
      have c1 := k.same _ _ (by omega) b1 rfl
      have c2 := k.same _ _ (Nat.le_refl _) b2 rfl
      refine ⟨_, _, run_endRound none c1, rfl, ?_⟩
      rw [hJ]
      refine ⟨hI.putObj _ hi' (by omega) c1 rfl, ?_, (World.putObj_heap_other (by omega)).trans c2⟩
      rw [World.putObj_heap_same (Array.getElem?_eq_some_iff.1 c1).1, hrec', hrec']; rfl
    · rintro e W ⟨⟨v, rfl⟩, h⟩
      rw [hJ] at h
      obtain ⟨h1, h2, h3⟩ := h
      have he := run_endLoop (P := P) h2 (by rw [hrec']; simp)
      rw [show (rec .ready).pending = none by rw [hrec']] at he
      exact ⟨none, _, he, hdone _ _ (Nat.le_refl _) (hI.putObj _ h1 (by omega) h2 rfl) ((World.putObj_heap_other (by omega)).trans h3)⟩
end
end Go.Proofs.YtcjjhblgejkkeaaGreat
/- The landed window: its numbers handed out, listed, moved. -/
namespace Go.Proofs.YtcjjhblgejkkeaaGreat
open Go.RowKit Go.Shelf
set_option linter.unusedVariables false
set_option linter.unusedSimpArgs false
attribute [local go_sem] Oper.semAt_some
set_option maxRecDepth 100000 in
set_option maxHeartbeats 1000000 in
/-- Numbers hands out what is in. -/
theorem numbers_any (n g k b : Nat) (hn : 1 ≤ n) : Hands Fence.wide n Tryz.prog 108 (.pointer (some ⟨g, 0, none⟩)) (fun i => .int .u64 ((b : Int) + (i : Int))) (fun W => WinR W g k b) (endN b k - b) := by
  intro l J W hQ hY h0
  have hw := hQ _ _ h0
  have hend : endN b k ≤ topN := Nat.min_le_right _ _
  have hbe : b ≤ topN := hw.top
  unfold topN at hend hbe
  refine callsIn_of_wp Tryz.func108 rfl trivial ?_ rfl
  simp only [Tryz.ntmps108, List.size_toArray, List.length_cons, List.length_nil, Nat.reduceAdd, Nat.reduceSub, Array.replicate_succ, Array.replicate_zero, List.push_toArray, List.append_toArray, List.nil_append, List.cons_append]
  gi_wp2_with (refine ⟨trivial, ?_⟩; gi_at_call 81; refine (callsIn_wide.2 (base_any hw)).mono ?_; rintro e w1 ⟨rfl, rfl⟩)
  gi_loopw [4] (fun p wr => ∃ i : Nat, i ≤ endN b k - b ∧ p = .int .u64 ((b : Int) + (i : Int)) ∧ J i wr) (fun p wr => endN b k - (intOf p).toNat)
  case atStart => exact ⟨0, Nat.zero_le _, by simp, h0⟩
  case round =>
    obtain ⟨i, hi, rfl, hJ⟩ := hrel
    have hwr := hQ _ _ hJ
    by_cases hlt : i < endN b k - b
    · have d : decide ((b : Int) + (i : Int) < (endN b k : Int)) = true := decide_eq_true (by omega)
      have d0 : (b : Int) + (i : Int) < (endN b k : Int) := by omega
      have e1 : IntKind.u64.wrap ((b : Int) + (i : Int) + 1) = (b : Int) + (i : Int) + 1 := IntWalk.u64_in _ (by omega)
      obtain ⟨fn, tmps, assign, body, hy, hR⟩ := hY i wr hJ hlt
      gi_wp2_with (refine ⟨trivial, ?_⟩; gi_at_call 109; refine (callsIn_wide.2 (end_any hwr)).mono ?_; rintro e w1 ⟨rfl, rfl⟩)
      refine hR.mono ?_
      rintro e W3 ⟨rfl, hJ3⟩
      gi_wp2
      go_roundw
      case rel => exact ⟨i + 1, by omega, by rw [Int.natCast_add]; simp [Int.add_assoc], hJ3⟩
      case measure => simp only [intOf]; omega
    · have d0 : ¬ (b : Int) + (i : Int) < (endN b k : Int) := by omega
      gi_wp2_with (refine ⟨trivial, ?_⟩; gi_at_call 109; refine (callsIn_wide.2 (end_any hwr)).mono ?_; rintro e w1 ⟨rfl, rfl⟩)
      go_end0
      obtain rfl : i = endN b k - b := by omega
      exact ⟨⟨_, rfl⟩, hJ⟩
theorem u64_first (b i : Nat) : (List.range' b (i + 1)).map u64 = (List.range' b i).map u64 ++ [Value.int .u64 ((b : Int) + (i : Int))] := by
  rw [first_succ, List.map_append]; rfl
theorem u64_gone (b k c i : Nat) (h : winIn c k (b + i) = false) : (goneN b k c (i + 1)).map u64 = (goneN b k c i).map u64 ++ [Value.int .u64 ((b : Int) + (i : Int))] := by
  rw [goneN_out _ _ _ _ h, List.map_append]; rfl
theorem owns_u {w : World} {base n : Nat} {v : Value} {l : List Nat} (h : w.ownsRow base 31 1 v n (l.map u64)) : ∃ A c, v = .slice A n c ∧ OwnU w base A n c l := by
  obtain ⟨A, c, rfl⟩ := own_shape h
  exact ⟨A, c, rfl, h⟩
set_option maxRecDepth 100000 in
set_option maxHeartbeats 2000000 in
/-- All. -/
theorem all_any (g k b : Nat) (w : World) (h : WinR w g k b) :
    Calls Tryz.prog 79 #[.pointer (some ⟨g, 0, none⟩)] w fun e w' => ∃ A n c, e = .returned (.slice A n c) ∧ OwnU w' w.heap.size A n c (winL b k) ∧ Keep w w' := by
  refine (callsIn_wide (n := 5)).1 ?_
  obtain ⟨i0, hi, hz0, hz1, hz2⟩ := info_parts infoU
  have hk := h.high
  have hN : endN b k - b ≤ 16 := by have := winL_le b k; rw [winL_length] at this; omega
  refine callsIn_of_wp_marks Tryz.func79 rfl trivial ?_ rfl
  simp only [Tryz.ntmps79, List.size_toArray, List.length_cons, List.length_nil, Nat.reduceAdd, Nat.reduceSub, Array.replicate_succ, Array.replicate_zero, List.push_toArray, List.append_toArray, List.nil_append, List.cons_append]
  gi_wp2
  have bO := Boxed.new w 121 (.slice none 0 0)
  have hB0 : Below w.heap.size w (w.alloc (.cells #[.slice none 0 0] 121)) := (Below.refl _ w).alloc (Nat.le_refl _) _
  refine wpIn_range_method rfl (by omega) (gf := 108) (r := .pointer (some ⟨g, 0, none⟩)) rfl trivial (enters_of Tryz.func108 (by kernel_rfl) rfl) (numbers_any _ g k b (by omega))
    (fun i W => (∃ v, Boxed W w.heap.size 121 v ∧ W.ownsRow w.heap.size 31 1 v i ((List.range' b i).map u64) ∧ True) ∧ Below w.heap.size w W)
    (fun i W hI => h.keep hI.2)
    ?own
    ⟨⟨_, bO, World.ownsRow_nil _ _ _ _, trivial⟩, hB0⟩
    (fun i => { tmps := #[.pointer (some ⟨g, 0, none⟩), undef, .slice none 0 0, .pointer (some ⟨w.heap.size, 0, none⟩), .int .u64 ((b : Int) + (i : Int)), .pointer (some ⟨g, 0, none⟩), .func (.func 108) #[.pointer (some ⟨g, 0, none⟩)] #[], .int .u64 ((b : Int) + (i : Int)), undef, undef, undef, undef, undef], defers := [] }) ?assign ?body ?done
  case own => exact OwnFrom.and (Own.from (holdsRow_own w.heap.size w.heap.size 121 31 1 (fun i => i) (fun i => (List.range' b i).map u64) (fun _ _ => True)) _) (ownFrom_below (Nat.le_refl _) (by simp))
  case assign =>
    intro l i W K hK
    gi_wp2
    exact hK
  case body =>
    rintro l i W ⟨⟨v, hv, hrow, _⟩, hB⟩ hlt hge
    have hc := hv.cell
    gi_wp2_with (gi_at_builtin; refine wpListIn_append_own _ rfl _ _ 121 rfl w.heap.size 31 i0 (.int .u64 0) 1 8 Tryz.underlying121 hi hz0 hz1 hz2 rfl (by decide) _ _ _ rfl (hrow.alloc _) ⟨W.heap.size, 0, none⟩ 1 1 [.int .u64 ((b : Int) + (i : Int))] rfl rfl (cell_one_new _ _ _) (by simp [Value.oneCell']) (by unfold maxLen; omega) (by omega) (by have := hB.size; simp; omega) ?_; intro v' w1 hown' hgrow _; obtain ⟨g', cap', rfl⟩ := ownsRow_succ hown'; obtain ⟨hv1, hv2, hr2, hk2, hb2⟩ := hv.appended (by decide) hrow hB.size (Nat.le_refl _) hown' hgrow; have hc1 := hv1.cell; have hf1 := hv1.frozen)
    exact ⟨hk2.from _, ⟨_, hv2, by rw [u64_first]; exact hr2⟩, hB.trans hb2⟩
  case done =>
    rintro D W hD ⟨⟨v, hv, hrow, _⟩, hB⟩ hK
    obtain ⟨A, c, rfl, hown⟩ := owns_u hrow
    have hc := hv.cell
    gi_wp2
    refine ⟨by simp, .inl ⟨_, _, rfl, run_takeDeferred hK, ?_⟩⟩
    exact ⟨_, results_tmp rfl _ _ _, A, _, c, rfl, ownsRow_putObj hrow _ hK rfl, hB.trans (belowK_b (w := w) (Nat.le_refl _) W D _ _ (by simp at hD; omega) hK rfl rfl)⟩
end Go.Proofs.YtcjjhblgejkkeaaGreat
/- The landed window: Move. -/
namespace Go.Proofs.YtcjjhblgejkkeaaGreat
open Go.RowKit Go.Shelf
set_option linter.unusedVariables false
set_option linter.unusedSimpArgs false
attribute [local go_sem] Oper.semAt_some
theorem winR_own {β : Type} (g k b : Nat) : Go.Own (fun (_ : β) W => WinR W g k b) := fun s X Y row hs hg hrow =>
  ⟨(hg.block g hs.lt (fun e => by obtain ⟨o, ho, hc⟩ := hrow g e.symm; rw [hs.block] at ho; cases ho; cases hc)).trans hs.block, hs.low, hs.high, hs.top⟩
theorem WinR.not_row {W : World} {g k b base n : Nat} {v : Value} {xs : List Value} (h : WinR W g k b) (hr : W.ownsRow base 31 1 v n xs) : some g ≠ v.ownBlock := by
  rcases hr.2 with ⟨rfl, _⟩ | ⟨q, cap, cur, rfl, _, hgb, _⟩
  · simp [Value.ownBlock]
  · intro e
    obtain rfl : g = q := by simpa [Value.ownBlock] using e
    have := h.block.symm.trans hgb
    simp at this
theorem WinR.appended {W w1 : World} {g k b base n B : Nat} {v u : Value} {xs : List Value} {o : Obj} (h : WinR W g k b) (hr : W.ownsRow base 31 1 v n xs) (hg : (W.alloc o).grownBy w1 v.ownBlock) (hne : g ≠ B) : WinR (w1.setCell ⟨B, 0, none⟩ u) g k b := by
  have h1 : (W.alloc o).heap[g]? = W.heap[g]? := Below.heap_alloc W o g h.lt
  have h2 := hg.block g (by rw [World.size_alloc]; have := h.lt; omega) (h.not_row hr)
  exact ⟨(Below.heap_setCell _ _ _ _ hne).trans (h2.trans (h1.trans h.block)), h.low, h.high, h.top⟩
section
variable {g k b : Nat} {w : World}
theorem move_out (c : Nat) (hc : topN < c) (h : WinR w g k b) :
    Calls Tryz.prog 67 #[.pointer (some ⟨g, 0, none⟩), .int .u64 (c : Int)] w fun e w' => e = .returned (.tuple #[.slice none 0 0, .int .i64 1]) ∧ w' = w := by
  unfold topN at hc
  have d : (1099511627776 : Int) < (c : Int) := by omega
  go_enter Tryz.func67, Tryz.ntmps67
  go_wp2_with fail
  refine (made_any h).mono ?_
  rintro e w1 ⟨rfl, rfl⟩
  go_wp2_with fail
  go_ret2
  exact ⟨rfl, rfl⟩
set_option maxRecDepth 100000 in
set_option maxHeartbeats 4000000 in
theorem move_in (c : Nat) (hc : c ≤ topN) (h : WinR w g k b) :
    Calls Tryz.prog 67 #[.pointer (some ⟨g, 0, none⟩), .int .u64 (c : Int)] w fun e w' => ∃ A n q, e = .returned (.tuple #[.slice A n q, .int .i64 0]) ∧ OwnU w' w.heap.size A n q (winGone b k c) ∧ WinR w' g k c ∧ Turned (fun x => x = g) w w' := by
  have hc2 := hc
  unfold topN at hc2
  have hbe := h.top
  unfold topN at hbe
  have d : ¬ (1099511627776 : Int) < (c : Int) := by omega
  refine (callsIn_wide (n := 5)).1 ?_
  obtain ⟨i0, hi, hz0, hz1, hz2⟩ := info_parts infoU
  have hk := h.high
  have hN : endN b k - b ≤ 16 := by have := winL_le b k; rw [winL_length] at this; omega
  have c0 := h.c0
  have hlt := h.lt
  refine callsIn_of_wp_marks Tryz.func67 rfl trivial ?_ rfl
  simp only [Tryz.ntmps67, List.size_toArray, List.length_cons, List.length_nil, Nat.reduceAdd, Nat.reduceSub, Array.replicate_succ, Array.replicate_zero, List.push_toArray, List.append_toArray, List.nil_append, List.cons_append]
  gi_wp2_with (refine ⟨trivial, ?_⟩; gi_at_call 107; refine (callsIn_wide.2 (made_any h)).mono ?_; rintro e w1 ⟨rfl, rfl⟩)
  obtain ⟨V, hV⟩ : ∃ V, (((w1.alloc (.cells #[.int .i64 (k : Int), .int .u64 (c : Int)] 144)).alloc (.cells #[.pointer (some ⟨w1.heap.size, 0, none⟩)] 85)).alloc (.cells #[.slice none 0 0] 121)) = V := ⟨_, rfl⟩
  have hsz : V.heap.size = w1.heap.size + 3 := by rw [← hV]; simp
  have hK : Keep w1 V := by rw [← hV]; exact (((Keep.refl w1).alloc _ _).alloc _ _).alloc _ _
  have hM : WinR V w1.heap.size k c := by
    have h0 : WinR (w1.alloc (.cells #[.int .i64 (k : Int), .int .u64 (c : Int)] 144)) w1.heap.size k c := ⟨heap_alloc_new _ _, h.low, h.high, hc⟩
    rw [← hV]; exact (h0.keep ((Keep.refl _).alloc _ _)).keep ((Keep.refl _).alloc _ _)
  have hP : Boxed V (w1.heap.size + 1) 85 (.pointer (some ⟨w1.heap.size, 0, none⟩)) := by
    have h0 := Boxed.new (w1.alloc (.cells #[.int .i64 (k : Int), .int .u64 (c : Int)] 144)) 85 (.pointer (some ⟨w1.heap.size, 0, none⟩))
    rw [World.size_alloc] at h0
    rw [← hV]; exact h0.alloc _
  have hO : Boxed V (w1.heap.size + 1 + 1) 121 (.slice none 0 0) := by
    have h0 := Boxed.new ((w1.alloc (.cells #[.int .i64 (k : Int), .int .u64 (c : Int)] 144)).alloc (.cells #[.pointer (some ⟨w1.heap.size, 0, none⟩)] 85)) 121 (.slice none 0 0)
    rw [World.size_alloc, World.size_alloc] at h0
    rw [← hV]; exact h0
  rw [hV]
  clear hV
  refine wpIn_range_method rfl (by omega) (gf := 108) (r := .pointer (some ⟨g, 0, none⟩)) rfl trivial (enters_of Tryz.func108 (by kernel_rfl) rfl) (numbers_any _ g k b (by omega))
    (fun i W => ((∃ v, Boxed W (w1.heap.size + 1 + 1) 121 v ∧ W.ownsRow w1.heap.size 31 1 v (goneN b k c i).length ((goneN b k c i).map u64) ∧ True) ∧ Boxed W (w1.heap.size + 1) 85 (.pointer (some ⟨w1.heap.size, 0, none⟩)) ∧ WinR W w1.heap.size k c) ∧ Below w1.heap.size w1 W)
    (fun i W hI => h.keep hI.2)
    ?own
    ⟨⟨⟨_, hO, World.ownsRow_nil _ _ _ _, trivial⟩, hP, hM⟩, hK⟩
    (fun i => { tmps := #[.pointer (some ⟨g, 0, none⟩), .int .u64 (c : Int), undef, undef, .slice none 0 0, .int .i64 0, .pointer (some ⟨w1.heap.size + 1, 0, none⟩), .pointer (some ⟨w1.heap.size + 1 + 1, 0, none⟩), .int .u64 ((b : Int) + (i : Int)), .pointer (some ⟨g, 0, none⟩), .bool true, .bool false, .int .u64 (c : Int), .bool (decide (1099511627776 < (c : Int))), .pointer (some ⟨g, 0, none⟩), .pointer (some ⟨g, 0, none⟩), .pointer (some ⟨g, 0, none⟩), .int .i64 (k : Int), .int .u64 (c : Int), .agg #[.int .i64 (k : Int), .int .u64 (c : Int)], .pointer (some ⟨w1.heap.size, 0, none⟩), .pointer (some ⟨g, 0, none⟩), .func (.func 108) #[.pointer (some ⟨g, 0, none⟩)] #[], .int .u64 ((b : Int) + (i : Int)), undef, undef, undef, undef, undef, undef, undef, undef, undef, undef, undef, undef, undef], defers := [] }) ?assign ?body ?done
  case own =>
    refine OwnFrom.and (OwnFrom.and (Own.from (holdsRow_own w1.heap.size (w1.heap.size + 1 + 1) 121 31 1 (fun i => (goneN b k c i).length) (fun i => (goneN b k c i).map u64) (fun _ _ => True)) _) (OwnFrom.and (Own.from (boxed_own _ _ _) _) (Own.from (winR_own _ _ _) _))) (ownFrom_below (Nat.le_refl _) (by omega))
  case assign =>
    intro l i W K hK
    gi_wp2
    exact hK
  case body =>
    rintro l i W ⟨⟨⟨v, hv, hrow, _⟩, hp, hm⟩, hB⟩ hlt hge
    have cv := hv.cell
    have cp := hp.cell
    have hnx : b + i < 18446744073709551616 := by
      have : endN b k ≤ topN := Nat.min_le_right _ _
      unfold topN at this
      omega
    have hin := in_any (b + i) hnx hm
    rw [Int.natCast_add] at hin
    have hgl := goneN_le b k c i
    cases hi2 : winIn c k (b + i) with
    | true =>
      rw [hi2] at hin
      gi_wp2_with (refine ⟨trivial, ?_⟩; gi_at_call 82; refine (CallsIn.inRound l (callsIn_wide.2 hin)).mono ?_; rintro e w2 ⟨rfl, rfl⟩)
      exact ⟨KeepsFrom.refl _ _, v, hv, by rw [goneN_in _ _ _ _ hi2]; exact hrow⟩
    | false =>
      rw [hi2] at hin
      gi_wp2_with first
        | (refine ⟨trivial, ?_⟩; gi_at_call 82; refine (CallsIn.inRound l (callsIn_wide.2 hin)).mono ?_; rintro e w2 ⟨rfl, rfl⟩)
        | (gi_at_builtin; refine wpListIn_append_own _ rfl _ _ 121 rfl w1.heap.size 31 i0 (.int .u64 0) 1 8 Tryz.underlying121 hi hz0 hz1 hz2 rfl (by decide) _ _ _ rfl (hrow.alloc _) ⟨w2.heap.size, 0, none⟩ 1 1 [.int .u64 ((b : Int) + (i : Int))] rfl rfl (cell_one_new _ _ _) (by simp [Value.oneCell']) (by unfold maxLen; omega) (by omega) (by have := hB.size; simp; omega) ?_; intro v' w3 hown' hgrow _; obtain ⟨g', cap', rfl⟩ := ownsRow_succ hown'; obtain ⟨hv1, hv2, hr2, hk2, hb2⟩ := hv.appended (by decide) hrow hB.size (by omega) hown' hgrow; have hc1 := hv1.cell; have hf1 := hv1.frozen)
      have hpk : Boxed (w3.setCell ⟨w1.heap.size + 1 + 1, 0, none⟩ (.slice (some ⟨g', 0, none⟩) ((goneN b k c i).length + 1) cap')) (w1.heap.size + 1) 85 (.pointer (some ⟨w1.heap.size, 0, none⟩)) :=
        Boxed.other ((hp.alloc _).kept hgrow (hp.not_row (by decide) hrow)) (by omega) _
      have hmk : WinR (w3.setCell ⟨w1.heap.size + 1 + 1, 0, none⟩ (.slice (some ⟨g', 0, none⟩) ((goneN b k c i).length + 1) cap')) w1.heap.size k c := hm.appended hrow hgrow (by omega)
      exact ⟨hk2.from _, ⟨⟨_, hv2, by rw [u64_gone _ _ _ _ hi2, goneN_out _ _ _ _ hi2, List.length_append]; exact hr2⟩, hpk, hmk⟩, hB.trans hb2⟩
  case done =>
    rintro D W hD ⟨⟨⟨v, hv, hrow, _⟩, hp, hm⟩, hB⟩ hK
    obtain ⟨A, q, rfl, hown⟩ := owns_u hrow
    have cv := hv.cell
    have hw := h.keep hB
    have cf := hw.free
    have cg := hw.c1
    have hne : g ≠ w1.heap.size + 1 + 1 := by omega
    have ht : Turned (fun x => x = g) W (W.setCell ⟨g, 1, none⟩ (.int .u64 (c : Int))) := Turned.set (F := fun x => x = g) _ _ _ rfl
    have cv2 : (W.setCell ⟨g, 1, none⟩ (.int .u64 (c : Int))).cell? ⟨w1.heap.size + 1 + 1, 0, none⟩ = some (.slice A (goneN b k c (endN b k - b)).length q) := ht.cell cv (show ¬ (w1.heap.size + 1 + 1 = g) by omega)
    gi_wp2
    refine ⟨by simp, .inl ⟨_, _, rfl, run_takeDeferred (ht.block D (Array.getElem?_eq_some_iff.1 hK).1 (show ¬ (D = g) by omega) |>.trans hK), ?_⟩⟩
    have hz : (W.setCell ⟨g, 1, none⟩ (.int .u64 (c : Int))).heap.size = W.heap.size := by simp [World.setCell]
    have hDl := (Array.getElem?_eq_some_iff.1 hK).1
    have hKs : (W.setCell ⟨g, 1, none⟩ (.int .u64 (c : Int))).heap[D]? = some (.deferred (some [])) := (ht.block D hDl (show ¬ (D = g) by omega)).trans hK
    have tw : Turned (fun x => x = g) w1 ((W.setCell ⟨g, 1, none⟩ (.int .u64 (c : Int))).putObj D (.deferred none)) := by
      refine ((Turned.of_keep (F := fun x => x = g) hB).trans ht fun i e => Or.inl e).trans (Turned.of_grown (F := fun x => x = D) (grownBy_putObj' _ D (.deferred none)) fun i e => by cases e; rfl) fun i e => Or.inr ?_
      have e : i = D := e
      omega
    have ho : OwnU (W.setCell ⟨g, 1, none⟩ (.int .u64 (c : Int))) w1.heap.size A _ q (goneN b k c (endN b k - b)) := ht.owns hown fun x hx e => by
      have := hown.rowLe x hx
      omega
    have hm2 := hw.moved hc
    exact ⟨_, results_tmp2 rfl _ _ _, A, _, q, rfl, ownsRow_putObj ho _ hKs rfl, ⟨(World.putObj_heap_other (by omega)).trans hm2.block, hm2.low, hm2.high, hm2.top⟩, tw⟩
end
end Go.Proofs.YtcjjhblgejkkeaaGreat
