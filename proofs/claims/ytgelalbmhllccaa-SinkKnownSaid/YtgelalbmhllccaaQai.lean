/- The landed relay: a place emptied, Clear, New. -/
import Derived.Test.YtgelalbmhllccaaQah
import Derived.Test.YtgelalbmhllccaaQab
import Derived.Test.YtgelalbmhllccaaQae
import Derived.RowKit3
import Derived.Test.YtgelalbmhllccaaQaf
import Derived.Deep.DeepCutAuto
import Derived.Deep.CutBlock
import Derived.Test.YtgelalbmhllccaaQaa
import Derived.Test.YtgelalbmhllccaaQag
import Derived.BigQuiet
import Derived.Test.YtgelalbmhllccaaQac
namespace Go.Proofs.Ytgelalbmhllccaa
open Go.RowKit Lin
set_option linter.unusedVariables false
set_option linter.unusedSimpArgs false
section
variable {w : World} {p wb g s : Nat} {S : List Slot}
set_option maxRecDepth 100000 in
theorem rempty_any (h : RelC w p wb g s S) (hwb : wb < w.heap.size) (i : Nat) (hi : i < 16) :
    Calls Try.prog 26 #[.pointer (some ⟨p, 0, none⟩), .int .i64 (i : Int)] w fun e w' => e = .returned (.tuple #[]) ∧ ∃ q F', RelC w' p wb g s (S.set i ⟨some q, F', []⟩) ∧ (∀ j, F' j → w.heap.size ≤ j) ∧ Turned (fun j => j = p) w w' := by
  have x1 := h.c1
  have x2 := h.c2
  obtain ⟨x, hx⟩ : ∃ x, S[i]? = some x := ⟨_, List.getElem?_eq_getElem (by rw [h.len]; exact hi)⟩
  have H := Lib.hid h
  have HWB := Lib.hid hwb
  clear h hwb
  go_enter Try.func26, Try.ntmps26
  refine wp_region_noPanic ?_
  refine wp_region_held_drew (S := fun wz => wz.cell? ⟨p, 1, none⟩ = some (.int .i64 (g : Int)) ∧ wz.cell? ⟨p, 2, none⟩ = some (.int .i64 (s : Int))) (by kernel_rfl) ⟨x1, x2⟩ (fun hHeld => ?_)
  refine wpAnyH_take (i := 0) (v := ?_) rfl (by kernel_rfl) (by kernel_rfl) (by kernel_rfl) (fun _ _ _ h => h) (Or.inl ⟨by rfl, ?_⟩) hHeld ?_
  rotate_left
  · intro wq hSw
    go_simp
    all_goals with_reducible rfl
  try simp only [Act.put, List.getElem_toArray, List.getElem_cons_succ, List.getElem_cons_zero, List.setIfInBounds_toArray, List.set_cons_zero, List.set_cons_succ]
  refine wpAnyH_take (i := 1) (v := ?_) rfl (by kernel_rfl) (by kernel_rfl) (by kernel_rfl) (fun _ _ _ h => h) (Or.inl ⟨by rfl, ?_⟩) hHeld ?_
  rotate_left
  · intro wq hSw
    go_simp
    all_goals with_reducible rfl
  try simp only [Act.put, List.getElem_toArray, List.getElem_cons_succ, List.getElem_cons_zero, List.setIfInBounds_toArray, List.set_cons_zero, List.set_cons_succ]
  refine wpAnyH_take (i := 2) (v := ?_) rfl (by kernel_rfl) (by kernel_rfl) (by kernel_rfl) (fun _ _ _ h => h) (Or.inl ⟨by rfl, ?_⟩) hHeld ?_
  rotate_left
  · intro wq hSw
    go_simp
    all_goals with_reducible rfl
  try simp only [Act.put, List.getElem_toArray, List.getElem_cons_succ, List.getElem_cons_zero, List.setIfInBounds_toArray, List.set_cons_zero, List.set_cons_succ]
  refine wpAnyH_take (i := 3) (v := ?_) rfl (by kernel_rfl) (by kernel_rfl) (by kernel_rfl) (fun _ _ _ h => h) (Or.inl ⟨by rfl, ?_⟩) hHeld ?_
  rotate_left
  · intro wq hSw
    go_simp
    all_goals with_reducible rfl
  try simp only [Act.put, List.getElem_toArray, List.getElem_cons_succ, List.getElem_cons_zero, List.setIfInBounds_toArray, List.set_cons_zero, List.set_cons_succ]
  refine wpAnyH_take (i := 4) (v := ?_) rfl (by kernel_rfl) (by kernel_rfl) (by kernel_rfl) (fun _ _ _ h => h) (Or.inl ⟨by rfl, ?_⟩) hHeld ?_
  rotate_left
  · intro wq hSw
    go_simp
    all_goals with_reducible rfl
  try simp only [Act.put, List.getElem_toArray, List.getElem_cons_succ, List.getElem_cons_zero, List.setIfInBounds_toArray, List.set_cons_zero, List.set_cons_succ]
  refine wpAnyH_take (i := 5) (v := ?_) rfl (by kernel_rfl) (by kernel_rfl) (by kernel_rfl) (fun _ _ _ h => h) (Or.inl ⟨by rfl, ?_⟩) hHeld ?_
  rotate_left
  · intro wq hSw
    have q0 := hSw.1
    go_simp
    all_goals with_reducible rfl
  try simp only [Act.put, List.getElem_toArray, List.getElem_cons_succ, List.getElem_cons_zero, List.setIfInBounds_toArray, List.set_cons_zero, List.set_cons_succ]
  refine wpAnyH_take (i := 6) (v := ?_) rfl (by kernel_rfl) (by kernel_rfl) (by kernel_rfl) (fun _ _ _ h => h) (Or.inl ⟨by rfl, ?_⟩) hHeld ?_
  rotate_left
  · intro wq hSw
    go_simp
    all_goals with_reducible rfl
  try simp only [Act.put, List.getElem_toArray, List.getElem_cons_succ, List.getElem_cons_zero, List.setIfInBounds_toArray, List.set_cons_zero, List.set_cons_succ]
  refine wpAnyH_take (i := 7) (v := ?_) rfl (by kernel_rfl) (by kernel_rfl) (by kernel_rfl) (fun _ _ _ h => h) (Or.inl ⟨by rfl, ?_⟩) hHeld ?_
  rotate_left
  · intro wq hSw
    go_simp
    all_goals with_reducible rfl
  try simp only [Act.put, List.getElem_toArray, List.getElem_cons_succ, List.getElem_cons_zero, List.setIfInBounds_toArray, List.set_cons_zero, List.set_cons_succ]
  refine wpAnyH_take (i := 8) (v := ?_) rfl (by kernel_rfl) (by kernel_rfl) (by kernel_rfl) (fun _ _ _ h => h) (Or.inl ⟨by rfl, ?_⟩) hHeld ?_
  rotate_left
  · intro wq hSw
    go_simp
    all_goals with_reducible rfl
  try simp only [Act.put, List.getElem_toArray, List.getElem_cons_succ, List.getElem_cons_zero, List.setIfInBounds_toArray, List.set_cons_zero, List.set_cons_succ]
  refine wpAnyH_take (i := 9) (v := ?_) rfl (by kernel_rfl) (by kernel_rfl) (by kernel_rfl) (fun _ _ _ h => h) (Or.inl ⟨by rfl, ?_⟩) hHeld ?_
  rotate_left
  · intro wq hSw
    have q0 := hSw.2
    go_simp
    all_goals with_reducible rfl
  try simp only [Act.put, List.getElem_toArray, List.getElem_cons_succ, List.getElem_cons_zero, List.setIfInBounds_toArray, List.set_cons_zero, List.set_cons_succ]
  refine wpAnyH_take (i := 14) (v := ?_) rfl (by kernel_rfl) (by kernel_rfl) (by kernel_rfl) (fun _ _ _ h => h) (Or.inl ⟨by rfl, ?_⟩) hHeld ?_
  rotate_left
  · intro wq hSw
    go_simp
    all_goals with_reducible rfl
  try simp only [Act.put, List.getElem_toArray, List.getElem_cons_succ, List.getElem_cons_zero, List.setIfInBounds_toArray, List.set_cons_zero, List.set_cons_succ]
  refine wpAnyH_take (i := 15) (v := ?_) rfl (by kernel_rfl) (by kernel_rfl) (by kernel_rfl) (fun _ _ _ h => h) (Or.inl ⟨by rfl, ?_⟩) hHeld ?_
  rotate_left
  · intro wq hSw
    go_simp
    all_goals with_reducible rfl
  try simp only [Act.put, List.getElem_toArray, List.getElem_cons_succ, List.getElem_cons_zero, List.setIfInBounds_toArray, List.set_cons_zero, List.set_cons_succ]
  refine wpAnyH_ready (rs := [10]) (by kernel_rfl) (by simp) ?_
  refine AllReadyH.cons rfl (fun K hK => ?_) AllReadyH.nil
  go_simp
  refine (bnew_in g s H.out.g1 H.out.g2 H.out.s1 H.out.s2 _).mono ?_
  rintro e w1 ⟨q, F', rfl, hb, hf, hk⟩
  have hk1 : Keep w w1 := (Keep.drew (Keep.refl w)).trans hk
  have hf1 : ∀ j, F' j → w.heap.size ≤ j := hf
  have HB := Lib.hid hb
  have HK := Lib.hid hk1
  have HF := Lib.hid hf1
  have z1 : w1.cell? ⟨p, 1, none⟩ = some (.int .i64 (g : Int)) := (H.out.keep hk1).c1
  have z2 : w1.cell? ⟨p, 2, none⟩ = some (.int .i64 (s : Int)) := (H.out.keep hk1).c2
  clear hb hf hk hk1 hf1
  refine hK.out _ _ ⟨z1, z2⟩ (fun hHeld => ?_)
  clear hK K
  try simp only [Act.put, List.getElem_toArray, List.getElem_cons_succ, List.getElem_cons_zero, List.setIfInBounds_toArray, List.set_cons_zero, List.set_cons_succ]
  refine wpAnyH_take (i := 11) (v := ?_) rfl (by kernel_rfl) (by kernel_rfl) (by kernel_rfl) (fun _ _ _ h => h) (Or.inl ⟨by rfl, ?_⟩) hHeld ?_
  rotate_left
  · intro wq hSw
    go_simp
    all_goals with_reducible rfl
  try simp only [Act.put, List.getElem_toArray, List.getElem_cons_succ, List.getElem_cons_zero, List.setIfInBounds_toArray, List.set_cons_zero, List.set_cons_succ]
  refine wpAnyH_take (i := 12) (v := ?_) rfl (by kernel_rfl) (by kernel_rfl) (by kernel_rfl) (fun _ _ _ h => h) (Or.inl ⟨by rfl, ?_⟩) hHeld ?_
  rotate_left
  · intro wq hSw
    go_simp
    all_goals with_reducible rfl
  try simp only [Act.put, List.getElem_toArray, List.getElem_cons_succ, List.getElem_cons_zero, List.setIfInBounds_toArray, List.set_cons_zero, List.set_cons_succ]
  refine wpAnyH_take (i := 13) (v := ?_) rfl (by kernel_rfl) (by kernel_rfl) (by kernel_rfl) (fun _ _ _ h => h) (Or.inl ⟨by rfl, ?_⟩) hHeld ?_
  rotate_left
  · intro wq hSw
    go_simp
    all_goals with_reducible rfl
  try simp only [Act.put, List.getElem_toArray, List.getElem_cons_succ, List.getElem_cons_zero, List.setIfInBounds_toArray, List.set_cons_zero, List.set_cons_succ]
  refine wpAnyH_take (i := 16) (v := ?_) rfl (by kernel_rfl) (by kernel_rfl) (by kernel_rfl) (fun _ _ _ h => h) (Or.inl ⟨by rfl, ?_⟩) hHeld ?_
  rotate_left
  · intro wq hSw
    have q0 := (show (i : Int) < 16 by omega)
    go_simp
    all_goals with_reducible rfl
  try simp only [Act.put, List.getElem_toArray, List.getElem_cons_succ, List.getElem_cons_zero, List.setIfInBounds_toArray, List.set_cons_zero, List.set_cons_succ]
  have hc := (H.out.keep HK.out).cs hx
  have hfr := (H.out.keep HK.out).free (3 + i)
  refine wpAnyH_ready (rs := [17]) (by kernel_rfl) (by simp) ?_
  refine AllReadyH.cons rfl (fun K hK => ?_) AllReadyH.nil
  go_simp
  have hset := H.out.set (x' := ⟨some q, F', []⟩) hi HK.out (Slot.ok_of HB.out) HF.out HWB.out
  have hT : Turned (fun j => j = p) w (w1.setCell ⟨p, 3 + i, none⟩ (Slot.val ⟨some q, F', []⟩)) := (Turned.of_keep HK.out).trans (Turned.set (F := fun j => j = p) w1 ⟨p, 3 + i, none⟩ _ rfl) fun j e => Or.inl e
  have HS := Lib.hid hset
  have HT := Lib.hid hT
  have z1' : (w1.setCell ⟨p, 3 + i, none⟩ (.pointer (some ⟨q, 0, none⟩))).cell? ⟨p, 1, none⟩ = some (.int .i64 (g : Int)) := hset.c1
  have z2' : (w1.setCell ⟨p, 3 + i, none⟩ (.pointer (some ⟨q, 0, none⟩))).cell? ⟨p, 2, none⟩ = some (.int .i64 (s : Int)) := hset.c2
  clear hset hT
  refine hK.out _ _ ⟨z1', z2'⟩ (fun hHeld => ?_)
  clear hK K
  refine wpAnyH_done (by kernel_rfl) ?_ _
  refine NoPanic.normal ?_
  clear hHeld
  go_wp2_with fail
  go_end0
  exact ⟨rfl, q, F', HS.out, HF.out, HT.out⟩

end
/-- The first i places are emptied. -/
def Cleared (w wr : World) (p wb g s : Nat) (S S' : List Slot) (i : Nat) : Prop :=
  RelC wr p wb g s S' ∧ (∀ j x, S'[j]? = some x → (j < i → (∃ q, x.p = some q) ∧ x.B = [] ∧ ∀ b, x.F b → w.heap.size ≤ b) ∧ (i ≤ j → S[j]? = some x)) ∧ Turned (fun j => j = p) w wr
section
variable {w : World} {p wb g s k b : Nat} {S : List Slot}
theorem Cleared.start (h : RelC w p wb g s S) : Cleared w w p wb g s S S 0 := ⟨h, fun j x hx => ⟨fun e => by omega, fun _ => hx⟩, Turned.refl _ _⟩
theorem Cleared.step {w1 w2 : World} {S1 : List Slot} {i q : Nat} {F' : Nat → Prop} (h : Cleared w w1 p wb g s S S1 i) (r : RelC w2 p wb g s (S1.set i ⟨some q, F', []⟩)) (hf : ∀ j, F' j → w1.heap.size ≤ j) (t : Turned (fun j => j = p) w1 w2) : Cleared w w2 p wb g s S (S1.set i ⟨some q, F', []⟩) (i + 1) := by
  refine ⟨r, fun j x hx => ?_, h.2.2.trans t fun j e => Or.inl e⟩
  rcases set_get hx with ⟨rfl, rfl⟩ | ⟨hj, hx2⟩
  · exact ⟨fun _ => ⟨⟨q, rfl⟩, rfl, fun b hb => Nat.le_trans h.2.2.size (hf b hb)⟩, fun e => by omega⟩
  · exact ⟨fun e => (h.2.1 j x hx2).1 (by omega), fun e => (h.2.1 j x hx2).2 (by omega)⟩
set_option maxRecDepth 100000 in
theorem rclear_c (h : RelC w p wb g s S) (hw : WinR w wb k b) :
    Calls Try.prog 18 #[.pointer (some ⟨p, 0, none⟩)] w fun e w' => e = .returned (.tuple #[]) ∧ ∃ S', Cleared w w' p wb g s S S' k := by
  have HM := Lib.hid (rmade_any h.c0)
  have c0 := h.c0
  have HW := Lib.hid (width_any hw)
  have hk := hw.high
  have HH := Lib.hid h
  have HWI := Lib.hid hw
  clear h hw
  go_enter Try.func18, Try.ntmps18
  go_wp2_with fail
  refine HM.out.mono ?_
  rintro e w1 ⟨rfl, rfl⟩
  go_wp2_with fail
  refine HW.out.mono ?_
  rintro e w1 ⟨rfl, rfl⟩
  go_wp2_with fail
  have HST := Lib.hid (Cleared.start HH.out)
  clear HM HW c0
  go_loopw [11] (fun i wr => ∃ (m : Nat) (S' : List Slot), m ≤ k ∧ i = .int .i64 (m : Int) ∧ Cleared w1 wr p wb g s S S' m) (fun i _ => k - (intOf i).toNat)
  case atStart => exact ⟨0, _, by omega, rfl, HST.out⟩
  case round =>
    obtain ⟨m, S', hm, rfl, hC⟩ := hrel
    have HC := Lib.hid hC
    clear hC HST
    by_cases hlt : m < k
    · have e2 : (m : Int) < (k : Int) := by omega
      go_wp2_with fail
      refine (rempty_any HC.out.1 (Nat.lt_of_lt_of_le HWI.out.lt HC.out.2.2.size) m (by omega)).mono ?_
      rintro e w2 ⟨rfl, q, F', h1, h2, h3⟩
      have HN := Lib.hid (HC.out.step h1 h2 h3)
      clear h1 h2 h3
      go_wp2_with fail
      go_roundw
      case rel => exact ⟨m + 1, _, by omega, by go_num, HN.out⟩
      case measure => simp [intOf]; omega
    · obtain rfl : k = m := by omega
      go_wp2_with fail
      go_end0
      exact ⟨rfl, S', HC.out⟩
end
end Go.Proofs.Ytgelalbmhllccaa
/- The landed relay: New. -/
namespace Go.Proofs.Ytgelalbmhllccaa
open Go.RowKit Lin
set_option linter.unusedVariables false
set_option linter.unusedSimpArgs false
section
variable {w : World} {F : Nat → Prop} {p g s k b wb : Nat} {S : List Slot}
theorem RelA.nothing (c : RelC w p wb g s S) (win : WinR w wb k b) (h : ∀ j x, S[j]? = some x → (j < k → (∃ q, x.p = some q) ∧ x.B = []) ∧ (k ≤ j → x.p = none)) (fp : F p) (fw : F wb) (fs : ∀ x ∈ S, ∀ q, x.F q → F q) (lt : ∀ q, F q → q < w.heap.size) : RelA w F p g s k b (fun _ => []) wb S :=
  ⟨c, win, fun i x hx => ⟨fun e => by
    rcases Nat.lt_or_ge i k with hi | hi
    · obtain ⟨q, hq⟩ := ((h i x hx).1 hi).1
      rw [hq] at e; cases e
    · exact hi, fun e => (h i x hx).2 e⟩, fp, fw, fs, lt, fun n hn x hx => ((h _ x hx).1 (Nat.mod_lt _ (by have := win.low; omega))).2, fun _ _ => rfl, fun i x hi hx _ => ((h i x hx).1 hi).2⟩
def slots0 : List Slot := List.replicate 16 Slot.none_
theorem slots0_get {i : Nat} {x : Slot} (h : slots0[i]? = some x) : x = Slot.none_ := by
  have := List.mem_of_getElem? h
  exact (List.mem_replicate.1 this).2
theorem RelC.fresh (hb : w.heap[p]? = some (.cells (Value.pointer (some ⟨wb, 0, none⟩) :: Value.int .i64 (g : Int) :: Value.int .i64 (s : Int) :: slots0.map Slot.val).toArray 56 (0, 0))) (hne : p ≠ wb) (h1 : 1 ≤ g) (h2 : g ≤ 255) (h3 : 1 ≤ s) (h4 : s ≤ 65535) : RelC w p wb g s slots0 :=
  ⟨hb, rfl, fun x hx => by obtain rfl := (List.mem_replicate.1 hx).2; exact Slot.none_ok _ _ _, fun i j x y _ hx _ b hb => by rw [slots0_get hx] at hb; exact hb.elim, fun x hx b hb => by obtain rfl := (List.mem_replicate.1 hx).2; exact hb.elim, hne, h1, h2, h3, h4⟩
end
section
variable {g s k : Nat}
set_option maxRecDepth 100000 in
theorem relnew_in (h1 : 1 ≤ g) (h2 : g ≤ 255) (h3 : 1 ≤ s) (h4 : s ≤ 65535) (h5 : 1 ≤ k) (h6 : k ≤ 16) (w : World) :
    Calls Try.prog 6 #[.int .i64 (g : Int), .int .i64 (s : Int), .int .i64 (k : Int)] w fun e w' => ∃ p F, e = .returned (.tuple #[.pointer (some ⟨p, 0, none⟩), .int .i64 0]) ∧ RelR w' F p g s k 0 (fun _ => []) ∧ (∀ q, F q → w.heap.size ≤ q) ∧ Keep w w' := by
  have HH := Lib.hid (And.intro h1 (And.intro h2 (And.intro h3 (And.intro h4 (And.intro h5 h6)))))
  clear h1 h2 h3 h4 h5 h6
  go_enter Try.func6, Try.ntmps6
  go_wp2_with fail
  refine (new_in k HH.out.2.2.2.2.1 HH.out.2.2.2.2.2 w).mono ?_
  rintro e w1 ⟨rfl, hW, k1⟩
  have HW := Lib.hid hW
  have HK1 := Lib.hid k1
  clear hW k1
  go_wp2_with fail
  refine (bnew_in g s HH.out.1 HH.out.2.1 HH.out.2.2.1 HH.out.2.2.2.1 w1).mono ?_
  rintro e w2 ⟨q0, F0, rfl, -, -, k2⟩
  have HW2 := Lib.hid (HW.out.keep k2)
  have HK2 := Lib.hid (HK1.out.trans k2)
  clear k2 HW HK1
  go_wp2_with fail
  have hbl := heap_alloc_new w2 (.cells (Value.pointer (some ⟨w.heap.size, 0, none⟩) :: Value.int .i64 (g : Int) :: Value.int .i64 (s : Int) :: slots0.map Slot.val).toArray 56)
  obtain ⟨w3, hw3⟩ : ∃ w3, w2.alloc (.cells (Value.pointer (some ⟨w.heap.size, 0, none⟩) :: Value.int .i64 (g : Int) :: Value.int .i64 (s : Int) :: slots0.map Slot.val).toArray 56) = w3 := ⟨_, rfl⟩
  have hs1 := HW2.out.lt
  have hk3 : Keep w2 w3 := by rw [← hw3]; exact (Keep.refl w2).alloc _ _
  have hz3 : w3.heap.size = w2.heap.size + 1 := by rw [← hw3]; simp
  rw [hw3] at hbl
  have hC := RelC.fresh hbl (by omega) HH.out.1 HH.out.2.1 HH.out.2.2.1 HH.out.2.2.2.1
  have HC := Lib.hid hC
  have HW3 := Lib.hid (HW2.out.keep hk3)
  have HK3 := Lib.hid (HK2.out.trans hk3)
  have HS1 := Lib.hid hs1
  have HZ3 := Lib.hid hz3
  clear hC hbl hk3 hz3 hs1 HK2 HW2
  replace hw3 : w2.alloc (.cells #[Value.pointer (some ⟨w.heap.size, 0, none⟩), Value.int .i64 (g : Int), Value.int .i64 (s : Int), Value.pointer none, Value.pointer none, Value.pointer none, Value.pointer none, Value.pointer none, Value.pointer none, Value.pointer none, Value.pointer none, Value.pointer none, Value.pointer none, Value.pointer none, Value.pointer none, Value.pointer none, Value.pointer none, Value.pointer none, Value.pointer none] 56) = w3 := hw3
  rw [hw3]
  refine (rclear_c HC.out HW3.out).mono ?_
  rintro e w4 ⟨rfl, S', hS⟩
  have HS := Lib.hid hS
  clear hS
  go_wp2_with fail
  go_ret2
  have hk4 : Keep w w4 := HS.out.2.2.keep HK3.out fun i e => by have := HK3.out.size; have := HS1.out; rw [e]; omega
  have hsz := hk4.size
  have hsl := HS.out.1.lt
  have hsz4 := HS.out.2.2.size
  refine ⟨w2.heap.size, fun q => w.heap.size ≤ q ∧ q < w4.heap.size, rfl, (RelA.nothing HS.out.1 (HW3.out.turned HS.out.2.2 (by have := HS1.out; omega)) (fun j x hx => ⟨fun e => ⟨((HS.out.2.1 j x hx).1 e).1, ((HS.out.2.1 j x hx).1 e).2.1⟩, fun e => by rw [slots0_get ((HS.out.2.1 j x hx).2 e)]; rfl⟩) ⟨by have := HS1.out; omega, hsl⟩ ⟨Nat.le_refl _, by have := HS1.out; omega⟩ (fun x hx q hq => ?_) fun q hq => hq.2).r, fun q hq => hq.1, hk4⟩
  obtain ⟨j, hj⟩ := List.getElem?_of_mem hx
  refine ⟨?_, (HS.out.1.ok x hx).lt q hq⟩
  rcases Nat.lt_or_ge j k with e | e
  · have := ((HS.out.2.1 j x hj).1 e).2.2 q hq; have := HK3.out.size; omega
  · rw [slots0_get ((HS.out.2.1 j x hj).2 e)] at hq; exact hq.elim
end
end Go.Proofs.Ytgelalbmhllccaa
/- The landed relay: Base, In, Move. -/
namespace Go.Proofs.Ytgelalbmhllccaa
open Go.RowKit Lin
set_option linter.unusedVariables false
set_option linter.unusedSimpArgs false
/-- Those of E are emptied. -/
def Emptied (w wr : World) (p wb g s : Nat) (S S' : List Slot) (E G : Nat → Prop) : Prop :=
  RelC wr p wb g s S' ∧ (∀ j x, S'[j]? = some x → (E j → (∃ q, x.p = some q) ∧ x.B = [] ∧ ∀ b, x.F b → w.heap.size ≤ b) ∧ (¬ E j → S[j]? = some x)) ∧ Turned G w wr
section
variable {w : World} {F : Nat → Prop} {p g s k b wb : Nat} {L : Nat → List (List Nat)} {S : List Slot}
theorem Emptied.start {w1 : World} {G : Nat → Prop} (h : RelC w1 p wb g s S) (t : Turned G w w1) {E : Nat → Prop} (hE : ∀ j, ¬ E j) : Emptied w w1 p wb g s S S E G := ⟨h, fun j x hx => ⟨fun e => (hE j e).elim, fun _ => hx⟩, t⟩
theorem Emptied.step {w1 w2 : World} {S1 : List Slot} {i q : Nat} {F' : Nat → Prop} {E E' G : Nat → Prop} (h : Emptied w w1 p wb g s S S1 E G) (hG : G p) (r : RelC w2 p wb g s (S1.set i ⟨some q, F', []⟩)) (hf : ∀ j, F' j → w1.heap.size ≤ j) (t : Turned (fun j => j = p) w1 w2) (hE : ∀ j, E' j ↔ j = i ∨ E j) : Emptied w w2 p wb g s S (S1.set i ⟨some q, F', []⟩) E' G := by
  refine ⟨r, fun j x hx => ?_, h.2.2.trans t fun j e => Or.inl (by rw [e]; exact hG)⟩
  rcases set_get hx with ⟨rfl, rfl⟩ | ⟨hj, hx2⟩
  · exact ⟨fun _ => ⟨⟨q, rfl⟩, rfl, fun b hb => Nat.le_trans h.2.2.size (hf b hb)⟩, fun e => (e ((hE j).2 (Or.inl rfl))).elim⟩
  · refine ⟨fun e => (h.2.1 j x hx2).1 ?_, fun e => (h.2.1 j x hx2).2 fun e2 => e ((hE j).2 (Or.inr e2))⟩
    rcases (hE j).1 e with e2 | e2
    · exact (hj e2).elim
    · exact e2
end
end Go.Proofs.Ytgelalbmhllccaa
/- The landed relay: Ranks. -/
namespace Go.Proofs.Ytgelalbmhllccaa
open Go.RowKit Lin
set_option linter.unusedVariables false
set_option linter.unusedSimpArgs false
/-- Such a list, to be read. -/
def RkIn (w : World) (F : Nat → Prop) (A : Option Addr) (n : Nat) (l : List (Nat × Nat)) : Prop :=
  l.length = n ∧ (0 < n → ∃ b off, A = some ⟨b, off, none⟩ ∧ F b ∧ b < w.heap.size ∧ ∀ (i : Nat) (x : Nat × Nat), l[i]? = some x → w.cell? ⟨b, off + i * 2, none⟩ = some (.int .u64 (x.1 : Int)) ∧ w.cell? ⟨b, off + i * 2 + 1, none⟩ = some (.int .i64 (x.2 : Int)))
theorem RkIn.turned {w w' : World} {F G : Nat → Prop} {A : Option Addr} {n : Nat} {l : List (Nat × Nat)} (h : RkIn w F A n l) (k : Turned G w w') (hd : ∀ b, F b → ¬ G b) : RkIn w' F A n l := ⟨h.1, fun hn => by
  obtain ⟨b, off, e, hb, hl, hc⟩ := h.2 hn
  exact ⟨b, off, e, hb, Nat.lt_of_lt_of_le hl k.size, fun i x hi => ⟨k.cell (hc i x hi).1 (hd b hb), k.cell (hc i x hi).2 (hd b hb)⟩⟩⟩
theorem RkIn.keep {w w' : World} {F : Nat → Prop} {A : Option Addr} {n : Nat} {l : List (Nat × Nat)} (h : RkIn w F A n l) (k : Keep w w') : RkIn w' F A n l := h.turned (Turned.of_keep (F := fun _ => False) k) fun _ _ e => e
theorem RkIn.nil (w : World) (F : Nat → Prop) (A : Option Addr) : RkIn w F A 0 [] := ⟨rfl, fun h => absurd h (by omega)⟩
theorem RkIn.at_ {w : World} {F : Nat → Prop} {A : Option Addr} {n : Nat} {l : List (Nat × Nat)} (h : RkIn w F A n l) {i : Nat} (hi : i < n) : ∃ b off x, A = some ⟨b, off, none⟩ ∧ F b ∧ b < w.heap.size ∧ l[i]? = some x ∧ w.cell? ⟨b, off + i * 2, none⟩ = some (.int .u64 (x.1 : Int)) ∧ w.cell? ⟨b, off + i * 2 + 1, none⟩ = some (.int .i64 (x.2 : Int)) := by
  obtain ⟨b, off, e, hb, hl, hc⟩ := h.2 (by omega)
  have hi' : i < l.length := by rw [h.1]; exact hi
  exact ⟨b, off, l[i], e, hb, hl, List.getElem?_eq_getElem hi', (hc i _ (List.getElem?_eq_getElem hi')).1, (hc i _ (List.getElem?_eq_getElem hi')).2⟩
namespace OwnRk
variable {w w' : World} {base n c : Nat} {A : Option Addr} {l : List (Nat × Nat)}
end OwnRk
section
variable {w : World} {F : Nat → Prop} {p g s k b : Nat} {L : Nat → List (List Nat)}
end
end Go.Proofs.Ytgelalbmhllccaa
/- Rows of structs: many appended; slices of them. -/
namespace Go.Proofs.Ytgelalbmhllccaa
open Go.RowKit
set_option linter.unusedVariables false
end Go.Proofs.Ytgelalbmhllccaa
/- Lists of generations, each with where its basis lies. -/
namespace Go.Proofs.Ytgelalbmhllccaa
open Go.RowKit Lin
set_option linter.unusedVariables false
set_option linter.unusedSimpArgs false
/-- Such a list, to be read. -/
def GnIn (w : World) (F : Nat → Prop) (A : Option Addr) (n : Nat) (l : List (Nat × Nat)) : Prop :=
  l.length = n ∧ (0 < n → ∃ b off, A = some ⟨b, off, none⟩ ∧ F b ∧ b < w.heap.size ∧ ∀ (i : Nat) (x : Nat × Nat), l[i]? = some x → w.cell? ⟨b, off + i * 2, none⟩ = some (.int .u64 (x.1 : Int)) ∧ w.cell? ⟨b, off + i * 2 + 1, none⟩ = some (.pointer (some ⟨x.2, 0, none⟩)))
theorem GnIn.turned {w w' : World} {F G : Nat → Prop} {A : Option Addr} {n : Nat} {l : List (Nat × Nat)} (h : GnIn w F A n l) (k : Turned G w w') (hd : ∀ b, F b → ¬ G b) : GnIn w' F A n l := ⟨h.1, fun hn => by
  obtain ⟨b, off, e, hb, hl, hc⟩ := h.2 hn
  exact ⟨b, off, e, hb, Nat.lt_of_lt_of_le hl k.size, fun i x hi => ⟨k.cell (hc i x hi).1 (hd b hb), k.cell (hc i x hi).2 (hd b hb)⟩⟩⟩
theorem GnIn.keep {w w' : World} {F : Nat → Prop} {A : Option Addr} {n : Nat} {l : List (Nat × Nat)} (h : GnIn w F A n l) (k : Keep w w') : GnIn w' F A n l := h.turned (Turned.of_keep (F := fun _ => False) k) fun _ _ e => e
theorem GnIn.nil (w : World) (F : Nat → Prop) (A : Option Addr) : GnIn w F A 0 [] := ⟨rfl, fun h => absurd h (by omega)⟩
theorem GnIn.at_ {w : World} {F : Nat → Prop} {A : Option Addr} {n : Nat} {l : List (Nat × Nat)} (h : GnIn w F A n l) {i : Nat} (hi : i < n) : ∃ b off x, A = some ⟨b, off, none⟩ ∧ F b ∧ b < w.heap.size ∧ l[i]? = some x ∧ w.cell? ⟨b, off + i * 2, none⟩ = some (.int .u64 (x.1 : Int)) ∧ w.cell? ⟨b, off + i * 2 + 1, none⟩ = some (.pointer (some ⟨x.2, 0, none⟩)) := by
  obtain ⟨b, off, e, hb, hl, hc⟩ := h.2 (by omega)
  have hi' : i < l.length := by rw [h.1]; exact hi
  exact ⟨b, off, l[i], e, hb, hl, List.getElem?_eq_getElem hi', (hc i _ (List.getElem?_eq_getElem hi')).1, (hc i _ (List.getElem?_eq_getElem hi')).2⟩
namespace OwnGn
variable {w w' : World} {base n c : Nat} {A : Option Addr} {l : List (Nat × Nat)}
end OwnGn
/-- The address of a slice of rows cut at its head. -/
def dropG (A : Option Addr) (c s : Nat) : Option Addr := if c = s then A else A.map (·.add (s * 2))
theorem dropG_some (b off c s : Nat) (h : s < c) : dropG (some ⟨b, off, none⟩) c s = some ⟨b, off + s * 2, none⟩ := by
  rw [dropG, if_neg (by omega)]
  simp only [Option.map_some, Addr.add]
  split <;> simp_all
/-- The first k of such a list, and the rest. -/
theorem GnIn.take {w : World} {F : Nat → Prop} {A : Option Addr} {n k : Nat} {l : List (Nat × Nat)} (h : GnIn w F A n l) (hk : k ≤ n) : GnIn w F A k (l.take k) := ⟨by rw [List.length_take, h.1]; omega, fun hp => by
  obtain ⟨b, off, e, hb, hl, hc⟩ := h.2 (by omega)
  refine ⟨b, off, e, hb, hl, fun i x hi => hc i x ?_⟩
  rw [List.getElem?_take] at hi
  split at hi
  · exact hi
  · cases hi⟩
theorem GnIn.drop {w : World} {F : Nat → Prop} {A : Option Addr} {n c k : Nat} {l : List (Nat × Nat)} (h : GnIn w F A n l) (hc : n ≤ c) : GnIn w F (dropG A c k) (n - k) (l.drop k) := ⟨by rw [List.length_drop, h.1], fun hp => by
  obtain ⟨b, off, rfl, hb, hl, hcl⟩ := h.2 (by omega)
  refine ⟨b, off + k * 2, dropG_some b off c k (by omega), hb, hl, fun i x hi => ?_⟩
  rw [List.getElem?_drop] at hi
  have h1 := hcl (k + i) x hi
  rw [show off + (k + i) * 2 = off + k * 2 + i * 2 by omega] at h1
  exact h1⟩
theorem GnIn.cells {w : World} {F : Nat → Prop} {A : Option Addr} {n : Nat} {l : List (Nat × Nat)} (h : GnIn w F A n l) : 0 < n → ∃ b off, A = some ⟨b, off, none⟩ ∧ ∀ (i : Nat) (p : Nat × Nat), l[i]? = some p → w.cell? ⟨b, off + i * 2, none⟩ = some (.int .u64 (p.1 : Int)) ∧ w.cell? ⟨b, off + i * 2 + 1, none⟩ = some (.pointer (some ⟨p.2, 0, none⟩)) := fun hp => by
  obtain ⟨b, off, e, hb, hl, hc⟩ := h.2 hp
  exact ⟨b, off, e, hc⟩
end Go.Proofs.Ytgelalbmhllccaa
/- The document's own basis: places, each with its row or none (plain). -/
namespace Go.Proofs.Ytgelalbmhllccaa
open Lin
set_option linter.unusedVariables false
/-- The rows that are there. -/
def selP : List Bool → List PairV → List PairV
  | [], _ => []
  | _, [] => []
  | b :: bs, p :: ps => if b then p :: selP bs ps else selP bs ps
theorem selP_append : ∀ (a : List Bool) (c : List PairV) (b : List Bool) (d : List PairV), a.length = c.length → selP (a ++ b) (c ++ d) = selP a c ++ selP b d
  | [], [], b, d, _ => rfl
  | [], _ :: _, b, d, h => by simp at h
  | _ :: _, [], b, d, h => by simp at h
  | x :: a, p :: c, b, d, h => by
    have ih := selP_append a c b d (by simpa using h)
    show (if x then p :: selP (a ++ b) (c ++ d) else selP (a ++ b) (c ++ d)) = (if x then p :: selP a c else selP a c) ++ selP b d
    rw [ih]
    cases x <;> rfl
theorem selP_succ {iv : List Bool} {R : List PairV} {i : Nat} {x : Bool} {p : PairV} (hx : iv[i]? = some x) (hp : R[i]? = some p) : selP (iv.take (i + 1)) (R.take (i + 1)) = selP (iv.take i) (R.take i) ++ (if x then [p] else []) := by
  have h1 := (List.getElem?_eq_some_iff.1 hx).1
  have h2 := (List.getElem?_eq_some_iff.1 hp).1
  rw [List.take_add_one, List.take_add_one, hx, hp, selP_append _ _ _ _ (by rw [List.length_take, List.length_take]; omega)]
  congr 1
theorem selP_split {iv : List Bool} {R : List PairV} (h : iv.length = R.length) (m : Nat) : selP iv R = selP (iv.take m) (R.take m) ++ selP (iv.drop m) (R.drop m) := by
  rw [← selP_append _ _ _ _ (by rw [List.length_take, List.length_take, h]), List.take_append_drop, List.take_append_drop]
theorem selP_mem : ∀ (iv : List Bool) (R : List PairV) (k : Nat) (p : PairV), (selP iv R)[k]? = some p → ∃ i : Nat, iv[i]? = some true ∧ R[i]? = some p
  | [], _, k, p, h => by simp [selP] at h
  | _ :: _, [], k, p, h => by simp [selP] at h
  | true :: iv, q :: R, 0, p, h => ⟨0, rfl, h⟩
  | true :: iv, q :: R, k + 1, p, h => by
    obtain ⟨i, h1, h2⟩ := selP_mem iv R k p h
    exact ⟨i + 1, h1, h2⟩
  | false :: iv, q :: R, k, p, h => by
    obtain ⟨i, h1, h2⟩ := selP_mem iv R k p h
    exact ⟨i + 1, h1, h2⟩
theorem selP_low {iv : List Bool} {R : List PairV} {m k : Nat} {p : PairV} (hk : k < (selP (iv.take m) (R.take m)).length) (hl : iv.length = R.length) (h : (selP iv R)[k]? = some p) : ∃ i : Nat, i < m ∧ iv[i]? = some true ∧ R[i]? = some p := by
  rw [selP_split hl m, List.getElem?_append_left hk] at h
  obtain ⟨i, h1, h2⟩ := selP_mem _ _ _ _ h
  rw [List.getElem?_take] at h1 h2
  split at h1
  · next hi => rw [if_pos hi] at h2; exact ⟨i, hi, h1, h2⟩
  · cases h1
theorem selP_high {iv : List Bool} {R : List PairV} {m k : Nat} {p : PairV} (hk : (selP (iv.take m) (R.take m)).length ≤ k) (hl : iv.length = R.length) (h : (selP iv R)[k]? = some p) : ∃ i : Nat, m ≤ i ∧ iv[i]? = some true ∧ R[i]? = some p := by
  rw [selP_split hl m, List.getElem?_append_right hk] at h
  obtain ⟨i, h1, h2⟩ := selP_mem _ _ _ _ h
  rw [List.getElem?_drop] at h1 h2
  exact ⟨m + i, by omega, h1, h2⟩
theorem selP_at {iv : List Bool} {R : List PairV} {i : Nat} {p : PairV} (hl : iv.length = R.length) (hx : iv[i]? = some true) (hp : R[i]? = some p) : (selP iv R)[(selP (iv.take i) (R.take i)).length]? = some p := by
  rw [selP_split hl (i + 1), selP_succ hx hp, if_pos rfl, List.append_assoc, List.getElem?_append_right (Nat.le_refl _), Nat.sub_self]; rfl
theorem selP_map {f : List Nat → List Nat} : ∀ (iv : List Bool) (R R' : List PairV), R'.length = R.length → (∀ (i : Nat) (p p' : PairV), iv[i]? = some true → R[i]? = some p → R'[i]? = some p' → p'.xs = f p.xs) → (selP iv R').map PairV.xs = ((selP iv R).map PairV.xs).map f
  | [], _, _, _, _ => by simp [selP]
  | _ :: _, [], R', h, _ => by
    obtain rfl : R' = [] := List.eq_nil_of_length_eq_zero (by simpa using h)
    simp [selP]
  | _ :: _, _ :: _, [], h, _ => by simp at h
  | x :: iv, p :: R, p' :: R', h, hf => by
    have ih := selP_map (f := f) iv R R' (by simpa using h) fun i q q' h1 h2 h3 => hf (i + 1) q q' h1 h2 h3
    cases x with
    | true =>
      show (p' :: selP iv R').map PairV.xs = ((p :: selP iv R).map PairV.xs).map f
      rw [List.map_cons, List.map_cons, List.map_cons, ih, hf 0 p p' rfl rfl rfl]
    | false => exact ih
theorem selP_set {iv : List Bool} {R : List PairV} {L : Nat} {r : PairV} (hl : iv.length = R.length) (hL : iv[L]? = some false) : selP (iv.set L true) (R.set L r) = (selP iv R).take (selP (iv.take L) (R.take L)).length ++ [r] ++ (selP iv R).drop (selP (iv.take L) (R.take L)).length := by
  have h1 := (List.getElem?_eq_some_iff.1 hL).1
  have hp := List.getElem?_eq_getElem (l := R) (i := L) (by omega)
  have e1 := selP_split hl (L + 1)
  rw [selP_succ hL hp, if_neg (by decide), List.append_nil] at e1
  have hl2 : (iv.set L true).length = (R.set L r).length := by rw [List.length_set, List.length_set, hl]
  have e2 := selP_split hl2 (L + 1)
  rw [selP_succ (i := L) (x := true) (p := r) (by rw [List.getElem?_set_self h1]) (by rw [List.getElem?_set_self (by omega)]), if_pos rfl] at e2
  rw [e2, e1, List.take_left', List.drop_left', List.take_set_of_le (Nat.le_refl L), List.take_set_of_le (Nat.le_refl L), List.drop_set_of_lt (Nat.lt_succ_self L), List.drop_set_of_lt (Nat.lt_succ_self L)]
  · rfl
  · rfl
/-- Places, and the basis that they are. -/
structure Slots (g s : Nat) (iv : List Bool) (R : List PairV) (B : List (List Nat)) : Prop where
  li : iv.length = g
  lr : R.length = g
  sel : (selP iv R).map PairV.xs = B
  lead : ∀ (i : Nat) (p : PairV), iv[i]? = some true → R[i]? = some p → vLead (g + s) p.xs = (i : Int)
  size : ∀ (i : Nat) (p : PairV), iv[i]? = some true → R[i]? = some p → p.a.xs.length = g ∧ p.b.xs.length = s
/-- How many rows stand ahead of a place. -/
def cnt (iv : List Bool) (R : List PairV) (i : Nat) : Nat := (selP (iv.take i) (R.take i)).length
section
variable {g s : Nat} {iv : List Bool} {R : List PairV} {B : List (List Nat)}
theorem Slots.eq (h : Slots g s iv R B) : iv.length = R.length := h.li.trans h.lr.symm
theorem Slots.none (g s : Nat) (p : PairV) : Slots g s (List.replicate g false) (List.replicate g p) [] := by
  have hs : ∀ n, selP (List.replicate n false) (List.replicate n p) = [] := fun n => by
    induction n with
    | zero => rfl
    | succ n ih => rw [List.replicate_succ, List.replicate_succ]; exact ih
  refine ⟨List.length_replicate, List.length_replicate, by rw [hs]; rfl, fun i q h1 _ => ?_, fun i q h1 _ => ?_⟩
  · rw [List.getElem?_replicate] at h1; split at h1 <;> cases h1
  · rw [List.getElem?_replicate] at h1; split at h1 <;> cases h1
theorem cnt_yes {i : Nat} {p : PairV} (hx : iv[i]? = some true) (hp : R[i]? = some p) : cnt iv R (i + 1) = cnt iv R i + 1 := by rw [cnt, selP_succ hx hp, if_pos rfl, List.length_append]; rfl
theorem Slots.row (h : Slots g s iv R B) {i : Nat} {p : PairV} (hx : iv[i]? = some true) (hp : R[i]? = some p) : B.getD (cnt iv R i) [] = p.xs ∧ cnt iv R i < B.length := by
  have e := selP_at h.eq hx hp
  rw [← h.sel, List.getD_eq_getElem?_getD, List.getElem?_map]
  rw [cnt, e]
  refine ⟨rfl, ?_⟩
  rw [List.length_map]; exact (List.getElem?_eq_some_iff.1 e).1
/-- One step of the reduction. -/
theorem Slots.clear (h : Slots g s iv R B) {i : Nat} {p : PairV} (row : List Nat) (hx : iv[i]? = some true) (hp : R[i]? = some p) :
    clearTo (g + s) B row (cnt iv R (i + 1)) = vAddS (g + s) (clearTo (g + s) B row (cnt iv R i)) p.xs ((clearTo (g + s) B row (cnt iv R i)).getD i 0) := by
  rw [cnt_yes hx hp]
  show vAddS (g + s) _ (B.getD (cnt iv R i) []) (_ : Nat) = _
  rw [(h.row hx hp).1, h.lead i p hx hp, Int.toNat_natCast]
theorem lead_vals {n i : Nat} {xs : List Nat} (h : vLead n xs = (i : Int)) : i < n ∧ xs.getD i 0 ≠ 0 ∧ ∀ j, j < i → xs.getD j 0 = 0 := by
  obtain ⟨L, h1, h2⟩ := vLead_some (n := n) (xs := xs) (by rw [h]; omega)
  rw [h] at h2
  obtain rfl : i = L := by omega
  exact (vLeadTo_some xs n i).1 h1
/-- A new row is put in at its place. -/
theorem Slots.put (h : Slots g s iv R B) (hB : Bas g s B) {row : List Nat} (hl : row.length = g + s) (ha : AllB row) {L : Nat} (hL : vLead g (leftB (g + s) B row) = (L : Int)) {r : PairV} (hr : r.xs = vScale (g + s) (leftB (g + s) B row) (invN ((leftB (g + s) B row).getD L 0))) (hra : r.a.xs.length = g) (hrb : r.b.xs.length = s)
    {R' : List PairV} (hR : R'.length = g) (hf : ∀ (i : Nat) (p p' : PairV), iv[i]? = some true → R[i]? = some p → R'[i]? = some p' → p'.xs = vAddS (g + s) p.xs r.xs (p.xs.getD L 0) ∧ p'.a.xs.length = g ∧ p'.b.xs.length = s) :
    L < g ∧ iv[L]? = some false ∧ Slots g s (iv.set L true) (R'.set L r) (insB g s B row) := by
  obtain ⟨hLg, hL0, hLz⟩ := lead_vals hL
  obtain ⟨l, hrd, hlt⟩ := hB.leads
  have hLf : iv[L]? = some false := by
    have h1 := List.getElem?_eq_getElem (l := iv) (i := L) (by rw [h.li]; exact hLg)
    cases hx : iv[L]'(by rw [h.li]; exact hLg) with
    | false => rw [h1, hx]
    | true =>
      rw [hx] at h1
      have hp := List.getElem?_eq_getElem (l := R) (i := L) (by rw [h.lr]; exact hLg)
      obtain ⟨e1, e2⟩ := h.row h1 hp
      have e3 := hB.lead_at hrd e2
      rw [e1, h.lead L _ h1 hp] at e3
      have e4 := left_nought hB.ok hrd hl ha e2
      rw [← show (L : Nat) = l (cnt iv R L) by omega] at e4
      exact absurd ((vec_zero_iff (left_all hB.ok ha) L).1 e4) hL0
  refine ⟨hLg, hLf, by rw [List.length_set, h.li], by rw [List.length_set, hR], ?_, fun i p hx hp => ?_, fun i p hx hp => ?_⟩
  · have hlo : ∀ k, k < cnt iv R L → ∃ j, j < L ∧ (B.getD k []).getD j 0 ≠ 0 := fun k hk => by
      have hkl : k < (selP iv R).length := by
        rw [selP_split h.eq L, List.length_append]
        have : k < (selP (iv.take L) (R.take L)).length := hk
        omega
      obtain ⟨i, hi, h1, h2⟩ := selP_low hk h.eq (List.getElem?_eq_getElem hkl)
      refine ⟨i, hi, ?_⟩
      have e0 : B.getD k [] = ((selP iv R)[k]).xs := by rw [← h.sel, List.getD_eq_getElem?_getD, List.getElem?_map, List.getElem?_eq_getElem hkl]; rfl
      rw [e0]
      exact (lead_vals (h.lead i _ h1 h2)).2.1
    have hhi : cnt iv R L < B.length → ∀ j, j < L → (B.getD (cnt iv R L) []).getD j 0 = 0 := fun hq j hj => by
      have hkl : cnt iv R L < (selP iv R).length := by rw [← h.sel, List.length_map] at hq; exact hq
      obtain ⟨i, hi, h1, h2⟩ := selP_high (m := L) (Nat.le_refl _) h.eq (List.getElem?_eq_getElem hkl)
      have e0 : B.getD (cnt iv R L) [] = ((selP iv R)[cnt iv R L]).xs := by rw [← h.sel, List.getD_eq_getElem?_getD, List.getElem?_map, List.getElem?_eq_getElem hkl]; rfl
      rw [e0]
      exact (lead_vals (h.lead i _ h1 h2)).2.2 j (by omega)
    have hq : cnt iv R L ≤ B.length := by
      rw [← h.sel, List.length_map, selP_split h.eq L, List.length_append]
      exact Nat.le_add_right _ _
    rw [insB_at hB hl ha hL hq hlo hhi, ← hr]
    have hc : (selP iv R').map PairV.xs = clearedL (g + s) B r.xs L := by
      rw [selP_map (f := fun m => vAddS (g + s) m r.xs (m.getD L 0)) iv R R' (by rw [hR, h.lr]) fun i p p' h1 h2 h3 => (hf i p p' h1 h2 h3).1, h.sel]; rfl
    have hcnt : (selP (iv.take L) (R'.take L)).length = cnt iv R L := by
      have e := selP_map (f := fun _ => ([] : List Nat)) (iv.take L) (R.take L) (R'.take L) (by rw [List.length_take, List.length_take, hR, h.lr])
      have e2 : ∀ (a : List Bool) (c d : List PairV), c.length = d.length → (selP a c).length = (selP a d).length := fun a => by
        induction a with
        | nil => intro c d _; rfl
        | cons x a ih =>
          intro c d hcd
          match c, d, hcd with
          | [], [], _ => rfl
          | p :: c, q :: d, hcd =>
            have := ih c d (by simpa using hcd)
            cases x <;> simp [selP, this]
      exact e2 _ _ _ (by rw [List.length_take, List.length_take, hR, h.lr])
    rw [selP_set (by rw [h.li, hR]) hLf, hcnt, List.map_append, List.map_append, List.map_take, List.map_drop, hc]; rfl
  · by_cases e : i = L
    · subst e
      rw [List.getElem?_set_self (by rw [hR]; exact hLg)] at hp
      injection hp with hp
      subst hp
      rw [hr]
      refine vLead_at (by omega) ?_ fun j hj => ?_
      · rw [vScale, tab_getD, if_pos (by omega)]
        have e1 := mul_inv _ ((left_all hB.ok ha).getD i) (show 1 ≤ (leftB (g + s) B row).getD i 0 by omega)
        rw [e1]; decide
      · rw [vScale, tab_getD, if_pos (by omega), hLz j hj]
        exact mul_zero_left _
    · rw [List.getElem?_set_ne (fun e2 => e e2.symm)] at hx hp
      have hig : i < g := by rw [← h.li]; exact (List.getElem?_eq_some_iff.1 hx).1
      have hpR := List.getElem?_eq_getElem (l := R) (i := i) (by rw [h.lr]; exact hig)
      have hle := lead_vals (h.lead i _ hx hpR)
      have hxs := (hf i _ _ hx hpR hp).1
      have hu : ∀ j, j < L → r.xs.getD j 0 = 0 := fun j hj => by
        rw [hr, vScale, tab_getD, if_pos (by omega), hLz j hj]
        exact mul_zero_left _
      rw [hxs]
      rcases Nat.lt_or_ge i L with e2 | e2
      · refine vLead_at hle.1 ?_ fun j hj => ?_
        · rw [vAddS, tab_getD, if_pos hle.1, hu i e2, mul_zero_left, Nat.xor_zero]; exact hle.2.1
        · rw [vAddS, tab_getD, if_pos (by omega), hu j (by omega), mul_zero_left, Nat.xor_zero]; exact hle.2.2 j hj
      · have hc : (R[i]'(by rw [h.lr]; exact hig)).xs.getD L 0 = 0 := hle.2.2 L (by omega)
        have hra2 : AllB r.xs := by
          rw [hr]
          exact vScale_all (left_all hB.ok ha)
        have hsz := h.size i _ hx hpR
        rw [hc, vAddS_none _ (by rw [PairV.xs, List.length_append, hsz.1, hsz.2]) hra2]
        exact h.lead i _ hx hpR
  · by_cases e : i = L
    · subst e
      rw [List.getElem?_set_self (by rw [hR]; exact hLg)] at hp
      injection hp with hp
      subst hp
      exact ⟨hra, hrb⟩
    · rw [List.getElem?_set_ne (fun e2 => e e2.symm)] at hx hp
      have hig : i < g := by rw [← h.li]; exact (List.getElem?_eq_some_iff.1 hx).1
      have hpR := List.getElem?_eq_getElem (l := R) (i := i) (by rw [h.lr]; exact hig)
      exact (hf i _ _ hx hpR hp).2
end
end Go.Proofs.Ytgelalbmhllccaa
/- The contract of the document's own inverse. -/
namespace Go.Proofs.Ytgelalbmhllccaa
open Go.RowKit
end Go.Proofs.Ytgelalbmhllccaa
/- The document's own basis in memory: New, sums of rows, leads. -/
namespace Go.Proofs.Ytgelalbmhllccaa
open Go.RowKit Lin
set_option linter.unusedVariables false
set_option linter.unusedSimpArgs false
section
variable {w w' : World} {F G : Nat → Prop} {b g s bi br : Nat} {iv : List Bool} {R : List PairV}
end
/-- A sum of rows: new memory. -/
structure SumR (w w' : World) (g s : Nat) (xs ys : List Nat) (p : PairV) : Prop where
  an : p.a.n = g
  bn : p.b.n = s
  a : Own w' w.heap.size 5 p.a.A p.a.n p.a.c p.a.xs
  b : Own w' w.heap.size 5 p.b.A p.b.n p.b.c p.b.xs
  ax : p.a.xs = xs
  bx : p.b.xs = ys
  keep : Keep w w'
end Go.Proofs.Ytgelalbmhllccaa
/- The document's own basis: what its rows leave of one. -/
namespace Go.Proofs.Ytgelalbmhllccaa
open Go.RowKit Lin
set_option linter.unusedVariables false
set_option linter.unusedSimpArgs false
/-- A row at work, in a box at q. -/
structure RedW (w wr : World) (G : Nat → Prop) (q g s : Nat) (v : List Nat) (p : PairV) : Prop where
  base : w.heap.size = q
  row : wr.heap[q]? = some (.cells #[p.a.val, p.b.val] 39 (0, 0))
  res : wr.heap[q + 1]? = some (.cells #[.slice none 0 0, .slice none 0 0] 39 (0, 0))
  an : p.a.n = g
  bn : p.b.n = s
  a : LiesIn wr (fun b => G b ∨ (q + 2 ≤ b ∧ b < wr.heap.size)) p.a
  b : LiesIn wr (fun b => G b ∨ (q + 2 ≤ b ∧ b < wr.heap.size)) p.b
  xs : p.a.xs ++ p.b.xs = v
  keep : Keep w wr
theorem RedW.later {w wr w2 : World} {G : Nat → Prop} {q g s : Nat} {v : List Nat} {p : PairV} (h : RedW w wr G q g s v p) (k : Keep wr w2) : RedW w w2 G q g s v p :=
  ⟨h.base, (k.block _ (Array.getElem?_eq_some_iff.1 h.row).1).trans h.row, (k.block _ (Array.getElem?_eq_some_iff.1 h.res).1).trans h.res, h.an, h.bn,
    (h.a.turned (Turned.of_keep (F := fun _ => False) k) fun _ _ e => e).mono fun b hb => hb.imp id fun e => ⟨e.1, Nat.lt_of_lt_of_le e.2 k.size⟩,
    (h.b.turned (Turned.of_keep (F := fun _ => False) k) fun _ _ e => e).mono fun b hb => hb.imp id fun e => ⟨e.1, Nat.lt_of_lt_of_le e.2 k.size⟩, h.xs, h.keep.trans k⟩
theorem RedW.put {w wr w4 w5 : World} {G : Nat → Prop} {q g s : Nat} {v v' xs ys : List Nat} {p p' : PairV} (h : RedW w w4 G q g s v p) (hG : ∀ k, G k → k < q) (hb : w5.heap[q]? = some (.cells #[p'.a.val, p'.b.val] 39 (0, 0))) (t : Turned (fun b => b = q) w4 w5) (hC : SumR wr w4 g s xs ys p') (hqw : q + 1 < wr.heap.size) (hx : p'.a.xs ++ p'.b.xs = v') : RedW w w5 G q g s v' p' := by
  have hd : ∀ b, (wr.heap.size ≤ b ∧ b < w4.heap.size) → ¬ b = q := fun b hb => by omega
  have hm : ∀ b, (wr.heap.size ≤ b ∧ b < w4.heap.size) → (G b ∨ (q + 2 ≤ b ∧ b < w5.heap.size)) := fun b hb => Or.inr ⟨by omega, Nat.lt_of_lt_of_le hb.2 t.size⟩
  exact ⟨h.base, hb, (t.block _ (Array.getElem?_eq_some_iff.1 h.res).1 (by omega)).trans h.res, hC.an, hC.bn,
    ((hC.a.lies.mono fun b hb => hC.a.1.lt b hb).turned t hd).mono hm, ((hC.b.lies.mono fun b hb => hC.b.1.lt b hb).turned t hd).mono hm, hx, t.keep h.keep fun i e => by rw [e, h.base]; exact Nat.le_refl _⟩
end Go.Proofs.Ytgelalbmhllccaa
/- The document's own basis: Insert. -/
namespace Go.Proofs.Ytgelalbmhllccaa
open Go.RowKit Lin
set_option linter.unusedVariables false
set_option linter.unusedSimpArgs false
section
variable {w : World} {F RF : Nat → Prop} {b g s bi br k : Nat} {iv : List Bool} {R : List PairV} {p' : PairV}
end
section
variable {w wr w4 w5 : World} {F Fk : Nat → Prop} {b g s bi br q k L lo hi : Nat} {iv : List Bool} {R Rk : List PairV} {r p p' : PairV}
end
section
variable {w : World} {F G : Nat → Prop} {b g s bi br : Nat} {iv : List Bool} {R : List PairV} {B : List (List Nat)}
end
end Go.Proofs.Ytgelalbmhllccaa
/- The document's own basis: Rows, Rank, Contains; rows that do not fit. -/
namespace Go.Proofs.Ytgelalbmhllccaa
open Go.RowKit Lin
set_option linter.unusedVariables false
set_option linter.unusedSimpArgs false
section
variable {w : World} {F G : Nat → Prop} {b g s bi br : Nat} {iv : List Bool} {R : List PairV} {B : List (List Nat)}
/-- What Rows tells: a list of its own, of rows that the basis keeps. -/
def RowsR (w w' : World) (F : Nat → Prop) (g s : Nat) (A : Option Addr) (n c : Nat) (qs : List PairV) : Prop :=
  OwnSt w' w.heap.size A n c qs ∧ (∀ p ∈ qs, (LiesIn w' F p.a ∧ LiesIn w' F p.b) ∧ p.a.n = g ∧ p.b.n = s) ∧ Keep w w'
theorem RowsR.stIn {w w' : World} {A : Option Addr} {n c : Nat} {qs : List PairV} (h : RowsR w w' F g s A n c qs) : StIn w' (fun x => F x ∨ (w.heap.size ≤ x ∧ x < w'.heap.size)) A n qs :=
  OwnSt.stIn h.1 (fun p hp => ⟨(h.2.1 p hp).1.1.mono fun x hx => Or.inl hx, (h.2.1 p hp).1.2.mono fun x hx => Or.inl hx⟩) fun x hx => Or.inr (h.1.lt x hx)
end
end Go.Proofs.Ytgelalbmhllccaa
/- The document's own window. -/
namespace Go.Proofs.Ytgelalbmhllccaa
open Go.RowKit
set_option linter.unusedVariables false
set_option linter.unusedSimpArgs false
namespace RefW
variable {w w' : World} {g k b : Nat}
end RefW
section
variable {g k b : Nat} {w : World}
end
end Go.Proofs.Ytgelalbmhllccaa
/- The document's own relay in memory. -/
namespace Go.Proofs.Ytgelalbmhllccaa
open Go.RowKit Lin
set_option linter.unusedVariables false
set_option linter.unusedSimpArgs false
/-- A generation that was asked for, and its basis. -/
structure GenS where
  n : Nat
  q : Nat
  F : Nat → Prop
  B : List (List Nat)
section
variable {w w' : World} {F H : Nat → Prop} {p g s k b wb n c : Nat} {L : Nat → List (List Nat)} {A : Option Addr} {G : List GenS}
namespace RefYA
end RefYA
namespace RefYA
end RefYA
end
end Go.Proofs.Ytgelalbmhllccaa
/- The document's own window: In, End, Slot, Move; lists held side by side. -/
namespace Go.Proofs.Ytgelalbmhllccaa
open Go.RowKit
set_option linter.unusedVariables false
set_option linter.unusedSimpArgs false
section
variable {g k b : Nat} {w : World}
end
end Go.Proofs.Ytgelalbmhllccaa
/- The document's own relay: New, the basis of a generation. -/
namespace Go.Proofs.Ytgelalbmhllccaa
open Go.RowKit Lin
set_option linter.unusedVariables false
set_option linter.unusedSimpArgs false
section
variable {w : World} {F : Nat → Prop} {p g s k b wb n c : Nat} {L : Nat → List (List Nat)} {A : Option Addr} {G : List GenS}
end
end Go.Proofs.Ytgelalbmhllccaa
/- The document's own basis: Combine; a row of one's own. -/
namespace Go.Proofs.Ytgelalbmhllccaa
open Go.RowKit Lin
set_option linter.unusedVariables false
set_option linter.unusedSimpArgs false
/-- Rows being summed, in a box at qz. -/
structure CombI (w wr : World) (qz lo g s : Nat) (v : List Nat) (p : PairV) : Prop where
  row : wr.heap[qz]? = some (.cells #[p.a.val, p.b.val] 39 (0, 0))
  an : p.a.n = g
  bn : p.b.n = s
  a : LiesIn wr (fun b => lo ≤ b ∧ b < wr.heap.size) p.a
  b : LiesIn wr (fun b => lo ≤ b ∧ b < wr.heap.size) p.b
  xs : p.a.xs ++ p.b.xs = v
  keep : Keep w wr
theorem CombI.put {w wr w4 w5 : World} {qz lo g s : Nat} {v v' xs ys : List Nat} {p p' : PairV} (h : CombI w wr qz lo g s v p) (hb : w5.heap[qz]? = some (.cells #[p'.a.val, p'.b.val] 39 (0, 0))) (t : Turned (fun b => b = qz) w4 w5) (k4 : Keep wr w4) (hC : SumR wr.drew w4 g s xs ys p') (hlo : lo ≤ wr.heap.size) (hw : w.heap.size ≤ qz) (hx : p'.a.xs ++ p'.b.xs = v') : CombI w w5 qz lo g s v' p' := by
  have hq := (Array.getElem?_eq_some_iff.1 h.row).1
  have hd : ∀ b, (wr.heap.size ≤ b ∧ b < w4.heap.size) → ¬ b = qz := fun b hb => by omega
  have hm : ∀ b, (wr.heap.size ≤ b ∧ b < w4.heap.size) → (lo ≤ b ∧ b < w5.heap.size) := fun b hb => ⟨by omega, Nat.lt_of_lt_of_le hb.2 t.size⟩
  exact ⟨hb, hC.an, hC.bn, ((hC.a.lies.mono fun b hb => hC.a.1.lt b hb).turned t hd).mono hm, ((hC.b.lies.mono fun b hb => hC.b.1.lt b hb).turned t hd).mono hm, hx, t.keep (h.keep.trans k4) fun i e => by rw [e]; exact hw⟩
section
variable {w : World} {F G : Nat → Prop} {b g s bi br : Nat} {iv : List Bool} {R : List PairV} {B : List (List Nat)}
end
end Go.Proofs.Ytgelalbmhllccaa
/- The document's own basis: Solve, Same; a row in new memory. -/
namespace Go.Proofs.Ytgelalbmhllccaa
open Go.RowKit Lin
set_option linter.unusedVariables false
set_option linter.unusedSimpArgs false
section
variable {w : World} {F G : Nat → Prop} {b g s bi br : Nat} {iv : List Bool} {R : List PairV} {B : List (List Nat)}
end
end Go.Proofs.Ytgelalbmhllccaa
/- The document's own relay: Take, Solve, Rows, Rank, Clear. -/
namespace Go.Proofs.Ytgelalbmhllccaa
open Go.RowKit Lin
set_option linter.unusedVariables false
set_option linter.unusedSimpArgs false
section
variable {w w' w0 : World} {F H F2 : Nat → Prop} {p g s k b wb n c : Nat} {L : Nat → List (List Nat)} {A : Option Addr} {G : List GenS}
end
end Go.Proofs.Ytgelalbmhllccaa
/- The document's own draw: ref11's Coefs and Turn. -/
namespace Go.Proofs.Ytgelalbmhllccaa
open Go.RowKit
set_option linter.unusedVariables false
set_option linter.unusedSimpArgs false
end Go.Proofs.Ytgelalbmhllccaa
/- The document's own relay: Send, Rank, Clear. -/
namespace Go.Proofs.Ytgelalbmhllccaa
open Go.RowKit Lin
set_option linter.unusedVariables false
set_option linter.unusedSimpArgs false
section
variable {w w' w0 : World} {F H F2 : Nat → Prop} {p g s k b wb n c : Nat} {L : Nat → List (List Nat)} {A : Option Addr} {G : List GenS}
end
end Go.Proofs.Ytgelalbmhllccaa
/- The document's own relay: Ranks. -/
namespace Go.Proofs.Ytgelalbmhllccaa
open Go.RowKit Lin
set_option linter.unusedVariables false
set_option linter.unusedSimpArgs false
section
variable {w w' w0 : World} {F H F2 F3 : Nat → Prop} {p g s k b wb n c : Nat} {L L' : Nat → List (List Nat)} {A : Option Addr} {G : List GenS}
end
end Go.Proofs.Ytgelalbmhllccaa
/- The document's own relay: Move. -/
namespace Go.Proofs.Ytgelalbmhllccaa
open Go.RowKit Lin
set_option linter.unusedVariables false
set_option linter.unusedSimpArgs false
section
variable {w w' w0 w1 w2 : World} {F H F2 F3 : Nat → Prop} {p g s k b wb n c : Nat} {L L' : Nat → List (List Nat)} {A : Option Addr} {G : List GenS}
end
section
variable {w : World} {F : Nat → Prop} {p g s k b : Nat} {L : Nat → List (List Nat)}
end
end Go.Proofs.Ytgelalbmhllccaa
/- The landed relay: Copy. -/
namespace Go.Proofs.Ytgelalbmhllccaa
open Go.RowKit Lin
set_option linter.unusedVariables false
set_option linter.unusedSimpArgs false
section
variable {w : World} {F : Nat → Prop} {p g s k b wb : Nat} {L : Nat → List (List Nat)} {S : List Slot}
/-- The first i places are copied. -/
def Copied (w wr : World) (p wb g s : Nat) (S S' : List Slot) (i : Nat) : Prop :=
  RelC wr p wb g s S' ∧ (∀ j x, S'[j]? = some x → (j < i → ∃ y, S[j]? = some y ∧ (x.p = none ↔ y.p = none) ∧ x.B = y.B ∧ ∀ b, x.F b → w.heap.size ≤ b) ∧ (i ≤ j → x = Slot.none_)) ∧ Turned (fun j => j = p) w wr
theorem Copied.start (h : RelC w p wb g s slots0) : Copied w w p wb g s S slots0 0 := ⟨h, fun j x hx => ⟨fun e => by omega, fun _ => slots0_get hx⟩, Turned.refl _ _⟩
theorem Copied.step {w1 w2 : World} {S1 : List Slot} {i : Nat} {x y : Slot} (h : Copied w w1 p wb g s S S1 i) (k : Keep w1 w2) (hi : i < 16) (ok : x.Ok w2 g s) (hf : ∀ j, x.F j → w1.heap.size ≤ j) (hwb : wb < w1.heap.size) (hy : S[i]? = some y) (hp : x.p = none ↔ y.p = none) (hB : x.B = y.B) : Copied w (w2.setCell ⟨p, 3 + i, none⟩ x.val) p wb g s S (S1.set i x) (i + 1) := by
  refine ⟨h.1.set hi k ok hf hwb, fun j z hz => ?_, (h.2.2.then_keep k).trans (Turned.set (F := fun j => j = p) w2 ⟨p, 3 + i, none⟩ _ rfl) fun j e => Or.inl e⟩
  rcases set_get hz with ⟨rfl, rfl⟩ | ⟨hj, hz2⟩
  · exact ⟨fun _ => ⟨y, hy, hp, hB, fun b hb => Nat.le_trans h.2.2.size (hf b hb)⟩, fun e => by omega⟩
  · exact ⟨fun e => (h.2.1 j z hz2).1 (by omega), fun e => (h.2.1 j z hz2).2 (by omega)⟩
end
end Go.Proofs.Ytgelalbmhllccaa
/- Both relays side by side: the landed one and the document's own. -/
namespace Go.Proofs.Ytgelalbmhllccaa
open Go.RowKit Lin
set_option linter.unusedVariables false
namespace BothR
variable {W w w2 : World} {p p2 q g s k b b' b2 : Nat} {L L' L2 : Nat → List (List Nat)} {F F' F2 D : Nat → Prop}
end BothR
end Go.Proofs.Ytgelalbmhllccaa
/- The landed relay: Clear, of what may be asked. -/
namespace Go.Proofs.Ytgelalbmhllccaa
open Go.RowKit Lin
set_option linter.unusedVariables false
section
variable {w : World} {F : Nat → Prop} {p g s k b : Nat} {L : Nat → List (List Nat)}
end
end Go.Proofs.Ytgelalbmhllccaa
/- Each call of both relays in one contract, whatever it tells. -/
namespace Go.Proofs.Ytgelalbmhllccaa
open Go.RowKit Lin
set_option linter.unusedVariables false
set_option linter.unusedSimpArgs false
section
variable {w w' : World} {F H : Nat → Prop} {p g s k b : Nat} {L : Nat → List (List Nat)}
def yTakeT (g s k b : Nat) (L : Nat → List (List Nat)) (n na nb : Nat) (v : List Nat) : Bool := if winIn b k n = true ∧ na = g ∧ nb = s then !decide (inB g s (L n) v) else false
def yTakeE (g s k b n na nb : Nat) : Int := if winIn b k n = true then (if na = g ∧ nb = s then 0 else 21) else 23
def yTakeL (g s k b : Nat) (L : Nat → List (List Nat)) (n na nb : Nat) (v : List Nat) : Nat → List (List Nat) := if winIn b k n = true ∧ na = g ∧ nb = s then upd L n (insB g s (L n) v) else L
theorem rl_take_all (h : RelR w F p g s k b L) (n : Nat) (hn : n < 18446744073709551616) (B1 B2 na nb c1 c2 : Nat) (A1 A2 : Option Addr) (xs ys : List Nat) (hc1 : na ≤ c1) (hc2 : nb ≤ c2) (h1 : Bytes w B1 A1 na xs) (h2 : Bytes w B2 A2 nb ys) (hB1 : B1 ≤ w.heap.size) (hB2 : B2 ≤ w.heap.size) :
    Calls Try.prog 10 #[.pointer (some ⟨p, 0, none⟩), .int .u64 (n : Int), .agg #[.slice A1 na c1, .slice A2 nb c2]] w fun e w' => e = .returned (.tuple #[.bool (yTakeT g s k b L n na nb (xs ++ ys)), .int .i64 (yTakeE g s k b n na nb)]) ∧ ∃ F', RelR w' F' p g s k b (yTakeL g s k b L n na nb (xs ++ ys)) ∧ (∀ j, F' j → F j ∨ w.heap.size ≤ j) ∧ Turned F w w' := by
  cases hin : winIn b k n with
  | false =>
    refine (rl_take_out h n hn hin na nb c1 c2 A1 A2).mono ?_
    rintro e w1 ⟨rfl, k1⟩
    refine ⟨by simp [yTakeT, yTakeE, hin], F, ?_, fun j hj => Or.inl hj, Turned.of_keep k1⟩
    simp only [yTakeL, hin, Bool.false_eq_true, false_and, if_false]
    exact h.keep k1
  | true =>
    by_cases hd : na = g ∧ nb = s
    · obtain ⟨rfl, rfl⟩ := hd
      refine (rl_take_in h n hn hin B1 B2 c1 c2 A1 A2 xs ys hc1 hc2 h1 h2 hB1 hB2).mono ?_
      rintro e w1 ⟨rfl, F', r, f, t⟩
      refine ⟨by simp [yTakeT, yTakeE, hin], F', ?_, f, t⟩
      simp only [yTakeL, hin, and_self, if_true]
      exact r
    · refine (rl_take_dim h n hn hin na nb c1 c2 A1 A2 (by omega)).mono ?_
      rintro e w1 ⟨rfl, k1⟩
      refine ⟨by simp [yTakeT, yTakeE, hin, hd], F, ?_, fun j hj => Or.inl hj, Turned.of_keep k1⟩
      simp only [yTakeL, hin, true_and, hd, if_false]
      exact h.keep k1
def ySolveE (g k b : Nat) (L : Nat → List (List Nat)) (n : Nat) : Int := if winIn b k n = true then (if (L n).length = g then 0 else 24) else 23
def ySolveV (g k b : Nat) (L : Nat → List (List Nat)) (n : Nat) : List (List Nat) := if winIn b k n = true ∧ (L n).length = g then (L n).map (List.drop g) else []
theorem OwnRows.nilR (w : World) (base : Nat) : OwnRows w base 37 none 0 0 [] := World.ownsRow_nil w base _ 1
theorem rl_solve_all (h : RelR w F p g s k b L) (n : Nat) (hn : n < 18446744073709551616) :
    Calls Try.prog 28 #[.pointer (some ⟨p, 0, none⟩), .int .u64 (n : Int)] w fun e w' => ∃ A r c rs, e = .returned (.tuple #[.slice A r c, .int .i64 (ySolveE g k b L n)]) ∧ OwnRows w' w.heap.size 37 A r c rs ∧ (∀ x ∈ rs, Own w' w.heap.size 5 x.A x.n x.c x.xs) ∧ rowsXs rs = ySolveV g k b L n ∧ Keep w w' := by
  cases hin : winIn b k n with
  | false =>
    refine (rl_solve_out h n hn hin).mono ?_
    rintro e w1 ⟨rfl, rfl⟩
    exact ⟨none, 0, 0, [], by simp [ySolveE, hin], OwnRows.nilR _ _, fun x hx => by simp at hx, by simp [ySolveV, hin, rowsXs], Keep.refl _⟩
  | true =>
    by_cases h0 : (L n).length = g
    · refine (rl_solve_in h n hn hin h0).mono ?_
      rintro e w1 ⟨A, c, rs, rfl, o1, o2, o3, k1, -⟩
      exact ⟨A, g, c, rs, by simp [ySolveE, hin, h0], o1, o2, by rw [o3, ySolveV, if_pos ⟨hin, h0⟩], k1⟩
    · refine (rl_solve_low h n hn hin h0).mono ?_
      rintro e w1 ⟨rfl, k1⟩
      exact ⟨none, 0, 0, [], by simp [ySolveE, hin, h0], OwnRows.nilR _ _, fun x hx => by simp at hx, by simp [ySolveV, h0, rowsXs], k1⟩
end
end Go.Proofs.Ytgelalbmhllccaa
