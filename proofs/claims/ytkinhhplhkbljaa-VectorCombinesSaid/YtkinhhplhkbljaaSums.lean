/- The walk of VectorSums. -/
import Derived.Test.YtkinhhplhkbljaaWakes
import Derived.Test.YtkinhhplhkbljaaRegion
import Derived.Deep.RegionWith
import Derived.Deep.DeepCutAuto
namespace Go.Proofs.Ytkinhhplhkbljaa
open Go.RowKit
def sumOf (n m : Nat) (xs ys : List Nat) : List Nat := if n = m then vAdd n xs ys else []
def sumSOf (n m : Nat) (xs ys : List Nat) (c : Nat) : List Nat := if n = m then vAddS n xs ys c else []
def dotOf (n m : Nat) (xs ys : List Nat) : Nat := if n = m then vDot n xs ys else 0
def errOf (n m : Nat) : Int := if n = m then 0 else 21
theorem sumOf_le (n m : Nat) (xs ys : List Nat) : (sumOf n m xs ys).length ≤ n := by
  unfold sumOf; split
  · rw [vAdd, tab_length]; exact Nat.le_refl _
  · exact Nat.zero_le _
theorem sumSOf_le (n m : Nat) (xs ys : List Nat) (c : Nat) : (sumSOf n m xs ys c).length ≤ n := by
  unfold sumSOf; split
  · rw [vAddS, tab_length]; exact Nat.le_refl _
  · exact Nat.zero_le _
section
variable (B B' n m ca cb c : Nat) (A A' : Option Addr) (xs ys : List Nat) (w : World) (h : Bytes w B A n xs) (h' : Bytes w B' A' m ys) (hB : B ≤ w.heap.size) (hB' : B' ≤ w.heap.size) (hn : n ≤ 140737488351232)
include h h' hB hB' hn
theorem vadd_all : Calls Try.prog 11 #[.slice A n ca, .slice A' m cb] w (NewPair w (sumOf n m xs ys) (errOf n m)) := by
  by_cases e : n = m
  · subst e; rw [sumOf, errOf, if_pos rfl, if_pos rfl]; exact vadd_any B B' n ca cb A A' xs ys w h h' hB hB' hn
  · rw [sumOf, errOf, if_neg e, if_neg e]; exact vadd_apart n m ca cb A A' w e
theorem radd_all : Calls Try.prog 12 #[.slice A n ca, .slice A' m cb] w (NewPair w (sumOf n m xs ys) (errOf n m)) := by
  by_cases e : n = m
  · subst e; rw [sumOf, errOf, if_pos rfl, if_pos rfl]; exact radd_any B B' n ca cb A A' xs ys w h h' hB hB' hn
  · rw [sumOf, errOf, if_neg e, if_neg e]; exact radd_apart n m ca cb A A' w e
theorem vaddS_all (hc : c < 256) : Calls Try.prog 13 #[.slice A n ca, .slice A' m cb, .int .u8 c] w (NewPair w (sumSOf n m xs ys c) (errOf n m)) := by
  by_cases e : n = m
  · subst e; rw [sumSOf, errOf, if_pos rfl, if_pos rfl]; exact vaddS_any B B' n ca cb c A A' xs ys w h h' hB hB' hn hc
  · rw [sumSOf, errOf, if_neg e, if_neg e]; exact vaddS_apart n m ca cb c A A' w e
theorem raddS_all (hc : c < 256) : Calls Try.prog 14 #[.slice A n ca, .slice A' m cb, .int .u8 c] w (NewPair w (sumSOf n m xs ys c) (errOf n m)) := by
  by_cases e : n = m
  · subst e; rw [sumSOf, errOf, if_pos rfl, if_pos rfl]; exact raddS_any B B' n ca cb c A A' xs ys w h h' hB hB' hn hc
  · rw [sumSOf, errOf, if_neg e, if_neg e]; exact raddS_apart n m ca cb c A A' w e
theorem vdot_all : Calls Try.prog 15 #[.slice A n ca, .slice A' m cb] w fun e w' => e = .returned (.tuple #[.int .u8 (dotOf n m xs ys : Nat), .int .i64 (errOf n m)]) ∧ Keep w w' := by
  by_cases e : n = m
  · subst e; rw [dotOf, errOf, if_pos rfl, if_pos rfl]; exact vdot_any B B' n ca cb A A' xs ys w h h' hB hB' hn
  · rw [dotOf, errOf, if_neg e, if_neg e]; exact vdot_apart n m ca cb A A' w e
theorem rdot_all : Calls Try.prog 16 #[.slice A n ca, .slice A' m cb] w fun e w' => e = .returned (.tuple #[.int .u8 (dotOf n m xs ys : Nat), .int .i64 (errOf n m)]) ∧ Keep w w' := by
  by_cases e : n = m
  · subst e; rw [dotOf, errOf, if_pos rfl, if_pos rfl]; exact rdot_any B B' n ca cb A A' xs ys w h h' hB hB' hn
  · rw [dotOf, errOf, if_neg e, if_neg e]; exact rdot_apart n m ca cb A A' w e
end
theorem vzero_eq (B n ca : Nat) (A : Option Addr) (xs : List Nat) (w : World) (h : Bytes w B A n xs) (hn : n ≤ 140737488351232) :
    Calls Try.prog 21 #[.slice A n ca] w fun e w' => e = .returned (.bool (decide (vLead n xs < 0))) ∧ w = w' := by
  go_enter Try.func21, Try.ntmps21
  go_wp2_with fail
  refine (vlead_eq B n ca A xs w h hn).mono ?_
  rintro e w1 ⟨rfl, rfl⟩
  go_wp2_with fail
  go_ret
  exact ⟨rfl, rfl⟩
theorem str_later {w : World} {B n c : Nat} {A : Option Addr} {xs : List Nat} (h : Bytes w B A n xs) (hB : B ≤ w.heap.size) : ∀ w', Keep w w' → (convert 22 9 (.slice A n c)).run Try.prog w' = .ok (.string (strN xs)) w' :=
  fun _ k => run_str (h.keep hB k) Try.underlying22 Try.underlying5 Try.underlying9 c
theorem index_three (a b c : Value) (w : World) : (Instr.index 38 (.agg #[a, b, c]) (.int .i64 0)).run Try.prog w = .ok a w ∧ (Instr.index 38 (.agg #[a, b, c]) (.int .i64 1)).run Try.prog w = .ok b w ∧ (Instr.index 38 (.agg #[a, b, c]) (.int .i64 2)).run Try.prog w = .ok c w := by
  have h : Try.prog.underlying 38 = some (.array 3 22) := Try.underlying38
  refine ⟨?_, ?_, ?_⟩ <;> simp [Instr.index, run_underlying h, asIntOf, go_sem]
/-- A slice of one's own, whatever it holds. -/
def Mine (w wr : World) (A : Option Addr) (n c : Nat) : Prop := ∃ xs, Own wr w.heap.size 5 A n c xs
theorem Mine.at_ {w wr : World} {A : Option Addr} {n c k : Nat} (h : Mine w wr A n c) (hk : k < n) :
    ∃ g v : Nat, A = some ⟨g, 0, none⟩ ∧ w.heap.size ≤ g ∧ v < 256 ∧ wr.cell? ⟨g, k, none⟩ = some (.int .u8 (v : Int)) ∧ wr.frozen? ⟨g, k, none⟩ = false := by
  obtain ⟨xs, h⟩ := h
  obtain ⟨g, rfl, hg, _⟩ := h.block (by omega)
  exact ⟨g, xs.getD k 0, rfl, hg, h.2.getD k, h.cell hk, h.frozen k⟩
theorem Mine.set {w wr : World} {A : Option Addr} {n c : Nat} (h : Mine w wr A n c) (g k v : Nat) (hv : v < 256) : Mine w (wr.setCell ⟨g, k, none⟩ (.int .u8 (v : Int))) A n c := by
  obtain ⟨xs, h⟩ := h
  by_cases e : (Value.slice A n c).ownBlock = some g
  · rcases h.1.2 with ⟨hv', _⟩ | ⟨g', cap, cur, hv', _⟩
    · rw [hv'] at e; cases e
    · rw [hv'] at e
      obtain rfl : g' = g := by simpa [Value.ownBlock] using e
      injection hv' with e1 e2 e3
      subst e1
      exact ⟨_, h.stored (i := k) hv⟩
  · exact ⟨xs, h.far e _⟩
theorem Mine.keep {w wr w' : World} {A : Option Addr} {n c : Nat} (h : Mine w wr A n c) (k : Keep wr w') : Mine w w' A n c := by
  obtain ⟨xs, h⟩ := h; exact ⟨xs, h.keep k⟩
theorem Mine.of {w w1 w2 : World} {A : Option Addr} {n c : Nat} {xs : List Nat} (h : Own w2 w1.heap.size 5 A n c xs) (k : Keep w w1) : Mine w w2 A n c := ⟨xs, h.lower k.size⟩
set_option maxRecDepth 100000 in
set_option linter.unusedSimpArgs false in
set_option linter.unusedVariables false in
set_option maxHeartbeats 8000000 in
theorem sums_any (na ca nb cb x : Nat) (A1 A2 : Option Addr) (xs ys : List Nat) (w : World) (h1 : Bytes w w.heap.size A1 na xs) (h2 : Bytes w w.heap.size A2 nb ys)
    (m1 : na ≤ 140737488351232) (m2 : nb ≤ 140737488351232) (q1 : na ≤ ca) (q2 : nb ≤ cb) (hx : x < 256) :
    Calls Try.prog 3 #[.slice A1 na ca, .slice A2 nb cb, .int .u8 x] w fun e w' => e = .returned (.bool true) ∧ Keep w w' := by
  obtain ⟨LA, hLA⟩ : ∃ l, sumOf na nb xs ys = l := ⟨_, rfl⟩
  obtain ⟨LS, hLS⟩ : ∃ l, sumSOf na nb xs ys x = l := ⟨_, rfl⟩
  obtain ⟨LC, hLC⟩ : ∃ l, vScale na xs x = l := ⟨_, rfl⟩
  obtain ⟨dt, hdt⟩ : ∃ l, dotOf na nb xs ys = l := ⟨_, rfl⟩
  obtain ⟨er, her⟩ : ∃ l, errOf na nb = l := ⟨_, rfl⟩
  obtain ⟨ld, hld⟩ : ∃ l, vLead na xs = l := ⟨_, rfl⟩
  have HLA := Lib.hid hLA
  have HLS := Lib.hid hLS
  have HLC := Lib.hid hLC
  have HDT := Lib.hid hdt
  have HER := Lib.hid her
  have HLD := Lib.hid hld
  have B1 := Lib.hid h1
  have B2 := Lib.hid h2
  have K0 := Lib.hid (Keep.refl w)
  clear hLA hLS hLC hdt her hld h1 h2
  go_enter Try.func3, Try.ntmps3
  go_wp2_with fail
  refine (own_any _ na _ _ _ _ B1.out m1).mono ?_
  rintro e w1 ⟨P1, n1, c1, rfl, o1, s1⟩
  obtain rfl : n1 = na := o1.length.symm.trans B1.out.length
  have O1 := Lib.hid o1
  have S1 := Lib.hid s1
  have K1 := Lib.hid (Keep.trans K0.out S1.out)
  clear o1 s1
  go_wp2_with fail
  refine (own_any _ nb _ _ _ _ (B2.out.keep (Nat.le_refl _) K1.out) m2).mono ?_
  rintro e w2 ⟨P2, n2, c2, rfl, o2, s2⟩
  obtain rfl : n2 = nb := o2.length.symm.trans B2.out.length
  have O2 := Lib.hid o2
  have S2 := Lib.hid s2
  have K2 := Lib.hid (Keep.trans K1.out S2.out)
  clear o2 s2
  go_wp2_with fail
  refine (vadd_all _ _ n1 n2 _ _ _ _ _ _ _ (O1.out.bytes.keep (Nat.le_refl _) (S2.out)) O2.out.bytes (S2.out).size (Nat.le_refl _) m1).mono ?_
  rw [HLA.out, HER.out]
  rintro e w3 ⟨P3, n3, c3, rfl, o3, s3⟩
  have O3 := Lib.hid o3
  clear o3
  have S3 := Lib.hid s3
  have K3 := Lib.hid (Keep.trans K2.out S3.out)
  clear s3
  go_wp2_with fail
  refine (radd_all _ _ n1 n2 _ _ _ _ _ _ _ (B1.out.keep (Nat.le_refl _) K3.out) (B2.out.keep (Nat.le_refl _) K3.out) K3.out.size K3.out.size m1).mono ?_
  rw [HLA.out, HER.out]
  rintro e w4 ⟨P4, n4, c4, rfl, o4, s4⟩
  have O4 := Lib.hid o4
  clear o4
  have S4 := Lib.hid s4
  have K4 := Lib.hid (Keep.trans K3.out S4.out)
  clear s4
  go_wp2_with fail
  refine (vaddS_all _ _ n1 n2 _ _ _ _ _ _ _ _ (O1.out.bytes.keep (Nat.le_refl _) (Keep.trans S2.out (Keep.trans S3.out (S4.out)))) (O2.out.bytes.keep (Nat.le_refl _) (Keep.trans S3.out (S4.out))) (Keep.trans S2.out (Keep.trans S3.out (S4.out))).size (Keep.trans S3.out (S4.out)).size m1 hx).mono ?_
  rw [HLS.out, HER.out]
  rintro e w5 ⟨P5, n5, c5, rfl, o5, s5⟩
  have O5 := Lib.hid o5
  clear o5
  have S5 := Lib.hid s5
  have K5 := Lib.hid (Keep.trans K4.out S5.out)
  clear s5
  go_wp2_with fail
  refine (raddS_all _ _ n1 n2 _ _ _ _ _ _ _ _ (B1.out.keep (Nat.le_refl _) K5.out) (B2.out.keep (Nat.le_refl _) K5.out) K5.out.size K5.out.size m1 hx).mono ?_
  rw [HLS.out, HER.out]
  rintro e w6 ⟨P6, n6, c6, rfl, o6, s6⟩
  have O6 := Lib.hid o6
  clear o6
  have S6 := Lib.hid s6
  have K6 := Lib.hid (Keep.trans K5.out S6.out)
  clear s6
  go_wp2_with fail
  refine (vdot_all _ _ n1 n2 _ _ _ _ _ _ _ (O1.out.bytes.keep (Nat.le_refl _) (Keep.trans S2.out (Keep.trans S3.out (Keep.trans S4.out (Keep.trans S5.out (S6.out)))))) (O2.out.bytes.keep (Nat.le_refl _) (Keep.trans S3.out (Keep.trans S4.out (Keep.trans S5.out (S6.out))))) (Keep.trans S2.out (Keep.trans S3.out (Keep.trans S4.out (Keep.trans S5.out (S6.out))))).size (Keep.trans S3.out (Keep.trans S4.out (Keep.trans S5.out (S6.out)))).size m1).mono ?_
  rw [HDT.out, HER.out]
  rintro e w7 ⟨rfl, s7⟩
  have S7 := Lib.hid s7
  have K7 := Lib.hid (Keep.trans K6.out S7.out)
  clear s7
  go_wp2_with fail
  refine (rdot_all _ _ n1 n2 _ _ _ _ _ _ _ (B1.out.keep (Nat.le_refl _) K7.out) (B2.out.keep (Nat.le_refl _) K7.out) K7.out.size K7.out.size m1).mono ?_
  rw [HDT.out, HER.out]
  rintro e w8 ⟨rfl, s8⟩
  have S8 := Lib.hid s8
  have K8 := Lib.hid (Keep.trans K7.out S8.out)
  clear s8
  go_wp2_with fail
  refine (vscale_any _ n1 _ _ _ _ _ (O1.out.bytes.keep (Nat.le_refl _) (Keep.trans S2.out (Keep.trans S3.out (Keep.trans S4.out (Keep.trans S5.out (Keep.trans S6.out (Keep.trans S7.out (S8.out)))))))) (Keep.trans S2.out (Keep.trans S3.out (Keep.trans S4.out (Keep.trans S5.out (Keep.trans S6.out (Keep.trans S7.out (S8.out))))))).size m1 hx).mono ?_
  rw [HLC.out]
  rintro e w9 ⟨P9, n9, c9, rfl, o9, s9⟩
  have O9 := Lib.hid o9
  clear o9
  have S9 := Lib.hid s9
  have K9 := Lib.hid (Keep.trans K8.out S9.out)
  clear s9
  go_wp2_with fail
  have To3 := Lib.hid (str_later (c := c3) (O3.out.bytes.keep (Nat.le_refl _) (Keep.trans S4.out (Keep.trans S5.out (Keep.trans S6.out (Keep.trans S7.out (Keep.trans S8.out (S9.out))))))) (Keep.trans S4.out (Keep.trans S5.out (Keep.trans S6.out (Keep.trans S7.out (Keep.trans S8.out (S9.out)))))).size)
  have To4 := Lib.hid (str_later (c := c4) (O4.out.bytes.keep (Nat.le_refl _) (Keep.trans S5.out (Keep.trans S6.out (Keep.trans S7.out (Keep.trans S8.out (S9.out)))))) (Keep.trans S5.out (Keep.trans S6.out (Keep.trans S7.out (Keep.trans S8.out (S9.out))))).size)
  have To5 := Lib.hid (str_later (c := c5) (O5.out.bytes.keep (Nat.le_refl _) (Keep.trans S6.out (Keep.trans S7.out (Keep.trans S8.out (S9.out))))) (Keep.trans S6.out (Keep.trans S7.out (Keep.trans S8.out (S9.out)))).size)
  have To6 := Lib.hid (str_later (c := c6) (O6.out.bytes.keep (Nat.le_refl _) (Keep.trans S7.out (Keep.trans S8.out (S9.out)))) (Keep.trans S7.out (Keep.trans S8.out (S9.out))).size)
  have To9 := Lib.hid (str_later (c := c9) O9.out.bytes (Nat.le_refl _))
  have z : Keep w9 w9.drew := Keep.drew (Keep.refl _)
  refine wp_region_noPanic ?_
  refine wp_region_held_drew (S := (fun w' => (convert 22 9 (.slice P3 n3 c3)).run Try.prog w' = .ok (.string (strN LA)) w' ∧ (convert 22 9 (.slice P4 n4 c4)).run Try.prog w' = .ok (.string (strN LA)) w' ∧ (convert 22 9 (.slice P5 n5 c5)).run Try.prog w' = .ok (.string (strN LS)) w' ∧ (convert 22 9 (.slice P6 n6 c6)).run Try.prog w' = .ok (.string (strN LS)) w' ∧ (convert 22 9 (.slice P9 n9 c9)).run Try.prog w' = .ok (.string (strN LC)) w')) (by kernel_rfl) (⟨To3.out _ z, To4.out _ z, To5.out _ z, To6.out _ z, To9.out _ z⟩) (fun hHeld => ?_)
  refine wpAnyH_take (i := 0) (v := ?_) rfl (by kernel_rfl) (by kernel_rfl) (by kernel_rfl) (fun _ _ _ h => h) (Or.inl ⟨by rfl, ?_⟩) hHeld ?_
  rotate_left
  · intro wq hSw
    try dsimp only at hSw
    go_simp
    all_goals with_reducible rfl
  try simp only [Act.put, List.getElem_toArray, List.getElem_cons_succ, List.getElem_cons_zero, List.setIfInBounds_toArray, List.set_cons_zero, List.set_cons_succ]
  refine wpAnyH_take (i := 1) (v := ?_) rfl (by kernel_rfl) (by kernel_rfl) (by kernel_rfl) (fun _ _ _ h => h) (Or.inl ⟨by rfl, ?_⟩) hHeld ?_
  rotate_left
  · intro wq hSw
    try dsimp only at hSw
    go_simp
    all_goals with_reducible rfl
  try simp only [Act.put, List.getElem_toArray, List.getElem_cons_succ, List.getElem_cons_zero, List.setIfInBounds_toArray, List.set_cons_zero, List.set_cons_succ]
  refine wpAnyH_take (i := 2) (v := ?_) rfl (by kernel_rfl) (by kernel_rfl) (by kernel_rfl) (fun _ _ _ h => h) (Or.inl ⟨by rfl, ?_⟩) hHeld ?_
  rotate_left
  · intro wq hSw
    try dsimp only at hSw
    go_simp
    all_goals with_reducible rfl
  try simp only [Act.put, List.getElem_toArray, List.getElem_cons_succ, List.getElem_cons_zero, List.setIfInBounds_toArray, List.set_cons_zero, List.set_cons_succ]
  refine wpAnyH_take (i := 3) (v := ?_) rfl (by kernel_rfl) (by kernel_rfl) (by kernel_rfl) (fun _ _ _ h => h) (Or.inl ⟨by rfl, ?_⟩) hHeld ?_
  rotate_left
  · intro wq hSw
    try dsimp only at hSw
    go_simp
    all_goals with_reducible rfl
  try simp only [Act.put, List.getElem_toArray, List.getElem_cons_succ, List.getElem_cons_zero, List.setIfInBounds_toArray, List.set_cons_zero, List.set_cons_succ]
  refine wpAnyH_take (i := 4) (v := ?_) rfl (by kernel_rfl) (by kernel_rfl) (by kernel_rfl) (fun _ _ _ h => h) (Or.inl ⟨by rfl, ?_⟩) hHeld ?_
  rotate_left
  · intro wq hSw
    try dsimp only at hSw
    go_simp
    all_goals with_reducible rfl
  try simp only [Act.put, List.getElem_toArray, List.getElem_cons_succ, List.getElem_cons_zero, List.setIfInBounds_toArray, List.set_cons_zero, List.set_cons_succ]
  refine wpAnyH_take (i := 5) (v := ?_) rfl (by kernel_rfl) (by kernel_rfl) (by kernel_rfl) (fun _ _ _ h => h) (Or.inl ⟨by rfl, ?_⟩) hHeld ?_
  rotate_left
  · intro wq hSw
    try dsimp only at hSw
    go_simp
    all_goals with_reducible rfl
  try simp only [Act.put, List.getElem_toArray, List.getElem_cons_succ, List.getElem_cons_zero, List.setIfInBounds_toArray, List.set_cons_zero, List.set_cons_succ]
  refine wpAnyH_take (i := 6) (v := ?_) rfl (by kernel_rfl) (by kernel_rfl) (by kernel_rfl) (fun _ _ _ h => h) (Or.inl ⟨by rfl, ?_⟩) hHeld ?_
  rotate_left
  · intro wq hSw
    try dsimp only at hSw
    go_simp
    all_goals with_reducible rfl
  try simp only [Act.put, List.getElem_toArray, List.getElem_cons_succ, List.getElem_cons_zero, List.setIfInBounds_toArray, List.set_cons_zero, List.set_cons_succ]
  refine wpAnyH_take (i := 7) (v := ?_) rfl (by kernel_rfl) (by kernel_rfl) (by kernel_rfl) (fun _ _ _ h => h) (Or.inl ⟨by rfl, ?_⟩) hHeld ?_
  rotate_left
  · intro wq hSw
    try dsimp only at hSw
    go_simp
    all_goals with_reducible rfl
  try simp only [Act.put, List.getElem_toArray, List.getElem_cons_succ, List.getElem_cons_zero, List.setIfInBounds_toArray, List.set_cons_zero, List.set_cons_succ]
  refine wpAnyH_take (i := 8) (v := ?_) rfl (by kernel_rfl) (by kernel_rfl) (by kernel_rfl) (fun _ _ _ h => h) (Or.inl ⟨by rfl, ?_⟩) hHeld ?_
  rotate_left
  · intro wq hSw
    try dsimp only at hSw
    go_simp
    all_goals with_reducible rfl
  try simp only [Act.put, List.getElem_toArray, List.getElem_cons_succ, List.getElem_cons_zero, List.setIfInBounds_toArray, List.set_cons_zero, List.set_cons_succ]
  refine wpAnyH_take (i := 9) (v := ?_) rfl (by kernel_rfl) (by kernel_rfl) (by kernel_rfl) (fun _ _ _ h => h) (Or.inl ⟨by rfl, ?_⟩) hHeld ?_
  rotate_left
  · intro wq hSw
    try dsimp only at hSw
    go_simp
    all_goals with_reducible rfl
  try simp only [Act.put, List.getElem_toArray, List.getElem_cons_succ, List.getElem_cons_zero, List.setIfInBounds_toArray, List.set_cons_zero, List.set_cons_succ]
  refine wpAnyH_take (i := 10) (v := ?_) rfl (by kernel_rfl) (by kernel_rfl) (by kernel_rfl) (fun _ _ _ h => h) (Or.inl ⟨by rfl, ?_⟩) hHeld ?_
  rotate_left
  · intro wq hSw
    try dsimp only at hSw
    go_simp
    all_goals with_reducible rfl
  try simp only [Act.put, List.getElem_toArray, List.getElem_cons_succ, List.getElem_cons_zero, List.setIfInBounds_toArray, List.set_cons_zero, List.set_cons_succ]
  refine wpAnyH_take (i := 11) (v := ?_) rfl (by kernel_rfl) (by kernel_rfl) (by kernel_rfl) (fun _ _ _ h => h) (Or.inl ⟨by rfl, ?_⟩) hHeld ?_
  rotate_left
  · intro wq hSw
    try dsimp only at hSw
    go_simp
    all_goals with_reducible rfl
  try simp only [Act.put, List.getElem_toArray, List.getElem_cons_succ, List.getElem_cons_zero, List.setIfInBounds_toArray, List.set_cons_zero, List.set_cons_succ]
  refine wpAnyH_take (i := 12) (v := ?_) rfl (by kernel_rfl) (by kernel_rfl) (by kernel_rfl) (fun _ _ _ h => h) (Or.inl ⟨by rfl, ?_⟩) hHeld ?_
  rotate_left
  · intro wq hSw
    try dsimp only at hSw
    go_simp
    all_goals with_reducible rfl
  try simp only [Act.put, List.getElem_toArray, List.getElem_cons_succ, List.getElem_cons_zero, List.setIfInBounds_toArray, List.set_cons_zero, List.set_cons_succ]
  refine wpAnyH_take (i := 13) (v := ?_) rfl (by kernel_rfl) (by kernel_rfl) (by kernel_rfl) (fun _ _ _ h => h) (Or.inl ⟨by rfl, ?_⟩) hHeld ?_
  rotate_left
  · intro wq hSw
    try dsimp only at hSw
    go_simp
    all_goals with_reducible rfl
  try simp only [Act.put, List.getElem_toArray, List.getElem_cons_succ, List.getElem_cons_zero, List.setIfInBounds_toArray, List.set_cons_zero, List.set_cons_succ]
  refine wpAnyH_take (i := 14) (v := ?_) rfl (by kernel_rfl) (by kernel_rfl) (by kernel_rfl) (fun _ _ _ h => h) (Or.inl ⟨by rfl, ?_⟩) hHeld ?_
  rotate_left
  · intro wq hSw
    try dsimp only at hSw
    go_simp
    all_goals with_reducible rfl
  try simp only [Act.put, List.getElem_toArray, List.getElem_cons_succ, List.getElem_cons_zero, List.setIfInBounds_toArray, List.set_cons_zero, List.set_cons_succ]
  refine wpAnyH_take (i := 15) (v := ?_) rfl (by kernel_rfl) (by kernel_rfl) (by kernel_rfl) (fun _ _ _ h => h) (Or.inl ⟨by rfl, ?_⟩) hHeld ?_
  rotate_left
  · intro wq hSw
    try dsimp only at hSw
    go_simp
    all_goals with_reducible rfl
  try simp only [Act.put, List.getElem_toArray, List.getElem_cons_succ, List.getElem_cons_zero, List.setIfInBounds_toArray, List.set_cons_zero, List.set_cons_succ]
  refine wpAnyH_take (i := 16) (v := ?_) rfl (by kernel_rfl) (by kernel_rfl) (by kernel_rfl) (fun _ _ _ h => h) (Or.inl ⟨by rfl, ?_⟩) hHeld ?_
  rotate_left
  · intro wq hSw
    try dsimp only at hSw
    go_simp
    all_goals with_reducible rfl
  try simp only [Act.put, List.getElem_toArray, List.getElem_cons_succ, List.getElem_cons_zero, List.setIfInBounds_toArray, List.set_cons_zero, List.set_cons_succ]
  refine wpAnyH_take (i := 17) (v := ?_) rfl (by kernel_rfl) (by kernel_rfl) (by kernel_rfl) (fun _ _ _ h => h) (Or.inl ⟨by rfl, ?_⟩) hHeld ?_
  rotate_left
  · intro wq hSw
    try dsimp only at hSw
    go_simp
    all_goals with_reducible rfl
  try simp only [Act.put, List.getElem_toArray, List.getElem_cons_succ, List.getElem_cons_zero, List.setIfInBounds_toArray, List.set_cons_zero, List.set_cons_succ]
  refine wpAnyH_take (i := 18) (v := ?_) rfl (by kernel_rfl) (by kernel_rfl) (by kernel_rfl) (fun _ _ _ h => h) (Or.inl ⟨by rfl, ?_⟩) hHeld ?_
  rotate_left
  · intro wq hSw
    try dsimp only at hSw
    go_simp
    all_goals with_reducible rfl
  try simp only [Act.put, List.getElem_toArray, List.getElem_cons_succ, List.getElem_cons_zero, List.setIfInBounds_toArray, List.set_cons_zero, List.set_cons_succ]
  refine wpAnyH_take (i := 19) (v := ?_) rfl (by kernel_rfl) (by kernel_rfl) (by kernel_rfl) (fun _ _ _ h => h) (Or.inl ⟨by rfl, ?_⟩) hHeld ?_
  rotate_left
  · intro wq hSw
    try dsimp only at hSw
    go_simp
    all_goals with_reducible rfl
  try simp only [Act.put, List.getElem_toArray, List.getElem_cons_succ, List.getElem_cons_zero, List.setIfInBounds_toArray, List.set_cons_zero, List.set_cons_succ]
  refine wpAnyH_take (i := 20) (v := ?_) rfl (by kernel_rfl) (by kernel_rfl) (by kernel_rfl) (fun _ _ _ h => h) (Or.inl ⟨by rfl, ?_⟩) hHeld ?_
  rotate_left
  · intro wq hSw
    try dsimp only at hSw
    go_simp
    all_goals with_reducible rfl
  try simp only [Act.put, List.getElem_toArray, List.getElem_cons_succ, List.getElem_cons_zero, List.setIfInBounds_toArray, List.set_cons_zero, List.set_cons_succ]
  refine wpAnyH_take (i := 21) (v := ?_) rfl (by kernel_rfl) (by kernel_rfl) (by kernel_rfl) (fun _ _ _ h => h) (Or.inl ⟨by rfl, ?_⟩) hHeld ?_
  rotate_left
  · intro wq hSw
    try dsimp only at hSw
    go_simp
    all_goals with_reducible rfl
  try simp only [Act.put, List.getElem_toArray, List.getElem_cons_succ, List.getElem_cons_zero, List.setIfInBounds_toArray, List.set_cons_zero, List.set_cons_succ]
  refine wpAnyH_take (i := 22) (v := ?_) rfl (by kernel_rfl) (by kernel_rfl) (by kernel_rfl) (fun _ _ _ h => h) (Or.inl ⟨by rfl, ?_⟩) hHeld ?_
  rotate_left
  · intro wq hSw
    try dsimp only at hSw
    go_simp
    all_goals with_reducible rfl
  try simp only [Act.put, List.getElem_toArray, List.getElem_cons_succ, List.getElem_cons_zero, List.setIfInBounds_toArray, List.set_cons_zero, List.set_cons_succ]
  refine wpAnyH_take (i := 23) (v := ?_) rfl (by kernel_rfl) (by kernel_rfl) (by kernel_rfl) (fun _ _ _ h => h) (Or.inl ⟨by rfl, ?_⟩) hHeld ?_
  rotate_left
  · intro wq hSw
    try dsimp only at hSw
    go_simp
    all_goals with_reducible rfl
  try simp only [Act.put, List.getElem_toArray, List.getElem_cons_succ, List.getElem_cons_zero, List.setIfInBounds_toArray, List.set_cons_zero, List.set_cons_succ]
  refine wpAnyH_take (i := 24) (v := ?_) rfl (by kernel_rfl) (by kernel_rfl) (by kernel_rfl) (fun _ _ _ h => h) (Or.inl ⟨by rfl, ?_⟩) hHeld ?_
  rotate_left
  · intro wq hSw
    try dsimp only at hSw
    go_simp
    all_goals with_reducible rfl
  try simp only [Act.put, List.getElem_toArray, List.getElem_cons_succ, List.getElem_cons_zero, List.setIfInBounds_toArray, List.set_cons_zero, List.set_cons_succ]
  refine wpAnyH_take (i := 25) (v := ?_) rfl (by kernel_rfl) (by kernel_rfl) (by kernel_rfl) (fun _ _ _ h => h) (Or.inl ⟨by rfl, ?_⟩) hHeld ?_
  rotate_left
  · intro wq hSw
    try dsimp only at hSw
    go_simp
    all_goals with_reducible rfl
  try simp only [Act.put, List.getElem_toArray, List.getElem_cons_succ, List.getElem_cons_zero, List.setIfInBounds_toArray, List.set_cons_zero, List.set_cons_succ]
  refine wpAnyH_take (i := 26) (v := ?_) rfl (by kernel_rfl) (by kernel_rfl) (by kernel_rfl) (fun _ _ _ h => h) (Or.inl ⟨by rfl, ?_⟩) hHeld ?_
  rotate_left
  · intro wq hSw
    try dsimp only at hSw
    go_simp
    all_goals with_reducible rfl
  try simp only [Act.put, List.getElem_toArray, List.getElem_cons_succ, List.getElem_cons_zero, List.setIfInBounds_toArray, List.set_cons_zero, List.set_cons_succ]
  refine wpAnyH_take (i := 27) (v := ?_) rfl (by kernel_rfl) (by kernel_rfl) (by kernel_rfl) (fun _ _ _ h => h) (Or.inl ⟨by rfl, ?_⟩) hHeld ?_
  rotate_left
  · intro wq hSw
    try dsimp only at hSw
    go_simp
    all_goals with_reducible rfl
  try simp only [Act.put, List.getElem_toArray, List.getElem_cons_succ, List.getElem_cons_zero, List.setIfInBounds_toArray, List.set_cons_zero, List.set_cons_succ]
  refine wpAnyH_take (i := 28) (v := ?_) rfl (by kernel_rfl) (by kernel_rfl) (by kernel_rfl) (fun _ _ _ h => h) (Or.inl ⟨by rfl, ?_⟩) hHeld ?_
  rotate_left
  · intro wq hSw
    try dsimp only at hSw
    go_simp
    all_goals with_reducible rfl
  try simp only [Act.put, List.getElem_toArray, List.getElem_cons_succ, List.getElem_cons_zero, List.setIfInBounds_toArray, List.set_cons_zero, List.set_cons_succ]
  refine wpAnyH_take (i := 29) (v := ?_) rfl (by kernel_rfl) (by kernel_rfl) (by kernel_rfl) (fun _ _ _ h => h) (Or.inl ⟨by rfl, ?_⟩) hHeld ?_
  rotate_left
  · intro wq hSw
    try dsimp only at hSw
    go_simp
    all_goals with_reducible rfl
  try simp only [Act.put, List.getElem_toArray, List.getElem_cons_succ, List.getElem_cons_zero, List.setIfInBounds_toArray, List.set_cons_zero, List.set_cons_succ]
  refine wpAnyH_take (i := 30) (v := ?_) rfl (by kernel_rfl) (by kernel_rfl) (by kernel_rfl) (fun _ _ _ h => h) (Or.inl ⟨by rfl, ?_⟩) hHeld ?_
  rotate_left
  · intro wq hSw
    try dsimp only at hSw
    go_simp
    all_goals with_reducible rfl
  try simp only [Act.put, List.getElem_toArray, List.getElem_cons_succ, List.getElem_cons_zero, List.setIfInBounds_toArray, List.set_cons_zero, List.set_cons_succ]
  refine wpAnyH_take (i := 31) (v := ?_) rfl (by kernel_rfl) (by kernel_rfl) (by kernel_rfl) (fun _ _ _ h => h) (Or.inl ⟨by rfl, ?_⟩) hHeld ?_
  rotate_left
  · intro wq hSw
    try dsimp only at hSw
    go_simp
    all_goals with_reducible rfl
  try simp only [Act.put, List.getElem_toArray, List.getElem_cons_succ, List.getElem_cons_zero, List.setIfInBounds_toArray, List.set_cons_zero, List.set_cons_succ]
  refine wpAnyH_take (i := 32) (v := ?_) rfl (by kernel_rfl) (by kernel_rfl) (by kernel_rfl) (fun _ _ _ h => h) (Or.inl ⟨by rfl, ?_⟩) hHeld ?_
  rotate_left
  · intro wq hSw
    try dsimp only at hSw
    go_simp
    all_goals with_reducible rfl
  try simp only [Act.put, List.getElem_toArray, List.getElem_cons_succ, List.getElem_cons_zero, List.setIfInBounds_toArray, List.set_cons_zero, List.set_cons_succ]
  refine wpAnyH_take (i := 33) (v := ?_) rfl (by kernel_rfl) (by kernel_rfl) (by kernel_rfl) (fun _ _ _ h => h) (Or.inl ⟨by rfl, ?_⟩) hHeld ?_
  rotate_left
  · intro wq hSw
    try dsimp only at hSw
    go_simp
    all_goals with_reducible rfl
  try simp only [Act.put, List.getElem_toArray, List.getElem_cons_succ, List.getElem_cons_zero, List.setIfInBounds_toArray, List.set_cons_zero, List.set_cons_succ]
  refine wpAnyH_take (i := 34) (v := ?_) rfl (by kernel_rfl) (by kernel_rfl) (by kernel_rfl) (fun _ _ _ h => h) (Or.inl ⟨by rfl, ?_⟩) hHeld ?_
  rotate_left
  · intro wq hSw
    try dsimp only at hSw
    go_simp
    all_goals with_reducible rfl
  try simp only [Act.put, List.getElem_toArray, List.getElem_cons_succ, List.getElem_cons_zero, List.setIfInBounds_toArray, List.set_cons_zero, List.set_cons_succ]
  refine wpAnyH_take (i := 35) (v := ?_) rfl (by kernel_rfl) (by kernel_rfl) (by kernel_rfl) (fun _ _ _ h => h) (Or.inl ⟨by rfl, ?_⟩) hHeld ?_
  rotate_left
  · intro wq hSw
    try dsimp only at hSw
    go_simp
    all_goals with_reducible rfl
  try simp only [Act.put, List.getElem_toArray, List.getElem_cons_succ, List.getElem_cons_zero, List.setIfInBounds_toArray, List.set_cons_zero, List.set_cons_succ]
  refine wpAnyH_take (i := 36) (v := ?_) rfl (by kernel_rfl) (by kernel_rfl) (by kernel_rfl) (fun _ _ _ h => h) (Or.inl ⟨by rfl, ?_⟩) hHeld ?_
  rotate_left
  · intro wq hSw
    try dsimp only at hSw
    go_simp
    all_goals with_reducible rfl
  try simp only [Act.put, List.getElem_toArray, List.getElem_cons_succ, List.getElem_cons_zero, List.setIfInBounds_toArray, List.set_cons_zero, List.set_cons_succ]
  refine wpAnyH_ready (rs := [37]) (by kernel_rfl) (by simp) ?_
  refine AllReadyH.cons rfl (fun K hK => ?_) AllReadyH.nil
  go_simp
  refine (rscale_any _ n1 _ _ _ _ w9.drew (Bytes.drew (B1.out.keep (Nat.le_refl _) K9.out)) K9.out.size m1 hx).mono ?_
  rw [HLC.out]
  rintro e w10 ⟨P10, n10, c10, rfl, o10, s10⟩
  have O10 := Lib.hid o10
  have S10 := Lib.hid (Keep.trans z s10)
  have K10 := Lib.hid (Keep.trans K9.out S10.out)
  clear o10 s10
  have To10 := Lib.hid (str_later (c := c10) O10.out.bytes (Nat.le_refl _))
  refine hK.out _ _ (⟨To3.out _ (S10.out), To4.out _ (S10.out), To5.out _ (S10.out), To6.out _ (S10.out), To9.out _ (S10.out)⟩) (fun _ => ?_)
  clear hK K hHeld
  refine wpAnyH_strong (S' := (fun w' => (convert 22 9 (.slice P10 n10 c10)).run Try.prog w' = .ok (.string (strN LC)) w' ∧ (convert 22 9 (.slice P3 n3 c3)).run Try.prog w' = .ok (.string (strN LA)) w' ∧ (convert 22 9 (.slice P4 n4 c4)).run Try.prog w' = .ok (.string (strN LA)) w' ∧ (convert 22 9 (.slice P5 n5 c5)).run Try.prog w' = .ok (.string (strN LS)) w' ∧ (convert 22 9 (.slice P6 n6 c6)).run Try.prog w' = .ok (.string (strN LS)) w' ∧ (convert 22 9 (.slice P9 n9 c9)).run Try.prog w' = .ok (.string (strN LC)) w')) (fun w h => h.2) _ _ _ _ ?_
  have hHeld : (fun w' => (convert 22 9 (.slice P10 n10 c10)).run Try.prog w' = .ok (.string (strN LC)) w' ∧ (convert 22 9 (.slice P3 n3 c3)).run Try.prog w' = .ok (.string (strN LA)) w' ∧ (convert 22 9 (.slice P4 n4 c4)).run Try.prog w' = .ok (.string (strN LA)) w' ∧ (convert 22 9 (.slice P5 n5 c5)).run Try.prog w' = .ok (.string (strN LS)) w' ∧ (convert 22 9 (.slice P6 n6 c6)).run Try.prog w' = .ok (.string (strN LS)) w' ∧ (convert 22 9 (.slice P9 n9 c9)).run Try.prog w' = .ok (.string (strN LC)) w') w10 := ⟨To10.out _ (Keep.refl _), To3.out _ (S10.out), To4.out _ (S10.out), To5.out _ (S10.out), To6.out _ (S10.out), To9.out _ (S10.out)⟩
  try simp only [Act.put, List.getElem_toArray, List.getElem_cons_succ, List.getElem_cons_zero, List.setIfInBounds_toArray, List.set_cons_zero, List.set_cons_succ]
  refine wpAnyH_take (i := 38) (v := ?_) rfl (by kernel_rfl) (by kernel_rfl) (by kernel_rfl) (fun _ _ _ h => h) (Or.inl ⟨by rfl, ?_⟩) hHeld ?_
  rotate_left
  · intro wq hSw
    try dsimp only at hSw
    go_simp
    all_goals with_reducible rfl
  try simp only [Act.put, List.getElem_toArray, List.getElem_cons_succ, List.getElem_cons_zero, List.setIfInBounds_toArray, List.set_cons_zero, List.set_cons_succ]
  refine wpAnyH_take (i := 39) (v := ?_) rfl (by kernel_rfl) (by kernel_rfl) (by kernel_rfl) (fun _ _ _ h => h) (Or.inl ⟨by rfl, ?_⟩) hHeld ?_
  rotate_left
  · intro wq hSw
    try dsimp only at hSw
    go_simp
    all_goals with_reducible rfl
  try simp only [Act.put, List.getElem_toArray, List.getElem_cons_succ, List.getElem_cons_zero, List.setIfInBounds_toArray, List.set_cons_zero, List.set_cons_succ]
  refine wpAnyH_take (i := 40) (v := ?_) rfl (by kernel_rfl) (by kernel_rfl) (by kernel_rfl) (fun _ _ _ h => h) (Or.inl ⟨by rfl, ?_⟩) hHeld ?_
  rotate_left
  · intro wq hSw
    try dsimp only at hSw
    go_simp
    all_goals with_reducible rfl
  try simp only [Act.put, List.getElem_toArray, List.getElem_cons_succ, List.getElem_cons_zero, List.setIfInBounds_toArray, List.set_cons_zero, List.set_cons_succ]
  refine wpAnyH_take (i := 41) (v := ?_) rfl (by kernel_rfl) (by kernel_rfl) (by kernel_rfl) (fun _ _ _ h => h) (Or.inl ⟨by rfl, ?_⟩) hHeld ?_
  rotate_left
  · intro wq hSw
    try dsimp only at hSw
    go_simp
    all_goals with_reducible rfl
  try simp only [Act.put, List.getElem_toArray, List.getElem_cons_succ, List.getElem_cons_zero, List.setIfInBounds_toArray, List.set_cons_zero, List.set_cons_succ]
  refine wpAnyH_take (i := 42) (v := ?_) rfl (by kernel_rfl) (by kernel_rfl) (by kernel_rfl) (fun _ _ _ h => h) (Or.inl ⟨by rfl, ?_⟩) hHeld ?_
  rotate_left
  · intro wq hSw
    try dsimp only at hSw
    go_simp
    all_goals with_reducible rfl
  try simp only [Act.put, List.getElem_toArray, List.getElem_cons_succ, List.getElem_cons_zero, List.setIfInBounds_toArray, List.set_cons_zero, List.set_cons_succ]
  refine wpAnyH_take (i := 44) (v := ?_) rfl (by kernel_rfl) (by kernel_rfl) (by kernel_rfl) (fun _ _ _ h => h) (Or.inl ⟨by rfl, ?_⟩) hHeld ?_
  rotate_left
  · intro wq hSw
    try dsimp only at hSw
    go_simp
    all_goals with_reducible rfl
  try simp only [Act.put, List.getElem_toArray, List.getElem_cons_succ, List.getElem_cons_zero, List.setIfInBounds_toArray, List.set_cons_zero, List.set_cons_succ]
  refine wpAnyH_ready (rs := [43]) (by kernel_rfl) (by simp) ?_
  refine AllReadyH.cons rfl (fun K hK => ?_) AllReadyH.nil
  go_simp
  refine (vlead_eq _ n1 _ _ _ _ (O1.out.bytes.keep (Nat.le_refl _) (Keep.trans S2.out (Keep.trans S3.out (Keep.trans S4.out (Keep.trans S5.out (Keep.trans S6.out (Keep.trans S7.out (Keep.trans S8.out (Keep.trans S9.out (S10.out)))))))))) m1).mono ?_
  rw [HLD.out]
  rintro e wx ⟨rfl, rfl⟩
  refine hK.out _ _ (⟨To10.out _ (Keep.refl _), To3.out _ (S10.out), To4.out _ (S10.out), To5.out _ (S10.out), To6.out _ (S10.out), To9.out _ (S10.out)⟩) (fun hHeld => ?_)
  clear hK K
  try simp only [Act.put, List.getElem_toArray, List.getElem_cons_succ, List.getElem_cons_zero, List.setIfInBounds_toArray, List.set_cons_zero, List.set_cons_succ]
  refine wpAnyH_ready (rs := [45]) (by kernel_rfl) (by simp) ?_
  refine AllReadyH.cons rfl (fun K hK => ?_) AllReadyH.nil
  go_simp
  refine (rlead_any _ n1 _ _ _ _ (B1.out.keep (Nat.le_refl _) K10.out) m1).mono ?_
  rw [HLD.out]
  rintro e wx ⟨rfl, rfl⟩
  refine hK.out _ _ (⟨To10.out _ (Keep.refl _), To3.out _ (S10.out), To4.out _ (S10.out), To5.out _ (S10.out), To6.out _ (S10.out), To9.out _ (S10.out)⟩) (fun hHeld => ?_)
  clear hK K
  try simp only [Act.put, List.getElem_toArray, List.getElem_cons_succ, List.getElem_cons_zero, List.setIfInBounds_toArray, List.set_cons_zero, List.set_cons_succ]
  refine wpAnyH_take (i := 46) (v := ?_) rfl (by kernel_rfl) (by kernel_rfl) (by kernel_rfl) (fun _ _ _ h => h) (Or.inl ⟨by rfl, ?_⟩) hHeld ?_
  rotate_left
  · intro wq hSw
    try dsimp only at hSw
    go_simp
    all_goals with_reducible rfl
  try simp only [Act.put, List.getElem_toArray, List.getElem_cons_succ, List.getElem_cons_zero, List.setIfInBounds_toArray, List.set_cons_zero, List.set_cons_succ]
  refine wpAnyH_take (i := 47) (v := ?_) rfl (by kernel_rfl) (by kernel_rfl) (by kernel_rfl) (fun _ _ _ h => h) (Or.inl ⟨by rfl, ?_⟩) hHeld ?_
  rotate_left
  · intro wq hSw
    try dsimp only at hSw
    go_simp
    all_goals with_reducible rfl
  try simp only [Act.put, List.getElem_toArray, List.getElem_cons_succ, List.getElem_cons_zero, List.setIfInBounds_toArray, List.set_cons_zero, List.set_cons_succ]
  refine wpAnyH_take (i := 48) (v := ?_) rfl (by kernel_rfl) (by kernel_rfl) (by kernel_rfl) (fun _ _ _ h => h) (Or.inl ⟨by rfl, ?_⟩) hHeld ?_
  rotate_left
  · intro wq hSw
    try dsimp only at hSw
    go_simp
    all_goals with_reducible rfl
  try simp only [Act.put, List.getElem_toArray, List.getElem_cons_succ, List.getElem_cons_zero, List.setIfInBounds_toArray, List.set_cons_zero, List.set_cons_succ]
  refine wpAnyH_take (i := 49) (v := ?_) rfl (by kernel_rfl) (by kernel_rfl) (by kernel_rfl) (fun _ _ _ h => h) (Or.inl ⟨by rfl, ?_⟩) hHeld ?_
  rotate_left
  · intro wq hSw
    try dsimp only at hSw
    go_simp
    all_goals with_reducible rfl
  try simp only [Act.put, List.getElem_toArray, List.getElem_cons_succ, List.getElem_cons_zero, List.setIfInBounds_toArray, List.set_cons_zero, List.set_cons_succ]
  refine wpAnyH_take (i := 51) (v := ?_) rfl (by kernel_rfl) (by kernel_rfl) (by kernel_rfl) (fun _ _ _ h => h) (Or.inl ⟨by rfl, ?_⟩) hHeld ?_
  rotate_left
  · intro wq hSw
    try dsimp only at hSw
    go_simp
    all_goals with_reducible rfl
  try simp only [Act.put, List.getElem_toArray, List.getElem_cons_succ, List.getElem_cons_zero, List.setIfInBounds_toArray, List.set_cons_zero, List.set_cons_succ]
  refine wpAnyH_ready (rs := [50]) (by kernel_rfl) (by simp) ?_
  refine AllReadyH.cons rfl (fun K hK => ?_) AllReadyH.nil
  go_simp
  refine (vzero_eq _ n1 _ _ _ _ (O1.out.bytes.keep (Nat.le_refl _) (Keep.trans S2.out (Keep.trans S3.out (Keep.trans S4.out (Keep.trans S5.out (Keep.trans S6.out (Keep.trans S7.out (Keep.trans S8.out (Keep.trans S9.out (S10.out)))))))))) m1).mono ?_
  rw [HLD.out]
  rintro e wx ⟨rfl, rfl⟩
  refine hK.out _ _ (⟨To10.out _ (Keep.refl _), To3.out _ (S10.out), To4.out _ (S10.out), To5.out _ (S10.out), To6.out _ (S10.out), To9.out _ (S10.out)⟩) (fun hHeld => ?_)
  clear hK K
  try simp only [Act.put, List.getElem_toArray, List.getElem_cons_succ, List.getElem_cons_zero, List.setIfInBounds_toArray, List.set_cons_zero, List.set_cons_succ]
  refine wpAnyH_ready (rs := [52]) (by kernel_rfl) (by simp) ?_
  refine AllReadyH.cons rfl (fun K hK => ?_) AllReadyH.nil
  go_simp
  refine (rlead_any _ n1 _ _ _ _ (B1.out.keep (Nat.le_refl _) K10.out) m1).mono ?_
  rw [HLD.out]
  rintro e wx ⟨rfl, rfl⟩
  refine hK.out _ _ (⟨To10.out _ (Keep.refl _), To3.out _ (S10.out), To4.out _ (S10.out), To5.out _ (S10.out), To6.out _ (S10.out), To9.out _ (S10.out)⟩) (fun hHeld => ?_)
  clear hK K
  try simp only [Act.put, List.getElem_toArray, List.getElem_cons_succ, List.getElem_cons_zero, List.setIfInBounds_toArray, List.set_cons_zero, List.set_cons_succ]
  refine wpAnyH_take (i := 53) (v := ?_) rfl (by kernel_rfl) (by kernel_rfl) (by kernel_rfl) (fun _ _ _ h => h) (Or.inl ⟨by rfl, ?_⟩) hHeld ?_
  rotate_left
  · intro wq hSw
    try dsimp only at hSw
    go_simp
    all_goals with_reducible rfl
  try simp only [Act.put, List.getElem_toArray, List.getElem_cons_succ, List.getElem_cons_zero, List.setIfInBounds_toArray, List.set_cons_zero, List.set_cons_succ]
  refine wpAnyH_take (i := 54) (v := ?_) rfl (by kernel_rfl) (by kernel_rfl) (by kernel_rfl) (fun _ _ _ h => h) (Or.inl ⟨by rfl, ?_⟩) hHeld ?_
  rotate_left
  · intro wq hSw
    try dsimp only at hSw
    go_simp
    all_goals with_reducible rfl
  try simp only [Act.put, List.getElem_toArray, List.getElem_cons_succ, List.getElem_cons_zero, List.setIfInBounds_toArray, List.set_cons_zero, List.set_cons_succ]
  refine wpAnyH_take (i := 55) (v := ?_) rfl (by kernel_rfl) (by kernel_rfl) (by kernel_rfl) (fun _ _ _ h => h) (Or.inl ⟨by rfl, ?_⟩) hHeld ?_
  rotate_left
  · intro wq hSw
    try dsimp only at hSw
    go_simp
    all_goals with_reducible rfl
  try simp only [Act.put, List.getElem_toArray, List.getElem_cons_succ, List.getElem_cons_zero, List.setIfInBounds_toArray, List.set_cons_zero, List.set_cons_succ]
  refine wpAnyH_take (i := 56) (v := ?_) rfl (by kernel_rfl) (by kernel_rfl) (by kernel_rfl) (fun _ _ _ h => h) (Or.inl ⟨by rfl, ?_⟩) hHeld ?_
  rotate_left
  · intro wq hSw
    try dsimp only at hSw
    go_simp
    all_goals with_reducible rfl
  try simp only [Act.put, List.getElem_toArray, List.getElem_cons_succ, List.getElem_cons_zero, List.setIfInBounds_toArray, List.set_cons_zero, List.set_cons_succ]
  refine wpAnyH_done (by kernel_rfl) ?_ _
  refine NoPanic.normal ?_
  clear hHeld z To10 To3 To4 To5 To6 To9
  go_wp2_with fail
  clear hHeld
  have N3 : n3 ≤ 140737488351232 := by have e := O3.out.length; have e2 := sumOf_le n1 n2 xs ys; rw [HLA.out, e] at e2; omega
  have N5 : n5 ≤ 140737488351232 := by have e := O5.out.length; have e2 := sumSOf_le n1 n2 xs ys x; rw [HLS.out, e] at e2; omega
  have N9 : n9 ≤ 140737488351232 := by have e := O9.out.length; rw [← HLC.out, vScale, tab_length] at e; omega
  have KE : Hid (Keep w2 w10) := Keep.trans S3.out (Keep.trans S4.out (Keep.trans S5.out (Keep.trans S6.out (Keep.trans S7.out (Keep.trans S8.out (Keep.trans S9.out (S10.out)))))))
  have M3 : Hid (Mine w2 w10 P3 n3 c3) := ⟨_, O3.out.keep (Keep.trans S4.out (Keep.trans S5.out (Keep.trans S6.out (Keep.trans S7.out (Keep.trans S8.out (Keep.trans S9.out (S10.out)))))))⟩
  have M5 : Hid (Mine w2 w10 P5 n5 c5) := ⟨_, (O5.out.keep (Keep.trans S6.out (Keep.trans S7.out (Keep.trans S8.out (Keep.trans S9.out (S10.out)))))).lower (Keep.trans S3.out (S4.out)).size⟩
  have M9 : Hid (Mine w2 w10 P9 n9 c9) := ⟨_, (O9.out.keep (S10.out)).lower (Keep.trans S3.out (Keep.trans S4.out (Keep.trans S5.out (Keep.trans S6.out (Keep.trans S7.out (S8.out)))))).size⟩
  clear O3 O4 O5 O6 O9 O10
  go_loopw [131] (fun i wr => ∃ k : Nat, k ≤ 3 ∧ i = .int .i64 k ∧ Mine w2 wr P3 n3 c3 ∧ Mine w2 wr P5 n5 c5 ∧ Mine w2 wr P9 n9 c9 ∧ Keep w2 wr) (fun i _ => 3 - (intOf i).toNat)
  case atStart => exact ⟨0, by omega, rfl, M3.out, M5.out, M9.out, KE.out⟩
  case round =>
    clear M3 M5 M9 KE
    obtain ⟨k, hk, rfl, h3, h5, h9, hkeep⟩ := hrel
    have H3 := Lib.hid h3
    have H5 := Lib.hid h5
    have H9 := Lib.hid h9
    have HK := Lib.hid hkeep
    clear h3 h5 h9 hkeep
    rcases (show k = 0 ∨ k = 1 ∨ k = 2 ∨ k = 3 by omega) with rfl | rfl | rfl | rfl
    · have hix := fun w => (index_three (.slice P3 n3 c3) (.slice P5 n5 c5) (.slice P9 n9 c9) w).1
      go_wp2_with fail
      clear hix
      go_loopw [25] (fun i wr => ∃ k : Nat, k ≤ n3 ∧ i = .int .i64 k ∧ Mine w2 wr P3 n3 c3 ∧ Mine w2 wr P5 n5 c5 ∧ Mine w2 wr P9 n9 c9 ∧ Keep w2 wr) (fun i _ => n3 - (intOf i).toNat)
      case atStart => exact ⟨0, by omega, rfl, H3.out, H5.out, H9.out, HK.out⟩
      case round =>
        clear H3 H5 H9 HK
        obtain ⟨r, hr, rfl, h3, h5, h9, hkeep⟩ := hrel
        by_cases hlt : r < n3
        · obtain ⟨g, v, rfl, hg, hv, hc, hf⟩ := h3.at_ hlt
          obtain ⟨u, hu⟩ : ∃ u, v ^^^ 255 = u := ⟨_, rfl⟩
          have hu2 : u < 256 := by rw [← hu]; exact xor_lt hv (by decide)
          have hxor : bits .xor .u8 (v : Int) 255 = (u : Int) := by rw [← hu]; exact u8_xor_nat v 255 hv (by decide)
          have H3 := Lib.hid (h3.set g r u hu2)
          have H5 := Lib.hid (h5.set g r u hu2)
          have H9 := Lib.hid (h9.set g r u hu2)
          have HK := Lib.hid (hkeep.setCell (a := ⟨g, r, none⟩) hg (.int .u8 (u : Int)))
          have e1 : (0 : Int) ≤ (r : Int) := Int.natCast_nonneg _
          have e2 : (r : Int) < (n3 : Int) := by omega
          clear h3 h5 h9 hkeep hu
          go_wp2_with fail
          go_round
          case rel => exact ⟨r + 1, by omega, by go_num, H3.out, H5.out, H9.out, HK.out⟩
          case measure => simp [intOf]; omega
        · have e2 : ¬ (r : Int) < (n3 : Int) := by omega
          have H3 := Lib.hid h3
          have H5 := Lib.hid h5
          have H9 := Lib.hid h9
          have HK := Lib.hid hkeep
          clear h3 h5 h9 hkeep
          go_wp2_with fail
          go_round
          case rel => exact ⟨1, by omega, by go_num, H3.out, H5.out, H9.out, HK.out⟩
          case measure => simp [intOf]
    · have hix := fun w => (index_three (.slice P3 n3 c3) (.slice P5 n5 c5) (.slice P9 n9 c9) w).2.1
      go_wp2_with fail
      clear hix
      go_loopw [25] (fun i wr => ∃ k : Nat, k ≤ n5 ∧ i = .int .i64 k ∧ Mine w2 wr P3 n3 c3 ∧ Mine w2 wr P5 n5 c5 ∧ Mine w2 wr P9 n9 c9 ∧ Keep w2 wr) (fun i _ => n5 - (intOf i).toNat)
      case atStart => exact ⟨0, by omega, rfl, H3.out, H5.out, H9.out, HK.out⟩
      case round =>
        clear H3 H5 H9 HK
        obtain ⟨r, hr, rfl, h3, h5, h9, hkeep⟩ := hrel
        by_cases hlt : r < n5
        · obtain ⟨g, v, rfl, hg, hv, hc, hf⟩ := h5.at_ hlt
          obtain ⟨u, hu⟩ : ∃ u, v ^^^ 255 = u := ⟨_, rfl⟩
          have hu2 : u < 256 := by rw [← hu]; exact xor_lt hv (by decide)
          have hxor : bits .xor .u8 (v : Int) 255 = (u : Int) := by rw [← hu]; exact u8_xor_nat v 255 hv (by decide)
          have H3 := Lib.hid (h3.set g r u hu2)
          have H5 := Lib.hid (h5.set g r u hu2)
          have H9 := Lib.hid (h9.set g r u hu2)
          have HK := Lib.hid (hkeep.setCell (a := ⟨g, r, none⟩) hg (.int .u8 (u : Int)))
          have e1 : (0 : Int) ≤ (r : Int) := Int.natCast_nonneg _
          have e2 : (r : Int) < (n5 : Int) := by omega
          clear h3 h5 h9 hkeep hu
          go_wp2_with fail
          go_round
          case rel => exact ⟨r + 1, by omega, by go_num, H3.out, H5.out, H9.out, HK.out⟩
          case measure => simp [intOf]; omega
        · have e2 : ¬ (r : Int) < (n5 : Int) := by omega
          have H3 := Lib.hid h3
          have H5 := Lib.hid h5
          have H9 := Lib.hid h9
          have HK := Lib.hid hkeep
          clear h3 h5 h9 hkeep
          go_wp2_with fail
          go_round
          case rel => exact ⟨2, by omega, by go_num, H3.out, H5.out, H9.out, HK.out⟩
          case measure => simp [intOf]
    · have hix := fun w => (index_three (.slice P3 n3 c3) (.slice P5 n5 c5) (.slice P9 n9 c9) w).2.2
      go_wp2_with fail
      clear hix
      go_loopw [25] (fun i wr => ∃ k : Nat, k ≤ n9 ∧ i = .int .i64 k ∧ Mine w2 wr P3 n3 c3 ∧ Mine w2 wr P5 n5 c5 ∧ Mine w2 wr P9 n9 c9 ∧ Keep w2 wr) (fun i _ => n9 - (intOf i).toNat)
      case atStart => exact ⟨0, by omega, rfl, H3.out, H5.out, H9.out, HK.out⟩
      case round =>
        clear H3 H5 H9 HK
        obtain ⟨r, hr, rfl, h3, h5, h9, hkeep⟩ := hrel
        by_cases hlt : r < n9
        · obtain ⟨g, v, rfl, hg, hv, hc, hf⟩ := h9.at_ hlt
          obtain ⟨u, hu⟩ : ∃ u, v ^^^ 255 = u := ⟨_, rfl⟩
          have hu2 : u < 256 := by rw [← hu]; exact xor_lt hv (by decide)
          have hxor : bits .xor .u8 (v : Int) 255 = (u : Int) := by rw [← hu]; exact u8_xor_nat v 255 hv (by decide)
          have H3 := Lib.hid (h3.set g r u hu2)
          have H5 := Lib.hid (h5.set g r u hu2)
          have H9 := Lib.hid (h9.set g r u hu2)
          have HK := Lib.hid (hkeep.setCell (a := ⟨g, r, none⟩) hg (.int .u8 (u : Int)))
          have e1 : (0 : Int) ≤ (r : Int) := Int.natCast_nonneg _
          have e2 : (r : Int) < (n9 : Int) := by omega
          clear h3 h5 h9 hkeep hu
          go_wp2_with fail
          go_round
          case rel => exact ⟨r + 1, by omega, by go_num, H3.out, H5.out, H9.out, HK.out⟩
          case measure => simp [intOf]; omega
        · have e2 : ¬ (r : Int) < (n9 : Int) := by omega
          have H3 := Lib.hid h3
          have H5 := Lib.hid h5
          have H9 := Lib.hid h9
          have HK := Lib.hid hkeep
          clear h3 h5 h9 hkeep
          go_wp2_with fail
          go_round
          case rel => exact ⟨3, by omega, by go_num, H3.out, H5.out, H9.out, HK.out⟩
          case measure => simp [intOf]
    · have t1 := run_str (O1.out.bytes.keep (Nat.le_refl _) (Keep.trans S2.out HK.out)) Try.underlying22 Try.underlying5 Try.underlying9 c1
      have t2 := run_str (O2.out.bytes.keep (Nat.le_refl _) HK.out) Try.underlying22 Try.underlying5 Try.underlying9 c2
      have KW := Lib.hid (Keep.trans K2.out HK.out)
      have t3 := run_str (B1.out.keep (Nat.le_refl _) KW.out) Try.underlying22 Try.underlying5 Try.underlying9 ca
      have t4 := run_str (B2.out.keep (Nat.le_refl _) KW.out) Try.underlying22 Try.underlying5 Try.underlying9 cb
      clear H3 H5 H9
      go_wp2_with fail
      refine (wakes_any _).mono ?_
      rintro e wz ⟨rfl, sz⟩
      have SZ := Lib.hid sz
      clear sz t1 t2 t3 t4
      go_wp2_with fail
      go_ret
      exact ⟨rfl, Keep.trans KW.out SZ.out⟩
end Go.Proofs.Ytkinhhplhkbljaa
