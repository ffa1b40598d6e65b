/- The walk of SpanCalls. -/
import Derived.Test.YtofhdaeeiienfaaSref2
import Derived.Test.YtofhdaeeiienfaaSflip
namespace Go.Proofs.Ytofhdaeeiienfaa
open Go.RowKit Lin
set_option linter.unusedVariables false
set_option linter.unusedSimpArgs false
theorem cut_mat (n c : Nat) (A : Option Addr) (w : World) (M : List (List Nat)) (h : Mat w ⟨A, n, c, M⟩) (hn : n ≤ 140737488355328) :
    Calls Try.prog 10 #[.slice A n c] w fun e w' => ∃ A' n' c', e = .returned (.slice A' n' c') ∧ Mat w' ⟨A', n', c', cutN M⟩ ∧ Keep w w' := by
  obtain ⟨rs, e1, rfl, e3⟩ := h
  refine (cut_any n c A _ rs w e1 (fun _ e => e) hn).mono ?_
  rintro e w' ⟨A', n', c', rfl, rs', h1, h2, h3, h4⟩
  exact ⟨A', n', c', rfl, Mat.of_owned (rs := rs') ⟨h1, h2, h3, h4⟩, h4⟩
theorem rsame_mat {w : World} {A A' : Option Addr} {n n' c c' : Nat} {M : List (List Nat)} (h : Mat w ⟨A, n, c, M⟩) (k : Mat w ⟨A', n', c', M⟩) (hn : n ≤ 140737488355328) : Calls Try.prog 13 #[.slice A n c, .slice A' n' c'] w fun e w' => e = .returned (.bool true) ∧ Keep w w' := by
  obtain ⟨rs, h1, h2, h3⟩ := h
  obtain ⟨rt, k1, k2, k3⟩ := k
  have hh := rsame_any n n' c c' A A' _ _ rs rt w h1 k1 (fun _ e => e) (fun _ e => e) hn
  rw [decide_eq_true (h2.trans k2.symm)] at hh
  exact hh.mono fun e w' h => ⟨h.1, by obtain ⟨_, j, rfl⟩ := h; exact (Keep.refl w).drewN j⟩
/-- Few rows, few numbers. -/
def Small (k : Nat) (M : List (List Nat)) : Prop := M.length ≤ k ∧ ∀ x ∈ M, x.length ≤ k ∧ AllB x
theorem cutN_small {M : List (List Nat)} (h : ∀ x ∈ M, AllB x) : Small 10 (cutN M) := by
  refine ⟨by rw [cutN, List.length_map, List.length_take]; omega, fun x hx => ?_⟩
  obtain ⟨y, hy, rfl⟩ := List.mem_map.1 hx
  exact ⟨by rw [List.length_take]; omega, (h y (List.mem_of_mem_take hy)).take 10⟩
theorem cutN_cutN (M : List (List Nat)) : cutN (cutN M) = cutN M := by
  rw [cutN, List.take_of_length_le (by rw [cutN, List.length_map, List.length_take]; omega), cutN, List.map_map]
  exact List.map_congr_left fun x _ => by show (x.take 10).take 10 = _; rw [List.take_take, Nat.min_self]
theorem small_two {k : Nat} {M N : List (List Nat)} (h : Small k M) (h' : Small k N) : sizeC (M ++ N) ≤ k ∧ ∀ r ∈ M ++ N, AllB r := by
  refine ⟨?_, fun r hr => ?_⟩
  · rw [sizeC]
    split
    · cases M with
      | nil => cases N with
        | nil => exact Nat.zero_le _
        | cons y N => exact (h'.2 y (by simp)).1
      | cons y M => exact (h.2 y (by simp)).1
    · exact Nat.zero_le _
  · rcases List.mem_append.1 hr with e | e
    · exact (h.2 r e).2
    · exact (h'.2 r e).2
theorem red_small {k : Nat} {M : List (List Nat)} (ha : ∀ r ∈ M, AllB r) (hc : sizeC M ≤ k) : (reduceN M).length ≤ k ∧ ∀ x ∈ reduceN M, x.length ≤ k := by
  by_cases hf : fits M
  · have h := (fits_ok ha hf).red.1
    exact ⟨Nat.le_trans (redL_length h) hc, fun x hx => by rw [(h.1 x hx).1]; exact hc⟩
  · rw [reduceN, if_neg hf]; exact ⟨Nat.zero_le _, fun x hx => by simp at hx⟩
theorem meet_small {k : Nat} {M N : List (List Nat)} (ha : ∀ r ∈ M ++ N, AllB r) (hc : sizeC (M ++ N) ≤ k) : (meetV M N).length ≤ k ∧ ∀ x ∈ meetV M N, x.length ≤ k := by
  rw [meetV]
  split
  · next hf =>
    have h := fits_ok ha hf
    have hm := (meet_red h.left h.right).1
    exact ⟨Nat.le_trans (redL_length hm) hc, fun x hx => by rw [(hm.1 x hx).1]; exact hc⟩
  · exact ⟨Nat.zero_le _, fun x hx => by simp at hx⟩
theorem LiesIn.up {w w' : World} {r : RowV} (h : LiesIn w (fun b => b < w.heap.size) r) (k : Keep w w') : LiesIn w' (fun b => b < w'.heap.size) r :=
  (h.turned (Turned.of_keep (F := fun _ => False) k) fun _ _ e => e).mono fun b hb => Nat.lt_of_lt_of_le hb k.size
theorem run_minT (a m : Nat) (h : min a 10 = m) (w : World) : (Builtin.min_ #[3, 3] 3 #[.int .i64 (a : Int), .int .i64 10]).run Try.prog w = .ok (.int .i64 (m : Int)) w := by
  rw [run_min_int2]; congr 2; split <;> omega
set_option maxRecDepth 100000 in
set_option maxHeartbeats 8000000 in
theorem scalls_any (n1 n2 n3 c1 c2 c3 : Nat) (A1 A2 A3 : Option Addr) (L1 L2 : List (List Nat)) (xs : List Nat) (w : World) (h1 : Mat w ⟨A1, n1, c1, L1⟩) (h2 : Mat w ⟨A2, n2, c2, L2⟩) (h3 : Bytes w w.heap.size A3 n3 xs) (a1 : ∀ x ∈ L1, AllB x) (a2 : ∀ x ∈ L2, AllB x) (m1 : n1 ≤ 140737488355328) (m2 : n2 ≤ 140737488355328) (m3 : n3 ≤ 140737488355328) (hc3 : n3 ≤ c3) :
    Calls Try.prog 3 #[.slice A1 n1 c1, .slice A2 n2 c2, .slice A3 n3 c3] w fun e w' => e = .returned (.bool true) ∧ Keep w w' := by
  have H1 := Lib.hid h1
  have H2 := Lib.hid h2
  obtain ⟨X, hX⟩ : ∃ X, cutN L1 = X := ⟨_, rfl⟩
  obtain ⟨Y, hY⟩ : ∃ X, cutN L2 = X := ⟨_, rfl⟩
  obtain ⟨mv, hmv⟩ : ∃ m, min n3 10 = m := ⟨_, rfl⟩
  have hmin := run_minT n3 mv hmv
  have e0 : (0 : Int) ≤ (mv : Int) := Int.natCast_nonneg _
  have e1 : (mv : Int) ≤ (c3 : Int) := by omega
  have hmv10 : mv ≤ 10 := by omega
  obtain ⟨V, hV⟩ : ∃ V, xs.take mv = V := ⟨_, rfl⟩
  have HV : Hid (Bytes w w.heap.size A3 mv V) := by show Bytes _ _ _ _ _; rw [← hV]; exact h3.cut (by omega)
  have HVL : Hid (LiesIn w (fun b => b < w.heap.size) ⟨A3, mv, c3, V⟩) := LiesIn.of_bytes (r := ⟨A3, mv, c3, V⟩) HV.out (by show mv ≤ c3; omega)
  have sX : Hid (Small 10 X) := hX ▸ cutN_small a1
  have sY : Hid (Small 10 Y) := hY ▸ cutN_small a2
  have sV : Hid (Small 10 [V]) := ⟨by simp, fun x hx => by rw [List.mem_singleton.1 hx, HV.out.length]; exact ⟨hmv10, HV.out.all⟩⟩
  have cX : cutN X = X := by rw [← hX]; exact cutN_cutN L1
  have cY : cutN Y = Y := by rw [← hY]; exact cutN_cutN L2
  have E0 := Lib.hid (And.intro hX (And.intro hY (And.intro cX cY)))
  have t1 := small_two sX.out sV.out
  have t2 := small_two sX.out sY.out
  have t3 := small_two sY.out sX.out
  have TC := Lib.hid (And.intro t1 (And.intro t2 t3))
  obtain ⟨kp1, hkp1⟩ : ∃ z, (conV X [V]) = z := ⟨_, rfl⟩
  obtain ⟨ke1, hke1⟩ : ∃ z, (sizeE (X ++ [V])) = z := ⟨_, rfl⟩
  obtain ⟨kp2, hkp2⟩ : ∃ z, (conV X Y) = z := ⟨_, rfl⟩
  obtain ⟨ke2, hke2⟩ : ∃ z, (sizeE (X ++ Y)) = z := ⟨_, rfl⟩
  obtain ⟨kp3, hkp3⟩ : ∃ z, (conV X Y && conV Y X) = z := ⟨_, rfl⟩
  obtain ⟨kR4, hkR4⟩ : ∃ z, (reduceN (X ++ Y)) = z := ⟨_, rfl⟩
  obtain ⟨kR5, hkR5⟩ : ∃ z, (meetV X Y) = z := ⟨_, rfl⟩
  obtain ⟨kp6, hkp6⟩ : ∃ z, (witB X Y) = z := ⟨_, rfl⟩
  obtain ⟨kD6, hkD6⟩ : ∃ z, (witN X Y) = z := ⟨_, rfl⟩
  have EK := Lib.hid (And.intro hkp1 (And.intro hke1 (And.intro hkp2 (And.intro hke2 (And.intro hkp3 (And.intro hkR4 (And.intro hkR5 (And.intro hkp6 hkD6))))))))
  have S4 : Hid (kR4.length ≤ 10 ∧ ∀ x ∈ kR4, x.length ≤ 10) := by show _ ∧ _; rw [← hkR4]; exact red_small t2.2 t2.1
  have S5 : Hid (kR5.length ≤ 10 ∧ ∀ x ∈ kR5, x.length ≤ 10) := by show _ ∧ _; rw [← hkR5]; exact meet_small t2.2 t2.1
  have N6 : Hid (kD6.length ≤ 10) := by
    show _ ≤ _
    rw [← hkD6, witN]
    split
    · rw [vUnit, tab_length]; exact sX.out.1
    · exact Nat.zero_le _
  clear h1 h2 h3 hX hY hV cX cY a1 a2 t1 t2 t3 hmv hkp1 hke1 hkp2 hke2 hkp3 hkR4 hkR5 hkp6 hkD6
  go_enter Try.func3, Try.ntmps3
  go_wp2_with fail
  refine wp_region_noPanic ?_
  refine wp_region_held_drew (S := fun wz => Keep w wz) (by kernel_rfl) (Keep.drew (Keep.refl w)) (fun hHeld => ?_)
  refine wpAnyH_take (i := 0) (v := ?_) rfl (by kernel_rfl) (by kernel_rfl) (by kernel_rfl) (fun _ _ _ h => h) (Or.inl ⟨by rfl, ?_⟩) hHeld ?_
  rotate_left
  · intro wq hSw
    go_simp
    all_goals with_reducible rfl
  try simp only [Act.put, List.getElem_toArray, List.getElem_cons_succ, List.getElem_cons_zero, List.setIfInBounds_toArray, List.set_cons_zero, List.set_cons_succ]
  refine wpAnyH_take (i := 2) (v := ?_) rfl (by kernel_rfl) (by kernel_rfl) (by kernel_rfl) (fun _ _ _ h => h) (Or.inl ⟨by rfl, ?_⟩) hHeld ?_
  rotate_left
  · intro wq hSw
    go_simp
    all_goals with_reducible rfl
  try simp only [Act.put, List.getElem_toArray, List.getElem_cons_succ, List.getElem_cons_zero, List.setIfInBounds_toArray, List.set_cons_zero, List.set_cons_succ]
  refine wpAnyH_take (i := 4) (v := ?_) rfl (by kernel_rfl) (by kernel_rfl) (by kernel_rfl) (fun _ _ _ h => h) (Or.inl ⟨by rfl, ?_⟩) hHeld ?_
  rotate_left
  · intro wq hSw
    go_simp
    all_goals with_reducible rfl
  try simp only [Act.put, List.getElem_toArray, List.getElem_cons_succ, List.getElem_cons_zero, List.setIfInBounds_toArray, List.set_cons_zero, List.set_cons_succ]
  refine wpAnyH_take (i := 5) (v := ?_) rfl (by kernel_rfl) (by kernel_rfl) (by kernel_rfl) (fun _ _ _ h => h) (Or.inl ⟨by rfl, ?_⟩) hHeld ?_
  rotate_left
  · intro wq hSw
    go_simp
    all_goals with_reducible rfl
  try simp only [Act.put, List.getElem_toArray, List.getElem_cons_succ, List.getElem_cons_zero, List.setIfInBounds_toArray, List.set_cons_zero, List.set_cons_succ]
  refine wpAnyH_take (i := 6) (v := ?_) rfl (by kernel_rfl) (by kernel_rfl) (by kernel_rfl) (fun _ _ _ h => h) (Or.inl ⟨by rfl, ?_⟩) hHeld ?_
  rotate_left
  · intro wq hSw
    go_simp
    all_goals with_reducible rfl
  try simp only [Act.put, List.getElem_toArray, List.getElem_cons_succ, List.getElem_cons_zero, List.setIfInBounds_toArray, List.set_cons_zero, List.set_cons_succ]
  refine wpAnyH_take (i := 7) (v := ?_) rfl (by kernel_rfl) (by kernel_rfl) (by kernel_rfl) (fun _ _ _ h => h) (Or.inl ⟨by rfl, ?_⟩) hHeld ?_
  rotate_left
  · intro wq hSw
    go_simp
    all_goals with_reducible rfl
  try simp only [Act.put, List.getElem_toArray, List.getElem_cons_succ, List.getElem_cons_zero, List.setIfInBounds_toArray, List.set_cons_zero, List.set_cons_succ]
  refine wpAnyH_take (i := 8) (v := ?_) rfl (by kernel_rfl) (by kernel_rfl) (by kernel_rfl) (fun _ _ _ h => h) (Or.inl ⟨by rfl, ?_⟩) hHeld ?_
  rotate_left
  · intro wq hSw
    go_simp
    all_goals with_reducible rfl
  try simp only [Act.put, List.getElem_toArray, List.getElem_cons_succ, List.getElem_cons_zero, List.setIfInBounds_toArray, List.set_cons_zero, List.set_cons_succ]
  refine wpAnyH_ready (rs := [1]) (by kernel_rfl) (by simp) ?_
  refine AllReadyH.cons rfl (fun K hK => ?_) AllReadyH.nil
  go_simp
  refine (cut_mat _ _ _ w.drew _ (H1.out.keep (Keep.drew (Keep.refl w))) m1).mono ?_
  rintro e w1 ⟨B3, n4, c4, rfl, mm, kk⟩
  have mm : Mat w1 ⟨B3, n4, c4, X⟩ := by rw [← E0.out.1]; exact mm
  have T1 : Hid (St w w1 [⟨B3, n4, c4, X⟩]) := ((St.start w).later (Keep.drew (Keep.refl w))).more mm kk
  clear mm kk
  refine hK.out _ _ T1.out.keep (fun hHeld => ?_)
  clear hK K
  try simp only [Act.put, List.getElem_toArray, List.getElem_cons_succ, List.getElem_cons_zero, List.setIfInBounds_toArray, List.set_cons_zero, List.set_cons_succ]
  refine wpAnyH_ready (rs := [3]) (by kernel_rfl) (by simp) ?_
  refine AllReadyH.cons rfl (fun K hK => ?_) AllReadyH.nil
  go_simp
  refine (cut_mat _ _ _ w1 _ (H2.out.keep T1.out.keep) m2).mono ?_
  rintro e w2 ⟨B4, n5, c5, rfl, mm, kk⟩
  have mm : Mat w2 ⟨B4, n5, c5, Y⟩ := by rw [← E0.out.2.1]; exact mm
  have T2 : Hid (St w w2 [⟨B3, n4, c4, X⟩, ⟨B4, n5, c5, Y⟩]) := T1.out.more mm kk
  clear mm kk T1
  refine hK.out _ _ T2.out.keep (fun hHeld => ?_)
  clear hK K
  try simp only [Act.put, List.getElem_toArray, List.getElem_cons_succ, List.getElem_cons_zero, List.setIfInBounds_toArray, List.set_cons_zero, List.set_cons_succ]
  refine wpAnyH_take (i := 9) (v := ?_) rfl (by kernel_rfl) (by kernel_rfl) (by kernel_rfl) (fun _ _ _ h => h) (Or.inl ⟨by rfl, ?_⟩) hHeld ?_
  rotate_left
  · intro wq hSw
    go_simp
    all_goals with_reducible rfl
  try simp only [Act.put, List.getElem_toArray, List.getElem_cons_succ, List.getElem_cons_zero, List.setIfInBounds_toArray, List.set_cons_zero, List.set_cons_succ]
  refine wpAnyH_take (i := 10) (v := ?_) rfl (by kernel_rfl) (by kernel_rfl) (by kernel_rfl) (fun _ _ _ h => h) (Or.inl ⟨by rfl, ?_⟩) hHeld ?_
  rotate_left
  · intro wq hSw
    go_simp
    all_goals with_reducible rfl
  try simp only [Act.put, List.getElem_toArray, List.getElem_cons_succ, List.getElem_cons_zero, List.setIfInBounds_toArray, List.set_cons_zero, List.set_cons_succ]
  refine wpAnyH_take (i := 11) (v := ?_) rfl (by kernel_rfl) (by kernel_rfl) (by kernel_rfl) (fun _ _ _ h => h) (Or.inl ⟨by rfl, ?_⟩) hHeld ?_
  rotate_left
  · intro wq hSw
    go_simp
    all_goals with_reducible rfl
  try simp only [Act.put, List.getElem_toArray, List.getElem_cons_succ, List.getElem_cons_zero, List.setIfInBounds_toArray, List.set_cons_zero, List.set_cons_succ]
  refine wpAnyH_done (by kernel_rfl) ?_ _
  refine NoPanic.normal ?_
  clear hHeld
  have N4 : Hid (n4 ≤ 10 ∧ n5 ≤ 10) := ⟨by have h : X.length = n4 := (T2.out.get 0 rfl).len; have := sX.out.1; omega, by have h : Y.length = n5 := (T2.out.get 1 rfl).len; have := sY.out.1; omega⟩
  go_wp2_with fail
  refine (cut_mat _ _ _ _ _ (T2.out.get 0 rfl) (by have := N4.out; omega)).mono ?_
  rw [E0.out.2.2.1]
  rintro e w3 ⟨B5, n6, c6, rfl, mm, kk⟩
  have T3 : Hid (St w w3 [⟨B3, n4, c4, X⟩, ⟨B4, n5, c5, Y⟩, ⟨B5, n6, c6, X⟩]) := T2.out.more mm kk
  clear mm kk T2
  go_wp2_with fail
  refine (cut_mat _ _ _ _ _ (T3.out.get 1 rfl) (by have := N4.out; omega)).mono ?_
  rw [E0.out.2.2.2]
  rintro e w4 ⟨B6, n7, c7, rfl, mm, kk⟩
  have T4 : Hid (St w w4 [⟨B3, n4, c4, X⟩, ⟨B4, n5, c5, Y⟩, ⟨B5, n6, c6, X⟩, ⟨B6, n7, c7, Y⟩]) := T3.out.more mm kk
  have N6' : Hid (n4 ≤ 10 ∧ n5 ≤ 10 ∧ n6 ≤ 10 ∧ n7 ≤ 10) := ⟨N4.out.1, N4.out.2, by have h : X.length = n6 := (T4.out.get 2 rfl).len; have := sX.out.1; omega, by have h : Y.length = n7 := (T4.out.get 3 rfl).len; have := sY.out.1; omega⟩
  clear mm kk T3 N4
  go_wp2_with (at_builtin; refine wpList_append_bytes rfl _ _ 23 rfl Try.underlying23 info5 rfl (Own.none_ w4 w4.heap.size 5) rfl (HV.out.keep (Nat.le_refl _) T4.out.keep) (by omega) (Nat.le_refl _) ?_)
  intro Au cu w5 hu gu _
  have ku : Keep w4 w5 := (Keep.refl w4).grown gu (fun k hk => by cases hk)
  have T5 := Lib.hid (T4.out.later ku)
  have HU : Hid (LiesIn w5 (fun b => b < w5.heap.size) ⟨Au, mv, cu, V⟩) := LiesIn.of_bytes (r := ⟨Au, mv, cu, V⟩) hu.bytes (own_le' hu)
  have HVW := Lib.hid (HVL.out.up T5.out.keep)
  clear hu gu ku T4 HV HVL
  go_upto_region 5 with fail
  have hR0 : Right w5 ((w5.alloc (.cells #[.bool true] 4)).alloc (.cells #[.func (.func 11) #[] #[]] 25)) w5.heap.size (w5.heap.size + 1) :=
    ⟨Nat.le_refl _, Nat.lt_succ_self _, ((Keep.refl _).obj (.cells #[.func (.func 11) #[] #[]] 25)).block w5.heap.size (by rw [size_obj]; omega) |>.trans (heap_alloc_new w5 _), Held.new (by rw [size_obj]) _ _, ((Keep.refl w5).obj _).obj _⟩
  obtain ⟨g, hg⟩ : ∃ g, w5.heap.size = g := ⟨_, rfl⟩
  obtain ⟨gf, hgf⟩ : ∃ g, w5.heap.size + 1 = g := ⟨_, rfl⟩
  rw [hgf, hg] at hR0
  rw [hg] at hgf
  simp only [hg]
  try simp only [hgf]
  have R0 := Lib.hid hR0
  clear hR0 hg hgf
  generalize (w5.alloc (.cells #[.bool true] 4)).alloc (.cells #[.func (.func 11) #[] #[]] 25) = v0 at *
  go_wp2_with fail
  refine (has_mat ((T5.out.get 2 rfl).keep R0.out.keep) (HU.out.up R0.out.keep) (by have := N6'.out; omega) (Nat.le_trans TC.out.1.1 (by omega))).mono ?_
  rw [EK.out.1, EK.out.2.1]
  rintro e u0 ⟨rfl, kk⟩
  have U0 := Lib.hid (R0.out.later kk)
  clear kk R0
  go_wp2_with fail
  refine (rhas_mat ((T5.out.get 0 rfl).keep U0.out.keep) (HVW.out.up U0.out.keep) (by have := N6'.out; omega) (Nat.le_trans TC.out.1.1 (by omega))).mono ?_
  rw [EK.out.1, EK.out.2.1]
  rintro e x0 ⟨rfl, kk⟩
  have X0 := Lib.hid (U0.out.later kk)
  clear kk U0
  go_wp2_with fail
  refine (asks_any w5 x0 g gf _ _ X0.out).mono ?_
  rintro e v1 ⟨rfl, hr, _⟩
  have R1 := Lib.hid hr
  clear hr X0
  go_wp2_with fail
  refine (contains_mat ((T5.out.get 2 rfl).keep R1.out.keep) ((T5.out.get 3 rfl).keep R1.out.keep) (by have := N6'.out; omega) (by have := N6'.out; omega) (Nat.le_trans TC.out.2.1.1 (by omega))).mono ?_
  rw [EK.out.2.2.1, EK.out.2.2.2.1]
  rintro e u1 ⟨rfl, kk⟩
  have U1 := Lib.hid (R1.out.later kk)
  clear kk R1
  go_wp2_with fail
  refine (rcontains_mat ((T5.out.get 0 rfl).keep U1.out.keep) ((T5.out.get 1 rfl).keep U1.out.keep) (by have := N6'.out; omega) (by have := N6'.out; omega) (Nat.le_trans TC.out.2.1.1 (by omega))).mono ?_
  rw [EK.out.2.2.1, EK.out.2.2.2.1]
  rintro e x1 ⟨rfl, kk⟩
  have X1 := Lib.hid (U1.out.later kk)
  clear kk U1
  go_wp2_with fail
  refine (asks_any w5 x1 g gf _ _ X1.out).mono ?_
  rintro e v2 ⟨rfl, hr, _⟩
  have R2 := Lib.hid hr
  clear hr X1
  go_wp2_with fail
  refine (same_span ((T5.out.get 2 rfl).keep R2.out.keep) ((T5.out.get 3 rfl).keep R2.out.keep) (by have := N6'.out; omega) (by have := N6'.out; omega) (Nat.le_trans TC.out.2.1.1 (by omega)) (Nat.le_trans TC.out.2.2.1 (by omega))).mono ?_
  rw [EK.out.2.2.2.2.1, EK.out.2.2.2.1]
  rintro e u2 ⟨rfl, kk⟩
  have U2 := Lib.hid (R2.out.later kk)
  clear kk R2
  go_wp2_with fail
  refine (rsames_mat ((T5.out.get 0 rfl).keep U2.out.keep) ((T5.out.get 1 rfl).keep U2.out.keep) (by have := N6'.out; omega) (by have := N6'.out; omega) (Nat.le_trans TC.out.2.1.1 (by omega)) (Nat.le_trans TC.out.2.2.1 (by omega))).mono ?_
  rw [EK.out.2.2.2.2.1, EK.out.2.2.2.1]
  rintro e x2 ⟨rfl, kk⟩
  have X2 := Lib.hid (U2.out.later kk)
  clear kk U2
  go_wp2_with fail
  refine (asks_any w5 x2 g gf _ _ X2.out).mono ?_
  rintro e v3 ⟨rfl, hr, _⟩
  have R3 := Lib.hid hr
  clear hr X2
  go_wp2_with fail
  have hcode := sum_new ((T5.out.get 2 rfl).keep R3.out.keep) ((T5.out.get 3 rfl).keep R3.out.keep) (by have := N6'.out; omega) (by have := N6'.out; omega) (Nat.le_trans TC.out.2.1.1 (by omega))
  rw [EK.out.2.2.2.2.2.1, EK.out.2.2.2.1] at hcode
  have HCODE := Lib.hid hcode
  clear hcode
  refine HCODE.out.mono ?_
  rintro e u3 ⟨D3, l3, d3, rfl, rs3, ho3⟩
  have O3 := Lib.hid ho3
  clear ho3 HCODE
  go_wp2_with fail
  refine (rsum_mat ((T5.out.get 0 rfl).keep (R3.out.keep.trans O3.out.2.2.2)) ((T5.out.get 1 rfl).keep (R3.out.keep.trans O3.out.2.2.2)) (by have := N6'.out; omega) (by have := N6'.out; omega) (Nat.le_trans TC.out.2.1.1 (by omega))).mono ?_
  rw [EK.out.2.2.2.2.2.1, EK.out.2.2.2.1]
  rintro e x3 ⟨F3, j3, f3, rfl, mm, kk⟩
  have M3 := Lib.hid mm
  have K3 := Lib.hid kk
  clear mm kk
  go_wp2_with fail
  refine (lists_any w5 _ _ _ g gf _ _ _ _ _ _ _ _ _ R3.out O3.out K3.out M3.out (Nat.le_trans S4.out.1 (by omega)) (fun x hx => Nat.le_trans (S4.out.2 x hx) (by omega))).mono ?_
  rintro e v4 ⟨rfl, hr⟩
  have R4 := Lib.hid hr
  clear hr O3 M3 K3 R3
  go_wp2_with fail
  have hcode := meet_new ((T5.out.get 2 rfl).keep R4.out.keep) ((T5.out.get 3 rfl).keep R4.out.keep) (by have := N6'.out; omega) (by have := N6'.out; omega) (Nat.le_trans TC.out.2.1.1 (by omega))
  rw [EK.out.2.2.2.2.2.2.1, EK.out.2.2.2.1] at hcode
  have HCODE := Lib.hid hcode
  clear hcode
  refine HCODE.out.mono ?_
  rintro e u4 ⟨D4, l4, d4, rfl, rs4, ho4⟩
  have O4 := Lib.hid ho4
  clear ho4 HCODE
  go_wp2_with fail
  refine (rmeet_mat ((T5.out.get 0 rfl).keep (R4.out.keep.trans O4.out.2.2.2)) ((T5.out.get 1 rfl).keep (R4.out.keep.trans O4.out.2.2.2)) (by have := N6'.out; omega) (by have := N6'.out; omega) (Nat.le_trans TC.out.2.1.1 (by omega))).mono ?_
  rw [EK.out.2.2.2.2.2.2.1, EK.out.2.2.2.1]
  rintro e x4 ⟨F4, j4, f4, rfl, mm, kk⟩
  have M4 := Lib.hid mm
  have K4 := Lib.hid kk
  clear mm kk
  go_wp2_with fail
  refine (lists_any w5 _ _ _ g gf _ _ _ _ _ _ _ _ _ R4.out O4.out K4.out M4.out (Nat.le_trans S5.out.1 (by omega)) (fun x hx => Nat.le_trans (S5.out.2 x hx) (by omega))).mono ?_
  rintro e v5 ⟨rfl, hr⟩
  have R5 := Lib.hid hr
  clear hr O4 M4 K4 R4
  go_wp2_with fail
  have hwit := witness_mat ((T5.out.get 2 rfl).keep R5.out.keep) ((T5.out.get 3 rfl).keep R5.out.keep) (by have := N6'.out; omega) (by have := N6'.out; omega) (Nat.le_trans TC.out.2.1.1 (by omega))
  unfold NewWit at hwit
  rw [EK.out.2.2.2.2.2.2.2.2, EK.out.2.2.2.2.2.2.2.1, EK.out.2.2.2.1] at hwit
  have HWIT := Lib.hid hwit
  clear hwit
  refine HWIT.out.mono ?_
  rintro e u5 ⟨D5, l5, d5, rfl, o5, kk⟩
  have O5 := Lib.hid o5
  have U5 := Lib.hid (R5.out.later kk)
  have K5 := Lib.hid kk
  have HL5 : Hid (True ∧ gf < v5.heap.size ∧ w5.heap.size ≤ v5.heap.size) := ⟨trivial, R5.out.cell.2.2, R5.out.keep.size⟩
  clear o5 kk HWIT R5
  go_wp2_with fail
  have hwit := rwitness_mat ((T5.out.get 0 rfl).keep U5.out.keep) ((T5.out.get 1 rfl).keep U5.out.keep) (by have := N6'.out; omega) (by have := N6'.out; omega) (Nat.le_trans TC.out.2.1.1 (by omega))
  unfold NewWit at hwit
  rw [EK.out.2.2.2.2.2.2.2.2, EK.out.2.2.2.2.2.2.2.1, EK.out.2.2.2.1] at hwit
  have HWIT := Lib.hid hwit
  clear hwit
  refine HWIT.out.mono ?_
  rintro e x5 ⟨F5, j5, f5, rfl, o6, kk⟩
  have O6 := Lib.hid o6
  have O7 := Lib.hid (O5.out.keep kk)
  have X5 := Lib.hid (U5.out.later kk)
  have U5z : Hid (v5.heap.size ≤ u5.heap.size) := K5.out.size
  have K6 := Lib.hid (K5.out.trans kk)
  clear o6 kk HWIT O5 U5 K5
  go_wp2_with fail
  refine (asks_any w5 x5 g gf _ _ X5.out).mono ?_
  rintro e v6 ⟨rfl, hr, hT⟩
  have R6 := Lib.hid hr
  have hg5 : g < v5.heap.size := Nat.lt_trans X5.out.2.1 HL5.out.2.1
  have O8 := Lib.hid (O7.out.turned hT fun b hb e => by have := (O7.out.1.lt b hb).1; omega)
  have O9 : Hid (Own v6 v5.heap.size 5 F5 j5 f5 kD6) := (O6.out.lower U5z.out).turned hT fun b hb e => by have := ((O6.out.lower U5z.out).1.lt b hb).1; omega
  have HG5 := Lib.hid hg5
  have HX5 : Hid (v5.heap.size ≤ v6.heap.size) := Nat.le_trans K6.out.size hT.size
  clear hr hT O7 O6 X5 hg5
  obtain ⟨cR, fR, _⟩ := R6.out.cell
  have cv1 := run_str O8.out.bytes Try.underlying23 Try.underlying5 Try.underlying9 d5
  have cv2 := run_str O9.out.bytes Try.underlying23 Try.underlying5 Try.underlying9 f5
  have z1 : ((strN kD6).toList == (strN kD6).toList) = true := beq_self_eq_true _
  go_upto_region 26 with fail
  have R7 := Lib.hid R6.out.again
  have O10 := Lib.hid (O8.out.turned (Turned.set (F := fun b => b = g) v6 ⟨g, 0, none⟩ (.bool true) rfl) fun b hb e => by have := (O8.out.1.lt b hb).1; have := HG5.out; omega)
  clear cR fR cv1 cv2 O8 O9 R6
  have HV7 : Hid (v5.heap.size ≤ (v6.setCell ⟨g, 0, none⟩ (.bool true)).heap.size) := by
    show _ ≤ _
    have h1 := HX5.out
    simpa [World.setCell] using h1
  generalize v6.setCell ⟨g, 0, none⟩ (.bool true) = v7 at *
  have cf := R7.out.2.2.2.1.cell
  have R8 := Lib.hid (R7.out.later ((Keep.refl v7).obj (.cells #[.slice D5 l5 d5] 23)))
  have OL : Hid (OwnRows (v7.alloc (.cells #[.slice D5 l5 d5] 23)) v5.heap.size 23 (some ⟨v7.heap.size, 0, none⟩) 1 1 [⟨D5, l5, d5, kD6⟩]) := (OwnRows.lit1 v7 _ ⟨D5, l5, d5, kD6⟩ _ rfl).lower HV7.out
  have ML : Hid (∀ r ∈ [(⟨D5, l5, d5, kD6⟩ : RowV)], Mine v5 (v7.alloc (.cells #[.slice D5 l5 d5] 23)) r.A r.n r.c ∧ r.n ≤ 140737488355328) := fun r hr => by
    rw [List.mem_singleton.1 hr]
    exact ⟨⟨_, O10.out.keep ((Keep.refl v7).obj _)⟩, by show l5 ≤ _; rw [← O10.out.length]; have := N6.out; omega⟩
  go_wp2_with fail
  refine (flip_any v5 _ 1 1 _ [⟨D5, l5, d5, kD6⟩] OL.out ML.out (by omega)).mono ?_
  rintro e v8 ⟨rfl, hT⟩
  have R9 := Lib.hid (R8.out.turned hT (by have := HG5.out; omega) (by have := HL5.out.2.1; omega) fun b hb => Nat.le_trans HL5.out.2.2 hb)
  clear hT R7 R8 OL ML O10 cf
  obtain ⟨cR, fR, _⟩ := R9.out.cell
  go_wp2_with fail
  refine (rsame_mat ((T5.out.get 2 rfl).keep R9.out.keep) ((T5.out.get 0 rfl).keep R9.out.keep) (by have := N6'.out; omega)).mono ?_
  rintro e z1 ⟨rfl, kk⟩
  have RA := Lib.hid (R9.out.later kk)
  clear kk R9 cR fR
  go_wp2_with fail
  refine (rsame_mat ((T5.out.get 3 rfl).keep RA.out.keep) ((T5.out.get 1 rfl).keep RA.out.keep) (by have := N6'.out; omega)).mono ?_
  rintro e z2 ⟨rfl, kk⟩
  have RB := Lib.hid (RA.out.later kk)
  clear kk RA
  have cv1 := run_str ((HU.out.up RB.out.keep).bytes fun _ e => e) Try.underlying23 Try.underlying5 Try.underlying9 cu
  have cv2 := run_str ((HVW.out.up RB.out.keep).bytes fun _ e => e) Try.underlying23 Try.underlying5 Try.underlying9 c3
  have z3 : ((strN V).toList == (strN V).toList) = true := beq_self_eq_true _
  go_wp2_with fail
  clear cv1 cv2
  refine (wakes_any _).mono ?_
  rintro e z20 ⟨rfl, kk⟩
  have KE := Lib.hid (T5.out.keep.trans (RB.out.later kk).keep)
  clear kk RB
  go_wp2_with fail
  go_ret
  exact ⟨rfl, KE.out⟩
end Go.Proofs.Ytofhdaeeiienfaa
