/- The walk of SpanModular. -/
import Derived.Test.YtofhdaeeiienfaaSlaw
import Derived.Test.YtofhdaeeiienfaaArr
namespace Go.Proofs.Ytofhdaeeiienfaa
open Go.RowKit Lin
set_option linter.unusedVariables false
set_option linter.unusedSimpArgs false
set_option maxRecDepth 100000 in
set_option maxHeartbeats 8000000 in
theorem modular_any (n1 n2 n3 c1 c2 c3 s0 s1 s2 s3 : Nat) (A1 A2 A3 : Option Addr) (xs ys zs : List Nat) (w : World) (h1 : Bytes w w.heap.size A1 n1 xs) (h2 : Bytes w w.heap.size A2 n2 ys) (h3 : Bytes w w.heap.size A3 n3 zs) (m1 : n1 ≤ 140737488355328) (m2 : n2 ≤ 140737488355328) (m3 : n3 ≤ 140737488355328) (b0 : s0 < 256) (b1 : s1 < 256) (b2 : s2 < 256) (b3 : s3 < 256) :
    Calls Try.prog 7 #[.slice A1 n1 c1, .slice A2 n2 c2, .slice A3 n3 c3, .agg #[.int .u8 (s0 : Int), .int .u8 (s1 : Int), .int .u8 (s2 : Int), .int .u8 (s3 : Int)]] w fun e w' => e = .returned (.bool true) ∧ Keep w w' := by
  have H1 := Lib.hid h1
  have H2 := Lib.hid h2
  have H3 := Lib.hid h3
  obtain ⟨q0, hq0⟩ : ∃ q, s0 % 6 = q := ⟨_, rfl⟩
  have d0 : (s0 : Int) % 6 = (q0 : Int) := by omega
  have r0 : q0 ≤ 5 := by omega
  have dt0 : Hid ((s0 : Int).tmod 6 = (q0 : Int)) := by
    show _ = _
    rw [Int.tmod_eq_emod_of_nonneg (by omega)]; exact d0
  have dw0 : Hid (IntKind.i64.wrap (q0 : Int) = (q0 : Int)) := IntWalk.i64_in _ (by omega)
  obtain ⟨q1, hq1⟩ : ∃ q, s1 % 6 = q := ⟨_, rfl⟩
  have d1 : (s1 : Int) % 6 = (q1 : Int) := by omega
  have r1 : q1 ≤ 5 := by omega
  have dt1 : Hid ((s1 : Int).tmod 6 = (q1 : Int)) := by
    show _ = _
    rw [Int.tmod_eq_emod_of_nonneg (by omega)]; exact d1
  have dw1 : Hid (IntKind.i64.wrap (q1 : Int) = (q1 : Int)) := IntWalk.i64_in _ (by omega)
  obtain ⟨q2, hq2⟩ : ∃ q, s2 % 6 = q := ⟨_, rfl⟩
  have d2 : (s2 : Int) % 6 = (q2 : Int) := by omega
  have r2 : q2 ≤ 5 := by omega
  have dt2 : Hid ((s2 : Int).tmod 6 = (q2 : Int)) := by
    show _ = _
    rw [Int.tmod_eq_emod_of_nonneg (by omega)]; exact d2
  have dw2 : Hid (IntKind.i64.wrap (q2 : Int) = (q2 : Int)) := IntWalk.i64_in _ (by omega)
  obtain ⟨q3, hq3⟩ : ∃ q, s3 % 6 = q := ⟨_, rfl⟩
  have d3 : (s3 : Int) % 6 = (q3 : Int) := by omega
  have r3 : q3 ≤ 5 := by omega
  have dt3 : Hid ((s3 : Int).tmod 6 = (q3 : Int)) := by
    show _ = _
    rw [Int.tmod_eq_emod_of_nonneg (by omega)]; exact d3
  have dw3 : Hid (IntKind.i64.wrap (q3 : Int) = (q3 : Int)) := IntWalk.i64_in _ (by omega)
  obtain ⟨m, hm⟩ : ∃ m, 1 + q3 = m := ⟨_, rfl⟩
  have dm : 1 + (q3 : Int) = (m : Int) := by omega
  have rm : m ≤ 6 := by omega
  have rm1 : 1 ≤ m := by omega
  obtain ⟨X, hX⟩ : ∃ M, shapeN xs q0 m = M := ⟨_, rfl⟩
  have sX : Hid (Sz q0 m X) := hX ▸ shape_sz xs q0 m h1.all
  have EX := Lib.hid hX
  obtain ⟨Y, hY⟩ : ∃ M, shapeN ys q1 m = M := ⟨_, rfl⟩
  have sY : Hid (Sz q1 m Y) := hY ▸ shape_sz ys q1 m h2.all
  have EY := Lib.hid hY
  obtain ⟨Z, hZ⟩ : ∃ M, shapeN zs q2 m = M := ⟨_, rfl⟩
  have sZ : Hid (Sz q2 m Z) := hZ ▸ shape_sz zs q2 m h3.all
  have EZ := Lib.hid hZ
  have SZ0 : Hid (Sz 0 m []) := ⟨rfl, fun r hr => by simp at hr⟩
  have hmod := modular_n sX.out sY.out sZ.out
  obtain ⟨X1, hX1⟩ : ∃ M, reduceN (X ++ Z) = M := ⟨_, rfl⟩
  obtain ⟨YZ, hYZ⟩ : ∃ M, reduceN (Y ++ Z) = M := ⟨_, rfl⟩
  rw [hX1, hYZ] at hmod
  obtain ⟨L, hL⟩ : ∃ M, meetN X1 YZ = M := ⟨_, rfl⟩
  obtain ⟨XY, hXY⟩ : ∃ M, meetN X1 Y = M := ⟨_, rfl⟩
  rw [hL, hXY] at hmod
  have s1 := sz_sum sX.out sZ.out
  have s2 := sz_sum sY.out sZ.out
  rw [hX1] at s1
  rw [hYZ] at s2
  have s3 := sz_meet s1.1 s2.1
  have s4 := sz_meet s1.1 sY.out
  rw [hL] at s3
  rw [hXY] at s4
  have sX1 := Lib.hid s1.1
  have sYZ := Lib.hid s2.1
  have sL := Lib.hid s3.1
  have sXY := Lib.hid s4.1
  obtain ⟨p1, hp1⟩ : ∃ p, rk (X ++ Z) = p := ⟨_, rfl⟩
  obtain ⟨p2, hp2⟩ : ∃ p, rk (Y ++ Z) = p := ⟨_, rfl⟩
  obtain ⟨p3, hp3⟩ : ∃ p, L.length = p := ⟨_, rfl⟩
  obtain ⟨p4, hp4⟩ : ∃ p, XY.length = p := ⟨_, rfl⟩
  rw [hp1] at s1 sX1
  rw [hp2] at s2 sYZ
  rw [hp3] at s3 sL
  rw [hp4] at s4 sXY
  have t1 := s1.2
  have t2 := s2.2
  have t3 := s3.2
  have t4 := s4.2
  have EE := Lib.hid (And.intro hX1 (And.intro hYZ (And.intro hL (And.intro hXY hmod.symm))))
  clear s1 s2 s3 s4 hX1 hYZ hL hXY hmod hp1 hp2 hp3 hp4
  clear h1 h2 h3 hX hY hZ hq0 hq1 hq2 hq3 hm
  go_enter Try.func7, Try.ntmps7
  go_upto_region 1 with fail
  have hbk := heap_alloc_new w (.cells #[.int .u8 (s0 : Int), .int .u8 (s1 : Int), .int .u8 (s2 : Int), .int .u8 (s3 : Int)] 46)
  have kb : Keep w (w.alloc (.cells #[.int .u8 (s0 : Int), .int .u8 (s1 : Int), .int .u8 (s2 : Int), .int .u8 (s3 : Int)] 46)) := (Keep.refl w).obj _
  obtain ⟨gs, hgs⟩ : ∃ g, w.heap.size = g := ⟨_, rfl⟩
  rw [hgs] at hbk
  simp only [hgs]
  have cs0 : (w.alloc (.cells #[.int .u8 (s0 : Int), .int .u8 (s1 : Int), .int .u8 (s2 : Int), .int .u8 (s3 : Int)] 46)).cell? ⟨gs, 0, none⟩ = some (.int .u8 (s0 : Int)) := by simp [World.cell?, hbk]
  have cs1 : (w.alloc (.cells #[.int .u8 (s0 : Int), .int .u8 (s1 : Int), .int .u8 (s2 : Int), .int .u8 (s3 : Int)] 46)).cell? ⟨gs, 1, none⟩ = some (.int .u8 (s1 : Int)) := by simp [World.cell?, hbk]
  have cs2 : (w.alloc (.cells #[.int .u8 (s0 : Int), .int .u8 (s1 : Int), .int .u8 (s2 : Int), .int .u8 (s3 : Int)] 46)).cell? ⟨gs, 2, none⟩ = some (.int .u8 (s2 : Int)) := by simp [World.cell?, hbk]
  have cs3 : (w.alloc (.cells #[.int .u8 (s0 : Int), .int .u8 (s1 : Int), .int .u8 (s2 : Int), .int .u8 (s3 : Int)] 46)).cell? ⟨gs, 3, none⟩ = some (.int .u8 (s3 : Int)) := by simp [World.cell?, hbk]
  have hgl : gs < (w.alloc (.cells #[.int .u8 (s0 : Int), .int .u8 (s1 : Int), .int .u8 (s2 : Int), .int .u8 (s3 : Int)] 46)).heap.size := by rw [size_obj, hgs]; omega
  clear hbk hgs
  have KB := Lib.hid kb
  generalize w.alloc (.cells #[.int .u8 (s0 : Int), .int .u8 (s1 : Int), .int .u8 (s2 : Int), .int .u8 (s3 : Int)] 46) = wb at *
  clear kb
  go_wp2_with fail
  refine wp_region_noPanic ?_
  refine wp_region_held_drew (S := fun wz => Keep wb wz) (by kernel_rfl) (Keep.drew (Keep.refl wb)) (fun hHeld => ?_)
  refine wpAnyH_take (i := 0) (v := ?_) rfl (by kernel_rfl) (by kernel_rfl) (by kernel_rfl) (fun _ _ _ h => h) (Or.inl ⟨by rfl, ?_⟩) hHeld ?_
  rotate_left
  · intro wq hSw
    go_simp
    all_goals with_reducible rfl
  try simp only [Act.put, List.getElem_toArray, List.getElem_cons_succ, List.getElem_cons_zero, List.setIfInBounds_toArray, List.set_cons_zero, List.set_cons_succ]
  refine wpAnyH_take (i := 1) (v := ?_) rfl (by kernel_rfl) (by kernel_rfl) (by kernel_rfl) (fun _ _ _ h => h) (Or.inl ⟨by rfl, ?_⟩) hHeld ?_
  rotate_left
  · intro wq hSw
    go_simp
    all_goals with_reducible rfl
  try simp only [Act.put, List.getElem_toArray, List.getElem_cons_succ, List.getElem_cons_zero, List.setIfInBounds_toArray, List.set_cons_zero, List.set_cons_succ]
  refine wpAnyH_take (i := 2) (v := ?_) rfl (by kernel_rfl) (by kernel_rfl) (by kernel_rfl) (fun _ _ _ h => h) (Or.inl ⟨by rfl, ?_⟩) hHeld ?_
  rotate_left
  · intro wq hSw
    have q0 := (hSw.cell (p := ⟨gs, 0, none⟩) hgl).trans cs0
    go_simp
    all_goals with_reducible rfl
  try simp only [Act.put, List.getElem_toArray, List.getElem_cons_succ, List.getElem_cons_zero, List.setIfInBounds_toArray, List.set_cons_zero, List.set_cons_succ]
  refine wpAnyH_take (i := 3) (v := ?_) rfl (by kernel_rfl) (by kernel_rfl) (by kernel_rfl) (fun _ _ _ h => h) (Or.inl ⟨by rfl, ?_⟩) hHeld ?_
  rotate_left
  · intro wq hSw
    have q0 := dt0.out
    go_simp
    all_goals with_reducible rfl
  try simp only [Act.put, List.getElem_toArray, List.getElem_cons_succ, List.getElem_cons_zero, List.setIfInBounds_toArray, List.set_cons_zero, List.set_cons_succ]
  refine wpAnyH_take (i := 4) (v := ?_) rfl (by kernel_rfl) (by kernel_rfl) (by kernel_rfl) (fun _ _ _ h => h) (Or.inl ⟨by rfl, ?_⟩) hHeld ?_
  rotate_left
  · intro wq hSw
    have q0 := dw0.out
    go_simp
    all_goals with_reducible rfl
  try simp only [Act.put, List.getElem_toArray, List.getElem_cons_succ, List.getElem_cons_zero, List.setIfInBounds_toArray, List.set_cons_zero, List.set_cons_succ]
  refine wpAnyH_take (i := 5) (v := ?_) rfl (by kernel_rfl) (by kernel_rfl) (by kernel_rfl) (fun _ _ _ h => h) (Or.inl ⟨by rfl, ?_⟩) hHeld ?_
  rotate_left
  · intro wq hSw
    go_simp
    all_goals with_reducible rfl
  try simp only [Act.put, List.getElem_toArray, List.getElem_cons_succ, List.getElem_cons_zero, List.setIfInBounds_toArray, List.set_cons_zero, List.set_cons_succ]
  refine wpAnyH_take (i := 7) (v := ?_) rfl (by kernel_rfl) (by kernel_rfl) (by kernel_rfl) (fun _ _ _ h => h) (Or.inl ⟨by rfl, ?_⟩) hHeld ?_
  rotate_left
  · intro wq hSw
    go_simp
    all_goals with_reducible rfl
  try simp only [Act.put, List.getElem_toArray, List.getElem_cons_succ, List.getElem_cons_zero, List.setIfInBounds_toArray, List.set_cons_zero, List.set_cons_succ]
  refine wpAnyH_take (i := 8) (v := ?_) rfl (by kernel_rfl) (by kernel_rfl) (by kernel_rfl) (fun _ _ _ h => h) (Or.inl ⟨by rfl, ?_⟩) hHeld ?_
  rotate_left
  · intro wq hSw
    go_simp
    all_goals with_reducible rfl
  try simp only [Act.put, List.getElem_toArray, List.getElem_cons_succ, List.getElem_cons_zero, List.setIfInBounds_toArray, List.set_cons_zero, List.set_cons_succ]
  refine wpAnyH_take (i := 9) (v := ?_) rfl (by kernel_rfl) (by kernel_rfl) (by kernel_rfl) (fun _ _ _ h => h) (Or.inl ⟨by rfl, ?_⟩) hHeld ?_
  rotate_left
  · intro wq hSw
    have q0 := (hSw.cell (p := ⟨gs, 1, none⟩) hgl).trans cs1
    go_simp
    all_goals with_reducible rfl
  try simp only [Act.put, List.getElem_toArray, List.getElem_cons_succ, List.getElem_cons_zero, List.setIfInBounds_toArray, List.set_cons_zero, List.set_cons_succ]
  refine wpAnyH_take (i := 10) (v := ?_) rfl (by kernel_rfl) (by kernel_rfl) (by kernel_rfl) (fun _ _ _ h => h) (Or.inl ⟨by rfl, ?_⟩) hHeld ?_
  rotate_left
  · intro wq hSw
    have q0 := dt1.out
    go_simp
    all_goals with_reducible rfl
  try simp only [Act.put, List.getElem_toArray, List.getElem_cons_succ, List.getElem_cons_zero, List.setIfInBounds_toArray, List.set_cons_zero, List.set_cons_succ]
  refine wpAnyH_take (i := 11) (v := ?_) rfl (by kernel_rfl) (by kernel_rfl) (by kernel_rfl) (fun _ _ _ h => h) (Or.inl ⟨by rfl, ?_⟩) hHeld ?_
  rotate_left
  · intro wq hSw
    have q0 := dw1.out
    go_simp
    all_goals with_reducible rfl
  try simp only [Act.put, List.getElem_toArray, List.getElem_cons_succ, List.getElem_cons_zero, List.setIfInBounds_toArray, List.set_cons_zero, List.set_cons_succ]
  refine wpAnyH_take (i := 12) (v := ?_) rfl (by kernel_rfl) (by kernel_rfl) (by kernel_rfl) (fun _ _ _ h => h) (Or.inl ⟨by rfl, ?_⟩) hHeld ?_
  rotate_left
  · intro wq hSw
    go_simp
    all_goals with_reducible rfl
  try simp only [Act.put, List.getElem_toArray, List.getElem_cons_succ, List.getElem_cons_zero, List.setIfInBounds_toArray, List.set_cons_zero, List.set_cons_succ]
  refine wpAnyH_take (i := 14) (v := ?_) rfl (by kernel_rfl) (by kernel_rfl) (by kernel_rfl) (fun _ _ _ h => h) (Or.inl ⟨by rfl, ?_⟩) hHeld ?_
  rotate_left
  · intro wq hSw
    go_simp
    all_goals with_reducible rfl
  try simp only [Act.put, List.getElem_toArray, List.getElem_cons_succ, List.getElem_cons_zero, List.setIfInBounds_toArray, List.set_cons_zero, List.set_cons_succ]
  refine wpAnyH_take (i := 15) (v := ?_) rfl (by kernel_rfl) (by kernel_rfl) (by kernel_rfl) (fun _ _ _ h => h) (Or.inl ⟨by rfl, ?_⟩) hHeld ?_
  rotate_left
  · intro wq hSw
    go_simp
    all_goals with_reducible rfl
  try simp only [Act.put, List.getElem_toArray, List.getElem_cons_succ, List.getElem_cons_zero, List.setIfInBounds_toArray, List.set_cons_zero, List.set_cons_succ]
  refine wpAnyH_take (i := 16) (v := ?_) rfl (by kernel_rfl) (by kernel_rfl) (by kernel_rfl) (fun _ _ _ h => h) (Or.inl ⟨by rfl, ?_⟩) hHeld ?_
  rotate_left
  · intro wq hSw
    have q0 := (hSw.cell (p := ⟨gs, 2, none⟩) hgl).trans cs2
    go_simp
    all_goals with_reducible rfl
  try simp only [Act.put, List.getElem_toArray, List.getElem_cons_succ, List.getElem_cons_zero, List.setIfInBounds_toArray, List.set_cons_zero, List.set_cons_succ]
  refine wpAnyH_take (i := 17) (v := ?_) rfl (by kernel_rfl) (by kernel_rfl) (by kernel_rfl) (fun _ _ _ h => h) (Or.inl ⟨by rfl, ?_⟩) hHeld ?_
  rotate_left
  · intro wq hSw
    have q0 := dt2.out
    go_simp
    all_goals with_reducible rfl
  try simp only [Act.put, List.getElem_toArray, List.getElem_cons_succ, List.getElem_cons_zero, List.setIfInBounds_toArray, List.set_cons_zero, List.set_cons_succ]
  refine wpAnyH_take (i := 18) (v := ?_) rfl (by kernel_rfl) (by kernel_rfl) (by kernel_rfl) (fun _ _ _ h => h) (Or.inl ⟨by rfl, ?_⟩) hHeld ?_
  rotate_left
  · intro wq hSw
    have q0 := dw2.out
    go_simp
    all_goals with_reducible rfl
  try simp only [Act.put, List.getElem_toArray, List.getElem_cons_succ, List.getElem_cons_zero, List.setIfInBounds_toArray, List.set_cons_zero, List.set_cons_succ]
  refine wpAnyH_take (i := 19) (v := ?_) rfl (by kernel_rfl) (by kernel_rfl) (by kernel_rfl) (fun _ _ _ h => h) (Or.inl ⟨by rfl, ?_⟩) hHeld ?_
  rotate_left
  · intro wq hSw
    go_simp
    all_goals with_reducible rfl
  try simp only [Act.put, List.getElem_toArray, List.getElem_cons_succ, List.getElem_cons_zero, List.setIfInBounds_toArray, List.set_cons_zero, List.set_cons_succ]
  refine wpAnyH_ready (rs := [6]) (by kernel_rfl) (by simp) ?_
  refine AllReadyH.cons rfl (fun K hK => ?_) AllReadyH.nil
  go_simp
  refine (shaped_mat w.heap.size n1 c1 q0 m A1 xs wb.drew (H1.out.keep (Nat.le_refl _) (KB.out.trans (Keep.drew (Keep.refl wb)))) (KB.out.trans (Keep.drew (Keep.refl wb))).size m1 (by omega) (by omega)).mono ?_
  rintro e wX ⟨AX, nX, cX, rfl, mm, kk⟩
  have mm : Mat wX ⟨AX, nX, cX, X⟩ := by rw [← EX.out]; exact mm
  have SX : Hid (St wb wX [⟨AX, nX, cX, X⟩]) := (St.start wb |>.later (Keep.drew (Keep.refl wb))).more mm kk
  clear mm kk
  refine hK.out _ _ SX.out.keep (fun hHeld => ?_)
  clear hK K
  try simp only [Act.put, List.getElem_toArray, List.getElem_cons_succ, List.getElem_cons_zero, List.setIfInBounds_toArray, List.set_cons_zero, List.set_cons_succ]
  refine wpAnyH_ready (rs := [13]) (by kernel_rfl) (by simp) ?_
  refine AllReadyH.cons rfl (fun K hK => ?_) AllReadyH.nil
  go_simp
  refine (shaped_mat w.heap.size n2 c2 q1 m A2 ys wX (H2.out.keep (Nat.le_refl _) (KB.out.trans SX.out.keep)) (KB.out.trans SX.out.keep).size m2 (by omega) (by omega)).mono ?_
  rintro e wY ⟨AY, nY, cY, rfl, mm, kk⟩
  have mm : Mat wY ⟨AY, nY, cY, Y⟩ := by rw [← EY.out]; exact mm
  have SY : Hid (St wb wY [⟨AX, nX, cX, X⟩, ⟨AY, nY, cY, Y⟩]) := SX.out.more mm kk
  clear mm kk SX
  refine hK.out _ _ SY.out.keep (fun hHeld => ?_)
  clear hK K
  try simp only [Act.put, List.getElem_toArray, List.getElem_cons_succ, List.getElem_cons_zero, List.setIfInBounds_toArray, List.set_cons_zero, List.set_cons_succ]
  refine wpAnyH_ready (rs := [20]) (by kernel_rfl) (by simp) ?_
  refine AllReadyH.cons rfl (fun K hK => ?_) AllReadyH.nil
  go_simp
  refine (shaped_mat w.heap.size n3 c3 q2 m A3 zs wY (H3.out.keep (Nat.le_refl _) (KB.out.trans SY.out.keep)) (KB.out.trans SY.out.keep).size m3 (by omega) (by omega)).mono ?_
  rintro e wZ ⟨AZ, nZ, cZ, rfl, mm, kk⟩
  have mm : Mat wZ ⟨AZ, nZ, cZ, Z⟩ := by rw [← EZ.out]; exact mm
  have SZ : Hid (St wb wZ [⟨AX, nX, cX, X⟩, ⟨AY, nY, cY, Y⟩, ⟨AZ, nZ, cZ, Z⟩]) := SY.out.more mm kk
  clear mm kk SY
  refine hK.out _ _ SZ.out.keep (fun hHeld => ?_)
  clear hK K
  try simp only [Act.put, List.getElem_toArray, List.getElem_cons_succ, List.getElem_cons_zero, List.setIfInBounds_toArray, List.set_cons_zero, List.set_cons_succ]
  refine wpAnyH_take (i := 21) (v := ?_) rfl (by kernel_rfl) (by kernel_rfl) (by kernel_rfl) (fun _ _ _ h => h) (Or.inl ⟨by rfl, ?_⟩) hHeld ?_
  rotate_left
  · intro wq hSw
    go_simp
    all_goals with_reducible rfl
  try simp only [Act.put, List.getElem_toArray, List.getElem_cons_succ, List.getElem_cons_zero, List.setIfInBounds_toArray, List.set_cons_zero, List.set_cons_succ]
  refine wpAnyH_take (i := 22) (v := ?_) rfl (by kernel_rfl) (by kernel_rfl) (by kernel_rfl) (fun _ _ _ h => h) (Or.inl ⟨by rfl, ?_⟩) hHeld ?_
  rotate_left
  · intro wq hSw
    go_simp
    all_goals with_reducible rfl
  try simp only [Act.put, List.getElem_toArray, List.getElem_cons_succ, List.getElem_cons_zero, List.setIfInBounds_toArray, List.set_cons_zero, List.set_cons_succ]
  refine wpAnyH_take (i := 23) (v := ?_) rfl (by kernel_rfl) (by kernel_rfl) (by kernel_rfl) (fun _ _ _ h => h) (Or.inl ⟨by rfl, ?_⟩) hHeld ?_
  rotate_left
  · intro wq hSw
    go_simp
    all_goals with_reducible rfl
  try simp only [Act.put, List.getElem_toArray, List.getElem_cons_succ, List.getElem_cons_zero, List.setIfInBounds_toArray, List.set_cons_zero, List.set_cons_succ]
  refine wpAnyH_done (by kernel_rfl) ?_ _
  refine NoPanic.normal ?_
  clear hHeld
  clear cs0 cs1 cs2 cs3 hgl
  go_wp2_with fail
  refine (sum_szm (SZ.out.get 0 rfl) (SZ.out.get 2 rfl) sX.out sZ.out (by omega) (by omega) (by omega)).mono ?_
  rw [EE.out.1]
  rintro e w1 ⟨A1, n1, c1, rfl, mm, kk⟩
  have S1 : Hid (St wb w1 [⟨AX, nX, cX, X⟩, ⟨AY, nY, cY, Y⟩, ⟨AZ, nZ, cZ, Z⟩, ⟨A1, n1, c1, X1⟩]) := SZ.out.more mm kk
  clear mm kk SZ
  go_wp2_with fail
  refine (sum_szm (S1.out.get 1 rfl) (S1.out.get 2 rfl) sY.out sZ.out (by omega) (by omega) (by omega)).mono ?_
  rw [EE.out.2.1]
  rintro e w2 ⟨A2, n2, c2, rfl, mm, kk⟩
  have S2 : Hid (St wb w2 [⟨AX, nX, cX, X⟩, ⟨AY, nY, cY, Y⟩, ⟨AZ, nZ, cZ, Z⟩, ⟨A1, n1, c1, X1⟩, ⟨A2, n2, c2, YZ⟩]) := S1.out.more mm kk
  clear mm kk S1
  go_wp2_with fail
  refine (meet_szm (S2.out.get 3 rfl) (S2.out.get 4 rfl) sX1.out sYZ.out (by omega) (by omega) (by omega)).mono ?_
  rw [EE.out.2.2.1]
  rintro e w3 ⟨A3, n3, c3, rfl, mm, kk⟩
  have S3 : Hid (St wb w3 [⟨AX, nX, cX, X⟩, ⟨AY, nY, cY, Y⟩, ⟨AZ, nZ, cZ, Z⟩, ⟨A1, n1, c1, X1⟩, ⟨A2, n2, c2, YZ⟩, ⟨A3, n3, c3, L⟩]) := S2.out.more mm kk
  clear mm kk S2
  go_wp2_with fail
  refine (meet_szm (S3.out.get 3 rfl) (S3.out.get 1 rfl) sX1.out sY.out (by omega) (by omega) (by omega)).mono ?_
  rw [EE.out.2.2.2.1]
  rintro e w4 ⟨A4, n4, c4, rfl, mm, kk⟩
  have S4 : Hid (St wb w4 [⟨AX, nX, cX, X⟩, ⟨AY, nY, cY, Y⟩, ⟨AZ, nZ, cZ, Z⟩, ⟨A1, n1, c1, X1⟩, ⟨A2, n2, c2, YZ⟩, ⟨A3, n3, c3, L⟩, ⟨A4, n4, c4, XY⟩]) := S3.out.more mm kk
  clear mm kk S3
  go_wp2_with fail
  refine (sum_szm (S4.out.get 6 rfl) (S4.out.get 2 rfl) sXY.out sZ.out (by omega) (by omega) (by omega)).mono ?_
  rw [EE.out.2.2.2.2]
  rintro e w5 ⟨A5, n5, c5, rfl, mm, kk⟩
  have S5 : Hid (St wb w5 [⟨AX, nX, cX, X⟩, ⟨AY, nY, cY, Y⟩, ⟨AZ, nZ, cZ, Z⟩, ⟨A1, n1, c1, X1⟩, ⟨A2, n2, c2, YZ⟩, ⟨A3, n3, c3, L⟩, ⟨A4, n4, c4, XY⟩, ⟨A5, n5, c5, L⟩]) := S4.out.more mm kk
  clear mm kk S4
  go_wp2_with fail
  refine (same_yes (S5.out.get 5 rfl) (S5.out.get 7 rfl) (by rw [(S5.out.get 5 rfl).cnt sL.out]; omega) rfl).mono ?_
  rintro e w6 ⟨rfl, kk⟩
  have S6 := Lib.hid (S5.out.later kk)
  clear kk S5
  go_wp2_with fail
  refine (wakes_any _).mono ?_
  rintro e w7 ⟨rfl, kk⟩
  have S7 := Lib.hid (S6.out.later kk)
  clear kk S6
  go_wp2_with fail
  go_ret
  exact ⟨rfl, KB.out.trans S7.out.keep⟩
end Go.Proofs.Ytofhdaeeiienfaa
