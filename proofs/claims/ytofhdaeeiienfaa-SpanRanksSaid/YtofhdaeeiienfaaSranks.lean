/- The walk of SpanRanks. -/
import Derived.Test.YtofhdaeeiienfaaSlaw
import Derived.Test.YtofhdaeeiienfaaArr
namespace Go.Proofs.Ytofhdaeeiienfaa
open Go.RowKit Lin
set_option linter.unusedVariables false
set_option linter.unusedSimpArgs false
set_option maxRecDepth 100000 in
set_option maxHeartbeats 8000000 in
theorem ranks_any (n1 n2 n3 c1 c2 c3 s0 s1 s2 s3 : Nat) (A1 A2 A3 : Option Addr) (xs ys zs : List Nat) (w : World) (h1 : Bytes w w.heap.size A1 n1 xs) (h2 : Bytes w w.heap.size A2 n2 ys) (h3 : Bytes w w.heap.size A3 n3 zs) (m1 : n1 ≤ 140737488355328) (m2 : n2 ≤ 140737488355328) (m3 : n3 ≤ 140737488355328) (b0 : s0 < 256) (b1 : s1 < 256) (b2 : s2 < 256) (b3 : s3 < 256) :
    Calls Try.prog 4 #[.slice A1 n1 c1, .slice A2 n2 c2, .slice A3 n3 c3, .agg #[.int .u8 (s0 : Int), .int .u8 (s1 : Int), .int .u8 (s2 : Int), .int .u8 (s3 : Int)]] w fun e w' => e = .returned (.bool true) ∧ Keep w w' := by
  have H1 := Lib.hid h1
  have H2 := Lib.hid h2
  have H3 := Lib.hid h3
  obtain ⟨q0, hq0⟩ : ∃ q, s0 % 6 = q := ⟨_, rfl⟩
  have d0 : (s0 : Int) % 6 = (q0 : Int) := by omega
  have r0 : q0 ≤ 5 := by omega
  have dt0 : Hid ((s0 : Int).tmod 6 = (q0 : Int)) := by
    show _ = _
    rw [Int.tmod_eq_emod_of_nonneg (by omega)]; exact d0
  have dw0 : Hid (IntKind.i64.wrap (q0 : Int) = (q0 : Int)) := IntWalk.i64_in _ (by omega)
  obtain ⟨q1, hq1⟩ : ∃ q, s1 % 6 = q := ⟨_, rfl⟩
  have d1 : (s1 : Int) % 6 = (q1 : Int) := by omega
  have r1 : q1 ≤ 5 := by omega
  have dt1 : Hid ((s1 : Int).tmod 6 = (q1 : Int)) := by
    show _ = _
    rw [Int.tmod_eq_emod_of_nonneg (by omega)]; exact d1
  have dw1 : Hid (IntKind.i64.wrap (q1 : Int) = (q1 : Int)) := IntWalk.i64_in _ (by omega)
  obtain ⟨q2, hq2⟩ : ∃ q, s2 % 6 = q := ⟨_, rfl⟩
  have d2 : (s2 : Int) % 6 = (q2 : Int) := by omega
  have r2 : q2 ≤ 5 := by omega
  have dt2 : Hid ((s2 : Int).tmod 6 = (q2 : Int)) := by
    show _ = _
    rw [Int.tmod_eq_emod_of_nonneg (by omega)]; exact d2
  have dw2 : Hid (IntKind.i64.wrap (q2 : Int) = (q2 : Int)) := IntWalk.i64_in _ (by omega)
  obtain ⟨q3, hq3⟩ : ∃ q, s3 % 6 = q := ⟨_, rfl⟩
  have d3 : (s3 : Int) % 6 = (q3 : Int) := by omega
  have r3 : q3 ≤ 5 := by omega
  have dt3 : Hid ((s3 : Int).tmod 6 = (q3 : Int)) := by
    show _ = _
    rw [Int.tmod_eq_emod_of_nonneg (by omega)]; exact d3
  have dw3 : Hid (IntKind.i64.wrap (q3 : Int) = (q3 : Int)) := IntWalk.i64_in _ (by omega)
  obtain ⟨m, hm⟩ : ∃ m, 1 + q3 = m := ⟨_, rfl⟩
  have dm : 1 + (q3 : Int) = (m : Int) := by omega
  have rm : m ≤ 6 := by omega
  have rm1 : 1 ≤ m := by omega
  obtain ⟨X, hX⟩ : ∃ M, shapeN xs q0 m = M := ⟨_, rfl⟩
  have sX : Hid (Sz q0 m X) := hX ▸ shape_sz xs q0 m h1.all
  have EX := Lib.hid hX
  obtain ⟨Y, hY⟩ : ∃ M, shapeN ys q1 m = M := ⟨_, rfl⟩
  have sY : Hid (Sz q1 m Y) := hY ▸ shape_sz ys q1 m h2.all
  have EY := Lib.hid hY
  obtain ⟨Z, hZ⟩ : ∃ M, shapeN zs q2 m = M := ⟨_, rfl⟩
  have sZ : Hid (Sz q2 m Z) := hZ ▸ shape_sz zs q2 m h3.all
  have EZ := Lib.hid hZ
  have SZ0 : Hid (Sz 0 m []) := ⟨rfl, fun r hr => by simp at hr⟩
  have ff := span_facts sX.out sY.out sZ.out
  have u1 := sz_sum sX.out sY.out
  have u2 := sz_meet sX.out sY.out
  have u3 := rk_le sX.out
  have u4 := rk_le sY.out
  obtain ⟨S, hS⟩ : ∃ M, reduceN (X ++ Y) = M := ⟨_, rfl⟩
  obtain ⟨T, hT⟩ : ∃ M, meetN X Y = M := ⟨_, rfl⟩
  obtain ⟨RX, hRX⟩ : ∃ M, reduceN X = M := ⟨_, rfl⟩
  rw [hS, hT, hRX] at ff
  rw [hS] at u1
  rw [hT] at u2
  obtain ⟨ks, hks⟩ : ∃ p, rk (X ++ Y) = p := ⟨_, rfl⟩
  obtain ⟨kt, hkt⟩ : ∃ p, T.length = p := ⟨_, rfl⟩
  obtain ⟨kx, hkx⟩ : ∃ p, rk X = p := ⟨_, rfl⟩
  obtain ⟨ky, hky⟩ : ∃ p, rk Y = p := ⟨_, rfl⟩
  rw [hks, hkt, hkx, hky] at ff
  rw [hks] at u1
  rw [hkt] at u2
  rw [hkx] at u3
  rw [hky] at u4
  have SZ_S := Lib.hid u1.1
  have SZ_T := Lib.hid u2.1
  have t1 := u1.2
  have t2 := u2.2
  have t3 := u3.2
  have t4 := u4.2
  obtain ⟨zx, hzx⟩ : ∃ p, conB Z X = p := ⟨_, rfl⟩
  obtain ⟨zy, hzy⟩ : ∃ p, conB Z Y = p := ⟨_, rfl⟩
  obtain ⟨xz, hxz⟩ : ∃ p, conB X Z = p := ⟨_, rfl⟩
  obtain ⟨yz, hyz⟩ : ∃ p, conB Y Z = p := ⟨_, rfl⟩
  obtain ⟨xy, hxy⟩ : ∃ p, conB X Y = p := ⟨_, rfl⟩
  rw [hzx, hzy, hxz, hyz, hxy] at ff
  obtain ⟨g1, g2, g3, g4, g5, g6, g7, g8, g9, g10⟩ := ff
  have g1 : ks + kt = kx + ky := g1
  have y1 : (ks : Int) + (kt : Int) = (kx : Int) + (ky : Int) := by omega
  have y2 : IntKind.i64.wrap ((ks : Int) + (kt : Int)) = (ks : Int) + (kt : Int) := IntWalk.i64_in _ (by omega)
  have C0 := Lib.hid (And.intro g2 (And.intro g3 (And.intro g4 g5)))
  have CZ := Lib.hid (And.intro hzx (And.intro hzy (And.intro hxz (And.intro hyz hxy))))
  have C6 := Lib.hid g6
  have C7 := Lib.hid g7
  have C8 := Lib.hid (And.intro g8 g9)
  have C10 := Lib.hid g10
  have ER := Lib.hid (And.intro hS (And.intro hT (And.intro hRX (And.intro hkx hky))))
  clear hS hT hRX hks hkt hkx hky hzx hzy hxz hyz hxy u1 u2 u3 u4 g1 g2 g3 g4 g5 g6 g7 g8 g9 g10
  clear h1 h2 h3 hX hY hZ hq0 hq1 hq2 hq3 hm
  go_enter Try.func4, Try.ntmps4
  go_upto_region 1 with fail
  have hbk := heap_alloc_new w (.cells #[.int .u8 (s0 : Int), .int .u8 (s1 : Int), .int .u8 (s2 : Int), .int .u8 (s3 : Int)] 46)
  have kb : Keep w (w.alloc (.cells #[.int .u8 (s0 : Int), .int .u8 (s1 : Int), .int .u8 (s2 : Int), .int .u8 (s3 : Int)] 46)) := (Keep.refl w).obj _
  obtain ⟨gs, hgs⟩ : ∃ g, w.heap.size = g := ⟨_, rfl⟩
  rw [hgs] at hbk
  simp only [hgs]
  have cs0 : (w.alloc (.cells #[.int .u8 (s0 : Int), .int .u8 (s1 : Int), .int .u8 (s2 : Int), .int .u8 (s3 : Int)] 46)).cell? ⟨gs, 0, none⟩ = some (.int .u8 (s0 : Int)) := by simp [World.cell?, hbk]
  have cs1 : (w.alloc (.cells #[.int .u8 (s0 : Int), .int .u8 (s1 : Int), .int .u8 (s2 : Int), .int .u8 (s3 : Int)] 46)).cell? ⟨gs, 1, none⟩ = some (.int .u8 (s1 : Int)) := by simp [World.cell?, hbk]
  have cs2 : (w.alloc (.cells #[.int .u8 (s0 : Int), .int .u8 (s1 : Int), .int .u8 (s2 : Int), .int .u8 (s3 : Int)] 46)).cell? ⟨gs, 2, none⟩ = some (.int .u8 (s2 : Int)) := by simp [World.cell?, hbk]
  have cs3 : (w.alloc (.cells #[.int .u8 (s0 : Int), .int .u8 (s1 : Int), .int .u8 (s2 : Int), .int .u8 (s3 : Int)] 46)).cell? ⟨gs, 3, none⟩ = some (.int .u8 (s3 : Int)) := by simp [World.cell?, hbk]
  have hgl : gs < (w.alloc (.cells #[.int .u8 (s0 : Int), .int .u8 (s1 : Int), .int .u8 (s2 : Int), .int .u8 (s3 : Int)] 46)).heap.size := by rw [size_obj, hgs]; omega
  clear hbk hgs
  have KB := Lib.hid kb
  generalize w.alloc (.cells #[.int .u8 (s0 : Int), .int .u8 (s1 : Int), .int .u8 (s2 : Int), .int .u8 (s3 : Int)] 46) = wb at *
  clear kb
  go_wp2_with fail
  refine wp_region_noPanic ?_
  refine wp_region_held_drew (S := fun wz => Keep wb wz) (by kernel_rfl) (Keep.drew (Keep.refl wb)) (fun hHeld => ?_)
  refine wpAnyH_take (i := 0) (v := ?_) rfl (by kernel_rfl) (by kernel_rfl) (by kernel_rfl) (fun _ _ _ h => h) (Or.inl ⟨by rfl, ?_⟩) hHeld ?_
  rotate_left
  · intro wq hSw
    go_simp
    all_goals with_reducible rfl
  try simp only [Act.put, List.getElem_toArray, List.getElem_cons_succ, List.getElem_cons_zero, List.setIfInBounds_toArray, List.set_cons_zero, List.set_cons_succ]
  refine wpAnyH_take (i := 1) (v := ?_) rfl (by kernel_rfl) (by kernel_rfl) (by kernel_rfl) (fun _ _ _ h => h) (Or.inl ⟨by rfl, ?_⟩) hHeld ?_
  rotate_left
  · intro wq hSw
    go_simp
    all_goals with_reducible rfl
  try simp only [Act.put, List.getElem_toArray, List.getElem_cons_succ, List.getElem_cons_zero, List.setIfInBounds_toArray, List.set_cons_zero, List.set_cons_succ]
  refine wpAnyH_take (i := 2) (v := ?_) rfl (by kernel_rfl) (by kernel_rfl) (by kernel_rfl) (fun _ _ _ h => h) (Or.inl ⟨by rfl, ?_⟩) hHeld ?_
  rotate_left
  · intro wq hSw
    have q0 := (hSw.cell (p := ⟨gs, 0, none⟩) hgl).trans cs0
    go_simp
    all_goals with_reducible rfl
  try simp only [Act.put, List.getElem_toArray, List.getElem_cons_succ, List.getElem_cons_zero, List.setIfInBounds_toArray, List.set_cons_zero, List.set_cons_succ]
  refine wpAnyH_take (i := 3) (v := ?_) rfl (by kernel_rfl) (by kernel_rfl) (by kernel_rfl) (fun _ _ _ h => h) (Or.inl ⟨by rfl, ?_⟩) hHeld ?_
  rotate_left
  · intro wq hSw
    have q0 := dt0.out
    go_simp
    all_goals with_reducible rfl
  try simp only [Act.put, List.getElem_toArray, List.getElem_cons_succ, List.getElem_cons_zero, List.setIfInBounds_toArray, List.set_cons_zero, List.set_cons_succ]
  refine wpAnyH_take (i := 4) (v := ?_) rfl (by kernel_rfl) (by kernel_rfl) (by kernel_rfl) (fun _ _ _ h => h) (Or.inl ⟨by rfl, ?_⟩) hHeld ?_
  rotate_left
  · intro wq hSw
    have q0 := dw0.out
    go_simp
    all_goals with_reducible rfl
  try simp only [Act.put, List.getElem_toArray, List.getElem_cons_succ, List.getElem_cons_zero, List.setIfInBounds_toArray, List.set_cons_zero, List.set_cons_succ]
  refine wpAnyH_take (i := 5) (v := ?_) rfl (by kernel_rfl) (by kernel_rfl) (by kernel_rfl) (fun _ _ _ h => h) (Or.inl ⟨by rfl, ?_⟩) hHeld ?_
  rotate_left
  · intro wq hSw
    go_simp
    all_goals with_reducible rfl
  try simp only [Act.put, List.getElem_toArray, List.getElem_cons_succ, List.getElem_cons_zero, List.setIfInBounds_toArray, List.set_cons_zero, List.set_cons_succ]
  refine wpAnyH_take (i := 7) (v := ?_) rfl (by kernel_rfl) (by kernel_rfl) (by kernel_rfl) (fun _ _ _ h => h) (Or.inl ⟨by rfl, ?_⟩) hHeld ?_
  rotate_left
  · intro wq hSw
    go_simp
    all_goals with_reducible rfl
  try simp only [Act.put, List.getElem_toArray, List.getElem_cons_succ, List.getElem_cons_zero, List.setIfInBounds_toArray, List.set_cons_zero, List.set_cons_succ]
  refine wpAnyH_take (i := 8) (v := ?_) rfl (by kernel_rfl) (by kernel_rfl) (by kernel_rfl) (fun _ _ _ h => h) (Or.inl ⟨by rfl, ?_⟩) hHeld ?_
  rotate_left
  · intro wq hSw
    go_simp
    all_goals with_reducible rfl
  try simp only [Act.put, List.getElem_toArray, List.getElem_cons_succ, List.getElem_cons_zero, List.setIfInBounds_toArray, List.set_cons_zero, List.set_cons_succ]
  refine wpAnyH_take (i := 9) (v := ?_) rfl (by kernel_rfl) (by kernel_rfl) (by kernel_rfl) (fun _ _ _ h => h) (Or.inl ⟨by rfl, ?_⟩) hHeld ?_
  rotate_left
  · intro wq hSw
    have q0 := (hSw.cell (p := ⟨gs, 1, none⟩) hgl).trans cs1
    go_simp
    all_goals with_reducible rfl
  try simp only [Act.put, List.getElem_toArray, List.getElem_cons_succ, List.getElem_cons_zero, List.setIfInBounds_toArray, List.set_cons_zero, List.set_cons_succ]
  refine wpAnyH_take (i := 10) (v := ?_) rfl (by kernel_rfl) (by kernel_rfl) (by kernel_rfl) (fun _ _ _ h => h) (Or.inl ⟨by rfl, ?_⟩) hHeld ?_
  rotate_left
  · intro wq hSw
    have q0 := dt1.out
    go_simp
    all_goals with_reducible rfl
  try simp only [Act.put, List.getElem_toArray, List.getElem_cons_succ, List.getElem_cons_zero, List.setIfInBounds_toArray, List.set_cons_zero, List.set_cons_succ]
  refine wpAnyH_take (i := 11) (v := ?_) rfl (by kernel_rfl) (by kernel_rfl) (by kernel_rfl) (fun _ _ _ h => h) (Or.inl ⟨by rfl, ?_⟩) hHeld ?_
  rotate_left
  · intro wq hSw
    have q0 := dw1.out
    go_simp
    all_goals with_reducible rfl
  try simp only [Act.put, List.getElem_toArray, List.getElem_cons_succ, List.getElem_cons_zero, List.setIfInBounds_toArray, List.set_cons_zero, List.set_cons_succ]
  refine wpAnyH_take (i := 12) (v := ?_) rfl (by kernel_rfl) (by kernel_rfl) (by kernel_rfl) (fun _ _ _ h => h) (Or.inl ⟨by rfl, ?_⟩) hHeld ?_
  rotate_left
  · intro wq hSw
    go_simp
    all_goals with_reducible rfl
  try simp only [Act.put, List.getElem_toArray, List.getElem_cons_succ, List.getElem_cons_zero, List.setIfInBounds_toArray, List.set_cons_zero, List.set_cons_succ]
  refine wpAnyH_take (i := 14) (v := ?_) rfl (by kernel_rfl) (by kernel_rfl) (by kernel_rfl) (fun _ _ _ h => h) (Or.inl ⟨by rfl, ?_⟩) hHeld ?_
  rotate_left
  · intro wq hSw
    go_simp
    all_goals with_reducible rfl
  try simp only [Act.put, List.getElem_toArray, List.getElem_cons_succ, List.getElem_cons_zero, List.setIfInBounds_toArray, List.set_cons_zero, List.set_cons_succ]
  refine wpAnyH_take (i := 15) (v := ?_) rfl (by kernel_rfl) (by kernel_rfl) (by kernel_rfl) (fun _ _ _ h => h) (Or.inl ⟨by rfl, ?_⟩) hHeld ?_
  rotate_left
  · intro wq hSw
    go_simp
    all_goals with_reducible rfl
  try simp only [Act.put, List.getElem_toArray, List.getElem_cons_succ, List.getElem_cons_zero, List.setIfInBounds_toArray, List.set_cons_zero, List.set_cons_succ]
  refine wpAnyH_take (i := 16) (v := ?_) rfl (by kernel_rfl) (by kernel_rfl) (by kernel_rfl) (fun _ _ _ h => h) (Or.inl ⟨by rfl, ?_⟩) hHeld ?_
  rotate_left
  · intro wq hSw
    have q0 := (hSw.cell (p := ⟨gs, 2, none⟩) hgl).trans cs2
    go_simp
    all_goals with_reducible rfl
  try simp only [Act.put, List.getElem_toArray, List.getElem_cons_succ, List.getElem_cons_zero, List.setIfInBounds_toArray, List.set_cons_zero, List.set_cons_succ]
  refine wpAnyH_take (i := 17) (v := ?_) rfl (by kernel_rfl) (by kernel_rfl) (by kernel_rfl) (fun _ _ _ h => h) (Or.inl ⟨by rfl, ?_⟩) hHeld ?_
  rotate_left
  · intro wq hSw
    have q0 := dt2.out
    go_simp
    all_goals with_reducible rfl
  try simp only [Act.put, List.getElem_toArray, List.getElem_cons_succ, List.getElem_cons_zero, List.setIfInBounds_toArray, List.set_cons_zero, List.set_cons_succ]
  refine wpAnyH_take (i := 18) (v := ?_) rfl (by kernel_rfl) (by kernel_rfl) (by kernel_rfl) (fun _ _ _ h => h) (Or.inl ⟨by rfl, ?_⟩) hHeld ?_
  rotate_left
  · intro wq hSw
    have q0 := dw2.out
    go_simp
    all_goals with_reducible rfl
  try simp only [Act.put, List.getElem_toArray, List.getElem_cons_succ, List.getElem_cons_zero, List.setIfInBounds_toArray, List.set_cons_zero, List.set_cons_succ]
  refine wpAnyH_take (i := 19) (v := ?_) rfl (by kernel_rfl) (by kernel_rfl) (by kernel_rfl) (fun _ _ _ h => h) (Or.inl ⟨by rfl, ?_⟩) hHeld ?_
  rotate_left
  · intro wq hSw
    go_simp
    all_goals with_reducible rfl
  try simp only [Act.put, List.getElem_toArray, List.getElem_cons_succ, List.getElem_cons_zero, List.setIfInBounds_toArray, List.set_cons_zero, List.set_cons_succ]
  refine wpAnyH_ready (rs := [6]) (by kernel_rfl) (by simp) ?_
  refine AllReadyH.cons rfl (fun K hK => ?_) AllReadyH.nil
  go_simp
  refine (shaped_mat w.heap.size n1 c1 q0 m A1 xs wb.drew (H1.out.keep (Nat.le_refl _) (KB.out.trans (Keep.drew (Keep.refl wb)))) (KB.out.trans (Keep.drew (Keep.refl wb))).size m1 (by omega) (by omega)).mono ?_
  rintro e wX ⟨AX, nX, cX, rfl, mm, kk⟩
  have mm : Mat wX ⟨AX, nX, cX, X⟩ := by rw [← EX.out]; exact mm
  have SX : Hid (St wb wX [⟨AX, nX, cX, X⟩]) := (St.start wb |>.later (Keep.drew (Keep.refl wb))).more mm kk
  clear mm kk
  refine hK.out _ _ SX.out.keep (fun hHeld => ?_)
  clear hK K
  try simp only [Act.put, List.getElem_toArray, List.getElem_cons_succ, List.getElem_cons_zero, List.setIfInBounds_toArray, List.set_cons_zero, List.set_cons_succ]
  refine wpAnyH_ready (rs := [13]) (by kernel_rfl) (by simp) ?_
  refine AllReadyH.cons rfl (fun K hK => ?_) AllReadyH.nil
  go_simp
  refine (shaped_mat w.heap.size n2 c2 q1 m A2 ys wX (H2.out.keep (Nat.le_refl _) (KB.out.trans SX.out.keep)) (KB.out.trans SX.out.keep).size m2 (by omega) (by omega)).mono ?_
  rintro e wY ⟨AY, nY, cY, rfl, mm, kk⟩
  have mm : Mat wY ⟨AY, nY, cY, Y⟩ := by rw [← EY.out]; exact mm
  have SY : Hid (St wb wY [⟨AX, nX, cX, X⟩, ⟨AY, nY, cY, Y⟩]) := SX.out.more mm kk
  clear mm kk SX
  refine hK.out _ _ SY.out.keep (fun hHeld => ?_)
  clear hK K
  try simp only [Act.put, List.getElem_toArray, List.getElem_cons_succ, List.getElem_cons_zero, List.setIfInBounds_toArray, List.set_cons_zero, List.set_cons_succ]
  refine wpAnyH_ready (rs := [20]) (by kernel_rfl) (by simp) ?_
  refine AllReadyH.cons rfl (fun K hK => ?_) AllReadyH.nil
  go_simp
  refine (shaped_mat w.heap.size n3 c3 q2 m A3 zs wY (H3.out.keep (Nat.le_refl _) (KB.out.trans SY.out.keep)) (KB.out.trans SY.out.keep).size m3 (by omega) (by omega)).mono ?_
  rintro e wZ ⟨AZ, nZ, cZ, rfl, mm, kk⟩
  have mm : Mat wZ ⟨AZ, nZ, cZ, Z⟩ := by rw [← EZ.out]; exact mm
  have SZ : Hid (St wb wZ [⟨AX, nX, cX, X⟩, ⟨AY, nY, cY, Y⟩, ⟨AZ, nZ, cZ, Z⟩]) := SY.out.more mm kk
  clear mm kk SY
  refine hK.out _ _ SZ.out.keep (fun hHeld => ?_)
  clear hK K
  try simp only [Act.put, List.getElem_toArray, List.getElem_cons_succ, List.getElem_cons_zero, List.setIfInBounds_toArray, List.set_cons_zero, List.set_cons_succ]
  refine wpAnyH_take (i := 21) (v := ?_) rfl (by kernel_rfl) (by kernel_rfl) (by kernel_rfl) (fun _ _ _ h => h) (Or.inl ⟨by rfl, ?_⟩) hHeld ?_
  rotate_left
  · intro wq hSw
    go_simp
    all_goals with_reducible rfl
  try simp only [Act.put, List.getElem_toArray, List.getElem_cons_succ, List.getElem_cons_zero, List.setIfInBounds_toArray, List.set_cons_zero, List.set_cons_succ]
  refine wpAnyH_take (i := 22) (v := ?_) rfl (by kernel_rfl) (by kernel_rfl) (by kernel_rfl) (fun _ _ _ h => h) (Or.inl ⟨by rfl, ?_⟩) hHeld ?_
  rotate_left
  · intro wq hSw
    go_simp
    all_goals with_reducible rfl
  try simp only [Act.put, List.getElem_toArray, List.getElem_cons_succ, List.getElem_cons_zero, List.setIfInBounds_toArray, List.set_cons_zero, List.set_cons_succ]
  refine wpAnyH_take (i := 23) (v := ?_) rfl (by kernel_rfl) (by kernel_rfl) (by kernel_rfl) (fun _ _ _ h => h) (Or.inl ⟨by rfl, ?_⟩) hHeld ?_
  rotate_left
  · intro wq hSw
    go_simp
    all_goals with_reducible rfl
  try simp only [Act.put, List.getElem_toArray, List.getElem_cons_succ, List.getElem_cons_zero, List.setIfInBounds_toArray, List.set_cons_zero, List.set_cons_succ]
  refine wpAnyH_done (by kernel_rfl) ?_ _
  refine NoPanic.normal ?_
  clear hHeld
  clear cs0 cs1 cs2 cs3 hgl
  go_wp2_with fail
  refine (sum_szm (SZ.out.get 0 rfl) (SZ.out.get 1 rfl) sX.out sY.out (by omega) (by omega) (by omega)).mono ?_
  rw [ER.out.1]
  rintro e w1 ⟨A1, n1, c1, rfl, mm, kk⟩
  have S1 : Hid (St wb w1 [⟨AX, nX, cX, X⟩, ⟨AY, nY, cY, Y⟩, ⟨AZ, nZ, cZ, Z⟩, ⟨A1, n1, c1, S⟩]) := SZ.out.more mm kk
  clear mm kk SZ
  go_wp2_with fail
  refine (meet_szm (S1.out.get 0 rfl) (S1.out.get 1 rfl) sX.out sY.out (by omega) (by omega) (by omega)).mono ?_
  rw [ER.out.2.1]
  rintro e w2 ⟨A2, n2, c2, rfl, mm, kk⟩
  have S2 : Hid (St wb w2 [⟨AX, nX, cX, X⟩, ⟨AY, nY, cY, Y⟩, ⟨AZ, nZ, cZ, Z⟩, ⟨A1, n1, c1, S⟩, ⟨A2, n2, c2, T⟩]) := S1.out.more mm kk
  clear mm kk S1
  go_wp2_with fail
  refine (rank_sz0 (S2.out.get 0 rfl) sX.out (by omega) (by omega)).mono ?_
  rw [ER.out.2.2.2.1]
  rintro e w3 ⟨rfl, kk⟩
  have S3 := Lib.hid (S2.out.later kk)
  clear kk S2
  go_wp2_with fail
  refine (rank_sz0 (S3.out.get 1 rfl) sY.out (by omega) (by omega)).mono ?_
  rw [ER.out.2.2.2.2]
  rintro e w4 ⟨rfl, kk⟩
  have S4 := Lib.hid (S3.out.later kk)
  clear kk S3
  obtain rfl : n1 = ks := (S4.out.get 3 rfl).cnt SZ_S.out
  obtain rfl : n2 = kt := (S4.out.get 4 rfl).cnt SZ_T.out
  go_wp2_with fail
  refine (contains_szm (S4.out.get 3 rfl) (S4.out.get 0 rfl) SZ_S.out sX.out (by omega) (by omega) (by omega)).mono ?_
  rw [C0.out.1]
  rintro e w5 ⟨rfl, kk⟩
  have S5 := Lib.hid (S4.out.later kk)
  clear kk S4
  go_wp2_with fail
  refine (contains_szm (S5.out.get 3 rfl) (S5.out.get 1 rfl) SZ_S.out sY.out (by omega) (by omega) (by omega)).mono ?_
  rw [C0.out.2.1]
  rintro e w6 ⟨rfl, kk⟩
  have S6 := Lib.hid (S5.out.later kk)
  clear kk S5
  go_wp2_with fail
  refine (contains_szm (S6.out.get 0 rfl) (S6.out.get 4 rfl) sX.out SZ_T.out (by omega) (by omega) (by omega)).mono ?_
  rw [C0.out.2.2.1]
  rintro e w7 ⟨rfl, kk⟩
  have S7 := Lib.hid (S6.out.later kk)
  clear kk S6
  go_wp2_with fail
  refine (contains_szm (S7.out.get 1 rfl) (S7.out.get 4 rfl) sY.out SZ_T.out (by omega) (by omega) (by omega)).mono ?_
  rw [C0.out.2.2.2]
  rintro e w8 ⟨rfl, kk⟩
  have S8 := Lib.hid (S7.out.later kk)
  clear kk S7
  go_wp2_with fail
  cases zx with
  | false =>
    cases xz with
    | false =>
      cases xy with
      | false =>
        as_aux_lemma =>
        refine (contains_szm (S8.out.get 2 rfl) (S8.out.get 0 rfl) sZ.out sX.out (by omega) (by omega) (by omega)).mono ?_
        rw [CZ.out.1]
        rintro e w9 ⟨rfl, kk⟩
        have S9 := Lib.hid (S8.out.later kk)
        clear kk S8
        go_wp2_with fail
        refine (contains_szm (S9.out.get 0 rfl) (S9.out.get 2 rfl) sX.out sZ.out (by omega) (by omega) (by omega)).mono ?_
        rw [CZ.out.2.2.1]
        rintro e w10 ⟨rfl, kk⟩
        have S10 := Lib.hid (S9.out.later kk)
        clear kk S9
        go_wp2_with fail
        refine (sum_szm (S10.out.get 1 rfl) (S10.out.get 0 rfl) sY.out sX.out (by omega) (by omega) (by omega)).mono ?_
        rw [C8.out.1]
        rintro e w11 ⟨A11, n11, c11, rfl, mm, kk⟩
        have S11 : Hid (St wb w11 [⟨AX, nX, cX, X⟩, ⟨AY, nY, cY, Y⟩, ⟨AZ, nZ, cZ, Z⟩, ⟨A1, n1, c1, S⟩, ⟨A2, n2, c2, T⟩, ⟨A11, n11, c11, S⟩]) := S10.out.more mm kk
        clear mm kk S10
        go_wp2_with fail
        refine (meet_szm (S11.out.get 1 rfl) (S11.out.get 0 rfl) sY.out sX.out (by omega) (by omega) (by omega)).mono ?_
        rw [C8.out.2]
        rintro e w12 ⟨A12, n12, c12, rfl, mm, kk⟩
        have S12 : Hid (St wb w12 [⟨AX, nX, cX, X⟩, ⟨AY, nY, cY, Y⟩, ⟨AZ, nZ, cZ, Z⟩, ⟨A1, n1, c1, S⟩, ⟨A2, n2, c2, T⟩, ⟨A11, n11, c11, S⟩, ⟨A12, n12, c12, T⟩]) := S11.out.more mm kk
        clear mm kk S11
        go_wp2_with fail
        refine (same_yes (S12.out.get 5 rfl) (S12.out.get 3 rfl) (by rw [(S12.out.get 5 rfl).cnt SZ_S.out]; omega) rfl).mono ?_
        rintro e w13 ⟨rfl, kk⟩
        have S13 := Lib.hid (S12.out.later kk)
        clear kk S12
        go_wp2_with fail
        refine (same_yes (S13.out.get 6 rfl) (S13.out.get 4 rfl) (by rw [(S13.out.get 6 rfl).cnt SZ_T.out]; omega) rfl).mono ?_
        rintro e w14 ⟨rfl, kk⟩
        have S14 := Lib.hid (S13.out.later kk)
        clear kk S13
        go_wp2_with fail
        refine (reduce_sz0 (S14.out.get 0 rfl) sX.out (by omega) (by omega)).mono ?_
        rw [ER.out.2.2.1]
        rintro e w15 ⟨A15, n15, c15, rfl, mm, kk⟩
        have S15 : Hid (St wb w15 [⟨AX, nX, cX, X⟩, ⟨AY, nY, cY, Y⟩, ⟨AZ, nZ, cZ, Z⟩, ⟨A1, n1, c1, S⟩, ⟨A2, n2, c2, T⟩, ⟨A11, n11, c11, S⟩, ⟨A12, n12, c12, T⟩, ⟨A15, n15, c15, RX⟩]) := S14.out.more mm kk
        clear mm kk S14
        go_wp2_with fail
        refine (contains_szm (S15.out.get 0 rfl) (S15.out.get 1 rfl) sX.out sY.out (by omega) (by omega) (by omega)).mono ?_
        rw [CZ.out.2.2.2.2]
        rintro e w16 ⟨rfl, kk⟩
        have S16 := Lib.hid (S15.out.later kk)
        clear kk S15
        go_wp2_with fail
        refine (wakes_any _).mono ?_
        rintro e w17 ⟨rfl, kk⟩
        have S17 := Lib.hid (S16.out.later kk)
        clear kk S16
        go_wp2_with fail
        go_ret
        exact ⟨rfl, KB.out.trans S17.out.keep⟩
      | true =>
        as_aux_lemma =>
        refine (contains_szm (S8.out.get 2 rfl) (S8.out.get 0 rfl) sZ.out sX.out (by omega) (by omega) (by omega)).mono ?_
        rw [CZ.out.1]
        rintro e w18 ⟨rfl, kk⟩
        have S18 := Lib.hid (S8.out.later kk)
        clear kk S8
        go_wp2_with fail
        refine (contains_szm (S18.out.get 0 rfl) (S18.out.get 2 rfl) sX.out sZ.out (by omega) (by omega) (by omega)).mono ?_
        rw [CZ.out.2.2.1]
        rintro e w19 ⟨rfl, kk⟩
        have S19 := Lib.hid (S18.out.later kk)
        clear kk S18
        go_wp2_with fail
        refine (sum_szm (S19.out.get 1 rfl) (S19.out.get 0 rfl) sY.out sX.out (by omega) (by omega) (by omega)).mono ?_
        rw [C8.out.1]
        rintro e w20 ⟨A20, n20, c20, rfl, mm, kk⟩
        have S20 : Hid (St wb w20 [⟨AX, nX, cX, X⟩, ⟨AY, nY, cY, Y⟩, ⟨AZ, nZ, cZ, Z⟩, ⟨A1, n1, c1, S⟩, ⟨A2, n2, c2, T⟩, ⟨A20, n20, c20, S⟩]) := S19.out.more mm kk
        clear mm kk S19
        go_wp2_with fail
        refine (meet_szm (S20.out.get 1 rfl) (S20.out.get 0 rfl) sY.out sX.out (by omega) (by omega) (by omega)).mono ?_
        rw [C8.out.2]
        rintro e w21 ⟨A21, n21, c21, rfl, mm, kk⟩
        have S21 : Hid (St wb w21 [⟨AX, nX, cX, X⟩, ⟨AY, nY, cY, Y⟩, ⟨AZ, nZ, cZ, Z⟩, ⟨A1, n1, c1, S⟩, ⟨A2, n2, c2, T⟩, ⟨A20, n20, c20, S⟩, ⟨A21, n21, c21, T⟩]) := S20.out.more mm kk
        clear mm kk S20
        go_wp2_with fail
        refine (same_yes (S21.out.get 5 rfl) (S21.out.get 3 rfl) (by rw [(S21.out.get 5 rfl).cnt SZ_S.out]; omega) rfl).mono ?_
        rintro e w22 ⟨rfl, kk⟩
        have S22 := Lib.hid (S21.out.later kk)
        clear kk S21
        go_wp2_with fail
        refine (same_yes (S22.out.get 6 rfl) (S22.out.get 4 rfl) (by rw [(S22.out.get 6 rfl).cnt SZ_T.out]; omega) rfl).mono ?_
        rintro e w23 ⟨rfl, kk⟩
        have S23 := Lib.hid (S22.out.later kk)
        clear kk S22
        go_wp2_with fail
        refine (reduce_sz0 (S23.out.get 0 rfl) sX.out (by omega) (by omega)).mono ?_
        rw [ER.out.2.2.1]
        rintro e w24 ⟨A24, n24, c24, rfl, mm, kk⟩
        have S24 : Hid (St wb w24 [⟨AX, nX, cX, X⟩, ⟨AY, nY, cY, Y⟩, ⟨AZ, nZ, cZ, Z⟩, ⟨A1, n1, c1, S⟩, ⟨A2, n2, c2, T⟩, ⟨A20, n20, c20, S⟩, ⟨A21, n21, c21, T⟩, ⟨A24, n24, c24, RX⟩]) := S23.out.more mm kk
        clear mm kk S23
        go_wp2_with fail
        obtain ⟨v1, v2⟩ := C10.out (by simp)
        have V1 := Lib.hid v1
        have v3 : ((n2 : Int) != (ky : Int)) = false := by rw [v2]; simp
        clear v1 v2
        refine (contains_szm (S24.out.get 0 rfl) (S24.out.get 1 rfl) sX.out sY.out (by omega) (by omega) (by omega)).mono ?_
        rw [CZ.out.2.2.2.2]
        rintro e w25 ⟨rfl, kk⟩
        have S25 := Lib.hid (S24.out.later kk)
        clear kk S24
        go_wp2_with fail
        refine (same_yes (S25.out.get 3 rfl) (S25.out.get 7 rfl) (by rw [(S25.out.get 3 rfl).cnt SZ_S.out]; omega) V1.out).mono ?_
        rintro e w26 ⟨rfl, kk⟩
        have S26 := Lib.hid (S25.out.later kk)
        clear kk S25
        go_wp2_with fail
        refine (wakes_any _).mono ?_
        rintro e w27 ⟨rfl, kk⟩
        have S27 := Lib.hid (S26.out.later kk)
        clear kk S26
        go_wp2_with fail
        go_ret
        exact ⟨rfl, KB.out.trans S27.out.keep⟩
    | true =>
      cases yz with
      | false =>
        cases xy with
        | false =>
          as_aux_lemma =>
          refine (contains_szm (S8.out.get 2 rfl) (S8.out.get 0 rfl) sZ.out sX.out (by omega) (by omega) (by omega)).mono ?_
          rw [CZ.out.1]
          rintro e w28 ⟨rfl, kk⟩
          have S28 := Lib.hid (S8.out.later kk)
          clear kk S8
          go_wp2_with fail
          refine (contains_szm (S28.out.get 0 rfl) (S28.out.get 2 rfl) sX.out sZ.out (by omega) (by omega) (by omega)).mono ?_
          rw [CZ.out.2.2.1]
          rintro e w29 ⟨rfl, kk⟩
          have S29 := Lib.hid (S28.out.later kk)
          clear kk S28
          go_wp2_with fail
          refine (contains_szm (S29.out.get 1 rfl) (S29.out.get 2 rfl) sY.out sZ.out (by omega) (by omega) (by omega)).mono ?_
          rw [CZ.out.2.2.2.1]
          rintro e w30 ⟨rfl, kk⟩
          have S30 := Lib.hid (S29.out.later kk)
          clear kk S29
          go_wp2_with fail
          refine (contains_szm (S30.out.get 4 rfl) (S30.out.get 2 rfl) SZ_T.out sZ.out (by omega) (by omega) (by omega)).mono ?_
          rw [C7.out]
          rintro e w31 ⟨rfl, kk⟩
          have S31 := Lib.hid (S30.out.later kk)
          clear kk S30
          go_wp2_with fail
          refine (sum_szm (S31.out.get 1 rfl) (S31.out.get 0 rfl) sY.out sX.out (by omega) (by omega) (by omega)).mono ?_
          rw [C8.out.1]
          rintro e w32 ⟨A32, n32, c32, rfl, mm, kk⟩
          have S32 : Hid (St wb w32 [⟨AX, nX, cX, X⟩, ⟨AY, nY, cY, Y⟩, ⟨AZ, nZ, cZ, Z⟩, ⟨A1, n1, c1, S⟩, ⟨A2, n2, c2, T⟩, ⟨A32, n32, c32, S⟩]) := S31.out.more mm kk
          clear mm kk S31
          go_wp2_with fail
          refine (meet_szm (S32.out.get 1 rfl) (S32.out.get 0 rfl) sY.out sX.out (by omega) (by omega) (by omega)).mono ?_
          rw [C8.out.2]
          rintro e w33 ⟨A33, n33, c33, rfl, mm, kk⟩
          have S33 : Hid (St wb w33 [⟨AX, nX, cX, X⟩, ⟨AY, nY, cY, Y⟩, ⟨AZ, nZ, cZ, Z⟩, ⟨A1, n1, c1, S⟩, ⟨A2, n2, c2, T⟩, ⟨A32, n32, c32, S⟩, ⟨A33, n33, c33, T⟩]) := S32.out.more mm kk
          clear mm kk S32
          go_wp2_with fail
          refine (same_yes (S33.out.get 5 rfl) (S33.out.get 3 rfl) (by rw [(S33.out.get 5 rfl).cnt SZ_S.out]; omega) rfl).mono ?_
          rintro e w34 ⟨rfl, kk⟩
          have S34 := Lib.hid (S33.out.later kk)
          clear kk S33
          go_wp2_with fail
          refine (same_yes (S34.out.get 6 rfl) (S34.out.get 4 rfl) (by rw [(S34.out.get 6 rfl).cnt SZ_T.out]; omega) rfl).mono ?_
          rintro e w35 ⟨rfl, kk⟩
          have S35 := Lib.hid (S34.out.later kk)
          clear kk S34
          go_wp2_with fail
          refine (reduce_sz0 (S35.out.get 0 rfl) sX.out (by omega) (by omega)).mono ?_
          rw [ER.out.2.2.1]
          rintro e w36 ⟨A36, n36, c36, rfl, mm, kk⟩
          have S36 : Hid (St wb w36 [⟨AX, nX, cX, X⟩, ⟨AY, nY, cY, Y⟩, ⟨AZ, nZ, cZ, Z⟩, ⟨A1, n1, c1, S⟩, ⟨A2, n2, c2, T⟩, ⟨A32, n32, c32, S⟩, ⟨A33, n33, c33, T⟩, ⟨A36, n36, c36, RX⟩]) := S35.out.more mm kk
          clear mm kk S35
          go_wp2_with fail
          refine (contains_szm (S36.out.get 0 rfl) (S36.out.get 1 rfl) sX.out sY.out (by omega) (by omega) (by omega)).mono ?_
          rw [CZ.out.2.2.2.2]
          rintro e w37 ⟨rfl, kk⟩
          have S37 := Lib.hid (S36.out.later kk)
          clear kk S36
          go_wp2_with fail
          refine (wakes_any _).mono ?_
          rintro e w38 ⟨rfl, kk⟩
          have S38 := Lib.hid (S37.out.later kk)
          clear kk S37
          go_wp2_with fail
          go_ret
          exact ⟨rfl, KB.out.trans S38.out.keep⟩
        | true =>
          as_aux_lemma =>
          refine (contains_szm (S8.out.get 2 rfl) (S8.out.get 0 rfl) sZ.out sX.out (by omega) (by omega) (by omega)).mono ?_
          rw [CZ.out.1]
          rintro e w39 ⟨rfl, kk⟩
          have S39 := Lib.hid (S8.out.later kk)
          clear kk S8
          go_wp2_with fail
          refine (contains_szm (S39.out.get 0 rfl) (S39.out.get 2 rfl) sX.out sZ.out (by omega) (by omega) (by omega)).mono ?_
          rw [CZ.out.2.2.1]
          rintro e w40 ⟨rfl, kk⟩
          have S40 := Lib.hid (S39.out.later kk)
          clear kk S39
          go_wp2_with fail
          refine (contains_szm (S40.out.get 1 rfl) (S40.out.get 2 rfl) sY.out sZ.out (by omega) (by omega) (by omega)).mono ?_
          rw [CZ.out.2.2.2.1]
          rintro e w41 ⟨rfl, kk⟩
          have S41 := Lib.hid (S40.out.later kk)
          clear kk S40
          go_wp2_with fail
          refine (contains_szm (S41.out.get 4 rfl) (S41.out.get 2 rfl) SZ_T.out sZ.out (by omega) (by omega) (by omega)).mono ?_
          rw [C7.out]
          rintro e w42 ⟨rfl, kk⟩
          have S42 := Lib.hid (S41.out.later kk)
          clear kk S41
          go_wp2_with fail
          refine (sum_szm (S42.out.get 1 rfl) (S42.out.get 0 rfl) sY.out sX.out (by omega) (by omega) (by omega)).mono ?_
          rw [C8.out.1]
          rintro e w43 ⟨A43, n43, c43, rfl, mm, kk⟩
          have S43 : Hid (St wb w43 [⟨AX, nX, cX, X⟩, ⟨AY, nY, cY, Y⟩, ⟨AZ, nZ, cZ, Z⟩, ⟨A1, n1, c1, S⟩, ⟨A2, n2, c2, T⟩, ⟨A43, n43, c43, S⟩]) := S42.out.more mm kk
          clear mm kk S42
          go_wp2_with fail
          refine (meet_szm (S43.out.get 1 rfl) (S43.out.get 0 rfl) sY.out sX.out (by omega) (by omega) (by omega)).mono ?_
          rw [C8.out.2]
          rintro e w44 ⟨A44, n44, c44, rfl, mm, kk⟩
          have S44 : Hid (St wb w44 [⟨AX, nX, cX, X⟩, ⟨AY, nY, cY, Y⟩, ⟨AZ, nZ, cZ, Z⟩, ⟨A1, n1, c1, S⟩, ⟨A2, n2, c2, T⟩, ⟨A43, n43, c43, S⟩, ⟨A44, n44, c44, T⟩]) := S43.out.more mm kk
          clear mm kk S43
          go_wp2_with fail
          refine (same_yes (S44.out.get 5 rfl) (S44.out.get 3 rfl) (by rw [(S44.out.get 5 rfl).cnt SZ_S.out]; omega) rfl).mono ?_
          rintro e w45 ⟨rfl, kk⟩
          have S45 := Lib.hid (S44.out.later kk)
          clear kk S44
          go_wp2_with fail
          refine (same_yes (S45.out.get 6 rfl) (S45.out.get 4 rfl) (by rw [(S45.out.get 6 rfl).cnt SZ_T.out]; omega) rfl).mono ?_
          rintro e w46 ⟨rfl, kk⟩
          have S46 := Lib.hid (S45.out.later kk)
          clear kk S45
          go_wp2_with fail
          refine (reduce_sz0 (S46.out.get 0 rfl) sX.out (by omega) (by omega)).mono ?_
          rw [ER.out.2.2.1]
          rintro e w47 ⟨A47, n47, c47, rfl, mm, kk⟩
          have S47 : Hid (St wb w47 [⟨AX, nX, cX, X⟩, ⟨AY, nY, cY, Y⟩, ⟨AZ, nZ, cZ, Z⟩, ⟨A1, n1, c1, S⟩, ⟨A2, n2, c2, T⟩, ⟨A43, n43, c43, S⟩, ⟨A44, n44, c44, T⟩, ⟨A47, n47, c47, RX⟩]) := S46.out.more mm kk
          clear mm kk S46
          go_wp2_with fail
          obtain ⟨v1, v2⟩ := C10.out (by simp)
          have V1 := Lib.hid v1
          have v3 : ((n2 : Int) != (ky : Int)) = false := by rw [v2]; simp
          clear v1 v2
          refine (contains_szm (S47.out.get 0 rfl) (S47.out.get 1 rfl) sX.out sY.out (by omega) (by omega) (by omega)).mono ?_
          rw [CZ.out.2.2.2.2]
          rintro e w48 ⟨rfl, kk⟩
          have S48 := Lib.hid (S47.out.later kk)
          clear kk S47
          go_wp2_with fail
          refine (same_yes (S48.out.get 3 rfl) (S48.out.get 7 rfl) (by rw [(S48.out.get 3 rfl).cnt SZ_S.out]; omega) V1.out).mono ?_
          rintro e w49 ⟨rfl, kk⟩
          have S49 := Lib.hid (S48.out.later kk)
          clear kk S48
          go_wp2_with fail
          refine (wakes_any _).mono ?_
          rintro e w50 ⟨rfl, kk⟩
          have S50 := Lib.hid (S49.out.later kk)
          clear kk S49
          go_wp2_with fail
          go_ret
          exact ⟨rfl, KB.out.trans S50.out.keep⟩
      | true =>
        cases xy with
        | false =>
          as_aux_lemma =>
          refine (contains_szm (S8.out.get 2 rfl) (S8.out.get 0 rfl) sZ.out sX.out (by omega) (by omega) (by omega)).mono ?_
          rw [CZ.out.1]
          rintro e w51 ⟨rfl, kk⟩
          have S51 := Lib.hid (S8.out.later kk)
          clear kk S8
          go_wp2_with fail
          refine (contains_szm (S51.out.get 0 rfl) (S51.out.get 2 rfl) sX.out sZ.out (by omega) (by omega) (by omega)).mono ?_
          rw [CZ.out.2.2.1]
          rintro e w52 ⟨rfl, kk⟩
          have S52 := Lib.hid (S51.out.later kk)
          clear kk S51
          go_wp2_with fail
          refine (contains_szm (S52.out.get 1 rfl) (S52.out.get 2 rfl) sY.out sZ.out (by omega) (by omega) (by omega)).mono ?_
          rw [CZ.out.2.2.2.1]
          rintro e w53 ⟨rfl, kk⟩
          have S53 := Lib.hid (S52.out.later kk)
          clear kk S52
          go_wp2_with fail
          refine (contains_szm (S53.out.get 4 rfl) (S53.out.get 2 rfl) SZ_T.out sZ.out (by omega) (by omega) (by omega)).mono ?_
          rw [C7.out]
          rintro e w54 ⟨rfl, kk⟩
          have S54 := Lib.hid (S53.out.later kk)
          clear kk S53
          go_wp2_with fail
          refine (sum_szm (S54.out.get 1 rfl) (S54.out.get 0 rfl) sY.out sX.out (by omega) (by omega) (by omega)).mono ?_
          rw [C8.out.1]
          rintro e w55 ⟨A55, n55, c55, rfl, mm, kk⟩
          have S55 : Hid (St wb w55 [⟨AX, nX, cX, X⟩, ⟨AY, nY, cY, Y⟩, ⟨AZ, nZ, cZ, Z⟩, ⟨A1, n1, c1, S⟩, ⟨A2, n2, c2, T⟩, ⟨A55, n55, c55, S⟩]) := S54.out.more mm kk
          clear mm kk S54
          go_wp2_with fail
          refine (meet_szm (S55.out.get 1 rfl) (S55.out.get 0 rfl) sY.out sX.out (by omega) (by omega) (by omega)).mono ?_
          rw [C8.out.2]
          rintro e w56 ⟨A56, n56, c56, rfl, mm, kk⟩
          have S56 : Hid (St wb w56 [⟨AX, nX, cX, X⟩, ⟨AY, nY, cY, Y⟩, ⟨AZ, nZ, cZ, Z⟩, ⟨A1, n1, c1, S⟩, ⟨A2, n2, c2, T⟩, ⟨A55, n55, c55, S⟩, ⟨A56, n56, c56, T⟩]) := S55.out.more mm kk
          clear mm kk S55
          go_wp2_with fail
          refine (same_yes (S56.out.get 5 rfl) (S56.out.get 3 rfl) (by rw [(S56.out.get 5 rfl).cnt SZ_S.out]; omega) rfl).mono ?_
          rintro e w57 ⟨rfl, kk⟩
          have S57 := Lib.hid (S56.out.later kk)
          clear kk S56
          go_wp2_with fail
          refine (same_yes (S57.out.get 6 rfl) (S57.out.get 4 rfl) (by rw [(S57.out.get 6 rfl).cnt SZ_T.out]; omega) rfl).mono ?_
          rintro e w58 ⟨rfl, kk⟩
          have S58 := Lib.hid (S57.out.later kk)
          clear kk S57
          go_wp2_with fail
          refine (reduce_sz0 (S58.out.get 0 rfl) sX.out (by omega) (by omega)).mono ?_
          rw [ER.out.2.2.1]
          rintro e w59 ⟨A59, n59, c59, rfl, mm, kk⟩
          have S59 : Hid (St wb w59 [⟨AX, nX, cX, X⟩, ⟨AY, nY, cY, Y⟩, ⟨AZ, nZ, cZ, Z⟩, ⟨A1, n1, c1, S⟩, ⟨A2, n2, c2, T⟩, ⟨A55, n55, c55, S⟩, ⟨A56, n56, c56, T⟩, ⟨A59, n59, c59, RX⟩]) := S58.out.more mm kk
          clear mm kk S58
          go_wp2_with fail
          refine (contains_szm (S59.out.get 0 rfl) (S59.out.get 1 rfl) sX.out sY.out (by omega) (by omega) (by omega)).mono ?_
          rw [CZ.out.2.2.2.2]
          rintro e w60 ⟨rfl, kk⟩
          have S60 := Lib.hid (S59.out.later kk)
          clear kk S59
          go_wp2_with fail
          refine (wakes_any _).mono ?_
          rintro e w61 ⟨rfl, kk⟩
          have S61 := Lib.hid (S60.out.later kk)
          clear kk S60
          go_wp2_with fail
          go_ret
          exact ⟨rfl, KB.out.trans S61.out.keep⟩
        | true =>
          as_aux_lemma =>
          refine (contains_szm (S8.out.get 2 rfl) (S8.out.get 0 rfl) sZ.out sX.out (by omega) (by omega) (by omega)).mono ?_
          rw [CZ.out.1]
          rintro e w62 ⟨rfl, kk⟩
          have S62 := Lib.hid (S8.out.later kk)
          clear kk S8
          go_wp2_with fail
          refine (contains_szm (S62.out.get 0 rfl) (S62.out.get 2 rfl) sX.out sZ.out (by omega) (by omega) (by omega)).mono ?_
          rw [CZ.out.2.2.1]
          rintro e w63 ⟨rfl, kk⟩
          have S63 := Lib.hid (S62.out.later kk)
          clear kk S62
          go_wp2_with fail
          refine (contains_szm (S63.out.get 1 rfl) (S63.out.get 2 rfl) sY.out sZ.out (by omega) (by omega) (by omega)).mono ?_
          rw [CZ.out.2.2.2.1]
          rintro e w64 ⟨rfl, kk⟩
          have S64 := Lib.hid (S63.out.later kk)
          clear kk S63
          go_wp2_with fail
          refine (contains_szm (S64.out.get 4 rfl) (S64.out.get 2 rfl) SZ_T.out sZ.out (by omega) (by omega) (by omega)).mono ?_
          rw [C7.out]
          rintro e w65 ⟨rfl, kk⟩
          have S65 := Lib.hid (S64.out.later kk)
          clear kk S64
          go_wp2_with fail
          refine (sum_szm (S65.out.get 1 rfl) (S65.out.get 0 rfl) sY.out sX.out (by omega) (by omega) (by omega)).mono ?_
          rw [C8.out.1]
          rintro e w66 ⟨A66, n66, c66, rfl, mm, kk⟩
          have S66 : Hid (St wb w66 [⟨AX, nX, cX, X⟩, ⟨AY, nY, cY, Y⟩, ⟨AZ, nZ, cZ, Z⟩, ⟨A1, n1, c1, S⟩, ⟨A2, n2, c2, T⟩, ⟨A66, n66, c66, S⟩]) := S65.out.more mm kk
          clear mm kk S65
          go_wp2_with fail
          refine (meet_szm (S66.out.get 1 rfl) (S66.out.get 0 rfl) sY.out sX.out (by omega) (by omega) (by omega)).mono ?_
          rw [C8.out.2]
          rintro e w67 ⟨A67, n67, c67, rfl, mm, kk⟩
          have S67 : Hid (St wb w67 [⟨AX, nX, cX, X⟩, ⟨AY, nY, cY, Y⟩, ⟨AZ, nZ, cZ, Z⟩, ⟨A1, n1, c1, S⟩, ⟨A2, n2, c2, T⟩, ⟨A66, n66, c66, S⟩, ⟨A67, n67, c67, T⟩]) := S66.out.more mm kk
          clear mm kk S66
          go_wp2_with fail
          refine (same_yes (S67.out.get 5 rfl) (S67.out.get 3 rfl) (by rw [(S67.out.get 5 rfl).cnt SZ_S.out]; omega) rfl).mono ?_
          rintro e w68 ⟨rfl, kk⟩
          have S68 := Lib.hid (S67.out.later kk)
          clear kk S67
          go_wp2_with fail
          refine (same_yes (S68.out.get 6 rfl) (S68.out.get 4 rfl) (by rw [(S68.out.get 6 rfl).cnt SZ_T.out]; omega) rfl).mono ?_
          rintro e w69 ⟨rfl, kk⟩
          have S69 := Lib.hid (S68.out.later kk)
          clear kk S68
          go_wp2_with fail
          refine (reduce_sz0 (S69.out.get 0 rfl) sX.out (by omega) (by omega)).mono ?_
          rw [ER.out.2.2.1]
          rintro e w70 ⟨A70, n70, c70, rfl, mm, kk⟩
          have S70 : Hid (St wb w70 [⟨AX, nX, cX, X⟩, ⟨AY, nY, cY, Y⟩, ⟨AZ, nZ, cZ, Z⟩, ⟨A1, n1, c1, S⟩, ⟨A2, n2, c2, T⟩, ⟨A66, n66, c66, S⟩, ⟨A67, n67, c67, T⟩, ⟨A70, n70, c70, RX⟩]) := S69.out.more mm kk
          clear mm kk S69
          go_wp2_with fail
          obtain ⟨v1, v2⟩ := C10.out (by simp)
          have V1 := Lib.hid v1
          have v3 : ((n2 : Int) != (ky : Int)) = false := by rw [v2]; simp
          clear v1 v2
          refine (contains_szm (S70.out.get 0 rfl) (S70.out.get 1 rfl) sX.out sY.out (by omega) (by omega) (by omega)).mono ?_
          rw [CZ.out.2.2.2.2]
          rintro e w71 ⟨rfl, kk⟩
          have S71 := Lib.hid (S70.out.later kk)
          clear kk S70
          go_wp2_with fail
          refine (same_yes (S71.out.get 3 rfl) (S71.out.get 7 rfl) (by rw [(S71.out.get 3 rfl).cnt SZ_S.out]; omega) V1.out).mono ?_
          rintro e w72 ⟨rfl, kk⟩
          have S72 := Lib.hid (S71.out.later kk)
          clear kk S71
          go_wp2_with fail
          refine (wakes_any _).mono ?_
          rintro e w73 ⟨rfl, kk⟩
          have S73 := Lib.hid (S72.out.later kk)
          clear kk S72
          go_wp2_with fail
          go_ret
          exact ⟨rfl, KB.out.trans S73.out.keep⟩
  | true =>
    cases zy with
    | false =>
      cases xz with
      | false =>
        cases xy with
        | false =>
          as_aux_lemma =>
          refine (contains_szm (S8.out.get 2 rfl) (S8.out.get 0 rfl) sZ.out sX.out (by omega) (by omega) (by omega)).mono ?_
          rw [CZ.out.1]
          rintro e w74 ⟨rfl, kk⟩
          have S74 := Lib.hid (S8.out.later kk)
          clear kk S8
          go_wp2_with fail
          refine (contains_szm (S74.out.get 2 rfl) (S74.out.get 1 rfl) sZ.out sY.out (by omega) (by omega) (by omega)).mono ?_
          rw [CZ.out.2.1]
          rintro e w75 ⟨rfl, kk⟩
          have S75 := Lib.hid (S74.out.later kk)
          clear kk S74
          go_wp2_with fail
          refine (contains_szm (S75.out.get 2 rfl) (S75.out.get 3 rfl) sZ.out SZ_S.out (by omega) (by omega) (by omega)).mono ?_
          rw [C6.out]
          rintro e w76 ⟨rfl, kk⟩
          have S76 := Lib.hid (S75.out.later kk)
          clear kk S75
          go_wp2_with fail
          refine (contains_szm (S76.out.get 0 rfl) (S76.out.get 2 rfl) sX.out sZ.out (by omega) (by omega) (by omega)).mono ?_
          rw [CZ.out.2.2.1]
          rintro e w77 ⟨rfl, kk⟩
          have S77 := Lib.hid (S76.out.later kk)
          clear kk S76
          go_wp2_with fail
          refine (sum_szm (S77.out.get 1 rfl) (S77.out.get 0 rfl) sY.out sX.out (by omega) (by omega) (by omega)).mono ?_
          rw [C8.out.1]
          rintro e w78 ⟨A78, n78, c78, rfl, mm, kk⟩
          have S78 : Hid (St wb w78 [⟨AX, nX, cX, X⟩, ⟨AY, nY, cY, Y⟩, ⟨AZ, nZ, cZ, Z⟩, ⟨A1, n1, c1, S⟩, ⟨A2, n2, c2, T⟩, ⟨A78, n78, c78, S⟩]) := S77.out.more mm kk
          clear mm kk S77
          go_wp2_with fail
          refine (meet_szm (S78.out.get 1 rfl) (S78.out.get 0 rfl) sY.out sX.out (by omega) (by omega) (by omega)).mono ?_
          rw [C8.out.2]
          rintro e w79 ⟨A79, n79, c79, rfl, mm, kk⟩
          have S79 : Hid (St wb w79 [⟨AX, nX, cX, X⟩, ⟨AY, nY, cY, Y⟩, ⟨AZ, nZ, cZ, Z⟩, ⟨A1, n1, c1, S⟩, ⟨A2, n2, c2, T⟩, ⟨A78, n78, c78, S⟩, ⟨A79, n79, c79, T⟩]) := S78.out.more mm kk
          clear mm kk S78
          go_wp2_with fail
          refine (same_yes (S79.out.get 5 rfl) (S79.out.get 3 rfl) (by rw [(S79.out.get 5 rfl).cnt SZ_S.out]; omega) rfl).mono ?_
          rintro e w80 ⟨rfl, kk⟩
          have S80 := Lib.hid (S79.out.later kk)
          clear kk S79
          go_wp2_with fail
          refine (same_yes (S80.out.get 6 rfl) (S80.out.get 4 rfl) (by rw [(S80.out.get 6 rfl).cnt SZ_T.out]; omega) rfl).mono ?_
          rintro e w81 ⟨rfl, kk⟩
          have S81 := Lib.hid (S80.out.later kk)
          clear kk S80
          go_wp2_with fail
          refine (reduce_sz0 (S81.out.get 0 rfl) sX.out (by omega) (by omega)).mono ?_
          rw [ER.out.2.2.1]
          rintro e w82 ⟨A82, n82, c82, rfl, mm, kk⟩
          have S82 : Hid (St wb w82 [⟨AX, nX, cX, X⟩, ⟨AY, nY, cY, Y⟩, ⟨AZ, nZ, cZ, Z⟩, ⟨A1, n1, c1, S⟩, ⟨A2, n2, c2, T⟩, ⟨A78, n78, c78, S⟩, ⟨A79, n79, c79, T⟩, ⟨A82, n82, c82, RX⟩]) := S81.out.more mm kk
          clear mm kk S81
          go_wp2_with fail
          refine (contains_szm (S82.out.get 0 rfl) (S82.out.get 1 rfl) sX.out sY.out (by omega) (by omega) (by omega)).mono ?_
          rw [CZ.out.2.2.2.2]
          rintro e w83 ⟨rfl, kk⟩
          have S83 := Lib.hid (S82.out.later kk)
          clear kk S82
          go_wp2_with fail
          refine (wakes_any _).mono ?_
          rintro e w84 ⟨rfl, kk⟩
          have S84 := Lib.hid (S83.out.later kk)
          clear kk S83
          go_wp2_with fail
          go_ret
          exact ⟨rfl, KB.out.trans S84.out.keep⟩
        | true =>
          as_aux_lemma =>
          refine (contains_szm (S8.out.get 2 rfl) (S8.out.get 0 rfl) sZ.out sX.out (by omega) (by omega) (by omega)).mono ?_
          rw [CZ.out.1]
          rintro e w85 ⟨rfl, kk⟩
          have S85 := Lib.hid (S8.out.later kk)
          clear kk S8
          go_wp2_with fail
          refine (contains_szm (S85.out.get 2 rfl) (S85.out.get 1 rfl) sZ.out sY.out (by omega) (by omega) (by omega)).mono ?_
          rw [CZ.out.2.1]
          rintro e w86 ⟨rfl, kk⟩
          have S86 := Lib.hid (S85.out.later kk)
          clear kk S85
          go_wp2_with fail
          refine (contains_szm (S86.out.get 2 rfl) (S86.out.get 3 rfl) sZ.out SZ_S.out (by omega) (by omega) (by omega)).mono ?_
          rw [C6.out]
          rintro e w87 ⟨rfl, kk⟩
          have S87 := Lib.hid (S86.out.later kk)
          clear kk S86
          go_wp2_with fail
          refine (contains_szm (S87.out.get 0 rfl) (S87.out.get 2 rfl) sX.out sZ.out (by omega) (by omega) (by omega)).mono ?_
          rw [CZ.out.2.2.1]
          rintro e w88 ⟨rfl, kk⟩
          have S88 := Lib.hid (S87.out.later kk)
          clear kk S87
          go_wp2_with fail
          refine (sum_szm (S88.out.get 1 rfl) (S88.out.get 0 rfl) sY.out sX.out (by omega) (by omega) (by omega)).mono ?_
          rw [C8.out.1]
          rintro e w89 ⟨A89, n89, c89, rfl, mm, kk⟩
          have S89 : Hid (St wb w89 [⟨AX, nX, cX, X⟩, ⟨AY, nY, cY, Y⟩, ⟨AZ, nZ, cZ, Z⟩, ⟨A1, n1, c1, S⟩, ⟨A2, n2, c2, T⟩, ⟨A89, n89, c89, S⟩]) := S88.out.more mm kk
          clear mm kk S88
          go_wp2_with fail
          refine (meet_szm (S89.out.get 1 rfl) (S89.out.get 0 rfl) sY.out sX.out (by omega) (by omega) (by omega)).mono ?_
          rw [C8.out.2]
          rintro e w90 ⟨A90, n90, c90, rfl, mm, kk⟩
          have S90 : Hid (St wb w90 [⟨AX, nX, cX, X⟩, ⟨AY, nY, cY, Y⟩, ⟨AZ, nZ, cZ, Z⟩, ⟨A1, n1, c1, S⟩, ⟨A2, n2, c2, T⟩, ⟨A89, n89, c89, S⟩, ⟨A90, n90, c90, T⟩]) := S89.out.more mm kk
          clear mm kk S89
          go_wp2_with fail
          refine (same_yes (S90.out.get 5 rfl) (S90.out.get 3 rfl) (by rw [(S90.out.get 5 rfl).cnt SZ_S.out]; omega) rfl).mono ?_
          rintro e w91 ⟨rfl, kk⟩
          have S91 := Lib.hid (S90.out.later kk)
          clear kk S90
          go_wp2_with fail
          refine (same_yes (S91.out.get 6 rfl) (S91.out.get 4 rfl) (by rw [(S91.out.get 6 rfl).cnt SZ_T.out]; omega) rfl).mono ?_
          rintro e w92 ⟨rfl, kk⟩
          have S92 := Lib.hid (S91.out.later kk)
          clear kk S91
          go_wp2_with fail
          refine (reduce_sz0 (S92.out.get 0 rfl) sX.out (by omega) (by omega)).mono ?_
          rw [ER.out.2.2.1]
          rintro e w93 ⟨A93, n93, c93, rfl, mm, kk⟩
          have S93 : Hid (St wb w93 [⟨AX, nX, cX, X⟩, ⟨AY, nY, cY, Y⟩, ⟨AZ, nZ, cZ, Z⟩, ⟨A1, n1, c1, S⟩, ⟨A2, n2, c2, T⟩, ⟨A89, n89, c89, S⟩, ⟨A90, n90, c90, T⟩, ⟨A93, n93, c93, RX⟩]) := S92.out.more mm kk
          clear mm kk S92
          go_wp2_with fail
          obtain ⟨v1, v2⟩ := C10.out (by simp)
          have V1 := Lib.hid v1
          have v3 : ((n2 : Int) != (ky : Int)) = false := by rw [v2]; simp
          clear v1 v2
          refine (contains_szm (S93.out.get 0 rfl) (S93.out.get 1 rfl) sX.out sY.out (by omega) (by omega) (by omega)).mono ?_
          rw [CZ.out.2.2.2.2]
          rintro e w94 ⟨rfl, kk⟩
          have S94 := Lib.hid (S93.out.later kk)
          clear kk S93
          go_wp2_with fail
          refine (same_yes (S94.out.get 3 rfl) (S94.out.get 7 rfl) (by rw [(S94.out.get 3 rfl).cnt SZ_S.out]; omega) V1.out).mono ?_
          rintro e w95 ⟨rfl, kk⟩
          have S95 := Lib.hid (S94.out.later kk)
          clear kk S94
          go_wp2_with fail
          refine (wakes_any _).mono ?_
          rintro e w96 ⟨rfl, kk⟩
          have S96 := Lib.hid (S95.out.later kk)
          clear kk S95
          go_wp2_with fail
          go_ret
          exact ⟨rfl, KB.out.trans S96.out.keep⟩
      | true =>
        cases yz with
        | false =>
          cases xy with
          | false =>
            as_aux_lemma =>
            refine (contains_szm (S8.out.get 2 rfl) (S8.out.get 0 rfl) sZ.out sX.out (by omega) (by omega) (by omega)).mono ?_
            rw [CZ.out.1]
            rintro e w97 ⟨rfl, kk⟩
            have S97 := Lib.hid (S8.out.later kk)
            clear kk S8
            go_wp2_with fail
            refine (contains_szm (S97.out.get 2 rfl) (S97.out.get 1 rfl) sZ.out sY.out (by omega) (by omega) (by omega)).mono ?_
            rw [CZ.out.2.1]
            rintro e w98 ⟨rfl, kk⟩
            have S98 := Lib.hid (S97.out.later kk)
            clear kk S97
            go_wp2_with fail
            refine (contains_szm (S98.out.get 2 rfl) (S98.out.get 3 rfl) sZ.out SZ_S.out (by omega) (by omega) (by omega)).mono ?_
            rw [C6.out]
            rintro e w99 ⟨rfl, kk⟩
            have S99 := Lib.hid (S98.out.later kk)
            clear kk S98
            go_wp2_with fail
            refine (contains_szm (S99.out.get 0 rfl) (S99.out.get 2 rfl) sX.out sZ.out (by omega) (by omega) (by omega)).mono ?_
            rw [CZ.out.2.2.1]
            rintro e w100 ⟨rfl, kk⟩
            have S100 := Lib.hid (S99.out.later kk)
            clear kk S99
            go_wp2_with fail
            refine (contains_szm (S100.out.get 1 rfl) (S100.out.get 2 rfl) sY.out sZ.out (by omega) (by omega) (by omega)).mono ?_
            rw [CZ.out.2.2.2.1]
            rintro e w101 ⟨rfl, kk⟩
            have S101 := Lib.hid (S100.out.later kk)
            clear kk S100
            go_wp2_with fail
            refine (contains_szm (S101.out.get 4 rfl) (S101.out.get 2 rfl) SZ_T.out sZ.out (by omega) (by omega) (by omega)).mono ?_
            rw [C7.out]
            rintro e w102 ⟨rfl, kk⟩
            have S102 := Lib.hid (S101.out.later kk)
            clear kk S101
            go_wp2_with fail
            refine (sum_szm (S102.out.get 1 rfl) (S102.out.get 0 rfl) sY.out sX.out (by omega) (by omega) (by omega)).mono ?_
            rw [C8.out.1]
            rintro e w103 ⟨A103, n103, c103, rfl, mm, kk⟩
            have S103 : Hid (St wb w103 [⟨AX, nX, cX, X⟩, ⟨AY, nY, cY, Y⟩, ⟨AZ, nZ, cZ, Z⟩, ⟨A1, n1, c1, S⟩, ⟨A2, n2, c2, T⟩, ⟨A103, n103, c103, S⟩]) := S102.out.more mm kk
            clear mm kk S102
            go_wp2_with fail
            refine (meet_szm (S103.out.get 1 rfl) (S103.out.get 0 rfl) sY.out sX.out (by omega) (by omega) (by omega)).mono ?_
            rw [C8.out.2]
            rintro e w104 ⟨A104, n104, c104, rfl, mm, kk⟩
            have S104 : Hid (St wb w104 [⟨AX, nX, cX, X⟩, ⟨AY, nY, cY, Y⟩, ⟨AZ, nZ, cZ, Z⟩, ⟨A1, n1, c1, S⟩, ⟨A2, n2, c2, T⟩, ⟨A103, n103, c103, S⟩, ⟨A104, n104, c104, T⟩]) := S103.out.more mm kk
            clear mm kk S103
            go_wp2_with fail
            refine (same_yes (S104.out.get 5 rfl) (S104.out.get 3 rfl) (by rw [(S104.out.get 5 rfl).cnt SZ_S.out]; omega) rfl).mono ?_
            rintro e w105 ⟨rfl, kk⟩
            have S105 := Lib.hid (S104.out.later kk)
            clear kk S104
            go_wp2_with fail
            refine (same_yes (S105.out.get 6 rfl) (S105.out.get 4 rfl) (by rw [(S105.out.get 6 rfl).cnt SZ_T.out]; omega) rfl).mono ?_
            rintro e w106 ⟨rfl, kk⟩
            have S106 := Lib.hid (S105.out.later kk)
            clear kk S105
            go_wp2_with fail
            refine (reduce_sz0 (S106.out.get 0 rfl) sX.out (by omega) (by omega)).mono ?_
            rw [ER.out.2.2.1]
            rintro e w107 ⟨A107, n107, c107, rfl, mm, kk⟩
            have S107 : Hid (St wb w107 [⟨AX, nX, cX, X⟩, ⟨AY, nY, cY, Y⟩, ⟨AZ, nZ, cZ, Z⟩, ⟨A1, n1, c1, S⟩, ⟨A2, n2, c2, T⟩, ⟨A103, n103, c103, S⟩, ⟨A104, n104, c104, T⟩, ⟨A107, n107, c107, RX⟩]) := S106.out.more mm kk
            clear mm kk S106
            go_wp2_with fail
            refine (contains_szm (S107.out.get 0 rfl) (S107.out.get 1 rfl) sX.out sY.out (by omega) (by omega) (by omega)).mono ?_
            rw [CZ.out.2.2.2.2]
            rintro e w108 ⟨rfl, kk⟩
            have S108 := Lib.hid (S107.out.later kk)
            clear kk S107
            go_wp2_with fail
            refine (wakes_any _).mono ?_
            rintro e w109 ⟨rfl, kk⟩
            have S109 := Lib.hid (S108.out.later kk)
            clear kk S108
            go_wp2_with fail
            go_ret
            exact ⟨rfl, KB.out.trans S109.out.keep⟩
          | true =>
            as_aux_lemma =>
            refine (contains_szm (S8.out.get 2 rfl) (S8.out.get 0 rfl) sZ.out sX.out (by omega) (by omega) (by omega)).mono ?_
            rw [CZ.out.1]
            rintro e w110 ⟨rfl, kk⟩
            have S110 := Lib.hid (S8.out.later kk)
            clear kk S8
            go_wp2_with fail
            refine (contains_szm (S110.out.get 2 rfl) (S110.out.get 1 rfl) sZ.out sY.out (by omega) (by omega) (by omega)).mono ?_
            rw [CZ.out.2.1]
            rintro e w111 ⟨rfl, kk⟩
            have S111 := Lib.hid (S110.out.later kk)
            clear kk S110
            go_wp2_with fail
            refine (contains_szm (S111.out.get 2 rfl) (S111.out.get 3 rfl) sZ.out SZ_S.out (by omega) (by omega) (by omega)).mono ?_
            rw [C6.out]
            rintro e w112 ⟨rfl, kk⟩
            have S112 := Lib.hid (S111.out.later kk)
            clear kk S111
            go_wp2_with fail
            refine (contains_szm (S112.out.get 0 rfl) (S112.out.get 2 rfl) sX.out sZ.out (by omega) (by omega) (by omega)).mono ?_
            rw [CZ.out.2.2.1]
            rintro e w113 ⟨rfl, kk⟩
            have S113 := Lib.hid (S112.out.later kk)
            clear kk S112
            go_wp2_with fail
            refine (contains_szm (S113.out.get 1 rfl) (S113.out.get 2 rfl) sY.out sZ.out (by omega) (by omega) (by omega)).mono ?_
            rw [CZ.out.2.2.2.1]
            rintro e w114 ⟨rfl, kk⟩
            have S114 := Lib.hid (S113.out.later kk)
            clear kk S113
            go_wp2_with fail
            refine (contains_szm (S114.out.get 4 rfl) (S114.out.get 2 rfl) SZ_T.out sZ.out (by omega) (by omega) (by omega)).mono ?_
            rw [C7.out]
            rintro e w115 ⟨rfl, kk⟩
            have S115 := Lib.hid (S114.out.later kk)
            clear kk S114
            go_wp2_with fail
            refine (sum_szm (S115.out.get 1 rfl) (S115.out.get 0 rfl) sY.out sX.out (by omega) (by omega) (by omega)).mono ?_
            rw [C8.out.1]
            rintro e w116 ⟨A116, n116, c116, rfl, mm, kk⟩
            have S116 : Hid (St wb w116 [⟨AX, nX, cX, X⟩, ⟨AY, nY, cY, Y⟩, ⟨AZ, nZ, cZ, Z⟩, ⟨A1, n1, c1, S⟩, ⟨A2, n2, c2, T⟩, ⟨A116, n116, c116, S⟩]) := S115.out.more mm kk
            clear mm kk S115
            go_wp2_with fail
            refine (meet_szm (S116.out.get 1 rfl) (S116.out.get 0 rfl) sY.out sX.out (by omega) (by omega) (by omega)).mono ?_
            rw [C8.out.2]
            rintro e w117 ⟨A117, n117, c117, rfl, mm, kk⟩
            have S117 : Hid (St wb w117 [⟨AX, nX, cX, X⟩, ⟨AY, nY, cY, Y⟩, ⟨AZ, nZ, cZ, Z⟩, ⟨A1, n1, c1, S⟩, ⟨A2, n2, c2, T⟩, ⟨A116, n116, c116, S⟩, ⟨A117, n117, c117, T⟩]) := S116.out.more mm kk
            clear mm kk S116
            go_wp2_with fail
            refine (same_yes (S117.out.get 5 rfl) (S117.out.get 3 rfl) (by rw [(S117.out.get 5 rfl).cnt SZ_S.out]; omega) rfl).mono ?_
            rintro e w118 ⟨rfl, kk⟩
            have S118 := Lib.hid (S117.out.later kk)
            clear kk S117
            go_wp2_with fail
            refine (same_yes (S118.out.get 6 rfl) (S118.out.get 4 rfl) (by rw [(S118.out.get 6 rfl).cnt SZ_T.out]; omega) rfl).mono ?_
            rintro e w119 ⟨rfl, kk⟩
            have S119 := Lib.hid (S118.out.later kk)
            clear kk S118
            go_wp2_with fail
            refine (reduce_sz0 (S119.out.get 0 rfl) sX.out (by omega) (by omega)).mono ?_
            rw [ER.out.2.2.1]
            rintro e w120 ⟨A120, n120, c120, rfl, mm, kk⟩
            have S120 : Hid (St wb w120 [⟨AX, nX, cX, X⟩, ⟨AY, nY, cY, Y⟩, ⟨AZ, nZ, cZ, Z⟩, ⟨A1, n1, c1, S⟩, ⟨A2, n2, c2, T⟩, ⟨A116, n116, c116, S⟩, ⟨A117, n117, c117, T⟩, ⟨A120, n120, c120, RX⟩]) := S119.out.more mm kk
            clear mm kk S119
            go_wp2_with fail
            obtain ⟨v1, v2⟩ := C10.out (by simp)
            have V1 := Lib.hid v1
            have v3 : ((n2 : Int) != (ky : Int)) = false := by rw [v2]; simp
            clear v1 v2
            refine (contains_szm (S120.out.get 0 rfl) (S120.out.get 1 rfl) sX.out sY.out (by omega) (by omega) (by omega)).mono ?_
            rw [CZ.out.2.2.2.2]
            rintro e w121 ⟨rfl, kk⟩
            have S121 := Lib.hid (S120.out.later kk)
            clear kk S120
            go_wp2_with fail
            refine (same_yes (S121.out.get 3 rfl) (S121.out.get 7 rfl) (by rw [(S121.out.get 3 rfl).cnt SZ_S.out]; omega) V1.out).mono ?_
            rintro e w122 ⟨rfl, kk⟩
            have S122 := Lib.hid (S121.out.later kk)
            clear kk S121
            go_wp2_with fail
            refine (wakes_any _).mono ?_
            rintro e w123 ⟨rfl, kk⟩
            have S123 := Lib.hid (S122.out.later kk)
            clear kk S122
            go_wp2_with fail
            go_ret
            exact ⟨rfl, KB.out.trans S123.out.keep⟩
        | true =>
          cases xy with
          | false =>
            as_aux_lemma =>
            refine (contains_szm (S8.out.get 2 rfl) (S8.out.get 0 rfl) sZ.out sX.out (by omega) (by omega) (by omega)).mono ?_
            rw [CZ.out.1]
            rintro e w124 ⟨rfl, kk⟩
            have S124 := Lib.hid (S8.out.later kk)
            clear kk S8
            go_wp2_with fail
            refine (contains_szm (S124.out.get 2 rfl) (S124.out.get 1 rfl) sZ.out sY.out (by omega) (by omega) (by omega)).mono ?_
            rw [CZ.out.2.1]
            rintro e w125 ⟨rfl, kk⟩
            have S125 := Lib.hid (S124.out.later kk)
            clear kk S124
            go_wp2_with fail
            refine (contains_szm (S125.out.get 2 rfl) (S125.out.get 3 rfl) sZ.out SZ_S.out (by omega) (by omega) (by omega)).mono ?_
            rw [C6.out]
            rintro e w126 ⟨rfl, kk⟩
            have S126 := Lib.hid (S125.out.later kk)
            clear kk S125
            go_wp2_with fail
            refine (contains_szm (S126.out.get 0 rfl) (S126.out.get 2 rfl) sX.out sZ.out (by omega) (by omega) (by omega)).mono ?_
            rw [CZ.out.2.2.1]
            rintro e w127 ⟨rfl, kk⟩
            have S127 := Lib.hid (S126.out.later kk)
            clear kk S126
            go_wp2_with fail
            refine (contains_szm (S127.out.get 1 rfl) (S127.out.get 2 rfl) sY.out sZ.out (by omega) (by omega) (by omega)).mono ?_
            rw [CZ.out.2.2.2.1]
            rintro e w128 ⟨rfl, kk⟩
            have S128 := Lib.hid (S127.out.later kk)
            clear kk S127
            go_wp2_with fail
            refine (contains_szm (S128.out.get 4 rfl) (S128.out.get 2 rfl) SZ_T.out sZ.out (by omega) (by omega) (by omega)).mono ?_
            rw [C7.out]
            rintro e w129 ⟨rfl, kk⟩
            have S129 := Lib.hid (S128.out.later kk)
            clear kk S128
            go_wp2_with fail
            refine (sum_szm (S129.out.get 1 rfl) (S129.out.get 0 rfl) sY.out sX.out (by omega) (by omega) (by omega)).mono ?_
            rw [C8.out.1]
            rintro e w130 ⟨A130, n130, c130, rfl, mm, kk⟩
            have S130 : Hid (St wb w130 [⟨AX, nX, cX, X⟩, ⟨AY, nY, cY, Y⟩, ⟨AZ, nZ, cZ, Z⟩, ⟨A1, n1, c1, S⟩, ⟨A2, n2, c2, T⟩, ⟨A130, n130, c130, S⟩]) := S129.out.more mm kk
            clear mm kk S129
            go_wp2_with fail
            refine (meet_szm (S130.out.get 1 rfl) (S130.out.get 0 rfl) sY.out sX.out (by omega) (by omega) (by omega)).mono ?_
            rw [C8.out.2]
            rintro e w131 ⟨A131, n131, c131, rfl, mm, kk⟩
            have S131 : Hid (St wb w131 [⟨AX, nX, cX, X⟩, ⟨AY, nY, cY, Y⟩, ⟨AZ, nZ, cZ, Z⟩, ⟨A1, n1, c1, S⟩, ⟨A2, n2, c2, T⟩, ⟨A130, n130, c130, S⟩, ⟨A131, n131, c131, T⟩]) := S130.out.more mm kk
            clear mm kk S130
            go_wp2_with fail
            refine (same_yes (S131.out.get 5 rfl) (S131.out.get 3 rfl) (by rw [(S131.out.get 5 rfl).cnt SZ_S.out]; omega) rfl).mono ?_
            rintro e w132 ⟨rfl, kk⟩
            have S132 := Lib.hid (S131.out.later kk)
            clear kk S131
            go_wp2_with fail
            refine (same_yes (S132.out.get 6 rfl) (S132.out.get 4 rfl) (by rw [(S132.out.get 6 rfl).cnt SZ_T.out]; omega) rfl).mono ?_
            rintro e w133 ⟨rfl, kk⟩
            have S133 := Lib.hid (S132.out.later kk)
            clear kk S132
            go_wp2_with fail
            refine (reduce_sz0 (S133.out.get 0 rfl) sX.out (by omega) (by omega)).mono ?_
            rw [ER.out.2.2.1]
            rintro e w134 ⟨A134, n134, c134, rfl, mm, kk⟩
            have S134 : Hid (St wb w134 [⟨AX, nX, cX, X⟩, ⟨AY, nY, cY, Y⟩, ⟨AZ, nZ, cZ, Z⟩, ⟨A1, n1, c1, S⟩, ⟨A2, n2, c2, T⟩, ⟨A130, n130, c130, S⟩, ⟨A131, n131, c131, T⟩, ⟨A134, n134, c134, RX⟩]) := S133.out.more mm kk
            clear mm kk S133
            go_wp2_with fail
            refine (contains_szm (S134.out.get 0 rfl) (S134.out.get 1 rfl) sX.out sY.out (by omega) (by omega) (by omega)).mono ?_
            rw [CZ.out.2.2.2.2]
            rintro e w135 ⟨rfl, kk⟩
            have S135 := Lib.hid (S134.out.later kk)
            clear kk S134
            go_wp2_with fail
            refine (wakes_any _).mono ?_
            rintro e w136 ⟨rfl, kk⟩
            have S136 := Lib.hid (S135.out.later kk)
            clear kk S135
            go_wp2_with fail
            go_ret
            exact ⟨rfl, KB.out.trans S136.out.keep⟩
          | true =>
            as_aux_lemma =>
            refine (contains_szm (S8.out.get 2 rfl) (S8.out.get 0 rfl) sZ.out sX.out (by omega) (by omega) (by omega)).mono ?_
            rw [CZ.out.1]
            rintro e w137 ⟨rfl, kk⟩
            have S137 := Lib.hid (S8.out.later kk)
            clear kk S8
            go_wp2_with fail
            refine (contains_szm (S137.out.get 2 rfl) (S137.out.get 1 rfl) sZ.out sY.out (by omega) (by omega) (by omega)).mono ?_
            rw [CZ.out.2.1]
            rintro e w138 ⟨rfl, kk⟩
            have S138 := Lib.hid (S137.out.later kk)
            clear kk S137
            go_wp2_with fail
            refine (contains_szm (S138.out.get 2 rfl) (S138.out.get 3 rfl) sZ.out SZ_S.out (by omega) (by omega) (by omega)).mono ?_
            rw [C6.out]
            rintro e w139 ⟨rfl, kk⟩
            have S139 := Lib.hid (S138.out.later kk)
            clear kk S138
            go_wp2_with fail
            refine (contains_szm (S139.out.get 0 rfl) (S139.out.get 2 rfl) sX.out sZ.out (by omega) (by omega) (by omega)).mono ?_
            rw [CZ.out.2.2.1]
            rintro e w140 ⟨rfl, kk⟩
            have S140 := Lib.hid (S139.out.later kk)
            clear kk S139
            go_wp2_with fail
            refine (contains_szm (S140.out.get 1 rfl) (S140.out.get 2 rfl) sY.out sZ.out (by omega) (by omega) (by omega)).mono ?_
            rw [CZ.out.2.2.2.1]
            rintro e w141 ⟨rfl, kk⟩
            have S141 := Lib.hid (S140.out.later kk)
            clear kk S140
            go_wp2_with fail
            refine (contains_szm (S141.out.get 4 rfl) (S141.out.get 2 rfl) SZ_T.out sZ.out (by omega) (by omega) (by omega)).mono ?_
            rw [C7.out]
            rintro e w142 ⟨rfl, kk⟩
            have S142 := Lib.hid (S141.out.later kk)
            clear kk S141
            go_wp2_with fail
            refine (sum_szm (S142.out.get 1 rfl) (S142.out.get 0 rfl) sY.out sX.out (by omega) (by omega) (by omega)).mono ?_
            rw [C8.out.1]
            rintro e w143 ⟨A143, n143, c143, rfl, mm, kk⟩
            have S143 : Hid (St wb w143 [⟨AX, nX, cX, X⟩, ⟨AY, nY, cY, Y⟩, ⟨AZ, nZ, cZ, Z⟩, ⟨A1, n1, c1, S⟩, ⟨A2, n2, c2, T⟩, ⟨A143, n143, c143, S⟩]) := S142.out.more mm kk
            clear mm kk S142
            go_wp2_with fail
            refine (meet_szm (S143.out.get 1 rfl) (S143.out.get 0 rfl) sY.out sX.out (by omega) (by omega) (by omega)).mono ?_
            rw [C8.out.2]
            rintro e w144 ⟨A144, n144, c144, rfl, mm, kk⟩
            have S144 : Hid (St wb w144 [⟨AX, nX, cX, X⟩, ⟨AY, nY, cY, Y⟩, ⟨AZ, nZ, cZ, Z⟩, ⟨A1, n1, c1, S⟩, ⟨A2, n2, c2, T⟩, ⟨A143, n143, c143, S⟩, ⟨A144, n144, c144, T⟩]) := S143.out.more mm kk
            clear mm kk S143
            go_wp2_with fail
            refine (same_yes (S144.out.get 5 rfl) (S144.out.get 3 rfl) (by rw [(S144.out.get 5 rfl).cnt SZ_S.out]; omega) rfl).mono ?_
            rintro e w145 ⟨rfl, kk⟩
            have S145 := Lib.hid (S144.out.later kk)
            clear kk S144
            go_wp2_with fail
            refine (same_yes (S145.out.get 6 rfl) (S145.out.get 4 rfl) (by rw [(S145.out.get 6 rfl).cnt SZ_T.out]; omega) rfl).mono ?_
            rintro e w146 ⟨rfl, kk⟩
            have S146 := Lib.hid (S145.out.later kk)
            clear kk S145
            go_wp2_with fail
            refine (reduce_sz0 (S146.out.get 0 rfl) sX.out (by omega) (by omega)).mono ?_
            rw [ER.out.2.2.1]
            rintro e w147 ⟨A147, n147, c147, rfl, mm, kk⟩
            have S147 : Hid (St wb w147 [⟨AX, nX, cX, X⟩, ⟨AY, nY, cY, Y⟩, ⟨AZ, nZ, cZ, Z⟩, ⟨A1, n1, c1, S⟩, ⟨A2, n2, c2, T⟩, ⟨A143, n143, c143, S⟩, ⟨A144, n144, c144, T⟩, ⟨A147, n147, c147, RX⟩]) := S146.out.more mm kk
            clear mm kk S146
            go_wp2_with fail
            obtain ⟨v1, v2⟩ := C10.out (by simp)
            have V1 := Lib.hid v1
            have v3 : ((n2 : Int) != (ky : Int)) = false := by rw [v2]; simp
            clear v1 v2
            refine (contains_szm (S147.out.get 0 rfl) (S147.out.get 1 rfl) sX.out sY.out (by omega) (by omega) (by omega)).mono ?_
            rw [CZ.out.2.2.2.2]
            rintro e w148 ⟨rfl, kk⟩
            have S148 := Lib.hid (S147.out.later kk)
            clear kk S147
            go_wp2_with fail
            refine (same_yes (S148.out.get 3 rfl) (S148.out.get 7 rfl) (by rw [(S148.out.get 3 rfl).cnt SZ_S.out]; omega) V1.out).mono ?_
            rintro e w149 ⟨rfl, kk⟩
            have S149 := Lib.hid (S148.out.later kk)
            clear kk S148
            go_wp2_with fail
            refine (wakes_any _).mono ?_
            rintro e w150 ⟨rfl, kk⟩
            have S150 := Lib.hid (S149.out.later kk)
            clear kk S149
            go_wp2_with fail
            go_ret
            exact ⟨rfl, KB.out.trans S150.out.keep⟩
    | true =>
      cases xz with
      | false =>
        cases xy with
        | false =>
          as_aux_lemma =>
          refine (contains_szm (S8.out.get 2 rfl) (S8.out.get 0 rfl) sZ.out sX.out (by omega) (by omega) (by omega)).mono ?_
          rw [CZ.out.1]
          rintro e w151 ⟨rfl, kk⟩
          have S151 := Lib.hid (S8.out.later kk)
          clear kk S8
          go_wp2_with fail
          refine (contains_szm (S151.out.get 2 rfl) (S151.out.get 1 rfl) sZ.out sY.out (by omega) (by omega) (by omega)).mono ?_
          rw [CZ.out.2.1]
          rintro e w152 ⟨rfl, kk⟩
          have S152 := Lib.hid (S151.out.later kk)
          clear kk S151
          go_wp2_with fail
          refine (contains_szm (S152.out.get 2 rfl) (S152.out.get 3 rfl) sZ.out SZ_S.out (by omega) (by omega) (by omega)).mono ?_
          rw [C6.out]
          rintro e w153 ⟨rfl, kk⟩
          have S153 := Lib.hid (S152.out.later kk)
          clear kk S152
          go_wp2_with fail
          refine (contains_szm (S153.out.get 0 rfl) (S153.out.get 2 rfl) sX.out sZ.out (by omega) (by omega) (by omega)).mono ?_
          rw [CZ.out.2.2.1]
          rintro e w154 ⟨rfl, kk⟩
          have S154 := Lib.hid (S153.out.later kk)
          clear kk S153
          go_wp2_with fail
          refine (sum_szm (S154.out.get 1 rfl) (S154.out.get 0 rfl) sY.out sX.out (by omega) (by omega) (by omega)).mono ?_
          rw [C8.out.1]
          rintro e w155 ⟨A155, n155, c155, rfl, mm, kk⟩
          have S155 : Hid (St wb w155 [⟨AX, nX, cX, X⟩, ⟨AY, nY, cY, Y⟩, ⟨AZ, nZ, cZ, Z⟩, ⟨A1, n1, c1, S⟩, ⟨A2, n2, c2, T⟩, ⟨A155, n155, c155, S⟩]) := S154.out.more mm kk
          clear mm kk S154
          go_wp2_with fail
          refine (meet_szm (S155.out.get 1 rfl) (S155.out.get 0 rfl) sY.out sX.out (by omega) (by omega) (by omega)).mono ?_
          rw [C8.out.2]
          rintro e w156 ⟨A156, n156, c156, rfl, mm, kk⟩
          have S156 : Hid (St wb w156 [⟨AX, nX, cX, X⟩, ⟨AY, nY, cY, Y⟩, ⟨AZ, nZ, cZ, Z⟩, ⟨A1, n1, c1, S⟩, ⟨A2, n2, c2, T⟩, ⟨A155, n155, c155, S⟩, ⟨A156, n156, c156, T⟩]) := S155.out.more mm kk
          clear mm kk S155
          go_wp2_with fail
          refine (same_yes (S156.out.get 5 rfl) (S156.out.get 3 rfl) (by rw [(S156.out.get 5 rfl).cnt SZ_S.out]; omega) rfl).mono ?_
          rintro e w157 ⟨rfl, kk⟩
          have S157 := Lib.hid (S156.out.later kk)
          clear kk S156
          go_wp2_with fail
          refine (same_yes (S157.out.get 6 rfl) (S157.out.get 4 rfl) (by rw [(S157.out.get 6 rfl).cnt SZ_T.out]; omega) rfl).mono ?_
          rintro e w158 ⟨rfl, kk⟩
          have S158 := Lib.hid (S157.out.later kk)
          clear kk S157
          go_wp2_with fail
          refine (reduce_sz0 (S158.out.get 0 rfl) sX.out (by omega) (by omega)).mono ?_
          rw [ER.out.2.2.1]
          rintro e w159 ⟨A159, n159, c159, rfl, mm, kk⟩
          have S159 : Hid (St wb w159 [⟨AX, nX, cX, X⟩, ⟨AY, nY, cY, Y⟩, ⟨AZ, nZ, cZ, Z⟩, ⟨A1, n1, c1, S⟩, ⟨A2, n2, c2, T⟩, ⟨A155, n155, c155, S⟩, ⟨A156, n156, c156, T⟩, ⟨A159, n159, c159, RX⟩]) := S158.out.more mm kk
          clear mm kk S158
          go_wp2_with fail
          refine (contains_szm (S159.out.get 0 rfl) (S159.out.get 1 rfl) sX.out sY.out (by omega) (by omega) (by omega)).mono ?_
          rw [CZ.out.2.2.2.2]
          rintro e w160 ⟨rfl, kk⟩
          have S160 := Lib.hid (S159.out.later kk)
          clear kk S159
          go_wp2_with fail
          refine (wakes_any _).mono ?_
          rintro e w161 ⟨rfl, kk⟩
          have S161 := Lib.hid (S160.out.later kk)
          clear kk S160
          go_wp2_with fail
          go_ret
          exact ⟨rfl, KB.out.trans S161.out.keep⟩
        | true =>
          as_aux_lemma =>
          refine (contains_szm (S8.out.get 2 rfl) (S8.out.get 0 rfl) sZ.out sX.out (by omega) (by omega) (by omega)).mono ?_
          rw [CZ.out.1]
          rintro e w162 ⟨rfl, kk⟩
          have S162 := Lib.hid (S8.out.later kk)
          clear kk S8
          go_wp2_with fail
          refine (contains_szm (S162.out.get 2 rfl) (S162.out.get 1 rfl) sZ.out sY.out (by omega) (by omega) (by omega)).mono ?_
          rw [CZ.out.2.1]
          rintro e w163 ⟨rfl, kk⟩
          have S163 := Lib.hid (S162.out.later kk)
          clear kk S162
          go_wp2_with fail
          refine (contains_szm (S163.out.get 2 rfl) (S163.out.get 3 rfl) sZ.out SZ_S.out (by omega) (by omega) (by omega)).mono ?_
          rw [C6.out]
          rintro e w164 ⟨rfl, kk⟩
          have S164 := Lib.hid (S163.out.later kk)
          clear kk S163
          go_wp2_with fail
          refine (contains_szm (S164.out.get 0 rfl) (S164.out.get 2 rfl) sX.out sZ.out (by omega) (by omega) (by omega)).mono ?_
          rw [CZ.out.2.2.1]
          rintro e w165 ⟨rfl, kk⟩
          have S165 := Lib.hid (S164.out.later kk)
          clear kk S164
          go_wp2_with fail
          refine (sum_szm (S165.out.get 1 rfl) (S165.out.get 0 rfl) sY.out sX.out (by omega) (by omega) (by omega)).mono ?_
          rw [C8.out.1]
          rintro e w166 ⟨A166, n166, c166, rfl, mm, kk⟩
          have S166 : Hid (St wb w166 [⟨AX, nX, cX, X⟩, ⟨AY, nY, cY, Y⟩, ⟨AZ, nZ, cZ, Z⟩, ⟨A1, n1, c1, S⟩, ⟨A2, n2, c2, T⟩, ⟨A166, n166, c166, S⟩]) := S165.out.more mm kk
          clear mm kk S165
          go_wp2_with fail
          refine (meet_szm (S166.out.get 1 rfl) (S166.out.get 0 rfl) sY.out sX.out (by omega) (by omega) (by omega)).mono ?_
          rw [C8.out.2]
          rintro e w167 ⟨A167, n167, c167, rfl, mm, kk⟩
          have S167 : Hid (St wb w167 [⟨AX, nX, cX, X⟩, ⟨AY, nY, cY, Y⟩, ⟨AZ, nZ, cZ, Z⟩, ⟨A1, n1, c1, S⟩, ⟨A2, n2, c2, T⟩, ⟨A166, n166, c166, S⟩, ⟨A167, n167, c167, T⟩]) := S166.out.more mm kk
          clear mm kk S166
          go_wp2_with fail
          refine (same_yes (S167.out.get 5 rfl) (S167.out.get 3 rfl) (by rw [(S167.out.get 5 rfl).cnt SZ_S.out]; omega) rfl).mono ?_
          rintro e w168 ⟨rfl, kk⟩
          have S168 := Lib.hid (S167.out.later kk)
          clear kk S167
          go_wp2_with fail
          refine (same_yes (S168.out.get 6 rfl) (S168.out.get 4 rfl) (by rw [(S168.out.get 6 rfl).cnt SZ_T.out]; omega) rfl).mono ?_
          rintro e w169 ⟨rfl, kk⟩
          have S169 := Lib.hid (S168.out.later kk)
          clear kk S168
          go_wp2_with fail
          refine (reduce_sz0 (S169.out.get 0 rfl) sX.out (by omega) (by omega)).mono ?_
          rw [ER.out.2.2.1]
          rintro e w170 ⟨A170, n170, c170, rfl, mm, kk⟩
          have S170 : Hid (St wb w170 [⟨AX, nX, cX, X⟩, ⟨AY, nY, cY, Y⟩, ⟨AZ, nZ, cZ, Z⟩, ⟨A1, n1, c1, S⟩, ⟨A2, n2, c2, T⟩, ⟨A166, n166, c166, S⟩, ⟨A167, n167, c167, T⟩, ⟨A170, n170, c170, RX⟩]) := S169.out.more mm kk
          clear mm kk S169
          go_wp2_with fail
          obtain ⟨v1, v2⟩ := C10.out (by simp)
          have V1 := Lib.hid v1
          have v3 : ((n2 : Int) != (ky : Int)) = false := by rw [v2]; simp
          clear v1 v2
          refine (contains_szm (S170.out.get 0 rfl) (S170.out.get 1 rfl) sX.out sY.out (by omega) (by omega) (by omega)).mono ?_
          rw [CZ.out.2.2.2.2]
          rintro e w171 ⟨rfl, kk⟩
          have S171 := Lib.hid (S170.out.later kk)
          clear kk S170
          go_wp2_with fail
          refine (same_yes (S171.out.get 3 rfl) (S171.out.get 7 rfl) (by rw [(S171.out.get 3 rfl).cnt SZ_S.out]; omega) V1.out).mono ?_
          rintro e w172 ⟨rfl, kk⟩
          have S172 := Lib.hid (S171.out.later kk)
          clear kk S171
          go_wp2_with fail
          refine (wakes_any _).mono ?_
          rintro e w173 ⟨rfl, kk⟩
          have S173 := Lib.hid (S172.out.later kk)
          clear kk S172
          go_wp2_with fail
          go_ret
          exact ⟨rfl, KB.out.trans S173.out.keep⟩
      | true =>
        cases yz with
        | false =>
          cases xy with
          | false =>
            as_aux_lemma =>
            refine (contains_szm (S8.out.get 2 rfl) (S8.out.get 0 rfl) sZ.out sX.out (by omega) (by omega) (by omega)).mono ?_
            rw [CZ.out.1]
            rintro e w174 ⟨rfl, kk⟩
            have S174 := Lib.hid (S8.out.later kk)
            clear kk S8
            go_wp2_with fail
            refine (contains_szm (S174.out.get 2 rfl) (S174.out.get 1 rfl) sZ.out sY.out (by omega) (by omega) (by omega)).mono ?_
            rw [CZ.out.2.1]
            rintro e w175 ⟨rfl, kk⟩
            have S175 := Lib.hid (S174.out.later kk)
            clear kk S174
            go_wp2_with fail
            refine (contains_szm (S175.out.get 2 rfl) (S175.out.get 3 rfl) sZ.out SZ_S.out (by omega) (by omega) (by omega)).mono ?_
            rw [C6.out]
            rintro e w176 ⟨rfl, kk⟩
            have S176 := Lib.hid (S175.out.later kk)
            clear kk S175
            go_wp2_with fail
            refine (contains_szm (S176.out.get 0 rfl) (S176.out.get 2 rfl) sX.out sZ.out (by omega) (by omega) (by omega)).mono ?_
            rw [CZ.out.2.2.1]
            rintro e w177 ⟨rfl, kk⟩
            have S177 := Lib.hid (S176.out.later kk)
            clear kk S176
            go_wp2_with fail
            refine (contains_szm (S177.out.get 1 rfl) (S177.out.get 2 rfl) sY.out sZ.out (by omega) (by omega) (by omega)).mono ?_
            rw [CZ.out.2.2.2.1]
            rintro e w178 ⟨rfl, kk⟩
            have S178 := Lib.hid (S177.out.later kk)
            clear kk S177
            go_wp2_with fail
            refine (contains_szm (S178.out.get 4 rfl) (S178.out.get 2 rfl) SZ_T.out sZ.out (by omega) (by omega) (by omega)).mono ?_
            rw [C7.out]
            rintro e w179 ⟨rfl, kk⟩
            have S179 := Lib.hid (S178.out.later kk)
            clear kk S178
            go_wp2_with fail
            refine (sum_szm (S179.out.get 1 rfl) (S179.out.get 0 rfl) sY.out sX.out (by omega) (by omega) (by omega)).mono ?_
            rw [C8.out.1]
            rintro e w180 ⟨A180, n180, c180, rfl, mm, kk⟩
            have S180 : Hid (St wb w180 [⟨AX, nX, cX, X⟩, ⟨AY, nY, cY, Y⟩, ⟨AZ, nZ, cZ, Z⟩, ⟨A1, n1, c1, S⟩, ⟨A2, n2, c2, T⟩, ⟨A180, n180, c180, S⟩]) := S179.out.more mm kk
            clear mm kk S179
            go_wp2_with fail
            refine (meet_szm (S180.out.get 1 rfl) (S180.out.get 0 rfl) sY.out sX.out (by omega) (by omega) (by omega)).mono ?_
            rw [C8.out.2]
            rintro e w181 ⟨A181, n181, c181, rfl, mm, kk⟩
            have S181 : Hid (St wb w181 [⟨AX, nX, cX, X⟩, ⟨AY, nY, cY, Y⟩, ⟨AZ, nZ, cZ, Z⟩, ⟨A1, n1, c1, S⟩, ⟨A2, n2, c2, T⟩, ⟨A180, n180, c180, S⟩, ⟨A181, n181, c181, T⟩]) := S180.out.more mm kk
            clear mm kk S180
            go_wp2_with fail
            refine (same_yes (S181.out.get 5 rfl) (S181.out.get 3 rfl) (by rw [(S181.out.get 5 rfl).cnt SZ_S.out]; omega) rfl).mono ?_
            rintro e w182 ⟨rfl, kk⟩
            have S182 := Lib.hid (S181.out.later kk)
            clear kk S181
            go_wp2_with fail
            refine (same_yes (S182.out.get 6 rfl) (S182.out.get 4 rfl) (by rw [(S182.out.get 6 rfl).cnt SZ_T.out]; omega) rfl).mono ?_
            rintro e w183 ⟨rfl, kk⟩
            have S183 := Lib.hid (S182.out.later kk)
            clear kk S182
            go_wp2_with fail
            refine (reduce_sz0 (S183.out.get 0 rfl) sX.out (by omega) (by omega)).mono ?_
            rw [ER.out.2.2.1]
            rintro e w184 ⟨A184, n184, c184, rfl, mm, kk⟩
            have S184 : Hid (St wb w184 [⟨AX, nX, cX, X⟩, ⟨AY, nY, cY, Y⟩, ⟨AZ, nZ, cZ, Z⟩, ⟨A1, n1, c1, S⟩, ⟨A2, n2, c2, T⟩, ⟨A180, n180, c180, S⟩, ⟨A181, n181, c181, T⟩, ⟨A184, n184, c184, RX⟩]) := S183.out.more mm kk
            clear mm kk S183
            go_wp2_with fail
            refine (contains_szm (S184.out.get 0 rfl) (S184.out.get 1 rfl) sX.out sY.out (by omega) (by omega) (by omega)).mono ?_
            rw [CZ.out.2.2.2.2]
            rintro e w185 ⟨rfl, kk⟩
            have S185 := Lib.hid (S184.out.later kk)
            clear kk S184
            go_wp2_with fail
            refine (wakes_any _).mono ?_
            rintro e w186 ⟨rfl, kk⟩
            have S186 := Lib.hid (S185.out.later kk)
            clear kk S185
            go_wp2_with fail
            go_ret
            exact ⟨rfl, KB.out.trans S186.out.keep⟩
          | true =>
            as_aux_lemma =>
            refine (contains_szm (S8.out.get 2 rfl) (S8.out.get 0 rfl) sZ.out sX.out (by omega) (by omega) (by omega)).mono ?_
            rw [CZ.out.1]
            rintro e w187 ⟨rfl, kk⟩
            have S187 := Lib.hid (S8.out.later kk)
            clear kk S8
            go_wp2_with fail
            refine (contains_szm (S187.out.get 2 rfl) (S187.out.get 1 rfl) sZ.out sY.out (by omega) (by omega) (by omega)).mono ?_
            rw [CZ.out.2.1]
            rintro e w188 ⟨rfl, kk⟩
            have S188 := Lib.hid (S187.out.later kk)
            clear kk S187
            go_wp2_with fail
            refine (contains_szm (S188.out.get 2 rfl) (S188.out.get 3 rfl) sZ.out SZ_S.out (by omega) (by omega) (by omega)).mono ?_
            rw [C6.out]
            rintro e w189 ⟨rfl, kk⟩
            have S189 := Lib.hid (S188.out.later kk)
            clear kk S188
            go_wp2_with fail
            refine (contains_szm (S189.out.get 0 rfl) (S189.out.get 2 rfl) sX.out sZ.out (by omega) (by omega) (by omega)).mono ?_
            rw [CZ.out.2.2.1]
            rintro e w190 ⟨rfl, kk⟩
            have S190 := Lib.hid (S189.out.later kk)
            clear kk S189
            go_wp2_with fail
            refine (contains_szm (S190.out.get 1 rfl) (S190.out.get 2 rfl) sY.out sZ.out (by omega) (by omega) (by omega)).mono ?_
            rw [CZ.out.2.2.2.1]
            rintro e w191 ⟨rfl, kk⟩
            have S191 := Lib.hid (S190.out.later kk)
            clear kk S190
            go_wp2_with fail
            refine (contains_szm (S191.out.get 4 rfl) (S191.out.get 2 rfl) SZ_T.out sZ.out (by omega) (by omega) (by omega)).mono ?_
            rw [C7.out]
            rintro e w192 ⟨rfl, kk⟩
            have S192 := Lib.hid (S191.out.later kk)
            clear kk S191
            go_wp2_with fail
            refine (sum_szm (S192.out.get 1 rfl) (S192.out.get 0 rfl) sY.out sX.out (by omega) (by omega) (by omega)).mono ?_
            rw [C8.out.1]
            rintro e w193 ⟨A193, n193, c193, rfl, mm, kk⟩
            have S193 : Hid (St wb w193 [⟨AX, nX, cX, X⟩, ⟨AY, nY, cY, Y⟩, ⟨AZ, nZ, cZ, Z⟩, ⟨A1, n1, c1, S⟩, ⟨A2, n2, c2, T⟩, ⟨A193, n193, c193, S⟩]) := S192.out.more mm kk
            clear mm kk S192
            go_wp2_with fail
            refine (meet_szm (S193.out.get 1 rfl) (S193.out.get 0 rfl) sY.out sX.out (by omega) (by omega) (by omega)).mono ?_
            rw [C8.out.2]
            rintro e w194 ⟨A194, n194, c194, rfl, mm, kk⟩
            have S194 : Hid (St wb w194 [⟨AX, nX, cX, X⟩, ⟨AY, nY, cY, Y⟩, ⟨AZ, nZ, cZ, Z⟩, ⟨A1, n1, c1, S⟩, ⟨A2, n2, c2, T⟩, ⟨A193, n193, c193, S⟩, ⟨A194, n194, c194, T⟩]) := S193.out.more mm kk
            clear mm kk S193
            go_wp2_with fail
            refine (same_yes (S194.out.get 5 rfl) (S194.out.get 3 rfl) (by rw [(S194.out.get 5 rfl).cnt SZ_S.out]; omega) rfl).mono ?_
            rintro e w195 ⟨rfl, kk⟩
            have S195 := Lib.hid (S194.out.later kk)
            clear kk S194
            go_wp2_with fail
            refine (same_yes (S195.out.get 6 rfl) (S195.out.get 4 rfl) (by rw [(S195.out.get 6 rfl).cnt SZ_T.out]; omega) rfl).mono ?_
            rintro e w196 ⟨rfl, kk⟩
            have S196 := Lib.hid (S195.out.later kk)
            clear kk S195
            go_wp2_with fail
            refine (reduce_sz0 (S196.out.get 0 rfl) sX.out (by omega) (by omega)).mono ?_
            rw [ER.out.2.2.1]
            rintro e w197 ⟨A197, n197, c197, rfl, mm, kk⟩
            have S197 : Hid (St wb w197 [⟨AX, nX, cX, X⟩, ⟨AY, nY, cY, Y⟩, ⟨AZ, nZ, cZ, Z⟩, ⟨A1, n1, c1, S⟩, ⟨A2, n2, c2, T⟩, ⟨A193, n193, c193, S⟩, ⟨A194, n194, c194, T⟩, ⟨A197, n197, c197, RX⟩]) := S196.out.more mm kk
            clear mm kk S196
            go_wp2_with fail
            obtain ⟨v1, v2⟩ := C10.out (by simp)
            have V1 := Lib.hid v1
            have v3 : ((n2 : Int) != (ky : Int)) = false := by rw [v2]; simp
            clear v1 v2
            refine (contains_szm (S197.out.get 0 rfl) (S197.out.get 1 rfl) sX.out sY.out (by omega) (by omega) (by omega)).mono ?_
            rw [CZ.out.2.2.2.2]
            rintro e w198 ⟨rfl, kk⟩
            have S198 := Lib.hid (S197.out.later kk)
            clear kk S197
            go_wp2_with fail
            refine (same_yes (S198.out.get 3 rfl) (S198.out.get 7 rfl) (by rw [(S198.out.get 3 rfl).cnt SZ_S.out]; omega) V1.out).mono ?_
            rintro e w199 ⟨rfl, kk⟩
            have S199 := Lib.hid (S198.out.later kk)
            clear kk S198
            go_wp2_with fail
            refine (wakes_any _).mono ?_
            rintro e w200 ⟨rfl, kk⟩
            have S200 := Lib.hid (S199.out.later kk)
            clear kk S199
            go_wp2_with fail
            go_ret
            exact ⟨rfl, KB.out.trans S200.out.keep⟩
        | true =>
          cases xy with
          | false =>
            as_aux_lemma =>
            refine (contains_szm (S8.out.get 2 rfl) (S8.out.get 0 rfl) sZ.out sX.out (by omega) (by omega) (by omega)).mono ?_
            rw [CZ.out.1]
            rintro e w201 ⟨rfl, kk⟩
            have S201 := Lib.hid (S8.out.later kk)
            clear kk S8
            go_wp2_with fail
            refine (contains_szm (S201.out.get 2 rfl) (S201.out.get 1 rfl) sZ.out sY.out (by omega) (by omega) (by omega)).mono ?_
            rw [CZ.out.2.1]
            rintro e w202 ⟨rfl, kk⟩
            have S202 := Lib.hid (S201.out.later kk)
            clear kk S201
            go_wp2_with fail
            refine (contains_szm (S202.out.get 2 rfl) (S202.out.get 3 rfl) sZ.out SZ_S.out (by omega) (by omega) (by omega)).mono ?_
            rw [C6.out]
            rintro e w203 ⟨rfl, kk⟩
            have S203 := Lib.hid (S202.out.later kk)
            clear kk S202
            go_wp2_with fail
            refine (contains_szm (S203.out.get 0 rfl) (S203.out.get 2 rfl) sX.out sZ.out (by omega) (by omega) (by omega)).mono ?_
            rw [CZ.out.2.2.1]
            rintro e w204 ⟨rfl, kk⟩
            have S204 := Lib.hid (S203.out.later kk)
            clear kk S203
            go_wp2_with fail
            refine (contains_szm (S204.out.get 1 rfl) (S204.out.get 2 rfl) sY.out sZ.out (by omega) (by omega) (by omega)).mono ?_
            rw [CZ.out.2.2.2.1]
            rintro e w205 ⟨rfl, kk⟩
            have S205 := Lib.hid (S204.out.later kk)
            clear kk S204
            go_wp2_with fail
            refine (contains_szm (S205.out.get 4 rfl) (S205.out.get 2 rfl) SZ_T.out sZ.out (by omega) (by omega) (by omega)).mono ?_
            rw [C7.out]
            rintro e w206 ⟨rfl, kk⟩
            have S206 := Lib.hid (S205.out.later kk)
            clear kk S205
            go_wp2_with fail
            refine (sum_szm (S206.out.get 1 rfl) (S206.out.get 0 rfl) sY.out sX.out (by omega) (by omega) (by omega)).mono ?_
            rw [C8.out.1]
            rintro e w207 ⟨A207, n207, c207, rfl, mm, kk⟩
            have S207 : Hid (St wb w207 [⟨AX, nX, cX, X⟩, ⟨AY, nY, cY, Y⟩, ⟨AZ, nZ, cZ, Z⟩, ⟨A1, n1, c1, S⟩, ⟨A2, n2, c2, T⟩, ⟨A207, n207, c207, S⟩]) := S206.out.more mm kk
            clear mm kk S206
            go_wp2_with fail
            refine (meet_szm (S207.out.get 1 rfl) (S207.out.get 0 rfl) sY.out sX.out (by omega) (by omega) (by omega)).mono ?_
            rw [C8.out.2]
            rintro e w208 ⟨A208, n208, c208, rfl, mm, kk⟩
            have S208 : Hid (St wb w208 [⟨AX, nX, cX, X⟩, ⟨AY, nY, cY, Y⟩, ⟨AZ, nZ, cZ, Z⟩, ⟨A1, n1, c1, S⟩, ⟨A2, n2, c2, T⟩, ⟨A207, n207, c207, S⟩, ⟨A208, n208, c208, T⟩]) := S207.out.more mm kk
            clear mm kk S207
            go_wp2_with fail
            refine (same_yes (S208.out.get 5 rfl) (S208.out.get 3 rfl) (by rw [(S208.out.get 5 rfl).cnt SZ_S.out]; omega) rfl).mono ?_
            rintro e w209 ⟨rfl, kk⟩
            have S209 := Lib.hid (S208.out.later kk)
            clear kk S208
            go_wp2_with fail
            refine (same_yes (S209.out.get 6 rfl) (S209.out.get 4 rfl) (by rw [(S209.out.get 6 rfl).cnt SZ_T.out]; omega) rfl).mono ?_
            rintro e w210 ⟨rfl, kk⟩
            have S210 := Lib.hid (S209.out.later kk)
            clear kk S209
            go_wp2_with fail
            refine (reduce_sz0 (S210.out.get 0 rfl) sX.out (by omega) (by omega)).mono ?_
            rw [ER.out.2.2.1]
            rintro e w211 ⟨A211, n211, c211, rfl, mm, kk⟩
            have S211 : Hid (St wb w211 [⟨AX, nX, cX, X⟩, ⟨AY, nY, cY, Y⟩, ⟨AZ, nZ, cZ, Z⟩, ⟨A1, n1, c1, S⟩, ⟨A2, n2, c2, T⟩, ⟨A207, n207, c207, S⟩, ⟨A208, n208, c208, T⟩, ⟨A211, n211, c211, RX⟩]) := S210.out.more mm kk
            clear mm kk S210
            go_wp2_with fail
            refine (contains_szm (S211.out.get 0 rfl) (S211.out.get 1 rfl) sX.out sY.out (by omega) (by omega) (by omega)).mono ?_
            rw [CZ.out.2.2.2.2]
            rintro e w212 ⟨rfl, kk⟩
            have S212 := Lib.hid (S211.out.later kk)
            clear kk S211
            go_wp2_with fail
            refine (wakes_any _).mono ?_
            rintro e w213 ⟨rfl, kk⟩
            have S213 := Lib.hid (S212.out.later kk)
            clear kk S212
            go_wp2_with fail
            go_ret
            exact ⟨rfl, KB.out.trans S213.out.keep⟩
          | true =>
            as_aux_lemma =>
            refine (contains_szm (S8.out.get 2 rfl) (S8.out.get 0 rfl) sZ.out sX.out (by omega) (by omega) (by omega)).mono ?_
            rw [CZ.out.1]
            rintro e w214 ⟨rfl, kk⟩
            have S214 := Lib.hid (S8.out.later kk)
            clear kk S8
            go_wp2_with fail
            refine (contains_szm (S214.out.get 2 rfl) (S214.out.get 1 rfl) sZ.out sY.out (by omega) (by omega) (by omega)).mono ?_
            rw [CZ.out.2.1]
            rintro e w215 ⟨rfl, kk⟩
            have S215 := Lib.hid (S214.out.later kk)
            clear kk S214
            go_wp2_with fail
            refine (contains_szm (S215.out.get 2 rfl) (S215.out.get 3 rfl) sZ.out SZ_S.out (by omega) (by omega) (by omega)).mono ?_
            rw [C6.out]
            rintro e w216 ⟨rfl, kk⟩
            have S216 := Lib.hid (S215.out.later kk)
            clear kk S215
            go_wp2_with fail
            refine (contains_szm (S216.out.get 0 rfl) (S216.out.get 2 rfl) sX.out sZ.out (by omega) (by omega) (by omega)).mono ?_
            rw [CZ.out.2.2.1]
            rintro e w217 ⟨rfl, kk⟩
            have S217 := Lib.hid (S216.out.later kk)
            clear kk S216
            go_wp2_with fail
            refine (contains_szm (S217.out.get 1 rfl) (S217.out.get 2 rfl) sY.out sZ.out (by omega) (by omega) (by omega)).mono ?_
            rw [CZ.out.2.2.2.1]
            rintro e w218 ⟨rfl, kk⟩
            have S218 := Lib.hid (S217.out.later kk)
            clear kk S217
            go_wp2_with fail
            refine (contains_szm (S218.out.get 4 rfl) (S218.out.get 2 rfl) SZ_T.out sZ.out (by omega) (by omega) (by omega)).mono ?_
            rw [C7.out]
            rintro e w219 ⟨rfl, kk⟩
            have S219 := Lib.hid (S218.out.later kk)
            clear kk S218
            go_wp2_with fail
            refine (sum_szm (S219.out.get 1 rfl) (S219.out.get 0 rfl) sY.out sX.out (by omega) (by omega) (by omega)).mono ?_
            rw [C8.out.1]
            rintro e w220 ⟨A220, n220, c220, rfl, mm, kk⟩
            have S220 : Hid (St wb w220 [⟨AX, nX, cX, X⟩, ⟨AY, nY, cY, Y⟩, ⟨AZ, nZ, cZ, Z⟩, ⟨A1, n1, c1, S⟩, ⟨A2, n2, c2, T⟩, ⟨A220, n220, c220, S⟩]) := S219.out.more mm kk
            clear mm kk S219
            go_wp2_with fail
            refine (meet_szm (S220.out.get 1 rfl) (S220.out.get 0 rfl) sY.out sX.out (by omega) (by omega) (by omega)).mono ?_
            rw [C8.out.2]
            rintro e w221 ⟨A221, n221, c221, rfl, mm, kk⟩
            have S221 : Hid (St wb w221 [⟨AX, nX, cX, X⟩, ⟨AY, nY, cY, Y⟩, ⟨AZ, nZ, cZ, Z⟩, ⟨A1, n1, c1, S⟩, ⟨A2, n2, c2, T⟩, ⟨A220, n220, c220, S⟩, ⟨A221, n221, c221, T⟩]) := S220.out.more mm kk
            clear mm kk S220
            go_wp2_with fail
            refine (same_yes (S221.out.get 5 rfl) (S221.out.get 3 rfl) (by rw [(S221.out.get 5 rfl).cnt SZ_S.out]; omega) rfl).mono ?_
            rintro e w222 ⟨rfl, kk⟩
            have S222 := Lib.hid (S221.out.later kk)
            clear kk S221
            go_wp2_with fail
            refine (same_yes (S222.out.get 6 rfl) (S222.out.get 4 rfl) (by rw [(S222.out.get 6 rfl).cnt SZ_T.out]; omega) rfl).mono ?_
            rintro e w223 ⟨rfl, kk⟩
            have S223 := Lib.hid (S222.out.later kk)
            clear kk S222
            go_wp2_with fail
            refine (reduce_sz0 (S223.out.get 0 rfl) sX.out (by omega) (by omega)).mono ?_
            rw [ER.out.2.2.1]
            rintro e w224 ⟨A224, n224, c224, rfl, mm, kk⟩
            have S224 : Hid (St wb w224 [⟨AX, nX, cX, X⟩, ⟨AY, nY, cY, Y⟩, ⟨AZ, nZ, cZ, Z⟩, ⟨A1, n1, c1, S⟩, ⟨A2, n2, c2, T⟩, ⟨A220, n220, c220, S⟩, ⟨A221, n221, c221, T⟩, ⟨A224, n224, c224, RX⟩]) := S223.out.more mm kk
            clear mm kk S223
            go_wp2_with fail
            obtain ⟨v1, v2⟩ := C10.out (by simp)
            have V1 := Lib.hid v1
            have v3 : ((n2 : Int) != (ky : Int)) = false := by rw [v2]; simp
            clear v1 v2
            refine (contains_szm (S224.out.get 0 rfl) (S224.out.get 1 rfl) sX.out sY.out (by omega) (by omega) (by omega)).mono ?_
            rw [CZ.out.2.2.2.2]
            rintro e w225 ⟨rfl, kk⟩
            have S225 := Lib.hid (S224.out.later kk)
            clear kk S224
            go_wp2_with fail
            refine (same_yes (S225.out.get 3 rfl) (S225.out.get 7 rfl) (by rw [(S225.out.get 3 rfl).cnt SZ_S.out]; omega) V1.out).mono ?_
            rintro e w226 ⟨rfl, kk⟩
            have S226 := Lib.hid (S225.out.later kk)
            clear kk S225
            go_wp2_with fail
            refine (wakes_any _).mono ?_
            rintro e w227 ⟨rfl, kk⟩
            have S227 := Lib.hid (S226.out.later kk)
            clear kk S226
            go_wp2_with fail
            go_ret
            exact ⟨rfl, KB.out.trans S227.out.keep⟩
end Go.Proofs.Ytofhdaeeiienfaa
