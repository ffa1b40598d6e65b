/- The walk of SpanOrder. -/
import Derived.Test.YtofhdaeeiienfaaSlaw
import Derived.Test.YtofhdaeeiienfaaArr
namespace Go.Proofs.Ytofhdaeeiienfaa
open Go.RowKit Lin
set_option linter.unusedVariables false
set_option linter.unusedSimpArgs false
set_option maxRecDepth 100000 in
set_option maxHeartbeats 8000000 in
theorem order_any (n1 n2 n3 c1 c2 c3 s0 s1 s2 s3 : Nat) (A1 A2 A3 : Option Addr) (xs ys zs : List Nat) (w : World) (h1 : Bytes w w.heap.size A1 n1 xs) (h2 : Bytes w w.heap.size A2 n2 ys) (h3 : Bytes w w.heap.size A3 n3 zs) (m1 : n1 ≤ 140737488355328) (m2 : n2 ≤ 140737488355328) (m3 : n3 ≤ 140737488355328) (b0 : s0 < 256) (b1 : s1 < 256) (b2 : s2 < 256) (b3 : s3 < 256) :
    Calls Try.prog 5 #[.slice A1 n1 c1, .slice A2 n2 c2, .slice A3 n3 c3, .agg #[.int .u8 (s0 : Int), .int .u8 (s1 : Int), .int .u8 (s2 : Int), .int .u8 (s3 : Int)]] w fun e w' => e = .returned (.bool true) ∧ Keep w w' := by
  have H1 := Lib.hid h1
  have H2 := Lib.hid h2
  have H3 := Lib.hid h3
  obtain ⟨q0, hq0⟩ : ∃ q, s0 % 6 = q := ⟨_, rfl⟩
  have d0 : (s0 : Int) % 6 = (q0 : Int) := by omega
  have r0 : q0 ≤ 5 := by omega
  have dt0 : Hid ((s0 : Int).tmod 6 = (q0 : Int)) := by
    show _ = _
    rw [Int.tmod_eq_emod_of_nonneg (by omega)]; exact d0
  have dw0 : Hid (IntKind.i64.wrap (q0 : Int) = (q0 : Int)) := IntWalk.i64_in _ (by omega)
  obtain ⟨q1, hq1⟩ : ∃ q, s1 % 6 = q := ⟨_, rfl⟩
  have d1 : (s1 : Int) % 6 = (q1 : Int) := by omega
  have r1 : q1 ≤ 5 := by omega
  have dt1 : Hid ((s1 : Int).tmod 6 = (q1 : Int)) := by
    show _ = _
    rw [Int.tmod_eq_emod_of_nonneg (by omega)]; exact d1
  have dw1 : Hid (IntKind.i64.wrap (q1 : Int) = (q1 : Int)) := IntWalk.i64_in _ (by omega)
  obtain ⟨q2, hq2⟩ : ∃ q, s2 % 6 = q := ⟨_, rfl⟩
  have d2 : (s2 : Int) % 6 = (q2 : Int) := by omega
  have r2 : q2 ≤ 5 := by omega
  have dt2 : Hid ((s2 : Int).tmod 6 = (q2 : Int)) := by
    show _ = _
    rw [Int.tmod_eq_emod_of_nonneg (by omega)]; exact d2
  have dw2 : Hid (IntKind.i64.wrap (q2 : Int) = (q2 : Int)) := IntWalk.i64_in _ (by omega)
  obtain ⟨q3, hq3⟩ : ∃ q, s3 % 6 = q := ⟨_, rfl⟩
  have d3 : (s3 : Int) % 6 = (q3 : Int) := by omega
  have r3 : q3 ≤ 5 := by omega
  have dt3 : Hid ((s3 : Int).tmod 6 = (q3 : Int)) := by
    show _ = _
    rw [Int.tmod_eq_emod_of_nonneg (by omega)]; exact d3
  have dw3 : Hid (IntKind.i64.wrap (q3 : Int) = (q3 : Int)) := IntWalk.i64_in _ (by omega)
  obtain ⟨m, hm⟩ : ∃ m, 1 + q3 = m := ⟨_, rfl⟩
  have dm : 1 + (q3 : Int) = (m : Int) := by omega
  have rm : m ≤ 6 := by omega
  have rm1 : 1 ≤ m := by omega
  obtain ⟨X, hX⟩ : ∃ M, shapeN xs q0 m = M := ⟨_, rfl⟩
  have sX : Hid (Sz q0 m X) := hX ▸ shape_sz xs q0 m h1.all
  have EX := Lib.hid hX
  obtain ⟨Y, hY⟩ : ∃ M, shapeN ys q1 m = M := ⟨_, rfl⟩
  have sY : Hid (Sz q1 m Y) := hY ▸ shape_sz ys q1 m h2.all
  have EY := Lib.hid hY
  obtain ⟨Z, hZ⟩ : ∃ M, shapeN zs q2 m = M := ⟨_, rfl⟩
  have sZ : Hid (Sz q2 m Z) := hZ ▸ shape_sz zs q2 m h3.all
  have EZ := Lib.hid hZ
  have SZ0 : Hid (Sz 0 m []) := ⟨rfl, fun r hr => by simp at hr⟩
  have f1 := con_self sX.out
  have f2 := con_nil sX.out
  have f3 := same_red sX.out sY.out
  have f4 := con_trans sX.out sY.out sZ.out
  obtain ⟨p, hp⟩ : ∃ p, conB X Y = p := ⟨_, rfl⟩
  obtain ⟨q, hq⟩ : ∃ p, conB Y X = p := ⟨_, rfl⟩
  obtain ⟨r, hr⟩ : ∃ p, conB Y Z = p := ⟨_, rfl⟩
  obtain ⟨RX, hRX⟩ : ∃ M, reduceN X = M := ⟨_, rfl⟩
  obtain ⟨RY, hRY⟩ : ∃ M, reduceN Y = M := ⟨_, rfl⟩
  have u1 := red_sz sX.out
  have u2 := rk_le sX.out
  rw [hRX] at u1
  obtain ⟨kx, hkx⟩ : ∃ p, rk X = p := ⟨_, rfl⟩
  rw [hkx] at u1 u2
  have SZ_RX := Lib.hid u1
  have t1 := u2.2
  rw [hp, hq, hRX, hRY] at f3
  rw [hp, hr] at f4
  have C0 := Lib.hid (And.intro f1 f2)
  have CP := Lib.hid hp
  have CQ := Lib.hid hq
  have CR := Lib.hid hr
  have CS := Lib.hid f3
  have CT := Lib.hid f4
  have ER := Lib.hid (And.intro hRX hRY)
  clear f1 f2 f3 f4 hp hq hr hRX hRY u1 u2 hkx
  clear h1 h2 h3 hX hY hZ hq0 hq1 hq2 hq3 hm
  go_enter Try.func5, Try.ntmps5
  go_upto_region 1 with fail
  have hbk := heap_alloc_new w (.cells #[.int .u8 (s0 : Int), .int .u8 (s1 : Int), .int .u8 (s2 : Int), .int .u8 (s3 : Int)] 46)
  have kb : Keep w (w.alloc (.cells #[.int .u8 (s0 : Int), .int .u8 (s1 : Int), .int .u8 (s2 : Int), .int .u8 (s3 : Int)] 46)) := (Keep.refl w).obj _
  obtain ⟨gs, hgs⟩ : ∃ g, w.heap.size = g := ⟨_, rfl⟩
  rw [hgs] at hbk
  simp only [hgs]
  have cs0 : (w.alloc (.cells #[.int .u8 (s0 : Int), .int .u8 (s1 : Int), .int .u8 (s2 : Int), .int .u8 (s3 : Int)] 46)).cell? ⟨gs, 0, none⟩ = some (.int .u8 (s0 : Int)) := by simp [World.cell?, hbk]
  have cs1 : (w.alloc (.cells #[.int .u8 (s0 : Int), .int .u8 (s1 : Int), .int .u8 (s2 : Int), .int .u8 (s3 : Int)] 46)).cell? ⟨gs, 1, none⟩ = some (.int .u8 (s1 : Int)) := by simp [World.cell?, hbk]
  have cs2 : (w.alloc (.cells #[.int .u8 (s0 : Int), .int .u8 (s1 : Int), .int .u8 (s2 : Int), .int .u8 (s3 : Int)] 46)).cell? ⟨gs, 2, none⟩ = some (.int .u8 (s2 : Int)) := by simp [World.cell?, hbk]
  have cs3 : (w.alloc (.cells #[.int .u8 (s0 : Int), .int .u8 (s1 : Int), .int .u8 (s2 : Int), .int .u8 (s3 : Int)] 46)).cell? ⟨gs, 3, none⟩ = some (.int .u8 (s3 : Int)) := by simp [World.cell?, hbk]
  have hgl : gs < (w.alloc (.cells #[.int .u8 (s0 : Int), .int .u8 (s1 : Int), .int .u8 (s2 : Int), .int .u8 (s3 : Int)] 46)).heap.size := by rw [size_obj, hgs]; omega
  clear hbk hgs
  have KB := Lib.hid kb
  generalize w.alloc (.cells #[.int .u8 (s0 : Int), .int .u8 (s1 : Int), .int .u8 (s2 : Int), .int .u8 (s3 : Int)] 46) = wb at *
  clear kb
  go_wp2_with fail
  refine wp_region_noPanic ?_
  refine wp_region_held_drew (S := fun wz => Keep wb wz) (by kernel_rfl) (Keep.drew (Keep.refl wb)) (fun hHeld => ?_)
  refine wpAnyH_take (i := 0) (v := ?_) rfl (by kernel_rfl) (by kernel_rfl) (by kernel_rfl) (fun _ _ _ h => h) (Or.inl ⟨by rfl, ?_⟩) hHeld ?_
  rotate_left
  · intro wq hSw
    go_simp
    all_goals with_reducible rfl
  try simp only [Act.put, List.getElem_toArray, List.getElem_cons_succ, List.getElem_cons_zero, List.setIfInBounds_toArray, List.set_cons_zero, List.set_cons_succ]
  refine wpAnyH_take (i := 1) (v := ?_) rfl (by kernel_rfl) (by kernel_rfl) (by kernel_rfl) (fun _ _ _ h => h) (Or.inl ⟨by rfl, ?_⟩) hHeld ?_
  rotate_left
  · intro wq hSw
    go_simp
    all_goals with_reducible rfl
  try simp only [Act.put, List.getElem_toArray, List.getElem_cons_succ, List.getElem_cons_zero, List.setIfInBounds_toArray, List.set_cons_zero, List.set_cons_succ]
  refine wpAnyH_take (i := 2) (v := ?_) rfl (by kernel_rfl) (by kernel_rfl) (by kernel_rfl) (fun _ _ _ h => h) (Or.inl ⟨by rfl, ?_⟩) hHeld ?_
  rotate_left
  · intro wq hSw
    have q0 := (hSw.cell (p := ⟨gs, 0, none⟩) hgl).trans cs0
    go_simp
    all_goals with_reducible rfl
  try simp only [Act.put, List.getElem_toArray, List.getElem_cons_succ, List.getElem_cons_zero, List.setIfInBounds_toArray, List.set_cons_zero, List.set_cons_succ]
  refine wpAnyH_take (i := 3) (v := ?_) rfl (by kernel_rfl) (by kernel_rfl) (by kernel_rfl) (fun _ _ _ h => h) (Or.inl ⟨by rfl, ?_⟩) hHeld ?_
  rotate_left
  · intro wq hSw
    have q0 := dt0.out
    go_simp
    all_goals with_reducible rfl
  try simp only [Act.put, List.getElem_toArray, List.getElem_cons_succ, List.getElem_cons_zero, List.setIfInBounds_toArray, List.set_cons_zero, List.set_cons_succ]
  refine wpAnyH_take (i := 4) (v := ?_) rfl (by kernel_rfl) (by kernel_rfl) (by kernel_rfl) (fun _ _ _ h => h) (Or.inl ⟨by rfl, ?_⟩) hHeld ?_
  rotate_left
  · intro wq hSw
    have q0 := dw0.out
    go_simp
    all_goals with_reducible rfl
  try simp only [Act.put, List.getElem_toArray, List.getElem_cons_succ, List.getElem_cons_zero, List.setIfInBounds_toArray, List.set_cons_zero, List.set_cons_succ]
  refine wpAnyH_take (i := 5) (v := ?_) rfl (by kernel_rfl) (by kernel_rfl) (by kernel_rfl) (fun _ _ _ h => h) (Or.inl ⟨by rfl, ?_⟩) hHeld ?_
  rotate_left
  · intro wq hSw
    go_simp
    all_goals with_reducible rfl
  try simp only [Act.put, List.getElem_toArray, List.getElem_cons_succ, List.getElem_cons_zero, List.setIfInBounds_toArray, List.set_cons_zero, List.set_cons_succ]
  refine wpAnyH_take (i := 7) (v := ?_) rfl (by kernel_rfl) (by kernel_rfl) (by kernel_rfl) (fun _ _ _ h => h) (Or.inl ⟨by rfl, ?_⟩) hHeld ?_
  rotate_left
  · intro wq hSw
    go_simp
    all_goals with_reducible rfl
  try simp only [Act.put, List.getElem_toArray, List.getElem_cons_succ, List.getElem_cons_zero, List.setIfInBounds_toArray, List.set_cons_zero, List.set_cons_succ]
  refine wpAnyH_take (i := 8) (v := ?_) rfl (by kernel_rfl) (by kernel_rfl) (by kernel_rfl) (fun _ _ _ h => h) (Or.inl ⟨by rfl, ?_⟩) hHeld ?_
  rotate_left
  · intro wq hSw
    go_simp
    all_goals with_reducible rfl
  try simp only [Act.put, List.getElem_toArray, List.getElem_cons_succ, List.getElem_cons_zero, List.setIfInBounds_toArray, List.set_cons_zero, List.set_cons_succ]
  refine wpAnyH_take (i := 9) (v := ?_) rfl (by kernel_rfl) (by kernel_rfl) (by kernel_rfl) (fun _ _ _ h => h) (Or.inl ⟨by rfl, ?_⟩) hHeld ?_
  rotate_left
  · intro wq hSw
    have q0 := (hSw.cell (p := ⟨gs, 1, none⟩) hgl).trans cs1
    go_simp
    all_goals with_reducible rfl
  try simp only [Act.put, List.getElem_toArray, List.getElem_cons_succ, List.getElem_cons_zero, List.setIfInBounds_toArray, List.set_cons_zero, List.set_cons_succ]
  refine wpAnyH_take (i := 10) (v := ?_) rfl (by kernel_rfl) (by kernel_rfl) (by kernel_rfl) (fun _ _ _ h => h) (Or.inl ⟨by rfl, ?_⟩) hHeld ?_
  rotate_left
  · intro wq hSw
    have q0 := dt1.out
    go_simp
    all_goals with_reducible rfl
  try simp only [Act.put, List.getElem_toArray, List.getElem_cons_succ, List.getElem_cons_zero, List.setIfInBounds_toArray, List.set_cons_zero, List.set_cons_succ]
  refine wpAnyH_take (i := 11) (v := ?_) rfl (by kernel_rfl) (by kernel_rfl) (by kernel_rfl) (fun _ _ _ h => h) (Or.inl ⟨by rfl, ?_⟩) hHeld ?_
  rotate_left
  · intro wq hSw
    have q0 := dw1.out
    go_simp
    all_goals with_reducible rfl
  try simp only [Act.put, List.getElem_toArray, List.getElem_cons_succ, List.getElem_cons_zero, List.setIfInBounds_toArray, List.set_cons_zero, List.set_cons_succ]
  refine wpAnyH_take (i := 12) (v := ?_) rfl (by kernel_rfl) (by kernel_rfl) (by kernel_rfl) (fun _ _ _ h => h) (Or.inl ⟨by rfl, ?_⟩) hHeld ?_
  rotate_left
  · intro wq hSw
    go_simp
    all_goals with_reducible rfl
  try simp only [Act.put, List.getElem_toArray, List.getElem_cons_succ, List.getElem_cons_zero, List.setIfInBounds_toArray, List.set_cons_zero, List.set_cons_succ]
  refine wpAnyH_take (i := 14) (v := ?_) rfl (by kernel_rfl) (by kernel_rfl) (by kernel_rfl) (fun _ _ _ h => h) (Or.inl ⟨by rfl, ?_⟩) hHeld ?_
  rotate_left
  · intro wq hSw
    go_simp
    all_goals with_reducible rfl
  try simp only [Act.put, List.getElem_toArray, List.getElem_cons_succ, List.getElem_cons_zero, List.setIfInBounds_toArray, List.set_cons_zero, List.set_cons_succ]
  refine wpAnyH_take (i := 15) (v := ?_) rfl (by kernel_rfl) (by kernel_rfl) (by kernel_rfl) (fun _ _ _ h => h) (Or.inl ⟨by rfl, ?_⟩) hHeld ?_
  rotate_left
  · intro wq hSw
    go_simp
    all_goals with_reducible rfl
  try simp only [Act.put, List.getElem_toArray, List.getElem_cons_succ, List.getElem_cons_zero, List.setIfInBounds_toArray, List.set_cons_zero, List.set_cons_succ]
  refine wpAnyH_take (i := 16) (v := ?_) rfl (by kernel_rfl) (by kernel_rfl) (by kernel_rfl) (fun _ _ _ h => h) (Or.inl ⟨by rfl, ?_⟩) hHeld ?_
  rotate_left
  · intro wq hSw
    have q0 := (hSw.cell (p := ⟨gs, 2, none⟩) hgl).trans cs2
    go_simp
    all_goals with_reducible rfl
  try simp only [Act.put, List.getElem_toArray, List.getElem_cons_succ, List.getElem_cons_zero, List.setIfInBounds_toArray, List.set_cons_zero, List.set_cons_succ]
  refine wpAnyH_take (i := 17) (v := ?_) rfl (by kernel_rfl) (by kernel_rfl) (by kernel_rfl) (fun _ _ _ h => h) (Or.inl ⟨by rfl, ?_⟩) hHeld ?_
  rotate_left
  · intro wq hSw
    have q0 := dt2.out
    go_simp
    all_goals with_reducible rfl
  try simp only [Act.put, List.getElem_toArray, List.getElem_cons_succ, List.getElem_cons_zero, List.setIfInBounds_toArray, List.set_cons_zero, List.set_cons_succ]
  refine wpAnyH_take (i := 18) (v := ?_) rfl (by kernel_rfl) (by kernel_rfl) (by kernel_rfl) (fun _ _ _ h => h) (Or.inl ⟨by rfl, ?_⟩) hHeld ?_
  rotate_left
  · intro wq hSw
    have q0 := dw2.out
    go_simp
    all_goals with_reducible rfl
  try simp only [Act.put, List.getElem_toArray, List.getElem_cons_succ, List.getElem_cons_zero, List.setIfInBounds_toArray, List.set_cons_zero, List.set_cons_succ]
  refine wpAnyH_take (i := 19) (v := ?_) rfl (by kernel_rfl) (by kernel_rfl) (by kernel_rfl) (fun _ _ _ h => h) (Or.inl ⟨by rfl, ?_⟩) hHeld ?_
  rotate_left
  · intro wq hSw
    go_simp
    all_goals with_reducible rfl
  try simp only [Act.put, List.getElem_toArray, List.getElem_cons_succ, List.getElem_cons_zero, List.setIfInBounds_toArray, List.set_cons_zero, List.set_cons_succ]
  refine wpAnyH_ready (rs := [6]) (by kernel_rfl) (by simp) ?_
  refine AllReadyH.cons rfl (fun K hK => ?_) AllReadyH.nil
  go_simp
  refine (shaped_mat w.heap.size n1 c1 q0 m A1 xs wb.drew (H1.out.keep (Nat.le_refl _) (KB.out.trans (Keep.drew (Keep.refl wb)))) (KB.out.trans (Keep.drew (Keep.refl wb))).size m1 (by omega) (by omega)).mono ?_
  rintro e wX ⟨AX, nX, cX, rfl, mm, kk⟩
  have mm : Mat wX ⟨AX, nX, cX, X⟩ := by rw [← EX.out]; exact mm
  have SX : Hid (St wb wX [⟨AX, nX, cX, X⟩]) := (St.start wb |>.later (Keep.drew (Keep.refl wb))).more mm kk
  clear mm kk
  refine hK.out _ _ SX.out.keep (fun hHeld => ?_)
  clear hK K
  try simp only [Act.put, List.getElem_toArray, List.getElem_cons_succ, List.getElem_cons_zero, List.setIfInBounds_toArray, List.set_cons_zero, List.set_cons_succ]
  refine wpAnyH_ready (rs := [13]) (by kernel_rfl) (by simp) ?_
  refine AllReadyH.cons rfl (fun K hK => ?_) AllReadyH.nil
  go_simp
  refine (shaped_mat w.heap.size n2 c2 q1 m A2 ys wX (H2.out.keep (Nat.le_refl _) (KB.out.trans SX.out.keep)) (KB.out.trans SX.out.keep).size m2 (by omega) (by omega)).mono ?_
  rintro e wY ⟨AY, nY, cY, rfl, mm, kk⟩
  have mm : Mat wY ⟨AY, nY, cY, Y⟩ := by rw [← EY.out]; exact mm
  have SY : Hid (St wb wY [⟨AX, nX, cX, X⟩, ⟨AY, nY, cY, Y⟩]) := SX.out.more mm kk
  clear mm kk SX
  refine hK.out _ _ SY.out.keep (fun hHeld => ?_)
  clear hK K
  try simp only [Act.put, List.getElem_toArray, List.getElem_cons_succ, List.getElem_cons_zero, List.setIfInBounds_toArray, List.set_cons_zero, List.set_cons_succ]
  refine wpAnyH_ready (rs := [20]) (by kernel_rfl) (by simp) ?_
  refine AllReadyH.cons rfl (fun K hK => ?_) AllReadyH.nil
  go_simp
  refine (shaped_mat w.heap.size n3 c3 q2 m A3 zs wY (H3.out.keep (Nat.le_refl _) (KB.out.trans SY.out.keep)) (KB.out.trans SY.out.keep).size m3 (by omega) (by omega)).mono ?_
  rintro e wZ ⟨AZ, nZ, cZ, rfl, mm, kk⟩
  have mm : Mat wZ ⟨AZ, nZ, cZ, Z⟩ := by rw [← EZ.out]; exact mm
  have SZ : Hid (St wb wZ [⟨AX, nX, cX, X⟩, ⟨AY, nY, cY, Y⟩, ⟨AZ, nZ, cZ, Z⟩]) := SY.out.more mm kk
  clear mm kk SY
  refine hK.out _ _ SZ.out.keep (fun hHeld => ?_)
  clear hK K
  try simp only [Act.put, List.getElem_toArray, List.getElem_cons_succ, List.getElem_cons_zero, List.setIfInBounds_toArray, List.set_cons_zero, List.set_cons_succ]
  refine wpAnyH_take (i := 21) (v := ?_) rfl (by kernel_rfl) (by kernel_rfl) (by kernel_rfl) (fun _ _ _ h => h) (Or.inl ⟨by rfl, ?_⟩) hHeld ?_
  rotate_left
  · intro wq hSw
    go_simp
    all_goals with_reducible rfl
  try simp only [Act.put, List.getElem_toArray, List.getElem_cons_succ, List.getElem_cons_zero, List.setIfInBounds_toArray, List.set_cons_zero, List.set_cons_succ]
  refine wpAnyH_take (i := 22) (v := ?_) rfl (by kernel_rfl) (by kernel_rfl) (by kernel_rfl) (fun _ _ _ h => h) (Or.inl ⟨by rfl, ?_⟩) hHeld ?_
  rotate_left
  · intro wq hSw
    go_simp
    all_goals with_reducible rfl
  try simp only [Act.put, List.getElem_toArray, List.getElem_cons_succ, List.getElem_cons_zero, List.setIfInBounds_toArray, List.set_cons_zero, List.set_cons_succ]
  refine wpAnyH_take (i := 23) (v := ?_) rfl (by kernel_rfl) (by kernel_rfl) (by kernel_rfl) (fun _ _ _ h => h) (Or.inl ⟨by rfl, ?_⟩) hHeld ?_
  rotate_left
  · intro wq hSw
    go_simp
    all_goals with_reducible rfl
  try simp only [Act.put, List.getElem_toArray, List.getElem_cons_succ, List.getElem_cons_zero, List.setIfInBounds_toArray, List.set_cons_zero, List.set_cons_succ]
  refine wpAnyH_done (by kernel_rfl) ?_ _
  refine NoPanic.normal ?_
  clear hHeld
  clear cs0 cs1 cs2 cs3 hgl
  go_wp2_with fail
  refine (reduce_sz0 (SZ.out.get 0 rfl) sX.out (by omega) (by omega)).mono ?_
  rw [ER.out.1]
  rintro e w1 ⟨A1, n1, c1, rfl, mm, kk⟩
  have S1 : Hid (St wb w1 [⟨AX, nX, cX, X⟩, ⟨AY, nY, cY, Y⟩, ⟨AZ, nZ, cZ, Z⟩, ⟨A1, n1, c1, RX⟩]) := SZ.out.more mm kk
  clear mm kk SZ
  go_wp2_with fail
  refine (reduce_sz0 (S1.out.get 1 rfl) sY.out (by omega) (by omega)).mono ?_
  rw [ER.out.2]
  rintro e w2 ⟨A2, n2, c2, rfl, mm, kk⟩
  have S2 : Hid (St wb w2 [⟨AX, nX, cX, X⟩, ⟨AY, nY, cY, Y⟩, ⟨AZ, nZ, cZ, Z⟩, ⟨A1, n1, c1, RX⟩, ⟨A2, n2, c2, RY⟩]) := S1.out.more mm kk
  clear mm kk S1
  go_wp2_with fail
  cases p with
  | false =>
    as_aux_lemma =>
    refine (same_szs (S2.out.get 0 rfl) (S2.out.get 1 rfl) sX.out sY.out (by omega) (by omega) (by omega)).mono ?_
    rw [CP.out, CQ.out]
    rintro e w3 ⟨rfl, kk⟩
    have S3 := Lib.hid (S2.out.later kk)
    clear kk S2
    go_wp2_with fail
    refine (contains_szm (S3.out.get 0 rfl) (S3.out.get 0 rfl) sX.out sX.out (by omega) (by omega) (by omega)).mono ?_
    rw [C0.out.1]
    rintro e w4 ⟨rfl, kk⟩
    have S4 := Lib.hid (S3.out.later kk)
    clear kk S3
    go_wp2_with fail
    refine (contains_szm (S4.out.get 0 rfl) (mat_none _) sX.out SZ0.out (by omega) (by omega) (by omega)).mono ?_
    rw [C0.out.2]
    rintro e w5 ⟨rfl, kk⟩
    have S5 := Lib.hid (S4.out.later kk)
    clear kk S4
    go_wp2_with fail
    refine (same_mat (S5.out.get 3 rfl) (S5.out.get 4 rfl) (by rw [(S5.out.get 3 rfl).cnt SZ_RX.out]; omega)).mono ?_
    rw [CS.out]
    rintro e w6 ⟨rfl, kk⟩
    have S6 := Lib.hid (S5.out.later kk)
    clear kk S5
    go_wp2_with fail
    refine (contains_szm (S6.out.get 0 rfl) (S6.out.get 1 rfl) sX.out sY.out (by omega) (by omega) (by omega)).mono ?_
    rw [CP.out]
    rintro e w7 ⟨rfl, kk⟩
    have S7 := Lib.hid (S6.out.later kk)
    clear kk S6
    go_wp2_with fail
    refine (contains_szm (S7.out.get 0 rfl) (S7.out.get 1 rfl) sX.out sY.out (by omega) (by omega) (by omega)).mono ?_
    rw [CP.out]
    rintro e w8 ⟨rfl, kk⟩
    have S8 := Lib.hid (S7.out.later kk)
    clear kk S7
    go_wp2_with fail
    refine (wakes_any _).mono ?_
    rintro e w9 ⟨rfl, kk⟩
    have S9 := Lib.hid (S8.out.later kk)
    clear kk S8
    go_wp2_with fail
    go_ret
    exact ⟨rfl, KB.out.trans S9.out.keep⟩
  | true =>
    cases q with
    | false =>
      cases r with
      | false =>
        as_aux_lemma =>
        refine (same_szs (S2.out.get 0 rfl) (S2.out.get 1 rfl) sX.out sY.out (by omega) (by omega) (by omega)).mono ?_
        rw [CP.out, CQ.out]
        rintro e w3 ⟨rfl, kk⟩
        have S3 := Lib.hid (S2.out.later kk)
        clear kk S2
        go_wp2_with fail
        refine (contains_szm (S3.out.get 0 rfl) (S3.out.get 0 rfl) sX.out sX.out (by omega) (by omega) (by omega)).mono ?_
        rw [C0.out.1]
        rintro e w10 ⟨rfl, kk⟩
        have S10 := Lib.hid (S3.out.later kk)
        clear kk S3
        go_wp2_with fail
        refine (contains_szm (S10.out.get 0 rfl) (mat_none _) sX.out SZ0.out (by omega) (by omega) (by omega)).mono ?_
        rw [C0.out.2]
        rintro e w11 ⟨rfl, kk⟩
        have S11 := Lib.hid (S10.out.later kk)
        clear kk S10
        go_wp2_with fail
        refine (same_mat (S11.out.get 3 rfl) (S11.out.get 4 rfl) (by rw [(S11.out.get 3 rfl).cnt SZ_RX.out]; omega)).mono ?_
        rw [CS.out]
        rintro e w12 ⟨rfl, kk⟩
        have S12 := Lib.hid (S11.out.later kk)
        clear kk S11
        go_wp2_with fail
        refine (contains_szm (S12.out.get 0 rfl) (S12.out.get 1 rfl) sX.out sY.out (by omega) (by omega) (by omega)).mono ?_
        rw [CP.out]
        rintro e w13 ⟨rfl, kk⟩
        have S13 := Lib.hid (S12.out.later kk)
        clear kk S12
        go_wp2_with fail
        refine (contains_szm (S13.out.get 1 rfl) (S13.out.get 0 rfl) sY.out sX.out (by omega) (by omega) (by omega)).mono ?_
        rw [CQ.out]
        rintro e w14 ⟨rfl, kk⟩
        have S14 := Lib.hid (S13.out.later kk)
        clear kk S13
        go_wp2_with fail
        refine (contains_szm (S14.out.get 0 rfl) (S14.out.get 1 rfl) sX.out sY.out (by omega) (by omega) (by omega)).mono ?_
        rw [CP.out]
        rintro e w15 ⟨rfl, kk⟩
        have S15 := Lib.hid (S14.out.later kk)
        clear kk S14
        go_wp2_with fail
        refine (contains_szm (S15.out.get 1 rfl) (S15.out.get 2 rfl) sY.out sZ.out (by omega) (by omega) (by omega)).mono ?_
        rw [CR.out]
        rintro e w16 ⟨rfl, kk⟩
        have S16 := Lib.hid (S15.out.later kk)
        clear kk S15
        go_wp2_with fail
        refine (wakes_any _).mono ?_
        rintro e w17 ⟨rfl, kk⟩
        have S17 := Lib.hid (S16.out.later kk)
        clear kk S16
        go_wp2_with fail
        go_ret
        exact ⟨rfl, KB.out.trans S17.out.keep⟩
      | true =>
        as_aux_lemma =>
        refine (same_szs (S2.out.get 0 rfl) (S2.out.get 1 rfl) sX.out sY.out (by omega) (by omega) (by omega)).mono ?_
        rw [CP.out, CQ.out]
        rintro e w3 ⟨rfl, kk⟩
        have S3 := Lib.hid (S2.out.later kk)
        clear kk S2
        go_wp2_with fail
        refine (contains_szm (S3.out.get 0 rfl) (S3.out.get 0 rfl) sX.out sX.out (by omega) (by omega) (by omega)).mono ?_
        rw [C0.out.1]
        rintro e w18 ⟨rfl, kk⟩
        have S18 := Lib.hid (S3.out.later kk)
        clear kk S3
        go_wp2_with fail
        refine (contains_szm (S18.out.get 0 rfl) (mat_none _) sX.out SZ0.out (by omega) (by omega) (by omega)).mono ?_
        rw [C0.out.2]
        rintro e w19 ⟨rfl, kk⟩
        have S19 := Lib.hid (S18.out.later kk)
        clear kk S18
        go_wp2_with fail
        refine (same_mat (S19.out.get 3 rfl) (S19.out.get 4 rfl) (by rw [(S19.out.get 3 rfl).cnt SZ_RX.out]; omega)).mono ?_
        rw [CS.out]
        rintro e w20 ⟨rfl, kk⟩
        have S20 := Lib.hid (S19.out.later kk)
        clear kk S19
        go_wp2_with fail
        refine (contains_szm (S20.out.get 0 rfl) (S20.out.get 1 rfl) sX.out sY.out (by omega) (by omega) (by omega)).mono ?_
        rw [CP.out]
        rintro e w21 ⟨rfl, kk⟩
        have S21 := Lib.hid (S20.out.later kk)
        clear kk S20
        go_wp2_with fail
        refine (contains_szm (S21.out.get 1 rfl) (S21.out.get 0 rfl) sY.out sX.out (by omega) (by omega) (by omega)).mono ?_
        rw [CQ.out]
        rintro e w22 ⟨rfl, kk⟩
        have S22 := Lib.hid (S21.out.later kk)
        clear kk S21
        go_wp2_with fail
        refine (contains_szm (S22.out.get 0 rfl) (S22.out.get 1 rfl) sX.out sY.out (by omega) (by omega) (by omega)).mono ?_
        rw [CP.out]
        rintro e w23 ⟨rfl, kk⟩
        have S23 := Lib.hid (S22.out.later kk)
        clear kk S22
        go_wp2_with fail
        refine (contains_szm (S23.out.get 1 rfl) (S23.out.get 2 rfl) sY.out sZ.out (by omega) (by omega) (by omega)).mono ?_
        rw [CR.out]
        rintro e w24 ⟨rfl, kk⟩
        have S24 := Lib.hid (S23.out.later kk)
        clear kk S23
        go_wp2_with fail
        refine (contains_szm (S24.out.get 0 rfl) (S24.out.get 2 rfl) sX.out sZ.out (by omega) (by omega) (by omega)).mono ?_
        rw [CT.out (by simp) (by simp)]
        rintro e w25 ⟨rfl, kk⟩
        have S25 := Lib.hid (S24.out.later kk)
        clear kk S24
        go_wp2_with fail
        refine (wakes_any _).mono ?_
        rintro e w26 ⟨rfl, kk⟩
        have S26 := Lib.hid (S25.out.later kk)
        clear kk S25
        go_wp2_with fail
        go_ret
        exact ⟨rfl, KB.out.trans S26.out.keep⟩
    | true =>
      cases r with
      | false =>
        as_aux_lemma =>
        refine (same_szs (S2.out.get 0 rfl) (S2.out.get 1 rfl) sX.out sY.out (by omega) (by omega) (by omega)).mono ?_
        rw [CP.out, CQ.out]
        rintro e w3 ⟨rfl, kk⟩
        have S3 := Lib.hid (S2.out.later kk)
        clear kk S2
        go_wp2_with fail
        refine (contains_szm (S3.out.get 0 rfl) (S3.out.get 0 rfl) sX.out sX.out (by omega) (by omega) (by omega)).mono ?_
        rw [C0.out.1]
        rintro e w27 ⟨rfl, kk⟩
        have S27 := Lib.hid (S3.out.later kk)
        clear kk S3
        go_wp2_with fail
        refine (contains_szm (S27.out.get 0 rfl) (mat_none _) sX.out SZ0.out (by omega) (by omega) (by omega)).mono ?_
        rw [C0.out.2]
        rintro e w28 ⟨rfl, kk⟩
        have S28 := Lib.hid (S27.out.later kk)
        clear kk S27
        go_wp2_with fail
        refine (same_mat (S28.out.get 3 rfl) (S28.out.get 4 rfl) (by rw [(S28.out.get 3 rfl).cnt SZ_RX.out]; omega)).mono ?_
        rw [CS.out]
        rintro e w29 ⟨rfl, kk⟩
        have S29 := Lib.hid (S28.out.later kk)
        clear kk S28
        go_wp2_with fail
        refine (contains_szm (S29.out.get 0 rfl) (S29.out.get 1 rfl) sX.out sY.out (by omega) (by omega) (by omega)).mono ?_
        rw [CP.out]
        rintro e w30 ⟨rfl, kk⟩
        have S30 := Lib.hid (S29.out.later kk)
        clear kk S29
        go_wp2_with fail
        refine (contains_szm (S30.out.get 1 rfl) (S30.out.get 0 rfl) sY.out sX.out (by omega) (by omega) (by omega)).mono ?_
        rw [CQ.out]
        rintro e w31 ⟨rfl, kk⟩
        have S31 := Lib.hid (S30.out.later kk)
        clear kk S30
        go_wp2_with fail
        refine (contains_szm (S31.out.get 0 rfl) (S31.out.get 1 rfl) sX.out sY.out (by omega) (by omega) (by omega)).mono ?_
        rw [CP.out]
        rintro e w32 ⟨rfl, kk⟩
        have S32 := Lib.hid (S31.out.later kk)
        clear kk S31
        go_wp2_with fail
        refine (contains_szm (S32.out.get 1 rfl) (S32.out.get 2 rfl) sY.out sZ.out (by omega) (by omega) (by omega)).mono ?_
        rw [CR.out]
        rintro e w33 ⟨rfl, kk⟩
        have S33 := Lib.hid (S32.out.later kk)
        clear kk S32
        go_wp2_with fail
        refine (wakes_any _).mono ?_
        rintro e w34 ⟨rfl, kk⟩
        have S34 := Lib.hid (S33.out.later kk)
        clear kk S33
        go_wp2_with fail
        go_ret
        exact ⟨rfl, KB.out.trans S34.out.keep⟩
      | true =>
        as_aux_lemma =>
        refine (same_szs (S2.out.get 0 rfl) (S2.out.get 1 rfl) sX.out sY.out (by omega) (by omega) (by omega)).mono ?_
        rw [CP.out, CQ.out]
        rintro e w3 ⟨rfl, kk⟩
        have S3 := Lib.hid (S2.out.later kk)
        clear kk S2
        go_wp2_with fail
        refine (contains_szm (S3.out.get 0 rfl) (S3.out.get 0 rfl) sX.out sX.out (by omega) (by omega) (by omega)).mono ?_
        rw [C0.out.1]
        rintro e w35 ⟨rfl, kk⟩
        have S35 := Lib.hid (S3.out.later kk)
        clear kk S3
        go_wp2_with fail
        refine (contains_szm (S35.out.get 0 rfl) (mat_none _) sX.out SZ0.out (by omega) (by omega) (by omega)).mono ?_
        rw [C0.out.2]
        rintro e w36 ⟨rfl, kk⟩
        have S36 := Lib.hid (S35.out.later kk)
        clear kk S35
        go_wp2_with fail
        refine (same_mat (S36.out.get 3 rfl) (S36.out.get 4 rfl) (by rw [(S36.out.get 3 rfl).cnt SZ_RX.out]; omega)).mono ?_
        rw [CS.out]
        rintro e w37 ⟨rfl, kk⟩
        have S37 := Lib.hid (S36.out.later kk)
        clear kk S36
        go_wp2_with fail
        refine (contains_szm (S37.out.get 0 rfl) (S37.out.get 1 rfl) sX.out sY.out (by omega) (by omega) (by omega)).mono ?_
        rw [CP.out]
        rintro e w38 ⟨rfl, kk⟩
        have S38 := Lib.hid (S37.out.later kk)
        clear kk S37
        go_wp2_with fail
        refine (contains_szm (S38.out.get 1 rfl) (S38.out.get 0 rfl) sY.out sX.out (by omega) (by omega) (by omega)).mono ?_
        rw [CQ.out]
        rintro e w39 ⟨rfl, kk⟩
        have S39 := Lib.hid (S38.out.later kk)
        clear kk S38
        go_wp2_with fail
        refine (contains_szm (S39.out.get 0 rfl) (S39.out.get 1 rfl) sX.out sY.out (by omega) (by omega) (by omega)).mono ?_
        rw [CP.out]
        rintro e w40 ⟨rfl, kk⟩
        have S40 := Lib.hid (S39.out.later kk)
        clear kk S39
        go_wp2_with fail
        refine (contains_szm (S40.out.get 1 rfl) (S40.out.get 2 rfl) sY.out sZ.out (by omega) (by omega) (by omega)).mono ?_
        rw [CR.out]
        rintro e w41 ⟨rfl, kk⟩
        have S41 := Lib.hid (S40.out.later kk)
        clear kk S40
        go_wp2_with fail
        refine (contains_szm (S41.out.get 0 rfl) (S41.out.get 2 rfl) sX.out sZ.out (by omega) (by omega) (by omega)).mono ?_
        rw [CT.out (by simp) (by simp)]
        rintro e w42 ⟨rfl, kk⟩
        have S42 := Lib.hid (S41.out.later kk)
        clear kk S41
        go_wp2_with fail
        refine (wakes_any _).mono ?_
        rintro e w43 ⟨rfl, kk⟩
        have S43 := Lib.hid (S42.out.later kk)
        clear kk S42
        go_wp2_with fail
        go_ret
        exact ⟨rfl, KB.out.trans S43.out.keep⟩
end Go.Proofs.Ytofhdaeeiienfaa
