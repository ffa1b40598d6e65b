/- The walk of MatrixRanks. -/
import Derived.Test.YtcmjglmagkjdoaaMlay
import Derived.Test.YtcmjglmagkjdoaaRegion
import Derived.Deep.DeepCutAuto
namespace Go.Proofs.Ytcmjglmagkjdoaa
open Go.RowKit
set_option linter.unusedVariables false
set_option linter.unusedSimpArgs false
theorem run_maxw (a b : Nat) (w : World) : (Builtin.max_ #[3, 3] 3 #[.int .i64 (a : Int), .int .i64 (b : Int)]).run Try.prog w = .ok (.int .i64 ((max a b : Nat) : Int)) w := by
  rw [run_max_int2]; congr 2; split <;> omega
set_option maxRecDepth 100000 in
set_option maxHeartbeats 8000000 in
theorem ranks_any (n1 n2 c1 c2 s0 s1 ta : Nat) (A1 A2 : Option Addr) (xs ys : List Nat) (w : World) (h1 : Bytes w w.heap.size A1 n1 xs) (h2 : Bytes w w.heap.size A2 n2 ys) (m1 : n1 ≤ 140737488355328) (m2 : n2 ≤ 140737488355328) (b0 : s0 < 256) (b1 : s1 < 256) (b2 : ta < 256) :
    Calls Try.prog 8 #[.slice A1 n1 c1, .slice A2 n2 c2, .agg #[.int .u8 (s0 : Int), .int .u8 (s1 : Int)], .int .u8 (ta : Int)] w fun e w' => e = .returned (.bool true) ∧ Keep w w' := by
  have H1 := Lib.hid h1
  have H2 := Lib.hid h2
  obtain ⟨q0, hq0⟩ : ∃ q, s0 % 6 = q := ⟨_, rfl⟩
  obtain ⟨k0, hk0⟩ : ∃ k, 1 + q0 = k := ⟨_, rfl⟩
  obtain ⟨q1, hq1⟩ : ∃ q, s1 % 6 = q := ⟨_, rfl⟩
  obtain ⟨k1, hk1⟩ : ∃ k, 1 + q1 = k := ⟨_, rfl⟩
  obtain ⟨kk, hkk⟩ : ∃ k, ta % k0 = k := ⟨_, rfl⟩
  have d1 : (s0 : Int) % 6 = (q0 : Int) := by omega
  have d2 : 1 + (q0 : Int) = (k0 : Int) := by omega
  have d3 : (s1 : Int) % 6 = (q1 : Int) := by omega
  have d4 : 1 + (q1 : Int) = (k1 : Int) := by omega
  have p0 : 1 ≤ k0 := by omega
  have r0 : k0 ≤ 6 := by omega
  have p1 : 1 ≤ k1 := by omega
  have r1 : k1 ≤ 6 := by omega
  have d5 : (ta : Int) % (k0 : Int) = (kk : Int) := by rw [← hkk]; simp
  have hkl : kk < k0 := by rw [← hkk]; exact Nat.mod_lt _ (by omega)
  have d0 : (k0 : Int) ≠ 0 := by omega
  obtain ⟨X, hX⟩ : ∃ X, shapeN xs k0 k1 = X := ⟨_, rfl⟩
  obtain ⟨Y, hY⟩ : ∃ X, shapeN ys k0 k1 = X := ⟨_, rfl⟩
  have sX : Hid (Sz k0 k1 X) := hX ▸ shape_sz xs k0 k1 h1.all
  have sY : Hid (Sz k0 k1 Y) := hY ▸ shape_sz ys k0 k1 h2.all
  have E0 := Lib.hid (And.intro hX hY)
  obtain ⟨Z, hZ⟩ : ∃ M, sumN k1 X Y k0 = M := ⟨_, rfl⟩
  have sZ : Hid (Sz k0 k1 Z) := hZ ▸ sum_sz sX.out sY.out
  obtain ⟨V, hV⟩ : ∃ M, X.take kk ++ X.drop (kk + 1) = M := ⟨_, rfl⟩
  have f1 := rk_append sX.out sY.out
  have f2 := rk_sum sX.out sY.out
  have f3 := rk_less sX.out hkl
  rw [hZ] at f2
  rw [hV] at f3
  have sV : Hid (Sz (k0 - 1) k1 V) := f3.1
  have sC : Hid (Sz (k0 + k0) k1 (X ++ Y)) := sX.out.append sY.out
  obtain ⟨p, hp⟩ : ∃ p, rk X = p := ⟨_, rfl⟩
  obtain ⟨q, hq⟩ : ∃ q, rk Y = q := ⟨_, rfl⟩
  obtain ⟨bb, hb⟩ : ∃ q, rk (X ++ Y) = q := ⟨_, rfl⟩
  obtain ⟨s, hs⟩ : ∃ q, rk Z = q := ⟨_, rfl⟩
  obtain ⟨l, hl⟩ : ∃ q, rk V = q := ⟨_, rfl⟩
  have f4 := (rk_le sX.out).1
  have f5 := (rk_le sY.out).1
  rw [hp] at f1 f2 f3 f4
  rw [hq] at f1 f2 f5
  rw [hb] at f1
  rw [hs] at f2
  rw [hl] at f3
  have E1 := Lib.hid (And.intro hp (And.intro hq (And.intro hb (And.intro hs hl))))
  have E2 := Lib.hid (And.intro hZ hV)
  have F := Lib.hid (And.intro f1 (And.intro f2 (And.intro f3.2 (And.intro f4 f5))))
  clear h1 h2 hX hY hq0 hq1 hk0 hk1 hkk hZ hV f1 f2 f3 f4 f5 hp hq hb hs hl
  go_enter Try.func8, Try.ntmps8
  go_upto_region 1 with fail
  have hbk := heap_alloc_new w (.cells #[.int .u8 (s0 : Int), .int .u8 (s1 : Int)] 51)
  have kb : Keep w (w.alloc (.cells #[.int .u8 (s0 : Int), .int .u8 (s1 : Int)] 51)) := (Keep.refl w).obj _
  obtain ⟨gs, hgs⟩ : ∃ g, w.heap.size = g := ⟨_, rfl⟩
  rw [hgs] at hbk
  simp only [hgs]
  have cs0 : (w.alloc (.cells #[.int .u8 (s0 : Int), .int .u8 (s1 : Int)] 51)).cell? ⟨gs, 0, none⟩ = some (.int .u8 (s0 : Int)) := by simp [World.cell?, hbk]
  have cs1 : (w.alloc (.cells #[.int .u8 (s0 : Int), .int .u8 (s1 : Int)] 51)).cell? ⟨gs, 1, none⟩ = some (.int .u8 (s1 : Int)) := by simp [World.cell?, hbk]
  clear hbk hgs
  have KB0 := Lib.hid kb
  generalize w.alloc (.cells #[.int .u8 (s0 : Int), .int .u8 (s1 : Int)] 51) = wb at *
  clear kb
  go_wp2_with fail
  go_quiet (fail)
  have KB := Lib.hid (KB0.out.drewN nq)
  generalize wb.drewN nq = w0 at *
  clear cs0 cs1 KB0
  go_wp2_with fail
  refine (shaped_mat _ n1 c1 k0 k1 A1 xs _ (H1.out.keep (Nat.le_refl _) KB.out) KB.out.size m1 (by omega) (by omega)).mono ?_
  rw [E0.out.1]
  rintro e w1 ⟨A3, n3, c3, rfl, mm, kk1⟩
  have S1 : Hid (Sr w0 w1 [⟨A3, n3, c3, X⟩] []) := (Sr.start w0).more mm kk1
  clear mm kk1
  go_wp2_with fail
  refine (shaped_mat _ n2 c2 k0 k1 A2 ys _ (H2.out.keep (Nat.le_refl _) (KB.out.trans S1.out.keep)) (KB.out.trans S1.out.keep).size m2 (by omega) (by omega)).mono ?_
  rw [E0.out.2]
  rintro e w2 ⟨A4, n4, c4, rfl, mm, kk1⟩
  have S2 : Hid (Sr w0 w2 [⟨A3, n3, c3, X⟩, ⟨A4, n4, c4, Y⟩] []) := S1.out.more mm kk1
  clear mm kk1 S1
  go_wp2_with fail
  go_loopw [13, 14] (fun sv iv wr => ∃ (i : Nat) (A : Option Addr) (c : Nat) (rs : List RowV), i ≤ k0 ∧ iv = .int .i64 i ∧ sv = .slice A i c ∧ Lay w2 wr A i c rs ∧ rowsXs rs = sumN k1 X Y i) (fun _ iv _ => k0 - (intOf iv).toNat)
  case atStart => exact ⟨0, none, 0, [], by omega, rfl, rfl, Lay.nothing w2, rfl⟩
  case round =>
    obtain ⟨i, A, c, rs, hi, rfl, rfl, hL, hxs⟩ := hrel
    by_cases hlt : i < k0
    · obtain ⟨b, off, Ay, cy, rfl, hb, hc, hby, hyc, _⟩ := ((S2.out.get 0 rfl).keep hL.keep).row_at sX.out hlt
      obtain ⟨b', off', Az, cz, rfl, hb', hc', hbz, hzc, _⟩ := ((S2.out.get 1 rfl).keep hL.keep).row_at sY.out hlt
      have hn3 := (S2.out.get 0 rfl).cnt sX.out
      have hn4 := (S2.out.get 1 rfl).cnt sY.out
      have e1 : (0 : Int) ≤ (i : Int) := Int.natCast_nonneg _
      have e2 : (i : Int) < (k0 : Int) := by omega
      have e3 : (i : Int) < (n3 : Int) := by omega
      have e4 : (i : Int) < (n4 : Int) := by omega
      have HL := Lib.hid hL
      have HXS := Lib.hid hxs
      have HBY := Lib.hid hby
      have HBZ := Lib.hid hbz
      clear hL hxs hby hbz hn3 hn4
      go_wp2_with fail
      refine wp_region_noPanic ?_
      refine wp_region_held_drew (S := fun wz => wz.cell? ⟨b, off + i, none⟩ = some (.slice Ay k1 cy) ∧ wz.cell? ⟨b', off' + i, none⟩ = some (.slice Az k1 cz)) (by kernel_rfl) ⟨hc, hc'⟩ (fun hHeld => ?_)
      refine wpAnyH_take (i := 0) (v := ?_) rfl (by kernel_rfl) (by kernel_rfl) (by kernel_rfl) (fun _ _ _ h => h) (Or.inl ⟨by rfl, ?_⟩) hHeld ?_
      rotate_left
      · intro wq hSw
        go_simp
        all_goals with_reducible rfl
      try simp only [Act.put, List.getElem_toArray, List.getElem_cons_succ, List.getElem_cons_zero, List.setIfInBounds_toArray, List.set_cons_zero, List.set_cons_succ]
      refine wpAnyH_take (i := 1) (v := ?_) rfl (by kernel_rfl) (by kernel_rfl) (by kernel_rfl) (fun _ _ _ h => h) (Or.inl ⟨by rfl, ?_⟩) hHeld ?_
      rotate_left
      · intro wq hSw
        go_simp
        all_goals with_reducible rfl
      try simp only [Act.put, List.getElem_toArray, List.getElem_cons_succ, List.getElem_cons_zero, List.setIfInBounds_toArray, List.set_cons_zero, List.set_cons_succ]
      refine wpAnyH_take (i := 2) (v := ?_) rfl (by kernel_rfl) (by kernel_rfl) (by kernel_rfl) (fun _ _ _ h => h) (Or.inl ⟨by rfl, ?_⟩) hHeld ?_
      rotate_left
      · intro wq hSw
        go_simp
        all_goals with_reducible rfl
      try simp only [Act.put, List.getElem_toArray, List.getElem_cons_succ, List.getElem_cons_zero, List.setIfInBounds_toArray, List.set_cons_zero, List.set_cons_succ]
      refine wpAnyH_take (i := 3) (v := ?_) rfl (by kernel_rfl) (by kernel_rfl) (by kernel_rfl) (fun _ _ _ h => h) (Or.inl ⟨by rfl, ?_⟩) hHeld ?_
      rotate_left
      · intro wq hSw
        have q0 := hSw.1
        go_simp
        all_goals with_reducible rfl
      try simp only [Act.put, List.getElem_toArray, List.getElem_cons_succ, List.getElem_cons_zero, List.setIfInBounds_toArray, List.set_cons_zero, List.set_cons_succ]
      refine wpAnyH_take (i := 4) (v := ?_) rfl (by kernel_rfl) (by kernel_rfl) (by kernel_rfl) (fun _ _ _ h => h) (Or.inl ⟨by rfl, ?_⟩) hHeld ?_
      rotate_left
      · intro wq hSw
        go_simp
        all_goals with_reducible rfl
      try simp only [Act.put, List.getElem_toArray, List.getElem_cons_succ, List.getElem_cons_zero, List.setIfInBounds_toArray, List.set_cons_zero, List.set_cons_succ]
      refine wpAnyH_take (i := 5) (v := ?_) rfl (by kernel_rfl) (by kernel_rfl) (by kernel_rfl) (fun _ _ _ h => h) (Or.inl ⟨by rfl, ?_⟩) hHeld ?_
      rotate_left
      · intro wq hSw
        go_simp
        all_goals with_reducible rfl
      try simp only [Act.put, List.getElem_toArray, List.getElem_cons_succ, List.getElem_cons_zero, List.setIfInBounds_toArray, List.set_cons_zero, List.set_cons_succ]
      refine wpAnyH_take (i := 6) (v := ?_) rfl (by kernel_rfl) (by kernel_rfl) (by kernel_rfl) (fun _ _ _ h => h) (Or.inl ⟨by rfl, ?_⟩) hHeld ?_
      rotate_left
      · intro wq hSw
        go_simp
        all_goals with_reducible rfl
      try simp only [Act.put, List.getElem_toArray, List.getElem_cons_succ, List.getElem_cons_zero, List.setIfInBounds_toArray, List.set_cons_zero, List.set_cons_succ]
      refine wpAnyH_take (i := 7) (v := ?_) rfl (by kernel_rfl) (by kernel_rfl) (by kernel_rfl) (fun _ _ _ h => h) (Or.inl ⟨by rfl, ?_⟩) hHeld ?_
      rotate_left
      · intro wq hSw
        have q0 := hSw.2
        go_simp
        all_goals with_reducible rfl
      try simp only [Act.put, List.getElem_toArray, List.getElem_cons_succ, List.getElem_cons_zero, List.setIfInBounds_toArray, List.set_cons_zero, List.set_cons_succ]
      refine wpAnyH_ready (rs := [8]) (by kernel_rfl) (by simp) ?_
      refine AllReadyH.cons rfl (fun K hK => ?_) AllReadyH.nil
      go_simp
      refine (vadd_any _ _ k1 _ _ _ _ _ _ wr.drew (HBY.out.keep (Nat.le_refl _) (Keep.drew (Keep.refl _))) (HBZ.out.keep (Nat.le_refl _) (Keep.drew (Keep.refl _))) (Nat.le_refl _) (Nat.le_refl _) (by omega)).mono ?_
      rintro e w7 ⟨A7, n7, c7, rfl, oo, k7⟩
      obtain rfl : k1 = n7 := by rw [← oo.length, vAdd, tab_length]
      have kk7 : Keep wr w7 := (Keep.drew (Keep.refl wr)).trans k7
      have L7 := Lib.hid (HL.out.later kk7)
      have O7 := Lib.hid oo
      have e5 := (kk7.cell (p := ⟨b, off + i, none⟩) hb).trans hc
      have e6 := (kk7.cell (p := ⟨b', off' + i, none⟩) hb').trans hc'
      clear oo k7 kk7
      refine hK.out _ _ ⟨e5, e6⟩ (fun hHeld => ?_)
      clear hK K
      try simp only [Act.put, List.getElem_toArray, List.getElem_cons_succ, List.getElem_cons_zero, List.setIfInBounds_toArray, List.set_cons_zero, List.set_cons_succ]
      refine wpAnyH_take (i := 9) (v := ?_) rfl (by kernel_rfl) (by kernel_rfl) (by kernel_rfl) (fun _ _ _ h => h) (Or.inl ⟨by rfl, ?_⟩) hHeld ?_
      rotate_left
      · intro wq hSw
        go_simp
        all_goals with_reducible rfl
      try simp only [Act.put, List.getElem_toArray, List.getElem_cons_succ, List.getElem_cons_zero, List.setIfInBounds_toArray, List.set_cons_zero, List.set_cons_succ]
      refine wpAnyH_take (i := 10) (v := ?_) rfl (by kernel_rfl) (by kernel_rfl) (by kernel_rfl) (fun _ _ _ h => h) (Or.inl ⟨by rfl, ?_⟩) hHeld ?_
      rotate_left
      · intro wq hSw
        go_simp
        all_goals with_reducible rfl
      try simp only [Act.put, List.getElem_toArray, List.getElem_cons_succ, List.getElem_cons_zero, List.setIfInBounds_toArray, List.set_cons_zero, List.set_cons_succ]
      refine wpAnyH_take (i := 11) (v := ?_) rfl (by kernel_rfl) (by kernel_rfl) (by kernel_rfl) (fun _ _ _ h => h) (Or.inl ⟨by rfl, ?_⟩) hHeld ?_
      rotate_left
      · intro wq hSw
        go_simp
        all_goals with_reducible rfl
      try simp only [Act.put, List.getElem_toArray, List.getElem_cons_succ, List.getElem_cons_zero, List.setIfInBounds_toArray, List.set_cons_zero, List.set_cons_succ]
      refine wpAnyH_take (i := 12) (v := ?_) rfl (by kernel_rfl) (by kernel_rfl) (by kernel_rfl) (fun _ _ _ h => h) (Or.inl ⟨by rfl, ?_⟩) hHeld ?_
      rotate_left
      · intro wq hSw
        go_simp
        all_goals with_reducible rfl
      try simp only [Act.put, List.getElem_toArray, List.getElem_cons_succ, List.getElem_cons_zero, List.setIfInBounds_toArray, List.set_cons_zero, List.set_cons_succ]
      refine wpAnyH_take (i := 13) (v := ?_) rfl (by kernel_rfl) (by kernel_rfl) (by kernel_rfl) (fun _ _ _ h => h) (Or.inl ⟨by rfl, ?_⟩) hHeld ?_
      rotate_left
      · intro wq hSw
        go_simp
        all_goals with_reducible rfl
      try simp only [Act.put, List.getElem_toArray, List.getElem_cons_succ, List.getElem_cons_zero, List.setIfInBounds_toArray, List.set_cons_zero, List.set_cons_succ]
      refine wpAnyH_done (by kernel_rfl) ?_ _
      refine NoPanic.normal ?_
      clear hHeld
      clear e5 e6 HL
      go_wp2_with (at_builtin; refine wpList_append_layrow rfl _ _ 22 rfl ⟨A7, k1, c7, vAdd k1 (X.getD i []) (Y.getD i [])⟩ 26 Try.underlying22 rfl L7.out (L7.out.own O7.out) rfl (by omega) ?_)
      intro A8 c8 w8 h8
      have H8 := Lib.hid h8
      clear h8
      go_wp2_with fail
      go_roundw
      case rel => exact ⟨i + 1, A8, c8, _, by omega, by go_num, rfl, H8.out, by rw [sumN_succ, ← HXS.out]; simp [rowsXs]⟩
      case measure => simp [intOf]; omega
    · obtain rfl : i = k0 := by omega
      have hm := hL.mat
      rw [hxs, E2.out.1] at hm
      have S3 : Hid (Sr w0 wr [⟨A3, n3, c3, X⟩, ⟨A4, n4, c4, Y⟩, ⟨A, i, c, Z⟩] []) := (S2.out.later hL.keep).more hm (Keep.refl _)
      clear hL hxs hm S2
      go_wp2_with fail
      refine (rank_szm (S3.out.get 0 rfl) sX.out p0 (by omega) (by omega)).mono ?_
      rw [E1.out.1]
      rintro e w4 ⟨rfl, kk4⟩
      have S4 := Lib.hid (S3.out.later kk4)
      clear kk4 S3
      go_wp2_with fail
      refine (rank_szm (S4.out.get 1 rfl) sY.out p0 (by omega) (by omega)).mono ?_
      rw [E1.out.2.1]
      rintro e w5 ⟨rfl, kk5⟩
      have S5 := Lib.hid (S4.out.later kk5)
      have N3 := Lib.hid (And.intro ((S5.out.get 0 rfl).cnt sX.out) ((S5.out.get 1 rfl).cnt sY.out))
      clear kk5 S4
      go_wp2_with (at_builtin; refine wpList_append_lay rfl _ _ 22 rfl Try.underlying22 rfl (Lay.nothing w5) rfl (S5.out.get 0 rfl) n3 (Nat.zero_add n3) (by have := N3.out; omega) ?_)
      intro A6 c6 w6 rs6 h6 x6
      have H6 := Lib.hid h6
      have X6 := Lib.hid x6
      clear h6 x6
      go_wp2_with (at_builtin; refine wpList_append_lay rfl _ _ 22 rfl Try.underlying22 rfl H6.out rfl (S5.out.get 1 rfl) (n3 + n4) rfl (by have := N3.out; omega) ?_)
      intro A7 c7 w7 rs7 h7 x7
      have hm7 := h7.mat
      rw [x7, X6.out] at hm7
      have S7 : Hid (Sr w0 w7 [⟨A3, n3, c3, X⟩, ⟨A4, n4, c4, Y⟩, ⟨A, i, c, Z⟩, ⟨A7, n3 + n4, c7, X ++ Y⟩] []) := (S5.out.later h7.keep).more hm7 (Keep.refl _)
      clear h7 x7 H6 X6 S5 hm7
      go_wp2_with fail
      refine (rank_szm (S7.out.get 3 rfl) sC.out (by omega) (by omega) (by omega)).mono ?_
      rw [E1.out.2.2.1]
      rintro e w8 ⟨rfl, kk8⟩
      have S8 := Lib.hid (S7.out.later kk8)
      clear kk8 S7
      go_wp2_with fail
      refine (rank_szm (S8.out.get 2 rfl) sZ.out p0 (by omega) (by omega)).mono ?_
      rw [E1.out.2.2.2.1]
      rintro e w9 ⟨rfl, kk9⟩
      have S9 := Lib.hid (S8.out.later kk9)
      clear kk9 S8
      have HM3 := (S9.out.get 0 rfl)
      obtain ⟨kj, hkj⟩ : ∃ k, kk + 1 = k := ⟨_, rfl⟩
      have HD3 := HM3.drop (k := kj)
      have HT3 := HM3.take (k := kk) (by have := N3.out.1; omega)
      have hcc : n3 ≤ c3 := by obtain ⟨_, _, _, e⟩ := HM3; exact e
      have hn3 := N3.out.1
      have g1 : (0 : Int) ≤ (kk : Int) := Int.natCast_nonneg _
      have g2 : (kk : Int) ≤ (c3 : Int) := by omega
      have g3 : (kk : Int) + 1 = (kj : Int) := by omega
      have g4 : IntKind.i64.wrap (kj : Int) = (kj : Int) := IntWalk.i64_in _ (by omega)
      have g5 : (0 : Int) ≤ (kj : Int) := Int.natCast_nonneg _
      have g6 : (kj : Int) ≤ (n3 : Int) := by omega
      have hdrop : ∀ w, (Instr.slice 22 (.slice A3 n3 c3) (some (.int .i64 (kj : Int))) none none).run Try.prog w = .ok (.slice (dropA A3 c3 kj) (n3 - kj) (c3 - kj)) w := fun w => run_drop (t := 22) (by kernel_rfl) infoRow n3 c3 kj _ (by omega) w
      have HDT := Lib.hid (And.intro HD3 (And.intro HT3 (And.intro hcc hn3)))
      have HKJ := Lib.hid hkj
      clear HM3 HD3 HT3 hcc hn3 hkj
      go_wp2_with fail
      refine wp_region_noPanic ?_
      refine wp_region_held_drew (S := fun wz => True) (by kernel_rfl) trivial (fun hHeld => ?_)
      refine wpAnyH_take (i := 0) (v := ?_) rfl (by kernel_rfl) (by kernel_rfl) (by kernel_rfl) (fun _ _ _ h => h) (Or.inl ⟨by rfl, ?_⟩) hHeld ?_
      rotate_left
      · intro wq hSw
        go_simp
        all_goals with_reducible rfl
      try simp only [Act.put, List.getElem_toArray, List.getElem_cons_succ, List.getElem_cons_zero, List.setIfInBounds_toArray, List.set_cons_zero, List.set_cons_succ]
      refine wpAnyH_take (i := 1) (v := ?_) rfl (by kernel_rfl) (by kernel_rfl) (by kernel_rfl) (fun _ _ _ h => h) (Or.inl ⟨by rfl, ?_⟩) hHeld ?_
      rotate_left
      · intro wq hSw
        go_simp
        all_goals with_reducible rfl
      try simp only [Act.put, List.getElem_toArray, List.getElem_cons_succ, List.getElem_cons_zero, List.setIfInBounds_toArray, List.set_cons_zero, List.set_cons_succ]
      refine wpAnyH_take (i := 2) (v := ?_) rfl (by kernel_rfl) (by kernel_rfl) (by kernel_rfl) (fun _ _ _ h => h) (Or.inl ⟨by rfl, ?_⟩) hHeld ?_
      rotate_left
      · intro wq hSw
        go_simp
        all_goals with_reducible rfl
      try simp only [Act.put, List.getElem_toArray, List.getElem_cons_succ, List.getElem_cons_zero, List.setIfInBounds_toArray, List.set_cons_zero, List.set_cons_succ]
      refine wpAnyH_take (i := 4) (v := ?_) rfl (by kernel_rfl) (by kernel_rfl) (by kernel_rfl) (fun _ _ _ h => h) (Or.inl ⟨by rfl, ?_⟩) hHeld ?_
      rotate_left
      · intro wq hSw
        go_simp
        all_goals with_reducible rfl
      try simp only [Act.put, List.getElem_toArray, List.getElem_cons_succ, List.getElem_cons_zero, List.setIfInBounds_toArray, List.set_cons_zero, List.set_cons_succ]
      refine wpAnyH_take (i := 5) (v := ?_) rfl (by kernel_rfl) (by kernel_rfl) (by kernel_rfl) (fun _ _ _ h => h) (Or.inl ⟨by rfl, ?_⟩) hHeld ?_
      rotate_left
      · intro wq hSw
        go_simp
        all_goals with_reducible rfl
      try simp only [Act.put, List.getElem_toArray, List.getElem_cons_succ, List.getElem_cons_zero, List.setIfInBounds_toArray, List.set_cons_zero, List.set_cons_succ]
      refine wpAnyH_take (i := 6) (v := ?_) rfl (by kernel_rfl) (by kernel_rfl) (by kernel_rfl) (fun _ _ _ h => h) (Or.inl ⟨by rfl, ?_⟩) hHeld ?_
      rotate_left
      · intro wq hSw
        go_simp
        all_goals with_reducible rfl
      try simp only [Act.put, List.getElem_toArray, List.getElem_cons_succ, List.getElem_cons_zero, List.setIfInBounds_toArray, List.set_cons_zero, List.set_cons_succ]
      refine wpAnyH_take (i := 7) (v := ?_) rfl (by kernel_rfl) (by kernel_rfl) (by kernel_rfl) (fun _ _ _ h => h) (Or.inl ⟨by rfl, ?_⟩) hHeld ?_
      rotate_left
      · intro wq hSw
        go_simp
        all_goals with_reducible rfl
      try simp only [Act.put, List.getElem_toArray, List.getElem_cons_succ, List.getElem_cons_zero, List.setIfInBounds_toArray, List.set_cons_zero, List.set_cons_succ]
      refine wpAnyH_ready (rs := [3]) (by kernel_rfl) (by simp) ?_
      refine AllReadyH.cons rfl (fun K hK => ?_) AllReadyH.nil
      refine wp_append_lay (W := w9.drew) _ _ 22 rfl Try.underlying22 rfl (Lay.nothing w9.drew) rfl (HDT.out.2.1.keep (Keep.drew (Keep.refl _))) kk (Nat.zero_add kk) (by omega) ?_
      intro A6 c6 w6 rs6 h6 x6
      have H6 := Lib.hid h6
      have X6 := Lib.hid x6
      clear h6 x6
      refine hK.out _ _ trivial (fun hHeld => ?_)
      clear hK K
      try simp only [Act.put, List.getElem_toArray, List.getElem_cons_succ, List.getElem_cons_zero, List.setIfInBounds_toArray, List.set_cons_zero, List.set_cons_succ]
      refine wpAnyH_ready (rs := [8]) (by kernel_rfl) (by simp) ?_
      refine AllReadyH.cons rfl (fun K hK => ?_) AllReadyH.nil
      refine wp_append_lay (W := w9.drew) _ _ 22 rfl Try.underlying22 rfl H6.out rfl (HDT.out.1.keep (Keep.drew (Keep.refl _))) (kk + (n3 - kj)) rfl (by have := N3.out; omega) ?_
      intro A7 c7 w7 rs7 h7 x7
      have hm7 := h7.mat
      rw [x7, X6.out] at hm7
      have hm7 : Mat w7 ⟨A7, kk + (n3 - kj), c7, V⟩ := by rw [← E2.out.2, HKJ.out]; exact hm7
      have HM7 := Lib.hid hm7
      have SA := Lib.hid (S9.out.later ((Keep.drew (Keep.refl _)).trans h7.keep))
      clear h7 x7 hm7
      refine hK.out _ _ trivial (fun hHeld => ?_)
      clear hK K
      try simp only [Act.put, List.getElem_toArray, List.getElem_cons_succ, List.getElem_cons_zero, List.setIfInBounds_toArray, List.set_cons_zero, List.set_cons_succ]
      refine wpAnyH_ready (rs := [9]) (by kernel_rfl) (by simp) ?_
      refine AllReadyH.cons rfl (fun K hK => ?_) AllReadyH.nil
      go_simp
      refine (rank_sz0 HM7.out sV.out (by omega) (by omega)).mono ?_
      rintro e wB ⟨rfl, kkB⟩
      rw [E1.out.2.2.2.2]
      have SB := Lib.hid (SA.out.later kkB)
      clear kkB SA HM7 H6 X6
      refine hK.out _ _ trivial (fun hHeld => ?_)
      clear hK K
      try simp only [Act.put, List.getElem_toArray, List.getElem_cons_succ, List.getElem_cons_zero, List.setIfInBounds_toArray, List.set_cons_zero, List.set_cons_succ]
      refine wpAnyH_take (i := 10) (v := ?_) rfl (by kernel_rfl) (by kernel_rfl) (by kernel_rfl) (fun _ _ _ h => h) (Or.inl ⟨by rfl, ?_⟩) hHeld ?_
      rotate_left
      · intro wq hSw
        go_simp
        all_goals with_reducible rfl
      try simp only [Act.put, List.getElem_toArray, List.getElem_cons_succ, List.getElem_cons_zero, List.setIfInBounds_toArray, List.set_cons_zero, List.set_cons_succ]
      refine wpAnyH_take (i := 11) (v := ?_) rfl (by kernel_rfl) (by kernel_rfl) (by kernel_rfl) (fun _ _ _ h => h) (Or.inl ⟨by rfl, ?_⟩) hHeld ?_
      rotate_left
      · intro wq hSw
        go_simp
        all_goals with_reducible rfl
      try simp only [Act.put, List.getElem_toArray, List.getElem_cons_succ, List.getElem_cons_zero, List.setIfInBounds_toArray, List.set_cons_zero, List.set_cons_succ]
      refine wpAnyH_take (i := 12) (v := ?_) rfl (by kernel_rfl) (by kernel_rfl) (by kernel_rfl) (fun _ _ _ h => h) (Or.inl ⟨by rfl, ?_⟩) hHeld ?_
      rotate_left
      · intro wq hSw
        go_simp
        all_goals with_reducible rfl
      try simp only [Act.put, List.getElem_toArray, List.getElem_cons_succ, List.getElem_cons_zero, List.setIfInBounds_toArray, List.set_cons_zero, List.set_cons_succ]
      refine wpAnyH_take (i := 13) (v := ?_) rfl (by kernel_rfl) (by kernel_rfl) (by kernel_rfl) (fun _ _ _ h => h) (Or.inl ⟨by rfl, ?_⟩) hHeld ?_
      rotate_left
      · intro wq hSw
        go_simp
        all_goals with_reducible rfl
      try simp only [Act.put, List.getElem_toArray, List.getElem_cons_succ, List.getElem_cons_zero, List.setIfInBounds_toArray, List.set_cons_zero, List.set_cons_succ]
      refine wpAnyH_take (i := 14) (v := ?_) rfl (by kernel_rfl) (by kernel_rfl) (by kernel_rfl) (fun _ _ _ h => h) (Or.inl ⟨by rfl, ?_⟩) hHeld ?_
      rotate_left
      · intro wq hSw
        go_simp
        all_goals with_reducible rfl
      try simp only [Act.put, List.getElem_toArray, List.getElem_cons_succ, List.getElem_cons_zero, List.setIfInBounds_toArray, List.set_cons_zero, List.set_cons_succ]
      refine wpAnyH_done (by kernel_rfl) ?_ _
      refine NoPanic.normal ?_
      clear hHeld
      have z := F.out
      have mx := run_maxw p q
      have y0 : (0 : Int) ≤ (p : Int) := Int.natCast_nonneg _
      have y1 : (p : Int) ≤ 6 := by omega
      have y2 : (q : Int) ≤ 6 := by omega
      have y3 : (bb : Int) ≤ (p : Int) + (q : Int) := by omega
      have y3' : decide (bb ≤ p + q) = true := decide_eq_true (by omega)
      have y4 : ((max p q : Nat) : Int) ≤ (bb : Int) := by omega
      have y4' : decide (max p q ≤ bb) = true := decide_eq_true (by omega)
      have y5 : (s : Int) ≤ (p : Int) + (q : Int) := by omega
      have y5' : decide (s ≤ p + q) = true := decide_eq_true (by omega)
      have y6 : (l : Int) ≤ (p : Int) := by omega
      have y6' : decide (l ≤ p) = true := decide_eq_true (by omega)
      have y7 : (p : Int) - 1 ≤ (l : Int) := by omega
      clear z
      go_wp2_with fail
      refine (wakes_any _).mono ?_
      rintro e wC ⟨rfl, kkC⟩
      have SC := Lib.hid (SB.out.later kkC)
      clear kkC SB
      go_wp2_with fail
      go_ret
      exact ⟨rfl, KB.out.trans SC.out.keep⟩
end Go.Proofs.Ytcmjglmagkjdoaa
