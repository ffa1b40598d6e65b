/- PadChunks: chunks of a stream, and what is open, are the document's. -/
import Derived.Test.YtbmfjikkmkmgeaaPf1
import Derived.Deep.RegionHeld3
import Derived.Test.YtbmfjikkmkmgeaaOrd2
namespace Go.Proofs.Ytbmfjikkmkmgeaa
open Go.RowKit
set_option linter.unusedVariables false
set_option linter.unusedSimpArgs false
set_option maxRecDepth 100000 in
set_option maxHeartbeats 8000000 in
theorem padchunks_any (g0 s0 : Int) (n0 c0 n1 c1 : Nat) (A0 A1 : Option Addr) (xs : List Nat) (l : List Int) (W : World) (b0 : Bytes W W.heap.size A0 n0 xs) (b1 : IntsAt W W.heap.size A1 n1 l) (hz : ∀ z ∈ l, -9223372036854775808 ≤ z ∧ z ≤ 9223372036854775807) (l0 : n0 ≤ 140737488351232) (q0 : n0 ≤ c0) (l1 : n1 ≤ 140737488351232) (q1 : n1 ≤ c1) :
    Calls Try.prog 4 #[.int .i64 g0, .int .i64 s0, .agg #[.slice A0 n0 c0, .slice A1 n1 c1]] W fun e w' => e = .returned (.bool true) ∧ Keep W w' := by
  obtain ⟨n, hn⟩ : ∃ n, min n0 2000 = n := ⟨_, rfl⟩
  obtain ⟨k, hk⟩ : ∃ k, min n1 60 = k := ⟨_, rfl⟩
  have hmin0 := run_least n0 2000 n 2000 rfl hn
  have hmin1 := run_least n1 60 k 60 rfl hk
  have hhead0 := head_bytes n n0 c0 A0 (by omega)
  have hhead1 := head_ints k n1 c1 A1 (by omega)
  obtain ⟨g, hg⟩ : ∃ g, sizeV 255 g0 = g := ⟨_, rfl⟩
  obtain ⟨s, hs⟩ : ∃ s, sizeV 65535 s0 = s := ⟨_, rfl⟩
  have HS0 : ∀ w, Calls Try.prog 9 #[.int .i64 g0, .int .i64 s0] w fun e w' => e = .returned (.tuple #[.int .i64 g, .int .i64 s]) ∧ w = w' := fun w => by rw [← hg, ← hs]; exact sizes_any g0 s0 w
  have HSZ := Lib.hid HS0
  clear HS0
  obtain ⟨gX, hgX⟩ : ∃ gX, W.heap.size = gX := ⟨_, rfl⟩
  obtain ⟨w0, hw0⟩ : ∃ w0, W.alloc (.cells #[.slice A0 n0 c0, .slice A1 n1 c1] 45) = w0 := ⟨_, rfl⟩
  have p0 : Pair2 w0 gX (.slice A0 n0 c0) (.slice A1 n1 c1) 45 := by rw [← hw0, ← hgX]; exact Pair2.new W _ _ _
  have k0 : Keep W w0 := by rw [← hw0]; exact (Keep.refl W).ob _
  obtain ⟨w1, hw1⟩ : ∃ w1, (w0.setCell ⟨gX, 0, none⟩ (.slice A0 n c0)).drew = w1 := ⟨_, rfl⟩
  have pd : Pair2 w0.drew gX (.slice A0 n0 c0) (.slice A1 n1 c1) 45 := p0
  have p1 : Pair2 w1 gX (.slice A0 n c0) (.slice A1 n1 c1) 45 := by rw [← hw1]; exact p0.put0 (x := .slice A0 n c0)
  have k1 : Keep W w1 := by rw [← hw1]; exact (k0.setCell (by rw [hgX]; exact Nat.le_refl _) _).drew
  obtain ⟨w2, hw2⟩ : ∃ w2, (w1.setCell ⟨gX, 1, none⟩ (.slice A1 k c1)) = w2 := ⟨_, rfl⟩
  have p2 : Pair2 w2 gX (.slice A0 n c0) (.slice A1 k c1) 45 := by rw [← hw2]; exact p1.put1
  have k2 : Keep W w2 := by rw [← hw2]; exact k1.setCell (by rw [hgX]; exact Nat.le_refl _) _
  obtain ⟨M, O, er, ht, HC1, HC2⟩ := chunks_told g s n k (by omega) (by omega) A0 A1 c0 c1 (xs.take n) (l.take k) w2 ((b0.cut (m := n) (by omega)).up k2) (by omega) ((b1.head (k := k) (by omega)).upon k2) (fun z h => hz z (List.mem_of_mem_take h))
  have HC1 := Lib.hid HC1
  have HT := Lib.hid ht
  have hnn : n ≤ 2000 := by omega
  have HC2 := Lib.hid HC2
  have P2 := Lib.hid p2
  have K2 := Lib.hid k2
  have x0 := p0.cell0
  have x1 := p0.cell1
  have x0' := pd.cell0
  have x1' := pd.cell1
  have x2 := pd.free 0
  have x3 := p1.free 1
  have x4 := p1.cell1
  have y0 := p2.cell0
  have y1 := p2.cell1
  have HW1 := Lib.hid hw1
  have HW2 := Lib.hid hw2
  clear ht p0 p1 p2 pd k0 k1 k2 b0 b1 hg hs hk hn hz hw1 hw2
  go_enter Try.func4, Try.ntmps4
  go_wp2_with fail
  refine (HSZ.out _).mono ?_
  rintro e w3 ⟨rfl, rfl⟩
  go_wp2_with fail
  refine wp_region_till [15, 17] (fun wz => wz.cell? ⟨gX, 0, none⟩ = some (.slice A0 n0 c0) ∧ wz.cell? ⟨gX, 1, none⟩ = some (.slice A1 n1 c1)) (by kernel_rfl) ?_
  have hHeld : (fun wz : World => wz.cell? ⟨gX, 0, none⟩ = some (.slice A0 n0 c0) ∧ wz.cell? ⟨gX, 1, none⟩ = some (.slice A1 n1 c1)) w0.drew := ⟨x0', x1'⟩
  refine wpTill_free (i := 0) (v := ?_) rfl (by kernel_rfl) (by kernel_rfl) (by kernel_rfl) (by kernel_rfl) (fun _ _ _ h => h) (Or.inl ⟨by rfl, ?_⟩) hHeld ?_
  rotate_left
  · intro wq _
    go_simp
    all_goals with_reducible rfl
  try simp only [Act.put, List.getElem_toArray, List.getElem_cons_succ, List.getElem_cons_zero, List.setIfInBounds_toArray, List.set_cons_zero, List.set_cons_succ]
  refine wpTill_take (i := 1) (v := ?_) rfl (by kernel_rfl) (by kernel_rfl) (by kernel_rfl) (by kernel_rfl) (fun _ _ _ h => h) (Or.inl ⟨by rfl, ?_⟩) hHeld ?_
  rotate_left
  · intro wq hSw
    have q0 := hSw.1
    go_simp
    all_goals with_reducible rfl
  try simp only [Act.put, List.getElem_toArray, List.getElem_cons_succ, List.getElem_cons_zero, List.setIfInBounds_toArray, List.set_cons_zero, List.set_cons_succ]
  refine wpTill_free (i := 2) (v := ?_) rfl (by kernel_rfl) (by kernel_rfl) (by kernel_rfl) (by kernel_rfl) (fun _ _ _ h => h) (Or.inl ⟨by rfl, ?_⟩) hHeld ?_
  rotate_left
  · intro wq _
    go_simp
    all_goals with_reducible rfl
  try simp only [Act.put, List.getElem_toArray, List.getElem_cons_succ, List.getElem_cons_zero, List.setIfInBounds_toArray, List.set_cons_zero, List.set_cons_succ]
  refine wpTill_take (i := 3) (v := ?_) rfl (by kernel_rfl) (by kernel_rfl) (by kernel_rfl) (by kernel_rfl) (fun _ _ _ h => h) (Or.inl ⟨by rfl, ?_⟩) hHeld ?_
  rotate_left
  · intro wq hSw
    have q0 := hSw.1
    go_simp
    all_goals with_reducible rfl
  try simp only [Act.put, List.getElem_toArray, List.getElem_cons_succ, List.getElem_cons_zero, List.setIfInBounds_toArray, List.set_cons_zero, List.set_cons_succ]
  refine wpTill_free (i := 4) (v := ?_) rfl (by kernel_rfl) (by kernel_rfl) (by kernel_rfl) (by kernel_rfl) (fun _ _ _ h => h) (Or.inl ⟨by rfl, ?_⟩) hHeld ?_
  rotate_left
  · intro wq _
    go_simp
    all_goals with_reducible rfl
  try simp only [Act.put, List.getElem_toArray, List.getElem_cons_succ, List.getElem_cons_zero, List.setIfInBounds_toArray, List.set_cons_zero, List.set_cons_succ]
  refine wpTill_free (i := 5) (v := ?_) rfl (by kernel_rfl) (by kernel_rfl) (by kernel_rfl) (by kernel_rfl) (fun _ _ _ h => h) (Or.inl ⟨by rfl, ?_⟩) hHeld ?_
  rotate_left
  · intro wq _
    go_simp
    all_goals with_reducible rfl
  try simp only [Act.put, List.getElem_toArray, List.getElem_cons_succ, List.getElem_cons_zero, List.setIfInBounds_toArray, List.set_cons_zero, List.set_cons_succ]
  refine wpTill_free (i := 6) (v := ?_) rfl (by kernel_rfl) (by kernel_rfl) (by kernel_rfl) (by kernel_rfl) (fun _ _ _ h => h) (Or.inl ⟨by rfl, ?_⟩) hHeld ?_
  rotate_left
  · intro wq _
    go_simp
    all_goals with_reducible rfl
  try simp only [Act.put, List.getElem_toArray, List.getElem_cons_succ, List.getElem_cons_zero, List.setIfInBounds_toArray, List.set_cons_zero, List.set_cons_succ]
  refine wpTill_free (i := 7) (v := ?_) rfl (by kernel_rfl) (by kernel_rfl) (by kernel_rfl) (by kernel_rfl) (fun _ _ _ h => h) (Or.inl ⟨by rfl, ?_⟩) hHeld ?_
  rotate_left
  · intro wq _
    go_simp
    all_goals with_reducible rfl
  try simp only [Act.put, List.getElem_toArray, List.getElem_cons_succ, List.getElem_cons_zero, List.setIfInBounds_toArray, List.set_cons_zero, List.set_cons_succ]
  refine wpTill_take (i := 8) (v := ?_) rfl (by kernel_rfl) (by kernel_rfl) (by kernel_rfl) (by kernel_rfl) (fun _ _ _ h => h) (Or.inl ⟨by rfl, ?_⟩) hHeld ?_
  rotate_left
  · intro wq hSw
    have q0 := hSw.2
    go_simp
    all_goals with_reducible rfl
  try simp only [Act.put, List.getElem_toArray, List.getElem_cons_succ, List.getElem_cons_zero, List.setIfInBounds_toArray, List.set_cons_zero, List.set_cons_succ]
  refine wpTill_free (i := 9) (v := ?_) rfl (by kernel_rfl) (by kernel_rfl) (by kernel_rfl) (by kernel_rfl) (fun _ _ _ h => h) (Or.inl ⟨by rfl, ?_⟩) hHeld ?_
  rotate_left
  · intro wq _
    go_simp
    all_goals with_reducible rfl
  try simp only [Act.put, List.getElem_toArray, List.getElem_cons_succ, List.getElem_cons_zero, List.setIfInBounds_toArray, List.set_cons_zero, List.set_cons_succ]
  refine wpTill_take (i := 10) (v := ?_) rfl (by kernel_rfl) (by kernel_rfl) (by kernel_rfl) (by kernel_rfl) (fun _ _ _ h => h) (Or.inl ⟨by rfl, ?_⟩) hHeld ?_
  rotate_left
  · intro wq hSw
    have q0 := hSw.2
    go_simp
    all_goals with_reducible rfl
  try simp only [Act.put, List.getElem_toArray, List.getElem_cons_succ, List.getElem_cons_zero, List.setIfInBounds_toArray, List.set_cons_zero, List.set_cons_succ]
  refine wpTill_free (i := 11) (v := ?_) rfl (by kernel_rfl) (by kernel_rfl) (by kernel_rfl) (by kernel_rfl) (fun _ _ _ h => h) (Or.inl ⟨by rfl, ?_⟩) hHeld ?_
  rotate_left
  · intro wq _
    go_simp
    all_goals with_reducible rfl
  try simp only [Act.put, List.getElem_toArray, List.getElem_cons_succ, List.getElem_cons_zero, List.setIfInBounds_toArray, List.set_cons_zero, List.set_cons_succ]
  refine wpTill_free (i := 12) (v := ?_) rfl (by kernel_rfl) (by kernel_rfl) (by kernel_rfl) (by kernel_rfl) (fun _ _ _ h => h) (Or.inl ⟨by rfl, ?_⟩) hHeld ?_
  rotate_left
  · intro wq _
    go_simp
    all_goals with_reducible rfl
  try simp only [Act.put, List.getElem_toArray, List.getElem_cons_succ, List.getElem_cons_zero, List.setIfInBounds_toArray, List.set_cons_zero, List.set_cons_succ]
  refine wpTill_free (i := 13) (v := ?_) rfl (by kernel_rfl) (by kernel_rfl) (by kernel_rfl) (by kernel_rfl) (fun _ _ _ h => h) (Or.inl ⟨by rfl, ?_⟩) hHeld ?_
  rotate_left
  · intro wq _
    go_simp
    all_goals with_reducible rfl
  try simp only [Act.put, List.getElem_toArray, List.getElem_cons_succ, List.getElem_cons_zero, List.setIfInBounds_toArray, List.set_cons_zero, List.set_cons_succ]
  refine wpTill_free (i := 14) (v := ?_) rfl (by kernel_rfl) (by kernel_rfl) (by kernel_rfl) (by kernel_rfl) (fun _ _ _ h => h) (Or.inl ⟨by rfl, ?_⟩) hHeld ?_
  rotate_left
  · intro wq _
    go_simp
    all_goals with_reducible rfl
  try simp only [Act.put, List.getElem_toArray, List.getElem_cons_succ, List.getElem_cons_zero, List.setIfInBounds_toArray, List.set_cons_zero, List.set_cons_succ]
  refine wpTill_turn (t := 15) (by kernel_rfl) (by kernel_rfl) (by kernel_rfl) ?_
  clear hHeld
  have hHeld : (fun _ : World => True) w0.drew := trivial
  refine wpAnyH_ready (rs := [15]) (by kernel_rfl) (by simp) ?_
  refine AllReadyH.cons rfl (fun K hK => ?_) AllReadyH.nil
  go_simp
  rw [HW1.out]
  refine hK.out _ _ trivial (fun hHeld => ?_)
  clear hK K
  try simp only [Act.put, List.getElem_toArray, List.getElem_cons_succ, List.getElem_cons_zero, List.setIfInBounds_toArray, List.set_cons_zero, List.set_cons_succ]
  refine wpAnyH_take (i := 16) (v := ?_) rfl (by kernel_rfl) (by kernel_rfl) (by kernel_rfl) (fun _ _ _ h => h) (Or.inl ⟨by rfl, ?_⟩) hHeld ?_
  rotate_left
  · intro wq hSw
    go_simp
    all_goals with_reducible rfl
  try simp only [Act.put, List.getElem_toArray, List.getElem_cons_succ, List.getElem_cons_zero, List.setIfInBounds_toArray, List.set_cons_zero, List.set_cons_succ]
  refine wpAnyH_ready (rs := [17]) (by kernel_rfl) (by simp) ?_
  refine AllReadyH.cons rfl (fun K hK => ?_) AllReadyH.nil
  go_simp
  rw [HW2.out]
  refine hK.out _ _ trivial (fun hHeld => ?_)
  clear hK K
  try simp only [Act.put, List.getElem_toArray, List.getElem_cons_succ, List.getElem_cons_zero, List.setIfInBounds_toArray, List.set_cons_zero, List.set_cons_succ]
  refine wpAnyH_done (by kernel_rfl) ?_ _
  clear x0 x1 x0' x1' x2 x3 x4 hmin0 hmin1 hhead0 hhead1
  clear HW1 HW2
  go_wp2_with fail
  refine (HC1.out w2 (Keep.refl w2)).mono ?_
  rintro e w3 ⟨A3, n3, c3, A4, n4, c4, rs3, rfl, hL3, hx3, hO3, k3⟩
  have K3 := Lib.hid k3
  have R3 := Lib.hid hL3.rowsIn
  have X3 := Lib.hid hx3
  have O3 := Lib.hid (hO3.bytes (B := w3.heap.size) fun b hb => hb.2)
  have hn3 : n3 ≤ 140737488355328 := by
    have h1 := hL3.count hx3
    have h2 := HT.out.len
    omega
  have P3 := Lib.hid (P2.out.keep k3)
  have z0 := P3.out.cell0
  have z1 := P3.out.cell1
  clear hL3 hx3 hO3 k3 y0 y1
  go_wp2_with fail
  refine (HC2.out w3 K3.out).mono ?_
  rintro e w4 ⟨A5, n5, c5, A6, n6, c6, rfl, ⟨rs5, hr5, hc5, hx5⟩, o6, k4⟩
  have R5 := Lib.hid hr5
  have X5 := Lib.hid hx5
  have O6 := Lib.hid o6.bytes
  have K4 := Lib.hid k4
  clear hr5 hx5 o6 k4 z0 z1
  go_wp2_with fail
  refine (awake_any w4).mono ?_
  rintro e w5 ⟨rfl, k5⟩
  have K5 : Hid (Keep w3 w5) := K4.out.trans k5
  have hS := rsame_any n3 n5 c3 c5 A3 A5 _ _ rs3 rs5 w5 (R3.out.turned (Turned.of_keep (F := fun _ => False) K5.out) fun _ _ e => e) (R5.out.turned (Turned.of_keep (F := fun _ => False) k5) fun _ _ e => e) (fun b hb => Nat.lt_of_lt_of_le hb.2 K5.out.size) (fun b hb => Nat.lt_of_lt_of_le hb.2 k5.size) hn3
  rw [X3.out, X5.out, decide_eq_true rfl] at hS
  have HS := Lib.hid hS
  have KT := Lib.hid k5
  clear hS k5
  go_wp2_with fail
  refine HS.out.mono ?_
  rintro e w6 ⟨rfl, q6, rfl⟩
  have HE := Lib.hid (equal_any _ _ n4 n6 c4 c6 A4 A6 O O (w5.drewN q6) (O3.out.up (K5.out.drewN q6)) (O6.out.up (KT.out.drewN q6)))
  rw [decide_eq_true rfl] at HE
  have KX : Hid (Keep W (w5.drewN q6)) := (K2.out.trans (K3.out.trans K5.out)).drewN q6
  go_wp2_with fail
  refine HE.out.mono ?_
  rintro e w7 ⟨rfl, rfl⟩
  go_wp2_with fail
  go_ret
  exact ⟨rfl, KX.out⟩
end Go.Proofs.Ytbmfjikkmkmgeaa
