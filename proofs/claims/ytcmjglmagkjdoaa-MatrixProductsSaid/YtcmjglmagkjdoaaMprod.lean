/- The walk of MatrixProducts. -/
import Derived.Test.YtcmjglmagkjdoaaMsz
import Derived.Test.YtcmjglmagkjdoaaRegion
import Derived.Deep.DeepCutAuto
namespace Go.Proofs.Ytcmjglmagkjdoaa
open Go.RowKit
set_option linter.unusedVariables false
set_option linter.unusedSimpArgs false
theorem run_minw (a b : Nat) (w : World) : (Builtin.min_ #[3, 3] 3 #[.int .i64 (a : Int), .int .i64 (b : Int)]).run Try.prog w = .ok (.int .i64 ((min a b : Nat) : Int)) w := by
  rw [run_min_int2]; congr 2; split <;> omega
theorem cell_list {w : World} {g : Nat} {l : List Value} {t : TypeId} (h : w.heap[g]? = some (.cells l.toArray t (0, 0))) (i : Nat) : w.cell? ⟨g, i, none⟩ = l[i]? ∧ w.frozen? ⟨g, i, none⟩ = false := by
  constructor
  · simp [World.cell?, h]
  · simp [World.frozen?, h]
theorem set_list {w : World} {g i : Nat} {l : List Value} {t : TypeId} (h : w.heap[g]? = some (.cells l.toArray t (0, 0))) (v : Value) : (w.setCell ⟨g, i, none⟩ v).heap[g]? = some (.cells (l.set i v).toArray t (0, 0)) := by
  simp [World.setCell, Array.getElem?_modify, h]
/-- The numbers, the first j of them laid. -/
def nL (sl : List Nat) (j : Nat) : List Value := (List.range 4).map fun i => .int .i64 ((if i < j then sixN (sl.getD i 0) else 0 : Nat) : Int)
theorem nL_set (sl : List Nat) (j : Nat) (hj : j < 4) : (nL sl j).set j (.int .i64 ((sixN (sl.getD j 0) : Nat) : Int)) = nL sl (j + 1) := by
  refine List.ext_getElem (by simp [nL]) fun i h1 h2 => ?_
  simp only [nL, List.getElem_set, List.getElem_map, List.getElem_range]
  by_cases e : j = i
  · subst e; rw [if_pos rfl, if_pos (by omega)]
  · rw [if_neg e]
    by_cases h : i < j
    · rw [if_pos h, if_pos (by omega)]
    · rw [if_neg h, if_neg (by omega)]
theorem nL_at (sl : List Nat) (j i : Nat) (hi : i < 4) : (nL sl j)[i]? = some (.int .i64 ((if i < j then sixN (sl.getD i 0) else 0 : Nat) : Int)) := by
  rw [nL, List.getElem?_map, List.getElem?_range hi]; rfl
set_option maxRecDepth 100000 in
set_option maxHeartbeats 8000000 in
theorem products_any (n1 n2 n3 c1 c2 c3 s0 s1 s2 s3 : Nat) (A1 A2 A3 : Option Addr) (xs ys zs : List Nat) (w : World) (h1 : Bytes w w.heap.size A1 n1 xs) (h2 : Bytes w w.heap.size A2 n2 ys) (h3 : Bytes w w.heap.size A3 n3 zs) (m1 : n1 ≤ 140737488355328) (m2 : n2 ≤ 140737488355328) (m3 : n3 ≤ 140737488355328) (b0 : s0 < 256) (b1 : s1 < 256) (b2 : s2 < 256) (b3 : s3 < 256) :
    Calls Try.prog 4 #[.slice A1 n1 c1, .slice A2 n2 c2, .slice A3 n3 c3, .agg #[.int .u8 (s0 : Int), .int .u8 (s1 : Int), .int .u8 (s2 : Int), .int .u8 (s3 : Int)]] w fun e w' => e = .returned (.bool true) ∧ Keep w w' := by
  have H1 := Lib.hid h1
  have H2 := Lib.hid h2
  have H3 := Lib.hid h3
  obtain ⟨sl, hsl⟩ : ∃ sl, [s0, s1, s2, s3] = sl := ⟨_, rfl⟩
  have HSL := Lib.hid hsl
  have HA : Hid (AllB sl) := by show AllB _; rw [← hsl]; intro x hx; simp at hx; omega
  clear h1 h2 h3 hsl
  go_enter Try.func4, Try.ntmps4
  go_wp2_with fail
  go_loopw [10] (fun iv wr => ∃ j : Nat, j ≤ 4 ∧ iv = .int .i64 j ∧ Keep w wr ∧ wr.heap[w.heap.size]? = some (.cells (u8s sl).toArray 46 (0, 0)) ∧ wr.heap[w.heap.size + 1]? = some (.cells (nL sl j).toArray 47 (0, 0))) (fun iv _ => 4 - (intOf iv).toNat)
  case atStart =>
    refine ⟨0, by omega, rfl, ((Keep.refl w).obj _).obj _, ?_, ?_⟩
    · rw [← HSL.out]
      rw [((Keep.refl (w.alloc _)).obj _).block w.heap.size (by rw [size_obj]; omega)]
      exact heap_alloc_new w _
    · have := heap_alloc_new (w.alloc (.cells #[.int .u8 (s0 : Int), .int .u8 (s1 : Int), .int .u8 (s2 : Int), .int .u8 (s3 : Int)] 46)) (.cells (nL sl 0).toArray 47)
      rw [size_obj] at this
      exact this
  case round =>
    obtain ⟨j, hj, rfl, hk, hs, hn⟩ := hrel
    by_cases hlt : j < 4
    · obtain ⟨v, hv⟩ : ∃ v, sl.getD j 0 = v := ⟨_, rfl⟩
      have hvb : v < 256 := hv ▸ HA.out.getD j
      obtain ⟨q, hq⟩ : ∃ q, v % 6 = q := ⟨_, rfl⟩
      have hl4 : sl.length = 4 := by rw [← HSL.out]; rfl
      have cs : wr.cell? ⟨w.heap.size, j, none⟩ = some (.int .u8 (v : Int)) := by
        rw [(cell_list hs j).1, u8s_get, ← hv, List.getD_eq_getElem?_getD, List.getElem?_eq_getElem (by rw [hl4]; exact hlt)]; rfl
      have cn : wr.cell? ⟨w.heap.size + 1, j, none⟩ = some (.int .i64 0) := by
        rw [(cell_list hn j).1, nL_at sl j j hlt, if_neg (by omega)]; rfl
      have cf := (cell_list hn j).2
      have d1 : (v : Int) % 6 = (q : Int) := by omega
      obtain ⟨m, hm⟩ : ∃ m, 1 + q = m := ⟨_, rfl⟩
      have d2 : 1 + (q : Int) = (m : Int) := by omega
      have d3 : (0 : Int) ≤ (q : Int) := Int.natCast_nonneg _
      have e1 : (0 : Int) ≤ (j : Int) := Int.natCast_nonneg _
      have e2 : (j : Int) < 4 := by omega
      have HV : Hid (m = sixN (sl.getD j 0)) := by show _ = _; rw [sixN, hv, hq, hm]
      have HK := Lib.hid hk
      have HS := Lib.hid hs
      have HN := Lib.hid hn
      clear hk hs hn hv hq hm
      go_wp2_with fail
      go_roundw
      case rel =>
        refine ⟨j + 1, by omega, by go_num, HK.out.setCell (by show _ ≤ w.heap.size + 1; omega) _, ?_, ?_⟩
        · rw [Below.heap_setCell _ _ _ _ (by show w.heap.size ≠ w.heap.size + 1; omega)]; exact HS.out
        · have := set_list (i := j) HN.out (.int .i64 ((sixN (sl.getD j 0) : Nat) : Int))
          rw [nL_set sl j hlt, ← HV.out] at this
          exact this
      case measure => simp [intOf]; omega
    · obtain rfl : j = 4 := by omega
      obtain ⟨gN, hgN⟩ : ∃ gN, w.heap.size + 1 = gN := ⟨_, rfl⟩
      obtain ⟨k0, hk0⟩ : ∃ k, sixN s0 = k := ⟨_, rfl⟩
      obtain ⟨k1, hk1⟩ : ∃ k, sixN s1 = k := ⟨_, rfl⟩
      obtain ⟨k2, hk2⟩ : ∃ k, sixN s2 = k := ⟨_, rfl⟩
      obtain ⟨k3, hk3⟩ : ∃ k, sixN s3 = k := ⟨_, rfl⟩
      have hnl : nL sl 4 = [.int .i64 (k0 : Int), .int .i64 (k1 : Int), .int .i64 (k2 : Int), .int .i64 (k3 : Int)] := by rw [← HSL.out, ← hk0, ← hk1, ← hk2, ← hk3]; rfl
      rw [hgN, hnl] at hn
      obtain ⟨p0, q0⟩ := sixN_le s0
      obtain ⟨p1, q1⟩ := sixN_le s1
      obtain ⟨p2, q2⟩ := sixN_le s2
      obtain ⟨p3, q3⟩ := sixN_le s3
      rw [hk0] at p0 q0
      rw [hk1] at p1 q1
      rw [hk2] at p2 q2
      rw [hk3] at p3 q3
      have hgl : gN < wr.heap.size := (Array.getElem?_eq_some_iff.1 hn).1
      have HK := Lib.hid hk
      have HN := Lib.hid hn
      have HW : Hid (w.heap.size ≤ wr.heap.size) := hk.size
      have cell := fun (wz : World) (kz : Keep wr wz) (i : Nat) => (cell_list ((kz.block gN hgl).trans hn) i).1
      have CELL := Lib.hid cell
      have X1 := Lib.hid (H1.out.keep (Nat.le_refl _) hk)
      have X2 := Lib.hid (H2.out.keep (Nat.le_refl _) hk)
      have X3 := Lib.hid (H3.out.keep (Nat.le_refl _) hk)
      obtain ⟨X, hX⟩ : ∃ X, shapeN xs k0 k1 = X := ⟨_, rfl⟩
      obtain ⟨Y, hY⟩ : ∃ X, shapeN ys k1 k2 = X := ⟨_, rfl⟩
      obtain ⟨Z, hZ⟩ : ∃ X, shapeN zs k2 k3 = X := ⟨_, rfl⟩
      have sX : Hid (Sz k0 k1 X) := hX ▸ shape_sz xs k0 k1 H1.out.all
      have sY : Hid (Sz k1 k2 Y) := hY ▸ shape_sz ys k1 k2 H2.out.all
      have sZ : Hid (Sz k2 k3 Z) := hZ ▸ shape_sz zs k2 k3 H3.out.all
      obtain ⟨XY, hXY⟩ : ∃ M, prodN X Y k1 k2 k0 = M := ⟨_, rfl⟩
      obtain ⟨YZ, hYZ⟩ : ∃ M, prodN Y Z k2 k3 k1 = M := ⟨_, rfl⟩
      obtain ⟨L, hL⟩ : ∃ M, prodN XY Z k2 k3 k0 = M := ⟨_, rfl⟩
      have hR : prodN X YZ k1 k3 k0 = L := by rw [← hL, ← hXY, ← hYZ]; exact (prod_assoc sX.out sY.out sZ.out).symm
      have sXY : Hid (Sz k0 k2 XY) := hXY ▸ prod_sz sX.out k2 Y
      have sYZ : Hid (Sz k1 k3 YZ) := hYZ ▸ prod_sz sY.out k3 Z
      have sL : Hid (Sz k0 k3 L) := hL ▸ prod_sz sXY.out k3 Z
      obtain ⟨I, hI⟩ : ∃ M, idN k1 k1 = M := ⟨_, rfl⟩
      have sI : Hid (Sz k1 k1 I) := hI ▸ id_sz k1
      have hXI : prodN X I k1 k1 k0 = X := hI ▸ prod_id sX.out
      have hIY : prodN I Y k1 k2 k1 = Y := hI ▸ id_prod sY.out
      obtain ⟨TX, hTX⟩ : ∃ M, trN X k0 k1 = M := ⟨_, rfl⟩
      obtain ⟨TY, hTY⟩ : ∃ M, trN Y k1 k2 = M := ⟨_, rfl⟩
      obtain ⟨TP, hTP⟩ : ∃ M, trN XY k0 k2 = M := ⟨_, rfl⟩
      have sTX : Hid (Sz k1 k0 TX) := hTX ▸ tr_sz sX.out
      have sTY : Hid (Sz k2 k1 TY) := hTY ▸ tr_sz sY.out
      have sTP : Hid (Sz k2 k0 TP) := hTP ▸ tr_sz sXY.out
      have hB : prodN TY TX k1 k0 k2 = TP := by rw [← hTP, ← hXY, ← hTX, ← hTY]; exact tr_prod sX.out sY.out
      have hTT : trN TX k1 k0 = X := by rw [← hTX]; exact tr_tr sX.out
      have hr1 : rk TX = rk X := by rw [← hTX]; exact rk_tr sX.out
      have hr2 := rk_prod sX.out sY.out
      rw [hXY] at hr2
      have hr3 := rk_le sX.out
      obtain ⟨p, hp⟩ : ∃ p, rk X = p := ⟨_, rfl⟩
      obtain ⟨q, hq⟩ : ∃ q, rk Y = q := ⟨_, rfl⟩
      obtain ⟨s, hs'⟩ : ∃ s, rk XY = s := ⟨_, rfl⟩
      rw [hp] at hr1 hr2 hr3
      rw [hq, hs'] at hr2
      have z1 : decide ((s : Int) ≤ ((min p q : Nat) : Int)) = true := decide_eq_true (by omega)
      have z2 : ((p : Int) == (p : Int)) = true := beq_iff_eq.2 rfl
      have z3 : decide ((p : Int) ≤ ((min k0 k1 : Nat) : Int)) = true := decide_eq_true (by omega)
      have z4 : decide (s ≤ min p q) = true := decide_eq_true (by omega)
      have z5 : decide (p ≤ min k0 k1) = true := decide_eq_true (by omega)
      have E1 := Lib.hid (And.intro hXY (And.intro hYZ (And.intro hL hR)))
      have E2 := Lib.hid (And.intro hI (And.intro hXI hIY))
      have E3 := Lib.hid (And.intro hTX (And.intro hTY (And.intro hTP (And.intro hB hTT))))
      have E4 := Lib.hid (And.intro hp (And.intro hq (And.intro hs' hr1)))
      have E5 := Lib.hid (And.intro hX (And.intro hY hZ))
      have c0 := cell wr (Keep.refl _) 0
      have c1' := cell wr (Keep.refl _) 1
      have c2' := cell wr (Keep.refl _) 2
      have c3' := cell wr (Keep.refl _) 3
      simp only [List.getElem?_cons_zero, List.getElem?_cons_succ] at c0 c1' c2' c3'
      clear hk hn hs cell hX hY hZ hXY hYZ hL hR hI hXI hIY hTX hTY hTP hB hTT hr1 hr2 hr3 hp hq hs' hk0 hk1 hk2 hk3 hnl
      have S0 : Hid (St wr wr []) := St.start wr
      go_wp2_with fail
      refine wp_region_noPanic ?_
      refine wp_region_held_drew (S := fun wz => wz.cell? ⟨gN, 0, none⟩ = some (.int .i64 (k0 : Int)) ∧ wz.cell? ⟨gN, 1, none⟩ = some (.int .i64 (k1 : Int)) ∧ wz.cell? ⟨gN, 2, none⟩ = some (.int .i64 (k2 : Int)) ∧ wz.cell? ⟨gN, 3, none⟩ = some (.int .i64 (k3 : Int))) (by kernel_rfl) ⟨c0, c1', c2', c3'⟩ (fun hHeld => ?_)
      refine wpAnyH_take (i := 0) (v := ?_) rfl (by kernel_rfl) (by kernel_rfl) (by kernel_rfl) (fun _ _ _ h => h) (Or.inl ⟨by rfl, ?_⟩) hHeld ?_
      rotate_left
      · intro wq hSw
        go_simp
        all_goals with_reducible rfl
      try simp only [Act.put, List.getElem_toArray, List.getElem_cons_succ, List.getElem_cons_zero, List.setIfInBounds_toArray, List.set_cons_zero, List.set_cons_succ]
      refine wpAnyH_take (i := 1) (v := ?_) rfl (by kernel_rfl) (by kernel_rfl) (by kernel_rfl) (fun _ _ _ h => h) (Or.inl ⟨by rfl, ?_⟩) hHeld ?_
      rotate_left
      · intro wq hSw
        go_simp
        all_goals with_reducible rfl
      try simp only [Act.put, List.getElem_toArray, List.getElem_cons_succ, List.getElem_cons_zero, List.setIfInBounds_toArray, List.set_cons_zero, List.set_cons_succ]
      refine wpAnyH_take (i := 2) (v := ?_) rfl (by kernel_rfl) (by kernel_rfl) (by kernel_rfl) (fun _ _ _ h => h) (Or.inl ⟨by rfl, ?_⟩) hHeld ?_
      rotate_left
      · intro wq hSw
        have q0 := hSw.1
        go_simp
        all_goals with_reducible rfl
      try simp only [Act.put, List.getElem_toArray, List.getElem_cons_succ, List.getElem_cons_zero, List.setIfInBounds_toArray, List.set_cons_zero, List.set_cons_succ]
      refine wpAnyH_take (i := 3) (v := ?_) rfl (by kernel_rfl) (by kernel_rfl) (by kernel_rfl) (fun _ _ _ h => h) (Or.inl ⟨by rfl, ?_⟩) hHeld ?_
      rotate_left
      · intro wq hSw
        go_simp
        all_goals with_reducible rfl
      try simp only [Act.put, List.getElem_toArray, List.getElem_cons_succ, List.getElem_cons_zero, List.setIfInBounds_toArray, List.set_cons_zero, List.set_cons_succ]
      refine wpAnyH_take (i := 4) (v := ?_) rfl (by kernel_rfl) (by kernel_rfl) (by kernel_rfl) (fun _ _ _ h => h) (Or.inl ⟨by rfl, ?_⟩) hHeld ?_
      rotate_left
      · intro wq hSw
        have q0 := hSw.2.1
        go_simp
        all_goals with_reducible rfl
      try simp only [Act.put, List.getElem_toArray, List.getElem_cons_succ, List.getElem_cons_zero, List.setIfInBounds_toArray, List.set_cons_zero, List.set_cons_succ]
      refine wpAnyH_take (i := 6) (v := ?_) rfl (by kernel_rfl) (by kernel_rfl) (by kernel_rfl) (fun _ _ _ h => h) (Or.inl ⟨by rfl, ?_⟩) hHeld ?_
      rotate_left
      · intro wq hSw
        go_simp
        all_goals with_reducible rfl
      try simp only [Act.put, List.getElem_toArray, List.getElem_cons_succ, List.getElem_cons_zero, List.setIfInBounds_toArray, List.set_cons_zero, List.set_cons_succ]
      refine wpAnyH_take (i := 7) (v := ?_) rfl (by kernel_rfl) (by kernel_rfl) (by kernel_rfl) (fun _ _ _ h => h) (Or.inl ⟨by rfl, ?_⟩) hHeld ?_
      rotate_left
      · intro wq hSw
        go_simp
        all_goals with_reducible rfl
      try simp only [Act.put, List.getElem_toArray, List.getElem_cons_succ, List.getElem_cons_zero, List.setIfInBounds_toArray, List.set_cons_zero, List.set_cons_succ]
      refine wpAnyH_take (i := 8) (v := ?_) rfl (by kernel_rfl) (by kernel_rfl) (by kernel_rfl) (fun _ _ _ h => h) (Or.inl ⟨by rfl, ?_⟩) hHeld ?_
      rotate_left
      · intro wq hSw
        have q0 := hSw.2.1
        go_simp
        all_goals with_reducible rfl
      try simp only [Act.put, List.getElem_toArray, List.getElem_cons_succ, List.getElem_cons_zero, List.setIfInBounds_toArray, List.set_cons_zero, List.set_cons_succ]
      refine wpAnyH_take (i := 9) (v := ?_) rfl (by kernel_rfl) (by kernel_rfl) (by kernel_rfl) (fun _ _ _ h => h) (Or.inl ⟨by rfl, ?_⟩) hHeld ?_
      rotate_left
      · intro wq hSw
        go_simp
        all_goals with_reducible rfl
      try simp only [Act.put, List.getElem_toArray, List.getElem_cons_succ, List.getElem_cons_zero, List.setIfInBounds_toArray, List.set_cons_zero, List.set_cons_succ]
      refine wpAnyH_take (i := 10) (v := ?_) rfl (by kernel_rfl) (by kernel_rfl) (by kernel_rfl) (fun _ _ _ h => h) (Or.inl ⟨by rfl, ?_⟩) hHeld ?_
      rotate_left
      · intro wq hSw
        have q0 := hSw.2.2.1
        go_simp
        all_goals with_reducible rfl
      try simp only [Act.put, List.getElem_toArray, List.getElem_cons_succ, List.getElem_cons_zero, List.setIfInBounds_toArray, List.set_cons_zero, List.set_cons_succ]
      refine wpAnyH_take (i := 12) (v := ?_) rfl (by kernel_rfl) (by kernel_rfl) (by kernel_rfl) (fun _ _ _ h => h) (Or.inl ⟨by rfl, ?_⟩) hHeld ?_
      rotate_left
      · intro wq hSw
        go_simp
        all_goals with_reducible rfl
      try simp only [Act.put, List.getElem_toArray, List.getElem_cons_succ, List.getElem_cons_zero, List.setIfInBounds_toArray, List.set_cons_zero, List.set_cons_succ]
      refine wpAnyH_take (i := 13) (v := ?_) rfl (by kernel_rfl) (by kernel_rfl) (by kernel_rfl) (fun _ _ _ h => h) (Or.inl ⟨by rfl, ?_⟩) hHeld ?_
      rotate_left
      · intro wq hSw
        go_simp
        all_goals with_reducible rfl
      try simp only [Act.put, List.getElem_toArray, List.getElem_cons_succ, List.getElem_cons_zero, List.setIfInBounds_toArray, List.set_cons_zero, List.set_cons_succ]
      refine wpAnyH_take (i := 14) (v := ?_) rfl (by kernel_rfl) (by kernel_rfl) (by kernel_rfl) (fun _ _ _ h => h) (Or.inl ⟨by rfl, ?_⟩) hHeld ?_
      rotate_left
      · intro wq hSw
        have q0 := hSw.2.2.1
        go_simp
        all_goals with_reducible rfl
      try simp only [Act.put, List.getElem_toArray, List.getElem_cons_succ, List.getElem_cons_zero, List.setIfInBounds_toArray, List.set_cons_zero, List.set_cons_succ]
      refine wpAnyH_take (i := 15) (v := ?_) rfl (by kernel_rfl) (by kernel_rfl) (by kernel_rfl) (fun _ _ _ h => h) (Or.inl ⟨by rfl, ?_⟩) hHeld ?_
      rotate_left
      · intro wq hSw
        go_simp
        all_goals with_reducible rfl
      try simp only [Act.put, List.getElem_toArray, List.getElem_cons_succ, List.getElem_cons_zero, List.setIfInBounds_toArray, List.set_cons_zero, List.set_cons_succ]
      refine wpAnyH_take (i := 16) (v := ?_) rfl (by kernel_rfl) (by kernel_rfl) (by kernel_rfl) (fun _ _ _ h => h) (Or.inl ⟨by rfl, ?_⟩) hHeld ?_
      rotate_left
      · intro wq hSw
        have q0 := hSw.2.2.2
        go_simp
        all_goals with_reducible rfl
      try simp only [Act.put, List.getElem_toArray, List.getElem_cons_succ, List.getElem_cons_zero, List.setIfInBounds_toArray, List.set_cons_zero, List.set_cons_succ]
      refine wpAnyH_ready (rs := [5]) (by kernel_rfl) (by simp) ?_
      refine AllReadyH.cons rfl (fun K hK => ?_) AllReadyH.nil
      go_simp
      refine (shaped_mat _ n1 c1 k0 k1 A1 xs _ (X1.out.keep HW.out (Keep.drew (Keep.refl wr))) (Nat.le_trans HW.out (Keep.drew (Keep.refl wr)).size) m1 (by omega) (by omega)).mono ?_
      rintro e w1 ⟨A19, n19, c19, rfl, mm, kk⟩
      rw [E5.out.1] at mm
      have kw : Keep wr w1 := Keep.trans (Keep.drew (Keep.refl wr)) kk
      have S1 : Hid (St wr w1 [⟨A19, n19, c19, X⟩]) := (S0.out.later (Keep.drew (Keep.refl wr))).more mm kk
      have S1_ := CELL.out w1 kw
      clear mm kk kw
      refine hK.out _ _ ⟨S1_ 0, S1_ 1, S1_ 2, S1_ 3⟩ (fun hHeld => ?_)
      clear hK K
      try simp only [Act.put, List.getElem_toArray, List.getElem_cons_succ, List.getElem_cons_zero, List.setIfInBounds_toArray, List.set_cons_zero, List.set_cons_succ]
      refine wpAnyH_ready (rs := [11]) (by kernel_rfl) (by simp) ?_
      refine AllReadyH.cons rfl (fun K hK => ?_) AllReadyH.nil
      go_simp
      refine (shaped_mat _ n2 c2 k1 k2 A2 ys _ (X2.out.keep HW.out S1.out.keep) (Nat.le_trans HW.out S1.out.keep.size) m2 (by omega) (by omega)).mono ?_
      rintro e w2 ⟨A29, n29, c29, rfl, mm, kk⟩
      rw [E5.out.2.1] at mm
      have kw : Keep wr w2 := Keep.trans S1.out.keep kk
      have S2 : Hid (St wr w2 [⟨A19, n19, c19, X⟩, ⟨A29, n29, c29, Y⟩]) := S1.out.more mm kk
      have S2_ := CELL.out w2 kw
      clear mm kk kw
      refine hK.out _ _ ⟨S2_ 0, S2_ 1, S2_ 2, S2_ 3⟩ (fun hHeld => ?_)
      clear hK K
      try simp only [Act.put, List.getElem_toArray, List.getElem_cons_succ, List.getElem_cons_zero, List.setIfInBounds_toArray, List.set_cons_zero, List.set_cons_succ]
      refine wpAnyH_ready (rs := [17]) (by kernel_rfl) (by simp) ?_
      refine AllReadyH.cons rfl (fun K hK => ?_) AllReadyH.nil
      go_simp
      refine (shaped_mat _ n3 c3 k2 k3 A3 zs _ (X3.out.keep HW.out S2.out.keep) (Nat.le_trans HW.out S2.out.keep.size) m3 (by omega) (by omega)).mono ?_
      rintro e w3 ⟨A39, n39, c39, rfl, mm, kk⟩
      rw [E5.out.2.2] at mm
      have kw : Keep wr w3 := Keep.trans S2.out.keep kk
      have S3 : Hid (St wr w3 [⟨A19, n19, c19, X⟩, ⟨A29, n29, c29, Y⟩, ⟨A39, n39, c39, Z⟩]) := S2.out.more mm kk
      have S3_ := CELL.out w3 kw
      clear mm kk kw
      refine hK.out _ _ ⟨S3_ 0, S3_ 1, S3_ 2, S3_ 3⟩ (fun hHeld => ?_)
      clear hK K
      try simp only [Act.put, List.getElem_toArray, List.getElem_cons_succ, List.getElem_cons_zero, List.setIfInBounds_toArray, List.set_cons_zero, List.set_cons_succ]
      refine wpAnyH_take (i := 18) (v := ?_) rfl (by kernel_rfl) (by kernel_rfl) (by kernel_rfl) (fun _ _ _ h => h) (Or.inl ⟨by rfl, ?_⟩) hHeld ?_
      rotate_left
      · intro wq hSw
        go_simp
        all_goals with_reducible rfl
      try simp only [Act.put, List.getElem_toArray, List.getElem_cons_succ, List.getElem_cons_zero, List.setIfInBounds_toArray, List.set_cons_zero, List.set_cons_succ]
      refine wpAnyH_take (i := 19) (v := ?_) rfl (by kernel_rfl) (by kernel_rfl) (by kernel_rfl) (fun _ _ _ h => h) (Or.inl ⟨by rfl, ?_⟩) hHeld ?_
      rotate_left
      · intro wq hSw
        go_simp
        all_goals with_reducible rfl
      try simp only [Act.put, List.getElem_toArray, List.getElem_cons_succ, List.getElem_cons_zero, List.setIfInBounds_toArray, List.set_cons_zero, List.set_cons_succ]
      refine wpAnyH_take (i := 20) (v := ?_) rfl (by kernel_rfl) (by kernel_rfl) (by kernel_rfl) (fun _ _ _ h => h) (Or.inl ⟨by rfl, ?_⟩) hHeld ?_
      rotate_left
      · intro wq hSw
        go_simp
        all_goals with_reducible rfl
      try simp only [Act.put, List.getElem_toArray, List.getElem_cons_succ, List.getElem_cons_zero, List.setIfInBounds_toArray, List.set_cons_zero, List.set_cons_succ]
      refine wpAnyH_done (by kernel_rfl) ?_ _
      refine NoPanic.normal ?_
      clear hHeld S0 S1 S2 S1_ S2_ S3_
      go_wp2_with fail
      refine (mul_szm (S3.out.get 0 rfl) (S3.out.get 1 rfl) sX.out sY.out p0 p1 (by omega) (by omega) (by omega)).mono ?_
      rw [E1.out.1]
      rintro e w4 ⟨A4, n4, c4, rfl, mm, kk⟩
      have S4 : Hid (St wr w4 [⟨A19, n19, c19, X⟩, ⟨A29, n29, c29, Y⟩, ⟨A39, n39, c39, Z⟩, ⟨A4, n4, c4, XY⟩]) := S3.out.more mm kk
      clear mm kk S3
      go_wp2_with fail
      refine (mul_szm (S4.out.get 1 rfl) (S4.out.get 2 rfl) sY.out sZ.out p1 p2 (by omega) (by omega) (by omega)).mono ?_
      rw [E1.out.2.1]
      rintro e w5 ⟨A5, n5, c5, rfl, mm, kk⟩
      have S5 : Hid (St wr w5 [⟨A19, n19, c19, X⟩, ⟨A29, n29, c29, Y⟩, ⟨A39, n39, c39, Z⟩, ⟨A4, n4, c4, XY⟩, ⟨A5, n5, c5, YZ⟩]) := S4.out.more mm kk
      clear mm kk S4
      go_wp2_with fail
      refine (mul_szm (S5.out.get 3 rfl) (S5.out.get 2 rfl) sXY.out sZ.out p0 p2 (by omega) (by omega) (by omega)).mono ?_
      rw [E1.out.2.2.1]
      rintro e w6 ⟨A6, n6, c6, rfl, mm, kk⟩
      have S6 : Hid (St wr w6 [⟨A19, n19, c19, X⟩, ⟨A29, n29, c29, Y⟩, ⟨A39, n39, c39, Z⟩, ⟨A4, n4, c4, XY⟩, ⟨A5, n5, c5, YZ⟩, ⟨A6, n6, c6, L⟩]) := S5.out.more mm kk
      clear mm kk S5
      go_wp2_with fail
      refine (mul_szm (S6.out.get 0 rfl) (S6.out.get 4 rfl) sX.out sYZ.out p0 p1 (by omega) (by omega) (by omega)).mono ?_
      rw [E1.out.2.2.2]
      rintro e w7 ⟨A7, n7, c7, rfl, mm, kk⟩
      have S7 : Hid (St wr w7 [⟨A19, n19, c19, X⟩, ⟨A29, n29, c29, Y⟩, ⟨A39, n39, c39, Z⟩, ⟨A4, n4, c4, XY⟩, ⟨A5, n5, c5, YZ⟩, ⟨A6, n6, c6, L⟩, ⟨A7, n7, c7, L⟩]) := S6.out.more mm kk
      clear mm kk S6
      go_wp2_with fail
      refine (same_szm (S7.out.get 5 rfl) (S7.out.get 6 rfl) sL.out (by omega)).mono ?_
      rintro e w8 ⟨rfl, kk⟩
      have S8 : Hid (St wr w8 [⟨A19, n19, c19, X⟩, ⟨A29, n29, c29, Y⟩, ⟨A39, n39, c39, Z⟩, ⟨A4, n4, c4, XY⟩, ⟨A5, n5, c5, YZ⟩, ⟨A6, n6, c6, L⟩, ⟨A7, n7, c7, L⟩]) := S7.out.later kk
      clear kk S7
      have cc := CELL.out w8 S8.out.keep 1
      simp only [List.getElem?_cons_zero, List.getElem?_cons_succ] at cc
      go_wp2_with fail
      refine (ident_sz (by omega)).mono ?_
      rw [E2.out.1]
      rintro e w9 ⟨A9, n9, c9, rfl, mm, kk⟩
      have S9 : Hid (St wr w9 [⟨A19, n19, c19, X⟩, ⟨A29, n29, c29, Y⟩, ⟨A39, n39, c39, Z⟩, ⟨A4, n4, c4, XY⟩, ⟨A5, n5, c5, YZ⟩, ⟨A6, n6, c6, L⟩, ⟨A7, n7, c7, L⟩, ⟨A9, n9, c9, I⟩]) := S8.out.more mm kk
      clear mm kk S8
      go_wp2_with fail
      refine (mul_szm (S9.out.get 0 rfl) (S9.out.get 7 rfl) sX.out sI.out p0 p1 (by omega) (by omega) (by omega)).mono ?_
      rw [E2.out.2.1]
      rintro e w10 ⟨A10, n10, c10, rfl, mm, kk⟩
      have S10 : Hid (St wr w10 [⟨A19, n19, c19, X⟩, ⟨A29, n29, c29, Y⟩, ⟨A39, n39, c39, Z⟩, ⟨A4, n4, c4, XY⟩, ⟨A5, n5, c5, YZ⟩, ⟨A6, n6, c6, L⟩, ⟨A7, n7, c7, L⟩, ⟨A9, n9, c9, I⟩, ⟨A10, n10, c10, X⟩]) := S9.out.more mm kk
      clear mm kk S9
      go_wp2_with fail
      refine (mul_szm (S10.out.get 7 rfl) (S10.out.get 1 rfl) sI.out sY.out p1 p1 (by omega) (by omega) (by omega)).mono ?_
      rw [E2.out.2.2]
      rintro e w11 ⟨A11, n11, c11, rfl, mm, kk⟩
      have S11 : Hid (St wr w11 [⟨A19, n19, c19, X⟩, ⟨A29, n29, c29, Y⟩, ⟨A39, n39, c39, Z⟩, ⟨A4, n4, c4, XY⟩, ⟨A5, n5, c5, YZ⟩, ⟨A6, n6, c6, L⟩, ⟨A7, n7, c7, L⟩, ⟨A9, n9, c9, I⟩, ⟨A10, n10, c10, X⟩, ⟨A11, n11, c11, Y⟩]) := S10.out.more mm kk
      clear mm kk S10
      go_wp2_with fail
      refine (same_szm (S11.out.get 8 rfl) (S11.out.get 0 rfl) sX.out (by omega)).mono ?_
      rintro e w12 ⟨rfl, kk⟩
      have S12 : Hid (St wr w12 [⟨A19, n19, c19, X⟩, ⟨A29, n29, c29, Y⟩, ⟨A39, n39, c39, Z⟩, ⟨A4, n4, c4, XY⟩, ⟨A5, n5, c5, YZ⟩, ⟨A6, n6, c6, L⟩, ⟨A7, n7, c7, L⟩, ⟨A9, n9, c9, I⟩, ⟨A10, n10, c10, X⟩, ⟨A11, n11, c11, Y⟩]) := S11.out.later kk
      clear kk S11
      go_wp2_with fail
      refine (same_szm (S12.out.get 9 rfl) (S12.out.get 1 rfl) sY.out (by omega)).mono ?_
      rintro e w13 ⟨rfl, kk⟩
      have S13 : Hid (St wr w13 [⟨A19, n19, c19, X⟩, ⟨A29, n29, c29, Y⟩, ⟨A39, n39, c39, Z⟩, ⟨A4, n4, c4, XY⟩, ⟨A5, n5, c5, YZ⟩, ⟨A6, n6, c6, L⟩, ⟨A7, n7, c7, L⟩, ⟨A9, n9, c9, I⟩, ⟨A10, n10, c10, X⟩, ⟨A11, n11, c11, Y⟩]) := S12.out.later kk
      clear kk S12
      go_wp2_with fail
      refine (tr_szm (S13.out.get 0 rfl) sX.out p0 (by omega) (by omega)).mono ?_
      rw [E3.out.1]
      rintro e w14 ⟨A14, n14, c14, rfl, mm, kk⟩
      have S14 : Hid (St wr w14 [⟨A19, n19, c19, X⟩, ⟨A29, n29, c29, Y⟩, ⟨A39, n39, c39, Z⟩, ⟨A4, n4, c4, XY⟩, ⟨A5, n5, c5, YZ⟩, ⟨A6, n6, c6, L⟩, ⟨A7, n7, c7, L⟩, ⟨A9, n9, c9, I⟩, ⟨A10, n10, c10, X⟩, ⟨A11, n11, c11, Y⟩, ⟨A14, n14, c14, TX⟩]) := S13.out.more mm kk
      clear mm kk S13
      go_wp2_with fail
      refine (tr_szm (S14.out.get 1 rfl) sY.out p1 (by omega) (by omega)).mono ?_
      rw [E3.out.2.1]
      rintro e w15 ⟨A15, n15, c15, rfl, mm, kk⟩
      have S15 : Hid (St wr w15 [⟨A19, n19, c19, X⟩, ⟨A29, n29, c29, Y⟩, ⟨A39, n39, c39, Z⟩, ⟨A4, n4, c4, XY⟩, ⟨A5, n5, c5, YZ⟩, ⟨A6, n6, c6, L⟩, ⟨A7, n7, c7, L⟩, ⟨A9, n9, c9, I⟩, ⟨A10, n10, c10, X⟩, ⟨A11, n11, c11, Y⟩, ⟨A14, n14, c14, TX⟩, ⟨A15, n15, c15, TY⟩]) := S14.out.more mm kk
      clear mm kk S14
      go_wp2_with fail
      refine (mul_szm (S15.out.get 11 rfl) (S15.out.get 10 rfl) sTY.out sTX.out p2 p1 (by omega) (by omega) (by omega)).mono ?_
      rw [E3.out.2.2.2.1]
      rintro e w16 ⟨A16, n16, c16, rfl, mm, kk⟩
      have S16 : Hid (St wr w16 [⟨A19, n19, c19, X⟩, ⟨A29, n29, c29, Y⟩, ⟨A39, n39, c39, Z⟩, ⟨A4, n4, c4, XY⟩, ⟨A5, n5, c5, YZ⟩, ⟨A6, n6, c6, L⟩, ⟨A7, n7, c7, L⟩, ⟨A9, n9, c9, I⟩, ⟨A10, n10, c10, X⟩, ⟨A11, n11, c11, Y⟩, ⟨A14, n14, c14, TX⟩, ⟨A15, n15, c15, TY⟩, ⟨A16, n16, c16, TP⟩]) := S15.out.more mm kk
      clear mm kk S15
      go_wp2_with fail
      refine (tr_szm (S16.out.get 3 rfl) sXY.out p0 (by omega) (by omega)).mono ?_
      rw [E3.out.2.2.1]
      rintro e w17 ⟨A17, n17, c17, rfl, mm, kk⟩
      have S17 : Hid (St wr w17 [⟨A19, n19, c19, X⟩, ⟨A29, n29, c29, Y⟩, ⟨A39, n39, c39, Z⟩, ⟨A4, n4, c4, XY⟩, ⟨A5, n5, c5, YZ⟩, ⟨A6, n6, c6, L⟩, ⟨A7, n7, c7, L⟩, ⟨A9, n9, c9, I⟩, ⟨A10, n10, c10, X⟩, ⟨A11, n11, c11, Y⟩, ⟨A14, n14, c14, TX⟩, ⟨A15, n15, c15, TY⟩, ⟨A16, n16, c16, TP⟩, ⟨A17, n17, c17, TP⟩]) := S16.out.more mm kk
      clear mm kk S16
      go_wp2_with fail
      refine (tr_szm (S17.out.get 10 rfl) sTX.out p1 (by omega) (by omega)).mono ?_
      rw [E3.out.2.2.2.2]
      rintro e w18 ⟨A18, n18, c18, rfl, mm, kk⟩
      have S18 : Hid (St wr w18 [⟨A19, n19, c19, X⟩, ⟨A29, n29, c29, Y⟩, ⟨A39, n39, c39, Z⟩, ⟨A4, n4, c4, XY⟩, ⟨A5, n5, c5, YZ⟩, ⟨A6, n6, c6, L⟩, ⟨A7, n7, c7, L⟩, ⟨A9, n9, c9, I⟩, ⟨A10, n10, c10, X⟩, ⟨A11, n11, c11, Y⟩, ⟨A14, n14, c14, TX⟩, ⟨A15, n15, c15, TY⟩, ⟨A16, n16, c16, TP⟩, ⟨A17, n17, c17, TP⟩, ⟨A18, n18, c18, X⟩]) := S17.out.more mm kk
      clear mm kk S17
      go_wp2_with fail
      refine (same_szm (S18.out.get 12 rfl) (S18.out.get 13 rfl) sTP.out (by omega)).mono ?_
      rintro e w19 ⟨rfl, kk⟩
      have S19 : Hid (St wr w19 [⟨A19, n19, c19, X⟩, ⟨A29, n29, c29, Y⟩, ⟨A39, n39, c39, Z⟩, ⟨A4, n4, c4, XY⟩, ⟨A5, n5, c5, YZ⟩, ⟨A6, n6, c6, L⟩, ⟨A7, n7, c7, L⟩, ⟨A9, n9, c9, I⟩, ⟨A10, n10, c10, X⟩, ⟨A11, n11, c11, Y⟩, ⟨A14, n14, c14, TX⟩, ⟨A15, n15, c15, TY⟩, ⟨A16, n16, c16, TP⟩, ⟨A17, n17, c17, TP⟩, ⟨A18, n18, c18, X⟩]) := S18.out.later kk
      clear kk S18
      go_wp2_with fail
      refine (same_szm (S19.out.get 14 rfl) (S19.out.get 0 rfl) sX.out (by omega)).mono ?_
      rintro e w20 ⟨rfl, kk⟩
      have S20 : Hid (St wr w20 [⟨A19, n19, c19, X⟩, ⟨A29, n29, c29, Y⟩, ⟨A39, n39, c39, Z⟩, ⟨A4, n4, c4, XY⟩, ⟨A5, n5, c5, YZ⟩, ⟨A6, n6, c6, L⟩, ⟨A7, n7, c7, L⟩, ⟨A9, n9, c9, I⟩, ⟨A10, n10, c10, X⟩, ⟨A11, n11, c11, Y⟩, ⟨A14, n14, c14, TX⟩, ⟨A15, n15, c15, TY⟩, ⟨A16, n16, c16, TP⟩, ⟨A17, n17, c17, TP⟩, ⟨A18, n18, c18, X⟩]) := S19.out.later kk
      clear kk S19
      go_wp2_with fail
      refine (rank_szm (S20.out.get 0 rfl) sX.out p0 (by omega) (by omega)).mono ?_
      rw [E4.out.1]
      rintro e w21 ⟨rfl, kk⟩
      have S21 : Hid (St wr w21 [⟨A19, n19, c19, X⟩, ⟨A29, n29, c29, Y⟩, ⟨A39, n39, c39, Z⟩, ⟨A4, n4, c4, XY⟩, ⟨A5, n5, c5, YZ⟩, ⟨A6, n6, c6, L⟩, ⟨A7, n7, c7, L⟩, ⟨A9, n9, c9, I⟩, ⟨A10, n10, c10, X⟩, ⟨A11, n11, c11, Y⟩, ⟨A14, n14, c14, TX⟩, ⟨A15, n15, c15, TY⟩, ⟨A16, n16, c16, TP⟩, ⟨A17, n17, c17, TP⟩, ⟨A18, n18, c18, X⟩]) := S20.out.later kk
      clear kk S20
      go_wp2_with fail
      refine (rank_szm (S21.out.get 1 rfl) sY.out p1 (by omega) (by omega)).mono ?_
      rw [E4.out.2.1]
      rintro e w22 ⟨rfl, kk⟩
      have S22 : Hid (St wr w22 [⟨A19, n19, c19, X⟩, ⟨A29, n29, c29, Y⟩, ⟨A39, n39, c39, Z⟩, ⟨A4, n4, c4, XY⟩, ⟨A5, n5, c5, YZ⟩, ⟨A6, n6, c6, L⟩, ⟨A7, n7, c7, L⟩, ⟨A9, n9, c9, I⟩, ⟨A10, n10, c10, X⟩, ⟨A11, n11, c11, Y⟩, ⟨A14, n14, c14, TX⟩, ⟨A15, n15, c15, TY⟩, ⟨A16, n16, c16, TP⟩, ⟨A17, n17, c17, TP⟩, ⟨A18, n18, c18, X⟩]) := S21.out.later kk
      clear kk S21
      go_wp2_with fail
      refine (rank_szm (S22.out.get 3 rfl) sXY.out p0 (by omega) (by omega)).mono ?_
      rw [E4.out.2.2.1]
      rintro e w23 ⟨rfl, kk⟩
      have S23 : Hid (St wr w23 [⟨A19, n19, c19, X⟩, ⟨A29, n29, c29, Y⟩, ⟨A39, n39, c39, Z⟩, ⟨A4, n4, c4, XY⟩, ⟨A5, n5, c5, YZ⟩, ⟨A6, n6, c6, L⟩, ⟨A7, n7, c7, L⟩, ⟨A9, n9, c9, I⟩, ⟨A10, n10, c10, X⟩, ⟨A11, n11, c11, Y⟩, ⟨A14, n14, c14, TX⟩, ⟨A15, n15, c15, TY⟩, ⟨A16, n16, c16, TP⟩, ⟨A17, n17, c17, TP⟩, ⟨A18, n18, c18, X⟩]) := S22.out.later kk
      clear kk S22
      go_wp2_with fail
      refine (rank_szm (S23.out.get 10 rfl) sTX.out p1 (by omega) (by omega)).mono ?_
      rw [E4.out.2.2.2]
      rintro e w24 ⟨rfl, kk⟩
      have S24 : Hid (St wr w24 [⟨A19, n19, c19, X⟩, ⟨A29, n29, c29, Y⟩, ⟨A39, n39, c39, Z⟩, ⟨A4, n4, c4, XY⟩, ⟨A5, n5, c5, YZ⟩, ⟨A6, n6, c6, L⟩, ⟨A7, n7, c7, L⟩, ⟨A9, n9, c9, I⟩, ⟨A10, n10, c10, X⟩, ⟨A11, n11, c11, Y⟩, ⟨A14, n14, c14, TX⟩, ⟨A15, n15, c15, TY⟩, ⟨A16, n16, c16, TP⟩, ⟨A17, n17, c17, TP⟩, ⟨A18, n18, c18, X⟩]) := S23.out.later kk
      clear kk S23
      have cc := CELL.out w24 S24.out.keep 0
      simp only [List.getElem?_cons_zero, List.getElem?_cons_succ] at cc
      have cd := CELL.out w24 S24.out.keep 1
      simp only [List.getElem?_cons_zero, List.getElem?_cons_succ] at cd
      have mn1 := run_minw p q
      have mn2 := run_minw k0 k1
      go_wp2_with fail
      refine (wakes_any _).mono ?_
      rintro e w25 ⟨rfl, kk⟩
      have S25 : Hid (St wr w25 [⟨A19, n19, c19, X⟩, ⟨A29, n29, c29, Y⟩, ⟨A39, n39, c39, Z⟩, ⟨A4, n4, c4, XY⟩, ⟨A5, n5, c5, YZ⟩, ⟨A6, n6, c6, L⟩, ⟨A7, n7, c7, L⟩, ⟨A9, n9, c9, I⟩, ⟨A10, n10, c10, X⟩, ⟨A11, n11, c11, Y⟩, ⟨A14, n14, c14, TX⟩, ⟨A15, n15, c15, TY⟩, ⟨A16, n16, c16, TP⟩, ⟨A17, n17, c17, TP⟩, ⟨A18, n18, c18, X⟩]) := S24.out.later kk
      clear kk S24
      go_wp2_with fail
      go_ret
      exact ⟨rfl, HK.out.trans S25.out.keep⟩
end Go.Proofs.Ytcmjglmagkjdoaa
