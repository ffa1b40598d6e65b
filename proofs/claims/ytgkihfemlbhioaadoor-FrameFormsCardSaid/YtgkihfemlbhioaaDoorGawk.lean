/- The laws of frames: the chapter's rows. -/
import Derived.Test.YtgkihfemlbhioaaDoorGv5
import Derived.Great.BuildSlice
import Derived.Test.YtgkihfemlbhioaaDoorGw1
import Derived.Deep.DeepCutAuto
import Derived.Deep.CutBlock
namespace Go.Proofs.YtgkihfemlbhioaaDoor
open Go.RowKit Fr Crc
set_option linter.unusedVariables false
set_option linter.unusedSimpArgs false
/-- The chapter's three frames. -/
def probF : FrV := ⟨4, 0, 1, 0, 1, 0, 0, 0, 0, [], [], [], 0, [], []⟩
def datF : FrV := ⟨1, 0, 1, 0, 1, 0, 0, 1, 0, [1, 2], [3, 4, 5], [], 0, [], []⟩
def memF : FrV := ⟨5, 2, 2, 0, 0, 0, 0, 0, 0, [], [], [], 1, [true, false, true], [[(0, 1), (1, 2)]]⟩
theorem may_prob : MayF probF := (may_iff _).2 (by decide +kernel)
theorem may_dat : MayF datF := (may_iff _).2 (by decide +kernel)
theorem may_mem : MayF memF := (may_iff _).2 (by decide +kernel)
theorem len_prob : (putV probF).length = 31 := by rw [put_len may_prob]; decide +kernel
theorem len_dat : (putV datF).length = 48 := by rw [put_len may_dat]; decide +kernel
theorem len_mem : (putV memF).length = 41 := by rw [put_len may_mem]; decide +kernel
theorem put_ok {f : FrV} (h : MayF f) : putE f = 0 := if_pos h
theorem take_mem : tkE (putV memF) = 0 ∧ tkV (putV memF) = memF := take_put may_mem
theorem resMember : Tryd.f19.results = #[.cell 0 32] := by kernel_rfl
/-- Four blocks, laid one behind the other. -/
theorem four_blocks (w : World) (a b c d : Array Value) (t1 t2 t3 t4 : TypeId) {w4 : World} (hw : (((w.alloc (.cells a t1)).alloc (.cells b t2)).alloc (.cells c t3)).alloc (.cells d t4) = w4) :
    w4.heap[w.heap.size]? = some (.cells a t1 (0, 0)) ∧ w4.heap[w.heap.size + 1]? = some (.cells b t2 (0, 0)) ∧ w4.heap[w.heap.size + 1 + 1]? = some (.cells c t3 (0, 0)) ∧ w4.heap[w.heap.size + 1 + 1 + 1]? = some (.cells d t4 (0, 0)) ∧ Keep w w4 ∧ w4.heap.size = w.heap.size + 4 := by
  subst hw
  have k1 : Keep (w.alloc (.cells a t1)) ((((w.alloc (.cells a t1)).alloc (.cells b t2)).alloc (.cells c t3)).alloc (.cells d t4)) := (((Keep.refl _).alloc _ _).alloc _ _).alloc _ _
  have k2 : Keep ((w.alloc (.cells a t1)).alloc (.cells b t2)) ((((w.alloc (.cells a t1)).alloc (.cells b t2)).alloc (.cells c t3)).alloc (.cells d t4)) := ((Keep.refl _).alloc _ _).alloc _ _
  have k3 : Keep (((w.alloc (.cells a t1)).alloc (.cells b t2)).alloc (.cells c t3)) ((((w.alloc (.cells a t1)).alloc (.cells b t2)).alloc (.cells c t3)).alloc (.cells d t4)) := (Keep.refl _).alloc _ _
  have h1 := heap_alloc_new w (.cells a t1)
  have h2 := heap_alloc_new (w.alloc (.cells a t1)) (.cells b t2)
  have h3 := heap_alloc_new ((w.alloc (.cells a t1)).alloc (.cells b t2)) (.cells c t3)
  have h4 := heap_alloc_new (((w.alloc (.cells a t1)).alloc (.cells b t2)).alloc (.cells c t3)) (.cells d t4)
  rw [show (w.alloc (.cells a t1)).heap.size = w.heap.size + 1 by simp] at h2
  rw [show ((w.alloc (.cells a t1)).alloc (.cells b t2)).heap.size = w.heap.size + 1 + 1 by simp] at h3
  rw [show (((w.alloc (.cells a t1)).alloc (.cells b t2)).alloc (.cells c t3)).heap.size = w.heap.size + 1 + 1 + 1 by simp] at h4
  exact ⟨(k1.block _ (by simp)).trans h1, (k2.block _ (by simp)).trans h2, (k3.block _ (by simp)).trans h3, h4, ((((Keep.refl w).alloc _ _).alloc _ _).alloc _ _).alloc _ _, by simp⟩
set_option maxRecDepth 100000 in
set_option maxHeartbeats 4000000 in
theorem gmember_any (w : World) : Calls Tryd.prog 19 #[] w fun e w' => ∃ m : FrM, e = .returned (.agg (frCells m memF)) ∧ FrIn w' w'.heap.size m memF ∧ Keep w w' := by
  go_enter Tryd.func19, Tryd.ntmps19
  go_wp2_with fail
  obtain ⟨w4, hw4⟩ : ∃ w4, (((w.alloc (.cells #[.int .i64 5, .int .i64 2, .int .i64 2, .int .u64 0, .int .u64 0, .int .i64 0, .int .u64 0, .int .u64 0, .int .u64 0, .slice none 0 0, .slice none 0 0, .slice none 0 0, .int .u64 1, .slice (some ⟨w.heap.size + 1, 0, none⟩) 3 3, .slice (some ⟨w.heap.size + 1 + 1 + 1, 0, none⟩) 1 1] 32)).alloc (.cells #[.bool true, .bool false, .bool true] 4)).alloc (.cells #[.int .i64 0, .int .i64 1, .int .i64 1, .int .i64 2] 57)).alloc (.cells #[.slice (some ⟨w.heap.size + 1 + 1, 0, none⟩) 2 2] 51) = w4 := ⟨_, rfl⟩
  rw [hw4]
  obtain ⟨b0, b1, b2, b3, k4, s4⟩ := four_blocks w _ _ _ _ _ _ _ _ hw4
  refine bodyPost_ret (results_cell_row (p := 0) (ty := 32) resMember _ _ w.heap.size 32 _ (0, 0) _ rfl b0 Tryd.underlying32 rfl infoFr) rfl ?_
  refine ⟨⟨⟨none, 0, 0⟩, ⟨none, 0, 0⟩, ⟨none, 0, 0⟩, ⟨some ⟨w.heap.size + 1, 0, none⟩, 3, 3⟩, ⟨some ⟨w.heap.size + 1 + 1 + 1, 0, none⟩, 1, 1⟩⟩, rfl, ?_, k4⟩
  have cell : ∀ {g : Nat} {cs : Array Value} {t : TypeId} (i : Nat), w4.heap[g]? = some (.cells cs t (0, 0)) → w4.cell? ⟨g, i, none⟩ = cs[i]? := fun i h => by simp [World.cell?, h]
  refine ⟨Bytes.nil _ _ _, Bytes.nil _ _ _, RanksAt.none_ _ _ _, ⟨rfl, fun _ => ⟨w.heap.size + 1, 0, rfl, by omega, fun i x hi => ?_⟩⟩, ⟨[⟨some ⟨w.heap.size + 1 + 1, 0, none⟩, 2, 2⟩], rfl, rfl, fun i s r hs hr => ?_, fun _ => ⟨w.heap.size + 1 + 1 + 1, 0, rfl, by omega, fun i s hs => ?_⟩⟩, by simp [SlV.ok], by simp [memF, I64], by simp [memF, U64], fun r hr => by simp [memF] at hr, fun l hl e he => ?_⟩
  · rw [Nat.zero_add, cell i b1]
    match i, hi with
    | 0, hi => simp [memF] at hi; subst hi; rfl
    | 1, hi => simp [memF] at hi; subst hi; rfl
    | 2, hi => simp [memF] at hi; subst hi; rfl
    | i + 3, hi => simp [memF] at hi
  · match i, hs, hr with
    | 0, hs, hr =>
      simp [memF] at hs hr
      subst hs; subst hr
      refine ⟨⟨rfl, fun r hr => by simp at hr; rcases hr with rfl | rfl <;> rfl, fun _ => ⟨w.heap.size + 1 + 1, 0, rfl, by omega, fun i r j v hr hv => ?_⟩⟩, by dsimp only; decide, by dsimp only; decide⟩
      rw [Nat.zero_add, cell _ b2]
      match i, j, hr, hv with
      | 0, 0, hr, hv => simp at hr; subst hr; simp at hv; subst hv; rfl
      | 0, 1, hr, hv => simp at hr; subst hr; simp at hv; subst hv; rfl
      | 1, 0, hr, hv => simp at hr; subst hr; simp at hv; subst hv; rfl
      | 1, 1, hr, hv => simp at hr; subst hr; simp at hv; subst hv; rfl
      | 0, j + 2, hr, hv => simp at hr; subst hr; simp at hv
      | 1, j + 2, hr, hv => simp at hr; subst hr; simp at hv
      | i + 2, j, hr, hv => simp at hr
    | i + 1, hs, hr => simp at hs
  · match i, hs with
    | 0, hs => simp at hs; subst hs; rw [Nat.zero_add, cell 0 b3]; rfl
    | i + 1, hs => simp at hs
  · simp [memF] at hl
    subst hl
    simp at he
    rcases he with rfl | rfl <;> simp [I64]
end Go.Proofs.YtgkihfemlbhioaaDoor
/- The laws of frames: the chapter's rows are so. -/
namespace Go.Proofs.YtgkihfemlbhioaaDoor
open Go.RowKit Fr Crc
set_option linter.unusedVariables false
set_option linter.unusedSimpArgs false
theorem fr_prob (w : World) : FrIn w w.heap.size noM probF := fr_plain w _ rfl rfl rfl rfl rfl (by simp [probF, I64]) (by simp [probF, U64])
/-- The chapter's Data, its bytes in two blocks. -/
def datM (w : World) : FrM := ⟨⟨some ⟨w.heap.size, 0, none⟩, 2, 2⟩, ⟨some ⟨w.heap.size + 1, 0, none⟩, 3, 3⟩, ⟨none, 0, 0⟩, ⟨none, 0, 0⟩, ⟨none, 0, 0⟩⟩
theorem fr_dat (w w2 : World) (hw : (w.alloc (.cells #[.int .u8 1, .int .u8 2] 5)).alloc (.cells #[.int .u8 3, .int .u8 4, .int .u8 5] 5) = w2) : FrIn w2 w2.heap.size (datM w) datF ∧ Keep w w2 := by
  have o1 : Own w2 w.heap.size 5 (some ⟨w.heap.size, 0, none⟩) 2 2 [1, 2] := by
    rw [← hw]
    exact (Own.lit w 5 2 [1, 2] _ rfl rfl (by omega) (by intro x hx; simp at hx; omega)).alloc _
  have o2 : Own w2 (w.heap.size + 1) 5 (some ⟨w.heap.size + 1, 0, none⟩) 3 3 [3, 4, 5] := by
    have h := Own.lit (w.alloc (.cells #[.int .u8 1, .int .u8 2] 5)) 5 3 [3, 4, 5] #[.int .u8 3, .int .u8 4, .int .u8 5] rfl rfl (by omega) (by intro x hx; simp at hx; omega)
    rw [hw, show (w.alloc (.cells #[.int .u8 1, .int .u8 2] 5)).heap.size = w.heap.size + 1 by simp] at h
    exact h
  refine ⟨⟨o1.bytes, o2.bytes, RanksAt.none_ _ _ _, UpsAt.none_ _ _ _, HopsAt.none_ _ _ _, by simp [datM, SlV.ok], by simp [datF, I64], by simp [datF, U64], fun r hr => by simp [datF] at hr, fun l hl => by simp [datF] at hl⟩, ?_⟩
  rw [← hw]
  exact ((Keep.refl w).alloc _ _).alloc _ _
theorem tk_none : tkE [] = 4 := by decide +kernel
set_option maxRecDepth 100000 in
set_option maxHeartbeats 16000000 in
theorem gawake_any (w : World) (hT : TabW w) : Calls Tryd.prog 17 #[] w fun e w' => e = .returned (.bool true) ∧ Keep w w' := by
  have HT := Lib.hid hT
  have HP := Lib.hid (gput_any noM probF w hT (fr_prob w))
  rw [put_ok may_prob] at HP
  have HLP := Lib.hid len_prob
  obtain ⟨PP, hPP⟩ : ∃ x, putV probF = x := ⟨_, rfl⟩
  rw [hPP] at HP HLP
  simp only [frCells, noM, probF] at HP
  clear hT hPP
  go_enter Tryd.func17, Tryd.ntmps17
  go_wp2_with fail
  refine HP.out.mono ?_
  rintro e w1 ⟨A1, n1, c1, rfl, o1, k1⟩
  obtain rfl : n1 = 31 := o1.length.symm.trans HLP.out
  obtain ⟨w2, hw2⟩ : ∃ w2, (w1.alloc (.cells #[.int .u8 1, .int .u8 2] 5)).alloc (.cells #[.int .u8 3, .int .u8 4, .int .u8 5] 5) = w2 := ⟨_, rfl⟩
  obtain ⟨hd, kd⟩ := fr_dat w1 w2 hw2
  have K2 : Hid (Keep w w2) := k1.trans kd
  have HD := Lib.hid (gput_any (datM w1) datF w2 (HT.out.keep K2.out) hd)
  rw [put_ok may_dat] at HD
  have HLD := Lib.hid len_dat
  obtain ⟨PD, hPD⟩ : ∃ x, putV datF = x := ⟨_, rfl⟩
  rw [hPD] at HD HLD
  simp only [frCells, datM, datF] at HD
  have HW2 := Lib.hid hw2
  clear o1 k1 hd kd hPD HP hw2
  go_wp2_with fail
  rw [HW2.out]
  refine HD.out.mono ?_
  rintro e w3 ⟨A3, n3, c3, rfl, o3, k3⟩
  obtain rfl : n3 = 48 := o3.length.symm.trans HLD.out
  have K3 : Hid (Keep w w3) := K2.out.trans k3
  clear o3 k3 HD
  go_wp2_with fail
  refine (gmember_any w3).mono ?_
  rintro e w4 ⟨m4, rfl, h4, k4⟩
  have K4 : Hid (Keep w w4) := K3.out.trans k4
  have HM := Lib.hid (gput_any m4 memF w4 (HT.out.keep K4.out) h4)
  rw [put_ok may_mem] at HM
  have HLM := Lib.hid len_mem
  have HTM := Lib.hid take_mem
  obtain ⟨PM, hPM⟩ : ∃ x, putV memF = x := ⟨_, rfl⟩
  rw [hPM] at HM HLM HTM
  obtain ⟨CM, hCM⟩ : ∃ x, frCells m4 memF = x := ⟨_, rfl⟩
  rw [hCM] at HM ⊢
  clear h4 k4 hPM hCM
  go_wp2_with fail
  refine HM.out.mono ?_
  rintro e w5 ⟨A5, n5, c5, rfl, o5, k5⟩
  obtain rfl : n5 = 41 := o5.length.symm.trans HLM.out
  have K5 : Hid (Keep w w5) := K4.out.trans k5
  have HTK := Lib.hid (gtake_any w5.heap.size 41 c5 A5 PM w5 (HT.out.keep K5.out) o5.bytes (Nat.le_refl _) (by omega) (own_le' o5))
  clear o5 k5 HM
  go_wp2_with fail
  refine HTK.out.mono ?_
  rintro e w6 ⟨m6, rfl, h6, k6⟩
  rw [HTM.out.1, HTM.out.2, show (((0 : Nat) : Int)) = 0 from rfl]
  rw [HTM.out.2] at h6
  obtain ⟨⟨Ac, nc, cc⟩, ⟨Ap, np, cp⟩, ⟨Ar, nr, cr⟩, ⟨Au, nu, cu⟩, ⟨Ah, nh, ch⟩⟩ := m6
  obtain ⟨w7, hw7⟩ : ∃ w7, w6.alloc (.cells #[.int .i64 5, .int .i64 2, .int .i64 2, .int .u64 0, .int .u64 0, .int .i64 0, .int .u64 0, .int .u64 0, .int .u64 0, .slice Ac nc cc, .slice Ap np cp, .slice Ar nr cr, .int .u64 1, .slice Au nu cu, .slice Ah nh ch] 32) = w7 := ⟨_, rfl⟩
  obtain ⟨k7, hbox⟩ := fr_box w6 32 ⟨⟨Ac, nc, cc⟩, ⟨Ap, np, cp⟩, ⟨Ar, nr, cr⟩, ⟨Au, nu, cu⟩, ⟨Ah, nh, ch⟩⟩ memF (w2 := w7) hw7
  obtain ⟨g7, hg7⟩ : ∃ g, w6.heap.size = g := ⟨_, rfl⟩
  rw [hg7] at hbox
  have H7 := Lib.hid (h6.later k7)
  have HBOX := Lib.hid hbox
  have K7 : Hid (Keep w w7) := (K5.out.trans k6).trans k7
  have HTN := Lib.hid (gtake_any w7.heap.size 0 0 none [] w7 (HT.out.keep K7.out) (Bytes.nil _ _ _) (Nat.le_refl _) (by omega) (Nat.le_refl _))
  simp only [frCells, memF, show ((0 : Nat) : Int) = 0 from rfl, show ((1 : Nat) : Int) = 1 from rfl]
  have HW7 := Lib.hid hw7
  have HG7 := Lib.hid hg7
  clear h6 k6 k7 hbox HTK hw7 hg7
  go_wp2_with fail
  rw [HW7.out, HG7.out]
  refine HTN.out.mono ?_
  rintro e w8 ⟨m8, rfl, h8, k8⟩
  rw [take_err (b := []) (by rw [tk_none]; decide), tk_none, show (((4 : Nat) : Int)) = 4 from rfl]
  obtain ⟨⟨Bc, bc, dc⟩, ⟨Bp, bp, dp⟩, ⟨Br, br, dr⟩, ⟨Bu, bu, du⟩, ⟨Bh, bh, dh⟩⟩ := m8
  have K8 : Hid (Keep w7 w8) := k8
  simp only [frCells, noF, show ((0 : Nat) : Int) = 0 from rfl]
  obtain ⟨w9, hw9⟩ : ∃ w9, w8.alloc (.cells #[.int .i64 0, .int .i64 0, .int .i64 0, .int .u64 0, .int .u64 0, .int .i64 0, .int .u64 0, .int .u64 0, .int .u64 0, .slice Bc bc dc, .slice Bp bp dp, .slice Br br dr, .int .u64 0, .slice Bu bu du, .slice Bh bh dh] 32) = w9 := ⟨_, rfl⟩
  have K9 : Hid (Keep w7 w9) := by
    show Keep _ _
    rw [← hw9]; exact k8.alloc _ _
  have HW9 := Lib.hid hw9
  have HMK := run_make_bytes (P := Tryd.prog) Tryd.underlying23 info5 70001 (by omega) w9
  obtain ⟨w10, hw10⟩ : ∃ w10, w9.alloc (.cells (madeCells #[.int .u8 0] 70001) 5) = w10 := ⟨_, rfl⟩
  have O10 := Own.made w9 5 70001 (by omega)
  rw [hw10] at HMK O10
  have K10 : Hid (Keep w7 w10) := by
    show Keep _ _
    rw [← hw10]; exact K9.out.alloc _ _
  obtain ⟨ZS, hZS⟩ : ∃ x, List.replicate 70001 0 = x := ⟨_, rfl⟩
  have hlz : ZS.length = 70001 := by rw [← hZS, List.length_replicate]
  rw [hZS] at O10
  have HTZ := Lib.hid (gtake_any w10.heap.size 70001 70001 _ ZS w10 ((HT.out.keep K7.out).keep K10.out) O10.bytes (Nat.le_refl _) (by omega) (Nat.le_refl _))
  have EZ : Hid (tkE ZS = 3) := (take_long ZS).2 (by omega)
  obtain ⟨g10, hg10⟩ : ∃ g, w9.heap.size = g := ⟨_, rfl⟩
  rw [hg10] at HMK HTZ
  have HG10 := Lib.hid hg10
  rw [show ((70001 : Nat) : Int) = 70001 from rfl] at HMK
  clear h8 k8 hw9 hw10 hZS hlz O10 HTN hg10
  go_upto_region 6 with fail
  rw [HW9.out]
  go_wp2_with fail
  refine HTZ.out.mono ?_
  rintro e w11 ⟨m11, rfl, h11, k11⟩
  rw [take_err (b := ZS) (by rw [EZ.out]; decide), EZ.out, show (((3 : Nat) : Int)) = 3 from rfl]
  obtain ⟨⟨Cc, bc', dc'⟩, ⟨Cp, bp', dp'⟩, ⟨Cr, br', dr'⟩, ⟨Cu, bu', du'⟩, ⟨Ch, bh', dh'⟩⟩ := m11
  simp only [frCells, noF, show ((0 : Nat) : Int) = 0 from rfl]
  obtain ⟨w12, hw12⟩ : ∃ w12, w11.alloc (.cells #[.int .i64 0, .int .i64 0, .int .i64 0, .int .u64 0, .int .u64 0, .int .i64 0, .int .u64 0, .int .u64 0, .int .u64 0, .slice Cc bc' dc', .slice Cp bp' dp', .slice Cr br' dr', .int .u64 0, .slice Cu bu' du', .slice Ch bh' dh'] 32) = w12 := ⟨_, rfl⟩
  have K12 : Hid (Keep w7 w12) := by
    show Keep _ _
    rw [← hw12]; exact (K10.out.trans k11).alloc _ _
  have HW12 := Lib.hid hw12
  clear h11 k11 hw12 HTZ HMK
  go_upto_region 7 with fail
  rw [HW12.out]
  refine wp_region_noPanic ?_
  refine wp_region_held_drew (S := fun wz => Keep w12 wz) (by kernel_rfl) (Keep.drew (Keep.refl _)) (fun hHeld => ?_)
  refine wpAnyH_take (i := 0) (v := ?_) rfl (by kernel_rfl) (by kernel_rfl) (by kernel_rfl) (fun _ _ _ h => h) (Or.inl ⟨by rfl, ?_⟩) hHeld ?_
  rotate_left
  · intro wq hSw
    go_simp
    all_goals with_reducible rfl
  try simp only [Act.put, List.getElem_toArray, List.getElem_cons_succ, List.getElem_cons_zero, List.setIfInBounds_toArray, List.set_cons_zero, List.set_cons_succ]
  refine wpAnyH_take (i := 1) (v := ?_) rfl (by kernel_rfl) (by kernel_rfl) (by kernel_rfl) (fun _ _ _ h => h) (Or.inl ⟨by rfl, ?_⟩) hHeld ?_
  rotate_left
  · intro wq hSw
    go_simp
    all_goals with_reducible rfl
  try simp only [Act.put, List.getElem_toArray, List.getElem_cons_succ, List.getElem_cons_zero, List.setIfInBounds_toArray, List.set_cons_zero, List.set_cons_succ]
  refine wpAnyH_take (i := 2) (v := ?_) rfl (by kernel_rfl) (by kernel_rfl) (by kernel_rfl) (fun _ _ _ h => h) (Or.inl ⟨by rfl, ?_⟩) hHeld ?_
  rotate_left
  · intro wq hSw
    go_simp
    all_goals with_reducible rfl
  try simp only [Act.put, List.getElem_toArray, List.getElem_cons_succ, List.getElem_cons_zero, List.setIfInBounds_toArray, List.set_cons_zero, List.set_cons_succ]
  refine wpAnyH_take (i := 3) (v := ?_) rfl (by kernel_rfl) (by kernel_rfl) (by kernel_rfl) (fun _ _ _ h => h) (Or.inl ⟨by rfl, ?_⟩) hHeld ?_
  rotate_left
  · intro wq hSw
    go_simp
    all_goals with_reducible rfl
  try simp only [Act.put, List.getElem_toArray, List.getElem_cons_succ, List.getElem_cons_zero, List.setIfInBounds_toArray, List.set_cons_zero, List.set_cons_succ]
  refine wpAnyH_take (i := 4) (v := ?_) rfl (by kernel_rfl) (by kernel_rfl) (by kernel_rfl) (fun _ _ _ h => h) (Or.inl ⟨by rfl, ?_⟩) hHeld ?_
  rotate_left
  · intro wq hSw
    go_simp
    all_goals with_reducible rfl
  try simp only [Act.put, List.getElem_toArray, List.getElem_cons_succ, List.getElem_cons_zero, List.setIfInBounds_toArray, List.set_cons_zero, List.set_cons_succ]
  refine wpAnyH_take (i := 5) (v := ?_) rfl (by kernel_rfl) (by kernel_rfl) (by kernel_rfl) (fun _ _ _ h => h) (Or.inl ⟨by rfl, ?_⟩) hHeld ?_
  rotate_left
  · intro wq hSw
    go_simp
    all_goals with_reducible rfl
  try simp only [Act.put, List.getElem_toArray, List.getElem_cons_succ, List.getElem_cons_zero, List.setIfInBounds_toArray, List.set_cons_zero, List.set_cons_succ]
  refine wpAnyH_take (i := 6) (v := ?_) rfl (by kernel_rfl) (by kernel_rfl) (by kernel_rfl) (fun _ _ _ h => h) (Or.inl ⟨by rfl, ?_⟩) hHeld ?_
  rotate_left
  · intro wq hSw
    go_simp
    all_goals with_reducible rfl
  try simp only [Act.put, List.getElem_toArray, List.getElem_cons_succ, List.getElem_cons_zero, List.setIfInBounds_toArray, List.set_cons_zero, List.set_cons_succ]
  refine wpAnyH_take (i := 7) (v := ?_) rfl (by kernel_rfl) (by kernel_rfl) (by kernel_rfl) (fun _ _ _ h => h) (Or.inl ⟨by rfl, ?_⟩) hHeld ?_
  rotate_left
  · intro wq hSw
    go_simp
    all_goals with_reducible rfl
  try simp only [Act.put, List.getElem_toArray, List.getElem_cons_succ, List.getElem_cons_zero, List.setIfInBounds_toArray, List.set_cons_zero, List.set_cons_succ]
  refine wpAnyH_take (i := 8) (v := ?_) rfl (by kernel_rfl) (by kernel_rfl) (by kernel_rfl) (fun _ _ _ h => h) (Or.inl ⟨by rfl, ?_⟩) hHeld ?_
  rotate_left
  · intro wq hSw
    go_simp
    all_goals with_reducible rfl
  try simp only [Act.put, List.getElem_toArray, List.getElem_cons_succ, List.getElem_cons_zero, List.setIfInBounds_toArray, List.set_cons_zero, List.set_cons_succ]
  refine wpAnyH_take (i := 9) (v := ?_) rfl (by kernel_rfl) (by kernel_rfl) (by kernel_rfl) (fun _ _ _ h => h) (Or.inl ⟨by rfl, ?_⟩) hHeld ?_
  rotate_left
  · intro wq hSw
    go_simp
    all_goals with_reducible rfl
  try simp only [Act.put, List.getElem_toArray, List.getElem_cons_succ, List.getElem_cons_zero, List.setIfInBounds_toArray, List.set_cons_zero, List.set_cons_succ]
  refine wpAnyH_take (i := 10) (v := ?_) rfl (by kernel_rfl) (by kernel_rfl) (by kernel_rfl) (fun _ _ _ h => h) (Or.inl ⟨by rfl, ?_⟩) hHeld ?_
  rotate_left
  · intro wq hSw
    go_simp
    all_goals with_reducible rfl
  try simp only [Act.put, List.getElem_toArray, List.getElem_cons_succ, List.getElem_cons_zero, List.setIfInBounds_toArray, List.set_cons_zero, List.set_cons_succ]
  refine wpAnyH_take (i := 11) (v := ?_) rfl (by kernel_rfl) (by kernel_rfl) (by kernel_rfl) (fun _ _ _ h => h) (Or.inl ⟨by rfl, ?_⟩) hHeld ?_
  rotate_left
  · intro wq hSw
    go_simp
    all_goals with_reducible rfl
  try simp only [Act.put, List.getElem_toArray, List.getElem_cons_succ, List.getElem_cons_zero, List.setIfInBounds_toArray, List.set_cons_zero, List.set_cons_succ]
  refine wpAnyH_take (i := 12) (v := ?_) rfl (by kernel_rfl) (by kernel_rfl) (by kernel_rfl) (fun _ _ _ h => h) (Or.inl ⟨by rfl, ?_⟩) hHeld ?_
  rotate_left
  · intro wq hSw
    go_simp
    all_goals with_reducible rfl
  try simp only [Act.put, List.getElem_toArray, List.getElem_cons_succ, List.getElem_cons_zero, List.setIfInBounds_toArray, List.set_cons_zero, List.set_cons_succ]
  refine wpAnyH_take (i := 13) (v := ?_) rfl (by kernel_rfl) (by kernel_rfl) (by kernel_rfl) (fun _ _ _ h => h) (Or.inl ⟨by rfl, ?_⟩) hHeld ?_
  rotate_left
  · intro wq hSw
    go_simp
    all_goals with_reducible rfl
  try simp only [Act.put, List.getElem_toArray, List.getElem_cons_succ, List.getElem_cons_zero, List.setIfInBounds_toArray, List.set_cons_zero, List.set_cons_succ]
  refine wpAnyH_take (i := 14) (v := ?_) rfl (by kernel_rfl) (by kernel_rfl) (by kernel_rfl) (fun _ _ _ h => h) (Or.inl ⟨by rfl, ?_⟩) hHeld ?_
  rotate_left
  · intro wq hSw
    go_simp
    all_goals with_reducible rfl
  try simp only [Act.put, List.getElem_toArray, List.getElem_cons_succ, List.getElem_cons_zero, List.setIfInBounds_toArray, List.set_cons_zero, List.set_cons_succ]
  refine wpAnyH_take (i := 15) (v := ?_) rfl (by kernel_rfl) (by kernel_rfl) (by kernel_rfl) (fun _ _ _ h => h) (Or.inl ⟨by rfl, ?_⟩) hHeld ?_
  rotate_left
  · intro wq hSw
    go_simp
    all_goals with_reducible rfl
  try simp only [Act.put, List.getElem_toArray, List.getElem_cons_succ, List.getElem_cons_zero, List.setIfInBounds_toArray, List.set_cons_zero, List.set_cons_succ]
  refine wpAnyH_take (i := 16) (v := ?_) rfl (by kernel_rfl) (by kernel_rfl) (by kernel_rfl) (fun _ _ _ h => h) (Or.inl ⟨by rfl, ?_⟩) hHeld ?_
  rotate_left
  · intro wq hSw
    go_simp
    all_goals with_reducible rfl
  try simp only [Act.put, List.getElem_toArray, List.getElem_cons_succ, List.getElem_cons_zero, List.setIfInBounds_toArray, List.set_cons_zero, List.set_cons_succ]
  refine wpAnyH_take (i := 17) (v := ?_) rfl (by kernel_rfl) (by kernel_rfl) (by kernel_rfl) (fun _ _ _ h => h) (Or.inl ⟨by rfl, ?_⟩) hHeld ?_
  rotate_left
  · intro wq hSw
    go_simp
    all_goals with_reducible rfl
  try simp only [Act.put, List.getElem_toArray, List.getElem_cons_succ, List.getElem_cons_zero, List.setIfInBounds_toArray, List.set_cons_zero, List.set_cons_succ]
  refine wpAnyH_take (i := 18) (v := ?_) rfl (by kernel_rfl) (by kernel_rfl) (by kernel_rfl) (fun _ _ _ h => h) (Or.inl ⟨by rfl, ?_⟩) hHeld ?_
  rotate_left
  · intro wq hSw
    go_simp
    all_goals with_reducible rfl
  try simp only [Act.put, List.getElem_toArray, List.getElem_cons_succ, List.getElem_cons_zero, List.setIfInBounds_toArray, List.set_cons_zero, List.set_cons_succ]
  refine wpAnyH_take (i := 19) (v := ?_) rfl (by kernel_rfl) (by kernel_rfl) (by kernel_rfl) (fun _ _ _ h => h) (Or.inl ⟨by rfl, ?_⟩) hHeld ?_
  rotate_left
  · intro wq hSw
    go_simp
    all_goals with_reducible rfl
  try simp only [Act.put, List.getElem_toArray, List.getElem_cons_succ, List.getElem_cons_zero, List.setIfInBounds_toArray, List.set_cons_zero, List.set_cons_succ]
  refine wpAnyH_take (i := 20) (v := ?_) rfl (by kernel_rfl) (by kernel_rfl) (by kernel_rfl) (fun _ _ _ h => h) (Or.inl ⟨by rfl, ?_⟩) hHeld ?_
  rotate_left
  · intro wq hSw
    go_simp
    all_goals with_reducible rfl
  try simp only [Act.put, List.getElem_toArray, List.getElem_cons_succ, List.getElem_cons_zero, List.setIfInBounds_toArray, List.set_cons_zero, List.set_cons_succ]
  refine wpAnyH_take (i := 21) (v := ?_) rfl (by kernel_rfl) (by kernel_rfl) (by kernel_rfl) (fun _ _ _ h => h) (Or.inl ⟨by rfl, ?_⟩) hHeld ?_
  rotate_left
  · intro wq hSw
    go_simp
    all_goals with_reducible rfl
  try simp only [Act.put, List.getElem_toArray, List.getElem_cons_succ, List.getElem_cons_zero, List.setIfInBounds_toArray, List.set_cons_zero, List.set_cons_succ]
  refine wpAnyH_take (i := 22) (v := ?_) rfl (by kernel_rfl) (by kernel_rfl) (by kernel_rfl) (fun _ _ _ h => h) (Or.inl ⟨by rfl, ?_⟩) hHeld ?_
  rotate_left
  · intro wq hSw
    go_simp
    all_goals with_reducible rfl
  try simp only [Act.put, List.getElem_toArray, List.getElem_cons_succ, List.getElem_cons_zero, List.setIfInBounds_toArray, List.set_cons_zero, List.set_cons_succ]
  refine wpAnyH_take (i := 23) (v := ?_) rfl (by kernel_rfl) (by kernel_rfl) (by kernel_rfl) (fun _ _ _ h => h) (Or.inl ⟨by rfl, ?_⟩) hHeld ?_
  rotate_left
  · intro wq hSw
    go_simp
    all_goals with_reducible rfl
  try simp only [Act.put, List.getElem_toArray, List.getElem_cons_succ, List.getElem_cons_zero, List.setIfInBounds_toArray, List.set_cons_zero, List.set_cons_succ]
  refine wpAnyH_take (i := 24) (v := ?_) rfl (by kernel_rfl) (by kernel_rfl) (by kernel_rfl) (fun _ _ _ h => h) (Or.inl ⟨by rfl, ?_⟩) hHeld ?_
  rotate_left
  · intro wq hSw
    go_simp
    all_goals with_reducible rfl
  try simp only [Act.put, List.getElem_toArray, List.getElem_cons_succ, List.getElem_cons_zero, List.setIfInBounds_toArray, List.set_cons_zero, List.set_cons_succ]
  refine wpAnyH_take (i := 25) (v := ?_) rfl (by kernel_rfl) (by kernel_rfl) (by kernel_rfl) (fun _ _ _ h => h) (Or.inl ⟨by rfl, ?_⟩) hHeld ?_
  rotate_left
  · intro wq hSw
    go_simp
    all_goals with_reducible rfl
  try simp only [Act.put, List.getElem_toArray, List.getElem_cons_succ, List.getElem_cons_zero, List.setIfInBounds_toArray, List.set_cons_zero, List.set_cons_succ]
  refine wpAnyH_take (i := 26) (v := ?_) rfl (by kernel_rfl) (by kernel_rfl) (by kernel_rfl) (fun _ _ _ h => h) (Or.inl ⟨by rfl, ?_⟩) hHeld ?_
  rotate_left
  · intro wq hSw
    go_simp
    all_goals with_reducible rfl
  try simp only [Act.put, List.getElem_toArray, List.getElem_cons_succ, List.getElem_cons_zero, List.setIfInBounds_toArray, List.set_cons_zero, List.set_cons_succ]
  refine wpAnyH_take (i := 27) (v := ?_) rfl (by kernel_rfl) (by kernel_rfl) (by kernel_rfl) (fun _ _ _ h => h) (Or.inl ⟨by rfl, ?_⟩) hHeld ?_
  rotate_left
  · intro wq hSw
    go_simp
    all_goals with_reducible rfl
  try simp only [Act.put, List.getElem_toArray, List.getElem_cons_succ, List.getElem_cons_zero, List.setIfInBounds_toArray, List.set_cons_zero, List.set_cons_succ]
  refine wpAnyH_take (i := 28) (v := ?_) rfl (by kernel_rfl) (by kernel_rfl) (by kernel_rfl) (fun _ _ _ h => h) (Or.inl ⟨by rfl, ?_⟩) hHeld ?_
  rotate_left
  · intro wq hSw
    go_simp
    all_goals with_reducible rfl
  try simp only [Act.put, List.getElem_toArray, List.getElem_cons_succ, List.getElem_cons_zero, List.setIfInBounds_toArray, List.set_cons_zero, List.set_cons_succ]
  refine wpAnyH_take (i := 29) (v := ?_) rfl (by kernel_rfl) (by kernel_rfl) (by kernel_rfl) (fun _ _ _ h => h) (Or.inl ⟨by rfl, ?_⟩) hHeld ?_
  rotate_left
  · intro wq hSw
    go_simp
    all_goals with_reducible rfl
  try simp only [Act.put, List.getElem_toArray, List.getElem_cons_succ, List.getElem_cons_zero, List.setIfInBounds_toArray, List.set_cons_zero, List.set_cons_succ]
  refine wpAnyH_take (i := 30) (v := ?_) rfl (by kernel_rfl) (by kernel_rfl) (by kernel_rfl) (fun _ _ _ h => h) (Or.inl ⟨by rfl, ?_⟩) hHeld ?_
  rotate_left
  · intro wq hSw
    obtain ⟨⟨y0, y1, y2, y3, y4⟩, ⟨y5, y6, y7, y8⟩, ⟨y9, y10, y11⟩, y12, y13, y14⟩ := (HBOX.out wq (K12.out.trans hSw)).cells
    dsimp only [memF] at y0 y1 y2 y3 y4 y5 y6 y7 y8 y9 y10 y11 y12 y13 y14
    go_simp
    all_goals with_reducible rfl
  try simp only [Act.put, List.getElem_toArray, List.getElem_cons_succ, List.getElem_cons_zero, List.setIfInBounds_toArray, List.set_cons_zero, List.set_cons_succ]
  refine wpAnyH_ready (rs := [31]) (by kernel_rfl) (by simp) ?_
  refine AllReadyH.cons rfl (fun K hK => ?_) AllReadyH.nil
  go_simp
  refine (gmember_any _).mono ?_
  rintro e w13 ⟨m13, rfl, h13, k13⟩
  have HK13 : Keep w12 w13 := Keep.trans hHeld k13
  have HSM := Lib.hid (gsame_any ⟨⟨Ac, nc, cc⟩, ⟨Ap, np, cp⟩, ⟨Ar, nr, cr⟩, ⟨Au, nu, cu⟩, ⟨Ah, nh, ch⟩⟩ m13 memF memF w13 (H7.out.later (K12.out.trans HK13)) h13)
  rw [decide_eq_true rfl] at HSM
  obtain ⟨C13, hC13⟩ : ∃ x, frCells m13 memF = x := ⟨_, rfl⟩
  rw [hC13] at HSM ⊢
  simp only [frCells, memF, show ((0 : Nat) : Int) = 0 from rfl, show ((1 : Nat) : Int) = 1 from rfl] at HSM
  clear h13 hC13
  have hKp : Keep w12 w13 := HK13
  refine hK.out _ _ hKp (fun _ => ?_)
  clear hK K hHeld
  refine wpAnyH_strong (S' := fun wz => Keep w13 wz) (fun wz h => Keep.trans hKp h) _ _ _ _ ?_
  have hHeld : Keep w13 w13 := Keep.refl _
  try simp only [Act.put, List.getElem_toArray, List.getElem_cons_succ, List.getElem_cons_zero, List.setIfInBounds_toArray, List.set_cons_zero, List.set_cons_succ]
  have KK13 : Hid (Keep w7 w13) := K12.out.trans HK13
  refine wpAnyH_ready (rs := [32]) (by kernel_rfl) (by simp) ?_
  refine AllReadyH.cons rfl (fun K hK => ?_) AllReadyH.nil
  go_simp
  refine (HSM.out).mono ?_
  rintro e w14 ⟨rfl, k14⟩
  have HK14 : Keep w13 w14 := Keep.trans hHeld k14
  have hKp : Keep w13 w14 := HK14
  refine hK.out _ _ hKp (fun _ => ?_)
  clear hK K hHeld
  refine wpAnyH_strong (S' := fun wz => Keep w14 wz) (fun wz h => Keep.trans hKp h) _ _ _ _ ?_
  have hHeld : Keep w14 w14 := Keep.refl _
  try simp only [Act.put, List.getElem_toArray, List.getElem_cons_succ, List.getElem_cons_zero, List.setIfInBounds_toArray, List.set_cons_zero, List.set_cons_succ]
  have KF : Hid (Keep w w14) := K7.out.trans (KK13.out.trans HK14)
  refine wpAnyH_take (i := 33) (v := ?_) rfl (by kernel_rfl) (by kernel_rfl) (by kernel_rfl) (fun _ _ _ h => h) (Or.inl ⟨by rfl, ?_⟩) hHeld ?_
  rotate_left
  · intro wq hSw
    go_simp
    all_goals with_reducible rfl
  try simp only [Act.put, List.getElem_toArray, List.getElem_cons_succ, List.getElem_cons_zero, List.setIfInBounds_toArray, List.set_cons_zero, List.set_cons_succ]
  refine wpAnyH_take (i := 34) (v := ?_) rfl (by kernel_rfl) (by kernel_rfl) (by kernel_rfl) (fun _ _ _ h => h) (Or.inl ⟨by rfl, ?_⟩) hHeld ?_
  rotate_left
  · intro wq hSw
    go_simp
    all_goals with_reducible rfl
  try simp only [Act.put, List.getElem_toArray, List.getElem_cons_succ, List.getElem_cons_zero, List.setIfInBounds_toArray, List.set_cons_zero, List.set_cons_succ]
  refine wpAnyH_take (i := 35) (v := ?_) rfl (by kernel_rfl) (by kernel_rfl) (by kernel_rfl) (fun _ _ _ h => h) (Or.inl ⟨by rfl, ?_⟩) hHeld ?_
  rotate_left
  · intro wq hSw
    go_simp
    all_goals with_reducible rfl
  try simp only [Act.put, List.getElem_toArray, List.getElem_cons_succ, List.getElem_cons_zero, List.setIfInBounds_toArray, List.set_cons_zero, List.set_cons_succ]
  refine wpAnyH_take (i := 36) (v := ?_) rfl (by kernel_rfl) (by kernel_rfl) (by kernel_rfl) (fun _ _ _ h => h) (Or.inl ⟨by rfl, ?_⟩) hHeld ?_
  rotate_left
  · intro wq hSw
    go_simp
    all_goals with_reducible rfl
  try simp only [Act.put, List.getElem_toArray, List.getElem_cons_succ, List.getElem_cons_zero, List.setIfInBounds_toArray, List.set_cons_zero, List.set_cons_succ]
  refine wpAnyH_take (i := 37) (v := ?_) rfl (by kernel_rfl) (by kernel_rfl) (by kernel_rfl) (fun _ _ _ h => h) (Or.inl ⟨by rfl, ?_⟩) hHeld ?_
  rotate_left
  · intro wq hSw
    go_simp
    all_goals with_reducible rfl
  try simp only [Act.put, List.getElem_toArray, List.getElem_cons_succ, List.getElem_cons_zero, List.setIfInBounds_toArray, List.set_cons_zero, List.set_cons_succ]
  refine wpAnyH_take (i := 38) (v := ?_) rfl (by kernel_rfl) (by kernel_rfl) (by kernel_rfl) (fun _ _ _ h => h) (Or.inl ⟨by rfl, ?_⟩) hHeld ?_
  rotate_left
  · intro wq hSw
    go_simp
    all_goals with_reducible rfl
  try simp only [Act.put, List.getElem_toArray, List.getElem_cons_succ, List.getElem_cons_zero, List.setIfInBounds_toArray, List.set_cons_zero, List.set_cons_succ]
  refine wpAnyH_take (i := 39) (v := ?_) rfl (by kernel_rfl) (by kernel_rfl) (by kernel_rfl) (fun _ _ _ h => h) (Or.inl ⟨by rfl, ?_⟩) hHeld ?_
  rotate_left
  · intro wq hSw
    go_simp
    all_goals with_reducible rfl
  try simp only [Act.put, List.getElem_toArray, List.getElem_cons_succ, List.getElem_cons_zero, List.setIfInBounds_toArray, List.set_cons_zero, List.set_cons_succ]
  refine wpAnyH_take (i := 40) (v := ?_) rfl (by kernel_rfl) (by kernel_rfl) (by kernel_rfl) (fun _ _ _ h => h) (Or.inl ⟨by rfl, ?_⟩) hHeld ?_
  rotate_left
  · intro wq hSw
    go_simp
    all_goals with_reducible rfl
  try simp only [Act.put, List.getElem_toArray, List.getElem_cons_succ, List.getElem_cons_zero, List.setIfInBounds_toArray, List.set_cons_zero, List.set_cons_succ]
  refine wpAnyH_take (i := 41) (v := ?_) rfl (by kernel_rfl) (by kernel_rfl) (by kernel_rfl) (fun _ _ _ h => h) (Or.inl ⟨by rfl, ?_⟩) hHeld ?_
  rotate_left
  · intro wq hSw
    go_simp
    all_goals with_reducible rfl
  try simp only [Act.put, List.getElem_toArray, List.getElem_cons_succ, List.getElem_cons_zero, List.setIfInBounds_toArray, List.set_cons_zero, List.set_cons_succ]
  refine wpAnyH_take (i := 42) (v := ?_) rfl (by kernel_rfl) (by kernel_rfl) (by kernel_rfl) (fun _ _ _ h => h) (Or.inl ⟨by rfl, ?_⟩) hHeld ?_
  rotate_left
  · intro wq hSw
    go_simp
    all_goals with_reducible rfl
  try simp only [Act.put, List.getElem_toArray, List.getElem_cons_succ, List.getElem_cons_zero, List.setIfInBounds_toArray, List.set_cons_zero, List.set_cons_succ]
  refine wpAnyH_done (by kernel_rfl) ?_ _
  refine NoPanic.normal ?_
  clear hHeld
  go_wp2_with fail
  go_ret
  exact ⟨rfl, KF.out⟩
end Go.Proofs.YtgkihfemlbhioaaDoor
