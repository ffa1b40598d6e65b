/- The landed frames: Put and Take. -/
import Derived.Test.YtifopodnceopjaaGreatDoorQam
import Derived.Test.YtifopodnceopjaaGreatDoorGl4
import Derived.Test.YtifopodnceopjaaGreatDoorGr6
import Derived.Test.YtifopodnceopjaaGreatDoorQab
import Derived.Test.YtifopodnceopjaaGreatDoorQaj
import Derived.Test.YtifopodnceopjaaGreatDoorQae
namespace Go.Proofs.YtifopodnceopjaaGreatDoor
open Go.RowKit Fr Crc
set_option linter.unusedVariables false
set_option linter.unusedSimpArgs false
set_option maxRecDepth 100000 in
set_option maxHeartbeats 4000000 in
theorem gput_any (m : FrM) (f : FrV) (w : World) (hT : TabW w) (hf : FrIn w w.heap.size m f) : Calls Tryz.prog 10 #[.agg (frCells m f)] w (NewPair w (putV f) (putE f)) := by
  obtain ⟨w2, hw2⟩ : ∃ w2, w.alloc (.cells (frCells m f) 52) = w2 := ⟨_, rfl⟩
  obtain ⟨k2, hbox⟩ := fr_box w _ m f hw2
  have H1 := Lib.hid (fun wx (kx : Keep w wx) => gmay_any m f wx (hf.later kx))
  have H2 := Lib.hid (fun wx (kx : Keep w wx) hm => glay_any m f wx (hf.later kx) hm)
  have HT := Lib.hid hT
  obtain ⟨PV, hPV⟩ : ∃ x, putV f = x := ⟨_, rfl⟩
  obtain ⟨PE, hPE⟩ : ∃ x, putE f = x := ⟨_, rfl⟩
  rw [hPV, hPE]
  have HY : Hid (MayF f → PV = sealN (formF f) ∧ PE = 0 ∧ (formF f).length ≤ 70000) := fun hm => ⟨by rw [← hPV, putV, if_pos hm], by rw [← hPE, putE, if_pos hm], by rw [form_len]; have := size_le hm; omega⟩
  have HN : Hid (¬ MayF f → PV = [] ∧ PE = 1) := fun hm => ⟨by rw [← hPV, putV, if_neg hm], by rw [← hPE, putE, if_neg hm]⟩
  obtain ⟨Fm, hFm⟩ : ∃ x, formF f = x := ⟨_, rfl⟩
  rw [hFm] at H2 HY
  obtain ⟨may, hmay⟩ : ∃ x, MayF f = x := ⟨_, rfl⟩
  obtain ⟨a, ha⟩ : ∃ a, decide (MayF f) = a := ⟨_, rfl⟩
  rw [ha] at H1
  have HA : Hid (a = true → MayF f) := fun e => of_decide_eq_true (ha.trans e)
  have HB : Hid (a = false → ¬ MayF f) := fun e => of_decide_eq_false (ha.trans e)
  obtain ⟨g, hg⟩ : ∃ g, w.heap.size = g := ⟨_, rfl⟩
  rw [hg] at hbox
  clear ha hmay hFm hPV hPE hT hf
  have HFF : Hid (f = f) := rfl
  obtain ⟨k, s, d, ep, lf, fl, gn, sq, fo, co, pay, rk, te, up, hp⟩ := f
  obtain ⟨⟨Ac, nc, cc⟩, ⟨Ap, np, cp⟩, ⟨Ar, nr, cr⟩, ⟨Au, nu, cu⟩, ⟨Ah, nh, ch⟩⟩ := m
  obtain ⟨⟨x0, x1, x2, x3, x4⟩, ⟨x5, x6, x7, x8⟩, ⟨x9, x10, x11⟩, x12, x13, x14⟩ := (hbox w2 (Keep.refl w2)).cells
  simp only [frCells] at hw2 H1 H2
  dsimp only at *
  have HBOX := Lib.hid hbox
  have K2 := Lib.hid k2
  clear hbox k2
  simp only [frCells]
  go_enter Tryz.func10, Tryz.ntmps10
  go_wp2_with fail
  refine (H1.out _ K2.out).mono ?_
  rintro e w3 ⟨rfl, k3⟩
  have K3 : Hid (Keep w w3) := K2.out.trans k3
  clear x0 x1 x2 x3 x4 x5 x6 x7 x8 x9 x10 x11 x12 x13 x14 hw2 hg
  obtain ⟨⟨x0, x1, x2, x3, x4⟩, ⟨x5, x6, x7, x8⟩, ⟨x9, x10, x11⟩, x12, x13, x14⟩ := (HBOX.out w3 k3).cells
  dsimp only at x0 x1 x2 x3 x4 x5 x6 x7 x8 x9 x10 x11 x12 x13 x14
  clear k3
  cases a with
  | false =>
    obtain ⟨e1, e2⟩ := HN.out (HB.out rfl)
    have FIN : Hid (NewPair w PV PE (.returned (.tuple #[.slice none 0 0, .int .i64 1])) w3) := by
      rw [e1, e2]
      exact ⟨none, 0, 0, rfl, Own.none_ _ _ _, K3.out⟩
    clear e1 e2
    go_wp2_with fail
    go_ret2
    exact FIN.out
  | true =>
    obtain ⟨e1, e2, e3⟩ := HY.out (HA.out rfl)
    have HL := Lib.hid (H2.out w3 K3.out (HA.out rfl))
    have E1 := Lib.hid e1
    have E2 := Lib.hid e2
    have E3 := Lib.hid e3
    clear e1 e2 e3
    go_wp2_with fail
    refine HL.out.mono ?_
    rintro e w4 ⟨A4, n4, c4, rfl, o4, k4⟩
    have hl4 := o4.length
    have HS := Lib.hid (cseal_any _ n4 c4 A4 Fm w4 ((HT.out.keep K3.out).keep k4) o4.bytes (Nat.le_refl _) (by have := E3.out; omega))
    have K4 : Hid (Keep w w4) := K3.out.trans k4
    clear o4 k4 hl4 x0 x1 x2 x3 x4 x5 x6 x7 x8 x9 x10 x11 x12 x13 x14
    go_wp2_with fail
    refine HS.out.mono ?_
    rintro e w5 ⟨A5, n5, c5, rfl, o5, k5⟩
    have FIN : Hid (NewPair w PV PE (.returned (.tuple #[.slice A5 n5 c5, .int .i64 0])) w5) := by
      rw [E1.out, E2.out]
      exact ⟨A5, n5, c5, rfl, o5.lower K4.out.size, K4.out.trans k5⟩
    clear o5 k5
    go_wp2_with fail
    go_ret2
    exact FIN.out
theorem resTake : Tryz.f11.results = #[.cell 2 52, .tmp 3] := by kernel_rfl
/-- What Take tells. -/
def TakeTold (xs : List Nat) (w : World) (e : Ending) (w' : World) : Prop := ∃ m : FrM, e = .returned (.tuple #[.agg (frCells m (tkV xs)), .int .i64 (tkE xs : Nat)]) ∧ FrIn w' w'.heap.size m (tkV xs) ∧ Keep w w'
theorem take_none {xs : List Nat} {w w' : World} {er : Int} (h : (tkE xs : Int) = er) (h0 : tkE xs ≠ 0) (k : Keep w w') : TakeTold xs w (.returned (.tuple #[.agg (frCells noM noF), .int .i64 er])) w' :=
  ⟨noM, by rw [take_err h0, h], by rw [take_err h0]; exact FrIn.none_ _ _, k⟩
set_option maxRecDepth 100000 in
set_option maxHeartbeats 4000000 in
theorem gtake_any (B n c : Nat) (A : Option Addr) (xs : List Nat) (w : World) (hT : TabW w) (h : Bytes w B A n xs) (hB : B ≤ w.heap.size) (hn : n ≤ 140737488351236) (hc : n ≤ c) :
    Calls Tryz.prog 11 #[.slice A n c] w (TakeTold xs w) := by
  have hl := h.length
  obtain ⟨H, hH⟩ : ∃ H, w.heap.size = H := ⟨_, rfl⟩
  obtain ⟨w1, hw1⟩ : ∃ w1, w.alloc (.cells (frCells noM noF) 52) = w1 := ⟨_, rfl⟩
  obtain ⟨k1, hbox⟩ := fr_box w _ noM noF hw1
  rw [hH] at hbox
  have HW1 : Hid (w.alloc (.cells #[.int .i64 0, .int .i64 0, .int .i64 0, .int .u64 0, .int .u64 0, .int .i64 0, .int .u64 0, .int .u64 0, .int .u64 0, .slice none 0 0, .slice none 0 0, .slice none 0 0, .int .u64 0, .slice none 0 0, .slice none 0 0] 52) = w1) := hw1
  have HBOX := Lib.hid hbox
  have K1 := Lib.hid k1
  have HOP := Lib.hid (copen_any B n c A xs w1 (hT.keep k1) (h.keep hB k1) (Nat.le_trans hB k1.size) hn hc)
  have HT := Lib.hid (hT.keep k1)
  have HHH := Lib.hid hH
  clear hbox k1 hw1 h hT
  by_cases c1 : 70000 < n
  · have FIN : Hid (∀ w', Keep w w' → TakeTold xs w (.returned (.tuple #[.agg (frCells noM noF), .int .i64 3])) w') := fun w' k => by
      have e : tkE xs = 3 := if_pos (by omega)
      exact take_none (by rw [e]; rfl) (by rw [e]; decide) k
    have b1 : (70000 : Int) < (n : Int) := by omega
    clear c1 hl
    go_enter Tryz.func11, Tryz.ntmps11
    go_wp2_with fail
    rw [HW1.out]
    have hb := HBOX.out w1 (Keep.refl _)
    refine bodyPost_ret (results_cell_two (p := 2) (u := 3) (ty := 52) resTake _ _ H 52 _ (0, 0) _ rfl (hb) Tryz.underlying52 rfl infoFr) rfl ?_
    exact FIN.out w1 K1.out
  · have b1 : ¬ (70000 : Int) < (n : Int) := by omega
    have hle : ¬ 70000 < xs.length := by omega
    have HLE := Lib.hid hle
    clear c1 hle
    go_enter Tryz.func11, Tryz.ntmps11
    go_upto_region 3 with fail
    rw [HW1.out]
    clear hH
    go_wp2_with fail
    refine HOP.out.mono ?_
    rintro e w2 ⟨A2, n2, c2, rfl, o2, k2⟩
    have K2 : Hid (Keep w w2) := K1.out.trans k2
    have rb := HBOX.out w2 k2
    have RB := Lib.hid rb
    by_cases hop : openErr xs = 0
    · have hl2 := o2.length
      have hv2 : (openVal xs).length ≤ 70000 := by
        rw [openVal, if_pos hop, frontN, List.length_take]; omega
      have HRD := Lib.hid (gread_any w2.heap.size n2 c2 A2 (openVal xs) w2 o2.bytes (Nat.le_refl _) (by omega))
      have HTK : Hid (tkE xs = if (readF (openVal xs)).isSome = true then 0 else 5) := by show _ = _; rw [tkE, if_neg HLE.out, if_pos hop]
      have HTV : Hid (tkE xs = 0 → tkV xs = (readF (openVal xs)).getD noF) := fun e => if_pos e
      have HT2 := Lib.hid (HT.out.keep k2)
      rw [hop]
      rw [show (((0 : Nat) : Int)) = 0 from rfl]
      clear hop o2 rb hl2 hv2 HOP
      go_wp2_with fail
      refine HRD.out.mono ?_
      rintro e w3 ⟨m, f, er, rfl, hf, k3, g1, g2⟩
      have HF := Lib.hid hf
      have G1 := Lib.hid g1
      have G2 := Lib.hid g2
      obtain ⟨w4, hw4⟩ : ∃ w4, w3.alloc (.cells (frCells m f) 52) = w4 := ⟨_, rfl⟩
      obtain ⟨k4, hbox4⟩ := fr_box w3 _ m f hw4
      obtain ⟨g6, hg6⟩ : ∃ g, w3.heap.size = g := ⟨_, rfl⟩
      rw [hg6] at hbox4
      have HM := Lib.hid (gmay_any m f w4 (hf _ w4 (Turned.of_keep (F := fun _ => False) k4) (fun _ e => e.elim)))
      have K4 : Hid (Keep w w4) := (K2.out.trans k3).trans k4
      have K24 : Hid (Keep w2 w4) := k3.trans k4
      have rb4 := HBOX.out w4 (k2.trans (k3.trans k4))
      have RB4 := Lib.hid rb4
      have HBOX4 := Lib.hid hbox4
      have FN : Hid ((∀ v, readF (openVal xs) = some v → False) → ∀ w', Keep w w' → TakeTold xs w (.returned (.tuple #[.agg (frCells noM noF), .int .i64 5])) w') := fun hno w' k => by
        have e5 : tkE xs = 5 := by
          rw [HTK.out]
          cases hr : readF (openVal xs) with
          | none => rfl
          | some v => exact (hno v hr).elim
        exact take_none (by rw [e5]; rfl) (by rw [e5]; decide) k
      have FY : Hid (readF (openVal xs) = some f → ∀ w', Keep w w' → FrIn w' w'.heap.size m f → TakeTold xs w (.returned (.tuple #[.agg (frCells m f), .int .i64 0])) w') := fun hr w' k hi => by
        have e0 : tkE xs = 0 := by rw [HTK.out, hr]; rfl
        have e1 : tkV xs = f := by rw [HTV.out e0, hr]; rfl
        exact ⟨m, by rw [e0, e1]; rfl, by rw [e1]; exact hi, k⟩
      have HFL : Hid (∀ w5 cells, Keep w4 w5 → FrIn (w5.setRow H cells) (w5.setRow H cells).heap.size m f) := fun w5 cells k => hf _ _ (((Turned.of_keep (F := fun b => b = H) (k4.trans k))).trans (turned_row w5 H cells) (fun b e => Or.inl e)) (fun b e => by
        have h1 := K1.out.size
        have h2 := HHH.out
        have h3 := (HBOX.out w1 (Keep.refl _)).lt
        have h4 := k2.size
        omega)
      clear hf g1 g2 k4 hbox4 k2 k3
      obtain ⟨may, hmay⟩ : ∃ x, decide (MayF f) = x := ⟨_, rfl⟩
      rw [hmay] at HM
      have HY : Hid (may = true → MayF f) := fun e => of_decide_eq_true (hmay.trans e)
      have HNO : Hid (may = false → ¬ MayF f) := fun e => of_decide_eq_false (hmay.trans e)
      clear hmay
      have HE : Hid (er ≠ 0 → ∀ v, readF (openVal xs) = some v → False) := fun h v hv => by rw [G2.out h] at hv; cases hv
      have HN2 : Hid (er = 0 → may = false → ∀ v, readF (openVal xs) = some v → False) := fun h hm v hv => by
        rcases G1.out h with h1 | ⟨_, h1⟩
        · unfold readF at hv
          rw [h1] at hv
          dsimp only at hv
          rw [if_neg (HNO.out hm)] at hv
          cases hv
        · rw [h1] at hv; cases hv
      have HY2 : Hid (er = 0 → may = true → readF (openVal xs) = some f) := fun h hm => by
        rcases G1.out h with h1 | ⟨h1, _⟩
        · unfold readF
          rw [h1]
          dsimp only
          rw [if_pos (HY.out hm)]
        · exact absurd (HY.out hm) h1
      clear G1 G2 HY HNO HTK HTV
      obtain ⟨k, s, d, ep, lf, fl, gn, sq, fo, co, pay, rk, te, up, hp⟩ := f
      obtain ⟨⟨Ac, nc, cc⟩, ⟨Ap, np, cp⟩, ⟨Ar, nr, cr⟩, ⟨Au, nu, cu⟩, ⟨Ah, nh, ch⟩⟩ := m
      simp only [frCells] at hw4 HM FY
      have HW4 := Lib.hid hw4
      have HG6 := Lib.hid hg6
      simp only [frCells]
      clear hw4 hg6
      unfold FrBox at rb4
      go_upto_region 7 with fail
      rw [HW4.out, HG6.out]
      by_cases h0 : er = 0
      · obtain ⟨⟨x0, x1, x2, x3, x4⟩, ⟨x5, x6, x7, x8⟩, ⟨x9, x10, x11⟩, x12, x13, x14⟩ := (HBOX4.out w4 (Keep.refl w4)).cells
        dsimp only at x0 x1 x2 x3 x4 x5 x6 x7 x8 x9 x10 x11 x12 x13 x14
        have H0 := Lib.hid h0
        subst h0
        go_wp2_with fail
        refine HM.out.mono ?_
        rintro e w5 ⟨rfl, k5⟩
        have K5 := Lib.hid k5
        have K45 : Hid (Keep w2 w5) := K24.out.trans k5
        have rb5 : w5.heap[H]? = _ := RB4.out.keep k5
        have rc5 : w5.heap[g6]? = _ := (HBOX4.out w4 (Keep.refl w4)).keep k5
        clear x0 x1 x2 x3 x4 x5 x6 x7 x8 x9 x10 x11 x12 x13 x14 k5 rb4
        cases may with
        | false =>
          have KF := K4.out.trans K5.out
          have KF2 : Hid (Keep w (w5.setRow H #[.int .i64 0, .int .i64 0, .int .i64 0, .int .u64 0, .int .u64 0, .int .i64 0, .int .u64 0, .int .u64 0, .int .u64 0, .slice none 0 0, .slice none 0 0, .slice none 0 0, .int .u64 0, .slice none 0 0, .slice none 0 0])) := KF.setRow (by have := HHH.out; omega) rb5
          have RF := Lib.hid rb5
          have FIN := Lib.hid (FN.out (HN2.out (by first | rfl | trivial) (by first | rfl | trivial)))
          clear KF rc5
          go_wp2_with (refine wpList_store_rowTo rfl 52 (.tmp 2) (.tmp 32) rfl rfl H #[.int .i64 0, .int .i64 0, .int .i64 0, .int .u64 0, .int .u64 0, .int .i64 0, .int .u64 0, .int .u64 0, .int .u64 0, .slice none 0 0, .slice none 0 0, .slice none 0 0, .int .u64 0, .slice none 0 0, .slice none 0 0] rfl rfl 52 _ rb5 infoFr rfl (by kernel_rfl) ?_)
          refine bodyPost_ret (results_cell_two (p := 2) (u := 3) (ty := 52) resTake _ _ H 52 _ (0, 0) _ rfl (setRow_heap _ _ _ _ _ _ RF.out) Tryz.underlying52 rfl infoFr) rfl ?_
          exact FIN.out _ KF2.out
        | true =>
          obtain ⟨⟨x0, x1, x2, x3, x4⟩, ⟨x5, x6, x7, x8⟩, ⟨x9, x10, x11⟩, x12, x13, x14⟩ := (HBOX4.out w5 K5.out).cells
          dsimp only at x0 x1 x2 x3 x4 x5 x6 x7 x8 x9 x10 x11 x12 x13 x14
          have RF := Lib.hid rb5
          have FIN := Lib.hid (FY.out (HY2.out (by first | rfl | trivial) (by first | rfl | trivial)))
          have FW := Lib.hid (HFL.out w5 #[.int .i64 k, .int .i64 s, .int .i64 d, .int .u64 (ep : Int), .int .u64 (lf : Int), .int .i64 fl, .int .u64 (gn : Int), .int .u64 (sq : Int), .int .u64 (fo : Int), .slice Ac nc cc, .slice Ap np cp, .slice Ar nr cr, .int .u64 (te : Int), .slice Au nu cu, .slice Ah nh ch] K5.out)
          have KF2 : Hid (Keep w (w5.setRow H #[.int .i64 k, .int .i64 s, .int .i64 d, .int .u64 (ep : Int), .int .u64 (lf : Int), .int .i64 fl, .int .u64 (gn : Int), .int .u64 (sq : Int), .int .u64 (fo : Int), .slice Ac nc cc, .slice Ap np cp, .slice Ar nr cr, .int .u64 (te : Int), .slice Au nu cu, .slice Ah nh ch])) := (K4.out.trans K5.out).setRow (by have := HHH.out; omega) rb5
          clear rc5
          go_wp2_with (refine wpList_store_rowTo rfl 52 (.tmp 2) (.tmp 33) rfl rfl H #[.int .i64 k, .int .i64 s, .int .i64 d, .int .u64 (ep : Int), .int .u64 (lf : Int), .int .i64 fl, .int .u64 (gn : Int), .int .u64 (sq : Int), .int .u64 (fo : Int), .slice Ac nc cc, .slice Ap np cp, .slice Ar nr cr, .int .u64 (te : Int), .slice Au nu cu, .slice Ah nh ch] rfl rfl 52 _ RF.out infoFr rfl (by kernel_rfl) ?_)
          refine bodyPost_ret (results_cell_two (p := 2) (u := 3) (ty := 52) resTake _ _ H 52 _ (0, 0) _ rfl (setRow_heap _ _ _ _ _ _ RF.out) Tryz.underlying52 rfl infoFr) rfl ?_
          exact FIN.out _ KF2.out FW.out
      · have b7 : (er != 0) = true := by rw [bne_iff_ne]; exact h0
        have FIN := Lib.hid (FN.out (HE.out h0))
        have KF2 : Hid (Keep w (w4.setRow H #[.int .i64 0, .int .i64 0, .int .i64 0, .int .u64 0, .int .u64 0, .int .i64 0, .int .u64 0, .int .u64 0, .int .u64 0, .slice none 0 0, .slice none 0 0, .slice none 0 0, .int .u64 0, .slice none 0 0, .slice none 0 0])) := K4.out.setRow (by have := HHH.out; omega) rb4
        clear h0 rb4
        go_wp2_with (refine wpList_store_rowTo rfl 52 (.tmp 2) (.tmp 32) rfl rfl H #[.int .i64 0, .int .i64 0, .int .i64 0, .int .u64 0, .int .u64 0, .int .i64 0, .int .u64 0, .int .u64 0, .int .u64 0, .slice none 0 0, .slice none 0 0, .slice none 0 0, .int .u64 0, .slice none 0 0, .slice none 0 0] rfl rfl 52 _ RB4.out infoFr rfl (by kernel_rfl) ?_)
        refine bodyPost_ret (results_cell_two (p := 2) (u := 3) (ty := 52) resTake _ _ H 52 _ (0, 0) _ rfl (setRow_heap _ _ _ _ _ _ RB4.out) Tryz.underlying52 rfl infoFr) rfl ?_
        exact FIN.out _ KF2.out
    · have HTK : Hid (tkE xs = openErr xs) := by show _ = _; rw [tkE, if_neg HLE.out, if_neg hop]
      have HNE : Hid (openErr xs ≠ 0) := hop
      obtain ⟨er, her⟩ : ∃ er : Int, ((openErr xs : Nat) : Int) = er := ⟨_, rfl⟩
      rw [her]
      have b7 : (er != 0) = true := by rw [bne_iff_ne]; omega
      have FIN : Hid (∀ w', Keep w w' → TakeTold xs w (.returned (.tuple #[.agg (frCells noM noF), .int .i64 er])) w') := fun w' k => take_none (by rw [HTK.out]; exact her) (by rw [HTK.out]; exact HNE.out) k
      have KF2 : Hid (Keep w (w2.setRow H #[.int .i64 0, .int .i64 0, .int .i64 0, .int .u64 0, .int .u64 0, .int .i64 0, .int .u64 0, .int .u64 0, .int .u64 0, .slice none 0 0, .slice none 0 0, .slice none 0 0, .int .u64 0, .slice none 0 0, .slice none 0 0])) := K2.out.setRow (by have := HHH.out; omega) rb
      clear hop o2 rb her HOP k2
      go_wp2_with (refine wpList_store_rowTo rfl 52 (.tmp 2) (.tmp 18) rfl rfl H #[.int .i64 0, .int .i64 0, .int .i64 0, .int .u64 0, .int .u64 0, .int .i64 0, .int .u64 0, .int .u64 0, .int .u64 0, .slice none 0 0, .slice none 0 0, .slice none 0 0, .int .u64 0, .slice none 0 0, .slice none 0 0] rfl rfl 52 _ RB.out infoFr rfl (by kernel_rfl) ?_)
      refine bodyPost_ret (results_cell_two (p := 2) (u := 3) (ty := 52) resTake _ _ H 52 _ (0, 0) _ rfl (setRow_heap _ _ _ _ _ _ RB.out) Tryz.underlying52 rfl infoFr) rfl ?_
      exact FIN.out _ KF2.out
end Go.Proofs.YtifopodnceopjaaGreatDoor
/- What Take tells lies apart from all that was there. -/
namespace Go.Proofs.YtifopodnceopjaaGreatDoor
open Go.RowKit Fr Crc
set_option linter.unusedVariables false
set_option linter.unusedSimpArgs false
end Go.Proofs.YtifopodnceopjaaGreatDoor
/- A row, as a frame of data. -/
namespace Go.Proofs.YtifopodnceopjaaGreatDoor
open Go.RowKit Fr Crc
set_option linter.unusedVariables false
/-- A row that goes. -/
def rowF (a d seq : Nat) (co pay : List Nat) : FrV := ⟨1, (a : Int), (d : Int), 0, 1, 0, 2, seq, 0, co, pay, [], 0, [], []⟩
def rowM (A1 A2 : Option Addr) (n1 n2 c1 c2 : Nat) : FrM := ⟨⟨A1, n1, c1⟩, ⟨A2, n2, c2⟩, ⟨none, 0, 0⟩, ⟨none, 0, 0⟩, ⟨none, 0, 0⟩⟩
theorem may_row {a d seq : Nat} {co pay : List Nat} (ha : a ≤ 1) (hd : d = a + 1) (h1 : 1 ≤ seq) (h2 : seq ≤ 60) (c1 : 1 ≤ co.length) (c2 : co.length ≤ 5) (p1 : 1 ≤ pay.length) (p2 : pay.length ≤ 5) : MayF (rowF a d seq co pay) where
  k1 := show (1 : Int) ≤ 1 by decide
  k6 := show (1 : Int) ≤ 6 by decide
  s0 := Int.natCast_nonneg _
  s63 := by show (a : Int) ≤ 63; omega
  d0 := Int.natCast_nonneg _
  d63 := by show (d : Int) ≤ 63; omega
  ep := show (0 : Nat) ≤ 1125899906842624 by decide
  life := show (1 : Nat) ≤ 1125899906842624 by decide
  bare := rfl
  member := fun h => absurd (show (1 : Int) = 5 from h) (by decide)
  other := fun _ => ⟨by show (a : Int) ≠ (d : Int); omega, show (1 : Nat) ≤ 1 by decide, show (0 : Int) ≤ 0 by decide, show (0 : Int) ≤ 3 by decide, by show seq ≤ _; omega, show (0 : Nat) ≤ 1125899906842624 by decide, show (2 : Nat) ≤ 1099511627776 by decide⟩
  data := fun _ => ⟨show (2 : Nat) < 1099511627776 by decide, h1, c1, by show co.length < _; omega, p1, by show pay.length < _; omega⟩
  feed := fun h => absurd (show (1 : Int) = 2 from h) (by decide)
  cred := fun h => absurd (show (1 : Int) = 3 from h) (by decide)
theorem fr_row {w : World} {B a d seq n1 n2 c1 c2 : Nat} {A1 A2 : Option Addr} {co pay : List Nat} (ha : a ≤ 1) (hd : d = a + 1) (hs : seq ≤ 60) (h1 : Bytes w B A1 n1 co) (h2 : Bytes w B A2 n2 pay) (l1 : n1 ≤ c1) (l2 : n2 ≤ c2) (m1 : n1 ≤ 1000) (m2 : n2 ≤ 1000) : FrIn w B (rowM A1 A2 n1 n2 c1 c2) (rowF a d seq co pay) :=
  ⟨h1, h2, RanksAt.none_ _ _ _, UpsAt.none_ _ _ _, HopsAt.none_ _ _ _, by simp only [rowM, SlV.ok]; omega, by simp only [rowF, I64]; omega, by simp only [rowF, U64]; omega, fun r hr => by simp [rowF] at hr, fun l hl => by simp [rowF] at hl⟩
end Go.Proofs.YtifopodnceopjaaGreatDoor
/- Arguments of layer 8's statements: shaped. -/
namespace Go.Proofs.YtifopodnceopjaaGreatDoor
open Go.RowKit
set_option linter.unusedVariables false
set_option linter.unusedSimpArgs false
theorem tab_set (n : Nat) (f : Nat → Nat) (k v : Nat) : (tab n f).set k v = tab n fun i => if i = k then v else f i := by
  refine list_ext (by simp [tab_length]) fun i hi => ?_
  simp [tab_length] at hi
  rw [tab_getD, if_pos hi, List.getD_eq_getElem?_getD, List.getElem?_set]
  by_cases e : k = i
  · subst e; simp [tab_length, hi]
  · rw [if_neg e, if_neg (fun h => e h.symm), ← List.getD_eq_getElem?_getD, tab_getD, if_pos hi]
theorem replicate_tab (n : Nat) : List.replicate n 0 = tab n fun _ => 0 := list_ext (by simp [tab_length]) fun i hi => by
  simp at hi
  rw [tab_getD, if_pos hi]; simp [List.getD_eq_getElem?_getD, hi]
/-- A row of so many numbers, out of a list, and the rows. -/
def shapeR (xs : List Nat) (cols i : Nat) : List Nat := tab cols fun k => xs.getD (i * cols + k) 0
def shapeN (xs : List Nat) (rows cols : Nat) : List (List Nat) := (List.range rows).map fun k => shapeR xs cols k
def partP (xs : List Nat) (cols i k : Nat) : List Nat := tab cols fun x => if x < k then xs.getD (i * cols + x) 0 else 0
theorem partP_step (xs : List Nat) (cols i k : Nat) : (partP xs cols i k).set k (xs.getD (i * cols + k) 0) = partP xs cols i (k + 1) := by
  rw [partP, tab_set]
  exact tab_congr fun x _ => by
    by_cases h : x = k
    · subst h; rw [if_pos rfl, if_pos (by omega)]
    · rw [if_neg h]
      by_cases h2 : x < k
      · rw [if_pos h2, if_pos (by omega)]
      · rw [if_neg h2, if_neg (by omega)]
theorem partP_done (xs : List Nat) (cols i k : Nat) (h : k = cols ∨ xs.length ≤ i * cols + k) : partP xs cols i k = shapeR xs cols i := tab_congr fun x hx => by
  by_cases h2 : x < k
  · rw [if_pos h2]
  · rw [if_neg h2]
    rcases h with h | h
    · omega
    · rw [List.getD_eq_getElem?_getD, List.getElem?_eq_none (by omega)]; rfl
theorem shape_sz (xs : List Nat) (rows cols : Nat) (ha : AllB xs) : Sz rows cols (shapeN xs rows cols) := ⟨by simp [shapeN], fun x hx => by
  obtain ⟨k, _, rfl⟩ := List.mem_map.1 hx
  refine ⟨tab_length _ _, fun y hy => ?_⟩
  obtain ⟨j, _, rfl⟩ := List.mem_map.1 hy
  exact ha.getD _⟩
theorem shapeN_succ (xs : List Nat) (i cols : Nat) : shapeN xs (i + 1) cols = shapeN xs i cols ++ [shapeR xs cols i] := by simp [shapeN, List.range_succ]
end Go.Proofs.YtifopodnceopjaaGreatDoor
/- The symbols that TopBasis lays. -/
namespace Go.Proofs.YtifopodnceopjaaGreatDoor
open Go.RowKit
set_option linter.unusedVariables false
set_option linter.unusedSimpArgs false
set_option maxRecDepth 100000 in
set_option maxHeartbeats 4000000 in
theorem symbols_mat (B n c rows cols : Nat) (A : Option Addr) (xs : List Nat) (w : World) (h : Bytes w B A n xs) (hB : B ≤ w.heap.size) (hn : n ≤ 140737488355328) (h1 : rows ≤ 1000) (h2 : cols ≤ 1000) :
    Calls Tryz.prog 4 #[.slice A n c, .int .i64 (rows : Int), .int .i64 (cols : Int)] w fun e w' => ∃ A' n' c', e = .returned (.slice A' n' c') ∧ Mat w' ⟨A', n', c', shapeN xs rows cols⟩ ∧ Keep w w' := by
  have H := Lib.hid h
  have HXL : Hid (xs.length = n) := h.length
  have mk2 := fun w => run_make_bytes (P := Tryz.prog) Tryz.underlying22 info5 cols (by omega) w
  clear h
  go_enter Tryz.func4, Tryz.ntmps4
  go_wp2_with fail
  go_loopw [7, 8] (fun mv iv wr => ∃ (i : Nat) (A : Option Addr) (c : Nat) (rs : List RowV), i ≤ rows ∧ iv = .int .i64 i ∧ mv = .slice A i c ∧ Lay w wr A i c rs ∧ rowsXs rs = shapeN xs i cols) (fun _ iv _ => rows - (intOf iv).toNat)
  case atStart => exact ⟨0, none, 0, [], by omega, rfl, rfl, Lay.nothing w, rfl⟩
  case round =>
    obtain ⟨i, A1, c1, rs, hi, rfl, rfl, hL, hx⟩ := hrel
    have HL := Lib.hid hL
    have HX := Lib.hid hx
    by_cases hlt : i < rows
    · have e1 : (0 : Int) ≤ (i : Int) := Int.natCast_nonneg _
      have e2 : (i : Int) < (rows : Int) := by omega
      obtain ⟨gr, hgr⟩ : ∃ gr, wr.heap.size = gr := ⟨_, rfl⟩
      have oR := Own.made wr 5 cols (by omega)
      rw [hgr, show List.replicate cols 0 = partP xs cols i 0 by rw [replicate_tab, partP]; exact tab_congr fun x _ => by rw [if_neg (by omega)]] at oR
      generalize madeCells #[.int .u8 0] cols = MC at *
      have OS := Lib.hid oR
      have KS : Hid (Keep wr (wr.alloc (.cells MC 5))) := (Keep.refl wr).alloc _ _
      have HG := Lib.hid hgr
      clear hL hx oR
      go_wp2_with fail
      try rw [HG.out]
      clear hgr
      go_loopw [10] (fun kv wz => ∃ k : Nat, k ≤ cols ∧ kv = .int .i64 k ∧ Own wz gr 5 (some ⟨gr, 0, none⟩) cols cols (partP xs cols i k) ∧ Keep wr wz) (fun kv _ => cols - (intOf kv).toNat)
      case atStart => exact ⟨0, by omega, rfl, OS.out, KS.out⟩
      case round =>
        clear OS KS
        obtain ⟨k, hkc, rfl, hoz, hkz⟩ := hrel
        obtain ⟨p, hp⟩ : ∃ p, i * cols = p := ⟨_, rfl⟩
        have hpb : p ≤ 1000000 := by rw [← hp]; exact Nat.le_trans (Nat.mul_le_mul (show i ≤ 1000 by omega) h2) (by decide)
        have d1 : (i : Int) * (cols : Int) = (p : Int) := by rw [← hp]; simp
        obtain ⟨s, hs⟩ : ∃ s, p + k = s := ⟨_, rfl⟩
        have d2 : (p : Int) + (k : Int) = (s : Int) := by omega
        have w1 : IntKind.i64.wrap (p : Int) = (p : Int) := IntWalk.i64_in _ (by omega)
        have w2 : IntKind.i64.wrap (s : Int) = (s : Int) := IntWalk.i64_in _ (by omega)
        have hips : i * cols + k = s := by rw [hp, hs]
        have f1 : (0 : Int) ≤ (k : Int) := Int.natCast_nonneg _
        by_cases hin : k < cols ∧ s < n
        · have f2 : (k : Int) < (cols : Int) := by omega
          have f3 : (s : Int) < (n : Int) := by omega
          have f4 : decide ((s : Int) < (n : Int)) = true := decide_eq_true f3
          have f4' : decide (s < n) = true := decide_eq_true hin.2
          have f5 : (0 : Int) ≤ (s : Int) := Int.natCast_nonneg _
          obtain ⟨b1, o1, rfl, hb1, c2⟩ := (H.out.keep hB (HL.out.keep.trans hkz)).at_ hin.2
          have c3 := hoz.frozen k
          have c4 := hoz.cell hin.1
          have hx : xs.getD s 0 < 256 := H.out.2.1.getD s
          have o2 := hoz.stored (i := k) (v := xs.getD s 0) hx
          have hps := partP_step xs cols i k
          rw [hips] at hps
          rw [hps] at o2
          have HO2 := Lib.hid o2
          have HK2 := Lib.hid (hkz.setCell (a := ⟨gr, k, none⟩) (by rw [HG.out]; exact Nat.le_refl _) (.int .u8 ((xs.getD s 0 : Nat) : Int)))
          generalize xs.getD s 0 = x at *
          clear hoz hkz o2 hps hips hp hs hb1
          go_wp2_with fail
          go_roundw
          case rel => exact ⟨k + 1, by omega, by go_num, HO2.out, HK2.out⟩
          case measure => simp [intOf]; omega
        · have hdone := partP_done xs cols i k (by rw [HXL.out, hips]; omega)
          rw [hdone] at hoz
          have HOz := Lib.hid hoz
          have HLz := Lib.hid (HL.out.later hkz)
          have HXz : Hid (rowsXs (rs ++ [⟨some ⟨gr, 0, none⟩, cols, cols, shapeR xs cols i⟩]) = shapeN xs (i + 1) cols) := by
            show _ = _
            rw [shapeN_succ, ← HX.out]; simp [rowsXs]
          clear hoz hkz hdone hips hp hs
          by_cases hkk : k < cols
          · have f2 : (k : Int) < (cols : Int) := by omega
            have f3 : ¬ (s : Int) < (n : Int) := by omega
            have f4 : decide ((s : Int) < (n : Int)) = false := decide_eq_false f3
            have f4' : decide (s < n) = false := decide_eq_false (by omega)
            clear hin
            go_wp2_with (at_builtin; refine wpList_append_layrow rfl _ _ 25 rfl ⟨some ⟨gr, 0, none⟩, cols, cols, shapeR xs cols i⟩ 22 Tryz.underlying25 rfl HLz.out (HLz.out.own HOz.out) rfl (by omega) ?_)
            intro A8 c8 w8 h8
            have H8 := Lib.hid h8
            clear h8
            go_wp2_with fail
            go_roundw
            case rel => exact ⟨i + 1, A8, c8, _, by omega, by go_num, rfl, H8.out, HXz.out⟩
            case measure => simp [intOf]; omega
          · have f2 : ¬ (k : Int) < (cols : Int) := by omega
            clear hin
            go_wp2_with (at_builtin; refine wpList_append_layrow rfl _ _ 25 rfl ⟨some ⟨gr, 0, none⟩, cols, cols, shapeR xs cols i⟩ 22 Tryz.underlying25 rfl HLz.out (HLz.out.own HOz.out) rfl (by omega) ?_)
            intro A8 c8 w8 h8
            have H8 := Lib.hid h8
            clear h8
            go_wp2_with fail
            go_roundw
            case rel => exact ⟨i + 1, A8, c8, _, by omega, by go_num, rfl, H8.out, HXz.out⟩
            case measure => simp [intOf]; omega
    · obtain rfl : i = rows := by omega
      have hm := hL.mat
      rw [hx] at hm
      have HM := Lib.hid hm
      have HK := Lib.hid hL.keep
      clear hL hx hm
      go_wp2_with fail
      go_ret
      exact ⟨_, _, _, rfl, HM.out, HK.out⟩
end Go.Proofs.YtifopodnceopjaaGreatDoor
