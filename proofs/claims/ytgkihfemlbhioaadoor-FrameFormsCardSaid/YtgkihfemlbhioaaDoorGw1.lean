/- The landed frames: Put and Take. -/
import Derived.Test.YtgkihfemlbhioaaDoorGv7
import Derived.Test.YtgkihfemlbhioaaDoorGl4
import Derived.Test.YtgkihfemlbhioaaDoorGr6
import Derived.Test.YtgkihfemlbhioaaDoorFcc
namespace Go.Proofs.YtgkihfemlbhioaaDoor
open Go.RowKit Fr Crc
set_option linter.unusedVariables false
set_option linter.unusedSimpArgs false
set_option maxRecDepth 100000 in
set_option maxHeartbeats 4000000 in
theorem gput_any (m : FrM) (f : FrV) (w : World) (hT : TabW w) (hf : FrIn w w.heap.size m f) : Calls Tryd.prog 9 #[.agg (frCells m f)] w (NewPair w (putV f) (putE f)) := by
  obtain ⟨w2, hw2⟩ : ∃ w2, w.alloc (.cells (frCells m f) 32) = w2 := ⟨_, rfl⟩
  obtain ⟨k2, hbox⟩ := fr_box w _ m f hw2
  have H1 := Lib.hid (fun wx (kx : Keep w wx) => gmay_any m f wx (hf.later kx))
  have H2 := Lib.hid (fun wx (kx : Keep w wx) hm => glay_any m f wx (hf.later kx) hm)
  have HT := Lib.hid hT
  obtain ⟨PV, hPV⟩ : ∃ x, putV f = x := ⟨_, rfl⟩
  obtain ⟨PE, hPE⟩ : ∃ x, putE f = x := ⟨_, rfl⟩
  rw [hPV, hPE]
  have HY : Hid (MayF f → PV = sealN (formF f) ∧ PE = 0 ∧ (formF f).length ≤ 70000) := fun hm => ⟨by rw [← hPV, putV, if_pos hm], by rw [← hPE, putE, if_pos hm], by rw [form_len]; have := size_le hm; omega⟩
  have HN : Hid (¬ MayF f → PV = [] ∧ PE = 1) := fun hm => ⟨by rw [← hPV, putV, if_neg hm], by rw [← hPE, putE, if_neg hm]⟩
  obtain ⟨Fm, hFm⟩ : ∃ x, formF f = x := ⟨_, rfl⟩
  rw [hFm] at H2 HY
  obtain ⟨may, hmay⟩ : ∃ x, MayF f = x := ⟨_, rfl⟩
  obtain ⟨a, ha⟩ : ∃ a, decide (MayF f) = a := ⟨_, rfl⟩
  rw [ha] at H1
  have HA : Hid (a = true → MayF f) := fun e => of_decide_eq_true (ha.trans e)
  have HB : Hid (a = false → ¬ MayF f) := fun e => of_decide_eq_false (ha.trans e)
  obtain ⟨g, hg⟩ : ∃ g, w.heap.size = g := ⟨_, rfl⟩
  rw [hg] at hbox
  clear ha hmay hFm hPV hPE hT hf
  have HFF : Hid (f = f) := rfl
  obtain ⟨k, s, d, ep, lf, fl, gn, sq, fo, co, pay, rk, te, up, hp⟩ := f
  obtain ⟨⟨Ac, nc, cc⟩, ⟨Ap, np, cp⟩, ⟨Ar, nr, cr⟩, ⟨Au, nu, cu⟩, ⟨Ah, nh, ch⟩⟩ := m
  obtain ⟨⟨x0, x1, x2, x3, x4⟩, ⟨x5, x6, x7, x8⟩, ⟨x9, x10, x11⟩, x12, x13, x14⟩ := (hbox w2 (Keep.refl w2)).cells
  simp only [frCells] at hw2 H1 H2
  dsimp only at *
  have HBOX := Lib.hid hbox
  have K2 := Lib.hid k2
  clear hbox k2
  simp only [frCells]
  go_enter Tryd.func9, Tryd.ntmps9
  go_wp2_with fail
  refine (H1.out _ K2.out).mono ?_
  rintro e w3 ⟨rfl, k3⟩
  have K3 : Hid (Keep w w3) := K2.out.trans k3
  clear x0 x1 x2 x3 x4 x5 x6 x7 x8 x9 x10 x11 x12 x13 x14 hw2 hg
  obtain ⟨⟨x0, x1, x2, x3, x4⟩, ⟨x5, x6, x7, x8⟩, ⟨x9, x10, x11⟩, x12, x13, x14⟩ := (HBOX.out w3 k3).cells
  dsimp only at x0 x1 x2 x3 x4 x5 x6 x7 x8 x9 x10 x11 x12 x13 x14
  clear k3
  cases a with
  | false =>
    obtain ⟨e1, e2⟩ := HN.out (HB.out rfl)
    have FIN : Hid (NewPair w PV PE (.returned (.tuple #[.slice none 0 0, .int .i64 1])) w3) := by
      rw [e1, e2]
      exact ⟨none, 0, 0, rfl, Own.none_ _ _ _, K3.out⟩
    clear e1 e2
    go_wp2_with fail
    go_ret2
    exact FIN.out
  | true =>
    obtain ⟨e1, e2, e3⟩ := HY.out (HA.out rfl)
    have HL := Lib.hid (H2.out w3 K3.out (HA.out rfl))
    have E1 := Lib.hid e1
    have E2 := Lib.hid e2
    have E3 := Lib.hid e3
    clear e1 e2 e3
    go_wp2_with fail
    refine HL.out.mono ?_
    rintro e w4 ⟨A4, n4, c4, rfl, o4, k4⟩
    have hl4 := o4.length
    have HS := Lib.hid (cseal_any _ n4 c4 A4 Fm w4 ((HT.out.keep K3.out).keep k4) o4.bytes (Nat.le_refl _) (by have := E3.out; omega))
    have K4 : Hid (Keep w w4) := K3.out.trans k4
    clear o4 k4 hl4 x0 x1 x2 x3 x4 x5 x6 x7 x8 x9 x10 x11 x12 x13 x14
    go_wp2_with fail
    refine HS.out.mono ?_
    rintro e w5 ⟨A5, n5, c5, rfl, o5, k5⟩
    have FIN : Hid (NewPair w PV PE (.returned (.tuple #[.slice A5 n5 c5, .int .i64 0])) w5) := by
      rw [E1.out, E2.out]
      exact ⟨A5, n5, c5, rfl, o5.lower K4.out.size, K4.out.trans k5⟩
    clear o5 k5
    go_wp2_with fail
    go_ret2
    exact FIN.out
theorem resTake : Tryd.f11.results = #[.cell 2 32, .tmp 3] := by kernel_rfl
/-- What Take tells. -/
def TakeTold (xs : List Nat) (w : World) (e : Ending) (w' : World) : Prop := ∃ m : FrM, e = .returned (.tuple #[.agg (frCells m (tkV xs)), .int .i64 (tkE xs : Nat)]) ∧ FrIn w' w'.heap.size m (tkV xs) ∧ Keep w w'
theorem take_none {xs : List Nat} {w w' : World} {er : Int} (h : (tkE xs : Int) = er) (h0 : tkE xs ≠ 0) (k : Keep w w') : TakeTold xs w (.returned (.tuple #[.agg (frCells noM noF), .int .i64 er])) w' :=
  ⟨noM, by rw [take_err h0, h], by rw [take_err h0]; exact FrIn.none_ _ _, k⟩
set_option maxRecDepth 100000 in
set_option maxHeartbeats 4000000 in
theorem gtake_any (B n c : Nat) (A : Option Addr) (xs : List Nat) (w : World) (hT : TabW w) (h : Bytes w B A n xs) (hB : B ≤ w.heap.size) (hn : n ≤ 140737488351236) (hc : n ≤ c) :
    Calls Tryd.prog 11 #[.slice A n c] w (TakeTold xs w) := by
  have hl := h.length
  obtain ⟨H, hH⟩ : ∃ H, w.heap.size = H := ⟨_, rfl⟩
  obtain ⟨w1, hw1⟩ : ∃ w1, w.alloc (.cells (frCells noM noF) 32) = w1 := ⟨_, rfl⟩
  obtain ⟨k1, hbox⟩ := fr_box w _ noM noF hw1
  rw [hH] at hbox
  have HW1 : Hid (w.alloc (.cells #[.int .i64 0, .int .i64 0, .int .i64 0, .int .u64 0, .int .u64 0, .int .i64 0, .int .u64 0, .int .u64 0, .int .u64 0, .slice none 0 0, .slice none 0 0, .slice none 0 0, .int .u64 0, .slice none 0 0, .slice none 0 0] 32) = w1) := hw1
  have HBOX := Lib.hid hbox
  have K1 := Lib.hid k1
  have HOP := Lib.hid (copen_any B n c A xs w1 (hT.keep k1) (h.keep hB k1) (Nat.le_trans hB k1.size) hn hc)
  have HT := Lib.hid (hT.keep k1)
  have HHH := Lib.hid hH
  clear hbox k1 hw1 h hT
  by_cases c1 : 70000 < n
  · have FIN : Hid (∀ w', Keep w w' → TakeTold xs w (.returned (.tuple #[.agg (frCells noM noF), .int .i64 3])) w') := fun w' k => by
      have e : tkE xs = 3 := if_pos (by omega)
      exact take_none (by rw [e]; rfl) (by rw [e]; decide) k
    have b1 : (70000 : Int) < (n : Int) := by omega
    clear c1 hl
    go_enter Tryd.func11, Tryd.ntmps11
    go_wp2_with fail
    rw [HW1.out]
    have hb := HBOX.out w1 (Keep.refl _)
    refine bodyPost_ret (results_cell_two (p := 2) (u := 3) (ty := 32) resTake _ _ H 32 _ (0, 0) _ rfl (hb) Tryd.underlying32 rfl infoFr) rfl ?_
    exact FIN.out w1 K1.out
  · have b1 : ¬ (70000 : Int) < (n : Int) := by omega
    have hle : ¬ 70000 < xs.length := by omega
    have HLE := Lib.hid hle
    clear c1 hle
    go_enter Tryd.func11, Tryd.ntmps11
    go_upto_region 3 with fail
    rw [HW1.out]
    clear hH
    go_wp2_with fail
    refine HOP.out.mono ?_
    rintro e w2 ⟨A2, n2, c2, rfl, o2, k2⟩
    have K2 : Hid (Keep w w2) := K1.out.trans k2
    have rb := HBOX.out w2 k2
    have RB := Lib.hid rb
    by_cases hop : openErr xs = 0
    · have hl2 := o2.length
      have hv2 : (openVal xs).length ≤ 70000 := by
        rw [openVal, if_pos hop, frontN, List.length_take]; omega
      have HRD := Lib.hid (gread_any w2.heap.size n2 c2 A2 (openVal xs) w2 o2.bytes (Nat.le_refl _) (by omega))
      have HTK : Hid (tkE xs = if (readF (openVal xs)).isSome = true then 0 else 5) := by show _ = _; rw [tkE, if_neg HLE.out, if_pos hop]
      have HTV : Hid (tkE xs = 0 → tkV xs = (readF (openVal xs)).getD noF) := fun e => if_pos e
      have HT2 := Lib.hid (HT.out.keep k2)
      rw [hop]
      rw [show (((0 : Nat) : Int)) = 0 from rfl]
      clear hop o2 rb hl2 hv2 HOP
      go_wp2_with fail
      refine HRD.out.mono ?_
      rintro e w3 ⟨m, f, er, rfl, hf, k3, g1, g2⟩
      have HF := Lib.hid hf
      have G1 := Lib.hid g1
      have G2 := Lib.hid g2
      obtain ⟨w4, hw4⟩ : ∃ w4, w3.alloc (.cells (frCells m f) 32) = w4 := ⟨_, rfl⟩
      obtain ⟨k4, hbox4⟩ := fr_box w3 _ m f hw4
      obtain ⟨g6, hg6⟩ : ∃ g, w3.heap.size = g := ⟨_, rfl⟩
      rw [hg6] at hbox4
      have HM := Lib.hid (gmay_any m f w4 (hf _ w4 (Turned.of_keep (F := fun _ => False) k4) (fun _ e => e.elim)))
      have K4 : Hid (Keep w w4) := (K2.out.trans k3).trans k4
      have K24 : Hid (Keep w2 w4) := k3.trans k4
      have rb4 := HBOX.out w4 (k2.trans (k3.trans k4))
      have RB4 := Lib.hid rb4
      have HBOX4 := Lib.hid hbox4
      have FN : Hid ((∀ v, readF (openVal xs) = some v → False) → ∀ w', Keep w w' → TakeTold xs w (.returned (.tuple #[.agg (frCells noM noF), .int .i64 5])) w') := fun hno w' k => by
        have e5 : tkE xs = 5 := by
          rw [HTK.out]
          cases hr : readF (openVal xs) with
          | none => rfl
          | some v => exact (hno v hr).elim
        exact take_none (by rw [e5]; rfl) (by rw [e5]; decide) k
      have FY : Hid (readF (openVal xs) = some f → ∀ w', Keep w w' → FrIn w' w'.heap.size m f → TakeTold xs w (.returned (.tuple #[.agg (frCells m f), .int .i64 0])) w') := fun hr w' k hi => by
        have e0 : tkE xs = 0 := by rw [HTK.out, hr]; rfl
        have e1 : tkV xs = f := by rw [HTV.out e0, hr]; rfl
        exact ⟨m, by rw [e0, e1]; rfl, by rw [e1]; exact hi, k⟩
      have HFL : Hid (∀ w5 cells, Keep w4 w5 → FrIn (w5.setRow H cells) (w5.setRow H cells).heap.size m f) := fun w5 cells k => hf _ _ (((Turned.of_keep (F := fun b => b = H) (k4.trans k))).trans (turned_row w5 H cells) (fun b e => Or.inl e)) (fun b e => by
        have h1 := K1.out.size
        have h2 := HHH.out
        have h3 := (HBOX.out w1 (Keep.refl _)).lt
        have h4 := k2.size
        omega)
      clear hf g1 g2 k4 hbox4 k2 k3
      obtain ⟨may, hmay⟩ : ∃ x, decide (MayF f) = x := ⟨_, rfl⟩
      rw [hmay] at HM
      have HY : Hid (may = true → MayF f) := fun e => of_decide_eq_true (hmay.trans e)
      have HNO : Hid (may = false → ¬ MayF f) := fun e => of_decide_eq_false (hmay.trans e)
      clear hmay
      have HE : Hid (er ≠ 0 → ∀ v, readF (openVal xs) = some v → False) := fun h v hv => by rw [G2.out h] at hv; cases hv
      have HN2 : Hid (er = 0 → may = false → ∀ v, readF (openVal xs) = some v → False) := fun h hm v hv => by
        rcases G1.out h with h1 | ⟨_, h1⟩
        · unfold readF at hv
          rw [h1] at hv
          dsimp only at hv
          rw [if_neg (HNO.out hm)] at hv
          cases hv
        · rw [h1] at hv; cases hv
      have HY2 : Hid (er = 0 → may = true → readF (openVal xs) = some f) := fun h hm => by
        rcases G1.out h with h1 | ⟨h1, _⟩
        · unfold readF
          rw [h1]
          dsimp only
          rw [if_pos (HY.out hm)]
        · exact absurd (HY.out hm) h1
      clear G1 G2 HY HNO HTK HTV
      obtain ⟨k, s, d, ep, lf, fl, gn, sq, fo, co, pay, rk, te, up, hp⟩ := f
      obtain ⟨⟨Ac, nc, cc⟩, ⟨Ap, np, cp⟩, ⟨Ar, nr, cr⟩, ⟨Au, nu, cu⟩, ⟨Ah, nh, ch⟩⟩ := m
      simp only [frCells] at hw4 HM FY
      have HW4 := Lib.hid hw4
      have HG6 := Lib.hid hg6
      simp only [frCells]
      clear hw4 hg6
      unfold FrBox at rb4
      go_upto_region 7 with fail
      rw [HW4.out, HG6.out]
      by_cases h0 : er = 0
      · obtain ⟨⟨x0, x1, x2, x3, x4⟩, ⟨x5, x6, x7, x8⟩, ⟨x9, x10, x11⟩, x12, x13, x14⟩ := (HBOX4.out w4 (Keep.refl w4)).cells
        dsimp only at x0 x1 x2 x3 x4 x5 x6 x7 x8 x9 x10 x11 x12 x13 x14
        have H0 := Lib.hid h0
        subst h0
        go_wp2_with fail
        refine HM.out.mono ?_
        rintro e w5 ⟨rfl, k5⟩
        have K5 := Lib.hid k5
        have K45 : Hid (Keep w2 w5) := K24.out.trans k5
        have rb5 : w5.heap[H]? = _ := RB4.out.keep k5
        have rc5 : w5.heap[g6]? = _ := (HBOX4.out w4 (Keep.refl w4)).keep k5
        clear x0 x1 x2 x3 x4 x5 x6 x7 x8 x9 x10 x11 x12 x13 x14 k5 rb4
        cases may with
        | false =>
          have KF := K4.out.trans K5.out
          have KF2 : Hid (Keep w (w5.setRow H #[.int .i64 0, .int .i64 0, .int .i64 0, .int .u64 0, .int .u64 0, .int .i64 0, .int .u64 0, .int .u64 0, .int .u64 0, .slice none 0 0, .slice none 0 0, .slice none 0 0, .int .u64 0, .slice none 0 0, .slice none 0 0])) := KF.setRow (by have := HHH.out; omega) rb5
          have RF := Lib.hid rb5
          have FIN := Lib.hid (FN.out (HN2.out (by first | rfl | trivial) (by first | rfl | trivial)))
          clear KF rc5
          go_wp2_with (refine wpList_store_rowTo rfl 32 (.tmp 2) (.tmp 32) rfl rfl H #[.int .i64 0, .int .i64 0, .int .i64 0, .int .u64 0, .int .u64 0, .int .i64 0, .int .u64 0, .int .u64 0, .int .u64 0, .slice none 0 0, .slice none 0 0, .slice none 0 0, .int .u64 0, .slice none 0 0, .slice none 0 0] rfl rfl 32 _ rb5 infoFr rfl (by kernel_rfl) ?_)
          refine bodyPost_ret (results_cell_two (p := 2) (u := 3) (ty := 32) resTake _ _ H 32 _ (0, 0) _ rfl (setRow_heap _ _ _ _ _ _ RF.out) Tryd.underlying32 rfl infoFr) rfl ?_
          exact FIN.out _ KF2.out
        | true =>
          obtain ⟨⟨x0, x1, x2, x3, x4⟩, ⟨x5, x6, x7, x8⟩, ⟨x9, x10, x11⟩, x12, x13, x14⟩ := (HBOX4.out w5 K5.out).cells
          dsimp only at x0 x1 x2 x3 x4 x5 x6 x7 x8 x9 x10 x11 x12 x13 x14
          have RF := Lib.hid rb5
          have FIN := Lib.hid (FY.out (HY2.out (by first | rfl | trivial) (by first | rfl | trivial)))
          have FW := Lib.hid (HFL.out w5 #[.int .i64 k, .int .i64 s, .int .i64 d, .int .u64 (ep : Int), .int .u64 (lf : Int), .int .i64 fl, .int .u64 (gn : Int), .int .u64 (sq : Int), .int .u64 (fo : Int), .slice Ac nc cc, .slice Ap np cp, .slice Ar nr cr, .int .u64 (te : Int), .slice Au nu cu, .slice Ah nh ch] K5.out)
          have KF2 : Hid (Keep w (w5.setRow H #[.int .i64 k, .int .i64 s, .int .i64 d, .int .u64 (ep : Int), .int .u64 (lf : Int), .int .i64 fl, .int .u64 (gn : Int), .int .u64 (sq : Int), .int .u64 (fo : Int), .slice Ac nc cc, .slice Ap np cp, .slice Ar nr cr, .int .u64 (te : Int), .slice Au nu cu, .slice Ah nh ch])) := (K4.out.trans K5.out).setRow (by have := HHH.out; omega) rb5
          clear rc5
          go_wp2_with (refine wpList_store_rowTo rfl 32 (.tmp 2) (.tmp 33) rfl rfl H #[.int .i64 k, .int .i64 s, .int .i64 d, .int .u64 (ep : Int), .int .u64 (lf : Int), .int .i64 fl, .int .u64 (gn : Int), .int .u64 (sq : Int), .int .u64 (fo : Int), .slice Ac nc cc, .slice Ap np cp, .slice Ar nr cr, .int .u64 (te : Int), .slice Au nu cu, .slice Ah nh ch] rfl rfl 32 _ RF.out infoFr rfl (by kernel_rfl) ?_)
          refine bodyPost_ret (results_cell_two (p := 2) (u := 3) (ty := 32) resTake _ _ H 32 _ (0, 0) _ rfl (setRow_heap _ _ _ _ _ _ RF.out) Tryd.underlying32 rfl infoFr) rfl ?_
          exact FIN.out _ KF2.out FW.out
      · have b7 : (er != 0) = true := by rw [bne_iff_ne]; exact h0
        have FIN := Lib.hid (FN.out (HE.out h0))
        have KF2 : Hid (Keep w (w4.setRow H #[.int .i64 0, .int .i64 0, .int .i64 0, .int .u64 0, .int .u64 0, .int .i64 0, .int .u64 0, .int .u64 0, .int .u64 0, .slice none 0 0, .slice none 0 0, .slice none 0 0, .int .u64 0, .slice none 0 0, .slice none 0 0])) := K4.out.setRow (by have := HHH.out; omega) rb4
        clear h0 rb4
        go_wp2_with (refine wpList_store_rowTo rfl 32 (.tmp 2) (.tmp 32) rfl rfl H #[.int .i64 0, .int .i64 0, .int .i64 0, .int .u64 0, .int .u64 0, .int .i64 0, .int .u64 0, .int .u64 0, .int .u64 0, .slice none 0 0, .slice none 0 0, .slice none 0 0, .int .u64 0, .slice none 0 0, .slice none 0 0] rfl rfl 32 _ RB4.out infoFr rfl (by kernel_rfl) ?_)
        refine bodyPost_ret (results_cell_two (p := 2) (u := 3) (ty := 32) resTake _ _ H 32 _ (0, 0) _ rfl (setRow_heap _ _ _ _ _ _ RB4.out) Tryd.underlying32 rfl infoFr) rfl ?_
        exact FIN.out _ KF2.out
    · have HTK : Hid (tkE xs = openErr xs) := by show _ = _; rw [tkE, if_neg HLE.out, if_neg hop]
      have HNE : Hid (openErr xs ≠ 0) := hop
      obtain ⟨er, her⟩ : ∃ er : Int, ((openErr xs : Nat) : Int) = er := ⟨_, rfl⟩
      rw [her]
      have b7 : (er != 0) = true := by rw [bne_iff_ne]; omega
      have FIN : Hid (∀ w', Keep w w' → TakeTold xs w (.returned (.tuple #[.agg (frCells noM noF), .int .i64 er])) w') := fun w' k => take_none (by rw [HTK.out]; exact her) (by rw [HTK.out]; exact HNE.out) k
      have KF2 : Hid (Keep w (w2.setRow H #[.int .i64 0, .int .i64 0, .int .i64 0, .int .u64 0, .int .u64 0, .int .i64 0, .int .u64 0, .int .u64 0, .int .u64 0, .slice none 0 0, .slice none 0 0, .slice none 0 0, .int .u64 0, .slice none 0 0, .slice none 0 0])) := K2.out.setRow (by have := HHH.out; omega) rb
      clear hop o2 rb her HOP k2
      go_wp2_with (refine wpList_store_rowTo rfl 32 (.tmp 2) (.tmp 18) rfl rfl H #[.int .i64 0, .int .i64 0, .int .i64 0, .int .u64 0, .int .u64 0, .int .i64 0, .int .u64 0, .int .u64 0, .int .u64 0, .slice none 0 0, .slice none 0 0, .slice none 0 0, .int .u64 0, .slice none 0 0, .slice none 0 0] rfl rfl 32 _ RB.out infoFr rfl (by kernel_rfl) ?_)
      refine bodyPost_ret (results_cell_two (p := 2) (u := 3) (ty := 32) resTake _ _ H 32 _ (0, 0) _ rfl (setRow_heap _ _ _ _ _ _ RB.out) Tryd.underlying32 rfl infoFr) rfl ?_
      exact FIN.out _ KF2.out
end Go.Proofs.YtgkihfemlbhioaaDoor
