/- What Take tells lies apart from all that was there. -/
import Derived.Test.YtgkihfemlbhioaaDoorGw1
import Derived.Test.YtgkihfemlbhioaaDoorGawk
import Derived.Test.YtgkihfemlbhioaaDoorLforme
import Derived.Test.YtgkihfemlbhioaaDoorFp
import Derived.Test.YtgkihfemlbhioaaDoorFtn
namespace Go.Proofs.YtgkihfemlbhioaaDoor
open Go.RowKit Fr Crc
set_option linter.unusedVariables false
set_option linter.unusedSimpArgs false
def TakeFar (xs : List Nat) (w : World) (e : Ending) (w' : World) : Prop := ∃ m : FrM, e = .returned (.tuple #[.agg (frCells m (tkV xs)), .int .i64 (tkE xs : Nat)]) ∧ (∀ (G : Nat → Prop) (w'' : World), Turned G w' w'' → (∀ b, G b → b < w.heap.size) → FrIn w'' w''.heap.size m (tkV xs)) ∧ Keep w w'
theorem take_far_none {xs : List Nat} {w w' : World} {er : Int} (h : (tkE xs : Int) = er) (h0 : tkE xs ≠ 0) (k : Keep w w') : TakeFar xs w (.returned (.tuple #[.agg (frCells noM noF), .int .i64 er])) w' :=
  ⟨noM, by rw [take_err h0, h], fun _ _ _ _ => by rw [take_err h0]; exact FrIn.none_ _ _, k⟩
set_option maxRecDepth 100000 in
set_option maxHeartbeats 4000000 in
theorem gtake_far (B n c : Nat) (A : Option Addr) (xs : List Nat) (w : World) (hT : TabW w) (h : Bytes w B A n xs) (hB : B ≤ w.heap.size) (hn : n ≤ 140737488351236) (hc : n ≤ c) :
    Calls Tryd.prog 11 #[.slice A n c] w (TakeFar xs w) := by
  have hl := h.length
  obtain ⟨H, hH⟩ : ∃ H, w.heap.size = H := ⟨_, rfl⟩
  obtain ⟨w1, hw1⟩ : ∃ w1, w.alloc (.cells (frCells noM noF) 32) = w1 := ⟨_, rfl⟩
  obtain ⟨k1, hbox⟩ := fr_box w _ noM noF hw1
  rw [hH] at hbox
  have HW1 : Hid (w.alloc (.cells #[.int .i64 0, .int .i64 0, .int .i64 0, .int .u64 0, .int .u64 0, .int .i64 0, .int .u64 0, .int .u64 0, .int .u64 0, .slice none 0 0, .slice none 0 0, .slice none 0 0, .int .u64 0, .slice none 0 0, .slice none 0 0] 32) = w1) := hw1
  have HBOX := Lib.hid hbox
  have K1 := Lib.hid k1
  have HOP := Lib.hid (copen_any B n c A xs w1 (hT.keep k1) (h.keep hB k1) (Nat.le_trans hB k1.size) hn hc)
  have HT := Lib.hid (hT.keep k1)
  have HHH := Lib.hid hH
  clear hbox k1 hw1 h hT
  by_cases c1 : 70000 < n
  · have FIN : Hid (∀ w', Keep w w' → TakeFar xs w (.returned (.tuple #[.agg (frCells noM noF), .int .i64 3])) w') := fun w' k => by
      have e : tkE xs = 3 := if_pos (by omega)
      exact take_far_none (by rw [e]; rfl) (by rw [e]; decide) k
    have b1 : (70000 : Int) < (n : Int) := by omega
    clear c1 hl
    go_enter Tryd.func11, Tryd.ntmps11
    go_wp2_with fail
    rw [HW1.out]
    have hb := HBOX.out w1 (Keep.refl _)
    refine bodyPost_ret (results_cell_two (p := 2) (u := 3) (ty := 32) resTake _ _ H 32 _ (0, 0) _ rfl (hb) Tryd.underlying32 rfl infoFr) rfl ?_
    exact FIN.out w1 K1.out
  · have b1 : ¬ (70000 : Int) < (n : Int) := by omega
    have hle : ¬ 70000 < xs.length := by omega
    have HLE := Lib.hid hle
    clear c1 hle
    go_enter Tryd.func11, Tryd.ntmps11
    go_upto_region 3 with fail
    rw [HW1.out]
    clear hH
    go_wp2_with fail
    refine HOP.out.mono ?_
    rintro e w2 ⟨A2, n2, c2, rfl, o2, k2⟩
    have K2 : Hid (Keep w w2) := K1.out.trans k2
    have rb := HBOX.out w2 k2
    have RB := Lib.hid rb
    by_cases hop : openErr xs = 0
    · have hl2 := o2.length
      have hv2 : (openVal xs).length ≤ 70000 := by
        rw [openVal, if_pos hop, frontN, List.length_take]; omega
      have HRD := Lib.hid (gread_any w2.heap.size n2 c2 A2 (openVal xs) w2 o2.bytes (Nat.le_refl _) (by omega))
      have HTK : Hid (tkE xs = if (readF (openVal xs)).isSome = true then 0 else 5) := by show _ = _; rw [tkE, if_neg HLE.out, if_pos hop]
      have HTV : Hid (tkE xs = 0 → tkV xs = (readF (openVal xs)).getD noF) := fun e => if_pos e
      have HT2 := Lib.hid (HT.out.keep k2)
      rw [hop]
      rw [show (((0 : Nat) : Int)) = 0 from rfl]
      clear hop o2 rb hl2 hv2 HOP
      go_wp2_with fail
      refine HRD.out.mono ?_
      rintro e w3 ⟨m, f, er, rfl, hf, k3, g1, g2⟩
      have HF := Lib.hid hf
      have G1 := Lib.hid g1
      have G2 := Lib.hid g2
      obtain ⟨w4, hw4⟩ : ∃ w4, w3.alloc (.cells (frCells m f) 32) = w4 := ⟨_, rfl⟩
      obtain ⟨k4, hbox4⟩ := fr_box w3 _ m f hw4
      obtain ⟨g6, hg6⟩ : ∃ g, w3.heap.size = g := ⟨_, rfl⟩
      rw [hg6] at hbox4
      have HM := Lib.hid (gmay_any m f w4 (hf _ w4 (Turned.of_keep (F := fun _ => False) k4) (fun _ e => e.elim)))
      have K4 : Hid (Keep w w4) := (K2.out.trans k3).trans k4
      have K24 : Hid (Keep w2 w4) := k3.trans k4
      have rb4 := HBOX.out w4 (k2.trans (k3.trans k4))
      have RB4 := Lib.hid rb4
      have HBOX4 := Lib.hid hbox4
      have FN : Hid ((∀ v, readF (openVal xs) = some v → False) → ∀ w', Keep w w' → TakeFar xs w (.returned (.tuple #[.agg (frCells noM noF), .int .i64 5])) w') := fun hno w' k => by
        have e5 : tkE xs = 5 := by
          rw [HTK.out]
          cases hr : readF (openVal xs) with
          | none => rfl
          | some v => exact (hno v hr).elim
        exact take_far_none (by rw [e5]; rfl) (by rw [e5]; decide) k
      have FY : Hid (readF (openVal xs) = some f → ∀ w', Keep w w' → (∀ (G : Nat → Prop) (w'' : World), Turned G w' w'' → (∀ b, G b → b < w.heap.size) → FrIn w'' w''.heap.size m f) → TakeFar xs w (.returned (.tuple #[.agg (frCells m f), .int .i64 0])) w') := fun hr w' k hi => by
        have e0 : tkE xs = 0 := by rw [HTK.out, hr]; rfl
        have e1 : tkV xs = f := by rw [HTV.out e0, hr]; rfl
        exact ⟨m, by rw [e0, e1]; rfl, by rw [e1]; exact hi, k⟩
      have HFL : Hid (∀ w5 cells, Keep w4 w5 → ∀ (G : Nat → Prop) (w'' : World), Turned G (w5.setRow H cells) w'' → (∀ b, G b → b < w.heap.size) → FrIn w'' w''.heap.size m f) := fun w5 cells k G w'' kG hG => hf (fun b => b = H ∨ G b) w'' ((((Turned.of_keep (F := fun b => b = H) (k4.trans k)).trans (turned_row w5 H cells) (fun b e => Or.inl e)).mono (fun i _ e => Or.inl e)).trans kG (fun b e => Or.inl (Or.inr e))) (fun b e => by
        have h1 := K1.out.size
        have h2 := HHH.out
        have h3 := (HBOX.out w1 (Keep.refl _)).lt
        have h4 := k2.size
        rcases e with e | e
        · omega
        · have := hG b e; omega)
      clear hf g1 g2 k4 hbox4 k2 k3
      obtain ⟨may, hmay⟩ : ∃ x, decide (MayF f) = x := ⟨_, rfl⟩
      rw [hmay] at HM
      have HY : Hid (may = true → MayF f) := fun e => of_decide_eq_true (hmay.trans e)
      have HNO : Hid (may = false → ¬ MayF f) := fun e => of_decide_eq_false (hmay.trans e)
      clear hmay
      have HE : Hid (er ≠ 0 → ∀ v, readF (openVal xs) = some v → False) := fun h v hv => by rw [G2.out h] at hv; cases hv
      have HN2 : Hid (er = 0 → may = false → ∀ v, readF (openVal xs) = some v → False) := fun h hm v hv => by
        rcases G1.out h with h1 | ⟨_, h1⟩
        · unfold readF at hv
          rw [h1] at hv
          dsimp only at hv
          rw [if_neg (HNO.out hm)] at hv
          cases hv
        · rw [h1] at hv; cases hv
      have HY2 : Hid (er = 0 → may = true → readF (openVal xs) = some f) := fun h hm => by
        rcases G1.out h with h1 | ⟨h1, _⟩
        · unfold readF
          rw [h1]
          dsimp only
          rw [if_pos (HY.out hm)]
        · exact absurd (HY.out hm) h1
      clear G1 G2 HY HNO HTK HTV
      obtain ⟨k, s, d, ep, lf, fl, gn, sq, fo, co, pay, rk, te, up, hp⟩ := f
      obtain ⟨⟨Ac, nc, cc⟩, ⟨Ap, np, cp⟩, ⟨Ar, nr, cr⟩, ⟨Au, nu, cu⟩, ⟨Ah, nh, ch⟩⟩ := m
      simp only [frCells] at hw4 HM FY
      have HW4 := Lib.hid hw4
      have HG6 := Lib.hid hg6
      simp only [frCells]
      clear hw4 hg6
      unfold FrBox at rb4
      go_upto_region 7 with fail
      rw [HW4.out, HG6.out]
      by_cases h0 : er = 0
      · obtain ⟨⟨x0, x1, x2, x3, x4⟩, ⟨x5, x6, x7, x8⟩, ⟨x9, x10, x11⟩, x12, x13, x14⟩ := (HBOX4.out w4 (Keep.refl w4)).cells
        dsimp only at x0 x1 x2 x3 x4 x5 x6 x7 x8 x9 x10 x11 x12 x13 x14
        have H0 := Lib.hid h0
        subst h0
        go_wp2_with fail
        refine HM.out.mono ?_
        rintro e w5 ⟨rfl, k5⟩
        have K5 := Lib.hid k5
        have K45 : Hid (Keep w2 w5) := K24.out.trans k5
        have rb5 : w5.heap[H]? = _ := RB4.out.keep k5
        have rc5 : w5.heap[g6]? = _ := (HBOX4.out w4 (Keep.refl w4)).keep k5
        clear x0 x1 x2 x3 x4 x5 x6 x7 x8 x9 x10 x11 x12 x13 x14 k5 rb4
        cases may with
        | false =>
          have KF := K4.out.trans K5.out
          have KF2 : Hid (Keep w (w5.setRow H #[.int .i64 0, .int .i64 0, .int .i64 0, .int .u64 0, .int .u64 0, .int .i64 0, .int .u64 0, .int .u64 0, .int .u64 0, .slice none 0 0, .slice none 0 0, .slice none 0 0, .int .u64 0, .slice none 0 0, .slice none 0 0])) := KF.setRow (by have := HHH.out; omega) rb5
          have RF := Lib.hid rb5
          have FIN := Lib.hid (FN.out (HN2.out (by first | rfl | trivial) (by first | rfl | trivial)))
          clear KF rc5
          go_wp2_with (refine wpList_store_rowTo rfl 32 (.tmp 2) (.tmp 32) rfl rfl H #[.int .i64 0, .int .i64 0, .int .i64 0, .int .u64 0, .int .u64 0, .int .i64 0, .int .u64 0, .int .u64 0, .int .u64 0, .slice none 0 0, .slice none 0 0, .slice none 0 0, .int .u64 0, .slice none 0 0, .slice none 0 0] rfl rfl 32 _ rb5 infoFr rfl (by kernel_rfl) ?_)
          refine bodyPost_ret (results_cell_two (p := 2) (u := 3) (ty := 32) resTake _ _ H 32 _ (0, 0) _ rfl (setRow_heap _ _ _ _ _ _ RF.out) Tryd.underlying32 rfl infoFr) rfl ?_
          exact FIN.out _ KF2.out
        | true =>
          obtain ⟨⟨x0, x1, x2, x3, x4⟩, ⟨x5, x6, x7, x8⟩, ⟨x9, x10, x11⟩, x12, x13, x14⟩ := (HBOX4.out w5 K5.out).cells
          dsimp only at x0 x1 x2 x3 x4 x5 x6 x7 x8 x9 x10 x11 x12 x13 x14
          have RF := Lib.hid rb5
          have FIN := Lib.hid (FY.out (HY2.out (by first | rfl | trivial) (by first | rfl | trivial)))
          have FW := Lib.hid (HFL.out w5 #[.int .i64 k, .int .i64 s, .int .i64 d, .int .u64 (ep : Int), .int .u64 (lf : Int), .int .i64 fl, .int .u64 (gn : Int), .int .u64 (sq : Int), .int .u64 (fo : Int), .slice Ac nc cc, .slice Ap np cp, .slice Ar nr cr, .int .u64 (te : Int), .slice Au nu cu, .slice Ah nh ch] K5.out)
          have KF2 : Hid (Keep w (w5.setRow H #[.int .i64 k, .int .i64 s, .int .i64 d, .int .u64 (ep : Int), .int .u64 (lf : Int), .int .i64 fl, .int .u64 (gn : Int), .int .u64 (sq : Int), .int .u64 (fo : Int), .slice Ac nc cc, .slice Ap np cp, .slice Ar nr cr, .int .u64 (te : Int), .slice Au nu cu, .slice Ah nh ch])) := (K4.out.trans K5.out).setRow (by have := HHH.out; omega) rb5
          clear rc5
          go_wp2_with (refine wpList_store_rowTo rfl 32 (.tmp 2) (.tmp 33) rfl rfl H #[.int .i64 k, .int .i64 s, .int .i64 d, .int .u64 (ep : Int), .int .u64 (lf : Int), .int .i64 fl, .int .u64 (gn : Int), .int .u64 (sq : Int), .int .u64 (fo : Int), .slice Ac nc cc, .slice Ap np cp, .slice Ar nr cr, .int .u64 (te : Int), .slice Au nu cu, .slice Ah nh ch] rfl rfl 32 _ RF.out infoFr rfl (by kernel_rfl) ?_)
          refine bodyPost_ret (results_cell_two (p := 2) (u := 3) (ty := 32) resTake _ _ H 32 _ (0, 0) _ rfl (setRow_heap _ _ _ _ _ _ RF.out) Tryd.underlying32 rfl infoFr) rfl ?_
          exact FIN.out _ KF2.out FW.out
      · have b7 : (er != 0) = true := by rw [bne_iff_ne]; exact h0
        have FIN := Lib.hid (FN.out (HE.out h0))
        have KF2 : Hid (Keep w (w4.setRow H #[.int .i64 0, .int .i64 0, .int .i64 0, .int .u64 0, .int .u64 0, .int .i64 0, .int .u64 0, .int .u64 0, .int .u64 0, .slice none 0 0, .slice none 0 0, .slice none 0 0, .int .u64 0, .slice none 0 0, .slice none 0 0])) := K4.out.setRow (by have := HHH.out; omega) rb4
        clear h0 rb4
        go_wp2_with (refine wpList_store_rowTo rfl 32 (.tmp 2) (.tmp 32) rfl rfl H #[.int .i64 0, .int .i64 0, .int .i64 0, .int .u64 0, .int .u64 0, .int .i64 0, .int .u64 0, .int .u64 0, .int .u64 0, .slice none 0 0, .slice none 0 0, .slice none 0 0, .int .u64 0, .slice none 0 0, .slice none 0 0] rfl rfl 32 _ RB4.out infoFr rfl (by kernel_rfl) ?_)
        refine bodyPost_ret (results_cell_two (p := 2) (u := 3) (ty := 32) resTake _ _ H 32 _ (0, 0) _ rfl (setRow_heap _ _ _ _ _ _ RB4.out) Tryd.underlying32 rfl infoFr) rfl ?_
        exact FIN.out _ KF2.out
    · have HTK : Hid (tkE xs = openErr xs) := by show _ = _; rw [tkE, if_neg HLE.out, if_neg hop]
      have HNE : Hid (openErr xs ≠ 0) := hop
      obtain ⟨er, her⟩ : ∃ er : Int, ((openErr xs : Nat) : Int) = er := ⟨_, rfl⟩
      rw [her]
      have b7 : (er != 0) = true := by rw [bne_iff_ne]; omega
      have FIN : Hid (∀ w', Keep w w' → TakeFar xs w (.returned (.tuple #[.agg (frCells noM noF), .int .i64 er])) w') := fun w' k => take_far_none (by rw [HTK.out]; exact her) (by rw [HTK.out]; exact HNE.out) k
      have KF2 : Hid (Keep w (w2.setRow H #[.int .i64 0, .int .i64 0, .int .i64 0, .int .u64 0, .int .u64 0, .int .i64 0, .int .u64 0, .int .u64 0, .int .u64 0, .slice none 0 0, .slice none 0 0, .slice none 0 0, .int .u64 0, .slice none 0 0, .slice none 0 0])) := K2.out.setRow (by have := HHH.out; omega) rb
      clear hop o2 rb her HOP k2
      go_wp2_with (refine wpList_store_rowTo rfl 32 (.tmp 2) (.tmp 18) rfl rfl H #[.int .i64 0, .int .i64 0, .int .i64 0, .int .u64 0, .int .u64 0, .int .i64 0, .int .u64 0, .int .u64 0, .int .u64 0, .slice none 0 0, .slice none 0 0, .slice none 0 0, .int .u64 0, .slice none 0 0, .slice none 0 0] rfl rfl 32 _ RB.out infoFr rfl (by kernel_rfl) ?_)
      refine bodyPost_ret (results_cell_two (p := 2) (u := 3) (ty := 32) resTake _ _ H 32 _ (0, 0) _ rfl (setRow_heap _ _ _ _ _ _ RB.out) Tryd.underlying32 rfl infoFr) rfl ?_
      exact FIN.out _ KF2.out
end Go.Proofs.YtgkihfemlbhioaaDoor
/- The walk of FrameForms. -/
namespace Go.Proofs.YtgkihfemlbhioaaDoor
open Go.RowKit Fr Crc
set_option linter.unusedVariables false
set_option linter.unusedSimpArgs false
set_option maxRecDepth 100000 in
set_option maxHeartbeats 16000000 in
theorem forms_any (m m' : FrM) (f f' : FrV) (n c : Nat) (A : Option Addr) (xs : List Nat) (W : World) (hT : TabW W) (hf : FrIn W W.heap.size m f) (hf' : FrIn W W.heap.size m' f') (hb : Bytes W W.heap.size A n xs) (hn : n ≤ 140737488351232) (hc : n ≤ c) :
    Calls Tryd.prog 3 #[.agg (frCells m f), .agg (frCells m' f'), .slice A n c] W fun e w' => e = .returned (.bool true) ∧ Keep W w' := by
  have HT := Lib.hid hT
  have HB := Lib.hid hb
  obtain ⟨w2, hw2⟩ : ∃ w2, (W.alloc (.cells (frCells m f) 32)).alloc (.cells (frCells m' f') 32) = w2 := ⟨_, rfl⟩
  obtain ⟨k2, hbox⟩ := fr_boxes W _ _ m m' f f' hw2
  have HB2 : Hid (Bytes w2 w2.heap.size A n xs) := (hb.keep (Nat.le_refl _) k2).mono k2.size
  have HP := Lib.hid (fun wx (kx : Keep w2 wx) => gput_any m f wx ((hT.keep k2).keep kx) ((hf.later k2).later kx))
  have HPR := Lib.hid (fun wx (kx : Keep w2 wx) => rput_any m f wx ((hf.later k2).later kx))
  have HM1 := Lib.hid (fun wx (kx : Keep w2 wx) => gmay_any m f wx ((hf.later k2).later kx))
  have HM2 := Lib.hid (fun wx (kx : Keep w2 wx) => rmay_any m f wx ((hf.later k2).later kx))
  have HS1 := Lib.hid (fun wx (kx : Keep w2 wx) => gsame_any m m' f f' wx ((hf.later k2).later kx) ((hf'.later k2).later kx))
  have HS2 := Lib.hid (fun wx (kx : Keep w2 wx) => rsame_any m m' f f' wx ((hf.later k2).later kx) ((hf'.later k2).later kx))
  have HAW := Lib.hid (fun wx (kx : Keep w2 wx) => gawake_any wx ((hT.keep k2).keep kx))
  obtain ⟨PV, hPV⟩ : ∃ x, putV f = x := ⟨_, rfl⟩
  obtain ⟨pe, hpe⟩ : ∃ x, putE f = x := ⟨_, rfl⟩
  obtain ⟨tm, htm⟩ : ∃ x, decide (MayF f) = x := ⟨_, rfl⟩
  obtain ⟨ts, hts⟩ : ∃ x, decide (f = f') = x := ⟨_, rfl⟩
  rw [hPV, hpe] at HP HPR
  rw [htm] at HM1 HM2
  rw [hts] at HS1 HS2
  have HK2 := Lib.hid k2
  have K2W : Hid (W.heap.size ≤ w2.heap.size) := k2.size
  obtain ⟨g, hg⟩ : ∃ g, W.heap.size = g := ⟨_, rfl⟩
  rw [hg] at hbox
  have HGW := Lib.hid hg
  clear hPV hpe htm hts hf hf' hT hb
  obtain ⟨k, s, d, ep, lf, fl, gn, sq, fo, co, pay, rk, te, up, hp⟩ := f
  obtain ⟨k', s', d', ep', lf', fl', gn', sq', fo', co', pay', rk', te', up', hp'⟩ := f'
  obtain ⟨⟨Ac, nc, cc⟩, ⟨Ap, np, cp⟩, ⟨Ar, nr, cr⟩, ⟨Au, nu, cu⟩, ⟨Ah, nh, ch⟩⟩ := m
  obtain ⟨⟨Bc, mc, dc⟩, ⟨Bp, mp, dp⟩, ⟨Br, mr, dr⟩, ⟨Bu, mu, du⟩, ⟨Bh, mh, dh⟩⟩ := m'
  simp only [frCells] at hw2 HP HPR HM1 HM2 HS1 HS2
  have HBOX := Lib.hid hbox
  have HW2 := Lib.hid hw2
  have RTK := Lib.hid (fun (wx : World) (hx : Bytes wx W.heap.size A n xs) (hs : W.heap.size ≤ wx.heap.size) => rtake_all W.heap.size n c A xs wx hx hs hn hc)
  unfold TakeTold at RTK
  have GTK := Lib.hid (fun (wx : World) (Ax : Option Addr) (cx : Nat) (hx : Bytes wx wx.heap.size Ax n xs) (hcx : n ≤ cx) (hTx : TabW wx) => gtake_far wx.heap.size n cx Ax xs wx hTx hx (Nat.le_refl _) (by omega) hcx)
  unfold TakeFar at GTK
  obtain ⟨V, hV⟩ : ∃ x, tkV xs = x := ⟨_, rfl⟩
  obtain ⟨ve, hve⟩ : ∃ x, tkE xs = x := ⟨_, rfl⟩
  simp only [hV, hve] at RTK GTK
  have HSV := Lib.hid (fun (m1 m2 : FrM) wx (h1 : FrIn wx wx.heap.size m1 V) (h2 : FrIn wx wx.heap.size m2 V) => rsame_any m1 m2 V V wx h1 h2)
  simp only [decide_true] at HSV
  have HFB := Lib.hid (fun (wa : World) (m1 : FrM) (wb : World) (h : wa.alloc (.cells (frCells m1 V) 32) = wb) => fr_box wa 32 m1 V h)
  clear hV hve hbox
  simp only [frCells]
  go_enter Tryd.func3, Tryd.ntmps3
  go_upto_region 1 with fail
  clear hw2 hg
  go_wp2_with (at_builtin; refine wpList_append_bytes rfl _ _ 23 rfl Tryd.underlying23 info5 rfl (Own.none_ w2 w2.heap.size 5) rfl HB2.out (by omega) (Nat.le_refl _) ?_)
  intro A3 c3 w3 h3 hg3 _
  have k3 : Keep w2 w3 := (Keep.refl w2).grown hg3 (fun k e => by simp [Value.ownBlock] at e)
  have O3 : Hid (Own w3 w2.heap.size 5 A3 n c3 xs) := by
    show Own _ _ _ _ _ _ _
    simpa using h3
  have K3 := Lib.hid k3
  clear h3 hg3 k3 HB2
  obtain ⟨⟨y0, y1, y2, y3, y4⟩, ⟨y5, y6, y7, y8⟩, ⟨y9, y10, y11⟩, y12, y13, y14⟩ := (HBOX.out w3 K3.out).1.cells
  dsimp only at y0 y1 y2 y3 y4 y5 y6 y7 y8 y9 y10 y11 y12 y13 y14
  go_wp2_with fail
  refine (HP.out w3 K3.out).mono ?_
  rintro e w4 ⟨A4, n4, c4, rfl, o4, k4⟩
  have K4 : Hid (Keep w2 w4) := K3.out.trans k4
  have K34 := Lib.hid k4
  have O4 := Lib.hid o4
  clear o4 k4 y0 y1 y2 y3 y4 y5 y6 y7 y8 y9 y10 y11 y12 y13 y14
  obtain ⟨⟨y0, y1, y2, y3, y4⟩, ⟨y5, y6, y7, y8⟩, ⟨y9, y10, y11⟩, y12, y13, y14⟩ := (HBOX.out w4 K4.out).1.cells
  dsimp only at y0 y1 y2 y3 y4 y5 y6 y7 y8 y9 y10 y11 y12 y13 y14
  go_wp2_with fail
  refine (HPR.out w4 K4.out).mono ?_
  rintro e w5 ⟨A5, n5, c5, rfl, o5, k5⟩
  have K5 : Hid (Keep w2 w5) := K4.out.trans k5
  have K45 := Lib.hid k5
  have O5 := Lib.hid o5
  have HG5 := Lib.hid (GTK.out w5 A3 c3 ((O3.out.keep (K34.out.trans k5)).bytes.mono (Nat.le_refl _)) (own_le' O3.out) ((HT.out.keep HK2.out).keep K5.out))
  clear o5 k5 y0 y1 y2 y3 y4 y5 y6 y7 y8 y9 y10 y11 y12 y13 y14 GTK
  go_wp2_with fail
  refine HG5.out.mono ?_
  rintro e w6 ⟨⟨⟨Yc, Ycn, Ycc⟩, ⟨Yp, Ypn, Ypc⟩, ⟨Yr, Yrn, Yrc⟩, ⟨Yu, Yun, Yuc⟩, ⟨Yh, Yhn, Yhc⟩⟩, rfl, hfar, k6⟩
  obtain ⟨w7, hw7⟩ : ∃ wx, w6.alloc (.cells (frCells ⟨⟨Yc, Ycn, Ycc⟩, ⟨Yp, Ypn, Ypc⟩, ⟨Yr, Yrn, Yrc⟩, ⟨Yu, Yun, Yuc⟩, ⟨Yh, Yhn, Yhc⟩⟩ V) 32) = wx := ⟨_, rfl⟩
  obtain ⟨k7, hb7⟩ := HFB.out w6 ⟨⟨Yc, Ycn, Ycc⟩, ⟨Yp, Ypn, Ypc⟩, ⟨Yr, Yrn, Yrc⟩, ⟨Yu, Yun, Yuc⟩, ⟨Yh, Yhn, Yhc⟩⟩ w7 hw7
  obtain ⟨g7, hg7⟩ : ∃ g, w6.heap.size = g := ⟨_, rfl⟩
  rw [hg7] at hb7
  have hgt : w5.heap.size ≤ g7 := by have := k6.size; omega
  have FAR : Hid (∀ (G : Nat → Prop) (w'' : World), Turned G w7 w'' → (∀ b, G b → b < w5.heap.size) → FrIn w'' w''.heap.size ⟨⟨Yc, Ycn, Ycc⟩, ⟨Yp, Ypn, Ypc⟩, ⟨Yr, Yrn, Yrc⟩, ⟨Yu, Yun, Yuc⟩, ⟨Yh, Yhn, Yhc⟩⟩ V) := fun G w'' kG hG => hfar G w'' (((Turned.of_keep (F := G) k7)).trans kG (fun b e => Or.inl e)) hG
  have K7 : Hid (Keep w2 w7) := K5.out.trans (k6.trans k7)
  have K57 : Hid (Keep w5 w7) := k6.trans k7
  have HB7 := Lib.hid hb7
  have HGT := Lib.hid hgt
  obtain ⟨kv, sv, dv, epv, lfv, flv, gnv, sqv, fov, cov, payv, rkv, tev, upv, hpv⟩ := V
  simp only [frCells] at hw7 ⊢
  have HW7 := Lib.hid hw7
  have HG7 := Lib.hid hg7
  clear hfar k6 k7 hw7 hb7 hg7 hgt HG5
  go_upto_region 6 with fail
  rw [HW7.out, HG7.out]
  have OM : Hid (Own w7 w2.heap.size 5 A3 n c3 xs) := O3.out.keep (K34.out.trans (K45.out.trans K57.out))
  have HBL : Hid (∀ b, (Value.slice A3 n c3).ownBlock = some b → w2.heap.size ≤ b ∧ b < w3.heap.size) := fun b hb => World.ownsRow.lt O3.out.1 b hb
  go_loopw [14] (fun iv wr => ∃ j : Nat, j ≤ n ∧ iv = .int .i64 j ∧ (∃ ys : List Nat, Own wr w2.heap.size 5 A3 n c3 ys) ∧ Turned (fun b => (Value.slice A3 n c3).ownBlock = some b) w7 wr) (fun iv _ => n - (intOf iv).toNat)
  case atStart => exact ⟨0, by omega, rfl, ⟨xs, OM.out⟩, Turned.refl _ _⟩
  case round =>
    obtain ⟨j, hj, rfl, ⟨ys, hown⟩, hT⟩ := hrel
    have e1 : (0 : Int) ≤ (j : Int) := Int.natCast_nonneg _
    by_cases hlt : j < n
    · have e2 : (j : Int) < (n : Int) := by omega
      have e3 : ((j : Int)).toNat = j := Int.toNat_natCast j
      obtain ⟨g3, rfl, hg3, _⟩ := hown.block (by omega)
      have hc2 := hown.cell hlt
      have hfz := hown.frozen j
      have hv := hown.2.getD j
      obtain ⟨v, hvv⟩ : ∃ v, ys.getD j 0 = v := ⟨_, rfl⟩
      rw [hvv] at hc2 hv
      obtain ⟨u, hu⟩ : ∃ u, v ^^^ 255 = u := ⟨_, rfl⟩
      have hu2 : u < 256 := by rw [← hu]; exact Nat.xor_lt_two_pow (n := 8) hv (by decide)
      have bx : bits .xor .u8 (v : Int) 255 = (u : Int) := by rw [← hu]; exact u8_xor_nat v 255 hv (by decide)
      have HO : Hid (Own (wr.setCell ⟨g3, j, none⟩ (.int .u8 (u : Int))) w2.heap.size 5 (some ⟨g3, 0, none⟩) n c3 (ys.set j u)) := hown.stored hu2
      have HTT := Lib.hid (hT.trans (Turned.set (F := fun b => b = g3) wr ⟨g3, j, none⟩ (.int .u8 (u : Int)) rfl) (fun b e => Or.inl (by subst e; rfl)))
      clear hown hT hvv hu
      go_wp2_with fail
      go_roundw
      case rel => exact ⟨j + 1, by omega, by go_num, ⟨_, HO.out⟩, HTT.out⟩
      case measure => simp [intOf]; omega
    · obtain rfl : n = j := by omega
      have TM := Lib.hid hT
      have KT : Hid (Keep w2 wr) := hT.keep K7.out (fun b hb => (HBL.out b hb).1)
      have KWR : Hid (Keep W wr) := HK2.out.trans KT.out
      have HR9 := Lib.hid (RTK.out wr (HB.out.keep (Nat.le_refl _) KWR.out) KWR.out.size)
      have B4 : Hid (Bytes wr wr.heap.size A4 n4 PV) := ((O4.out.keep (K45.out.trans K57.out)).turned hT (fun b hb e => by have h1 := O4.out.rowLe b hb; have h2 := (HBL.out b e).2; omega)).bytes
      have B5 : Hid (Bytes wr wr.heap.size A5 n5 PV) := ((O5.out.keep K57.out).turned hT (fun b hb e => by have h1 := O5.out.rowLe b hb; have h2 := (HBL.out b e).2; have h3 := K34.out.size; omega)).bytes
      have hlo : ¬ (Value.slice A3 n c3).ownBlock = some g7 := fun e => by have h1 := (HBL.out g7 e).2; have h2 := K34.out.size; have h3 := K45.out.size; have h4 := HGT.out; omega
      have BX7 : Hid (FrBox wr g7 32 ⟨⟨Yc, Ycn, Ycc⟩, ⟨Yp, Ypn, Ypc⟩, ⟨Yr, Yrn, Yrc⟩, ⟨Yu, Yun, Yuc⟩, ⟨Yh, Yhn, Yhc⟩⟩ ⟨kv, sv, dv, epv, lfv, flv, gnv, sqv, fov, cov, payv, rkv, tev, upv, hpv⟩) := (HB7.out w7 (Keep.refl _)).turned hT hlo
      clear hown hT hlo RTK OM
      go_wp2_with fail
      refine HR9.out.mono ?_
      rintro e w9 ⟨⟨⟨Zc, Zcn, Zcc⟩, ⟨Zp, Zpn, Zpc⟩, ⟨Zr, Zrn, Zrc⟩, ⟨Zu, Zun, Zuc⟩, ⟨Zh, Zhn, Zhc⟩⟩, rfl, h9, k9⟩
      obtain ⟨wa, hwa⟩ : ∃ wx, w9.alloc (.cells (frCells ⟨⟨Zc, Zcn, Zcc⟩, ⟨Zp, Zpn, Zpc⟩, ⟨Zr, Zrn, Zrc⟩, ⟨Zu, Zun, Zuc⟩, ⟨Zh, Zhn, Zhc⟩⟩ ⟨kv, sv, dv, epv, lfv, flv, gnv, sqv, fov, cov, payv, rkv, tev, upv, hpv⟩) 32) = wx := ⟨_, rfl⟩
      obtain ⟨ka, hba⟩ := HFB.out w9 ⟨⟨Zc, Zcn, Zcc⟩, ⟨Zp, Zpn, Zpc⟩, ⟨Zr, Zrn, Zrc⟩, ⟨Zu, Zun, Zuc⟩, ⟨Zh, Zhn, Zhc⟩⟩ wa hwa
      obtain ⟨ga, hga⟩ : ∃ g, w9.heap.size = g := ⟨_, rfl⟩
      rw [hga] at hba
      have KRA : Hid (Keep wr wa) := k9.trans ka
      have K10 : Hid (Keep w2 wa) := KT.out.trans KRA.out
      have F1 := Lib.hid (FAR.out _ wa (TM.out.then_keep KRA.out) (fun b e => by have h2 := (HBL.out b e).2; have h3 := K34.out.size; have h4 := K45.out.size; omega))
      have F2 := Lib.hid (h9.later ka)
      have S4 := Lib.hid (str_later (c := c4) (B4.out.keep (Nat.le_refl _) KRA.out) KRA.out.size)
      have S5 := Lib.hid (str_later (c := c5) (B5.out.keep (Nat.le_refl _) KRA.out) KRA.out.size)
      have BXA := Lib.hid hba
      have BX7' : Hid (∀ wx, Keep wa wx → FrBox wx g7 32 ⟨⟨Yc, Ycn, Ycc⟩, ⟨Yp, Ypn, Ypc⟩, ⟨Yr, Yrn, Yrc⟩, ⟨Yu, Yun, Yuc⟩, ⟨Yh, Yhn, Yhc⟩⟩ ⟨kv, sv, dv, epv, lfv, flv, gnv, sqv, fov, cov, payv, rkv, tev, upv, hpv⟩) := fun wx kx => (BX7.out.keep KRA.out).keep kx
      simp only [frCells] at hwa ⊢
      have HWA := Lib.hid hwa
      have HGA := Lib.hid hga
      clear h9 k9 hwa hba hga ka HR9 B4 B5 BX7 TM
      go_upto_region 10 with fail
      rw [HWA.out, HGA.out]
      have BXG : Hid (∀ wx, Keep wa wx → FrBox wx g 32 ⟨⟨Ac, nc, cc⟩, ⟨Ap, np, cp⟩, ⟨Ar, nr, cr⟩, ⟨Au, nu, cu⟩, ⟨Ah, nh, ch⟩⟩ ⟨k, s, d, ep, lf, fl, gn, sq, fo, co, pay, rk, te, up, hp⟩ ∧ FrBox wx (g + 1) 32 ⟨⟨Bc, mc, dc⟩, ⟨Bp, mp, dp⟩, ⟨Br, mr, dr⟩, ⟨Bu, mu, du⟩, ⟨Bh, mh, dh⟩⟩ ⟨k', s', d', ep', lf', fl', gn', sq', fo', co', pay', rk', te', up', hp'⟩) := fun wx kx => HBOX.out wx (K10.out.trans kx)
      exact forms_end W wa g g7 ga _ _ ⟨⟨Yc, Ycn, Ycc⟩, ⟨Yp, Ypn, Ypc⟩, ⟨Yr, Yrn, Yrc⟩, ⟨Yu, Yun, Yuc⟩, ⟨Yh, Yhn, Yhc⟩⟩ ⟨⟨Zc, Zcn, Zcc⟩, ⟨Zp, Zpn, Zpc⟩, ⟨Zr, Zrn, Zrc⟩, ⟨Zu, Zun, Zuc⟩, ⟨Zh, Zhn, Zhc⟩⟩ ⟨k, s, d, ep, lf, fl, gn, sq, fo, co, pay, rk, te, up, hp⟩ ⟨k', s', d', ep', lf', fl', gn', sq', fo', co', pay', rk', te', up', hp'⟩ ⟨kv, sv, dv, epv, lfv, flv, gnv, sqv, fov, cov, payv, rkv, tev, upv, hpv⟩ pe _ tm ts A4 A5 n4 n5 c4 c5 PV (HK2.out.trans K10.out) (fun wx kx => (BXG.out wx kx).1) (fun wx kx => (BXG.out wx kx).2) (fun wx kx => BX7'.out wx kx) (fun wx kx => BXA.out wx kx)
        (fun wx kx => HM1.out wx (K10.out.trans kx)) (fun wx kx => HM2.out wx (K10.out.trans kx)) (fun wx kx => HS1.out wx (K10.out.trans kx)) (fun wx kx => HS2.out wx (K10.out.trans kx)) (fun wx kx => HSV.out ⟨⟨Yc, Ycn, Ycc⟩, ⟨Yp, Ypn, Ypc⟩, ⟨Yr, Yrn, Yrc⟩, ⟨Yu, Yun, Yuc⟩, ⟨Yh, Yhn, Yhc⟩⟩ ⟨⟨Zc, Zcn, Zcc⟩, ⟨Zp, Zpn, Zpc⟩, ⟨Zr, Zrn, Zrc⟩, ⟨Zu, Zun, Zuc⟩, ⟨Zh, Zhn, Zhc⟩⟩ wx (F1.out.later kx) (F2.out.later kx)) (fun wx kx => HAW.out wx (K10.out.trans kx)) S4.out S5.out _ _ _ _ _ _ _ _ _ _ _ _ _ _ _ _ _ _ _ _ _ _ _ _ _ _ _ _ _ _ _ _ _ _ _ _ _ _ _ _ _ _ _ _ _ _ _ _ _ _ _ _ _ _ _ _ _ _ _ _ _ _ _ _ _ _ _ _ _ _ _ _ _ _ _ _ _ _ _ _ _ (by assumption)
end Go.Proofs.YtgkihfemlbhioaaDoor
