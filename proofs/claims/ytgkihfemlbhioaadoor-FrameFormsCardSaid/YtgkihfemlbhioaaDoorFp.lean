/- The document's own frames: long; bytes laid one behind the other. -/
import Derived.Test.YtgkihfemlbhioaaDoorNew
import Derived.Test.YtgkihfemlbhioaaDoorForm
import Derived.Test.YtgkihfemlbhioaaDoorFs5
import Derived.Test.YtgkihfemlbhioaaDoorCref
import Derived.Deep.DeepCutAuto
import Derived.Deep.CutBlock
namespace Go.Proofs.YtgkihfemlbhioaaDoor
open Go.RowKit
set_option linter.unusedVariables false
set_option linter.unusedSimpArgs false
/-- Bytes that are being laid, in memory that is new since W. -/
structure Bld (W w : World) (A : Option Addr) (n c : Nat) (xs : List Nat) : Prop where
  own : Own w W.heap.size 5 A n c xs
  kp : Keep W w
theorem Bld.grow {W w w' : World} {A A' : Option Addr} {n c n' c' : Nat} {xs ys : List Nat} (h : Bld W w A n c xs) (o : Own w' W.heap.size 5 A' n' c' (xs ++ ys)) (g : w.grownBy w' (Value.slice A n c).ownBlock) : Bld W w' A' n' c' (xs ++ ys) :=
  ⟨o, h.kp.grown g h.own.rowLe⟩
theorem Bld.later {W w w' : World} {A : Option Addr} {n c : Nat} {xs : List Nat} (h : Bld W w A n c xs) (k : Keep w w') : Bld W w' A n c xs := ⟨h.own.keep k, h.kp.trans k⟩
theorem grown_more {w a b : World} {row r : Option Nat} (h : w.grownBy a row) (g : a.grownBy b r) (hr : r = row ∨ ∀ k, r = some k → w.heap.size ≤ k) : w.grownBy b row :=
  ⟨g.os.trans h.os, g.tape.trans h.tape, g.output.trans h.output, Nat.le_trans h.size g.size, fun i hi hne => by
    refine (g.block i (Nat.lt_of_lt_of_le hi h.size) ?_).trans (h.block i hi hne)
    rcases hr with e | e
    · rw [e]; exact hne
    · intro e2
      have := e i e2.symm
      omega⟩
theorem grown_keep {w a b : World} {row : Option Nat} (h : w.grownBy a row) (k : Keep a b) : w.grownBy b row :=
  grown_more (r := none) h ⟨k.os, k.tape, k.output, k.size, fun i hi _ => k.block i hi⟩ (Or.inr fun k e => by cases e)
theorem form8_take (v j : Nat) (hj : j < 8) : (formN 8 v).take (j + 1) = (formN 8 v).take j ++ [v / 256 ^ (7 - j) % 256] := by
  have hl : j < (formN 8 v).length := by rw [formN_length]; exact hj
  rw [List.take_add_one, List.getElem?_eq_getElem hl]
  have := formN_get 8 v j hj
  rw [List.getD_eq_getElem?_getD, List.getElem?_eq_getElem hl] at this
  simp only [Option.getD_some] at this
  rw [this]
  rfl
set_option maxRecDepth 100000 in
set_option maxHeartbeats 4000000 in
theorem long_any (W w : World) (A : Option Addr) (n c v : Nat) (xs : List Nat) (h : Bld W w A n c xs) (hn : n ≤ 1000000) (hv : v < 18446744073709551616) :
    Calls Tryd.prog 21 #[.slice A n c, .int .u64 (v : Int)] w fun e w' => ∃ A' c', e = .returned (.slice A' (n + 8) c') ∧ Bld W w' A' (n + 8) c' (xs ++ formN 8 v) ∧ w.grownBy w' (Value.slice A n c).ownBlock := by
  have HB := Lib.hid h
  clear h
  go_enter Tryd.func21, Tryd.ntmps21
  go_wp2_with fail
  go_loopw [0, 5] (fun b iv wr => ∃ (j : Nat) (A' : Option Addr) (c' : Nat), j ≤ 8 ∧ iv = .int .i64 (7 - (j : Int)) ∧ b = .slice A' (n + j) c' ∧ Bld W wr A' (n + j) c' (xs ++ (formN 8 v).take j) ∧ w.grownBy wr (Value.slice A n c).ownBlock ∧ ((Value.slice A' (n + j) c').ownBlock = (Value.slice A n c).ownBlock ∨ ∀ k, (Value.slice A' (n + j) c').ownBlock = some k → w.heap.size ≤ k)) (fun _ iv _ => (intOf iv + 1).toNat)
  case atStart => exact ⟨0, A, c, by omega, rfl, rfl, by simpa using HB.out, World.grownBy.refl w _, Or.inl rfl⟩
  case round =>
    obtain ⟨j, A', c', hj, rfl, rfl, hb, hgr, hrow⟩ := hrel
    have HB2 := Lib.hid hb
    have HGR := Lib.hid hgr
    have HROW := Lib.hid hrow
    clear hb hgr hrow
    by_cases hlt : j < 8
    · have HT := Lib.hid (form8_take v j hlt)
      obtain ⟨x, hx⟩ : ∃ x, v / 256 ^ (7 - j) % 256 = x := ⟨_, rfl⟩
      have hx2 : x < 256 := by rw [← hx]; exact Nat.mod_lt _ (by decide)
      rw [hx] at HT
      have e1 : (0 : Int) ≤ 7 - (j : Int) := by omega
      have e2 : (v : Int) / 2 ^ (8 * (7 - j)) % 256 = (x : Int) := by
        rw [← hx, show (256 : Nat) ^ (7 - j) = 2 ^ (8 * (7 - j)) by rw [Nat.pow_mul]]
        push_cast
        rfl
      have HW : Hid (W.heap.size ≤ (wr.alloc (.cells #[.int .u8 (x : Int)] 5)).heap.size) := by
        show W.heap.size ≤ _
        have := HB2.out.kp.size
        simp; omega
      clear hx
      go_wp2_with (at_builtin; refine wpList_append_bytes rfl _ _ 23 rfl Tryd.underlying23 info5 rfl (HB2.out.own.alloc _) rfl (Bytes.one wr x hx2 5) (by omega) HW.out ?_)
      intro A2 c2 w2 h2 hg2 hrow2
      have G2 : Hid (w.grownBy w2 (Value.slice A n c).ownBlock) := grown_more (grown_keep HGR.out ((Keep.refl wr).alloc #[.int .u8 (x : Int)] 5)) hg2 HROW.out
      have W2 : Hid ((Value.slice A2 (n + (j + 1)) c2).ownBlock = (Value.slice A n c).ownBlock ∨ ∀ k, (Value.slice A2 (n + (j + 1)) c2).ownBlock = some k → w.heap.size ≤ k) := by
        rcases hrow2 with e | e
        · rcases HROW.out with e2 | e2
          · exact Or.inl (e.trans e2)
          · exact Or.inr fun k hk => e2 k (e ▸ hk)
        · refine Or.inr fun k hk => ?_
          have hk2 := e.symm.trans hk
          injection hk2 with hk2
          have := HGR.out.size
          rw [← hk2]; simp; omega
      have H2 : Hid (Bld W w2 A2 (n + (j + 1)) c2 (xs ++ (formN 8 v).take (j + 1))) := by
        show Bld _ _ _ _ _ _
        rw [← List.append_assoc] at h2
        have := (HB2.out.later ((Keep.refl wr).alloc #[.int .u8 (x : Int)] 5)).grow h2 hg2
        rw [HT.out, ← List.append_assoc]; exact this
      clear h2 hg2 HB2 hrow2
      go_wp2_with fail
      go_roundw
      case rel => exact ⟨j + 1, A2, c2, by omega, by go_num, by rw [Nat.add_assoc], H2.out, G2.out, W2.out⟩
      case measure => simp [intOf]; omega
    · obtain rfl : j = 8 := by omega
      have H3 : Hid (Bld W wr A' (n + 8) c' (xs ++ formN 8 v)) := by
        show Bld _ _ _ _ _ _
        have := HB2.out
        rwa [List.take_of_length_le (by rw [formN_length]; exact Nat.le_refl _)] at this
      clear HB2
      go_wp2_with fail
      go_ret
      exact ⟨_, _, rfl, H3.out, HGR.out⟩
end Go.Proofs.YtgkihfemlbhioaaDoor
/- The document's own frames: Put. -/
namespace Go.Proofs.YtgkihfemlbhioaaDoor
open Go.RowKit Fr Crc
set_option linter.unusedVariables false
set_option linter.unusedSimpArgs false
theorem form1 (k : Nat) (h : k < 256) : formN 1 k = [k] := by
  rw [formN_succ]
  simp [formN, Nat.mod_eq_of_lt h]
theorem Bld.drew {W w : World} {A : Option Addr} {n c : Nat} {xs : List Nat} (h : Bld W w A n c xs) : Bld W w.drew A n c xs := ⟨h.own.drew, h.kp.drew⟩
/-- A literal beside, when own memory grows. -/
theorem lit_stays {wb wl : World} {b x : Nat} {row : Option Nat} (y : Bytes wb wb.heap.size (some ⟨b, 0, none⟩) 1 [x]) (g : wb.grownBy wl row) (hb : b < wb.heap.size) (hr : ∀ k, row = some k → k < b) : Bytes wl wl.heap.size (some ⟨b, 0, none⟩) 1 [x] :=
  ⟨y.1, y.2.1, fun hn => by
    obtain ⟨b', off, e, hb', hc⟩ := y.2.2 hn
    injection e with e
    injection e with e1 e2
    subst e1; subst e2
    exact ⟨b, 0, rfl, Nat.lt_of_lt_of_le hb g.size, fun i hi => (World.cell?_of_block (g.block b hb (fun e => by have := hr b e.symm; omega))).trans (hc i hi)⟩⟩
set_option maxRecDepth 100000 in
set_option maxHeartbeats 32000000 in
theorem rput_any (m : FrM) (f : FrV) (w : World) (hf : FrIn w w.heap.size m f) :
    Calls Tryd.prog 10 #[.agg (frCells m f)] w (NewPair w (putV f) (putE f)) := by
  obtain ⟨w2, hw2⟩ : ∃ w2, w.alloc (.cells (frCells m f) 32) = w2 := ⟨_, rfl⟩
  obtain ⟨k2, hbox⟩ := fr_box w _ m f hw2
  have HI := Lib.hid hf
  have HMAY := Lib.hid (rmay_any m f w2 (hf.later k2))
  obtain ⟨t, ht⟩ : ∃ t, decide (MayF f) = t := ⟨_, rfl⟩
  rw [ht] at HMAY
  have HT := Lib.hid ht
  obtain ⟨PV, hPV⟩ : ∃ PV, putV f = PV := ⟨_, rfl⟩
  obtain ⟨PE, hPE⟩ : ∃ PE, putE f = PE := ⟨_, rfl⟩
  rw [hPV, hPE]
  have HPV := Lib.hid hPV
  have HPE := Lib.hid hPE
  have HSZ := Lib.hid (fun h : MayF f => size_le h)
  clear ht hPV hPE hf
  obtain ⟨k, s, d, ep, lf, fl, gn, sq, fo, co, pay, rk, te, up, hp⟩ := f
  obtain ⟨⟨Ac, nc, cc⟩, ⟨Ap, np, cp⟩, ⟨Ar, nr, cr⟩, ⟨Au, nu, cu⟩, ⟨Ah, nh, ch⟩⟩ := m
  obtain ⟨⟨x0, x1, x2, x3, x4⟩, ⟨x5, x6, x7, x8⟩, ⟨x9, x10, x11⟩, x12, x13, x14⟩ := (hbox w2 (Keep.refl w2)).cells
  simp only [frCells] at hw2 HMAY
  obtain ⟨g, hg⟩ : ∃ g, w.heap.size = g := ⟨_, rfl⟩
  rw [hg] at hbox x0 x1 x2 x3 x4 x5 x6 x7 x8 x9 x10 x11 x12 x13 x14
  dsimp only at *
  have K2 := Lib.hid k2
  have HBOX := Lib.hid hbox
  clear k2 hbox
  simp only [frCells]
  go_enter Tryd.func10, Tryd.ntmps10
  go_wp2_with fail
  refine HMAY.out.mono ?_
  rintro e w3 ⟨rfl, k3⟩
  have K3 := Lib.hid k3
  clear k3 x0 x1 x2 x3 x4 x5 x6 x7 x8 x9 x10 x11 x12 x13 x14
  cases t with
  | false =>
    have hm := of_decide_eq_false HT.out
    have E1 : Hid (PV = []) := by show PV = []; rw [← HPV.out]; exact if_neg hm
    have E2 : Hid (PE = 1) := by show PE = 1; rw [← HPE.out]; exact if_neg hm
    have KE : Hid (Keep w w3) := K2.out.trans K3.out
    clear hm
    go_wp2_with fail
    go_ret2
    rw [E1.out, E2.out]
    exact ⟨none, 0, 0, rfl, Own.none_ _ _ _, KE.out⟩
  | true =>
    have hm := of_decide_eq_true HT.out
    obtain ⟨k, rfl⟩ : ∃ n : Nat, k = n := ⟨k.toNat, by have := hm.k1; dsimp only at this; omega⟩
    obtain ⟨s, rfl⟩ : ∃ n : Nat, s = n := ⟨s.toNat, by have := hm.s0; dsimp only at this; omega⟩
    obtain ⟨d, rfl⟩ : ∃ n : Nat, d = n := ⟨d.toNat, by have := hm.d0; dsimp only at this; omega⟩
    have B0 : Hid (1 ≤ k ∧ k ≤ 6 ∧ s ≤ 63 ∧ d ≤ 63 ∧ ep < 18446744073709551616 ∧ lf < 18446744073709551616) := by
      have a1 := hm.k1; have a2 := hm.k6; have a3 := hm.s63; have a4 := hm.d63; have a5 := hm.ep; have a6 := hm.life
      dsimp only at a1 a2 a3 a4 a5 a6
      exact ⟨by omega, by omega, by omega, by omega, by omega, by omega⟩
    have HM := Lib.hid hm
    have r1 : IntKind.u8.wrap (k : Int) = (k : Int) := IntWalk.u8_in _ (by have := B0.out; omega)
    have r2 : IntKind.u8.wrap (s : Int) = (s : Int) := IntWalk.u8_in _ (by have := B0.out; omega)
    have r3 : IntKind.u8.wrap (d : Int) = (d : Int) := IntWalk.u8_in _ (by have := B0.out; omega)
    have HB3 : Hid (∀ wr, Keep w3 wr → FrBox wr g 32 ⟨⟨Ac, nc, cc⟩, ⟨Ap, np, cp⟩, ⟨Ar, nr, cr⟩, ⟨Au, nu, cu⟩, ⟨Ah, nh, ch⟩⟩ ⟨(k : Int), (s : Int), (d : Int), ep, lf, fl, gn, sq, fo, co, pay, rk, te, up, hp⟩) := fun wr kp => HBOX.out wr (Keep.trans K3.out kp)
    have KW : Hid (Keep w w3) := K2.out.trans K3.out
    clear hm HMAY HT
    go_wp2_with fail
    refine wp_region_noPanic ?_
    refine wp_region_held_drew (S := fun wz => Keep w3 wz) (by kernel_rfl) (Keep.drew (Keep.refl _)) (fun hHeld => ?_)
    refine wpAnyH_take (i := 0) (v := ?_) rfl (by kernel_rfl) (by kernel_rfl) (by kernel_rfl) (fun _ _ _ h => h) (Or.inl ⟨by rfl, ?_⟩) hHeld ?_
    rotate_left
    · intro wq hSw
      go_simp
      all_goals with_reducible rfl
    try simp only [Act.put, List.getElem_toArray, List.getElem_cons_succ, List.getElem_cons_zero, List.setIfInBounds_toArray, List.set_cons_zero, List.set_cons_succ]
    refine wpAnyH_take (i := 1) (v := ?_) rfl (by kernel_rfl) (by kernel_rfl) (by kernel_rfl) (fun _ _ _ h => h) (Or.inl ⟨by rfl, ?_⟩) hHeld ?_
    rotate_left
    · intro wq hSw
      obtain ⟨⟨y0, y1, y2, y3, y4⟩, _⟩ := (HB3.out wq hSw).cells
      go_simp
      all_goals with_reducible rfl
    try simp only [Act.put, List.getElem_toArray, List.getElem_cons_succ, List.getElem_cons_zero, List.setIfInBounds_toArray, List.set_cons_zero, List.set_cons_succ]
    refine wpAnyH_take (i := 2) (v := ?_) rfl (by kernel_rfl) (by kernel_rfl) (by kernel_rfl) (fun _ _ _ h => h) (Or.inl ⟨by rfl, ?_⟩) hHeld ?_
    rotate_left
    · intro wq hSw
      go_simp
      all_goals with_reducible rfl
    try simp only [Act.put, List.getElem_toArray, List.getElem_cons_succ, List.getElem_cons_zero, List.setIfInBounds_toArray, List.set_cons_zero, List.set_cons_succ]
    refine wpAnyH_take (i := 3) (v := ?_) rfl (by kernel_rfl) (by kernel_rfl) (by kernel_rfl) (fun _ _ _ h => h) (Or.inl ⟨by rfl, ?_⟩) hHeld ?_
    rotate_left
    · intro wq hSw
      go_simp
      all_goals with_reducible rfl
    try simp only [Act.put, List.getElem_toArray, List.getElem_cons_succ, List.getElem_cons_zero, List.setIfInBounds_toArray, List.set_cons_zero, List.set_cons_succ]
    refine wpAnyH_take (i := 4) (v := ?_) rfl (by kernel_rfl) (by kernel_rfl) (by kernel_rfl) (fun _ _ _ h => h) (Or.inl ⟨by rfl, ?_⟩) hHeld ?_
    rotate_left
    · intro wq hSw
      obtain ⟨⟨y0, y1, y2, y3, y4⟩, _⟩ := (HB3.out wq hSw).cells
      go_simp
      all_goals with_reducible rfl
    try simp only [Act.put, List.getElem_toArray, List.getElem_cons_succ, List.getElem_cons_zero, List.setIfInBounds_toArray, List.set_cons_zero, List.set_cons_succ]
    refine wpAnyH_take (i := 5) (v := ?_) rfl (by kernel_rfl) (by kernel_rfl) (by kernel_rfl) (fun _ _ _ h => h) (Or.inl ⟨by rfl, ?_⟩) hHeld ?_
    rotate_left
    · intro wq hSw
      go_simp
      all_goals with_reducible rfl
    try simp only [Act.put, List.getElem_toArray, List.getElem_cons_succ, List.getElem_cons_zero, List.setIfInBounds_toArray, List.set_cons_zero, List.set_cons_succ]
    refine wpAnyH_take (i := 6) (v := ?_) rfl (by kernel_rfl) (by kernel_rfl) (by kernel_rfl) (fun _ _ _ h => h) (Or.inl ⟨by rfl, ?_⟩) hHeld ?_
    rotate_left
    · intro wq hSw
      go_simp
      all_goals with_reducible rfl
    try simp only [Act.put, List.getElem_toArray, List.getElem_cons_succ, List.getElem_cons_zero, List.setIfInBounds_toArray, List.set_cons_zero, List.set_cons_succ]
    refine wpAnyH_take (i := 7) (v := ?_) rfl (by kernel_rfl) (by kernel_rfl) (by kernel_rfl) (fun _ _ _ h => h) (Or.inl ⟨by rfl, ?_⟩) hHeld ?_
    rotate_left
    · intro wq hSw
      obtain ⟨⟨y0, y1, y2, y3, y4⟩, _⟩ := (HB3.out wq hSw).cells
      go_simp
      all_goals with_reducible rfl
    try simp only [Act.put, List.getElem_toArray, List.getElem_cons_succ, List.getElem_cons_zero, List.setIfInBounds_toArray, List.set_cons_zero, List.set_cons_succ]
    refine wpAnyH_take (i := 8) (v := ?_) rfl (by kernel_rfl) (by kernel_rfl) (by kernel_rfl) (fun _ _ _ h => h) (Or.inl ⟨by rfl, ?_⟩) hHeld ?_
    rotate_left
    · intro wq hSw
      go_simp
      all_goals with_reducible rfl
    try simp only [Act.put, List.getElem_toArray, List.getElem_cons_succ, List.getElem_cons_zero, List.setIfInBounds_toArray, List.set_cons_zero, List.set_cons_succ]
    refine wpAnyH_take (i := 10) (v := ?_) rfl (by kernel_rfl) (by kernel_rfl) (by kernel_rfl) (fun _ _ _ h => h) (Or.inl ⟨by rfl, ?_⟩) hHeld ?_
    rotate_left
    · intro wq hSw
      go_simp
      all_goals with_reducible rfl
    try simp only [Act.put, List.getElem_toArray, List.getElem_cons_succ, List.getElem_cons_zero, List.setIfInBounds_toArray, List.set_cons_zero, List.set_cons_succ]
    refine wpAnyH_take (i := 11) (v := ?_) rfl (by kernel_rfl) (by kernel_rfl) (by kernel_rfl) (fun _ _ _ h => h) (Or.inl ⟨by rfl, ?_⟩) hHeld ?_
    rotate_left
    · intro wq hSw
      obtain ⟨⟨y0, y1, y2, y3, y4⟩, _⟩ := (HB3.out wq hSw).cells
      go_simp
      all_goals with_reducible rfl
    try simp only [Act.put, List.getElem_toArray, List.getElem_cons_succ, List.getElem_cons_zero, List.setIfInBounds_toArray, List.set_cons_zero, List.set_cons_succ]
    refine wpAnyH_take (i := 13) (v := ?_) rfl (by kernel_rfl) (by kernel_rfl) (by kernel_rfl) (fun _ _ _ h => h) (Or.inl ⟨by rfl, ?_⟩) hHeld ?_
    rotate_left
    · intro wq hSw
      go_simp
      all_goals with_reducible rfl
    try simp only [Act.put, List.getElem_toArray, List.getElem_cons_succ, List.getElem_cons_zero, List.setIfInBounds_toArray, List.set_cons_zero, List.set_cons_succ]
    refine wpAnyH_take (i := 14) (v := ?_) rfl (by kernel_rfl) (by kernel_rfl) (by kernel_rfl) (fun _ _ _ h => h) (Or.inl ⟨by rfl, ?_⟩) hHeld ?_
    rotate_left
    · intro wq hSw
      obtain ⟨⟨y0, y1, y2, y3, y4⟩, _⟩ := (HB3.out wq hSw).cells
      go_simp
      all_goals with_reducible rfl
    try simp only [Act.put, List.getElem_toArray, List.getElem_cons_succ, List.getElem_cons_zero, List.setIfInBounds_toArray, List.set_cons_zero, List.set_cons_succ]
    refine wpAnyH_ready (rs := [9]) (by kernel_rfl) (by simp) ?_
    refine AllReadyH.cons rfl (fun K hK => ?_) AllReadyH.nil
    go_simp
    obtain ⟨w4, hw4⟩ : ∃ w4, (w3.alloc (.cells #[.int .u8 (k : Int), .int .u8 (s : Int), .int .u8 (d : Int)] 5)).drew = w4 := ⟨_, rfl⟩
    have b4 : Bld w3 w4 (some ⟨w3.heap.size, 0, none⟩) 3 3 [k, s, d] := by
      rw [← hw4]
      exact ⟨(Own.lit w3 5 3 [k, s, d] _ rfl rfl (by decide) (by
        have := B0.out
        intro x hx
        simp at hx
        omega)).drew, ((Keep.refl w3).alloc _ _).drew⟩
    rw [hw4]
    clear hw4
    refine hK.out _ _ b4.kp (fun hHeld => ?_)
    clear hK K
    try simp only [Act.put, List.getElem_toArray, List.getElem_cons_succ, List.getElem_cons_zero, List.setIfInBounds_toArray, List.set_cons_zero, List.set_cons_succ]
    refine wpAnyH_ready (rs := [12]) (by kernel_rfl) (by simp) ?_
    refine AllReadyH.cons rfl (fun K hK => ?_) AllReadyH.nil
    go_simp
    refine (long_any w3 _ _ 3 3 ep _ b4 (by decide) B0.out.2.2.2.2.1).mono ?_
    rintro e w5 ⟨A5, c5, rfl, b5, _⟩
    refine hK.out _ _ b5.kp (fun hHeld => ?_)
    clear hK K b4
    try simp only [Act.put, List.getElem_toArray, List.getElem_cons_succ, List.getElem_cons_zero, List.setIfInBounds_toArray, List.set_cons_zero, List.set_cons_succ]
    refine wpAnyH_ready (rs := [15]) (by kernel_rfl) (by simp) ?_
    refine AllReadyH.cons rfl (fun K hK => ?_) AllReadyH.nil
    go_simp
    refine (long_any w3 _ _ (3 + 8) c5 lf _ b5 (by decide) B0.out.2.2.2.2.2).mono ?_
    rintro e w6 ⟨A6, c6, rfl, b6, _⟩
    refine hK.out _ _ b6.kp (fun hHeld => ?_)
    clear hK K b5
    try simp only [Act.put, List.getElem_toArray, List.getElem_cons_succ, List.getElem_cons_zero, List.setIfInBounds_toArray, List.set_cons_zero, List.set_cons_succ]
    refine wpAnyH_take (i := 16) (v := ?_) rfl (by kernel_rfl) (by kernel_rfl) (by kernel_rfl) (fun _ _ _ h => h) (Or.inl ⟨by rfl, ?_⟩) hHeld ?_
    rotate_left
    · intro wq hSw
      go_simp
      all_goals with_reducible rfl
    try simp only [Act.put, List.getElem_toArray, List.getElem_cons_succ, List.getElem_cons_zero, List.setIfInBounds_toArray, List.set_cons_zero, List.set_cons_succ]
    refine wpAnyH_done (by kernel_rfl) ?_ _
    refine NoPanic.normal ?_
    clear hHeld
    have hk6 : k = 1 ∨ k = 2 ∨ k = 3 ∨ k = 4 ∨ k = 5 ∨ k = 6 := by have := B0.out; omega
    have G6 := Lib.hid b6
    have CF : Hid (∀ (XS : List Nat) (n : Nat), XS = formF ⟨(k : Int), (s : Int), (d : Int), ep, lf, fl, gn, sq, fo, co, pay, rk, te, up, hp⟩ → XS.length = n → PV = sealN XS ∧ PE = 0 ∧ n ≤ 69000) := fun XS n e hl => by
      have a1 := HPV.out
      have a2 := HPE.out
      rw [putV, if_pos HM.out] at a1
      rw [putE, if_pos HM.out] at a2
      refine ⟨by rw [← a1, e], a2.symm, ?_⟩
      have := HSZ.out HM.out
      rw [← hl, e, form_len]; exact this
    have HD : Hid (∀ XS R : List Nat, R = restForm ⟨(k : Int), (s : Int), (d : Int), ep, lf, fl, gn, sq, fo, co, pay, rk, te, up, hp⟩ → XS = [k, s, d] ++ formN 8 ep ++ formN 8 lf ++ R → XS = formF ⟨(k : Int), (s : Int), (d : Int), ep, lf, fl, gn, sq, fo, co, pay, rk, te, up, hp⟩) := fun XS R hR hX => by
      rw [hX, hR]
      simp only [formF, Int.toNat_natCast]
      rw [form1 k (by have := B0.out; omega), form1 s (by have := B0.out; omega), form1 d (by have := B0.out; omega)]
      simp
    have OT : Hid ((k : Int) ≠ 5 → sq < 18446744073709551616 ∧ fo < 18446744073709551616 ∧ gn < 18446744073709551616 ∧ ∃ n : Nat, fl = n ∧ n ≤ 3) := fun h => by
      have o := HM.out.other h
      dsimp only at o
      exact ⟨by omega, by omega, by omega, fl.toNat, by omega, by omega⟩
    clear b6 r1 r2 r3
    rcases hk6 with rfl | rfl | rfl | rfl | rfl | rfl
    · obtain ⟨⟨y0, y1, y2, y3, y4⟩, ⟨y5, y6, y7, y8⟩, ⟨y9, y10, y11⟩, y12, y13, y14⟩ := (HB3.out w6 G6.out.kp).cells
      dsimp only at y0 y1 y2 y3 y4 y5 y6 y7 y8 y9 y10 y11 y12 y13 y14
      obtain ⟨fN, hfN, hf3⟩ := (OT.out (by decide)).2.2.2
      subst hfN
      have rfl8 : IntKind.u8.wrap (fN : Int) = (fN : Int) := IntWalk.u8_in _ (by omega)
      go_wp2_with fail
      clear y0 y1 y2 y3 y4 y5 y6 y7 y8 y9 y10 y11 y12 y13 y14
      refine wp_region_noPanic ?_
      refine wp_region_held_drew (S := fun wz => Keep w3 wz) (by kernel_rfl) (Keep.drew G6.out.kp) (fun hHeld => ?_)
      refine wpAnyH_take (i := 0) (v := ?_) rfl (by kernel_rfl) (by kernel_rfl) (by kernel_rfl) (fun _ _ _ h => h) (Or.inl ⟨by rfl, ?_⟩) hHeld ?_
      rotate_left
      · intro wq hSw
        go_simp
        all_goals with_reducible rfl
      try simp only [Act.put, List.getElem_toArray, List.getElem_cons_succ, List.getElem_cons_zero, List.setIfInBounds_toArray, List.set_cons_zero, List.set_cons_succ]
      refine wpAnyH_take (i := 1) (v := ?_) rfl (by kernel_rfl) (by kernel_rfl) (by kernel_rfl) (fun _ _ _ h => h) (Or.inl ⟨by rfl, ?_⟩) hHeld ?_
      rotate_left
      · intro wq hSw
        go_simp
        all_goals with_reducible rfl
      try simp only [Act.put, List.getElem_toArray, List.getElem_cons_succ, List.getElem_cons_zero, List.setIfInBounds_toArray, List.set_cons_zero, List.set_cons_succ]
      refine wpAnyH_take (i := 2) (v := ?_) rfl (by kernel_rfl) (by kernel_rfl) (by kernel_rfl) (fun _ _ _ h => h) (Or.inl ⟨by rfl, ?_⟩) hHeld ?_
      rotate_left
      · intro wq hSw
        obtain ⟨_, ⟨y5, y6, y7, y8⟩, _⟩ := (HB3.out wq hSw).cells
        go_simp
        all_goals with_reducible rfl
      try simp only [Act.put, List.getElem_toArray, List.getElem_cons_succ, List.getElem_cons_zero, List.setIfInBounds_toArray, List.set_cons_zero, List.set_cons_succ]
      refine wpAnyH_take (i := 3) (v := ?_) rfl (by kernel_rfl) (by kernel_rfl) (by kernel_rfl) (fun _ _ _ h => h) (Or.inl ⟨by rfl, ?_⟩) hHeld ?_
      rotate_left
      · intro wq hSw
        go_simp
        all_goals with_reducible rfl
      try simp only [Act.put, List.getElem_toArray, List.getElem_cons_succ, List.getElem_cons_zero, List.setIfInBounds_toArray, List.set_cons_zero, List.set_cons_succ]
      refine wpAnyH_take (i := 6) (v := ?_) rfl (by kernel_rfl) (by kernel_rfl) (by kernel_rfl) (fun _ _ _ h => h) (Or.inl ⟨by rfl, ?_⟩) hHeld ?_
      rotate_left
      · intro wq hSw
        go_simp
        all_goals with_reducible rfl
      try simp only [Act.put, List.getElem_toArray, List.getElem_cons_succ, List.getElem_cons_zero, List.setIfInBounds_toArray, List.set_cons_zero, List.set_cons_succ]
      refine wpAnyH_take (i := 7) (v := ?_) rfl (by kernel_rfl) (by kernel_rfl) (by kernel_rfl) (fun _ _ _ h => h) (Or.inl ⟨by rfl, ?_⟩) hHeld ?_
      rotate_left
      · intro wq hSw
        obtain ⟨_, ⟨y5, y6, y7, y8⟩, _⟩ := (HB3.out wq hSw).cells
        go_simp
        all_goals with_reducible rfl
      try simp only [Act.put, List.getElem_toArray, List.getElem_cons_succ, List.getElem_cons_zero, List.setIfInBounds_toArray, List.set_cons_zero, List.set_cons_succ]
      refine wpAnyH_ready (rs := [4]) (by kernel_rfl) (by simp) ?_
      refine AllReadyH.cons rfl (fun K hK => ?_) AllReadyH.nil
      go_simp
      obtain ⟨wb, hwb⟩ : ∃ wb, (w6.alloc (.cells #[.int .u8 (fN : Int)] 5)).drew = wb := ⟨_, rfl⟩
      have gb : Bld w3 wb A6 (3 + 8 + 8) c6 ([1, s, d] ++ formN 8 ep ++ formN 8 lf) := by rw [← hwb]; exact G6.out.later (((Keep.refl w6).alloc _ _).drew)
      have yb : Bytes wb wb.heap.size (some ⟨w6.heap.size, 0, none⟩) 1 [fN] := by rw [← hwb]; exact (Bytes.one w6 fN (by omega) 5).mono (by simp)
      rw [hwb]
      clear hwb
      refine hK.out _ _ gb.kp (fun hHeld => ?_)
      clear hK K
      try simp only [Act.put, List.getElem_toArray, List.getElem_cons_succ, List.getElem_cons_zero, List.setIfInBounds_toArray, List.set_cons_zero, List.set_cons_succ]
      refine wpAnyH_ready (rs := [5]) (by kernel_rfl) (by simp) ?_
      refine AllReadyH.cons rfl (fun K hK => ?_) AllReadyH.nil
      refine step_append_bytes rfl _ _ 23 rfl Tryd.underlying23 info5 rfl gb.own rfl yb (by omega) gb.kp.size ?_
      intro A7 c7 w7 h2 hg2 _
      have b := gb.grow h2 hg2
      have G7 := Lib.hid b
      refine hK.out _ _ b.kp (fun hHeld => ?_)
      clear hK K b h2 hg2 gb yb G6
      try simp only [Act.put, List.getElem_toArray, List.getElem_cons_succ, List.getElem_cons_zero, List.setIfInBounds_toArray, List.set_cons_zero, List.set_cons_succ]
      refine wpAnyH_ready (rs := [8]) (by kernel_rfl) (by simp) ?_
      refine AllReadyH.cons rfl (fun K hK => ?_) AllReadyH.nil
      go_simp
      refine (long_any w3 _ _ ((3 + 8 + 8) + 1) c7 gn _ G7.out (by omega) (OT.out (by decide)).2.2.1).mono ?_
      rintro e w8 ⟨A8, c8, rfl, b, gl⟩
      have G8 := Lib.hid b
      refine hK.out _ _ b.kp (fun hHeld => ?_)
      clear hK K b gl G7
      try simp only [Act.put, List.getElem_toArray, List.getElem_cons_succ, List.getElem_cons_zero, List.setIfInBounds_toArray, List.set_cons_zero, List.set_cons_succ]
      refine wpAnyH_take (i := 9) (v := ?_) rfl (by kernel_rfl) (by kernel_rfl) (by kernel_rfl) (fun _ _ _ h => h) (Or.inl ⟨by rfl, ?_⟩) hHeld ?_
      rotate_left
      · intro wq hSw
        go_simp
        all_goals with_reducible rfl
      try simp only [Act.put, List.getElem_toArray, List.getElem_cons_succ, List.getElem_cons_zero, List.setIfInBounds_toArray, List.set_cons_zero, List.set_cons_succ]
      refine wpAnyH_done (by kernel_rfl) ?_ _
      refine NoPanic.normal ?_
      clear hHeld rfl8
      obtain ⟨⟨y0, y1, y2, y3, y4⟩, ⟨y5, y6, y7, y8⟩, ⟨y9, y10, y11⟩, y12, y13, y14⟩ := (HB3.out w8 G8.out.kp).cells
      dsimp only at y0 y1 y2 y3 y4 y5 y6 y7 y8 y9 y10 y11 y12 y13 y14
      go_wp2_with fail
      refine (long_any w3 _ _ (((3 + 8 + 8) + 1) + 8) c8 sq _ G8.out (by omega) (OT.out (by decide)).1).mono ?_
      rintro e w9 ⟨A9, c9, rfl, b, gl⟩
      have G9 := Lib.hid b
      clear b gl G8
      clear y0 y1 y2 y3 y4 y5 y6 y7 y8 y9 y10 y11 y12 y13 y14
      have hd := HM.out.data rfl
      dsimp only at hd
      have lc := HI.out.co.length
      have lp := HI.out.pay.length
      dsimp only at lc lp
      have d1 : nc < 256 ∧ np < 65536 := ⟨by omega, by omega⟩
      have LC := Lib.hid (And.intro lc lp)
      clear hd lc lp
      obtain ⟨d1, d2⟩ := d1
      have rc : IntKind.u8.wrap (nc : Int) = (nc : Int) := IntWalk.u8_in _ (by omega)
      obtain ⟨qa, hqa⟩ : ∃ qa, np / 256 = qa := ⟨_, rfl⟩
      obtain ⟨qb, hqb⟩ : ∃ qb, np % 256 = qb := ⟨_, rfl⟩
      have ra : (np : Int).tdiv 256 = (qa : Int) := by rw [Int.tdiv_eq_ediv_of_nonneg (by omega)]; omega
      have ra' : (np : Int) / 256 = (qa : Int) := by omega
      have rb : (np : Int).tmod 256 = (qb : Int) := by rw [Int.tmod_eq_emod_of_nonneg (by omega)]; omega
      have rb' : (np : Int) % 256 = (qb : Int) := by omega
      have rc1 : IntKind.u8.wrap (qa : Int) = (qa : Int) := IntWalk.u8_in _ (by omega)
      have rc2 : IntKind.u8.wrap (qb : Int) = (qb : Int) := IntWalk.u8_in _ (by omega)
      have F2 : Hid (formN 2 np = [qa, qb]) := by
        show formN 2 np = _
        rw [formN_succ, form1 _ (by omega), hqa, hqb]; rfl
      have Q2 : Hid (AllB [qa, qb]) := by
        intro x hx
        simp at hx
        omega
      clear hqa hqb
      obtain ⟨⟨y0, y1, y2, y3, y4⟩, ⟨y5, y6, y7, y8⟩, ⟨y9, y10, y11⟩, y12, y13, y14⟩ := (HB3.out w9 G9.out.kp).cells
      dsimp only at y0 y1 y2 y3 y4 y5 y6 y7 y8 y9 y10 y11 y12 y13 y14
      have HSZW : Hid (w3.heap.size ≤ (w9.alloc (.cells #[.int .u8 (nc : Int)] 5)).heap.size) := by
        show w3.heap.size ≤ _
        have := G9.out.kp.size
        simp; omega
      go_wp2_with (at_builtin; refine wpList_append_bytes rfl _ _ 23 rfl Tryd.underlying23 info5 rfl (G9.out.own.alloc _) rfl (Bytes.one w9 nc d1 5) (by omega) HSZW.out ?_)
      intro A10 c10 w10 h2 hg2 _
      have o2 : Own w10 w3.heap.size 5 A10 (((((3 + 8 + 8) + 1) + 8) + 8) + 1) c10 (([1, s, d] ++ formN 8 ep ++ formN 8 lf ++ [fN] ++ formN 8 gn ++ formN 8 sq) ++ [nc]) := by first | exact h2 | simpa using h2
      have G10 := Lib.hid ((G9.out.later ((Keep.refl w9).alloc #[.int .u8 (nc : Int)] 5)).grow (ys := [nc]) o2 hg2)
      clear h2 o2 hg2 G9 HSZW
      clear y0 y1 y2 y3 y4 y5 y6 y7 y8 y9 y10 y11 y12 y13 y14
      obtain ⟨⟨y0, y1, y2, y3, y4⟩, ⟨y5, y6, y7, y8⟩, ⟨y9, y10, y11⟩, y12, y13, y14⟩ := (HB3.out w10 G10.out.kp).cells
      dsimp only at y0 y1 y2 y3 y4 y5 y6 y7 y8 y9 y10 y11 y12 y13 y14
      go_wp2_with (at_builtin; refine wpList_append_bytes rfl _ _ 23 rfl Tryd.underlying23 info5 rfl G10.out.own rfl (HI.out.co.keep (Nat.le_refl _) (KW.out.trans G10.out.kp)) (by omega) G10.out.kp.size ?_)
      intro A11 c11 w11 h2 hg2 _
      have o2 : Own w11 w3.heap.size 5 A11 ((((((3 + 8 + 8) + 1) + 8) + 8) + 1) + nc) c11 (([1, s, d] ++ formN 8 ep ++ formN 8 lf ++ [fN] ++ formN 8 gn ++ formN 8 sq ++ [nc]) ++ co) := by first | exact h2 | simpa using h2
      have G11 := Lib.hid (G10.out.grow (ys := co) o2 hg2)
      clear h2 o2 hg2 G10
      clear y0 y1 y2 y3 y4 y5 y6 y7 y8 y9 y10 y11 y12 y13 y14
      obtain ⟨⟨y0, y1, y2, y3, y4⟩, ⟨y5, y6, y7, y8⟩, ⟨y9, y10, y11⟩, y12, y13, y14⟩ := (HB3.out w11 G11.out.kp).cells
      dsimp only at y0 y1 y2 y3 y4 y5 y6 y7 y8 y9 y10 y11 y12 y13 y14
      have HSZW : Hid (w3.heap.size ≤ (w11.alloc (.cells #[.int .u8 (qa : Int), .int .u8 (qb : Int)] 5)).heap.size) := by
        show w3.heap.size ≤ _
        have := G11.out.kp.size
        simp; omega
      go_wp2_with (at_builtin; refine wpList_append_bytes rfl _ _ 23 rfl Tryd.underlying23 info5 rfl (G11.out.own.alloc _) rfl ((Own.lit w11 5 2 [qa, qb] _ rfl rfl (by decide) Q2.out).bytes) (by omega) HSZW.out ?_)
      intro A12 c12 w12 h2 hg2 _
      have o2 : Own w12 w3.heap.size 5 A12 (((((((3 + 8 + 8) + 1) + 8) + 8) + 1) + nc) + 2) c12 (([1, s, d] ++ formN 8 ep ++ formN 8 lf ++ [fN] ++ formN 8 gn ++ formN 8 sq ++ [nc] ++ co) ++ [qa, qb]) := by first | exact h2 | simpa using h2
      have G12 := Lib.hid ((G11.out.later ((Keep.refl w11).alloc #[.int .u8 (qa : Int), .int .u8 (qb : Int)] 5)).grow (ys := [qa, qb]) o2 hg2)
      clear h2 o2 hg2 G11 HSZW
      clear y0 y1 y2 y3 y4 y5 y6 y7 y8 y9 y10 y11 y12 y13 y14
      obtain ⟨⟨y0, y1, y2, y3, y4⟩, ⟨y5, y6, y7, y8⟩, ⟨y9, y10, y11⟩, y12, y13, y14⟩ := (HB3.out w12 G12.out.kp).cells
      dsimp only at y0 y1 y2 y3 y4 y5 y6 y7 y8 y9 y10 y11 y12 y13 y14
      go_wp2_with (at_builtin; refine wpList_append_bytes rfl _ _ 23 rfl Tryd.underlying23 info5 rfl G12.out.own rfl (HI.out.pay.keep (Nat.le_refl _) (KW.out.trans G12.out.kp)) (by omega) G12.out.kp.size ?_)
      intro A13 c13 w13 h2 hg2 _
      have o2 : Own w13 w3.heap.size 5 A13 ((((((((3 + 8 + 8) + 1) + 8) + 8) + 1) + nc) + 2) + np) c13 (([1, s, d] ++ formN 8 ep ++ formN 8 lf ++ [fN] ++ formN 8 gn ++ formN 8 sq ++ [nc] ++ co ++ [qa, qb]) ++ pay) := by first | exact h2 | simpa using h2
      have G13 := Lib.hid (G12.out.grow (ys := pay) o2 hg2)
      clear h2 o2 hg2 G12
      clear y0 y1 y2 y3 y4 y5 y6 y7 y8 y9 y10 y11 y12 y13 y14
      obtain ⟨⟨y0, y1, y2, y3, y4⟩, ⟨y5, y6, y7, y8⟩, ⟨y9, y10, y11⟩, y12, y13, y14⟩ := (HB3.out w13 G13.out.kp).cells
      dsimp only at y0 y1 y2 y3 y4 y5 y6 y7 y8 y9 y10 y11 y12 y13 y14
      go_wp2_with fail
      obtain ⟨e1, e2, e3⟩ := CF.out ([1, s, d] ++ formN 8 ep ++ formN 8 lf ++ [fN] ++ formN 8 gn ++ formN 8 sq ++ [nc] ++ co ++ [qa, qb] ++ pay) ((((((((3 + 8 + 8) + 1) + 8) + 8) + 1) + nc) + 2) + np) (HD.out _ (([fN] ++ (formN 8 gn ++ (formN 8 sq ++ ([nc] ++ (co ++ ([qa, qb] ++ (pay)))))))) (by rw [restForm_1 (by rfl)]; simp only [dataForm, Int.toNat_natCast]; rw [form1 fN (by omega), LC.out.1, LC.out.2, form1 nc (by omega), F2.out]) (by simp only [List.append_assoc])) (by have := LC.out; simp [formN_length]; omega)
      refine (rseal_any _ ((((((((3 + 8 + 8) + 1) + 8) + 8) + 1) + nc) + 2) + np) c13 A13 _ _ G13.out.own.bytes (Nat.le_refl _) (by omega)).mono ?_
      rintro e wE ⟨AE, nE, cE, rfl, oE, kE⟩
      have E : Hid (NewPair w PV PE (.returned (.tuple #[.slice AE nE cE, .int .i64 0])) wE) := by
        rw [e1, e2]
        exact ⟨AE, nE, cE, rfl, oE.lower (Nat.le_trans KW.out.size G13.out.kp.size), KW.out.trans (G13.out.kp.trans kE)⟩
      clear e1 e2 e3 oE kE
      clear y0 y1 y2 y3 y4 y5 y6 y7 y8 y9 y10 y11 y12 y13 y14
      go_wp2_with fail
      go_ret2
      exact E.out
    · obtain ⟨⟨y0, y1, y2, y3, y4⟩, ⟨y5, y6, y7, y8⟩, ⟨y9, y10, y11⟩, y12, y13, y14⟩ := (HB3.out w6 G6.out.kp).cells
      dsimp only at y0 y1 y2 y3 y4 y5 y6 y7 y8 y9 y10 y11 y12 y13 y14
      obtain ⟨fN, hfN, hf3⟩ := (OT.out (by decide)).2.2.2
      subst hfN
      have rfl8 : IntKind.u8.wrap (fN : Int) = (fN : Int) := IntWalk.u8_in _ (by omega)
      go_wp2_with fail
      clear y0 y1 y2 y3 y4 y5 y6 y7 y8 y9 y10 y11 y12 y13 y14
      refine wp_region_noPanic ?_
      refine wp_region_held_drew (S := fun wz => Keep w3 wz) (by kernel_rfl) (Keep.drew G6.out.kp) (fun hHeld => ?_)
      refine wpAnyH_take (i := 0) (v := ?_) rfl (by kernel_rfl) (by kernel_rfl) (by kernel_rfl) (fun _ _ _ h => h) (Or.inl ⟨by rfl, ?_⟩) hHeld ?_
      rotate_left
      · intro wq hSw
        go_simp
        all_goals with_reducible rfl
      try simp only [Act.put, List.getElem_toArray, List.getElem_cons_succ, List.getElem_cons_zero, List.setIfInBounds_toArray, List.set_cons_zero, List.set_cons_succ]
      refine wpAnyH_take (i := 1) (v := ?_) rfl (by kernel_rfl) (by kernel_rfl) (by kernel_rfl) (fun _ _ _ h => h) (Or.inl ⟨by rfl, ?_⟩) hHeld ?_
      rotate_left
      · intro wq hSw
        go_simp
        all_goals with_reducible rfl
      try simp only [Act.put, List.getElem_toArray, List.getElem_cons_succ, List.getElem_cons_zero, List.setIfInBounds_toArray, List.set_cons_zero, List.set_cons_succ]
      refine wpAnyH_take (i := 2) (v := ?_) rfl (by kernel_rfl) (by kernel_rfl) (by kernel_rfl) (fun _ _ _ h => h) (Or.inl ⟨by rfl, ?_⟩) hHeld ?_
      rotate_left
      · intro wq hSw
        obtain ⟨_, ⟨y5, y6, y7, y8⟩, _⟩ := (HB3.out wq hSw).cells
        go_simp
        all_goals with_reducible rfl
      try simp only [Act.put, List.getElem_toArray, List.getElem_cons_succ, List.getElem_cons_zero, List.setIfInBounds_toArray, List.set_cons_zero, List.set_cons_succ]
      refine wpAnyH_take (i := 3) (v := ?_) rfl (by kernel_rfl) (by kernel_rfl) (by kernel_rfl) (fun _ _ _ h => h) (Or.inl ⟨by rfl, ?_⟩) hHeld ?_
      rotate_left
      · intro wq hSw
        go_simp
        all_goals with_reducible rfl
      try simp only [Act.put, List.getElem_toArray, List.getElem_cons_succ, List.getElem_cons_zero, List.setIfInBounds_toArray, List.set_cons_zero, List.set_cons_succ]
      refine wpAnyH_take (i := 6) (v := ?_) rfl (by kernel_rfl) (by kernel_rfl) (by kernel_rfl) (fun _ _ _ h => h) (Or.inl ⟨by rfl, ?_⟩) hHeld ?_
      rotate_left
      · intro wq hSw
        go_simp
        all_goals with_reducible rfl
      try simp only [Act.put, List.getElem_toArray, List.getElem_cons_succ, List.getElem_cons_zero, List.setIfInBounds_toArray, List.set_cons_zero, List.set_cons_succ]
      refine wpAnyH_take (i := 7) (v := ?_) rfl (by kernel_rfl) (by kernel_rfl) (by kernel_rfl) (fun _ _ _ h => h) (Or.inl ⟨by rfl, ?_⟩) hHeld ?_
      rotate_left
      · intro wq hSw
        obtain ⟨_, ⟨y5, y6, y7, y8⟩, _⟩ := (HB3.out wq hSw).cells
        go_simp
        all_goals with_reducible rfl
      try simp only [Act.put, List.getElem_toArray, List.getElem_cons_succ, List.getElem_cons_zero, List.setIfInBounds_toArray, List.set_cons_zero, List.set_cons_succ]
      refine wpAnyH_ready (rs := [4]) (by kernel_rfl) (by simp) ?_
      refine AllReadyH.cons rfl (fun K hK => ?_) AllReadyH.nil
      go_simp
      obtain ⟨wb, hwb⟩ : ∃ wb, (w6.alloc (.cells #[.int .u8 (fN : Int)] 5)).drew = wb := ⟨_, rfl⟩
      have gb : Bld w3 wb A6 (3 + 8 + 8) c6 ([2, s, d] ++ formN 8 ep ++ formN 8 lf) := by rw [← hwb]; exact G6.out.later (((Keep.refl w6).alloc _ _).drew)
      have yb : Bytes wb wb.heap.size (some ⟨w6.heap.size, 0, none⟩) 1 [fN] := by rw [← hwb]; exact (Bytes.one w6 fN (by omega) 5).mono (by simp)
      rw [hwb]
      clear hwb
      refine hK.out _ _ gb.kp (fun hHeld => ?_)
      clear hK K
      try simp only [Act.put, List.getElem_toArray, List.getElem_cons_succ, List.getElem_cons_zero, List.setIfInBounds_toArray, List.set_cons_zero, List.set_cons_succ]
      refine wpAnyH_ready (rs := [5]) (by kernel_rfl) (by simp) ?_
      refine AllReadyH.cons rfl (fun K hK => ?_) AllReadyH.nil
      refine step_append_bytes rfl _ _ 23 rfl Tryd.underlying23 info5 rfl gb.own rfl yb (by omega) gb.kp.size ?_
      intro A7 c7 w7 h2 hg2 _
      have b := gb.grow h2 hg2
      have G7 := Lib.hid b
      refine hK.out _ _ b.kp (fun hHeld => ?_)
      clear hK K b h2 hg2 gb yb G6
      try simp only [Act.put, List.getElem_toArray, List.getElem_cons_succ, List.getElem_cons_zero, List.setIfInBounds_toArray, List.set_cons_zero, List.set_cons_succ]
      refine wpAnyH_ready (rs := [8]) (by kernel_rfl) (by simp) ?_
      refine AllReadyH.cons rfl (fun K hK => ?_) AllReadyH.nil
      go_simp
      refine (long_any w3 _ _ ((3 + 8 + 8) + 1) c7 gn _ G7.out (by omega) (OT.out (by decide)).2.2.1).mono ?_
      rintro e w8 ⟨A8, c8, rfl, b, gl⟩
      have G8 := Lib.hid b
      refine hK.out _ _ b.kp (fun hHeld => ?_)
      clear hK K b gl G7
      try simp only [Act.put, List.getElem_toArray, List.getElem_cons_succ, List.getElem_cons_zero, List.setIfInBounds_toArray, List.set_cons_zero, List.set_cons_succ]
      refine wpAnyH_take (i := 9) (v := ?_) rfl (by kernel_rfl) (by kernel_rfl) (by kernel_rfl) (fun _ _ _ h => h) (Or.inl ⟨by rfl, ?_⟩) hHeld ?_
      rotate_left
      · intro wq hSw
        go_simp
        all_goals with_reducible rfl
      try simp only [Act.put, List.getElem_toArray, List.getElem_cons_succ, List.getElem_cons_zero, List.setIfInBounds_toArray, List.set_cons_zero, List.set_cons_succ]
      refine wpAnyH_done (by kernel_rfl) ?_ _
      refine NoPanic.normal ?_
      clear hHeld rfl8
      obtain ⟨⟨y0, y1, y2, y3, y4⟩, ⟨y5, y6, y7, y8⟩, ⟨y9, y10, y11⟩, y12, y13, y14⟩ := (HB3.out w8 G8.out.kp).cells
      dsimp only at y0 y1 y2 y3 y4 y5 y6 y7 y8 y9 y10 y11 y12 y13 y14
      go_wp2_with fail
      refine (long_any w3 _ _ (((3 + 8 + 8) + 1) + 8) c8 sq _ G8.out (by omega) (OT.out (by decide)).1).mono ?_
      rintro e w9 ⟨A9, c9, rfl, b, gl⟩
      have G9 := Lib.hid b
      clear b gl G8
      clear y0 y1 y2 y3 y4 y5 y6 y7 y8 y9 y10 y11 y12 y13 y14
      have hd := HM.out.feed rfl
      have lr := HI.out.rk.length
      dsimp only at hd lr
      have n16 : nr ≤ 16 := by have := rank_few gn rk hd.1; omega
      have RBD := Lib.hid (rank_bounds gn none rk hd.1)
      have LR := Lib.hid lr
      clear hd lr
      have rc : IntKind.u8.wrap (nr : Int) = (nr : Int) := IntWalk.u8_in _ (by omega)
      obtain ⟨⟨y0, y1, y2, y3, y4⟩, ⟨y5, y6, y7, y8⟩, ⟨y9, y10, y11⟩, y12, y13, y14⟩ := (HB3.out w9 G9.out.kp).cells
      dsimp only at y0 y1 y2 y3 y4 y5 y6 y7 y8 y9 y10 y11 y12 y13 y14
      have HSZW : Hid (w3.heap.size ≤ (w9.alloc (.cells #[.int .u8 (nr : Int)] 5)).heap.size) := by
        show w3.heap.size ≤ _
        have := G9.out.kp.size
        simp; omega
      go_wp2_with (at_builtin; refine wpList_append_bytes rfl _ _ 23 rfl Tryd.underlying23 info5 rfl (G9.out.own.alloc _) rfl (Bytes.one w9 nr (by omega) 5) (by omega) HSZW.out ?_)
      intro A10 c10 w10 h2 hg2 _
      have o2 : Own w10 w3.heap.size 5 A10 (((((3 + 8 + 8) + 1) + 8) + 8) + 1) c10 (([2, s, d] ++ formN 8 ep ++ formN 8 lf ++ [fN] ++ formN 8 gn ++ formN 8 sq) ++ [nr]) := by first | exact h2 | simpa using h2
      have G10 := Lib.hid ((G9.out.later ((Keep.refl w9).alloc #[.int .u8 (nr : Int)] 5)).grow (ys := [nr]) o2 hg2)
      clear h2 o2 hg2 G9 HSZW
      clear y0 y1 y2 y3 y4 y5 y6 y7 y8 y9 y10 y11 y12 y13 y14
      obtain ⟨⟨y0, y1, y2, y3, y4⟩, ⟨y5, y6, y7, y8⟩, ⟨y9, y10, y11⟩, y12, y13, y14⟩ := (HB3.out w10 G10.out.kp).cells
      dsimp only at y0 y1 y2 y3 y4 y5 y6 y7 y8 y9 y10 y11 y12 y13 y14
      go_wp2_with fail
      clear y0 y1 y2 y3 y4 y5 y6 y7 y8 y9 y10 y11 y12 y13 y14
      go_loopw [4, 6] (fun bv iv wr => ∃ (i : Nat) (A : Option Addr) (c : Nat), i ≤ nr ∧ iv = .int .i64 i ∧ bv = .slice A ((((((3 + 8 + 8) + 1) + 8) + 8) + 1) + 9 * i) c ∧ Bld w3 wr A ((((((3 + 8 + 8) + 1) + 8) + 8) + 1) + 9 * i) c ([2, s, d] ++ formN 8 ep ++ formN 8 lf ++ [fN] ++ formN 8 gn ++ formN 8 sq ++ [nr] ++ (rk.take i).flatMap rankForm)) (fun _ iv _ => nr - (intOf iv).toNat)
      case atStart => exact ⟨0, _, _, by omega, rfl, rfl, by simpa using G10.out⟩
      case round =>
        obtain ⟨i, Ai, ci, hi, rfl, rfl, hb⟩ := hrel
        have GI := Lib.hid hb
        clear hb G10
        have f1 : (0 : Int) ≤ (i : Int) := Int.natCast_nonneg _
        by_cases hlt : i < nr
        · have f2 : (i : Int) < (nr : Int) := by omega
          obtain ⟨⟨ga, va⟩, he⟩ := get_some LR.out hlt
          have hbd := RBD.out _ (List.mem_of_getElem? he)
          dsimp only at hbd
          obtain ⟨xv, rfl⟩ : ∃ n : Nat, va = n := ⟨va.toNat, by omega⟩
          have hx : xv < 256 := by omega
          have hga : ga < 18446744073709551616 := hbd.1
          have rx : IntKind.u8.wrap (xv : Int) = (xv : Int) := IntWalk.u8_in _ (by omega)
          obtain ⟨p, o, e1, _, _, _⟩ := (HI.out.rk.keep (Nat.le_refl _) (KW.out.trans GI.out.kp)).at_ he
          dsimp only at e1
          subst e1
          have HEL : Hid (∀ wx, Keep w3 wx → wx.cell? ⟨p, o + i * 2, none⟩ = some (.int .u64 (ga : Int)) ∧ wx.cell? ⟨p, o + i * 2 + 1, none⟩ = some (.int .i64 (xv : Int))) := fun wx kx => by
            obtain ⟨p2, o2, e2, _, u1, u2⟩ := (HI.out.rk.keep (Nat.le_refl _) (KW.out.trans kx)).at_ he
            dsimp only at e2 u1 u2
            injection e2 with e2
            injection e2 with z1 z2
            subst z1; subst z2
            exact ⟨u1, u2⟩
          have HTK : Hid ((rk.take (i + 1)).flatMap rankForm = (rk.take i).flatMap rankForm ++ formN 8 ga ++ [xv]) := by
            show _ = _
            rw [List.take_add_one, he]
            simp [rankForm, form1 xv hx]
          clear he hbd
          obtain ⟨⟨y0, y1, y2, y3, y4⟩, ⟨y5, y6, y7, y8⟩, ⟨y9, y10, y11⟩, y12, y13, y14⟩ := (HB3.out wr GI.out.kp).cells
          dsimp only at y11
          clear y0 y1 y2 y3 y4 y5 y6 y7 y8 y9 y10 y12 y13 y14
          go_wp2_with fail
          refine wp_region_noPanic ?_
          refine wp_region_held_drew (S := fun wz => Keep w3 wz) (by kernel_rfl) (Keep.drew GI.out.kp) (fun hHeld => ?_)
          refine wpAnyH_take (i := 0) (v := ?_) rfl (by kernel_rfl) (by kernel_rfl) (by kernel_rfl) (fun _ _ _ h => h) (Or.inl ⟨by rfl, ?_⟩) hHeld ?_
          rotate_left
          · intro wq hSw
            go_simp
            all_goals with_reducible rfl
          try simp only [Act.put, List.getElem_toArray, List.getElem_cons_succ, List.getElem_cons_zero, List.setIfInBounds_toArray, List.set_cons_zero, List.set_cons_succ]
          refine wpAnyH_take (i := 1) (v := ?_) rfl (by kernel_rfl) (by kernel_rfl) (by kernel_rfl) (fun _ _ _ h => h) (Or.inl ⟨by rfl, ?_⟩) hHeld ?_
          rotate_left
          · intro wq hSw
            go_simp
            all_goals with_reducible rfl
          try simp only [Act.put, List.getElem_toArray, List.getElem_cons_succ, List.getElem_cons_zero, List.setIfInBounds_toArray, List.set_cons_zero, List.set_cons_succ]
          refine wpAnyH_take (i := 2) (v := ?_) rfl (by kernel_rfl) (by kernel_rfl) (by kernel_rfl) (fun _ _ _ h => h) (Or.inl ⟨by rfl, ?_⟩) hHeld ?_
          rotate_left
          · intro wq hSw
            obtain ⟨_, _, ⟨_, _, y11⟩, _⟩ := (HB3.out wq hSw).cells
            go_simp
            all_goals with_reducible rfl
          try simp only [Act.put, List.getElem_toArray, List.getElem_cons_succ, List.getElem_cons_zero, List.setIfInBounds_toArray, List.set_cons_zero, List.set_cons_succ]
          refine wpAnyH_take (i := 3) (v := ?_) rfl (by kernel_rfl) (by kernel_rfl) (by kernel_rfl) (fun _ _ _ h => h) (Or.inl ⟨by rfl, ?_⟩) hHeld ?_
          rotate_left
          · intro wq hSw
            go_simp
            all_goals with_reducible rfl
          try simp only [Act.put, List.getElem_toArray, List.getElem_cons_succ, List.getElem_cons_zero, List.setIfInBounds_toArray, List.set_cons_zero, List.set_cons_succ]
          refine wpAnyH_take (i := 4) (v := ?_) rfl (by kernel_rfl) (by kernel_rfl) (by kernel_rfl) (fun _ _ _ h => h) (Or.inl ⟨by rfl, ?_⟩) hHeld ?_
          rotate_left
          · intro wq hSw
            go_simp
            all_goals with_reducible rfl
          try simp only [Act.put, List.getElem_toArray, List.getElem_cons_succ, List.getElem_cons_zero, List.setIfInBounds_toArray, List.set_cons_zero, List.set_cons_succ]
          refine wpAnyH_take (i := 5) (v := ?_) rfl (by kernel_rfl) (by kernel_rfl) (by kernel_rfl) (fun _ _ _ h => h) (Or.inl ⟨by rfl, ?_⟩) hHeld ?_
          rotate_left
          · intro wq hSw
            go_simp
            all_goals with_reducible rfl
          try simp only [Act.put, List.getElem_toArray, List.getElem_cons_succ, List.getElem_cons_zero, List.setIfInBounds_toArray, List.set_cons_zero, List.set_cons_succ]
          refine wpAnyH_take (i := 6) (v := ?_) rfl (by kernel_rfl) (by kernel_rfl) (by kernel_rfl) (fun _ _ _ h => h) (Or.inl ⟨by rfl, ?_⟩) hHeld ?_
          rotate_left
          · intro wq hSw
            obtain ⟨u1, u2⟩ := HEL.out wq hSw
            go_simp
            all_goals with_reducible rfl
          try simp only [Act.put, List.getElem_toArray, List.getElem_cons_succ, List.getElem_cons_zero, List.setIfInBounds_toArray, List.set_cons_zero, List.set_cons_succ]
          refine wpAnyH_take (i := 8) (v := ?_) rfl (by kernel_rfl) (by kernel_rfl) (by kernel_rfl) (fun _ _ _ h => h) (Or.inl ⟨by rfl, ?_⟩) hHeld ?_
          rotate_left
          · intro wq hSw
            go_simp
            all_goals with_reducible rfl
          try simp only [Act.put, List.getElem_toArray, List.getElem_cons_succ, List.getElem_cons_zero, List.setIfInBounds_toArray, List.set_cons_zero, List.set_cons_succ]
          refine wpAnyH_take (i := 9) (v := ?_) rfl (by kernel_rfl) (by kernel_rfl) (by kernel_rfl) (fun _ _ _ h => h) (Or.inl ⟨by rfl, ?_⟩) hHeld ?_
          rotate_left
          · intro wq hSw
            obtain ⟨_, _, ⟨_, _, y11⟩, _⟩ := (HB3.out wq hSw).cells
            go_simp
            all_goals with_reducible rfl
          try simp only [Act.put, List.getElem_toArray, List.getElem_cons_succ, List.getElem_cons_zero, List.setIfInBounds_toArray, List.set_cons_zero, List.set_cons_succ]
          refine wpAnyH_take (i := 10) (v := ?_) rfl (by kernel_rfl) (by kernel_rfl) (by kernel_rfl) (fun _ _ _ h => h) (Or.inl ⟨by rfl, ?_⟩) hHeld ?_
          rotate_left
          · intro wq hSw
            go_simp
            all_goals with_reducible rfl
          try simp only [Act.put, List.getElem_toArray, List.getElem_cons_succ, List.getElem_cons_zero, List.setIfInBounds_toArray, List.set_cons_zero, List.set_cons_succ]
          refine wpAnyH_take (i := 11) (v := ?_) rfl (by kernel_rfl) (by kernel_rfl) (by kernel_rfl) (fun _ _ _ h => h) (Or.inl ⟨by rfl, ?_⟩) hHeld ?_
          rotate_left
          · intro wq hSw
            go_simp
            all_goals with_reducible rfl
          try simp only [Act.put, List.getElem_toArray, List.getElem_cons_succ, List.getElem_cons_zero, List.setIfInBounds_toArray, List.set_cons_zero, List.set_cons_succ]
          refine wpAnyH_take (i := 12) (v := ?_) rfl (by kernel_rfl) (by kernel_rfl) (by kernel_rfl) (fun _ _ _ h => h) (Or.inl ⟨by rfl, ?_⟩) hHeld ?_
          rotate_left
          · intro wq hSw
            go_simp
            all_goals with_reducible rfl
          try simp only [Act.put, List.getElem_toArray, List.getElem_cons_succ, List.getElem_cons_zero, List.setIfInBounds_toArray, List.set_cons_zero, List.set_cons_succ]
          refine wpAnyH_take (i := 13) (v := ?_) rfl (by kernel_rfl) (by kernel_rfl) (by kernel_rfl) (fun _ _ _ h => h) (Or.inl ⟨by rfl, ?_⟩) hHeld ?_
          rotate_left
          · intro wq hSw
            obtain ⟨u1, u2⟩ := HEL.out wq hSw
            go_simp
            all_goals with_reducible rfl
          try simp only [Act.put, List.getElem_toArray, List.getElem_cons_succ, List.getElem_cons_zero, List.setIfInBounds_toArray, List.set_cons_zero, List.set_cons_succ]
          refine wpAnyH_take (i := 14) (v := ?_) rfl (by kernel_rfl) (by kernel_rfl) (by kernel_rfl) (fun _ _ _ h => h) (Or.inl ⟨by rfl, ?_⟩) hHeld ?_
          rotate_left
          · intro wq hSw
            go_simp
            all_goals with_reducible rfl
          try simp only [Act.put, List.getElem_toArray, List.getElem_cons_succ, List.getElem_cons_zero, List.setIfInBounds_toArray, List.set_cons_zero, List.set_cons_succ]
          refine wpAnyH_ready (rs := [7, 15]) (by kernel_rfl) (by simp) ?_
          refine AllReadyH.cons rfl (fun K hK => ?_) (AllReadyH.cons rfl (fun K hK => ?_) AllReadyH.nil)
          · go_simp
            refine (long_any w3 _ _ ((((((3 + 8 + 8) + 1) + 8) + 8) + 1) + 9 * i) ci ga _ GI.out.drew (by omega) hga).mono ?_
            rintro e wl ⟨Al, cl, rfl, bl, _⟩
            refine hK.out _ _ bl.kp (fun hHeld => ?_)
            clear hK K
            try simp only [Act.put, List.getElem_toArray, List.getElem_cons_succ, List.getElem_cons_zero, List.setIfInBounds_toArray, List.set_cons_zero, List.set_cons_succ]
            refine wpAnyH_ready (rs := [15]) (by kernel_rfl) (by simp) ?_
            refine AllReadyH.cons rfl (fun K hK => ?_) AllReadyH.nil
            go_simp
            obtain ⟨wb, hwb⟩ : ∃ wb, wl.alloc (.cells #[.int .u8 (xv : Int)] 5) = wb := ⟨_, rfl⟩
            have gb : Bld w3 wb Al (((((((3 + 8 + 8) + 1) + 8) + 8) + 1) + 9 * i) + 8) cl ([2, s, d] ++ formN 8 ep ++ formN 8 lf ++ [fN] ++ formN 8 gn ++ formN 8 sq ++ [nr] ++ (rk.take i).flatMap rankForm ++ formN 8 ga) := by rw [← hwb]; exact bl.later ((Keep.refl wl).alloc _ _)
            have yb : Bytes wb wb.heap.size (some ⟨wl.heap.size, 0, none⟩) 1 [xv] := by rw [← hwb]; exact (Bytes.one wl xv hx 5).mono (by simp)
            rw [hwb]
            clear hwb
            refine hK.out _ _ gb.kp (fun hHeld => ?_)
            clear hK K
            try simp only [Act.put, List.getElem_toArray, List.getElem_cons_succ, List.getElem_cons_zero, List.setIfInBounds_toArray, List.set_cons_zero, List.set_cons_succ]
            refine wpAnyH_ready (rs := [16]) (by kernel_rfl) (by simp) ?_
            refine AllReadyH.cons rfl (fun K hK => ?_) AllReadyH.nil
            refine step_append_bytes rfl _ _ 23 rfl Tryd.underlying23 info5 rfl gb.own rfl yb (by omega) gb.kp.size ?_
            intro Az cz wz h2 hg2 _
            have bz := gb.grow h2 hg2
            have GZ := Lib.hid bz
            refine hK.out _ _ bz.kp (fun hHeld => ?_)
            clear hK K bz h2 hg2 gb yb bl
            try simp only [Act.put, List.getElem_toArray, List.getElem_cons_succ, List.getElem_cons_zero, List.setIfInBounds_toArray, List.set_cons_zero, List.set_cons_succ]
            refine wpAnyH_take (i := 17) (v := ?_) rfl (by kernel_rfl) (by kernel_rfl) (by kernel_rfl) (fun _ _ _ h => h) (Or.inl ⟨by rfl, ?_⟩) hHeld ?_
            rotate_left
            · intro wq hSw
              go_simp
              all_goals with_reducible rfl
            try simp only [Act.put, List.getElem_toArray, List.getElem_cons_succ, List.getElem_cons_zero, List.setIfInBounds_toArray, List.set_cons_zero, List.set_cons_succ]
            refine wpAnyH_done (by kernel_rfl) ?_ _
            refine NoPanic.normal ?_
            clear hHeld
            go_wp2_with fail
            go_roundw
            case rel => exact ⟨i + 1, _, _, by omega, by go_num, by first | rfl | congr 1 | (congr 1; omega), by
              have e : (((((3 + 8 + 8) + 1) + 8) + 8) + 1) + 9 * (i + 1) = (((((3 + 8 + 8) + 1) + 8) + 8) + 1) + 9 * i + 8 + 1 := by omega
              rw [HTK.out, e, ← List.append_assoc, ← List.append_assoc]
              exact GZ.out⟩
            case measure => simp [intOf]; omega
          · go_simp
            obtain ⟨wb, hwb⟩ : ∃ wb, (wr.alloc (.cells #[.int .u8 (xv : Int)] 5)).drew = wb := ⟨_, rfl⟩
            have gb : Bld w3 wb Ai ((((((3 + 8 + 8) + 1) + 8) + 8) + 1) + 9 * i) ci ([2, s, d] ++ formN 8 ep ++ formN 8 lf ++ [fN] ++ formN 8 gn ++ formN 8 sq ++ [nr] ++ (rk.take i).flatMap rankForm) := by rw [← hwb]; exact GI.out.later (((Keep.refl wr).alloc _ _).drew)
            have yb : Bytes wb wb.heap.size (some ⟨wr.heap.size, 0, none⟩) 1 [xv] := by rw [← hwb]; exact (Bytes.one wr xv hx 5).mono (by simp)
            have hsz : wr.heap.size < wb.heap.size := by rw [← hwb]; simp
            rw [hwb]
            clear hwb
            refine hK.out _ _ gb.kp (fun hHeld => ?_)
            clear hK K
            try simp only [Act.put, List.getElem_toArray, List.getElem_cons_succ, List.getElem_cons_zero, List.setIfInBounds_toArray, List.set_cons_zero, List.set_cons_succ]
            refine wpAnyH_ready (rs := [7]) (by kernel_rfl) (by simp) ?_
            refine AllReadyH.cons rfl (fun K hK => ?_) AllReadyH.nil
            go_simp
            refine (long_any w3 _ _ ((((((3 + 8 + 8) + 1) + 8) + 8) + 1) + 9 * i) ci ga _ gb (by omega) hga).mono ?_
            rintro e wl ⟨Al, cl, rfl, bl, gl⟩
            have yl : Bytes wl wl.heap.size (some ⟨wr.heap.size, 0, none⟩) 1 [xv] := lit_stays yb gl hsz fun k hk => (GI.out.own.1.lt k hk).2
            refine hK.out _ _ bl.kp (fun hHeld => ?_)
            clear hK K
            try simp only [Act.put, List.getElem_toArray, List.getElem_cons_succ, List.getElem_cons_zero, List.setIfInBounds_toArray, List.set_cons_zero, List.set_cons_succ]
            refine wpAnyH_ready (rs := [16]) (by kernel_rfl) (by simp) ?_
            refine AllReadyH.cons rfl (fun K hK => ?_) AllReadyH.nil
            refine step_append_bytes rfl _ _ 23 rfl Tryd.underlying23 info5 rfl bl.own rfl yl (by omega) bl.kp.size ?_
            intro Az cz wz h2 hg2 _
            have bz := bl.grow h2 hg2
            have GZ := Lib.hid bz
            refine hK.out _ _ bz.kp (fun hHeld => ?_)
            clear hK K bz h2 hg2 gb yb bl yl gl
            try simp only [Act.put, List.getElem_toArray, List.getElem_cons_succ, List.getElem_cons_zero, List.setIfInBounds_toArray, List.set_cons_zero, List.set_cons_succ]
            refine wpAnyH_take (i := 17) (v := ?_) rfl (by kernel_rfl) (by kernel_rfl) (by kernel_rfl) (fun _ _ _ h => h) (Or.inl ⟨by rfl, ?_⟩) hHeld ?_
            rotate_left
            · intro wq hSw
              go_simp
              all_goals with_reducible rfl
            try simp only [Act.put, List.getElem_toArray, List.getElem_cons_succ, List.getElem_cons_zero, List.setIfInBounds_toArray, List.set_cons_zero, List.set_cons_succ]
            refine wpAnyH_done (by kernel_rfl) ?_ _
            refine NoPanic.normal ?_
            clear hHeld
            go_wp2_with fail
            go_roundw
            case rel => exact ⟨i + 1, _, _, by omega, by go_num, by first | rfl | congr 1 | (congr 1; omega), by
              have e : (((((3 + 8 + 8) + 1) + 8) + 8) + 1) + 9 * (i + 1) = (((((3 + 8 + 8) + 1) + 8) + 8) + 1) + 9 * i + 8 + 1 := by omega
              rw [HTK.out, e, ← List.append_assoc, ← List.append_assoc]
              exact GZ.out⟩
            case measure => simp [intOf]; omega
        · obtain rfl : i = nr := by omega
          have HTK : Hid ((rk.take i).flatMap rankForm = rk.flatMap rankForm) := by show _ = _; rw [List.take_of_length_le (by rw [LR.out]; exact Nat.le_refl _)]
          obtain ⟨⟨y0, y1, y2, y3, y4⟩, ⟨y5, y6, y7, y8⟩, ⟨y9, y10, y11⟩, y12, y13, y14⟩ := (HB3.out wr GI.out.kp).cells
          dsimp only at y0 y1 y2 y3 y4 y5 y6 y7 y8 y9 y10 y11 y12 y13 y14
          go_wp2_with fail
          obtain ⟨e1, e2, e3⟩ := CF.out ([2, s, d] ++ formN 8 ep ++ formN 8 lf ++ [fN] ++ formN 8 gn ++ formN 8 sq ++ [i] ++ (rk.take i).flatMap rankForm) ((((((3 + 8 + 8) + 1) + 8) + 8) + 1) + 9 * i) (HD.out _ (([fN] ++ (formN 8 gn ++ (formN 8 sq ++ ([i] ++ ((rk.take i).flatMap rankForm)))))) (by rw [restForm_2 (by rfl), HTK.out]; simp only [feedForm, Int.toNat_natCast]; rw [form1 fN (by omega), LR.out, form1 i (by omega)]) (by simp only [List.append_assoc])) (by rw [HTK.out]; have := LR.out; simp [formN_length, len_const rk fun r _ => rank_len r]; omega)
          refine (rseal_any _ ((((((3 + 8 + 8) + 1) + 8) + 8) + 1) + 9 * i) ci Ai _ _ GI.out.own.bytes (Nat.le_refl _) (by omega)).mono ?_
          rintro e wE ⟨AE, nE, cE, rfl, oE, kE⟩
          have E : Hid (NewPair w PV PE (.returned (.tuple #[.slice AE nE cE, .int .i64 0])) wE) := by
            rw [e1, e2]
            exact ⟨AE, nE, cE, rfl, oE.lower (Nat.le_trans KW.out.size GI.out.kp.size), KW.out.trans (GI.out.kp.trans kE)⟩
          clear e1 e2 e3 oE kE
          clear y0 y1 y2 y3 y4 y5 y6 y7 y8 y9 y10 y11 y12 y13 y14
          go_wp2_with fail
          go_ret2
          exact E.out
    · obtain ⟨⟨y0, y1, y2, y3, y4⟩, ⟨y5, y6, y7, y8⟩, ⟨y9, y10, y11⟩, y12, y13, y14⟩ := (HB3.out w6 G6.out.kp).cells
      dsimp only at y0 y1 y2 y3 y4 y5 y6 y7 y8 y9 y10 y11 y12 y13 y14
      go_wp2_with fail
      refine (long_any w3 _ _ (3 + 8 + 8) c6 sq _ G6.out (by omega) (OT.out (by decide)).1).mono ?_
      rintro e w7 ⟨A7, c7, rfl, b, gl⟩
      have G7 := Lib.hid b
      clear b gl G6
      clear y0 y1 y2 y3 y4 y5 y6 y7 y8 y9 y10 y11 y12 y13 y14
      obtain ⟨⟨y0, y1, y2, y3, y4⟩, ⟨y5, y6, y7, y8⟩, ⟨y9, y10, y11⟩, y12, y13, y14⟩ := (HB3.out w7 G7.out.kp).cells
      dsimp only at y0 y1 y2 y3 y4 y5 y6 y7 y8 y9 y10 y11 y12 y13 y14
      go_wp2_with fail
      refine (long_any w3 _ _ ((3 + 8 + 8) + 8) c7 fo _ G7.out (by omega) (OT.out (by decide)).2.1).mono ?_
      rintro e w8 ⟨A8, c8, rfl, b, gl⟩
      have G8 := Lib.hid b
      clear b gl G7
      clear y0 y1 y2 y3 y4 y5 y6 y7 y8 y9 y10 y11 y12 y13 y14
      obtain ⟨⟨y0, y1, y2, y3, y4⟩, ⟨y5, y6, y7, y8⟩, ⟨y9, y10, y11⟩, y12, y13, y14⟩ := (HB3.out w8 G8.out.kp).cells
      dsimp only at y0 y1 y2 y3 y4 y5 y6 y7 y8 y9 y10 y11 y12 y13 y14
      go_wp2_with fail
      obtain ⟨e1, e2, e3⟩ := CF.out ([3, s, d] ++ formN 8 ep ++ formN 8 lf ++ formN 8 sq ++ formN 8 fo) (((3 + 8 + 8) + 8) + 8) (HD.out _ ((formN 8 sq ++ (formN 8 fo))) (by rw [restForm_3 (by rfl)]) (by simp only [List.append_assoc])) (by simp [formN_length])
      refine (rseal_any _ (((3 + 8 + 8) + 8) + 8) c8 A8 _ _ G8.out.own.bytes (Nat.le_refl _) (by omega)).mono ?_
      rintro e wE ⟨AE, nE, cE, rfl, oE, kE⟩
      have E : Hid (NewPair w PV PE (.returned (.tuple #[.slice AE nE cE, .int .i64 0])) wE) := by
        rw [e1, e2]
        exact ⟨AE, nE, cE, rfl, oE.lower (Nat.le_trans KW.out.size G8.out.kp.size), KW.out.trans (G8.out.kp.trans kE)⟩
      clear e1 e2 e3 oE kE
      clear y0 y1 y2 y3 y4 y5 y6 y7 y8 y9 y10 y11 y12 y13 y14
      go_wp2_with fail
      go_ret2
      exact E.out
    · obtain ⟨⟨y0, y1, y2, y3, y4⟩, ⟨y5, y6, y7, y8⟩, ⟨y9, y10, y11⟩, y12, y13, y14⟩ := (HB3.out w6 G6.out.kp).cells
      dsimp only at y0 y1 y2 y3 y4 y5 y6 y7 y8 y9 y10 y11 y12 y13 y14
      go_wp2_with fail
      refine (long_any w3 _ _ (3 + 8 + 8) c6 sq _ G6.out (by omega) (OT.out (by decide)).1).mono ?_
      rintro e w7 ⟨A7, c7, rfl, b, gl⟩
      have G7 := Lib.hid b
      clear b gl G6
      clear y0 y1 y2 y3 y4 y5 y6 y7 y8 y9 y10 y11 y12 y13 y14
      obtain ⟨⟨y0, y1, y2, y3, y4⟩, ⟨y5, y6, y7, y8⟩, ⟨y9, y10, y11⟩, y12, y13, y14⟩ := (HB3.out w7 G7.out.kp).cells
      dsimp only at y0 y1 y2 y3 y4 y5 y6 y7 y8 y9 y10 y11 y12 y13 y14
      go_wp2_with fail
      obtain ⟨e1, e2, e3⟩ := CF.out ([4, s, d] ++ formN 8 ep ++ formN 8 lf ++ formN 8 sq) ((3 + 8 + 8) + 8) (HD.out _ (formN 8 sq) (by rw [restForm_4 (by rfl)]) (by simp only [List.append_assoc])) (by simp [formN_length])
      refine (rseal_any _ ((3 + 8 + 8) + 8) c7 A7 _ _ G7.out.own.bytes (Nat.le_refl _) (by omega)).mono ?_
      rintro e wE ⟨AE, nE, cE, rfl, oE, kE⟩
      have E : Hid (NewPair w PV PE (.returned (.tuple #[.slice AE nE cE, .int .i64 0])) wE) := by
        rw [e1, e2]
        exact ⟨AE, nE, cE, rfl, oE.lower (Nat.le_trans KW.out.size G7.out.kp.size), KW.out.trans (G7.out.kp.trans kE)⟩
      clear e1 e2 e3 oE kE
      clear y0 y1 y2 y3 y4 y5 y6 y7 y8 y9 y10 y11 y12 y13 y14
      go_wp2_with fail
      go_ret2
      exact E.out
    · have hmb := HM.out.member rfl
      have lu := HI.out.up.length
      have lh := HI.out.hp.length
      dsimp only at hmb lu lh
      have TB : te < 18446744073709551616 ∧ nu ≤ 64 ∧ nh ≤ 4 := by
        obtain ⟨_, _, t1, t2, t3, t4, t5, t6, t7⟩ := hmb
        omega
      have HED : Hid (∀ l ∈ hp, l.length ≤ 128 ∧ ∀ e ∈ l, 0 ≤ e.1 ∧ e.1 < 64 ∧ 0 ≤ e.2 ∧ e.2 < 64) := fun l hl => by
        obtain ⟨_, _, t1, t2, t3, t4, t5, t6, t7⟩ := hmb
        refine ⟨(t7 l hl).1, fun e he => ?_⟩
        have h := (t7 l hl).2 e he
        unfold EdgeOk at h
        omega
      have LU := Lib.hid lu
      have LH := Lib.hid lh
      clear hmb lu lh
      have rc : IntKind.u8.wrap (nu : Int) = (nu : Int) := IntWalk.u8_in _ (by omega)
      have rch : IntKind.u8.wrap (nh : Int) = (nh : Int) := IntWalk.u8_in _ (by omega)
      obtain ⟨⟨y0, y1, y2, y3, y4⟩, ⟨y5, y6, y7, y8⟩, ⟨y9, y10, y11⟩, y12, y13, y14⟩ := (HB3.out w6 G6.out.kp).cells
      dsimp only at y0 y1 y2 y3 y4 y5 y6 y7 y8 y9 y10 y11 y12 y13 y14
      go_upto_region 24 with fail
      clear y0 y1 y2 y3 y4 y5 y6 y7 y8 y9 y10 y11 y12 y13 y14
      go_cut [4] (fun bv wx => ∃ (A : Option Addr) (c : Nat), bv = .slice A ((3 + 8 + 8) + 8 + 1) c ∧ Bld w3 wx A ((3 + 8 + 8) + 8 + 1) c ([5, s, d] ++ formN 8 ep ++ formN 8 lf ++ formN 8 te ++ [nu]))
      case first =>
        refine wp_region_noPanic ?_
        refine wp_region_held_drew (S := fun wz => Keep w3 wz) (by kernel_rfl) (Keep.drew G6.out.kp) (fun hHeld => ?_)
        refine wpAnyH_take (i := 0) (v := ?_) rfl (by kernel_rfl) (by kernel_rfl) (by kernel_rfl) (fun _ _ _ h => h) (Or.inl ⟨by rfl, ?_⟩) hHeld ?_
        rotate_left
        · intro wq hSw
          go_simp
          all_goals with_reducible rfl
        try simp only [Act.put, List.getElem_toArray, List.getElem_cons_succ, List.getElem_cons_zero, List.setIfInBounds_toArray, List.set_cons_zero, List.set_cons_succ]
        refine wpAnyH_take (i := 1) (v := ?_) rfl (by kernel_rfl) (by kernel_rfl) (by kernel_rfl) (fun _ _ _ h => h) (Or.inl ⟨by rfl, ?_⟩) hHeld ?_
        rotate_left
        · intro wq hSw
          go_simp
          all_goals with_reducible rfl
        try simp only [Act.put, List.getElem_toArray, List.getElem_cons_succ, List.getElem_cons_zero, List.setIfInBounds_toArray, List.set_cons_zero, List.set_cons_succ]
        refine wpAnyH_take (i := 2) (v := ?_) rfl (by kernel_rfl) (by kernel_rfl) (by kernel_rfl) (fun _ _ _ h => h) (Or.inl ⟨by rfl, ?_⟩) hHeld ?_
        rotate_left
        · intro wq hSw
          go_simp
          all_goals with_reducible rfl
        try simp only [Act.put, List.getElem_toArray, List.getElem_cons_succ, List.getElem_cons_zero, List.setIfInBounds_toArray, List.set_cons_zero, List.set_cons_succ]
        refine wpAnyH_take (i := 3) (v := ?_) rfl (by kernel_rfl) (by kernel_rfl) (by kernel_rfl) (fun _ _ _ h => h) (Or.inl ⟨by rfl, ?_⟩) hHeld ?_
        rotate_left
        · intro wq hSw
          obtain ⟨_, _, _, y12, y13, y14⟩ := (HB3.out wq hSw).cells
          go_simp
          all_goals with_reducible rfl
        try simp only [Act.put, List.getElem_toArray, List.getElem_cons_succ, List.getElem_cons_zero, List.setIfInBounds_toArray, List.set_cons_zero, List.set_cons_succ]
        refine wpAnyH_take (i := 5) (v := ?_) rfl (by kernel_rfl) (by kernel_rfl) (by kernel_rfl) (fun _ _ _ h => h) (Or.inl ⟨by rfl, ?_⟩) hHeld ?_
        rotate_left
        · intro wq hSw
          go_simp
          all_goals with_reducible rfl
        try simp only [Act.put, List.getElem_toArray, List.getElem_cons_succ, List.getElem_cons_zero, List.setIfInBounds_toArray, List.set_cons_zero, List.set_cons_succ]
        refine wpAnyH_take (i := 6) (v := ?_) rfl (by kernel_rfl) (by kernel_rfl) (by kernel_rfl) (fun _ _ _ h => h) (Or.inl ⟨by rfl, ?_⟩) hHeld ?_
        rotate_left
        · intro wq hSw
          go_simp
          all_goals with_reducible rfl
        try simp only [Act.put, List.getElem_toArray, List.getElem_cons_succ, List.getElem_cons_zero, List.setIfInBounds_toArray, List.set_cons_zero, List.set_cons_succ]
        refine wpAnyH_take (i := 7) (v := ?_) rfl (by kernel_rfl) (by kernel_rfl) (by kernel_rfl) (fun _ _ _ h => h) (Or.inl ⟨by rfl, ?_⟩) hHeld ?_
        rotate_left
        · intro wq hSw
          obtain ⟨_, _, _, y12, y13, y14⟩ := (HB3.out wq hSw).cells
          go_simp
          all_goals with_reducible rfl
        try simp only [Act.put, List.getElem_toArray, List.getElem_cons_succ, List.getElem_cons_zero, List.setIfInBounds_toArray, List.set_cons_zero, List.set_cons_succ]
        refine wpAnyH_take (i := 8) (v := ?_) rfl (by kernel_rfl) (by kernel_rfl) (by kernel_rfl) (fun _ _ _ h => h) (Or.inl ⟨by rfl, ?_⟩) hHeld ?_
        rotate_left
        · intro wq hSw
          go_simp
          all_goals with_reducible rfl
        try simp only [Act.put, List.getElem_toArray, List.getElem_cons_succ, List.getElem_cons_zero, List.setIfInBounds_toArray, List.set_cons_zero, List.set_cons_succ]
        refine wpAnyH_take (i := 9) (v := ?_) rfl (by kernel_rfl) (by kernel_rfl) (by kernel_rfl) (fun _ _ _ h => h) (Or.inl ⟨by rfl, ?_⟩) hHeld ?_
        rotate_left
        · intro wq hSw
          go_simp
          all_goals with_reducible rfl
        try simp only [Act.put, List.getElem_toArray, List.getElem_cons_succ, List.getElem_cons_zero, List.setIfInBounds_toArray, List.set_cons_zero, List.set_cons_succ]
        refine wpAnyH_ready (rs := [4, 10]) (by kernel_rfl) (by simp) ?_
        refine AllReadyH.cons rfl (fun K hK => ?_) (AllReadyH.cons rfl (fun K hK => ?_) AllReadyH.nil)
        · go_simp
          refine (long_any w3 _ _ (3 + 8 + 8) c6 te _ G6.out.drew (by omega) TB.1).mono ?_
          rintro e wl ⟨Al, cl, rfl, bl, _⟩
          refine hK.out _ _ bl.kp (fun hHeld => ?_)
          clear hK K
          try simp only [Act.put, List.getElem_toArray, List.getElem_cons_succ, List.getElem_cons_zero, List.setIfInBounds_toArray, List.set_cons_zero, List.set_cons_succ]
          refine wpAnyH_ready (rs := [10]) (by kernel_rfl) (by simp) ?_
          refine AllReadyH.cons rfl (fun K hK => ?_) AllReadyH.nil
          go_simp
          obtain ⟨wb, hwb⟩ : ∃ wb, wl.alloc (.cells #[.int .u8 (nu : Int)] 5) = wb := ⟨_, rfl⟩
          have gb : Bld w3 wb Al ((3 + 8 + 8) + 8) cl ([5, s, d] ++ formN 8 ep ++ formN 8 lf ++ formN 8 te) := by rw [← hwb]; exact bl.later ((Keep.refl wl).alloc _ _)
          have yb : Bytes wb wb.heap.size (some ⟨wl.heap.size, 0, none⟩) 1 [nu] := by rw [← hwb]; exact (Bytes.one wl nu (by omega) 5).mono (by simp)
          rw [hwb]
          clear hwb
          refine hK.out _ _ gb.kp (fun hHeld => ?_)
          clear hK K
          try simp only [Act.put, List.getElem_toArray, List.getElem_cons_succ, List.getElem_cons_zero, List.setIfInBounds_toArray, List.set_cons_zero, List.set_cons_succ]
          refine wpAnyH_ready (rs := [11]) (by kernel_rfl) (by simp) ?_
          refine AllReadyH.cons rfl (fun K hK => ?_) AllReadyH.nil
          refine step_append_bytes rfl _ _ 23 rfl Tryd.underlying23 info5 rfl gb.own rfl yb (by omega) gb.kp.size ?_
          intro Az cz wz h2 hg2 _
          have bz := gb.grow h2 hg2
          have GZ := Lib.hid bz
          refine hK.out _ _ bz.kp (fun hHeld => ?_)
          clear hK K bz h2 hg2 gb yb bl
          try simp only [Act.put, List.getElem_toArray, List.getElem_cons_succ, List.getElem_cons_zero, List.setIfInBounds_toArray, List.set_cons_zero, List.set_cons_succ]
          refine wpAnyH_take (i := 12) (v := ?_) rfl (by kernel_rfl) (by kernel_rfl) (by kernel_rfl) (fun _ _ _ h => h) (Or.inl ⟨by rfl, ?_⟩) hHeld ?_
          rotate_left
          · intro wq hSw
            go_simp
            all_goals with_reducible rfl
          try simp only [Act.put, List.getElem_toArray, List.getElem_cons_succ, List.getElem_cons_zero, List.setIfInBounds_toArray, List.set_cons_zero, List.set_cons_succ]
          refine wpAnyH_done (by kernel_rfl) ?_ _
          refine NoPanic.normal ?_
          clear hHeld
          go_wp2_with fail
          go_meet
          case rel => exact ⟨_, _, rfl, GZ.out⟩
        · go_simp
          obtain ⟨wb, hwb⟩ : ∃ wb, (w6.alloc (.cells #[.int .u8 (nu : Int)] 5)).drew = wb := ⟨_, rfl⟩
          have gb : Bld w3 wb A6 (3 + 8 + 8) c6 ([5, s, d] ++ formN 8 ep ++ formN 8 lf) := by rw [← hwb]; exact G6.out.later (((Keep.refl w6).alloc _ _).drew)
          have yb : Bytes wb wb.heap.size (some ⟨w6.heap.size, 0, none⟩) 1 [nu] := by rw [← hwb]; exact (Bytes.one w6 nu (by omega) 5).mono (by simp)
          have hsz : w6.heap.size < wb.heap.size := by rw [← hwb]; simp
          rw [hwb]
          clear hwb
          refine hK.out _ _ gb.kp (fun hHeld => ?_)
          clear hK K
          try simp only [Act.put, List.getElem_toArray, List.getElem_cons_succ, List.getElem_cons_zero, List.setIfInBounds_toArray, List.set_cons_zero, List.set_cons_succ]
          refine wpAnyH_ready (rs := [4]) (by kernel_rfl) (by simp) ?_
          refine AllReadyH.cons rfl (fun K hK => ?_) AllReadyH.nil
          go_simp
          refine (long_any w3 _ _ (3 + 8 + 8) c6 te _ gb (by omega) TB.1).mono ?_
          rintro e wl ⟨Al, cl, rfl, bl, gl⟩
          have yl : Bytes wl wl.heap.size (some ⟨w6.heap.size, 0, none⟩) 1 [nu] := lit_stays yb gl hsz fun k hk => (G6.out.own.1.lt k hk).2
          refine hK.out _ _ bl.kp (fun hHeld => ?_)
          clear hK K
          try simp only [Act.put, List.getElem_toArray, List.getElem_cons_succ, List.getElem_cons_zero, List.setIfInBounds_toArray, List.set_cons_zero, List.set_cons_succ]
          refine wpAnyH_ready (rs := [11]) (by kernel_rfl) (by simp) ?_
          refine AllReadyH.cons rfl (fun K hK => ?_) AllReadyH.nil
          refine step_append_bytes rfl _ _ 23 rfl Tryd.underlying23 info5 rfl bl.own rfl yl (by omega) bl.kp.size ?_
          intro Az cz wz h2 hg2 _
          have bz := bl.grow h2 hg2
          have GZ := Lib.hid bz
          refine hK.out _ _ bz.kp (fun hHeld => ?_)
          clear hK K bz h2 hg2 gb yb bl yl gl
          try simp only [Act.put, List.getElem_toArray, List.getElem_cons_succ, List.getElem_cons_zero, List.setIfInBounds_toArray, List.set_cons_zero, List.set_cons_succ]
          refine wpAnyH_take (i := 12) (v := ?_) rfl (by kernel_rfl) (by kernel_rfl) (by kernel_rfl) (fun _ _ _ h => h) (Or.inl ⟨by rfl, ?_⟩) hHeld ?_
          rotate_left
          · intro wq hSw
            go_simp
            all_goals with_reducible rfl
          try simp only [Act.put, List.getElem_toArray, List.getElem_cons_succ, List.getElem_cons_zero, List.setIfInBounds_toArray, List.set_cons_zero, List.set_cons_succ]
          refine wpAnyH_done (by kernel_rfl) ?_ _
          refine NoPanic.normal ?_
          clear hHeld
          go_wp2_with fail
          go_meet
          case rel => exact ⟨_, _, rfl, GZ.out⟩
      case rest =>
        obtain ⟨A7, c7, rfl, b7⟩ := hcut
        obtain ⟨w7, rfl⟩ : ∃ w7, w7 = wc := ⟨_, rfl⟩
        have G7 := Lib.hid b7
        clear b7 G6
        simp only [show ((5 : Nat) : Int) = 5 from rfl]
        go_upto_region 26 with fail
        go_loopw [4, 7] (fun bv iv wr => ∃ (i : Nat) (A : Option Addr) (c : Nat), i ≤ nu ∧ iv = .int .i64 i ∧ bv = .slice A (((3 + 8 + 8) + 8 + 1) + i) c ∧ Bld w3 wr A (((3 + 8 + 8) + 8 + 1) + i) c ([5, s, d] ++ formN 8 ep ++ formN 8 lf ++ formN 8 te ++ [nu] ++ (up.take i).map upForm)) (fun _ iv _ => nu - (intOf iv).toNat)
        case atStart => exact ⟨0, _, _, by omega, rfl, rfl, by simpa using G7.out⟩
        case round =>
          obtain ⟨i, Ai, ci, hi, rfl, rfl, hb⟩ := hrel
          have GI := Lib.hid hb
          clear hb G7
          have f1 : (0 : Int) ≤ (i : Int) := Int.natCast_nonneg _
          obtain ⟨_, _, _, y12, y13, y14⟩ := (HB3.out wr GI.out.kp).cells
          dsimp only at y12 y13 y14
          by_cases hlt : i < nu
          · have f2 : (i : Int) < (nu : Int) := by omega
            have f3 : ((i : Int)).toNat = i := Int.toNat_natCast i
            obtain ⟨x, he⟩ := get_some LU.out hlt
            obtain ⟨p, o, e1, _, e2⟩ := (HI.out.up.keep (Nat.le_refl _) (KW.out.trans GI.out.kp)).at_ he
            dsimp only at e1
            subst e1
            have HTK : Hid ((up.take (i + 1)).map upForm = (up.take i).map upForm ++ [upForm x]) := by
              show _ = _
              rw [List.take_add_one, he]
              simp
            clear he
            cases x with
            | true =>
              have HSZW : Hid (w3.heap.size ≤ (wr.alloc (.cells #[.int .u8 1] 5)).heap.size) := by
                show w3.heap.size ≤ _
                have := GI.out.kp.size
                simp; omega
              have YB := Lib.hid (Bytes.one wr 1 (by omega) 5)
              rw [show (((1 : Nat) : Int)) = 1 from rfl] at YB
              go_wp2_with (at_builtin; refine wpList_append_bytes rfl _ _ 23 rfl Tryd.underlying23 info5 rfl (GI.out.own.alloc _) rfl YB.out (by omega) HSZW.out ?_)
              intro A21 c21 w21 h2 hg2 _
              have o2 : Own w21 w3.heap.size 5 A21 (((3 + 8 + 8) + 8 + 1) + i + 1) c21 (([5, s, d] ++ formN 8 ep ++ formN 8 lf ++ formN 8 te ++ [nu] ++ (up.take i).map upForm) ++ [1]) := by first | exact h2 | simpa using h2
              have G21 := Lib.hid ((GI.out.later ((Keep.refl wr).alloc #[.int .u8 1] 5)).grow (ys := [1]) o2 hg2)
              clear h2 o2 hg2 GI HSZW YB
              go_wp2_with fail
              go_roundw
              case rel => exact ⟨i + 1, _, _, by omega, by go_num, by first | rfl | congr 1 | (congr 1; omega), by
                rw [HTK.out, ← List.append_assoc]
                exact G21.out⟩
              case measure => simp [intOf]; omega
            | false =>
              have HSZW : Hid (w3.heap.size ≤ (wr.alloc (.cells #[.int .u8 0] 5)).heap.size) := by
                show w3.heap.size ≤ _
                have := GI.out.kp.size
                simp; omega
              have YB := Lib.hid (Bytes.one wr 0 (by omega) 5)
              rw [show (((0 : Nat) : Int)) = 0 from rfl] at YB
              go_wp2_with (at_builtin; refine wpList_append_bytes rfl _ _ 23 rfl Tryd.underlying23 info5 rfl (GI.out.own.alloc _) rfl YB.out (by omega) HSZW.out ?_)
              intro A21 c21 w21 h2 hg2 _
              have o2 : Own w21 w3.heap.size 5 A21 (((3 + 8 + 8) + 8 + 1) + i + 1) c21 (([5, s, d] ++ formN 8 ep ++ formN 8 lf ++ formN 8 te ++ [nu] ++ (up.take i).map upForm) ++ [0]) := by first | exact h2 | simpa using h2
              have G21 := Lib.hid ((GI.out.later ((Keep.refl wr).alloc #[.int .u8 0] 5)).grow (ys := [0]) o2 hg2)
              clear h2 o2 hg2 GI HSZW YB
              go_wp2_with fail
              go_roundw
              case rel => exact ⟨i + 1, _, _, by omega, by go_num, by first | rfl | congr 1 | (congr 1; omega), by
                rw [HTK.out, ← List.append_assoc]
                exact G21.out⟩
              case measure => simp [intOf]; omega
          · obtain rfl : nu = i := by omega
            have HTK : Hid ((up.take nu).map upForm = up.map upForm) := by show _ = _; rw [List.take_of_length_le (by rw [LU.out]; exact Nat.le_refl _)]
            have G30 : Hid (Bld w3 wr Ai (((3 + 8 + 8) + 8 + 1) + nu) ci ([5, s, d] ++ formN 8 ep ++ formN 8 lf ++ formN 8 te ++ [nu] ++ up.map upForm)) := by
              show Bld _ _ _ _ _ _
              rw [← HTK.out]; exact GI.out
            have f2 : ¬ (nu : Int) < (nu : Int) := by omega
            have HSZW : Hid (w3.heap.size ≤ (wr.alloc (.cells #[.int .u8 (nh : Int)] 5)).heap.size) := by
              show w3.heap.size ≤ _
              have := G30.out.kp.size
              simp; omega
            clear GI HTK
            go_wp2_with (at_builtin; refine wpList_append_bytes rfl _ _ 23 rfl Tryd.underlying23 info5 rfl (G30.out.own.alloc _) rfl (Bytes.one wr nh (by omega) 5) (by omega) HSZW.out ?_)
            intro A31 c31 w31 h2 hg2 _
            have o2 : Own w31 w3.heap.size 5 A31 (((3 + 8 + 8) + 8 + 1) + nu + 1) c31 (([5, s, d] ++ formN 8 ep ++ formN 8 lf ++ formN 8 te ++ [nu] ++ up.map upForm) ++ [nh]) := by first | exact h2 | simpa using h2
            have G31 := Lib.hid ((G30.out.later ((Keep.refl wr).alloc #[.int .u8 (nh : Int)] 5)).grow (ys := [nh]) o2 hg2)
            clear h2 o2 hg2 G30 HSZW y12 y13 y14
            go_wp2_with fail
            go_loopw [4, 8] (fun bv iv wr => ∃ (i n : Nat) (A : Option Addr) (c : Nat), i ≤ nh ∧ n ≤ (((3 + 8 + 8) + 8 + 1) + nu + 1) + 257 * i ∧ iv = .int .i64 i ∧ bv = .slice A n c ∧ Bld w3 wr A n c ([5, s, d] ++ formN 8 ep ++ formN 8 lf ++ formN 8 te ++ [nu] ++ up.map upForm ++ [nh] ++ (hp.take i).flatMap hopForm)) (fun _ iv _ => nh - (intOf iv).toNat)
            case atStart => exact ⟨0, _, _, _, by omega, by omega, rfl, rfl, by simpa using G31.out⟩
            case round =>
              obtain ⟨i, n, Ai, ci, hi, hn, rfl, rfl, hb⟩ := hrel
              have GI := Lib.hid hb
              clear hb G31
              have f1 : (0 : Int) ≤ (i : Int) := Int.natCast_nonneg _
              obtain ⟨_, _, _, y12, y13, y14⟩ := (HB3.out wr GI.out.kp).cells
              dsimp only at y12 y13 y14
              by_cases hlt : i < nh
              · have f2 : (i : Int) < (nh : Int) := by omega
                have f3 : ((i : Int)).toNat = i := Int.toNat_natCast i
                obtain ⟨es, he⟩ := get_some LH.out hlt
                have hed := HED.out es (List.mem_of_getElem? he)
                obtain ⟨p, o, ⟨Ae, ne, ce⟩, e1, hpb, hcl, hes, hne, hce⟩ := (HI.out.hp.keep (Nat.le_refl _) KW.out).at_ he
                dsimp only at e1 hcl hes hne hce
                subst e1
                have hel := hes.length
                have HB : Hid (w.heap.size ≤ w3.heap.size) := KW.out.size
                have HEL : Hid (∀ wx, Keep w3 wx → wx.cell? ⟨p, o + i, none⟩ = some (.slice Ae ne ce)) := fun wx kx => (World.cell?_of_block (kx.block p (by have := HB.out; omega))).trans hcl
                have HES : Hid (∀ wx, Keep w3 wx → EdgesAt wx w.heap.size Ae ne es) := fun wx kx => hes.keep HB.out kx
                have HEB := Lib.hid hed.2
                have LE := Lib.hid hel
                have hn128 : ne ≤ 128 := by omega
                have rce : IntKind.u8.wrap (ne : Int) = (ne : Int) := IntWalk.u8_in _ (by omega)
                have HTK : Hid ((hp.take (i + 1)).flatMap hopForm = (hp.take i).flatMap hopForm ++ [ne] ++ es.flatMap edgeForm) := by
                  show _ = _
                  rw [List.take_add_one, he]
                  simp [hopForm, hel, form1 ne (by omega)]
                have y15 := HEL.out wr GI.out.kp
                have HSZW : Hid (w3.heap.size ≤ (wr.alloc (.cells #[.int .u8 (ne : Int)] 5)).heap.size) := by
                  show w3.heap.size ≤ _
                  have := GI.out.kp.size
                  simp; omega
                clear he hed hcl hes hel
                go_wp2_with (at_builtin; refine wpList_append_bytes rfl _ _ 23 rfl Tryd.underlying23 info5 rfl (GI.out.own.alloc _) rfl (Bytes.one wr ne (by omega) 5) (by omega) HSZW.out ?_)
                intro A41 c41 w41 h2 hg2 _
                have o2 : Own w41 w3.heap.size 5 A41 (n + 1) c41 (([5, s, d] ++ formN 8 ep ++ formN 8 lf ++ formN 8 te ++ [nu] ++ up.map upForm ++ [nh] ++ (hp.take i).flatMap hopForm) ++ [ne]) := by first | exact h2 | simpa using h2
                have G41 := Lib.hid ((GI.out.later ((Keep.refl wr).alloc #[.int .u8 (ne : Int)] 5)).grow (ys := [ne]) o2 hg2)
                clear h2 o2 hg2 GI HSZW y12 y13 y14 y15
                go_wp2_with fail
                go_loopw [4, 9] (fun bv kv wr => ∃ (k : Nat) (A : Option Addr) (c : Nat), k ≤ ne ∧ kv = .int .i64 k ∧ bv = .slice A (n + 1 + 2 * k) c ∧ Bld w3 wr A (n + 1 + 2 * k) c ([5, s, d] ++ formN 8 ep ++ formN 8 lf ++ formN 8 te ++ [nu] ++ up.map upForm ++ [nh] ++ (hp.take i).flatMap hopForm ++ [ne] ++ (es.take k).flatMap edgeForm)) (fun _ kv _ => ne - (intOf kv).toNat)
                case atStart => exact ⟨0, _, _, by omega, rfl, rfl, by simpa using G41.out⟩
                case round =>
                  obtain ⟨k, Ak, ck, hk, rfl, rfl, hb⟩ := hrel
                  have GK := Lib.hid hb
                  clear hb G41
                  have g1 : (0 : Int) ≤ (k : Int) := Int.natCast_nonneg _
                  obtain ⟨_, _, _, y12, y13, y14⟩ := (HB3.out wr GK.out.kp).cells
                  dsimp only at y12 y13 y14
                  have y15 := HEL.out wr GK.out.kp
                  by_cases hkl : k < ne
                  · have g2 : (k : Int) < (ne : Int) := by omega
                    have g3 : ((k : Int)).toNat = k := Int.toNat_natCast k
                    obtain ⟨⟨ea, eb⟩, hke⟩ := get_some LE.out hkl
                    obtain ⟨q1, q2, q3, q4⟩ := HEB.out _ (List.mem_of_getElem? hke)
                    try dsimp only at q1 q2 q3 q4
                    obtain ⟨xa, rfl⟩ : ∃ m : Nat, ea = m := ⟨ea.toNat, by omega⟩
                    obtain ⟨xb, rfl⟩ : ∃ m : Nat, eb = m := ⟨eb.toNat, by omega⟩
                    obtain ⟨p2, o2, e1, _, _, _⟩ := (HES.out wr GK.out.kp).at_ hke
                    try dsimp only at e1
                    subst e1
                    have HEC : Hid (∀ wx, Keep w3 wx → wx.cell? ⟨p2, o2 + k * 2, none⟩ = some (.int .i64 (xa : Int)) ∧ wx.cell? ⟨p2, o2 + k * 2 + 1, none⟩ = some (.int .i64 (xb : Int))) := fun wx kx => by
                      obtain ⟨p3, o3, e2, _, u1, u2⟩ := (HES.out wx kx).at_ hke
                      dsimp only at e2 u1 u2
                      injection e2 with e2
                      injection e2 with z1 z2
                      subst z1; subst z2
                      exact ⟨u1, u2⟩
                    have HTE : Hid ((es.take (k + 1)).flatMap edgeForm = (es.take k).flatMap edgeForm ++ [xa, xb]) := by
                      show _ = _
                      rw [List.take_add_one, hke]
                      simp [edgeForm, form1 xa (by omega), form1 xb (by omega)]
                    have r1 : IntKind.u8.wrap (xa : Int) = (xa : Int) := IntWalk.u8_in _ (by omega)
                    have r2 : IntKind.u8.wrap (xb : Int) = (xb : Int) := IntWalk.u8_in _ (by omega)
                    clear hke q1 q3
                    go_wp2_with fail
                    clear y12 y13 y14 y15
                    refine wp_region_noPanic ?_
                    refine wp_region_held_drew (S := fun wz => Keep w3 wz) (by kernel_rfl) (Keep.drew GK.out.kp) (fun hHeld => ?_)
                    refine wpAnyH_take (i := 0) (v := ?_) rfl (by kernel_rfl) (by kernel_rfl) (by kernel_rfl) (fun _ _ _ h => h) (Or.inl ⟨by rfl, ?_⟩) hHeld ?_
                    rotate_left
                    · intro wq hSw
                      go_simp
                      all_goals with_reducible rfl
                    try simp only [Act.put, List.getElem_toArray, List.getElem_cons_succ, List.getElem_cons_zero, List.setIfInBounds_toArray, List.set_cons_zero, List.set_cons_succ]
                    refine wpAnyH_take (i := 1) (v := ?_) rfl (by kernel_rfl) (by kernel_rfl) (by kernel_rfl) (fun _ _ _ h => h) (Or.inl ⟨by rfl, ?_⟩) hHeld ?_
                    rotate_left
                    · intro wq hSw
                      go_simp
                      all_goals with_reducible rfl
                    try simp only [Act.put, List.getElem_toArray, List.getElem_cons_succ, List.getElem_cons_zero, List.setIfInBounds_toArray, List.set_cons_zero, List.set_cons_succ]
                    refine wpAnyH_take (i := 2) (v := ?_) rfl (by kernel_rfl) (by kernel_rfl) (by kernel_rfl) (fun _ _ _ h => h) (Or.inl ⟨by rfl, ?_⟩) hHeld ?_
                    rotate_left
                    · intro wq hSw
                      go_simp
                      all_goals with_reducible rfl
                    try simp only [Act.put, List.getElem_toArray, List.getElem_cons_succ, List.getElem_cons_zero, List.setIfInBounds_toArray, List.set_cons_zero, List.set_cons_succ]
                    refine wpAnyH_take (i := 3) (v := ?_) rfl (by kernel_rfl) (by kernel_rfl) (by kernel_rfl) (fun _ _ _ h => h) (Or.inl ⟨by rfl, ?_⟩) hHeld ?_
                    rotate_left
                    · intro wq hSw
                      obtain ⟨_, _, _, _, _, y14⟩ := (HB3.out wq hSw).cells
                      go_simp
                      all_goals with_reducible rfl
                    try simp only [Act.put, List.getElem_toArray, List.getElem_cons_succ, List.getElem_cons_zero, List.setIfInBounds_toArray, List.set_cons_zero, List.set_cons_succ]
                    refine wpAnyH_take (i := 4) (v := ?_) rfl (by kernel_rfl) (by kernel_rfl) (by kernel_rfl) (fun _ _ _ h => h) (Or.inl ⟨by rfl, ?_⟩) hHeld ?_
                    rotate_left
                    · intro wq hSw
                      go_simp
                      all_goals with_reducible rfl
                    try simp only [Act.put, List.getElem_toArray, List.getElem_cons_succ, List.getElem_cons_zero, List.setIfInBounds_toArray, List.set_cons_zero, List.set_cons_succ]
                    refine wpAnyH_take (i := 5) (v := ?_) rfl (by kernel_rfl) (by kernel_rfl) (by kernel_rfl) (fun _ _ _ h => h) (Or.inl ⟨by rfl, ?_⟩) hHeld ?_
                    rotate_left
                    · intro wq hSw
                      go_simp
                      all_goals with_reducible rfl
                    try simp only [Act.put, List.getElem_toArray, List.getElem_cons_succ, List.getElem_cons_zero, List.setIfInBounds_toArray, List.set_cons_zero, List.set_cons_succ]
                    refine wpAnyH_take (i := 6) (v := ?_) rfl (by kernel_rfl) (by kernel_rfl) (by kernel_rfl) (fun _ _ _ h => h) (Or.inl ⟨by rfl, ?_⟩) hHeld ?_
                    rotate_left
                    · intro wq hSw
                      have y15 := HEL.out wq hSw
                      go_simp
                      all_goals with_reducible rfl
                    try simp only [Act.put, List.getElem_toArray, List.getElem_cons_succ, List.getElem_cons_zero, List.setIfInBounds_toArray, List.set_cons_zero, List.set_cons_succ]
                    refine wpAnyH_take (i := 7) (v := ?_) rfl (by kernel_rfl) (by kernel_rfl) (by kernel_rfl) (fun _ _ _ h => h) (Or.inl ⟨by rfl, ?_⟩) hHeld ?_
                    rotate_left
                    · intro wq hSw
                      go_simp
                      all_goals with_reducible rfl
                    try simp only [Act.put, List.getElem_toArray, List.getElem_cons_succ, List.getElem_cons_zero, List.setIfInBounds_toArray, List.set_cons_zero, List.set_cons_succ]
                    refine wpAnyH_take (i := 8) (v := ?_) rfl (by kernel_rfl) (by kernel_rfl) (by kernel_rfl) (fun _ _ _ h => h) (Or.inl ⟨by rfl, ?_⟩) hHeld ?_
                    rotate_left
                    · intro wq hSw
                      go_simp
                      all_goals with_reducible rfl
                    try simp only [Act.put, List.getElem_toArray, List.getElem_cons_succ, List.getElem_cons_zero, List.setIfInBounds_toArray, List.set_cons_zero, List.set_cons_succ]
                    refine wpAnyH_take (i := 9) (v := ?_) rfl (by kernel_rfl) (by kernel_rfl) (by kernel_rfl) (fun _ _ _ h => h) (Or.inl ⟨by rfl, ?_⟩) hHeld ?_
                    rotate_left
                    · intro wq hSw
                      go_simp
                      all_goals with_reducible rfl
                    try simp only [Act.put, List.getElem_toArray, List.getElem_cons_succ, List.getElem_cons_zero, List.setIfInBounds_toArray, List.set_cons_zero, List.set_cons_succ]
                    refine wpAnyH_take (i := 10) (v := ?_) rfl (by kernel_rfl) (by kernel_rfl) (by kernel_rfl) (fun _ _ _ h => h) (Or.inl ⟨by rfl, ?_⟩) hHeld ?_
                    rotate_left
                    · intro wq hSw
                      obtain ⟨u1, u2⟩ := HEC.out wq hSw
                      go_simp
                      all_goals with_reducible rfl
                    try simp only [Act.put, List.getElem_toArray, List.getElem_cons_succ, List.getElem_cons_zero, List.setIfInBounds_toArray, List.set_cons_zero, List.set_cons_succ]
                    refine wpAnyH_take (i := 11) (v := ?_) rfl (by kernel_rfl) (by kernel_rfl) (by kernel_rfl) (fun _ _ _ h => h) (Or.inl ⟨by rfl, ?_⟩) hHeld ?_
                    rotate_left
                    · intro wq hSw
                      go_simp
                      all_goals with_reducible rfl
                    try simp only [Act.put, List.getElem_toArray, List.getElem_cons_succ, List.getElem_cons_zero, List.setIfInBounds_toArray, List.set_cons_zero, List.set_cons_succ]
                    refine wpAnyH_take (i := 12) (v := ?_) rfl (by kernel_rfl) (by kernel_rfl) (by kernel_rfl) (fun _ _ _ h => h) (Or.inl ⟨by rfl, ?_⟩) hHeld ?_
                    rotate_left
                    · intro wq hSw
                      go_simp
                      all_goals with_reducible rfl
                    try simp only [Act.put, List.getElem_toArray, List.getElem_cons_succ, List.getElem_cons_zero, List.setIfInBounds_toArray, List.set_cons_zero, List.set_cons_succ]
                    refine wpAnyH_take (i := 13) (v := ?_) rfl (by kernel_rfl) (by kernel_rfl) (by kernel_rfl) (fun _ _ _ h => h) (Or.inl ⟨by rfl, ?_⟩) hHeld ?_
                    rotate_left
                    · intro wq hSw
                      go_simp
                      all_goals with_reducible rfl
                    try simp only [Act.put, List.getElem_toArray, List.getElem_cons_succ, List.getElem_cons_zero, List.setIfInBounds_toArray, List.set_cons_zero, List.set_cons_succ]
                    refine wpAnyH_take (i := 14) (v := ?_) rfl (by kernel_rfl) (by kernel_rfl) (by kernel_rfl) (fun _ _ _ h => h) (Or.inl ⟨by rfl, ?_⟩) hHeld ?_
                    rotate_left
                    · intro wq hSw
                      obtain ⟨_, _, _, _, _, y14⟩ := (HB3.out wq hSw).cells
                      go_simp
                      all_goals with_reducible rfl
                    try simp only [Act.put, List.getElem_toArray, List.getElem_cons_succ, List.getElem_cons_zero, List.setIfInBounds_toArray, List.set_cons_zero, List.set_cons_succ]
                    refine wpAnyH_take (i := 15) (v := ?_) rfl (by kernel_rfl) (by kernel_rfl) (by kernel_rfl) (fun _ _ _ h => h) (Or.inl ⟨by rfl, ?_⟩) hHeld ?_
                    rotate_left
                    · intro wq hSw
                      go_simp
                      all_goals with_reducible rfl
                    try simp only [Act.put, List.getElem_toArray, List.getElem_cons_succ, List.getElem_cons_zero, List.setIfInBounds_toArray, List.set_cons_zero, List.set_cons_succ]
                    refine wpAnyH_take (i := 16) (v := ?_) rfl (by kernel_rfl) (by kernel_rfl) (by kernel_rfl) (fun _ _ _ h => h) (Or.inl ⟨by rfl, ?_⟩) hHeld ?_
                    rotate_left
                    · intro wq hSw
                      go_simp
                      all_goals with_reducible rfl
                    try simp only [Act.put, List.getElem_toArray, List.getElem_cons_succ, List.getElem_cons_zero, List.setIfInBounds_toArray, List.set_cons_zero, List.set_cons_succ]
                    refine wpAnyH_take (i := 17) (v := ?_) rfl (by kernel_rfl) (by kernel_rfl) (by kernel_rfl) (fun _ _ _ h => h) (Or.inl ⟨by rfl, ?_⟩) hHeld ?_
                    rotate_left
                    · intro wq hSw
                      have y15 := HEL.out wq hSw
                      go_simp
                      all_goals with_reducible rfl
                    try simp only [Act.put, List.getElem_toArray, List.getElem_cons_succ, List.getElem_cons_zero, List.setIfInBounds_toArray, List.set_cons_zero, List.set_cons_succ]
                    refine wpAnyH_take (i := 18) (v := ?_) rfl (by kernel_rfl) (by kernel_rfl) (by kernel_rfl) (fun _ _ _ h => h) (Or.inl ⟨by rfl, ?_⟩) hHeld ?_
                    rotate_left
                    · intro wq hSw
                      go_simp
                      all_goals with_reducible rfl
                    try simp only [Act.put, List.getElem_toArray, List.getElem_cons_succ, List.getElem_cons_zero, List.setIfInBounds_toArray, List.set_cons_zero, List.set_cons_succ]
                    refine wpAnyH_take (i := 19) (v := ?_) rfl (by kernel_rfl) (by kernel_rfl) (by kernel_rfl) (fun _ _ _ h => h) (Or.inl ⟨by rfl, ?_⟩) hHeld ?_
                    rotate_left
                    · intro wq hSw
                      go_simp
                      all_goals with_reducible rfl
                    try simp only [Act.put, List.getElem_toArray, List.getElem_cons_succ, List.getElem_cons_zero, List.setIfInBounds_toArray, List.set_cons_zero, List.set_cons_succ]
                    refine wpAnyH_take (i := 20) (v := ?_) rfl (by kernel_rfl) (by kernel_rfl) (by kernel_rfl) (fun _ _ _ h => h) (Or.inl ⟨by rfl, ?_⟩) hHeld ?_
                    rotate_left
                    · intro wq hSw
                      go_simp
                      all_goals with_reducible rfl
                    try simp only [Act.put, List.getElem_toArray, List.getElem_cons_succ, List.getElem_cons_zero, List.setIfInBounds_toArray, List.set_cons_zero, List.set_cons_succ]
                    refine wpAnyH_take (i := 21) (v := ?_) rfl (by kernel_rfl) (by kernel_rfl) (by kernel_rfl) (fun _ _ _ h => h) (Or.inl ⟨by rfl, ?_⟩) hHeld ?_
                    rotate_left
                    · intro wq hSw
                      obtain ⟨u1, u2⟩ := HEC.out wq hSw
                      go_simp
                      all_goals with_reducible rfl
                    try simp only [Act.put, List.getElem_toArray, List.getElem_cons_succ, List.getElem_cons_zero, List.setIfInBounds_toArray, List.set_cons_zero, List.set_cons_succ]
                    refine wpAnyH_take (i := 22) (v := ?_) rfl (by kernel_rfl) (by kernel_rfl) (by kernel_rfl) (fun _ _ _ h => h) (Or.inl ⟨by rfl, ?_⟩) hHeld ?_
                    rotate_left
                    · intro wq hSw
                      go_simp
                      all_goals with_reducible rfl
                    try simp only [Act.put, List.getElem_toArray, List.getElem_cons_succ, List.getElem_cons_zero, List.setIfInBounds_toArray, List.set_cons_zero, List.set_cons_succ]
                    refine wpAnyH_ready (rs := [23]) (by kernel_rfl) (by simp) ?_
                    refine AllReadyH.cons rfl (fun K hK => ?_) AllReadyH.nil
                    go_simp
                    obtain ⟨wb, hwb⟩ : ∃ wb, (wr.alloc (.cells #[.int .u8 (xa : Int), .int .u8 (xb : Int)] 5)).drew = wb := ⟨_, rfl⟩
                    have gb : Bld w3 wb Ak (n + 1 + 2 * k) ck ([5, s, d] ++ formN 8 ep ++ formN 8 lf ++ formN 8 te ++ [nu] ++ up.map upForm ++ [nh] ++ (hp.take i).flatMap hopForm ++ [ne] ++ (es.take k).flatMap edgeForm) := by rw [← hwb]; exact GK.out.later (((Keep.refl wr).alloc _ _).drew)
                    have yb : Bytes wb wb.heap.size (some ⟨wr.heap.size, 0, none⟩) 2 [xa, xb] := by
                      rw [← hwb]
                      exact (Own.lit wr 5 2 [xa, xb] _ rfl rfl (by omega) (by intro z hz; simp at hz; omega)).drew.bytes.mono (by simp)
                    rw [hwb]
                    clear hwb
                    refine hK.out _ _ gb.kp (fun hHeld => ?_)
                    clear hK K
                    try simp only [Act.put, List.getElem_toArray, List.getElem_cons_succ, List.getElem_cons_zero, List.setIfInBounds_toArray, List.set_cons_zero, List.set_cons_succ]
                    refine wpAnyH_ready (rs := [24]) (by kernel_rfl) (by simp) ?_
                    refine AllReadyH.cons rfl (fun K hK => ?_) AllReadyH.nil
                    refine step_append_bytes rfl _ _ 23 rfl Tryd.underlying23 info5 rfl gb.own rfl yb (by omega) gb.kp.size ?_
                    intro Az cz wz h2 hg2 _
                    have bz := gb.grow h2 hg2
                    have GZ := Lib.hid bz
                    refine hK.out _ _ bz.kp (fun hHeld => ?_)
                    clear hK K bz h2 hg2 gb yb
                    try simp only [Act.put, List.getElem_toArray, List.getElem_cons_succ, List.getElem_cons_zero, List.setIfInBounds_toArray, List.set_cons_zero, List.set_cons_succ]
                    refine wpAnyH_take (i := 25) (v := ?_) rfl (by kernel_rfl) (by kernel_rfl) (by kernel_rfl) (fun _ _ _ h => h) (Or.inl ⟨by rfl, ?_⟩) hHeld ?_
                    rotate_left
                    · intro wq hSw
                      go_simp
                      all_goals with_reducible rfl
                    try simp only [Act.put, List.getElem_toArray, List.getElem_cons_succ, List.getElem_cons_zero, List.setIfInBounds_toArray, List.set_cons_zero, List.set_cons_succ]
                    refine wpAnyH_done (by kernel_rfl) ?_ _
                    refine NoPanic.normal ?_
                    clear hHeld
                    go_wp2_with fail
                    go_roundw
                    case rel => exact ⟨k + 1, _, _, by omega, by go_num, by first | rfl | congr 1 | (congr 1; omega), by
                      have e : n + 1 + 2 * (k + 1) = n + 1 + 2 * k + 2 := by omega
                      rw [HTE.out, e, ← List.append_assoc]
                      exact GZ.out⟩
                    case measure => simp [intOf]; omega
                  · obtain rfl : ne = k := by omega
                    have HTE : Hid ((es.take ne).flatMap edgeForm = es.flatMap edgeForm) := by show _ = _; rw [List.take_of_length_le (by rw [LE.out]; exact Nat.le_refl _)]
                    have g2 : ¬ (ne : Int) < (ne : Int) := by omega
                    go_wp2_with fail
                    go_roundw
                    case rel => exact ⟨i + 1, _, _, _, by omega, (by omega : n + 1 + 2 * ne ≤ (((3 + 8 + 8) + 8 + 1) + nu + 1) + 257 * (i + 1)), by go_num, rfl, by
                      rw [HTK.out, ← List.append_assoc, ← List.append_assoc, ← HTE.out]
                      exact GK.out⟩
                    case measure => simp [intOf]; omega
              · obtain rfl : nh = i := by omega
                have HTK : Hid ((hp.take nh).flatMap hopForm = hp.flatMap hopForm) := by show _ = _; rw [List.take_of_length_le (by rw [LH.out]; exact Nat.le_refl _)]
                have f2 : ¬ (nh : Int) < (nh : Int) := by omega
                have G50 : Hid (Bld w3 wr Ai n ci ([5, s, d] ++ formN 8 ep ++ formN 8 lf ++ formN 8 te ++ [nu] ++ up.map upForm ++ [nh] ++ hp.flatMap hopForm)) := by
                  show Bld _ _ _ _ _ _
                  rw [← HTK.out]; exact GI.out
                clear GI HTK y12 y13 y14
                obtain ⟨⟨y0, y1, y2, y3, y4⟩, ⟨y5, y6, y7, y8⟩, ⟨y9, y10, y11⟩, y12, y13, y14⟩ := (HB3.out wr G50.out.kp).cells
                dsimp only at y0 y1 y2 y3 y4 y5 y6 y7 y8 y9 y10 y11 y12 y13 y14
                go_wp2_with fail
                obtain ⟨e1, e2, e3⟩ := CF.out ([5, s, d] ++ formN 8 ep ++ formN 8 lf ++ formN 8 te ++ [nu] ++ up.map upForm ++ [nh] ++ hp.flatMap hopForm) n (HD.out _ ((formN 8 te ++ ([nu] ++ (up.map upForm ++ ([nh] ++ (hp.flatMap hopForm)))))) (by rw [restForm_5 (by rfl)]; simp only [topoForm]; rw [LU.out, LH.out, form1 nu (by omega), form1 nh (by omega)]) (by simp only [List.append_assoc])) (by exact G50.out.own.length)
                refine (rseal_any _ n ci Ai _ _ G50.out.own.bytes (Nat.le_refl _) (by omega)).mono ?_
                rintro e wE ⟨AE, nE, cE, rfl, oE, kE⟩
                have E : Hid (NewPair w PV PE (.returned (.tuple #[.slice AE nE cE, .int .i64 0])) wE) := by
                  rw [e1, e2]
                  exact ⟨AE, nE, cE, rfl, oE.lower (Nat.le_trans KW.out.size G50.out.kp.size), KW.out.trans (G50.out.kp.trans kE)⟩
                clear e1 e2 e3 oE kE
                clear y0 y1 y2 y3 y4 y5 y6 y7 y8 y9 y10 y11 y12 y13 y14
                go_wp2_with fail
                go_ret2
                exact E.out
    · obtain ⟨⟨y0, y1, y2, y3, y4⟩, ⟨y5, y6, y7, y8⟩, ⟨y9, y10, y11⟩, y12, y13, y14⟩ := (HB3.out w6 G6.out.kp).cells
      dsimp only at y0 y1 y2 y3 y4 y5 y6 y7 y8 y9 y10 y11 y12 y13 y14
      obtain ⟨fN, hfN, hf3⟩ := (OT.out (by decide)).2.2.2
      subst hfN
      have rfl8 : IntKind.u8.wrap (fN : Int) = (fN : Int) := IntWalk.u8_in _ (by omega)
      go_wp2_with fail
      clear y0 y1 y2 y3 y4 y5 y6 y7 y8 y9 y10 y11 y12 y13 y14
      refine wp_region_noPanic ?_
      refine wp_region_held_drew (S := fun wz => Keep w3 wz) (by kernel_rfl) (Keep.drew G6.out.kp) (fun hHeld => ?_)
      refine wpAnyH_take (i := 0) (v := ?_) rfl (by kernel_rfl) (by kernel_rfl) (by kernel_rfl) (fun _ _ _ h => h) (Or.inl ⟨by rfl, ?_⟩) hHeld ?_
      rotate_left
      · intro wq hSw
        go_simp
        all_goals with_reducible rfl
      try simp only [Act.put, List.getElem_toArray, List.getElem_cons_succ, List.getElem_cons_zero, List.setIfInBounds_toArray, List.set_cons_zero, List.set_cons_succ]
      refine wpAnyH_take (i := 1) (v := ?_) rfl (by kernel_rfl) (by kernel_rfl) (by kernel_rfl) (fun _ _ _ h => h) (Or.inl ⟨by rfl, ?_⟩) hHeld ?_
      rotate_left
      · intro wq hSw
        go_simp
        all_goals with_reducible rfl
      try simp only [Act.put, List.getElem_toArray, List.getElem_cons_succ, List.getElem_cons_zero, List.setIfInBounds_toArray, List.set_cons_zero, List.set_cons_succ]
      refine wpAnyH_take (i := 2) (v := ?_) rfl (by kernel_rfl) (by kernel_rfl) (by kernel_rfl) (fun _ _ _ h => h) (Or.inl ⟨by rfl, ?_⟩) hHeld ?_
      rotate_left
      · intro wq hSw
        obtain ⟨_, ⟨y5, y6, y7, y8⟩, _⟩ := (HB3.out wq hSw).cells
        go_simp
        all_goals with_reducible rfl
      try simp only [Act.put, List.getElem_toArray, List.getElem_cons_succ, List.getElem_cons_zero, List.setIfInBounds_toArray, List.set_cons_zero, List.set_cons_succ]
      refine wpAnyH_take (i := 3) (v := ?_) rfl (by kernel_rfl) (by kernel_rfl) (by kernel_rfl) (fun _ _ _ h => h) (Or.inl ⟨by rfl, ?_⟩) hHeld ?_
      rotate_left
      · intro wq hSw
        go_simp
        all_goals with_reducible rfl
      try simp only [Act.put, List.getElem_toArray, List.getElem_cons_succ, List.getElem_cons_zero, List.setIfInBounds_toArray, List.set_cons_zero, List.set_cons_succ]
      refine wpAnyH_take (i := 6) (v := ?_) rfl (by kernel_rfl) (by kernel_rfl) (by kernel_rfl) (fun _ _ _ h => h) (Or.inl ⟨by rfl, ?_⟩) hHeld ?_
      rotate_left
      · intro wq hSw
        go_simp
        all_goals with_reducible rfl
      try simp only [Act.put, List.getElem_toArray, List.getElem_cons_succ, List.getElem_cons_zero, List.setIfInBounds_toArray, List.set_cons_zero, List.set_cons_succ]
      refine wpAnyH_take (i := 7) (v := ?_) rfl (by kernel_rfl) (by kernel_rfl) (by kernel_rfl) (fun _ _ _ h => h) (Or.inl ⟨by rfl, ?_⟩) hHeld ?_
      rotate_left
      · intro wq hSw
        obtain ⟨_, ⟨y5, y6, y7, y8⟩, _⟩ := (HB3.out wq hSw).cells
        go_simp
        all_goals with_reducible rfl
      try simp only [Act.put, List.getElem_toArray, List.getElem_cons_succ, List.getElem_cons_zero, List.setIfInBounds_toArray, List.set_cons_zero, List.set_cons_succ]
      refine wpAnyH_ready (rs := [4]) (by kernel_rfl) (by simp) ?_
      refine AllReadyH.cons rfl (fun K hK => ?_) AllReadyH.nil
      go_simp
      obtain ⟨wb, hwb⟩ : ∃ wb, (w6.alloc (.cells #[.int .u8 (fN : Int)] 5)).drew = wb := ⟨_, rfl⟩
      have gb : Bld w3 wb A6 (3 + 8 + 8) c6 ([6, s, d] ++ formN 8 ep ++ formN 8 lf) := by rw [← hwb]; exact G6.out.later (((Keep.refl w6).alloc _ _).drew)
      have yb : Bytes wb wb.heap.size (some ⟨w6.heap.size, 0, none⟩) 1 [fN] := by rw [← hwb]; exact (Bytes.one w6 fN (by omega) 5).mono (by simp)
      rw [hwb]
      clear hwb
      refine hK.out _ _ gb.kp (fun hHeld => ?_)
      clear hK K
      try simp only [Act.put, List.getElem_toArray, List.getElem_cons_succ, List.getElem_cons_zero, List.setIfInBounds_toArray, List.set_cons_zero, List.set_cons_succ]
      refine wpAnyH_ready (rs := [5]) (by kernel_rfl) (by simp) ?_
      refine AllReadyH.cons rfl (fun K hK => ?_) AllReadyH.nil
      refine step_append_bytes rfl _ _ 23 rfl Tryd.underlying23 info5 rfl gb.own rfl yb (by omega) gb.kp.size ?_
      intro A7 c7 w7 h2 hg2 _
      have b := gb.grow h2 hg2
      have G7 := Lib.hid b
      refine hK.out _ _ b.kp (fun hHeld => ?_)
      clear hK K b h2 hg2 gb yb G6
      try simp only [Act.put, List.getElem_toArray, List.getElem_cons_succ, List.getElem_cons_zero, List.setIfInBounds_toArray, List.set_cons_zero, List.set_cons_succ]
      refine wpAnyH_ready (rs := [8]) (by kernel_rfl) (by simp) ?_
      refine AllReadyH.cons rfl (fun K hK => ?_) AllReadyH.nil
      go_simp
      refine (long_any w3 _ _ ((3 + 8 + 8) + 1) c7 gn _ G7.out (by omega) (OT.out (by decide)).2.2.1).mono ?_
      rintro e w8 ⟨A8, c8, rfl, b, gl⟩
      have G8 := Lib.hid b
      refine hK.out _ _ b.kp (fun hHeld => ?_)
      clear hK K b gl G7
      try simp only [Act.put, List.getElem_toArray, List.getElem_cons_succ, List.getElem_cons_zero, List.setIfInBounds_toArray, List.set_cons_zero, List.set_cons_succ]
      refine wpAnyH_take (i := 9) (v := ?_) rfl (by kernel_rfl) (by kernel_rfl) (by kernel_rfl) (fun _ _ _ h => h) (Or.inl ⟨by rfl, ?_⟩) hHeld ?_
      rotate_left
      · intro wq hSw
        go_simp
        all_goals with_reducible rfl
      try simp only [Act.put, List.getElem_toArray, List.getElem_cons_succ, List.getElem_cons_zero, List.setIfInBounds_toArray, List.set_cons_zero, List.set_cons_succ]
      refine wpAnyH_done (by kernel_rfl) ?_ _
      refine NoPanic.normal ?_
      clear hHeld rfl8
      obtain ⟨⟨y0, y1, y2, y3, y4⟩, ⟨y5, y6, y7, y8⟩, ⟨y9, y10, y11⟩, y12, y13, y14⟩ := (HB3.out w8 G8.out.kp).cells
      dsimp only at y0 y1 y2 y3 y4 y5 y6 y7 y8 y9 y10 y11 y12 y13 y14
      go_wp2_with fail
      obtain ⟨e1, e2, e3⟩ := CF.out ([6, s, d] ++ formN 8 ep ++ formN 8 lf ++ [fN] ++ formN 8 gn) (((3 + 8 + 8) + 1) + 8) (HD.out _ (([fN] ++ (formN 8 gn))) (by rw [restForm_6 (by rfl)]; simp only [Int.toNat_natCast]; rw [form1 fN (by omega)]) (by simp only [List.append_assoc])) (by simp [formN_length])
      refine (rseal_any _ (((3 + 8 + 8) + 1) + 8) c8 A8 _ _ G8.out.own.bytes (Nat.le_refl _) (by omega)).mono ?_
      rintro e wE ⟨AE, nE, cE, rfl, oE, kE⟩
      have E : Hid (NewPair w PV PE (.returned (.tuple #[.slice AE nE cE, .int .i64 0])) wE) := by
        rw [e1, e2]
        exact ⟨AE, nE, cE, rfl, oE.lower (Nat.le_trans KW.out.size G8.out.kp.size), KW.out.trans (G8.out.kp.trans kE)⟩
      clear e1 e2 e3 oE kE
      clear y0 y1 y2 y3 y4 y5 y6 y7 y8 y9 y10 y11 y12 y13 y14
      go_wp2_with fail
      go_ret2
      exact E.out
end Go.Proofs.YtgkihfemlbhioaaDoor
