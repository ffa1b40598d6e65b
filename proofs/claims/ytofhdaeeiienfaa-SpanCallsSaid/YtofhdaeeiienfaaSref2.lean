/- Contracts of the document's own Meet and Witness of layer 8. -/
import Derived.Test.YtofhdaeeiienfaaSsq
import Derived.Test.YtofhdaeeiienfaaSlaw
namespace Go.Proofs.Ytofhdaeeiienfaa
open Go.RowKit Lin
set_option linter.unusedVariables false
set_option linter.unusedSimpArgs false
theorem meet_left_none {m : Nat} {N : List (List Nat)} (h : RowsOk m N) : meetN [] N = [] :=
  meet_unique (X := []) (Y := N) (meet_red (fun r hr => by simp at hr) h).1 (redL_nil m) (meet_red (fun r hr => by simp at hr) h).2 fun v _ => ⟨fun hv => ⟨hv, by
    obtain ⟨c, rfl⟩ := hv
    exact InSpan.zero laws _ _⟩, fun hv => hv.1⟩
theorem meet_right_none {m : Nat} {M : List (List Nat)} (h : RowsOk m M) : meetN M [] = [] :=
  meet_unique (X := M) (Y := []) (meet_red h (fun r hr => by simp at hr)).1 (redL_nil m) (meet_red h (fun r hr => by simp at hr)).2 fun v _ => ⟨fun hv => ⟨by
    obtain ⟨c, rfl⟩ := hv
    exact InSpan.zero laws _ _, hv⟩, fun hv => hv.2⟩
theorem meet_square {m : Nat} {M N : List (List Nat)} {l k o : Nat → Nat} (hM : RowsOk m M) (hN : RowsOk m N) (h1 : Red (reduceN M).length (fn (reduceN M)) l) (h2 : Red (reduceN N).length (fn (reduceN N)) k)
    (h3 : Red (reduceN (squareL m (reduceN M) l ++ squareL m (reduceN N) k)).length (fn (reduceN (squareL m (reduceN M) l ++ squareL m (reduceN N) k))) o) :
    reduceN (squareL m (reduceN (squareL m (reduceN M) l ++ squareL m (reduceN N) k)) o) = meetN M N := by
  have kM := hM.red
  have kN := hN.red
  have q := (squareL_ok l kM.1.1).both (squareL_ok k kN.1.1)
  have kT := q.red
  have kS := (squareL_ok o kT.1.1).red
  have mm := meet_red hM hN
  refine meet_unique kS.1 mm.1 (fun v hv => ?_) mm.2
  exact meet_list h1 h2 h3 kM.1.1 kN.1.1 kT.1.1 kM.2 kN.2 kT.2 kS.2 hv
section
variable {w : World} {A A' : Option Addr} {n n' c c' : Nat} {M N : List (List Nat)}
set_option maxRecDepth 100000 in
set_option maxHeartbeats 2000000 in
theorem rmeet_mat (h : Mat w ⟨A, n, c, M⟩) (k : Mat w ⟨A', n', c', N⟩) (hn : n ≤ 400) (hn' : n' ≤ 400) (hc : sizeC (M ++ N) ≤ 400) :
    Calls Try.prog 24 #[.slice A n c, .slice A' n' c'] w (NewMat w (meetV M N) (sizeE (M ++ N))) := by
  have hS := rsum_mat h k hn hn' hc
  by_cases hf : fits (M ++ N)
  · obtain ⟨o1, o2⟩ := both_ok h k hf
    obtain ⟨m, hm⟩ : ∃ m, sizeC (M ++ N) = m := ⟨_, rfl⟩
    have he : sizeE (M ++ N) = 0 := by rw [sizeE, if_pos hf]
    rw [hm] at o1 o2 hc
    rw [he] at hS ⊢
    rw [meetV, if_pos hf]
    have sM : Hid (Sz n m M) := ⟨h.len, o1⟩
    have sN : Hid (Sz n' m N) := ⟨k.len, o2⟩
    have H := Lib.hid h
    have K := Lib.hid k
    have HS := Lib.hid hS
    clear hS h k he hf hm o1 o2
    by_cases h0 : n = 0 ∨ n' = 0
    · have hmt : meetN M N = [] := by
        rcases h0 with e | e
        · have : M = [] := List.eq_nil_of_length_eq_zero (sM.out.1.trans e)
          rw [this]; exact meet_left_none sN.out.2
        · have : N = [] := List.eq_nil_of_length_eq_zero (sN.out.1.trans e)
          rw [this]; exact meet_right_none sM.out.2
      rw [hmt]
      clear hmt
      by_cases h1 : n = 0
      · have b1 : ((n : Int) == 0) = true := by rw [h1]; rfl
        clear h0 h1
        go_enter Try.func24, Try.ntmps24
        go_wp2_with fail
        refine HS.out.mono ?_
        rintro e w1 ⟨A2, n2, c2, rfl, m2, k2⟩
        have K2 := Lib.hid k2
        clear m2 k2 HS
        go_wp2_with fail
        go_ret2
        exact ⟨none, 0, 0, rfl, mat_none _, K2.out⟩
      · have b1 : ((n : Int) == 0) = false := beq_eq_false_iff_ne.2 (by omega)
        have b2 : ((n' : Int) == 0) = true := by rw [h0.resolve_left h1]; rfl
        clear h0 h1
        go_enter Try.func24, Try.ntmps24
        go_wp2_with fail
        refine HS.out.mono ?_
        rintro e w1 ⟨A2, n2, c2, rfl, m2, k2⟩
        have K2 := Lib.hid k2
        clear m2 k2 HS
        go_wp2_with fail
        go_ret2
        exact ⟨none, 0, 0, rfl, mat_none _, K2.out⟩
    · have b1 : ((n : Int) == 0) = false := beq_eq_false_iff_ne.2 (by omega)
      have b2 : ((n' : Int) == 0) = false := beq_eq_false_iff_ne.2 (by omega)
      obtain ⟨T, hT⟩ : ∃ T, meetN M N = T := ⟨_, rfl⟩
      rw [hT]
      have HT := Lib.hid hT
      have hpos : (0 : Int) < (n : Int) := by omega
      obtain ⟨b, off, Ay, cy, rfl, hb, hc0, _, _, _⟩ := H.out.row_at sM.out (i := 0) (by omega)
      rw [Nat.add_zero] at hc0
      have HB := Lib.hid hb
      have HC0 := Lib.hid hc0
      clear hT h0 hb hc0
      go_enter Try.func24, Try.ntmps24
      go_wp2_with fail
      refine HS.out.mono ?_
      rintro e w1 ⟨A2, n2, c2, rfl, m2, k2⟩
      have K2 := Lib.hid k2
      have c1 := (k2.cell (p := ⟨b, off, none⟩) HB.out).trans HC0.out
      clear m2 k2 HS
      go_wp2_with fail
      refine (rsquare_mat (H.out.keep K2.out) sM.out.2 (by omega) hc).mono ?_
      rintro e w3 ⟨A3, n3, c3, l3, rfl, r3, m3, hn3, k3⟩
      have R3 := Lib.hid r3
      have M3 := Lib.hid m3
      have K3 := Lib.hid (K2.out.trans k3)
      clear r3 m3 k3 c1
      go_wp2_with fail
      refine (rsquare_mat (K.out.keep K3.out) sN.out.2 (by omega) hc).mono ?_
      rintro e w4 ⟨A4, n4, c4, l4, rfl, r4, m4, hn4, k4⟩
      have R4 := Lib.hid r4
      have M4 := Lib.hid m4
      have M34 := Lib.hid (M3.out.keep k4)
      have K4 := Lib.hid (K3.out.trans k4)
      clear r4 m4 k4
      go_wp2_with fail
      refine (both_mat M34.out M4.out (by omega) (by omega)).mono ?_
      rintro e w5 ⟨A5, n5, c5, rfl, hn5, m5, k5⟩
      have M5 := Lib.hid m5
      have K5 := Lib.hid (K4.out.trans k5)
      have hn5' : n5 ≤ 900 := by omega
      have OK5 : Hid (RowsOk m (squareL m (reduceN M) l3 ++ squareL m (reduceN N) l4)) := (squareL_ok l3 sM.out.2.red.1.1).both (squareL_ok l4 sN.out.2.red.1.1)
      clear m5 k5 hn5
      go_wp2_with fail
      refine (rsquare_mat M5.out OK5.out hn5' hc).mono ?_
      rintro e w6 ⟨A6, n6, c6, l6, rfl, r6, m6, hn6, k6⟩
      have hsz : Sz n6 m (squareL m (reduceN (squareL m (reduceN M) l3 ++ squareL m (reduceN N) l4)) l6) := ⟨m6.len, squareL_ok l6 OK5.out.red.1.1⟩
      have EQ := Lib.hid ((meet_square sM.out.2 sN.out.2 R3.out R4.out r6).trans HT.out)
      have M6 := Lib.hid m6
      have K6 := Lib.hid (K5.out.trans k6)
      have S6 := Lib.hid hsz
      clear r6 m6 k6 hsz
      go_wp2_with fail
      refine (rreduce_mat M6.out (by omega) (Nat.le_trans S6.out.sizeC_le (by omega))).mono ?_
      rw [EQ.out, S6.out.sizeE]
      rintro e w7 ⟨A7, n7, c7, rfl, m7, k7⟩
      have M7 := Lib.hid m7
      have K7 := Lib.hid (K6.out.trans k7)
      clear m7 k7
      go_wp2_with fail
      go_ret2
      exact ⟨A7, n7, c7, rfl, M7.out, K7.out⟩
  · have he : sizeE (M ++ N) = 21 := by rw [sizeE, if_neg hf]
    rw [he] at hS ⊢
    rw [meetV, if_neg hf]
    have HS := Lib.hid hS
    clear hS h k he hf
    go_enter Try.func24, Try.ntmps24
    go_wp2_with fail
    refine HS.out.mono ?_
    rintro e w1 ⟨A2, n2, c2, rfl, m2, k2⟩
    have K2 := Lib.hid k2
    clear m2 k2 HS
    go_wp2_with fail
    go_ret2
    exact ⟨none, 0, 0, rfl, mat_none _, K2.out⟩
set_option maxRecDepth 100000 in
set_option maxHeartbeats 2000000 in
theorem rwitness_mat (h : Mat w ⟨A, n, c, M⟩) (k : Mat w ⟨A', n', c', N⟩) (hn : n ≤ 400) (hn' : n' ≤ 400) (hc : sizeC (M ++ N) ≤ 400) :
    Calls Try.prog 26 #[.slice A n c, .slice A' n' c'] w (NewWit w M N) := by
  have hS := rsum_mat h k hn hn' hc
  unfold NewWit
  by_cases hf : fits (M ++ N)
  · obtain ⟨o1, o2⟩ := both_ok h k hf
    obtain ⟨m, hm⟩ : ∃ m, sizeC (M ++ N) = m := ⟨_, rfl⟩
    have he : sizeE (M ++ N) = 0 := by rw [sizeE, if_pos hf]
    have hlM : M.length = n := h.len
    rw [hm] at o1 o2 hc
    rw [he] at hS ⊢
    have sM : Hid (Sz n m M) := ⟨hlM, o1⟩
    have sN : Hid (Sz n' m N) := ⟨k.len, o2⟩
    have hal : (M.any fun v => !conB N [v]) = !conB N M := by rw [con_all o2 o1]; simp [List.all_eq_not_any_not]
    have hwit : witB M N = M.any fun v => !conB N [v] := by rw [witB, if_pos hf, hal]
    have hid := idxI_any (fun v => !conB N [v]) M
    have HP : Hid (∀ i : Nat, i < n → (∀ j, j < i → conB N [M.getD j []] = true) → conB N [M.getD i []] = false → witB M N = true ∧ witN M N = (List.replicate n 0).set i 1) := fun i hi hall hno => by
      obtain ⟨e1, e2⟩ := idxI_some (p := fun v => !conB N [v]) (M := M) (i := i) (by omega) (by show (!conB N [M.getD i []]) = true; rw [hno]; rfl) (fun j hj => by show (!conB N [M.getD j []]) = false; rw [hall j hj]; rfl)
      rw [e2] at hid
      have e3 : witB M N = true := by rw [hwit, ← hid]; exact decide_eq_true (by omega)
      exact ⟨e3, by rw [witN, e3, if_pos rfl, e1, hlM, unit_set]⟩
    have HN : Hid ((∀ j, j < n → conB N [M.getD j []] = true) → witB M N = false ∧ witN M N = []) := fun hall => by
      obtain ⟨_, e2⟩ := idxI_none (p := fun v => !conB N [v]) (M := M) (fun j hj => by show (!conB N [M.getD j []]) = false; rw [hall j (by omega)]; rfl)
      rw [e2] at hid
      have e3 : witB M N = false := by rw [hwit, ← hid]; rfl
      exact ⟨e3, by rw [witN, e3]; rfl⟩
    have H := Lib.hid h
    have K := Lib.hid k
    have HS := Lib.hid hS
    obtain ⟨wb, hwb⟩ : ∃ z, witB M N = z := ⟨_, rfl⟩
    obtain ⟨wn, hwn⟩ : ∃ z, witN M N = z := ⟨_, rfl⟩
    rw [hwb, hwn] at HP HN ⊢
    have mk1 := fun w => run_make_bytes (P := Try.prog) Try.underlying23 info5 n (by omega) w
    clear hS h k he hf hm o1 o2 hal hwit hid hwb hwn hlM
    go_enter Try.func26, Try.ntmps26
    go_wp2_with fail
    refine HS.out.mono ?_
    rintro e w1 ⟨A2, n2, c2, rfl, m2, k2⟩
    have K2 := Lib.hid k2
    clear m2 k2 HS
    go_wp2_with fail
    go_loopw [9] (fun iv wr => ∃ i : Nat, i ≤ n ∧ iv = .int .i64 i ∧ Keep w wr ∧ ∀ j, j < i → conB N [M.getD j []] = true) (fun iv _ => n - (intOf iv).toNat)
    case atStart => exact ⟨0, by omega, rfl, K2.out, fun j hj => by omega⟩
    case round =>
      clear K2
      obtain ⟨i, hi, rfl, hk, hall⟩ := hrel
      by_cases hlt : i < n
      · obtain ⟨b, off, Ay, cy, rfl, hb, hcl, _, _, hl⟩ := (H.out.keep hk).row_at sM.out hlt
        have e1 : (0 : Int) ≤ (i : Int) := Int.natCast_nonneg _
        have e2 : (i : Int) < (n : Int) := by omega
        have sv : Sz 1 m [M.getD i []] := ⟨rfl, fun r hr => by rw [List.mem_singleton.1 hr]; exact sM.out.at_ hlt⟩
        have ht := two_sz sN.out sv
        have hh := rhas_mat (K.out.keep hk) hl hn' (Nat.le_trans ht.2.2.1 hc)
        rw [ht.1, ht.2.1] at hh
        obtain ⟨z, hz⟩ : ∃ z, conB N [M.getD i []] = z := ⟨_, rfl⟩
        rw [hz] at hh
        have HH := Lib.hid hh
        have HK := Lib.hid hk
        have HZ := Lib.hid hz
        have HA := Lib.hid hall
        have HL := Lib.hid hlt
        clear hh hk hz hall hl sv ht
        cases z with
        | true =>
          go_wp2_with fail
          refine HH.out.mono ?_
          rintro e w3 ⟨rfl, k3⟩
          have K3 := Lib.hid (HK.out.trans k3)
          clear k3
          go_wp2_with fail
          go_roundw
          case rel => exact ⟨i + 1, by omega, by go_num, K3.out, fun j hj => by
            by_cases e : j = i
            · subst e; exact HZ.out
            · exact HA.out j (by omega)⟩
          case measure => simp [intOf]; omega
        | false =>
          obtain ⟨rfl, rfl⟩ := HP.out i hlt HA.out HZ.out
          go_wp2_with fail
          refine HH.out.mono ?_
          rintro e w3 ⟨rfl, k3⟩
          have K3 := Lib.hid (HK.out.trans k3)
          clear k3
          have hO := Own.made w3 5 n (by omega)
          have hk4 : Keep w3 (w3.alloc (.cells (madeCells #[.int .u8 0] n) 5)) := (Keep.refl w3).obj _
          obtain ⟨g, hg⟩ : ∃ g, w3.heap.size = g := ⟨_, rfl⟩
          rw [hg] at hO
          have HG := Lib.hid hg
          have HO3 := Lib.hid hO
          have HK4 := Lib.hid hk4
          generalize madeCells #[.int .u8 0] n = MC at *
          clear hO hk4 hg
          go_upto_region 10 with fail
          try rw [HG.out]
          have c4 := HO3.out.cell hlt
          have z4 := HO3.out.frozen i
          have o4 := Lib.hid (HO3.out.stored (i := i) (v := 1) (by omega))
          have k4 := Lib.hid (HK4.out.setCell (a := ⟨g, i, none⟩) (by rw [HG.out]; exact Nat.le_refl _) (.int .u8 ((1 : Nat) : Int)))
          generalize w3.alloc (.cells MC 5) = w4 at *
          go_wp2_with fail
          go_ret3
          exact ⟨_, n, n, rfl, o4.out.lower (by rw [← HG.out]; exact K3.out.size), K3.out.trans k4.out⟩
      · obtain rfl : i = n := by omega
        obtain ⟨rfl, rfl⟩ := HN.out hall
        have HK := Lib.hid hk
        clear hk hall
        go_wp2_with fail
        go_ret3
        exact ⟨none, 0, 0, rfl, Own.none_ _ _ _, HK.out⟩
  · have e2 : witB M N = false := by rw [witB, if_neg hf]
    have e3 : witN M N = [] := by rw [witN, e2]; rfl
    have he : sizeE (M ++ N) = 21 := by rw [sizeE, if_neg hf]
    rw [he] at hS ⊢
    rw [e2, e3]
    have HS := Lib.hid hS
    clear hS h k he hf e2 e3
    go_enter Try.func26, Try.ntmps26
    go_wp2_with fail
    refine HS.out.mono ?_
    rintro e w1 ⟨A2, n2, c2, rfl, m2, k2⟩
    have K2 := Lib.hid k2
    clear m2 k2 HS
    go_wp2_with fail
    go_ret3
    exact ⟨none, 0, 0, rfl, Own.none_ _ _ _, K2.out⟩
end
end Go.Proofs.Ytofhdaeeiienfaa
