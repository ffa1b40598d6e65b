/- The walk of FrameSealed. -/
import Derived.Test.YtgkihfemlbhioaaDoorGawk
namespace Go.Proofs.YtgkihfemlbhioaaDoor
open Go.RowKit Fr Crc
set_option linter.unusedVariables false
set_option linter.unusedSimpArgs false
theorem tk_seal_nil : tkE (sealN []) = 5 := by decide +kernel
set_option maxRecDepth 100000 in
set_option maxHeartbeats 16000000 in
theorem sealed_any (n c y z : Nat) (A : Option Addr) (xs : List Nat) (w : World) (hT : TabW w) (h : Bytes w w.heap.size A n xs) (hn : n ≤ 140737488351232) (hc : n ≤ c) (hy : y < 256) (hz : z < 65536) :
    Calls Tryd.prog 5 #[.slice A n c, .int .u8 (y : Int), .int .u16 (z : Int)] w fun e w' => e = .returned (.bool true) ∧ Keep w w' := by
  have HT := Lib.hid hT
  have HB := Lib.hid h
  have HL := Lib.hid h.length
  have HA := Lib.hid h.all
  have HY := Lib.hid hy
  have HC := Lib.hid hc
  clear hT h
  by_cases hl : 69992 < n
  · have y1 : (69992 : Int) < (n : Int) := by omega
    go_enter Tryd.func5, Tryd.ntmps5
    go_wp2_with fail
    refine (gawake_any w HT.out).mono ?_
    rintro e w1 ⟨rfl, k1⟩
    have K1 := Lib.hid k1
    clear k1
    go_wp2_with fail
    go_ret
    exact ⟨rfl, K1.out⟩
  have y1 : ¬ (69992 : Int) < (n : Int) := by omega
  have HN : Hid (n ≤ 69992) := Nat.le_of_not_lt hl
  clear hl
  have EE : tkE (sealN xs) = 0 ∨ tkE (sealN xs) = 5 := by
    rw [tk_seal (by rw [HL.out]; have := HN.out; omega)]
    split
    · exact Or.inl rfl
    · exact Or.inr rfl
  go_enter Tryd.func5, Tryd.ntmps5
  go_wp2_with fail
  refine (cseal_any _ n c A xs _ HT.out HB.out (Nat.le_refl _) hn).mono ?_
  rintro e w1 ⟨P1, n1, c1, rfl, o1, k1⟩
  obtain rfl : n1 = n + 4 := by have e := o1.length; rw [seal_length, HL.out] at e; exact e.symm
  have HTK := Lib.hid (gtake_any w1.heap.size (n + 4) c1 P1 _ w1 (HT.out.keep k1) o1.bytes (Nat.le_refl _) (by have := HN.out; omega) (own_le' o1))
  have K1 := Lib.hid k1
  clear o1 k1
  go_wp2_with fail
  refine HTK.out.mono ?_
  rcases EE with e0 | e5
  rotate_left
  · have E5 := Lib.hid e5
    clear e5 HTK
    rintro e w2 ⟨⟨⟨Ac, nc, cc⟩, ⟨Ap, np, cp⟩, ⟨Ar, nr, cr⟩, ⟨Au, nu, cu⟩, ⟨Ah, nh, ch⟩⟩, rfl, hf2, kf2⟩
    rw [take_err (b := sealN xs) (by rw [E5.out]; decide), E5.out, show (((5 : Nat) : Int)) = 5 from rfl]
    rw [take_err (b := sealN xs) (by rw [E5.out]; decide)] at hf2
    simp only [frCells, noF, show ((0 : Nat) : Int) = 0 from rfl]
    obtain ⟨w3, hw2⟩ : ∃ wx, w2.alloc (.cells #[.int .i64 0, .int .i64 0, .int .i64 0, .int .u64 0, .int .u64 0, .int .i64 0, .int .u64 0, .int .u64 0, .int .u64 0, .slice Ac nc cc, .slice Ap np cp, .slice Ar nr cr, .int .u64 0, .slice Au nu cu, .slice Ah nh ch] 32) = wx := ⟨_, rfl⟩
    obtain ⟨kb2, hbox2⟩ := fr_box w2 32 ⟨⟨Ac, nc, cc⟩, ⟨Ap, np, cp⟩, ⟨Ar, nr, cr⟩, ⟨Au, nu, cu⟩, ⟨Ah, nh, ch⟩⟩ noF (w2 := w3) hw2
    have K2 : Hid (Keep w w3) := (K1.out.trans kf2).trans kb2
    have HW2 := Lib.hid hw2
    obtain ⟨g2, hg2⟩ : ∃ g, w2.heap.size = g := ⟨_, rfl⟩
    rw [hg2] at hbox2
    have HG2 := Lib.hid hg2
    have HF2 := Lib.hid (hf2.later kb2)
    have HBOX := Lib.hid hbox2
    clear hg2
    clear hf2 kf2 kb2 hbox2 hw2
    go_upto_region 5 with fail
    rw [HW2.out, HG2.out]
    have HSM := Lib.hid (fun wx (kx : Keep w3 wx) => gsame_any ⟨⟨Ac, nc, cc⟩, ⟨Ap, np, cp⟩, ⟨Ar, nr, cr⟩, ⟨Au, nu, cu⟩, ⟨Ah, nh, ch⟩⟩ noM noF noF wx (HF2.out.later kx) (FrIn.none_ _ _))
    rw [decide_eq_true (rfl : noF = noF)] at HSM
    simp only [frCells, noF, noM, show ((0 : Nat) : Int) = 0 from rfl] at HSM
    obtain ⟨⟨y0, y1, y2, y3, y4⟩, ⟨y5, y6, y7, y8⟩, ⟨y9, y10, y11⟩, y12, y13, y14⟩ := (HBOX.out w3 (Keep.refl _)).cells
    dsimp only [noF] at y0 y1 y2 y3 y4 y5 y6 y7 y8 y9 y10 y11 y12 y13 y14
    go_wp2_with fail
    refine (HSM.out w3 (Keep.refl _)).mono ?_
    rintro e w5 ⟨rfl, k5⟩
    have K5 : Hid (Keep w w5) := K2.out.trans k5
    clear k5 y0 y1 y2 y3 y4 y5 y6 y7 y8 y9 y10 y11 y12 y13 y14
    go_wp2_with fail
    refine (gawake_any w5 (HT.out.keep K5.out)).mono ?_
    rintro e w9 ⟨rfl, k9⟩
    have KF : Hid (Keep w w9) := K5.out.trans k9
    clear k9
    go_wp2_with fail
    go_ret
    exact ⟨rfl, KF.out⟩
  have E0 := Lib.hid e0
  clear e0 HTK
  have hpos : 0 < n := by
    rcases Nat.eq_zero_or_pos n with h0 | h0
    · have hx : xs = [] := List.eq_nil_of_length_eq_zero (HL.out.trans h0)
      have := E0.out
      rw [hx, tk_seal_nil] at this
      cases this
    · exact h0
  rintro e w2 ⟨⟨⟨Ac, nc, cc⟩, ⟨Ap, np, cp⟩, ⟨Ar, nr, cr⟩, ⟨Au, nu, cu⟩, ⟨Ah, nh, ch⟩⟩, rfl, _, k2⟩
  obtain ⟨V, hV⟩ : ∃ x, tkV (sealN xs) = x := ⟨_, rfl⟩
  rw [hV, E0.out, show (((0 : Nat) : Int)) = 0 from rfl]
  obtain ⟨v0, v1, v2, v3, v4, v5, v6, v7, v8, v9, v10, v11, v12, v13, v14⟩ := V
  clear hV
  simp only [frCells]
  obtain ⟨w3, hw3⟩ : ∃ wx, w2.alloc (.cells #[.int .i64 v0, .int .i64 v1, .int .i64 v2, .int .u64 v3, .int .u64 v4, .int .i64 v5, .int .u64 v6, .int .u64 v7, .int .u64 v8, .slice Ac nc cc, .slice Ap np cp, .slice Ar nr cr, .int .u64 v12, .slice Au nu cu, .slice Ah nh ch] 32) = wx := ⟨_, rfl⟩
  have K3 : Hid (Keep w w3) := by
    show Keep _ _
    rw [← hw3]; exact (K1.out.trans k2).alloc _ _
  have HW3 := Lib.hid hw3
  clear k2 hw3
  have HB3 := Lib.hid (HB.out.keep (Nat.le_refl _) K3.out)
  go_upto_region 6 with fail
  rw [HW3.out]
  go_wp2_with (at_builtin; refine wpList_append_bytes rfl _ _ 23 rfl Tryd.underlying23 info5 rfl (Own.none_ w3 w3.heap.size 5) rfl HB3.out (by omega) (Nat.le_refl _) ?_)
  intro A4 c4 w4 o4 g4 _
  have O4 := Lib.hid o4
  have K4 := Lib.hid ((Keep.refl w3).grown g4 (fun k hk => by cases hk))
  clear o4 g4
  go_wp2_with (at_builtin; refine wpList_append_bytes rfl _ _ 23 rfl Tryd.underlying23 info5 rfl (O4.out.alloc _) rfl (Bytes.one w4 y HY.out 5) (by omega) (by have := K4.out.size; simp; omega) ?_)
  intro A5 c5 w5 o5 g5 _
  have K5 := Lib.hid ((K4.out.alloc _ _).grown g5 O4.out.rowLe)
  have hl5 : n + 1 ≤ 140737488351232 := by have := HN.out; omega
  try simp only [List.nil_append] at o5
  have HS5 := Lib.hid (cseal_any w5.heap.size _ c5 A5 _ w5 (HT.out.keep (K3.out.trans K5.out)) o5.bytes (Nat.le_refl _) (by omega))
  have E6 : Hid (tkE (sealN (xs ++ [y])) = 5) := seal_more HA.out (by intro x hx; simp at hx; have := HY.out; omega) (by simp) (by rw [HL.out]; have := HN.out; simp; omega) E0.out
  clear o5 g5
  go_wp2_with fail
  refine HS5.out.mono ?_
  rintro e w6 ⟨P6, n6, c6, rfl, o6, k6⟩
  have hn6 : n6 = n + 1 + 4 := by have e := o6.length; rw [seal_length, List.length_append, HL.out] at e; exact e.symm
  have HT6 := Lib.hid (gtake_any w6.heap.size n6 c6 P6 _ w6 (HT.out.keep ((K3.out.trans K5.out).trans k6)) o6.bytes (Nat.le_refl _) (by have := HN.out; omega) (own_le' o6))
  have K6 := Lib.hid (K5.out.trans k6)
  clear o6 k6 HS5 hn6
  go_wp2_with fail
  refine HT6.out.mono ?_
  rintro e w7 ⟨⟨⟨Ac, nc, cc⟩, ⟨Ap, np, cp⟩, ⟨Ar, nr, cr⟩, ⟨Au, nu, cu⟩, ⟨Ah, nh, ch⟩⟩, rfl, hf7, kf7⟩
  rw [take_err (b := sealN (xs ++ [y])) (by rw [E6.out]; decide), E6.out, show (((5 : Nat) : Int)) = 5 from rfl]
  rw [take_err (b := sealN (xs ++ [y])) (by rw [E6.out]; decide)] at hf7
  simp only [frCells, noF, show ((0 : Nat) : Int) = 0 from rfl]
  obtain ⟨w8, hw7⟩ : ∃ wx, w7.alloc (.cells #[.int .i64 0, .int .i64 0, .int .i64 0, .int .u64 0, .int .u64 0, .int .i64 0, .int .u64 0, .int .u64 0, .int .u64 0, .slice Ac nc cc, .slice Ap np cp, .slice Ar nr cr, .int .u64 0, .slice Au nu cu, .slice Ah nh ch] 32) = wx := ⟨_, rfl⟩
  obtain ⟨kb7, hbox7⟩ := fr_box w7 32 ⟨⟨Ac, nc, cc⟩, ⟨Ap, np, cp⟩, ⟨Ar, nr, cr⟩, ⟨Au, nu, cu⟩, ⟨Ah, nh, ch⟩⟩ noF (w2 := w8) hw7
  have K7 : Hid (Keep w w8) := ((K3.out.trans K6.out).trans kf7).trans kb7
  have HW7 := Lib.hid hw7
  clear hf7 kf7 kb7 hbox7 hw7
  go_upto_region 7 with fail
  rw [HW7.out]
  obtain ⟨t, ht⟩ : ∃ t, z % n = t := ⟨_, rfl⟩
  have htl : t < n := by rw [← ht]; exact Nat.mod_lt _ hpos
  have e4 : (n : Int) ≠ 0 := by omega
  have e5 : (z : Int) % (n : Int) = (t : Int) := by rw [← ht]; simp
  have e6 : (0 : Int) ≤ (n : Int) := Int.natCast_nonneg _
  have e7 : (0 : Int) ≤ (t : Int) := Int.natCast_nonneg _
  have e8 : (t : Int) ≤ (n : Int) := by omega
  have e9 : (t : Int) ≤ (c : Int) := by omega
  have tm : ((z : Int)).tmod (n : Int) = (t : Int) := by rw [Int.tmod_eq_emod_of_nonneg (by omega)]; exact e5
  have tn : ((t : Int)).toNat = t := Int.toNat_natCast t
  have hB7 := HB.out.keep (Nat.le_refl _) K7.out
  have HS7 := Lib.hid (fun c' => cseal_any w.heap.size t c' A _ w8 (HT.out.keep K7.out) (hB7.cut (m := t) (by omega)) K7.out.size (by omega))
  have E7 : Hid (tkE (sealN (xs.take t)) = 5) := seal_less HA.out (by rw [HL.out]; exact htl) (by rw [HL.out]; have := HN.out; omega) E0.out
  clear ht hB7
  go_wp2_with fail
  refine (HS7.out _).mono ?_
  rintro e w9 ⟨P9, n9, c9, rfl, o9, k9⟩
  have hn9 : n9 = t + 4 := by have e := o9.length; rw [seal_length, List.length_take, HL.out, Nat.min_eq_left (by omega)] at e; exact e.symm
  have HT9 := Lib.hid (gtake_any w9.heap.size n9 c9 P9 _ w9 (HT.out.keep (K7.out.trans k9)) o9.bytes (Nat.le_refl _) (by have := HN.out; omega) (own_le' o9))
  have K9 := Lib.hid (K7.out.trans k9)
  clear o9 k9 HS7 hn9
  go_wp2_with fail
  refine HT9.out.mono ?_
  rintro e w10 ⟨⟨⟨Ac, nc, cc⟩, ⟨Ap, np, cp⟩, ⟨Ar, nr, cr⟩, ⟨Au, nu, cu⟩, ⟨Ah, nh, ch⟩⟩, rfl, hf10, kf10⟩
  rw [take_err (b := sealN (xs.take t)) (by rw [E7.out]; decide), E7.out, show (((5 : Nat) : Int)) = 5 from rfl]
  rw [take_err (b := sealN (xs.take t)) (by rw [E7.out]; decide)] at hf10
  simp only [frCells, noF, show ((0 : Nat) : Int) = 0 from rfl]
  obtain ⟨w11, hw10⟩ : ∃ wx, w10.alloc (.cells #[.int .i64 0, .int .i64 0, .int .i64 0, .int .u64 0, .int .u64 0, .int .i64 0, .int .u64 0, .int .u64 0, .int .u64 0, .slice Ac nc cc, .slice Ap np cp, .slice Ar nr cr, .int .u64 0, .slice Au nu cu, .slice Ah nh ch] 32) = wx := ⟨_, rfl⟩
  obtain ⟨kb10, hbox10⟩ := fr_box w10 32 ⟨⟨Ac, nc, cc⟩, ⟨Ap, np, cp⟩, ⟨Ar, nr, cr⟩, ⟨Au, nu, cu⟩, ⟨Ah, nh, ch⟩⟩ noF (w2 := w11) hw10
  have K10 : Hid (Keep w w11) := (K9.out.trans kf10).trans kb10
  have HW10 := Lib.hid hw10
  clear hf10 kf10 kb10 hbox10 hw10
  go_upto_region 8 with fail
  rw [HW10.out]
  go_wp2_with fail
  refine (gawake_any w11 (HT.out.keep K10.out)).mono ?_
  rintro e w12 ⟨rfl, k12⟩
  have KF : Hid (Keep w w12) := K10.out.trans k12
  clear k12
  go_wp2_with fail
  go_ret
  exact ⟨rfl, KF.out⟩
end Go.Proofs.YtgkihfemlbhioaaDoor
