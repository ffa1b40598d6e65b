/- PadBack: a chunk goes as symbols and comes back; symbols that are a chunk's are its. -/
import Derived.Test.YtbmfjikkmkmgeaaPf1
namespace Go.Proofs.Ytbmfjikkmkmgeaa
open Go.RowKit
set_option linter.unusedVariables false
set_option linter.unusedSimpArgs false
theorem tk_in {G S : Nat} (h : MayG (G : Int) (S : Int)) (R : List (List Nat)) : tkE (G : Int) (S : Int) R = takeE G S R ∧ tkV (G : Int) (S : Int) R = takeV G S R := by
  rw [tkE, tkV, if_neg (not_not_intro h), if_neg (not_not_intro h), Int.toNat_natCast, Int.toNat_natCast]; exact ⟨rfl, rfl⟩
theorem lay_in {G S P : Nat} (h : MayG (G : Int) (S : Int)) (hP : (G : Int) * (S : Int) = (P : Int)) {xs : List Nat} (h1 : 1 ≤ xs.length) (h2 : xs.length + 4 ≤ P) : layE (G : Int) (S : Int) xs = 0 ∧ layR (G : Int) (S : Int) xs = layN G S xs := by
  have e : layE (G : Int) (S : Int) xs = 0 := by rw [layE, if_neg (not_not_intro h), if_neg (by omega), if_neg (by rw [hP]; omega)]
  exact ⟨e, by rw [layR, e, if_pos rfl, Int.toNat_natCast, Int.toNat_natCast]⟩
theorem take_none {G S : Nat} {R : List (List Nat)} (h : takeE G S R ≠ 0) : takeV G S R = [] := by rw [takeV, if_neg h]
theorem layN_len {G S P : Nat} {xs : List Nat} (hP : G * S = P) (h : xs.length + 4 ≤ P) : ∀ r ∈ layN G S xs, r.length = S := fun r hr => by
  obtain ⟨i, hi, rfl⟩ := List.mem_map.1 hr
  exact cutN_len (allN_len (by rw [hP]; exact h)) (List.mem_range.1 hi)
set_option maxRecDepth 100000 in
set_option maxHeartbeats 8000000 in
theorem padback_any (g0 s0 : Int) (n0 c0 n1 c1 : Nat) (A0 A1 : Option Addr) (xs : List Nat) (rs : List RowV) (W : World) (b0 : Bytes W W.heap.size A0 n0 xs) (b1 : RowsAt W W.heap.size A1 n1 rs) (l0 : n0 ≤ 140737488351232) (q0 : n0 ≤ c0) (l1 : n1 ≤ 140737488351232) (q1 : n1 ≤ c1) :
    Calls Try.prog 5 #[.int .i64 g0, .int .i64 s0, .agg #[.slice A0 n0 c0, .slice A1 n1 c1]] W fun e w' => e = .returned (.bool true) ∧ Keep W w' := by
  obtain ⟨k1, hk1⟩ : ∃ k, min n1 50 = k := ⟨_, rfl⟩
  have hmin1 := run_least n1 50 k1 50 rfl hk1
  have hhead1 := head_rows k1 n1 c1 A1 (by omega)
  have hkb : k1 ≤ 50 := by omega
  obtain ⟨g, hg⟩ : ∃ g, sizeV 255 g0 = g := ⟨_, rfl⟩
  obtain ⟨s, hs⟩ : ∃ s, sizeV 65535 s0 = s := ⟨_, rfl⟩
  have HS0 : ∀ w, Calls Try.prog 9 #[.int .i64 g0, .int .i64 s0] w fun e w' => e = .returned (.tuple #[.int .i64 g, .int .i64 s]) ∧ w = w' := fun w => by rw [← hg, ← hs]; exact sizes_any g0 s0 w
  have HSZ := Lib.hid HS0
  clear HS0
  obtain ⟨gX, hgX⟩ : ∃ gX, W.heap.size = gX := ⟨_, rfl⟩
  obtain ⟨w0, hw0⟩ : ∃ w0, W.alloc (.cells #[.slice A0 n0 c0, .slice A1 n1 c1] 25) = w0 := ⟨_, rfl⟩
  have p0 : Pair2 w0 gX (.slice A0 n0 c0) (.slice A1 n1 c1) 25 := by rw [← hw0, ← hgX]; exact Pair2.new W _ _ _
  have K0 : Hid (Keep W w0) := by show Keep _ _; rw [← hw0]; exact (Keep.refl W).ob _
  have P0 := Lib.hid p0
  have B0 := Lib.hid b0
  obtain ⟨rt, hrt⟩ : ∃ rt, rs.take k1 = rt := ⟨_, rfl⟩
  have B1 : Hid (RowsAt W W.heap.size A1 k1 rt) := by show RowsAt _ _ _ _ _; rw [← hrt]; exact b1.head (by omega)
  have HGX := Lib.hid hgX
  have x0 := p0.cell0
  have x1 := p0.cell1
  have x2 := p0.free 1
  clear p0 b0 b1 hg hs hk1 hrt
  go_enter Try.func5, Try.ntmps5
  go_wp2_with fail
  refine (HSZ.out _).mono ?_
  rintro e w2 ⟨rfl, rfl⟩
  go_wp2_with fail
  by_cases hM : MayG g s
  · obtain ⟨G, S, P, rfl, rfl, a1, a2, a3, a4, a5, a6, a7, a8⟩ := hM.nat
    have HM := Lib.hid hM
    obtain ⟨k, hk⟩ : ∃ k, min n0 (P - 4) = k := ⟨_, rfl⟩
    have hmin0 := run_least n0 (P - 4) k ((P - 4 : Nat) : Int) rfl hk
    have hhead0 := head_bytes k n0 c0 A0 (by omega)
    have hkn : k ≤ n0 := by omega
    have hkP : k + 4 ≤ P := by omega
    obtain ⟨ch, hch⟩ : ∃ ch, xs.take k = ch := ⟨_, rfl⟩
    have BC : Hid (Bytes W W.heap.size A0 k ch) := by show Bytes _ _ _ _ _; rw [← hch]; exact B0.out.cut hkn
    have HCL : Hid (ch.length = k) := BC.out.length
    refine (proom_in G S P a1 a2 a3 a4 a8 a6 a7 w0).mono ?_
    rintro e w2 ⟨rfl, rfl⟩
    clear hM hk hch
    by_cases hk0 : k = 0
    · subst hk0
      go_wp2_with fail
      obtain ⟨wT, hwT⟩ : ∃ wT, w0.setCell ⟨gX, 1, none⟩ (.slice A1 k1 c1) = wT := ⟨_, rfl⟩
      have PT : Hid (Pair2 wT gX (.slice A0 n0 c0) (.slice A1 k1 c1) 25) := by show Pair2 _ _ _ _ _; rw [← hwT]; exact P0.out.put1
      have KT : Hid (Keep W wT) := by show Keep _ _; rw [← hwT]; exact K0.out.setCell (by rw [HGX.out]; exact Nat.le_refl _) _
      rw [hwT]
      have z1 := PT.out.cell1
      have RT := Lib.hid (B1.out.upon KT.out)
      have hT2 := ptake_any (G : Int) (S : Int) A1 k1 c1 rt wT RT.out
      rw [(tk_in HM.out _).1, (tk_in HM.out _).2] at hT2
      obtain ⟨V, hV⟩ : ∃ V, takeV G S (rowsOf rt) = V := ⟨_, rfl⟩
      obtain ⟨te, hte⟩ : ∃ te, takeE G S (rowsOf rt) = te := ⟨_, rfl⟩
      rw [hV, hte] at hT2
      have HT2 := Lib.hid hT2
      have HV := Lib.hid hV
      have HTE := Lib.hid hte
      clear hT2 hV hte hwT x0 x1 x2
      go_wp2_with fail
      refine HT2.out.mono ?_
      rintro e w8 ⟨A8, n8, c8, rfl, o8, k8⟩
      have hn8 : V.length = n8 := o8.length
      have B8 := Lib.hid o8.bytes
      have K8 := Lib.hid k8
      have P8 := Lib.hid (PT.out.keep k8)
      have z8 := P8.out.cell1
      clear o8 k8 z1
      by_cases h0 : te = 0
      · subst h0
        have hlt := lay_take (g := G) (s := S) (R := rowsOf rt) (fun r hr => by
          obtain ⟨r', hr', rfl⟩ := List.mem_map.1 hr
          exact (RT.out.2.1 r' hr').1.2.1) (by rw [a5]; exact a6) HTE.out
        rw [HV.out] at hlt
        have hl := lay_in (P := P) HM.out a8 (xs := V) hlt.1 (by rw [← a5]; exact hlt.2.1)
        have hL2 := play_any (G : Int) (S : Int) A8 n8 c8 V w8 B8.out
        rw [hl.1, hl.2, hlt.2.2] at hL2
        have HL2 := Lib.hid hL2
        clear hL2 hl hlt
        go_wp2_with fail
        refine HL2.out.mono ?_
        rintro e w9 ⟨A9, n9, c9, rfl, ⟨rs9, hr9, hc9, hx9⟩, _, hn9, k9⟩
        have R9 := Lib.hid hr9
        have X9 := Lib.hid hx9
        have K9 := Lib.hid k9
        clear hr9 hx9 k9 z8
        go_wp2_with fail
        refine (awake_any w9).mono ?_
        rintro e w10 ⟨rfl, k10⟩
        have kTX : Keep wT w10 := K8.out.trans (K9.out.trans k10)
        have z10 := (PT.out.keep kTX).cell1
        have hS := rsame_any n9 k1 c9 c1 A9 A1 _ _ rs9 rt w10 (R9.out.turned (Turned.of_keep (F := fun _ => False) k10) fun _ _ e => e) (RT.out.upon kTX).rowsIn (fun b hb => Nat.lt_of_lt_of_le hb.2 k10.size) (fun b hb => hb) (by omega)
        rw [X9.out, ← rowsOf_xs, decide_eq_true rfl] at hS
        have HS := Lib.hid hS
        have K10 := Lib.hid (KT.out.trans kTX)
        clear hS kTX k10
        go_wp2_with fail
        refine HS.out.mono ?_
        rintro e w11 ⟨rfl, q11, rfl⟩
        have K11 := Lib.hid (K10.out.drewN q11)
        go_wp2_with fail
        go_ret
        exact ⟨rfl, K11.out⟩
      · have hV0 : V = [] := by rw [← HV.out]; exact take_none (by rw [HTE.out]; exact h0)
        obtain rfl : n8 = 0 := by rw [← hn8, hV0]; rfl
        have d0 : (te == 0) = false := beq_eq_false_iff_ne.2 h0
        go_wp2_with fail
        refine (awake_any w8).mono ?_
        rintro e w10 ⟨rfl, k10⟩
        have K10 := Lib.hid (KT.out.trans (K8.out.trans k10))
        clear k10
        go_wp2_with fail
        go_ret
        exact ⟨rfl, K10.out⟩
    · have e1 : (0 : Int) < (k : Int) := by omega
      have e1' : decide ((0 : Int) < (k : Int)) = true := decide_eq_true e1
      have hL := play_any (G : Int) (S : Int) A0 k c0 ch w0 (BC.out.up K0.out)
      have hl := lay_in (P := P) HM.out a8 (xs := ch) (by rw [HCL.out]; omega) (by rw [HCL.out]; exact hkP)
      rw [hl.1, hl.2] at hL
      have HL := Lib.hid hL
      clear hL hl
      go_wp2_with fail
      refine HL.out.mono ?_
      rintro e w3 ⟨A3, n3, c3, rfl, ⟨rs3, hr3, hc3, hx3⟩, _, _, k3⟩
      obtain rfl : G = n3 := by
        have h1 := hr3.1
        have e : (rowsXs rs3).length = G := by rw [hx3, layN, cutsN_len]
        rw [rowsXs, List.length_map] at e
        omega
      have hlen : ∀ x ∈ rowsXs rs3, x.length = S := by rw [hx3]; exact layN_len a5 (by rw [HCL.out]; exact hkP)
      have R3 := Lib.hid (hr3.rowsAt (fun b hb => hb.2) (fun x hx => by rw [hlen x hx]; omega))
      have K3 : Hid (Keep W w3) := K0.out.trans k3
      have P3 := Lib.hid (P0.out.keep k3)
      have HN3 : Hid (∀ r ∈ rs3, r.n = S) := fun r hr => by
        rw [← (hr3.2.1 r hr).1]
        exact hlen r.xs (List.mem_map.2 ⟨r, hr, rfl⟩)
      have hT := ptake_any (G : Int) (S : Int) A3 G c3 rs3 w3 R3.out
      have ht := take_lay (g := G) (s := S) (xs := ch) (by rw [HCL.out]; omega) (by rw [HCL.out, a5]; exact hkP) (by omega)
      rw [rowsOf_xs, hx3, (tk_in HM.out _).1, (tk_in HM.out _).2, ht.1, ht.2] at hT
      have HT := Lib.hid hT
      clear hr3 hx3 hlen k3 hT ht HL x0 x1 x2
      go_wp2_with fail
      refine HT.out.mono ?_
      rintro e w4 ⟨A4, n4, c4, rfl, o4, k4⟩
      have K4 : Hid (Keep W w4) := K3.out.trans k4
      have P4 := Lib.hid (P3.out.keep k4)
      have R4 := Lib.hid (R3.out.upon k4)
      have HE := Lib.hid (equal_any _ _ n4 k c4 c0 A4 A0 ch ch w4 o4.bytes (BC.out.up K4.out))
      rw [decide_eq_true rfl] at HE
      have x0 := P4.out.cell0
      have x1 := P4.out.cell1
      have x2 := P4.out.free 1
      clear o4 k4 HT
      go_wp2_with fail
      refine HE.out.mono ?_
      rintro e w5 ⟨rfl, rfl⟩
      go_wp2_with fail
      go_loop [94] (fun iv => ∃ i : Nat, i ≤ G ∧ iv = .int .i64 i) (fun iv => G - (intOf iv).toNat)
      case atStart => exact ⟨0, by omega, rfl⟩
      case round =>
        obtain ⟨i, hi, rfl⟩ := hrel
        have f1 : (0 : Int) ≤ (i : Int) := Int.natCast_nonneg _
        by_cases hlt : i < G
        · have f2 : (i : Int) < (G : Int) := by omega
          obtain ⟨bI, off, r, rfl, hb, hr, hc, hby, _, _⟩ := R4.out.at_ hlt
          have hn := HN3.out r (List.mem_of_getElem? hr)
          rw [hn] at hc
          clear hb hr hby
          go_wp2_with fail
          go_round
          case rel => exact ⟨i + 1, by omega, by go_num⟩
          case measure => simp [intOf]; omega
        · obtain rfl : i = G := by omega
          go_wp2_with fail
          obtain ⟨wT, hwT⟩ : ∃ wT, w4.setCell ⟨gX, 1, none⟩ (.slice A1 k1 c1) = wT := ⟨_, rfl⟩
          have PT : Hid (Pair2 wT gX (.slice A0 n0 c0) (.slice A1 k1 c1) 25) := by show Pair2 _ _ _ _ _; rw [← hwT]; exact P4.out.put1
          have KT : Hid (Keep W wT) := by show Keep _ _; rw [← hwT]; exact K4.out.setCell (by rw [HGX.out]; exact Nat.le_refl _) _
          rw [hwT]
          have z1 := PT.out.cell1
          have RT := Lib.hid (B1.out.upon KT.out)
          have hT2 := ptake_any (i : Int) (S : Int) A1 k1 c1 rt wT RT.out
          rw [(tk_in HM.out _).1, (tk_in HM.out _).2] at hT2
          obtain ⟨V, hV⟩ : ∃ V, takeV i S (rowsOf rt) = V := ⟨_, rfl⟩
          obtain ⟨te, hte⟩ : ∃ te, takeE i S (rowsOf rt) = te := ⟨_, rfl⟩
          rw [hV, hte] at hT2
          have HT2 := Lib.hid hT2
          have HV := Lib.hid hV
          have HTE := Lib.hid hte
          clear hT2 hV hte hwT x0 x1 x2
          go_wp2_with fail
          refine HT2.out.mono ?_
          rintro e w8 ⟨A8, n8, c8, rfl, o8, k8⟩
          have hn8 : V.length = n8 := o8.length
          have B8 := Lib.hid o8.bytes
          have K8 := Lib.hid k8
          have P8 := Lib.hid (PT.out.keep k8)
          have z8 := P8.out.cell1
          clear o8 k8 z1
          by_cases h0 : te = 0
          · subst h0
            have hlt := lay_take (g := i) (s := S) (R := rowsOf rt) (fun r hr => by
              obtain ⟨r', hr', rfl⟩ := List.mem_map.1 hr
              exact (RT.out.2.1 r' hr').1.2.1) (by rw [a5]; exact a6) HTE.out
            rw [HV.out] at hlt
            have hl := lay_in (P := P) HM.out a8 (xs := V) hlt.1 (by rw [← a5]; exact hlt.2.1)
            have hL2 := play_any (i : Int) (S : Int) A8 n8 c8 V w8 B8.out
            rw [hl.1, hl.2, hlt.2.2] at hL2
            have HL2 := Lib.hid hL2
            clear hL2 hl hlt
            go_wp2_with fail
            refine HL2.out.mono ?_
            rintro e w9 ⟨A9, n9, c9, rfl, ⟨rs9, hr9, hc9, hx9⟩, _, hn9, k9⟩
            have R9 := Lib.hid hr9
            have X9 := Lib.hid hx9
            have K9 := Lib.hid k9
            clear hr9 hx9 k9 z8
            go_wp2_with fail
            refine (awake_any w9).mono ?_
            rintro e w10 ⟨rfl, k10⟩
            have kTX : Keep wT w10 := K8.out.trans (K9.out.trans k10)
            have z10 := (PT.out.keep kTX).cell1
            have hS := rsame_any n9 k1 c9 c1 A9 A1 _ _ rs9 rt w10 (R9.out.turned (Turned.of_keep (F := fun _ => False) k10) fun _ _ e => e) (RT.out.upon kTX).rowsIn (fun b hb => Nat.lt_of_lt_of_le hb.2 k10.size) (fun b hb => hb) (by omega)
            rw [X9.out, ← rowsOf_xs, decide_eq_true rfl] at hS
            have HS := Lib.hid hS
            have K10 := Lib.hid (KT.out.trans kTX)
            clear hS kTX k10
            go_wp2_with fail
            refine HS.out.mono ?_
            rintro e w11 ⟨rfl, q11, rfl⟩
            have K11 := Lib.hid (K10.out.drewN q11)
            go_wp2_with fail
            go_ret
            exact ⟨rfl, K11.out⟩
          · have hV0 : V = [] := by rw [← HV.out]; exact take_none (by rw [HTE.out]; exact h0)
            obtain rfl : n8 = 0 := by rw [← hn8, hV0]; rfl
            have d0 : (te == 0) = false := beq_eq_false_iff_ne.2 h0
            go_wp2_with fail
            refine (awake_any w8).mono ?_
            rintro e w10 ⟨rfl, k10⟩
            have K10 := Lib.hid (KT.out.trans (K8.out.trans k10))
            clear k10
            go_wp2_with fail
            go_ret
            exact ⟨rfl, K10.out⟩
  · refine (proom_out g s hM w0).mono ?_
    rintro e w2 ⟨rfl, rfl⟩
    go_wp2_with fail
    refine (play_out g s hM A0 n0 c0 w0).mono ?_
    rintro e w2 ⟨rfl, rfl⟩
    go_wp2_with fail
    refine (awake_any w0).mono ?_
    rintro e w3 ⟨rfl, k3⟩
    have K3 := Lib.hid (K0.out.trans k3)
    clear k3
    go_wp2_with fail
    go_ret
    exact ⟨rfl, K3.out⟩
end Go.Proofs.Ytbmfjikkmkmgeaa
