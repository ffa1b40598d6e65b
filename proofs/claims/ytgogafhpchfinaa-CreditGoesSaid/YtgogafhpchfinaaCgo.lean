/- The walk of CreditGoes. -/
import Derived.Test.YtgogafhpchfinaaQab
namespace Go.Proofs.Ytgogafhpchfinaa
open Go.RowKit
set_option linter.unusedVariables false
set_option linter.unusedSimpArgs false
theorem run_min64 (ts : Array TypeId) (t : TypeId) (a b m : Nat) (h : min a b = m) (w : World) : (Builtin.min_ ts t #[.int .u64 (a : Int), .int .u64 (b : Int)]).run Try.prog w = .ok (.int .u64 (m : Int)) w := by
  rw [run_min_int2]; congr 2; split <;> omega
theorem okL_true {n : Nat} (h : okL n = true) : 1 ≤ n ∧ n ≤ 1125899906842624 := of_decide_eq_true h
theorem takeE_own {own peer life n : Nat} (hl : okL life = true) (ho : own ≤ 1125899906842624) (hn : n ≤ 1125899906842624) (hp : peer ≤ life) : takeE own peer life own n = 0 := by
  unfold takeE; rw [if_neg (by rw [hl]; simp; omega), if_neg (by omega)]
theorem takeE_bad {own peer life to n : Nat} (hl : okL life = false) : takeE own peer life to n = 1 := if_pos (Or.inl hl)
theorem sawE_in {peer life n : Nat} (hl : okL life = true) (hn : n ≤ 1125899906842624) (hp : peer ≤ life) : sawE peer life n = 0 := by
  unfold sawE; rw [if_neg (by rw [hl]; simp; omega), if_neg (by omega)]
theorem grE_in {pl k : Nat} (h : k ≤ pl) : grE pl (k : Int) = 0 := if_neg (by omega)
theorem useU_le {gr us : Nat} : useU gr us ≤ us + 1 ∧ us ≤ useU gr us ∧ (us ≤ gr → useU gr us ≤ gr) := by
  unfold useU; split <;> omega
set_option maxRecDepth 100000 in
set_option maxHeartbeats 8000000 in
theorem cgoes (own peer gr use seen free : Nat) (W : World) (h0 : own < 18446744073709551616) (h1 : peer < 18446744073709551616) (h2 : gr < 18446744073709551616) (h3 : use < 256) (h4 : seen < 18446744073709551616) (h5 : free < 256) :
    Calls Try.prog 5 #[.int .u64 (own : Int), .int .u64 (peer : Int), .int .u64 (gr : Int), .int .u8 (use : Int), .int .u64 (seen : Int), .int .u8 (free : Int)] W fun e w' => e = .returned (.bool true) ∧ Keep W w' := by
  cases hok : okL own with
  | false =>
    go_enter Try.func5, Try.ntmps5
    go_wp2_with fail
    refine (snew_bad own hok _).mono ?_
    rintro e w ⟨rfl, rfl⟩
    go_wp2_with fail
    refine (rnew_in 64 (by decide) (by decide) _).mono ?_
    rintro e w1 ⟨rfl, -, k1⟩
    have K1 := Lib.hid k1
    clear k1
    go_wp2_with fail
    refine (cwakes _).mono ?_
    rintro e w2 ⟨rfl, k2⟩
    have K2 := Lib.hid (K1.out.trans k2)
    clear k2
    go_wp2_with fail
    go_ret
    exact ⟨rfl, K2.out⟩
  | true =>
    have ho := okL_true hok
    -- the first Take
    obtain ⟨E1, hE1⟩ : ∃ E, takeE own 0 1 own gr = E := ⟨_, rfl⟩
    obtain ⟨P1, hP1⟩ : ∃ E, takeP own 0 1 own gr = E := ⟨_, rfl⟩
    obtain ⟨G1, hG1⟩ : ∃ E, takeG own 0 0 1 own gr = E := ⟨_, rfl⟩
    have hP1le : P1 ≤ 1 := by rw [← hP1]; unfold takeP; split <;> omega
    obtain ⟨q, hq⟩ : ∃ q, free % 64 = q := ⟨_, rfl⟩
    obtain ⟨k, hk⟩ : ∃ k, 1 + q = k := ⟨_, rfl⟩
    have d1 : (free : Int) % 64 = (q : Int) := by omega
    have d2 : (free : Int).tmod 64 = (q : Int) := by rw [Int.tmod_eq_emod_of_nonneg (by omega)]; omega
    have d3 : 1 + (q : Int) = (k : Int) := by omega
    have d4 : IntKind.i64.wrap (use : Int) = (use : Int) := IntWalk.i64_in _ (by omega)
    have k1 : 1 ≤ k := by omega
    have k64 : k ≤ 64 := by omega
    have HO := Lib.hid ho
    have HK1 := Lib.hid k1
    have HK64 := Lib.hid k64
    have HP1 := Lib.hid hP1le
    have E1' := Lib.hid hE1
    have P1' := Lib.hid hP1
    have G1' := Lib.hid hG1
    have H3 := Lib.hid h3
    clear hq hk ho k1 k64 hP1le hE1 hP1 hG1 h0 h2 h3
    go_enter Try.func5, Try.ntmps5
    go_wp2_with fail
    refine (snew_in own hok _).mono ?_
    rintro e w0 ⟨rfl, b0, c0⟩
    obtain ⟨s, hs⟩ : ∃ s, W.heap.size = s := ⟨_, rfl⟩
    rw [hs] at b0
    simp only [hs]
    have B0 := Lib.hid b0
    have C0 := Lib.hid c0
    have HS := Lib.hid hs
    clear b0 c0 hs
    go_wp2_with fail
    refine (rnew_in 64 (by decide) (by decide) _).mono ?_
    rintro e v1 ⟨rfl, b1, c1⟩
    obtain ⟨r, hr⟩ : ∃ r, w0.heap.size = r := ⟨_, rfl⟩
    rw [hr] at b1
    simp only [hr]
    have T0 : Hid (Two W v1 s r own 0 0 0 64 0 0 0) := Lib.hid ⟨B0.out.keep c1, b1, (by have := B0.out.lt; omega), Nat.le_of_eq HS.out, (by have := C0.out.size; omega), C0.out.trans c1⟩
    clear b1 c1 hr
    go_wp2_with fail
    refine (two_take T0.out 1 own gr E1'.out P1'.out G1'.out rfl rfl rfl).mono ?_
    rintro e v2 ⟨rfl, t1, -⟩
    have T1 := Lib.hid t1
    clear t1
    go_wp2_with fail
    go_loopw [17] (fun iv wr => ∃ i u : Nat, i ≤ use ∧ iv = .int .i64 i ∧ u ≤ i ∧ Two W wr s r own P1 G1 u 64 0 0 0) (fun iv _ => use - (intOf iv).toNat)
    case atStart => exact ⟨0, 0, by omega, rfl, by omega, T1.out⟩
    case round =>
      obtain ⟨i, u, hi, rfl, hu, ht⟩ := hrel
      have HT := Lib.hid ht
      have HU := Lib.hid hu
      clear ht hu T1
      by_cases hlt : i < use
      · have g1 : (i : Int) < (use : Int) := by omega
        have hn : use ≤ 1000 := by have := H3.out; omega
        go_wp2_with fail
        refine (two_use HT.out rfl rfl rfl).mono ?_
        rintro e v3 ⟨rfl, t2, -⟩
        have T2 := Lib.hid t2
        clear t2
        go_wp2_with fail
        go_round
        case rel => exact ⟨i + 1, useU G1 u, by omega, by go_num, (by have := HU.out; have := (useU_le (gr := G1) (us := u)).1; omega), T2.out⟩
        case measure => simp [intOf]; omega
      · obtain rfl : i = use := by omega
        have hu2 : u ≤ 255 := by have := H3.out; have := HU.out; omega
        obtain ⟨m, hm⟩ : ∃ m, min seen u = m := ⟨_, rfl⟩
        have hmn := run_min64 #[22, 22] 22 seen u m hm
        have hmu : m ≤ u := by omega
        have e1 : sawE 0 own m = 0 := sawE_in hok (by omega) (by omega)
        have e2 : sawP 0 own m = own := by rw [sawP, e1, if_pos rfl]
        have e3 : sawG 0 0 own m = 0 := by unfold sawG; split <;> rfl
        have e4 : sawS 0 0 own m = m := by unfold sawS; rw [e1, if_pos rfl, if_pos (by have := HO.out; omega)]
        have e5 : sawE own own u = 0 := sawE_in hok (by omega) (by omega)
        have e6 : sawP own own u = own := by rw [sawP, e5, if_pos rfl]
        have e7 : sawG own 0 own u = 0 := by unfold sawG; split <;> rfl
        have e8 : sawS own m own u = u := by unfold sawS; rw [e5, if_pos rfl, if_neg (by omega)]; omega
        obtain ⟨V, hV⟩ : ∃ V, u + k = V := ⟨_, rfl⟩
        have e9 : grE 64 (k : Int) = 0 := grE_in HK64.out
        have e10 : grG 64 0 u (k : Int) = V := by unfold grG; rw [e9, if_pos rfl]; have := HK64.out; omega
        have e11 : grV 64 0 u (k : Int) = V := by rw [grV, e9, if_pos rfl, e10]
        have E1 := Lib.hid e1
        have E2 := Lib.hid e2
        have E3 := Lib.hid e3
        have E4 := Lib.hid e4
        have E5 := Lib.hid e5
        have E6 := Lib.hid e6
        have E7 := Lib.hid e7
        have E8 := Lib.hid e8
        have E9 := Lib.hid e9
        have E10 := Lib.hid e10
        have E11 := Lib.hid e11
        have HV := Lib.hid hV
        have HU2 := Lib.hid hu2
        clear e1 e2 e3 e4 e5 e6 e7 e8 e9 e10 e11 hV hu2 hm hmu
        go_wp2_with fail
        refine (ssent HT.out.sen).mono ?_
        rintro e v ⟨rfl, rfl⟩
        go_wp2_with fail
        refine (two_saw HT.out own m E1.out E2.out E3.out E4.out rfl rfl).mono ?_
        rintro e v4 ⟨rfl, t2, -⟩
        have T2 := Lib.hid t2
        clear t2 HT
        go_wp2_with fail
        refine (ssent T2.out.sen).mono ?_
        rintro e v ⟨rfl, rfl⟩
        go_wp2_with fail
        refine (two_saw T2.out own u E5.out E6.out E7.out E8.out rfl rfl).mono ?_
        rintro e v5 ⟨rfl, t3, -⟩
        have T3 := Lib.hid t3
        clear t3 T2
        go_wp2_with fail
        refine (rseen T3.out.rcv).mono ?_
        rintro e v ⟨rfl, rfl⟩
        go_wp2_with fail
        refine (ssent T3.out.sen).mono ?_
        rintro e v ⟨rfl, rfl⟩
        go_wp2_with fail
        refine (two_grant T3.out (k : Int) E9.out E11.out E10.out).mono ?_
        rintro e v6 ⟨rfl, t4, -⟩
        have T4 := Lib.hid t4
        clear t4 T3
        cases hp : okL peer with
        | true =>
          have hpl := okL_true hp
          have f1 : takeE own P1 peer own V = 0 := takeE_own hp HO.out.2 (by have := HU2.out; have := HK64.out; have := HV.out; omega) (by have := HP1.out; omega)
          obtain ⟨G2, hG2⟩ : ∃ G, takeG own P1 G1 peer own V = G := ⟨_, rfl⟩
          have f2 : decide (u < G2) = true := decide_eq_true (by
            rw [← hG2]; unfold takeG; have := HK1.out; have := HV.out
            split
            · omega
            · rename_i hh; have : ¬ (P1 < peer ∨ G1 < V) := fun h => hh ⟨f1, h⟩; omega)
          have z1 : decide ((1 : Int) ≤ (peer : Int)) = true := decide_eq_true (by omega)
          have z2 : decide ((peer : Int) ≤ 1125899906842624) = true := decide_eq_true (by omega)
          have F1 := Lib.hid f1
          have F2 := Lib.hid f2
          have HG2 := Lib.hid hG2
          clear f1 f2 hG2 hpl
          go_wp2_with fail
          refine (two_take T4.out peer own V F1.out rfl HG2.out rfl rfl rfl).mono ?_
          rintro e v7 ⟨rfl, t5, -⟩
          have T5 := Lib.hid t5
          clear t5 T4
          go_wp2_with fail
          refine (two_may T5.out F2.out).mono ?_
          rintro e v ⟨rfl, rfl⟩
          go_wp2_with fail
          refine (cwakes _).mono ?_
          rintro e v8 ⟨rfl, k8⟩
          have K8 := Lib.hid (T5.out.kp.trans k8)
          clear k8
          go_wp2_with fail
          go_ret
          exact ⟨rfl, K8.out⟩
        | false =>
          have f1 : takeE own P1 peer own V = 1 := takeE_bad hp
          have F1 := Lib.hid f1
          have hnot : ¬ (1 ≤ peer ∧ peer ≤ 1125899906842624) := of_decide_eq_false hp
          by_cases hp1 : 1 ≤ peer
          · have z1 : decide ((1 : Int) ≤ (peer : Int)) = true := decide_eq_true (by omega)
            have z2 : decide ((peer : Int) ≤ 1125899906842624) = false := decide_eq_false (by omega)
            clear f1 hnot hp1
            go_wp2_with fail
            refine (two_take T4.out peer own V F1.out rfl rfl rfl rfl rfl).mono ?_
            rintro e v7 ⟨rfl, t5, -⟩
            have T5 := Lib.hid t5
            clear t5 T4
            go_wp2_with fail
            refine (cwakes _).mono ?_
            rintro e v8 ⟨rfl, k8⟩
            have K8 := Lib.hid (T5.out.kp.trans k8)
            clear k8
            go_wp2_with fail
            go_ret
            exact ⟨rfl, K8.out⟩
          · have z1 : decide ((1 : Int) ≤ (peer : Int)) = false := decide_eq_false (by omega)
            clear f1 hnot hp1
            go_wp2_with fail
            refine (two_take T4.out peer own V F1.out rfl rfl rfl rfl rfl).mono ?_
            rintro e v7 ⟨rfl, t5, -⟩
            have T5 := Lib.hid t5
            clear t5 T4
            go_wp2_with fail
            refine (cwakes _).mono ?_
            rintro e v8 ⟨rfl, k8⟩
            have K8 := Lib.hid (T5.out.kp.trans k8)
            clear k8
            go_wp2_with fail
            go_ret
            exact ⟨rfl, K8.out⟩
end Go.Proofs.Ytgogafhpchfinaa
