/- The walk of CreditRises. -/
import Derived.Test.YtgogafhpchfinaaQab
import Derived.Test.YtgogafhpchfinaaQaa
import Derived.Laws.BitsAllLaws
namespace Go.Proofs.Ytgogafhpchfinaa
open Go.RowKit
set_option linter.unusedVariables false
set_option linter.unusedSimpArgs false
theorem UsIn.one {w : World} {A : Option Addr} {n i : Nat} {l : List Nat} (h : UsIn w (fun _ => True) A n l) (hi : i < n) :
    ∃ (b off x : Nat), A = some ⟨b, off, none⟩ ∧ b < w.heap.size ∧ (∀ wx, Keep w wx → wx.cell? ⟨b, off + i, none⟩ = some (.int .u64 (x : Int))) ∧ l[i]? = some x := by
  obtain ⟨b, off, rfl, _, hb, hc⟩ := h.2 (by omega)
  have hl := List.getElem?_eq_getElem (l := l) (i := i) (by rw [h.1]; exact hi)
  exact ⟨b, off, _, rfl, hb, fun wx kx => (Below.cell (B := w.heap.size) kx (show b < w.heap.size by omega)).trans (hc i _ hl), hl⟩
theorem and_low (x k m : Nat) (hx : x < 18446744073709551616) (hm : m = 2 ^ k) (h2 : m ≤ 18446744073709551616) (h1 : 1 ≤ m) {t : Nat} (ht : x % m = t) : bits .and .u64 (x : Int) ((m - 1 : Nat) : Int) = (t : Int) := by
  rw [u64_and_nat x (m - 1) hx (by omega), hm, Nat.and_two_pow_sub_one_eq_mod, ← hm, ht]
/-- What holds between two rounds. -/
structure RiseI (sp sg su rp rg rs last : Nat) : Prop where
  a : (sp = 0 ∧ sg = 0) ∨ sp = 3
  b : (rp = 0 ∧ rs = 0 ∧ rg = 0) ∨ rp = 7
  c : last = rg
  d : su ≤ sg
theorem RiseI.take {sp sg su rp rg rs last x : Nat} (h : RiseI sp sg su rp rg rs last) (hx : x < 64) : takeE 7 sp 3 7 x = 0 ∧ takeP 7 sp 3 7 x = 3 ∧ sg ≤ takeG 7 sp sg 3 7 x := by
  have e : takeE 7 sp 3 7 x = 0 := takeE_own (by decide) (by decide) (by omega) (by have := h.a; omega)
  refine ⟨e, by rw [takeP, e, if_pos rfl], ?_⟩
  unfold takeG
  have := h.a
  split
  · rename_i hh; have := hh.2; omega
  · omega
theorem RiseI.saw {sp sg su rp rg rs last x : Nat} (h : RiseI sp sg su rp rg rs last) (hx : x < 128) : sawE rp 7 x = 0 ∧ sawP rp 7 x = 7 ∧ sawG rp rg 7 x = rg ∧ rs ≤ sawS rp rs 7 x ∧ sawS rp rs 7 x ≤ max x rs := by
  have e : sawE rp 7 x = 0 := sawE_in (by decide) (by omega) (by have := h.b; omega)
  have hb := h.b
  refine ⟨e, by rw [sawP, e, if_pos rfl], ?_, ?_, ?_⟩
  · unfold sawG; split
    · rename_i hh; have := hh.2; omega
    · rfl
  · unfold sawS; rw [e, if_pos rfl]; split <;> omega
  · unfold sawS; rw [e, if_pos rfl]; split <;> omega
set_option maxRecDepth 100000 in
set_option maxHeartbeats 8000000 in
theorem crises (n c : Nat) (A : Option Addr) (l : List Nat) (W : World) (hb : UsIn W (fun _ => True) A n l) (hn : n ≤ 140737488351232) (hz : ∀ z ∈ l, z < 18446744073709551616) :
    Calls Try.prog 6 #[.slice A n c] W fun e w' => e = .returned (.bool true) ∧ Keep W w' := by
  have HB := Lib.hid hb
  have HZ := Lib.hid hz
  have HN := Lib.hid hn
  clear hb hz hn
  go_enter Try.func6, Try.ntmps6
  go_wp2_with fail
  refine (snew_in 7 (by decide) _).mono ?_
  rintro e w0 ⟨rfl, b0, c0⟩
  obtain ⟨s, hs⟩ : ∃ s, W.heap.size = s := ⟨_, rfl⟩
  rw [hs] at b0
  simp only [hs]
  have B0 := Lib.hid b0
  have C0 := Lib.hid c0
  have HS := Lib.hid hs
  clear b0 c0 hs
  go_wp2_with fail
  refine (rnew_in 16 (by decide) (by decide) _).mono ?_
  rintro e v1 ⟨rfl, b1, c1⟩
  obtain ⟨r, hr⟩ : ∃ r, w0.heap.size = r := ⟨_, rfl⟩
  rw [hr] at b1
  simp only [hr]
  have T0 : Hid (Two W v1 s r 7 0 0 0 16 0 0 0) := Lib.hid ⟨B0.out.keep c1, b1, (by have := B0.out.lt; omega), Nat.le_of_eq HS.out, (by have := C0.out.size; omega), C0.out.trans c1⟩
  clear b1 c1 hr
  go_wp2_with fail
  go_loopw [7, 8] (fun lv iv wr => ∃ i last sp sg su rp rg rs : Nat, i ≤ n ∧ i ≤ 100 ∧ lv = .int .u64 last ∧ iv = .int .i64 i ∧ Two W wr s r 7 sp sg su 16 rp rg rs ∧ RiseI sp sg su rp rg rs last) (fun lv iv _ => 100 - (intOf iv).toNat)
  case atStart => exact ⟨0, 0, 0, 0, 0, 0, 0, 0, by omega, by omega, rfl, rfl, T0.out, ⟨Or.inl ⟨rfl, rfl⟩, Or.inl ⟨rfl, rfl, rfl⟩, rfl, by omega⟩⟩
  case round =>
    obtain ⟨i, last, sp, sg, su, rp, rg, rs, hi, hi2, rfl, rfl, ht, hr⟩ := hrel
    have HT := Lib.hid ht
    have HR := Lib.hid hr
    have HI := Lib.hid hi
    clear ht hr hi T0
    by_cases hlt : i < n
    · have g1 : decide ((i : Int) < (n : Int)) = true := decide_eq_true (by omega)
      by_cases hlt2 : i < 100
      · have g2 : decide ((i : Int) < 100) = true := decide_eq_true (by omega)
        obtain ⟨b, off, x, rfl, hbl, hcell, hx⟩ := HB.out.one hlt
        have hxl := HZ.out x (List.mem_of_getElem? hx)
        have g3 : (i : Int) < (n : Int) := by omega
        have g0 : (0 : Int) ≤ (i : Int) := Int.natCast_nonneg _
        obtain ⟨x1, hx1⟩ : ∃ t, x % 64 = t := ⟨_, rfl⟩
        obtain ⟨x2, hx2⟩ : ∃ t, x % 128 = t := ⟨_, rfl⟩
        obtain ⟨x3, hx3⟩ : ∃ t, x % 16 = t := ⟨_, rfl⟩
        have a1 : bits .and .u64 (x : Int) 63 = (x1 : Int) := and_low x 6 64 hxl (by decide) (by decide) (by decide) hx1
        have a2 : bits .and .u64 (x : Int) 127 = (x2 : Int) := and_low x 7 128 hxl (by decide) (by decide) (by decide) hx2
        have a3 : bits .and .u64 (x : Int) 15 = (x3 : Int) := and_low x 4 16 hxl (by decide) (by decide) (by decide) hx3
        have l1 : x1 < 64 := by omega
        have l2 : x2 < 128 := by omega
        have l3 : x3 ≤ 15 := by omega
        have a4 : IntKind.i64.wrap (x3 : Int) = (x3 : Int) := IntWalk.i64_in _ (by omega)
        obtain ⟨tE, tP, tG⟩ := HR.out.take l1
        obtain ⟨sg', hG⟩ : ∃ G, takeG 7 sp sg 3 7 x1 = G := ⟨_, rfl⟩
        obtain ⟨su', hU⟩ : ∃ U, useU sg' su = U := ⟨_, rfl⟩
        obtain ⟨sE, sP, sG, sS, sM⟩ := HR.out.saw l2
        obtain ⟨rs', hS⟩ : ∃ S, sawS rp rs 7 x2 = S := ⟨_, rfl⟩
        have gE : grE 16 (x3 : Int) = 0 := grE_in (by omega)
        obtain ⟨rg', hV⟩ : ∃ V, grG 16 rg rs' (x3 : Int) = V := ⟨_, rfl⟩
        have gV : grV 16 rg rs' (x3 : Int) = rg' := by rw [grV, gE, if_pos rfl, hV]
        have hle : rg ≤ rg' := by rw [← hV]; unfold grG; rw [gE, if_pos rfl]; omega
        rw [hG] at tG
        rw [hS] at sS sM
        have hsu := useU_le (gr := sg') (us := su)
        rw [hU] at hsu
        have hsu3 := hsu.2.2 (by have := HR.out.d; omega)
        have NI : Hid (RiseI 3 sg' su' 7 rg' rs' rg') := Lib.hid ⟨Or.inr rfl, Or.inr rfl, rfl, hsu3⟩
        have hla := HR.out.c
        have hsuM : su ≤ 1125899906842624 := HT.out.sen.hu
        obtain ⟨su1, hsu1⟩ : ∃ t, su + 1 = t := ⟨_, rfl⟩
        have c1 : decide ((rg' : Int) < (last : Int)) = false := decide_eq_false (by omega)
        have c2 : decide ((sg' : Int) < (sg : Int)) = false := decide_eq_false (by omega)
        have c3 : decide ((su' : Int) < (su : Int)) = false := decide_eq_false (by omega)
        have c4 : decide ((su1 : Int) < (su' : Int)) = false := decide_eq_false (by omega)
        have c5 : decide ((rs' : Int) < (rs : Int)) = false := decide_eq_false (by omega)
        have c6 : decide ((sg' : Int) < (su' : Int)) = false := decide_eq_false (by omega)
        have n1 : decide (rg' < last) = false := decide_eq_false (by omega)
        have n2 : decide (sg' < sg) = false := decide_eq_false (by omega)
        have n3 : decide (su' < su) = false := decide_eq_false (by omega)
        have n4 : decide (su1 < su') = false := decide_eq_false (by omega)
        have n5 : decide (rs' < rs) = false := decide_eq_false (by omega)
        have n6 : decide (sg' < su') = false := decide_eq_false (by omega)
        have w4 : IntKind.u64.wrap ((su : Int) + 1) = (su1 : Int) := by rw [IntWalk.u64_in _ (by omega)]; omega
        have TE := Lib.hid tE
        have TP := Lib.hid tP
        have HG := Lib.hid hG
        have HU := Lib.hid hU
        have SE := Lib.hid sE
        have SP := Lib.hid sP
        have SG := Lib.hid sG
        have SS := Lib.hid hS
        have GE := Lib.hid gE
        have GV := Lib.hid gV
        have HV := Lib.hid hV
        have HC := Lib.hid hcell
        have q1 := hcell _ HT.out.kp
        clear tE tP tG hG hU sE sP sG sS sM hS gE gV hV hle hsu hsu3 hla hsuM hsu1 hx hx1 hx2 hx3 hxl hbl l1 l2 l3 hcell
        go_wp2_with fail
        refine (sgranted HT.out.sen).mono ?_
        rintro e v ⟨rfl, rfl⟩
        go_wp2_with fail
        refine (ssent HT.out.sen).mono ?_
        rintro e v ⟨rfl, rfl⟩
        go_wp2_with fail
        refine (rseen HT.out.rcv).mono ?_
        rintro e v ⟨rfl, rfl⟩
        go_wp2_with fail
        refine (two_take HT.out 3 7 x1 TE.out TP.out HG.out rfl rfl rfl).mono ?_
        rintro e v2 ⟨rfl, t2, -⟩
        have q2 := HC.out _ t2.kp
        have T2 := Lib.hid t2
        clear t2 HT q1
        go_wp2_with fail
        refine (two_use T2.out rfl HU.out rfl).mono ?_
        rintro e v3 ⟨rfl, t3, -⟩
        have q3 := HC.out _ t3.kp
        have T3 := Lib.hid t3
        clear t3 T2 q2
        go_wp2_with fail
        refine (two_saw T3.out 7 x2 SE.out SP.out SG.out SS.out rfl rfl).mono ?_
        rintro e v4 ⟨rfl, t4, -⟩
        have q4 := HC.out _ t4.kp
        have T4 := Lib.hid t4
        clear t4 T3 q3
        go_wp2_with fail
        refine (two_grant T4.out (x3 : Int) GE.out GV.out HV.out).mono ?_
        rintro e v5 ⟨rfl, t5, -⟩
        have T5 := Lib.hid t5
        clear t5 T4 q4
        go_wp2_with fail
        refine (sgranted T5.out.sen).mono ?_
        rintro e v ⟨rfl, rfl⟩
        go_wp2_with fail
        refine (ssent T5.out.sen).mono ?_
        rintro e v ⟨rfl, rfl⟩
        go_wp2_with fail
        refine (ssent T5.out.sen).mono ?_
        rintro e v ⟨rfl, rfl⟩
        go_wp2_with fail
        refine (rseen T5.out.rcv).mono ?_
        rintro e v ⟨rfl, rfl⟩
        go_wp2_with fail
        refine (ssent T5.out.sen).mono ?_
        rintro e v ⟨rfl, rfl⟩
        go_wp2_with fail
        refine (sgranted T5.out.sen).mono ?_
        rintro e v ⟨rfl, rfl⟩
        go_wp2_with fail
        go_round
        case rel => exact ⟨i + 1, rg', 3, sg', su', 7, rg', rs', by omega, by omega, rfl, by go_num, T5.out, NI.out⟩
        case measure => simp [intOf]; omega
      · obtain rfl : i = 100 := by omega
        go_wp2_with fail
        refine (cwakes _).mono ?_
        rintro e v8 ⟨rfl, k8⟩
        have K8 := Lib.hid (HT.out.kp.trans k8)
        clear k8
        go_wp2_with fail
        go_ret
        exact ⟨rfl, K8.out⟩
    · have g1 : decide ((i : Int) < (n : Int)) = false := decide_eq_false (by omega)
      go_wp2_with fail
      refine (cwakes _).mono ?_
      rintro e v8 ⟨rfl, k8⟩
      have K8 := Lib.hid (HT.out.kp.trans k8)
      clear k8
      go_wp2_with fail
      go_ret
      exact ⟨rfl, K8.out⟩
end Go.Proofs.Ytgogafhpchfinaa
