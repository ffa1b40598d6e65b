/- The walk of CreditPlays: both accounts and the document's own side by side. -/
import Derived.Test.YtgogafhpchfinaaQab
import Derived.Test.YtgogafhpchfinaaCf
import Derived.Test.YtgogafhpchfinaaQaa
import Derived.Test.YtgogafhpchfinaaRegion
import Derived.Deep.DeepCutAuto
import Derived.Deep.CutBlock
namespace Go.Proofs.Ytgogafhpchfinaa
open Go.RowKit
set_option linter.unusedVariables false
set_option linter.unusedSimpArgs false
/-- The landed accounts (s, r), the document's (t, q); their states. -/
structure Acc (W w : World) (s r t q own sp sg su tp tg tu pl rp rg rs qp qg qs : Nat) : Prop where
  sen : SenR w s own sp sg su
  rcv : RecR w r pl rp rg rs
  ds : DocS w t own tp tg tu
  dr : DocR w q pl qp qg qs
  ap : s ≠ r ∧ s ≠ t ∧ s ≠ q ∧ r ≠ t ∧ r ≠ q ∧ t ≠ q
  lo : W.heap.size ≤ s ∧ W.heap.size ≤ r ∧ W.heap.size ≤ t ∧ W.heap.size ≤ q
  kp : Keep W w
section
variable {W w w' : World} {s r t q own sp sg su tp tg tu pl rp rg rs qp qg qs : Nat}
theorem Acc.later (h : Acc W w s r t q own sp sg su tp tg tu pl rp rg rs qp qg qs) (k : Keep w w') : Acc W w' s r t q own sp sg su tp tg tu pl rp rg rs qp qg qs :=
  ⟨h.sen.keep k, h.rcv.keep k, h.ds.keep k, h.dr.keep k, h.ap, h.lo, h.kp.trans k⟩
theorem Acc.sends (h : Acc W w s r t q own sp sg su tp tg tu pl rp rg rs qp qg qs) {a b c : Nat} (h2 : SenR w' s own a b c) (k : Turned (fun x => x = s) w w') : Acc W w' s r t q own a b c tp tg tu pl rp rg rs qp qg qs := by
  obtain ⟨a1, a2, a3, a4, a5, a6⟩ := h.ap
  exact ⟨h2, h.rcv.turned k (fun e => a1 e.symm), h.ds.turned k (fun e => a2 e.symm), h.dr.turned k (fun e => a3 e.symm), h.ap, h.lo, k.keep h.kp (fun i e => by rw [e]; exact h.lo.1)⟩
theorem Acc.recs (h : Acc W w s r t q own sp sg su tp tg tu pl rp rg rs qp qg qs) {a b c : Nat} (h2 : RecR w' r pl a b c) (k : Turned (fun x => x = r) w w') : Acc W w' s r t q own sp sg su tp tg tu pl a b c qp qg qs := by
  obtain ⟨a1, a2, a3, a4, a5, a6⟩ := h.ap
  exact ⟨h.sen.turned k a1, h2, h.ds.turned k (fun e => a4 e.symm), h.dr.turned k (fun e => a5 e.symm), h.ap, h.lo, k.keep h.kp (fun i e => by rw [e]; exact h.lo.2.1)⟩
theorem Acc.docs (h : Acc W w s r t q own sp sg su tp tg tu pl rp rg rs qp qg qs) {a b c : Nat} (h2 : DocS w' t own a b c) (k : Turned (fun x => x = t) w w') : Acc W w' s r t q own sp sg su a b c pl rp rg rs qp qg qs := by
  obtain ⟨a1, a2, a3, a4, a5, a6⟩ := h.ap
  exact ⟨h.sen.turned k a2, h.rcv.turned k a4, h.ds |> fun _ => h2, h.dr.turned k (fun e => a6 e.symm), h.ap, h.lo, k.keep h.kp (fun i e => by rw [e]; exact h.lo.2.2.1)⟩
theorem Acc.docr (h : Acc W w s r t q own sp sg su tp tg tu pl rp rg rs qp qg qs) {a b c : Nat} (h2 : DocR w' q pl a b c) (k : Turned (fun x => x = q) w w') : Acc W w' s r t q own sp sg su tp tg tu pl rp rg rs a b c := by
  obtain ⟨a1, a2, a3, a4, a5, a6⟩ := h.ap
  exact ⟨h.sen.turned k a3, h.rcv.turned k a5, h.ds.turned k a6, h2, h.ap, h.lo, k.keep h.kp (fun i e => by rw [e]; exact h.lo.2.2.2)⟩
theorem row_turned {g i : Nat} {O : Obj} {w w' : World} {F : Nat → Prop} (h : w.heap[i]? = some O) (k : Turned F w w') (hn : ¬ F i) : w'.heap[i]? = some O := (k.block i (Array.getElem?_eq_some_iff.1 h).1 hn).trans h
theorem op_cell {w : World} {g i : Nat} {cs : Array Value} {ty : TypeId} {v : Value} (h : w.heap[g]? = some (.cells cs ty (0, 0))) (hv : cs[i]? = some v) : w.cell? ⟨g, i, none⟩ = some v := by
  unfold World.cell?; rw [h]; exact hv
theorem quiet_eqs {P : Program} {f : FuncId} {args : Array Value} {w : World} {n : Nat} {v : Value}
    (h : Calls P f args (w.drewN n) fun e w' => e = .returned v ∧ w' = w.drewN n) : Calls P f args (w.drewN n) fun e w'' => e = .returned v ∧ ∃ m, w'' = w.drewN m :=
  h.mono fun _ _ h => ⟨h.1, n, h.2⟩
theorem dmay_q {n : Nat} (h : DocS w t own tp tg tu) {b : Bool} (hb : decide (tu < tg) = b) : Calls Try.prog 23 #[.pointer (some ⟨t, 0, none⟩)] (w.drewN n) fun e w'' => e = .returned (.bool b) ∧ ∃ m, w'' = w.drewN m := by
  have h2 := h.keep ((Keep.refl w).drewN n)
  have c2 := h2.c2
  have c3 := h2.c3
  have d1 : decide ((tu : Int) < (tg : Int)) = b := by rw [← hb]; exact decide_eq_decide.2 (by omega)
  generalize hwn : w.drewN n = wn at c2 c3
  clear h h2
  go_enter Try.func23, Try.ntmps23
  go_wp2_with fail
  go_quiet (fail)
  go_wp2_with fail
  go_ret
  exact ⟨by simp [← hb], n + nq, by rw [← hwn, World.drewN_drewN]⟩
end
set_option maxRecDepth 100000 in
set_option maxHeartbeats 16000000 in
theorem cplays_bad1 (n c : Nat) (A : Option Addr) (l : List OpC) (W : World) {own : Nat} (pl : Int) (hs : okL own = false) (hp : pl < 1 ∨ 64 < pl) (hb : OpsC W W.heap.size A n l) (hn : n ≤ 140737488351232) :
    Calls Try.prog 3 #[.int .u64 (own : Int), .int .i64 pl, .slice A n c] W fun e w' => e = .returned (.bool true) ∧ Keep W w' := by
  go_enter Try.func3, Try.ntmps3
  go_wp2_with fail
  refine (snew_bad own hs _).mono ?_
  rintro e w ⟨rfl, rfl⟩
  go_wp2_with fail
  refine (dsnew_bad own hs _).mono ?_
  rintro e w ⟨rfl, rfl⟩
  go_wp2_with fail
  refine (rnew_bad pl hp _).mono ?_
  rintro e w ⟨rfl, rfl⟩
  go_wp2_with fail
  refine (drnew_bad pl hp _).mono ?_
  rintro e w ⟨rfl, rfl⟩
  go_wp2_with fail
  refine (cwakes _).mono ?_
  rintro e u5 ⟨rfl, k5⟩
  have K5 := Lib.hid k5
  clear k5
  go_wp2_with fail
  go_ret
  exact ⟨rfl, K5.out⟩
set_option maxRecDepth 100000 in
set_option maxHeartbeats 16000000 in
theorem cplays_bad2 (n c : Nat) (A : Option Addr) (l : List OpC) (W : World) {own : Nat} (pl : Nat) (hs : okL own = false) (hp1 : 1 ≤ pl) (hp2 : pl ≤ 64) (hb : OpsC W W.heap.size A n l) (hn : n ≤ 140737488351232) :
    Calls Try.prog 3 #[.int .u64 (own : Int), .int .i64 (pl : Int), .slice A n c] W fun e w' => e = .returned (.bool true) ∧ Keep W w' := by
  go_enter Try.func3, Try.ntmps3
  go_wp2_with fail
  refine (snew_bad own hs _).mono ?_
  rintro e w ⟨rfl, rfl⟩
  go_wp2_with fail
  refine (dsnew_bad own hs _).mono ?_
  rintro e w ⟨rfl, rfl⟩
  go_wp2_with fail
  refine (rnew_in pl hp1 hp2 _).mono ?_
  rintro e u3 ⟨rfl, -, k3⟩
  have K3 := Lib.hid k3
  clear k3
  go_wp2_with fail
  refine (drnew_in pl hp1 hp2 _).mono ?_
  rintro e u4 ⟨rfl, -, k4⟩
  have K4 := Lib.hid k4
  clear k4
  go_wp2_with fail
  refine (cwakes _).mono ?_
  rintro e u5 ⟨rfl, k5⟩
  have K5 := Lib.hid k5
  clear k5
  go_wp2_with fail
  go_ret
  exact ⟨rfl, (K3.out.trans (K4.out.trans K5.out))⟩
set_option maxRecDepth 100000 in
set_option maxHeartbeats 16000000 in
theorem cplays_bad3 (n c : Nat) (A : Option Addr) (l : List OpC) (W : World) {own : Nat} (pl : Int) (hs : okL own = true) (hp : pl < 1 ∨ 64 < pl) (hb : OpsC W W.heap.size A n l) (hn : n ≤ 140737488351232) :
    Calls Try.prog 3 #[.int .u64 (own : Int), .int .i64 pl, .slice A n c] W fun e w' => e = .returned (.bool true) ∧ Keep W w' := by
  go_enter Try.func3, Try.ntmps3
  go_wp2_with fail
  refine (snew_in own hs _).mono ?_
  rintro e u1 ⟨rfl, -, k1⟩
  have K1 := Lib.hid k1
  clear k1
  go_wp2_with fail
  refine (dsnew_in own hs _).mono ?_
  rintro e u2 ⟨rfl, -, k2⟩
  have K2 := Lib.hid k2
  clear k2
  go_wp2_with fail
  refine (rnew_bad pl hp _).mono ?_
  rintro e w ⟨rfl, rfl⟩
  go_wp2_with fail
  refine (drnew_bad pl hp _).mono ?_
  rintro e w ⟨rfl, rfl⟩
  go_wp2_with fail
  refine (cwakes _).mono ?_
  rintro e u5 ⟨rfl, k5⟩
  have K5 := Lib.hid k5
  clear k5
  go_wp2_with fail
  go_ret
  exact ⟨rfl, (K1.out.trans (K2.out.trans K5.out))⟩
set_option maxRecDepth 100000 in
set_option maxHeartbeats 16000000 in
theorem cplays_good (n c : Nat) (A : Option Addr) (l : List OpC) (W : World) {own : Nat} (pl : Nat) (hs : okL own = true) (hp1 : 1 ≤ pl) (hp2 : pl ≤ 64) (hb : OpsC W W.heap.size A n l) (hn : n ≤ 140737488351232) :
    Calls Try.prog 3 #[.int .u64 (own : Int), .int .i64 (pl : Int), .slice A n c] W fun e w' => e = .returned (.bool true) ∧ Keep W w' := by
  have HB := Lib.hid hb
  have HN := Lib.hid hn
  have HS := Lib.hid hs
  clear hb hn hs
  go_enter Try.func3, Try.ntmps3
  go_wp2_with fail
  refine (snew_in own HS.out _).mono ?_
  rintro e u0 ⟨rfl, b0, k0⟩
  obtain ⟨s, hs⟩ : ∃ v, W.heap.size = v := ⟨_, rfl⟩
  rw [hs] at b0
  simp only [hs]
  have B0 := Lib.hid b0
  have K0 := Lib.hid k0
  have HH0 := Lib.hid hs
  clear b0 k0 hs
  go_wp2_with fail
  refine (dsnew_in own HS.out _).mono ?_
  rintro e u1 ⟨rfl, b1, k1⟩
  obtain ⟨t, ht⟩ : ∃ v, u0.heap.size = v := ⟨_, rfl⟩
  rw [ht] at b1
  simp only [ht]
  have B1 := Lib.hid b1
  have K1 := Lib.hid k1
  have HH1 := Lib.hid ht
  clear b1 k1 ht
  go_wp2_with fail
  refine (rnew_in pl hp1 hp2 _).mono ?_
  rintro e u2 ⟨rfl, b2, k2⟩
  obtain ⟨r, hr⟩ : ∃ v, u1.heap.size = v := ⟨_, rfl⟩
  rw [hr] at b2
  simp only [hr]
  have B2 := Lib.hid b2
  have K2 := Lib.hid k2
  have HH2 := Lib.hid hr
  clear b2 k2 hr
  go_wp2_with fail
  refine (drnew_in pl hp1 hp2 _).mono ?_
  rintro e u3 ⟨rfl, b3, k3⟩
  obtain ⟨q, hq⟩ : ∃ v, u2.heap.size = v := ⟨_, rfl⟩
  rw [hq] at b3
  simp only [hq]
  have B3 := Lib.hid b3
  have K3 := Lib.hid k3
  have HH3 := Lib.hid hq
  clear b3 k3 hq
  go_wp2_with fail
  refine (cwakes _).mono ?_
  rintro e u4 ⟨rfl, k4⟩
  have T0 : Hid (Acc W u4 s r t q own 0 0 0 0 0 0 pl 0 0 0 0 0 0) := Lib.hid (by
    have l0 := B0.out.lt; have l1 := B1.out.lt; have l2 := B2.out.lt
    have z1 := HH1.out; have z2 := HH2.out; have z3 := HH3.out; have z0 := HH0.out
    have y0 := K0.out.size; have y1 := K1.out.size; have y2 := K2.out.size; have y3 := K3.out.size
    exact Acc.later ⟨((B0.out.keep K1.out).keep K2.out).keep K3.out, B2.out.keep K3.out, (B1.out.keep K2.out).keep K3.out, B3.out, ⟨by omega, by omega, by omega, by omega, by omega, by omega⟩, ⟨by omega, by omega, by omega, by omega⟩, ((K0.out.trans K1.out).trans K2.out).trans K3.out⟩ k4)
  clear k4 B0 B1 B2 B3 K0 K1 K2 K3 HH0 HH1 HH2 HH3
  go_wp2_with fail
  go_loopw [15] (fun iv wr => ∃ i sp sg su rp rg rs : Nat, i ≤ n ∧ i ≤ 100 ∧ iv = .int .i64 i ∧ Acc W wr s r t q own sp sg su sp sg su pl rp rg rs rp rg rs) (fun iv _ => 100 - (intOf iv).toNat)
  case atStart => exact ⟨0, 0, 0, 0, 0, 0, 0, by omega, by omega, rfl, T0.out⟩
  case round =>
    obtain ⟨i, sp, sg, su, rp, rg, rs, hi, hi2, rfl, ht⟩ := hrel
    have HT := Lib.hid ht
    have HI := Lib.hid hi
    clear ht hi T0
    by_cases hlt : i < n
    · have g1 : decide ((i : Int) < (n : Int)) = true := decide_eq_true (by omega)
      by_cases hlt2 : i < 100
      · have g2 : decide ((i : Int) < 100) = true := decide_eq_true (by omega)
        obtain ⟨b, off, a, rfl, hbl, hcell, hlf, hto, hnm⟩ := HB.out.one hlt
        obtain ⟨what, free, life, dst, num⟩ := a
        obtain ⟨c0, c1, c2, c3, c4⟩ := hcell _ HT.out.kp
        have g3 : (i : Int) < (n : Int) := by omega
        have g0 : (0 : Int) ≤ (i : Int) := Int.natCast_nonneg _
        clear hcell hbl
        obtain ⟨wo, hwo⟩ : ∃ x, wr = x := ⟨_, rfl⟩
        subst hwo
        have hob := heap_alloc_new wr (.cells #[.int .i64 what, .int .i64 free, .int .u64 (life : Int), .int .u64 (dst : Int), .int .u64 (num : Int)] 39)
        have hka := (Keep.refl wr).alloc #[.int .i64 what, .int .i64 free, .int .u64 (life : Int), .int .u64 (dst : Int), .int .u64 (num : Int)] 39
        obtain ⟨w1, hw1⟩ : ∃ w1, wr.alloc (.cells #[.int .i64 what, .int .i64 free, .int .u64 (life : Int), .int .u64 (dst : Int), .int .u64 (num : Int)] 39) = w1 := ⟨_, rfl⟩
        obtain ⟨o, ho⟩ : ∃ v, wr.heap.size = v := ⟨_, rfl⟩
        have hap : o ≠ s ∧ o ≠ r ∧ o ≠ t ∧ o ≠ q := by
          have l0 := HT.out.sen.lt; have l1 := HT.out.rcv.lt; have l2 := HT.out.ds.lt; have l3 := HT.out.dr.lt
          exact ⟨by omega, by omega, by omega, by omega⟩
        rw [hw1, ho] at hob
        rw [hw1] at hka
        have HT1 := Lib.hid (HT.out.later hka)
        have HOB := Lib.hid hob
        have HAP := Lib.hid hap
        have d0 : w1.cell? ⟨o, 0, none⟩ = some (.int .i64 what) := op_cell hob rfl
        clear hob hka hap HT
        go_upto_if 115 with fail
        go_cut [115] from 115 to 118 (fun v wx => wx = w1 ∧ ∃ z : Bool, v = .bool z)
        case first =>
          by_cases x0 : what = 0
          · have y0 : (what == 0) = true := beq_iff_eq.2 x0
            have z0 : decide (what = 0) = true := decide_eq_true x0
            clear x0
            go_wp2_with fail
            go_meet
            case rel => exact ⟨rfl, true, rfl⟩
          · have y0 : (what == 0) = false := beq_eq_false_iff_ne.2 x0
            have z0 : decide (what = 0) = false := decide_eq_false x0
            clear x0
            by_cases x1 : what = 1
            · have y1 : (what == 1) = true := beq_iff_eq.2 x1
              have z1 : decide (what = 1) = true := decide_eq_true x1
              clear x1
              go_wp2_with fail
              go_meet
              case rel => exact ⟨rfl, true, rfl⟩
            · have y1 : (what == 1) = false := beq_eq_false_iff_ne.2 x1
              have z1 : decide (what = 1) = false := decide_eq_false x1
              clear x1
              go_wp2_with fail
              go_meet
              case rel => exact ⟨rfl, false, rfl⟩
        case rest =>
          obtain ⟨hwc, z, rfl⟩ := hcut
          obtain rfl : w1 = wc := hwc.symm
          cases z with
          | true =>
            go_wp2_with fail
            refine (suse HT1.out.sen).mono ?_
            rintro e w2 ⟨rfl, s2, k2⟩
            have T2 := Lib.hid (HT1.out.sends s2 k2)
            clear s2 k2 HT1 HOB
            go_wp2_with fail
            refine (duse T2.out.ds (by have := T2.out.sen.hu; have := (useU_le (gr := sg) (us := su)).2.1; omega)).mono ?_
            rintro e w3 ⟨rfl, s2, k2⟩
            have T3 := Lib.hid (T2.out.docs s2 k2)
            clear s2 k2 T2
            obtain ⟨zu, hzu⟩ : ∃ v, useU sg su = v := ⟨_, rfl⟩
            have TZ : Hid (Acc W w3 s r t q own sp sg zu sp sg zu pl rp rg rs rp rg rs) := Lib.hid (by rw [← hzu]; exact T3.out)
            clear T3 hzu
            obtain ⟨bm, hbm⟩ : ∃ v, decide (zu < sg) = v := ⟨_, rfl⟩
            have HBM := Lib.hid hbm
            have e1 := TZ.out.ds.c3
            have e2 := TZ.out.ds.c2
            have e3 := TZ.out.dr.c1
            have e4 := TZ.out.dr.c3
            clear hbm
            go_wp2_with fail
            go_quiet (first | (go_at_call 22; exact quiet_eqs ((smay (TZ.out.sen.keep ((Keep.refl _).drewN _))).mono fun e w' q => ⟨by rw [q.1, HBM.out], q.2⟩)) | (go_at_call 23; exact dmay_q TZ.out.ds HBM.out) | (go_at_call 24; exact quiet_eqs (ssent (TZ.out.sen.keep ((Keep.refl _).drewN _)))) | (go_at_call 25; exact quiet_eqs (sgranted (TZ.out.sen.keep ((Keep.refl _).drewN _)))) | (go_at_call 26; exact quiet_eqs (rlife (TZ.out.rcv.keep ((Keep.refl _).drewN _)))) | (go_at_call 27; exact quiet_eqs (rseen (TZ.out.rcv.keep ((Keep.refl _).drewN _)))))
            have TQ := Lib.hid (TZ.out.later ((Keep.refl _).drewN nq))
            clear TZ e1 e2 e3 e4
            go_wp2_with fail
            go_round
            case rel => exact ⟨i + 1, sp, sg, zu, rp, rg, rs, by omega, by omega, by go_num, TQ.out⟩
            case measure => simp [intOf]; omega
          | false =>
            go_upto_if 136 with fail
            go_cut [136] from 136 to 139 (fun v wx => wx = w1 ∧ ∃ z : Bool, v = .bool z)
            case first =>
              by_cases x0 : what = 2
              · have y0 : (what == 2) = true := beq_iff_eq.2 x0
                have z0 : decide (what = 2) = true := decide_eq_true x0
                clear x0
                go_wp2_with fail
                go_meet
                case rel => exact ⟨rfl, true, rfl⟩
              · have y0 : (what == 2) = false := beq_eq_false_iff_ne.2 x0
                have z0 : decide (what = 2) = false := decide_eq_false x0
                clear x0
                by_cases x1 : what = 3
                · have y1 : (what == 3) = true := beq_iff_eq.2 x1
                  have z1 : decide (what = 3) = true := decide_eq_true x1
                  clear x1
                  go_wp2_with fail
                  go_meet
                  case rel => exact ⟨rfl, true, rfl⟩
                · have y1 : (what == 3) = false := beq_eq_false_iff_ne.2 x1
                  have z1 : decide (what = 3) = false := decide_eq_false x1
                  clear x1
                  go_wp2_with fail
                  go_meet
                  case rel => exact ⟨rfl, false, rfl⟩
            case rest =>
              obtain ⟨hwc, z, rfl⟩ := hcut
              obtain rfl : w1 = wc := hwc.symm
              cases z with
              | true =>
                go_wp2_with fail
                have HD := Lib.hid (HT1.out.later (Keep.refl w1).drew)
                have HOBD := Lib.hid (row_turned (g := 0) HOB.out (Turned.of_keep (F := fun _ => False) (Keep.refl w1).drew) (fun h => h))
                clear HT1 HOB
                refine wp_region_noPanic ?_
                refine wp_region_held_drew (S := fun wz => wz.heap[o]? = some (.cells #[.int .i64 what, .int .i64 free, .int .u64 (life : Int), .int .u64 (dst : Int), .int .u64 (num : Int)] 39 (0, 0))) (by kernel_rfl) (by exact HOBD.out) (fun hHeld => ?_)
                refine wpAnyH_take (i := 0) (v := ?_) rfl (by kernel_rfl) (by kernel_rfl) (by kernel_rfl) (fun _ _ _ h => h) (Or.inl ⟨by rfl, ?_⟩) hHeld ?_
                rotate_left
                · intro wq hSw
                  go_simp
                  all_goals with_reducible rfl
                try simp only [Act.put, List.getElem_toArray, List.getElem_cons_succ, List.getElem_cons_zero, List.setIfInBounds_toArray, List.set_cons_zero, List.set_cons_succ]
                refine wpAnyH_take (i := 1) (v := ?_) rfl (by kernel_rfl) (by kernel_rfl) (by kernel_rfl) (fun _ _ _ h => h) (Or.inl ⟨by rfl, ?_⟩) hHeld ?_
                rotate_left
                · intro wq hSw
                  go_simp
                  all_goals with_reducible rfl
                try simp only [Act.put, List.getElem_toArray, List.getElem_cons_succ, List.getElem_cons_zero, List.setIfInBounds_toArray, List.set_cons_zero, List.set_cons_succ]
                refine wpAnyH_take (i := 2) (v := ?_) rfl (by kernel_rfl) (by kernel_rfl) (by kernel_rfl) (fun _ _ _ h => h) (Or.inl ⟨by rfl, ?_⟩) hHeld ?_
                rotate_left
                · intro wq hSw
                  have q0 := op_cell (i := 2) hSw rfl
                  go_simp
                  all_goals with_reducible rfl
                try simp only [Act.put, List.getElem_toArray, List.getElem_cons_succ, List.getElem_cons_zero, List.setIfInBounds_toArray, List.set_cons_zero, List.set_cons_succ]
                refine wpAnyH_take (i := 3) (v := ?_) rfl (by kernel_rfl) (by kernel_rfl) (by kernel_rfl) (fun _ _ _ h => h) (Or.inl ⟨by rfl, ?_⟩) hHeld ?_
                rotate_left
                · intro wq hSw
                  go_simp
                  all_goals with_reducible rfl
                try simp only [Act.put, List.getElem_toArray, List.getElem_cons_succ, List.getElem_cons_zero, List.setIfInBounds_toArray, List.set_cons_zero, List.set_cons_succ]
                refine wpAnyH_take (i := 4) (v := ?_) rfl (by kernel_rfl) (by kernel_rfl) (by kernel_rfl) (fun _ _ _ h => h) (Or.inl ⟨by rfl, ?_⟩) hHeld ?_
                rotate_left
                · intro wq hSw
                  have q0 := op_cell (i := 3) hSw rfl
                  go_simp
                  all_goals with_reducible rfl
                try simp only [Act.put, List.getElem_toArray, List.getElem_cons_succ, List.getElem_cons_zero, List.setIfInBounds_toArray, List.set_cons_zero, List.set_cons_succ]
                refine wpAnyH_take (i := 5) (v := ?_) rfl (by kernel_rfl) (by kernel_rfl) (by kernel_rfl) (fun _ _ _ h => h) (Or.inl ⟨by rfl, ?_⟩) hHeld ?_
                rotate_left
                · intro wq hSw
                  go_simp
                  all_goals with_reducible rfl
                try simp only [Act.put, List.getElem_toArray, List.getElem_cons_succ, List.getElem_cons_zero, List.setIfInBounds_toArray, List.set_cons_zero, List.set_cons_succ]
                refine wpAnyH_take (i := 6) (v := ?_) rfl (by kernel_rfl) (by kernel_rfl) (by kernel_rfl) (fun _ _ _ h => h) (Or.inl ⟨by rfl, ?_⟩) hHeld ?_
                rotate_left
                · intro wq hSw
                  have q0 := op_cell (i := 4) hSw rfl
                  go_simp
                  all_goals with_reducible rfl
                try simp only [Act.put, List.getElem_toArray, List.getElem_cons_succ, List.getElem_cons_zero, List.setIfInBounds_toArray, List.set_cons_zero, List.set_cons_succ]
                refine wpAnyH_take (i := 8) (v := ?_) rfl (by kernel_rfl) (by kernel_rfl) (by kernel_rfl) (fun _ _ _ h => h) (Or.inl ⟨by rfl, ?_⟩) hHeld ?_
                rotate_left
                · intro wq hSw
                  go_simp
                  all_goals with_reducible rfl
                try simp only [Act.put, List.getElem_toArray, List.getElem_cons_succ, List.getElem_cons_zero, List.setIfInBounds_toArray, List.set_cons_zero, List.set_cons_succ]
                refine wpAnyH_take (i := 9) (v := ?_) rfl (by kernel_rfl) (by kernel_rfl) (by kernel_rfl) (fun _ _ _ h => h) (Or.inl ⟨by rfl, ?_⟩) hHeld ?_
                rotate_left
                · intro wq hSw
                  go_simp
                  all_goals with_reducible rfl
                try simp only [Act.put, List.getElem_toArray, List.getElem_cons_succ, List.getElem_cons_zero, List.setIfInBounds_toArray, List.set_cons_zero, List.set_cons_succ]
                refine wpAnyH_take (i := 10) (v := ?_) rfl (by kernel_rfl) (by kernel_rfl) (by kernel_rfl) (fun _ _ _ h => h) (Or.inl ⟨by rfl, ?_⟩) hHeld ?_
                rotate_left
                · intro wq hSw
                  have q0 := op_cell (i := 2) hSw rfl
                  go_simp
                  all_goals with_reducible rfl
                try simp only [Act.put, List.getElem_toArray, List.getElem_cons_succ, List.getElem_cons_zero, List.setIfInBounds_toArray, List.set_cons_zero, List.set_cons_succ]
                refine wpAnyH_take (i := 11) (v := ?_) rfl (by kernel_rfl) (by kernel_rfl) (by kernel_rfl) (fun _ _ _ h => h) (Or.inl ⟨by rfl, ?_⟩) hHeld ?_
                rotate_left
                · intro wq hSw
                  go_simp
                  all_goals with_reducible rfl
                try simp only [Act.put, List.getElem_toArray, List.getElem_cons_succ, List.getElem_cons_zero, List.setIfInBounds_toArray, List.set_cons_zero, List.set_cons_succ]
                refine wpAnyH_take (i := 12) (v := ?_) rfl (by kernel_rfl) (by kernel_rfl) (by kernel_rfl) (fun _ _ _ h => h) (Or.inl ⟨by rfl, ?_⟩) hHeld ?_
                rotate_left
                · intro wq hSw
                  have q0 := op_cell (i := 3) hSw rfl
                  go_simp
                  all_goals with_reducible rfl
                try simp only [Act.put, List.getElem_toArray, List.getElem_cons_succ, List.getElem_cons_zero, List.setIfInBounds_toArray, List.set_cons_zero, List.set_cons_succ]
                refine wpAnyH_take (i := 13) (v := ?_) rfl (by kernel_rfl) (by kernel_rfl) (by kernel_rfl) (fun _ _ _ h => h) (Or.inl ⟨by rfl, ?_⟩) hHeld ?_
                rotate_left
                · intro wq hSw
                  go_simp
                  all_goals with_reducible rfl
                try simp only [Act.put, List.getElem_toArray, List.getElem_cons_succ, List.getElem_cons_zero, List.setIfInBounds_toArray, List.set_cons_zero, List.set_cons_succ]
                refine wpAnyH_take (i := 14) (v := ?_) rfl (by kernel_rfl) (by kernel_rfl) (by kernel_rfl) (fun _ _ _ h => h) (Or.inl ⟨by rfl, ?_⟩) hHeld ?_
                rotate_left
                · intro wq hSw
                  have q0 := op_cell (i := 4) hSw rfl
                  go_simp
                  all_goals with_reducible rfl
                try simp only [Act.put, List.getElem_toArray, List.getElem_cons_succ, List.getElem_cons_zero, List.setIfInBounds_toArray, List.set_cons_zero, List.set_cons_succ]
                refine wpAnyH_ready (rs := [7]) (by kernel_rfl) (by simp) ?_
                refine AllReadyH.cons rfl (fun K hK => ?_) AllReadyH.nil
                go_simp
                refine (stake life dst num HD.out.sen).mono ?_
                rintro e w2 ⟨rfl, s2, k2⟩
                have T2 := Lib.hid (HD.out.sends s2 k2)
                have O2 := Lib.hid (row_turned (g := 0) HOBD.out k2 HAP.out.1)
                clear s2 k2
                refine hK.out _ _ O2.out (fun hHeld => ?_)
                clear hK K
                try simp only [Act.put, List.getElem_toArray, List.getElem_cons_succ, List.getElem_cons_zero, List.setIfInBounds_toArray, List.set_cons_zero, List.set_cons_succ]
                refine wpAnyH_ready (rs := [15]) (by kernel_rfl) (by simp) ?_
                refine AllReadyH.cons rfl (fun K hK => ?_) AllReadyH.nil
                go_simp
                refine (dtake life dst num T2.out.ds (by have := T2.out.sen.high; omega)).mono ?_
                rintro e w3 ⟨rfl, s2, k2⟩
                have T3 := Lib.hid (T2.out.docs s2 k2)
                have O3 := Lib.hid (row_turned (g := 0) O2.out k2 HAP.out.2.2.1)
                clear s2 k2
                refine hK.out _ _ O3.out (fun hHeld => ?_)
                clear hK K
                try simp only [Act.put, List.getElem_toArray, List.getElem_cons_succ, List.getElem_cons_zero, List.setIfInBounds_toArray, List.set_cons_zero, List.set_cons_succ]
                refine wpAnyH_take (i := 16) (v := ?_) rfl (by kernel_rfl) (by kernel_rfl) (by kernel_rfl) (fun _ _ _ h => h) (Or.inl ⟨by rfl, ?_⟩) hHeld ?_
                rotate_left
                · intro wq hSw
                  go_simp
                  all_goals with_reducible rfl
                try simp only [Act.put, List.getElem_toArray, List.getElem_cons_succ, List.getElem_cons_zero, List.setIfInBounds_toArray, List.set_cons_zero, List.set_cons_succ]
                refine wpAnyH_done (by kernel_rfl) ?_ _
                refine NoPanic.normal ?_
                clear hHeld
                obtain ⟨zp, hzp⟩ : ∃ v, takeP own sp life dst num = v := ⟨_, rfl⟩
                obtain ⟨zg, hzg⟩ : ∃ v, takeG own sp sg life dst num = v := ⟨_, rfl⟩
                have TZ : Hid (Acc W w3 s r t q own zp zg su zp zg su pl rp rg rs rp rg rs) := Lib.hid (by rw [← hzp, ← hzg]; exact T3.out)
                clear T3 T2 O2 O3 HD HOBD hzp hzg
                obtain ⟨bm, hbm⟩ : ∃ v, decide (su < zg) = v := ⟨_, rfl⟩
                have HBM := Lib.hid hbm
                have e1 := TZ.out.ds.c3
                have e2 := TZ.out.ds.c2
                have e3 := TZ.out.dr.c1
                have e4 := TZ.out.dr.c3
                clear hbm
                go_wp2_with fail
                go_quiet (first | (go_at_call 22; exact quiet_eqs ((smay (TZ.out.sen.keep ((Keep.refl _).drewN _))).mono fun e w' q => ⟨by rw [q.1, HBM.out], q.2⟩)) | (go_at_call 23; exact dmay_q TZ.out.ds HBM.out) | (go_at_call 24; exact quiet_eqs (ssent (TZ.out.sen.keep ((Keep.refl _).drewN _)))) | (go_at_call 25; exact quiet_eqs (sgranted (TZ.out.sen.keep ((Keep.refl _).drewN _)))) | (go_at_call 26; exact quiet_eqs (rlife (TZ.out.rcv.keep ((Keep.refl _).drewN _)))) | (go_at_call 27; exact quiet_eqs (rseen (TZ.out.rcv.keep ((Keep.refl _).drewN _)))))
                have TQ := Lib.hid (TZ.out.later ((Keep.refl _).drewN nq))
                clear TZ e1 e2 e3 e4
                go_wp2_with fail
                go_round
                case rel => exact ⟨i + 1, zp, zg, su, rp, rg, rs, by omega, by omega, by go_num, TQ.out⟩
                case measure => simp [intOf]; omega
              | false =>
                go_upto_if 156 with fail
                go_cut [156] from 156 to 159 (fun v wx => wx = w1 ∧ ∃ z : Bool, v = .bool z)
                case first =>
                  by_cases x0 : what = 4
                  · have y0 : (what == 4) = true := beq_iff_eq.2 x0
                    have z0 : decide (what = 4) = true := decide_eq_true x0
                    clear x0
                    go_wp2_with fail
                    go_meet
                    case rel => exact ⟨rfl, true, rfl⟩
                  · have y0 : (what == 4) = false := beq_eq_false_iff_ne.2 x0
                    have z0 : decide (what = 4) = false := decide_eq_false x0
                    clear x0
                    by_cases x1 : what = 5
                    · have y1 : (what == 5) = true := beq_iff_eq.2 x1
                      have z1 : decide (what = 5) = true := decide_eq_true x1
                      clear x1
                      go_wp2_with fail
                      go_meet
                      case rel => exact ⟨rfl, true, rfl⟩
                    · have y1 : (what == 5) = false := beq_eq_false_iff_ne.2 x1
                      have z1 : decide (what = 5) = false := decide_eq_false x1
                      clear x1
                      go_wp2_with fail
                      go_meet
                      case rel => exact ⟨rfl, false, rfl⟩
                case rest =>
                  obtain ⟨hwc, z, rfl⟩ := hcut
                  obtain rfl : w1 = wc := hwc.symm
                  cases z with
                  | true =>
                    go_wp2_with fail
                    have HD := Lib.hid (HT1.out.later (Keep.refl w1).drew)
                    have HOBD := Lib.hid (row_turned (g := 0) HOB.out (Turned.of_keep (F := fun _ => False) (Keep.refl w1).drew) (fun h => h))
                    clear HT1 HOB
                    refine wp_region_noPanic ?_
                    refine wp_region_held_drew (S := fun wz => wz.heap[o]? = some (.cells #[.int .i64 what, .int .i64 free, .int .u64 (life : Int), .int .u64 (dst : Int), .int .u64 (num : Int)] 39 (0, 0))) (by kernel_rfl) (by exact HOBD.out) (fun hHeld => ?_)
                    refine wpAnyH_take (i := 0) (v := ?_) rfl (by kernel_rfl) (by kernel_rfl) (by kernel_rfl) (fun _ _ _ h => h) (Or.inl ⟨by rfl, ?_⟩) hHeld ?_
                    rotate_left
                    · intro wq hSw
                      go_simp
                      all_goals with_reducible rfl
                    try simp only [Act.put, List.getElem_toArray, List.getElem_cons_succ, List.getElem_cons_zero, List.setIfInBounds_toArray, List.set_cons_zero, List.set_cons_succ]
                    refine wpAnyH_take (i := 1) (v := ?_) rfl (by kernel_rfl) (by kernel_rfl) (by kernel_rfl) (fun _ _ _ h => h) (Or.inl ⟨by rfl, ?_⟩) hHeld ?_
                    rotate_left
                    · intro wq hSw
                      go_simp
                      all_goals with_reducible rfl
                    try simp only [Act.put, List.getElem_toArray, List.getElem_cons_succ, List.getElem_cons_zero, List.setIfInBounds_toArray, List.set_cons_zero, List.set_cons_succ]
                    refine wpAnyH_take (i := 2) (v := ?_) rfl (by kernel_rfl) (by kernel_rfl) (by kernel_rfl) (fun _ _ _ h => h) (Or.inl ⟨by rfl, ?_⟩) hHeld ?_
                    rotate_left
                    · intro wq hSw
                      have q0 := op_cell (i := 2) hSw rfl
                      go_simp
                      all_goals with_reducible rfl
                    try simp only [Act.put, List.getElem_toArray, List.getElem_cons_succ, List.getElem_cons_zero, List.setIfInBounds_toArray, List.set_cons_zero, List.set_cons_succ]
                    refine wpAnyH_take (i := 3) (v := ?_) rfl (by kernel_rfl) (by kernel_rfl) (by kernel_rfl) (fun _ _ _ h => h) (Or.inl ⟨by rfl, ?_⟩) hHeld ?_
                    rotate_left
                    · intro wq hSw
                      go_simp
                      all_goals with_reducible rfl
                    try simp only [Act.put, List.getElem_toArray, List.getElem_cons_succ, List.getElem_cons_zero, List.setIfInBounds_toArray, List.set_cons_zero, List.set_cons_succ]
                    refine wpAnyH_take (i := 4) (v := ?_) rfl (by kernel_rfl) (by kernel_rfl) (by kernel_rfl) (fun _ _ _ h => h) (Or.inl ⟨by rfl, ?_⟩) hHeld ?_
                    rotate_left
                    · intro wq hSw
                      have q0 := op_cell (i := 4) hSw rfl
                      go_simp
                      all_goals with_reducible rfl
                    try simp only [Act.put, List.getElem_toArray, List.getElem_cons_succ, List.getElem_cons_zero, List.setIfInBounds_toArray, List.set_cons_zero, List.set_cons_succ]
                    refine wpAnyH_take (i := 6) (v := ?_) rfl (by kernel_rfl) (by kernel_rfl) (by kernel_rfl) (fun _ _ _ h => h) (Or.inl ⟨by rfl, ?_⟩) hHeld ?_
                    rotate_left
                    · intro wq hSw
                      go_simp
                      all_goals with_reducible rfl
                    try simp only [Act.put, List.getElem_toArray, List.getElem_cons_succ, List.getElem_cons_zero, List.setIfInBounds_toArray, List.set_cons_zero, List.set_cons_succ]
                    refine wpAnyH_take (i := 7) (v := ?_) rfl (by kernel_rfl) (by kernel_rfl) (by kernel_rfl) (fun _ _ _ h => h) (Or.inl ⟨by rfl, ?_⟩) hHeld ?_
                    rotate_left
                    · intro wq hSw
                      go_simp
                      all_goals with_reducible rfl
                    try simp only [Act.put, List.getElem_toArray, List.getElem_cons_succ, List.getElem_cons_zero, List.setIfInBounds_toArray, List.set_cons_zero, List.set_cons_succ]
                    refine wpAnyH_take (i := 8) (v := ?_) rfl (by kernel_rfl) (by kernel_rfl) (by kernel_rfl) (fun _ _ _ h => h) (Or.inl ⟨by rfl, ?_⟩) hHeld ?_
                    rotate_left
                    · intro wq hSw
                      have q0 := op_cell (i := 2) hSw rfl
                      go_simp
                      all_goals with_reducible rfl
                    try simp only [Act.put, List.getElem_toArray, List.getElem_cons_succ, List.getElem_cons_zero, List.setIfInBounds_toArray, List.set_cons_zero, List.set_cons_succ]
                    refine wpAnyH_take (i := 9) (v := ?_) rfl (by kernel_rfl) (by kernel_rfl) (by kernel_rfl) (fun _ _ _ h => h) (Or.inl ⟨by rfl, ?_⟩) hHeld ?_
                    rotate_left
                    · intro wq hSw
                      go_simp
                      all_goals with_reducible rfl
                    try simp only [Act.put, List.getElem_toArray, List.getElem_cons_succ, List.getElem_cons_zero, List.setIfInBounds_toArray, List.set_cons_zero, List.set_cons_succ]
                    refine wpAnyH_take (i := 10) (v := ?_) rfl (by kernel_rfl) (by kernel_rfl) (by kernel_rfl) (fun _ _ _ h => h) (Or.inl ⟨by rfl, ?_⟩) hHeld ?_
                    rotate_left
                    · intro wq hSw
                      have q0 := op_cell (i := 4) hSw rfl
                      go_simp
                      all_goals with_reducible rfl
                    try simp only [Act.put, List.getElem_toArray, List.getElem_cons_succ, List.getElem_cons_zero, List.setIfInBounds_toArray, List.set_cons_zero, List.set_cons_succ]
                    refine wpAnyH_ready (rs := [5]) (by kernel_rfl) (by simp) ?_
                    refine AllReadyH.cons rfl (fun K hK => ?_) AllReadyH.nil
                    go_simp
                    refine (rsaw life num HD.out.rcv).mono ?_
                    rintro e w2 ⟨rfl, s2, k2⟩
                    have T2 := Lib.hid (HD.out.recs s2 k2)
                    have O2 := Lib.hid (row_turned (g := 0) HOBD.out k2 HAP.out.2.1)
                    clear s2 k2
                    refine hK.out _ _ O2.out (fun hHeld => ?_)
                    clear hK K
                    try simp only [Act.put, List.getElem_toArray, List.getElem_cons_succ, List.getElem_cons_zero, List.setIfInBounds_toArray, List.set_cons_zero, List.set_cons_succ]
                    refine wpAnyH_ready (rs := [11]) (by kernel_rfl) (by simp) ?_
                    refine AllReadyH.cons rfl (fun K hK => ?_) AllReadyH.nil
                    go_simp
                    refine (dsaw life num T2.out.dr).mono ?_
                    rintro e w3 ⟨rfl, s2, k2⟩
                    have T3 := Lib.hid (T2.out.docr s2 k2)
                    have O3 := Lib.hid (row_turned (g := 0) O2.out k2 HAP.out.2.2.2)
                    clear s2 k2
                    refine hK.out _ _ O3.out (fun hHeld => ?_)
                    clear hK K
                    try simp only [Act.put, List.getElem_toArray, List.getElem_cons_succ, List.getElem_cons_zero, List.setIfInBounds_toArray, List.set_cons_zero, List.set_cons_succ]
                    refine wpAnyH_take (i := 12) (v := ?_) rfl (by kernel_rfl) (by kernel_rfl) (by kernel_rfl) (fun _ _ _ h => h) (Or.inl ⟨by rfl, ?_⟩) hHeld ?_
                    rotate_left
                    · intro wq hSw
                      go_simp
                      all_goals with_reducible rfl
                    try simp only [Act.put, List.getElem_toArray, List.getElem_cons_succ, List.getElem_cons_zero, List.setIfInBounds_toArray, List.set_cons_zero, List.set_cons_succ]
                    refine wpAnyH_done (by kernel_rfl) ?_ _
                    refine NoPanic.normal ?_
                    clear hHeld
                    obtain ⟨yp, hyp⟩ : ∃ v, sawP rp life num = v := ⟨_, rfl⟩
                    obtain ⟨yg, hyg⟩ : ∃ v, sawG rp rg life num = v := ⟨_, rfl⟩
                    obtain ⟨ys, hys⟩ : ∃ v, sawS rp rs life num = v := ⟨_, rfl⟩
                    have TZ : Hid (Acc W w3 s r t q own sp sg su sp sg su pl yp yg ys yp yg ys) := Lib.hid (by rw [← hyp, ← hyg, ← hys]; exact T3.out)
                    clear T3 T2 O2 O3 HD HOBD hyp hyg hys
                    obtain ⟨bm, hbm⟩ : ∃ v, decide (su < sg) = v := ⟨_, rfl⟩
                    have HBM := Lib.hid hbm
                    have e1 := TZ.out.ds.c3
                    have e2 := TZ.out.ds.c2
                    have e3 := TZ.out.dr.c1
                    have e4 := TZ.out.dr.c3
                    clear hbm
                    go_wp2_with fail
                    go_quiet (first | (go_at_call 22; exact quiet_eqs ((smay (TZ.out.sen.keep ((Keep.refl _).drewN _))).mono fun e w' q => ⟨by rw [q.1, HBM.out], q.2⟩)) | (go_at_call 23; exact dmay_q TZ.out.ds HBM.out) | (go_at_call 24; exact quiet_eqs (ssent (TZ.out.sen.keep ((Keep.refl _).drewN _)))) | (go_at_call 25; exact quiet_eqs (sgranted (TZ.out.sen.keep ((Keep.refl _).drewN _)))) | (go_at_call 26; exact quiet_eqs (rlife (TZ.out.rcv.keep ((Keep.refl _).drewN _)))) | (go_at_call 27; exact quiet_eqs (rseen (TZ.out.rcv.keep ((Keep.refl _).drewN _)))))
                    have TQ := Lib.hid (TZ.out.later ((Keep.refl _).drewN nq))
                    clear TZ e1 e2 e3 e4
                    go_wp2_with fail
                    go_round
                    case rel => exact ⟨i + 1, sp, sg, su, yp, yg, ys, by omega, by omega, by go_num, TQ.out⟩
                    case measure => simp [intOf]; omega
                  | false =>
                    have d1 : w1.cell? ⟨o, 1, none⟩ = some (.int .i64 free) := op_cell HOB.out rfl
                    go_wp2_with fail
                    refine (rgrant free HT1.out.rcv).mono ?_
                    rintro e w2 ⟨rfl, s2, k2⟩
                    have T2 := Lib.hid (HT1.out.recs s2 k2)
                    have O2 := Lib.hid (row_turned (g := 0) HOB.out k2 HAP.out.2.1)
                    have d1 : w2.cell? ⟨o, 1, none⟩ = some (.int .i64 free) := op_cell O2.out rfl
                    clear s2 k2 HT1 HOB
                    go_wp2_with fail
                    refine (dgrant free T2.out.dr T2.out.rcv.high T2.out.rcv.hs).mono ?_
                    rintro e w3 ⟨rfl, s2, k2⟩
                    have T3 := Lib.hid (T2.out.docr s2 k2)
                    clear s2 k2 T2 O2
                    obtain ⟨yg, hyg⟩ : ∃ v, grG pl rg rs free = v := ⟨_, rfl⟩
                    have TZ : Hid (Acc W w3 s r t q own sp sg su sp sg su pl rp yg rs rp yg rs) := Lib.hid (by rw [← hyg]; exact T3.out)
                    clear T3 hyg
                    obtain ⟨bm, hbm⟩ : ∃ v, decide (su < sg) = v := ⟨_, rfl⟩
                    have HBM := Lib.hid hbm
                    have e1 := TZ.out.ds.c3
                    have e2 := TZ.out.ds.c2
                    have e3 := TZ.out.dr.c1
                    have e4 := TZ.out.dr.c3
                    clear hbm
                    go_wp2_with fail
                    go_quiet (first | (go_at_call 22; exact quiet_eqs ((smay (TZ.out.sen.keep ((Keep.refl _).drewN _))).mono fun e w' q => ⟨by rw [q.1, HBM.out], q.2⟩)) | (go_at_call 23; exact dmay_q TZ.out.ds HBM.out) | (go_at_call 24; exact quiet_eqs (ssent (TZ.out.sen.keep ((Keep.refl _).drewN _)))) | (go_at_call 25; exact quiet_eqs (sgranted (TZ.out.sen.keep ((Keep.refl _).drewN _)))) | (go_at_call 26; exact quiet_eqs (rlife (TZ.out.rcv.keep ((Keep.refl _).drewN _)))) | (go_at_call 27; exact quiet_eqs (rseen (TZ.out.rcv.keep ((Keep.refl _).drewN _)))))
                    have TQ := Lib.hid (TZ.out.later ((Keep.refl _).drewN nq))
                    clear TZ e1 e2 e3 e4
                    go_wp2_with fail
                    go_round
                    case rel => exact ⟨i + 1, sp, sg, su, rp, yg, rs, by omega, by omega, by go_num, TQ.out⟩
                    case measure => simp [intOf]; omega
      · obtain rfl : i = 100 := by omega
        go_wp2_with fail
        go_ret
        exact ⟨rfl, HT.out.kp⟩
    · have g1 : decide ((i : Int) < (n : Int)) = false := decide_eq_false (by omega)
      go_wp2_with fail
      go_ret
      exact ⟨rfl, HT.out.kp⟩
theorem cplays (own : Nat) (pl : Int) (n c : Nat) (A : Option Addr) (l : List OpC) (W : World) (h : own < 18446744073709551616) (hb : OpsC W W.heap.size A n l) (hn : n ≤ 140737488351232) :
    Calls Try.prog 3 #[.int .u64 (own : Int), .int .i64 pl, .slice A n c] W fun e w' => e = .returned (.bool true) ∧ Keep W w' := by
  by_cases hp : pl < 1 ∨ 64 < pl
  · cases hs : okL own with
    | true => exact cplays_bad3 n c A l W pl hs hp hb hn
    | false => exact cplays_bad1 n c A l W pl hs hp hb hn
  · obtain ⟨k, rfl⟩ := Int.eq_ofNat_of_zero_le (show 0 ≤ pl by omega)
    cases hs : okL own with
    | true => exact cplays_good n c A l W k hs (by omega) (by omega) hb hn
    | false => exact cplays_bad2 n c A l W k hs (by omega) (by omega) hb hn
end Go.Proofs.Ytgogafhpchfinaa
