/- The walk of CreditWindow. -/
import Derived.Test.YtgogafhpchfinaaQab
import Derived.Test.YtgogafhpchfinaaQac
import Derived.Test.YtgogafhpchfinaaQaa
import Derived.Laws.Bits128
import Derived.StillTailTactics
import Derived.Deep.DeepCutAuto
import Derived.Deep.CutBlock
namespace Go.Proofs.Ytgogafhpchfinaa
open Go.RowKit
set_option linter.unusedVariables false
set_option linter.unusedSimpArgs false
/-- What holds between two steps. -/
structure WinI (most sp sg su rp rg rs : Nat) (ws : List WayC) : Prop where
  a : (sp = 0 ∧ sg = 0) ∨ sp = 1
  b : (rp = 0 ∧ rs = 0) ∨ rp = 1
  c : su ≤ sg
  d : rg ≤ rs + most
  e : sg ≤ rs + most
  f : ∀ p ∈ ws, p.credit = true → p.num ≤ rs + most
section
variable {most sp sg su rp rg rs : Nat} {ws : List WayC}
theorem WinI.data (h : WinI most sp sg su rp rg rs ws) (p : WayC) (hp : p.credit = false) : WinI most sp sg su rp rg rs (ws ++ [p]) :=
  ⟨h.a, h.b, h.c, h.d, h.e, fun q hq hc => by
    rcases List.mem_append.1 hq with hq | hq
    · exact h.f q hq hc
    · simp at hq; subst hq; rw [hp] at hc; cases hc⟩
theorem WinI.use (h : WinI most sp sg su rp rg rs ws) (hlt : su < sg) (p : WayC) (hp : p.credit = false) : WinI most sp sg (su + 1) rp rg rs (ws ++ [p]) :=
  ⟨h.a, h.b, by omega, h.d, h.e, (h.data p hp).f⟩
theorem WinI.grant (h : WinI most sp sg su rp rg rs ws) {q : Nat} (hq : q ≤ most) {g : Nat} (hg : grG most rg rs (q : Int) = g) (p : WayC) (hp : p.num = g) : WinI most sp sg su rp g rs (ws ++ [p]) := by
  have e : grE most (q : Int) = 0 := grE_in hq
  have hle : g ≤ rs + most := by rw [← hg]; unfold grG; rw [e, if_pos rfl]; have := h.d; omega
  refine ⟨h.a, h.b, h.c, hle, h.e, fun x hx hc => ?_⟩
  rcases List.mem_append.1 hx with hx | hx
  · exact h.f x hx hc
  · simp at hx; subst hx; omega
theorem WinI.take (h : WinI most sp sg su rp rg rs ws) {n : Nat} (hn : n ≤ rs + most) {P G : Nat} (hP : takeP 1 sp 1 1 n = P) (hG : takeG 1 sp sg 1 1 n = G) : WinI most P G su rp rg rs ws := by
  have ha := h.a; have hc := h.c; have he := h.e
  by_cases e : takeE 1 sp 1 1 n = 0
  · rw [takeP, e, if_pos rfl] at hP
    subst hP
    by_cases h2 : sp < 1 ∨ sg < n
    · rw [takeG, if_pos ⟨e, h2⟩] at hG
      exact ⟨Or.inr rfl, h.b, by omega, h.d, by omega, h.f⟩
    · rw [takeG, if_neg (fun x => h2 x.2)] at hG
      exact ⟨Or.inr rfl, h.b, by omega, h.d, by omega, h.f⟩
  · rw [takeP, if_neg e] at hP
    rw [takeG, if_neg (fun x => e x.1)] at hG
    subst hP; subst hG
    exact h
theorem WinI.saw (h : WinI most sp sg su rp rg rs ws) {n : Nat} {P G S : Nat} (hP : sawP rp 1 n = P) (hG : sawG rp rg 1 n = G) (hS : sawS rp rs 1 n = S) : WinI most sp sg su P G S ws := by
  have hb := h.b; have hd := h.d; have he := h.e; have hf := h.f
  by_cases e : sawE rp 1 n = 0
  · rw [sawP, e, if_pos rfl] at hP
    rw [sawS, e, if_pos rfl] at hS
    subst hP
    have hrs : rs ≤ S := by rw [← hS]; split <;> omega
    have hg : G ≤ rg := by rw [← hG]; unfold sawG; split <;> omega
    exact ⟨h.a, Or.inr rfl, h.c, by omega, by omega, fun p hp hc => by have := hf p hp hc; omega⟩
  · rw [sawP, if_neg e] at hP
    rw [sawG, if_neg (fun x => e x.1)] at hG
    rw [sawS, if_neg e] at hS
    subst hP; subst hG; subst hS
    exact h
theorem WinI.out (h : WinI most sp sg su rp rg rs ws) (k : Nat) : WinI most sp sg su rp rg rs (ws.eraseIdx k) :=
  ⟨h.a, h.b, h.c, h.d, h.e, fun p hp hc => h.f p (List.mem_of_mem_eraseIdx hp) hc⟩
theorem stp_cell {w : World} {g i : Nat} {cs : Array Value} {ty : TypeId} {v : Value} (h : w.heap[g]? = some (.cells cs ty (0, 0))) (hv : cs[i]? = some v) : w.cell? ⟨g, i, none⟩ = some v := by
  unfold World.cell?; rw [h]; exact hv
theorem wpList_run_append {ops : Array Oper} {rest : List Oper} {o : Oper} {a : Act} {Q : Exit → Act → World → Prop} {w w' : World} (hgd : o.guard = none) (s x : Operand) (t : TypeId)
    (ho : o.op = .call { callee := .builtin .append, args := #[s, x], argTypes := #[t, t] }) {sv xv v : Value} (hs : a.eval s = sv) (hx : a.eval x = xv)
    (hr : (Builtin.append_ #[t, t] o.type #[sv, xv]).run Try.prog w = .ok v w') (h : wpList Try.prog ops Q rest (a.put o.dst v) w') : wpList Try.prog ops Q (o :: rest) a w := by
  refine wpList_plain hgd fun _ hK => ?_
  unfold Oper.wp execOp
  simp only [ho, resolve, invoke, builtin, Sem.run_bind, Sem.run_pure, Result.andThen_ok, List.map_toArray, List.map_cons, List.map_nil, hs, hx, hr]
  exact hK _ _ h
/-- ways[:k:k]. -/
theorem run_head_way (n c k : Nat) (A : Option Addr) (hk : k ≤ n) (hc : n ≤ c) (w : World) :
    (Instr.slice 58 (.slice A n c) none (some (.int .i64 (k : Int))) (some (.int .i64 (k : Int)))).run Try.prog w = .ok (.slice A k k) w := by
  obtain ⟨i0, hi0, hz0, hz1, hz2⟩ := info_parts infoWay
  have he : Try.prog.elem 58 = 65 := by kernel_rfl
  rw [run_slice_hm (P := Try.prog) (w := w) 58 A n c (by rw [he]; exact Try.underlying58) .i64 .i64 (k : Int) (k : Int) (by omega) (by omega) (by omega)]
  have ha : A.map (fun x : Addr => x.add 0) = A := by
    cases A with
    | none => rfl
    | some a =>
      obtain ⟨b, off, spot⟩ := a
      simp [Addr.add]
  simp [sizeOf, typeInfo, he, hi0, hz1, sliced]
  exact fun _ => ha
theorem run_tail_way (n c k : Nat) (A : Option Addr) (hk : k < n) {z : Int} (hz : z = ((k + 1 : Nat) : Int)) (w : World) :
    (Instr.slice 58 (.slice A n c) (some (.int .i64 z)) none none).run Try.prog w = .ok (.slice (dropWA A c (k + 1)) (n - (k + 1)) (c - (k + 1))) w := by
  subst hz
  have he : Try.prog.elem 58 = 65 := by kernel_rfl
  exact run_drop_way (by rw [he]; exact Try.underlying58) he n c (k + 1) A (by omega) w
end
set_option maxRecDepth 100000 in
set_option maxHeartbeats 16000000 in
theorem cwindow (n c x : Nat) (A0 : Option Addr) (l : List StepC) (W : World) (hb : StepsC W W.heap.size A0 n l) (hn : n ≤ 140737488351232) (hx : x < 256) :
    Calls Try.prog 7 #[.slice A0 n c, .int .u8 (x : Int)] W fun e w' => e = .returned (.bool true) ∧ Keep W w' := by
  obtain ⟨q, hq⟩ : ∃ q, x % 64 = q := ⟨_, rfl⟩
  obtain ⟨most, hk⟩ : ∃ k, 1 + q = k := ⟨_, rfl⟩
  have d1 : (x : Int) % 64 = (q : Int) := by omega
  have d2 : (x : Int).tmod 64 = (q : Int) := by rw [Int.tmod_eq_emod_of_nonneg (by omega)]; omega
  have d3 : 1 + (q : Int) = (most : Int) := by omega
  have d4 : IntKind.u64.wrap (most : Int) = (most : Int) := IntWalk.u64_in _ (by omega)
  have m1 : 1 ≤ most := by omega
  have m64 : most ≤ 64 := by omega
  have HB := Lib.hid hb
  have HN := Lib.hid hn
  clear hb hn hq hk
  go_enter Try.func7, Try.ntmps7
  go_wp2_with fail
  refine (snew_in 1 (by decide) _).mono ?_
  rintro e w0 ⟨rfl, b0, c0⟩
  obtain ⟨s, hs⟩ : ∃ s, W.heap.size = s := ⟨_, rfl⟩
  rw [hs] at b0
  simp only [hs]
  have B0 := Lib.hid b0
  have C0 := Lib.hid c0
  have HS := Lib.hid hs
  clear b0 c0 hs
  go_wp2_with fail
  refine (rnew_in most m1 m64 _).mono ?_
  rintro e v1 ⟨rfl, b1, c1⟩
  obtain ⟨r, hr⟩ : ∃ r, w0.heap.size = r := ⟨_, rfl⟩
  rw [hr] at b1
  simp only [hr]
  have T0 : Hid (Line (fun _ => False) W v1 s r 1 0 0 0 most 0 0 0 none 0 0 []) := Lib.hid (Line.start ⟨B0.out.keep c1, b1, (by have := B0.out.lt; omega), Nat.le_of_eq HS.out, (by have := C0.out.size; omega), C0.out.trans c1⟩ (fun b hb => hb.elim))
  have M1 := Lib.hid m1
  have M64 := Lib.hid m64
  clear b1 c1 hr B0 C0 HS m1 m64 d1 d2 d3
  go_wp2_with fail
  go_loopw [10, 11] (fun wv iv wr => ∃ (i m c sp sg su rp rg rs : Nat) (A : Option Addr) (ws : List WayC), i ≤ n ∧ i ≤ 100 ∧ m ≤ i ∧ wv = .slice A m c ∧ iv = .int .i64 i ∧ Line (fun _ => False) W wr s r 1 sp sg su most rp rg rs A m c ws ∧ WinI most sp sg su rp rg rs ws) (fun _ iv _ => 100 - (intOf iv).toNat)
  case atStart => exact ⟨0, 0, 0, 0, 0, 0, 0, 0, 0, none, [], by omega, by omega, by omega, rfl, rfl, T0.out, ⟨Or.inl ⟨rfl, rfl⟩, Or.inl ⟨rfl, rfl⟩, by omega, by omega, by omega, fun p hp => by cases hp⟩⟩
  case round =>
    obtain ⟨i, m, c, sp, sg, su, rp, rg, rs, A, ws, hi, hi2, hmi, rfl, rfl, hl, hw⟩ := hrel
    have HL := Lib.hid hl
    have HW := Lib.hid hw
    have HI := Lib.hid hi
    have HMI := Lib.hid hmi
    clear hl hw hi hmi T0
    by_cases hlt : i < n
    · have g1 : decide ((i : Int) < (n : Int)) = true := decide_eq_true (by omega)
      by_cases hlt2 : i < 100
      · have g2 : decide ((i : Int) < 100) = true := decide_eq_true (by omega)
        obtain ⟨b, off, a, rfl, hbl, hcell, hat, hf1, hf2⟩ := HB.out.one hlt
        obtain ⟨what, free, at_, stays⟩ := a
        replace hat : at_ < 65536 := hat
        clear hf1 hf2
        obtain ⟨c0, c1, c2, c3⟩ := hcell _ HL.out.two.kp
        have g3 : (i : Int) < (n : Int) := by omega
        have g0 : (0 : Int) ≤ (i : Int) := Int.natCast_nonneg _
        clear hcell hbl
        have hob := heap_alloc_new wr (.cells #[.int .i64 what, .int .i64 free, .int .u16 (at_ : Int), .bool stays] 63)
        have hka := (Keep.refl wr).alloc #[.int .i64 what, .int .i64 free, .int .u16 (at_ : Int), .bool stays] 63
        obtain ⟨w1, hw1⟩ : ∃ w1, wr.alloc (.cells #[.int .i64 what, .int .i64 free, .int .u16 (at_ : Int), .bool stays] 63) = w1 := ⟨_, rfl⟩
        obtain ⟨o, ho⟩ : ∃ v, wr.heap.size = v := ⟨_, rfl⟩
        rw [hw1, ho] at hob
        rw [hw1] at hka
        have HL1 := Lib.hid (HL.out.later hka)
        have HOB := Lib.hid hob
        have d0 : w1.cell? ⟨o, 0, none⟩ = some (.int .i64 what) := stp_cell hob rfl
        clear hob hka HL
        go_upto_if 89 with fail
        go_cut [89] from 89 to 93 (fun v wx => wx = w1 ∧ ∃ z : Bool, v = .bool z)
        case first =>
          by_cases x0 : what = 0
          · have y0 : (what == 0) = true := beq_iff_eq.2 x0
            have z0 : decide (what = 0) = true := decide_eq_true x0
            clear x0
            go_wp2_with fail
            go_meet
            case rel => exact ⟨rfl, true, rfl⟩
          · have y0 : (what == 0) = false := beq_eq_false_iff_ne.2 x0
            have z0 : decide (what = 0) = false := decide_eq_false x0
            clear x0
            by_cases x1 : what = 1
            · have y1 : (what == 1) = true := beq_iff_eq.2 x1
              have z1 : decide (what = 1) = true := decide_eq_true x1
              clear x1
              go_wp2_with fail
              go_meet
              case rel => exact ⟨rfl, true, rfl⟩
            · have y1 : (what == 1) = false := beq_eq_false_iff_ne.2 x1
              have z1 : decide (what = 1) = false := decide_eq_false x1
              clear x1
              by_cases x2 : what = 2
              · have y2 : (what == 2) = true := beq_iff_eq.2 x2
                have z2 : decide (what = 2) = true := decide_eq_true x2
                clear x2
                go_wp2_with fail
                go_meet
                case rel => exact ⟨rfl, true, rfl⟩
              · have y2 : (what == 2) = false := beq_eq_false_iff_ne.2 x2
                have z2 : decide (what = 2) = false := decide_eq_false x2
                clear x2
                go_wp2_with fail
                go_meet
                case rel => exact ⟨rfl, false, rfl⟩
        case rest =>
          obtain ⟨hwc, z, rfl⟩ := hcut
          obtain rfl : w1 = wc := hwc.symm
          cases z with
          | true =>
            by_cases hus : su < sg
            ·
              obtain ⟨su1, hsu1⟩ : ∃ v, su + 1 = v := ⟨_, rfl⟩
              have eU : useU sg su = su1 := by unfold useU; rw [if_pos hus, hsu1]
              have eV : useV sg su = su1 := by unfold useV; rw [if_pos hus, hsu1]
              have eE : useE sg su = 0 := if_pos hus
              have IZ : Hid (WinI most sp sg su1 rp rg rs (ws ++ [⟨false, 0, 0, su1⟩])) := Lib.hid (hsu1 ▸ HW.out.use hus _ rfl)
              have CU := Lib.hid (line_use HL1.out eE eU eV)
              clear hsu1 eU eV eE hus HW
              go_wp2_with fail
              refine CU.out.mono ?_
              rintro e w2 ⟨rfl, l2, -⟩
              have L2 := Lib.hid l2
              clear l2 CU HL1 HOB
              go_wp2_with (at_builtin; refine wpList_line_put rfl _ _ 58 rfl ⟨false, 0, 0, su1⟩ Try.underlying58 L2.out (by have := HMI.out; omega) rfl rfl rfl ?_)
              intro A2 c2 w3 l3 _ _
              have LZ := Lib.hid l3
              have HMZ : Hid (m + 1 ≤ i + 1) := Lib.hid (by have := HMI.out; omega)
              clear l3
              clear L2
              obtain ⟨t0, ht0⟩ : ∃ t, rs + most = t := ⟨_, rfl⟩
              have n1 : decide ((t0 : Int) < (su1 : Int)) = false := decide_eq_false (by have := IZ.out.c; have := IZ.out.e; omega)
              have n2 : decide ((t0 : Int) < (sg : Int)) = false := decide_eq_false (by have := IZ.out.e; omega)
              have n3 : decide (t0 < su1) = false := decide_eq_false (by have := IZ.out.c; have := IZ.out.e; omega)
              have n4 : decide (t0 < sg) = false := decide_eq_false (by have := IZ.out.e; omega)
              have n5 : IntKind.u64.wrap ((rs : Int) + (most : Int)) = (t0 : Int) := by rw [IntWalk.u64_in _ (by have := LZ.out.two.rcv.hs; have := M64.out; omega)]; omega
              clear ht0
              go_wp2_with fail
              refine (ssent LZ.out.two.sen).mono ?_
              rintro e v ⟨rfl, rfl⟩
              go_wp2_with fail
              refine (rseen LZ.out.two.rcv).mono ?_
              rintro e v ⟨rfl, rfl⟩
              go_wp2_with fail
              refine (sgranted LZ.out.two.sen).mono ?_
              rintro e v ⟨rfl, rfl⟩
              go_wp2_with fail
              refine (rseen LZ.out.two.rcv).mono ?_
              rintro e v ⟨rfl, rfl⟩
              go_wp2_with fail
              go_round
              case rel => exact ⟨i + 1, m + 1, c2, sp, sg, su1, rp, rg, rs, A2, (ws ++ [⟨false, 0, 0, su1⟩]), by omega, by omega, HMZ.out, rfl, by go_num, LZ.out, IZ.out⟩
              case measure => simp [intOf]; omega
            ·
              have eU : useU sg su = su := if_neg hus
              have eV : useV sg su = 0 := if_neg hus
              have eE : useE sg su = 26 := if_neg hus
              have CU := Lib.hid (line_use HL1.out eE eU eV)
              have IZ := HW
              have HMZ : Hid (m ≤ i + 1) := Lib.hid (by have := HMI.out; omega)
              clear eU eV eE hus HW
              go_wp2_with fail
              refine CU.out.mono ?_
              rintro e w2 ⟨rfl, l2, -⟩
              have LZ := Lib.hid l2
              clear l2 CU HL1 HOB
              obtain ⟨t0, ht0⟩ : ∃ t, rs + most = t := ⟨_, rfl⟩
              have n1 : decide ((t0 : Int) < (su : Int)) = false := decide_eq_false (by have := IZ.out.c; have := IZ.out.e; omega)
              have n2 : decide ((t0 : Int) < (sg : Int)) = false := decide_eq_false (by have := IZ.out.e; omega)
              have n3 : decide (t0 < su) = false := decide_eq_false (by have := IZ.out.c; have := IZ.out.e; omega)
              have n4 : decide (t0 < sg) = false := decide_eq_false (by have := IZ.out.e; omega)
              have n5 : IntKind.u64.wrap ((rs : Int) + (most : Int)) = (t0 : Int) := by rw [IntWalk.u64_in _ (by have := LZ.out.two.rcv.hs; have := M64.out; omega)]; omega
              clear ht0
              go_wp2_with fail
              refine (ssent LZ.out.two.sen).mono ?_
              rintro e v ⟨rfl, rfl⟩
              go_wp2_with fail
              refine (rseen LZ.out.two.rcv).mono ?_
              rintro e v ⟨rfl, rfl⟩
              go_wp2_with fail
              refine (sgranted LZ.out.two.sen).mono ?_
              rintro e v ⟨rfl, rfl⟩
              go_wp2_with fail
              refine (rseen LZ.out.two.rcv).mono ?_
              rintro e v ⟨rfl, rfl⟩
              go_wp2_with fail
              go_round
              case rel => exact ⟨i + 1, m, c, sp, sg, su, rp, rg, rs, A, ws, by omega, by omega, HMZ.out, rfl, by go_num, LZ.out, IZ.out⟩
              case measure => simp [intOf]; omega
          | false =>
            by_cases x3 : what = 3
            · have y3 : (what == 3) = true := beq_iff_eq.2 x3
              have z3 : decide (what = 3) = true := decide_eq_true x3
              clear x3
              have IZ : Hid (WinI most sp sg su rp rg rs (ws ++ [⟨false, 0, 0, su⟩])) := Lib.hid (HW.out.data _ rfl)
              clear HW
              go_wp2_with fail
              refine (ssent HL1.out.two.sen).mono ?_
              rintro e w2 ⟨rfl, rfl⟩
              go_wp2_with (at_builtin; refine wpList_line_put rfl _ _ 58 rfl ⟨false, 0, 0, su⟩ Try.underlying58 HL1.out (by have := HMI.out; omega) rfl rfl rfl ?_)
              intro A2 c2 w3 l3 _ _
              have LZ := Lib.hid l3
              have HMZ : Hid (m + 1 ≤ i + 1) := Lib.hid (by have := HMI.out; omega)
              clear l3
              clear HL1 HOB
              obtain ⟨t0, ht0⟩ : ∃ t, rs + most = t := ⟨_, rfl⟩
              have n1 : decide ((t0 : Int) < (su : Int)) = false := decide_eq_false (by have := IZ.out.c; have := IZ.out.e; omega)
              have n2 : decide ((t0 : Int) < (sg : Int)) = false := decide_eq_false (by have := IZ.out.e; omega)
              have n3 : decide (t0 < su) = false := decide_eq_false (by have := IZ.out.c; have := IZ.out.e; omega)
              have n4 : decide (t0 < sg) = false := decide_eq_false (by have := IZ.out.e; omega)
              have n5 : IntKind.u64.wrap ((rs : Int) + (most : Int)) = (t0 : Int) := by rw [IntWalk.u64_in _ (by have := LZ.out.two.rcv.hs; have := M64.out; omega)]; omega
              clear ht0
              go_wp2_with fail
              refine (ssent LZ.out.two.sen).mono ?_
              rintro e v ⟨rfl, rfl⟩
              go_wp2_with fail
              refine (rseen LZ.out.two.rcv).mono ?_
              rintro e v ⟨rfl, rfl⟩
              go_wp2_with fail
              refine (sgranted LZ.out.two.sen).mono ?_
              rintro e v ⟨rfl, rfl⟩
              go_wp2_with fail
              refine (rseen LZ.out.two.rcv).mono ?_
              rintro e v ⟨rfl, rfl⟩
              go_wp2_with fail
              go_round
              case rel => exact ⟨i + 1, m + 1, c2, sp, sg, su, rp, rg, rs, A2, (ws ++ [⟨false, 0, 0, su⟩]), by omega, by omega, HMZ.out, rfl, by go_num, LZ.out, IZ.out⟩
              case measure => simp [intOf]; omega
            · have y3 : (what == 3) = false := beq_eq_false_iff_ne.2 x3
              have z3 : decide (what = 3) = false := decide_eq_false x3
              clear x3
              by_cases x4 : what = 4
              · have y4 : (what == 4) = true := beq_iff_eq.2 x4
                have z4 : decide (what = 4) = true := decide_eq_true x4
                clear x4
                have d1 : w1.cell? ⟨o, 1, none⟩ = some (.int .i64 free) := stp_cell HOB.out rfl
                obtain ⟨y, hy⟩ := Int.eq_ofNat_of_zero_le (show 0 ≤ free % 128 by omega)
                have hy2 : y < 128 := by omega
                obtain ⟨m1, hm1⟩ : ∃ v, most + 1 = v := ⟨_, rfl⟩
                obtain ⟨q, hq⟩ : ∃ v, y % m1 = v := ⟨_, rfl⟩
                have hql : q < m1 := by rw [← hq]; exact Nat.mod_lt _ (by omega)
                have a1 : bits .and .i64 free 127 = (y : Int) := (i64_and127 free).trans hy
                have a2 : (most : Int) + 1 = (m1 : Int) := by omega
                have a3 : (y : Int).tmod (m1 : Int) = (q : Int) := by rw [Int.tmod_eq_emod_of_nonneg (by omega), ← hq]; rfl
                have a4 : (y : Int) % (m1 : Int) = (q : Int) := by rw [← hq]; rfl
                have a5 : ¬ (m1 : Int) = 0 := by omega
                have a6 : IntKind.i64.wrap (q : Int) = (q : Int) := IntWalk.i64_in _ (by have := M64.out; omega)
                have a7 : IntKind.i64.wrap (m1 : Int) = (m1 : Int) := IntWalk.i64_in _ (by have := M64.out; omega)
                have a8 : IntKind.i64.wrap ((most : Int) + 1) = (m1 : Int) := by rw [a2, a7]
                have a9 : ¬ m1 = 0 := by omega
                obtain ⟨g2, hg2⟩ : ∃ v, grG most rg rs (q : Int) = v := ⟨_, rfl⟩
                have eE : grE most (q : Int) = 0 := grE_in (by omega)
                have eV : grV most rg rs (q : Int) = g2 := by rw [grV, eE, if_pos rfl, hg2]
                have IZ : Hid (WinI most sp sg su rp g2 rs (ws ++ [⟨true, 0, 0, g2⟩])) := Lib.hid (HW.out.grant (q := q) (by omega) hg2 _ rfl)
                have CU := Lib.hid (line_grant HL1.out (q : Int) eE eV hg2)
                clear hy hy2 hm1 hq hql hg2 eE eV HW a2
                go_wp2_with fail
                refine CU.out.mono ?_
                rintro e w2 ⟨rfl, l2, -⟩
                have L2 := Lib.hid l2
                clear l2 CU HL1 HOB
                go_wp2_with (at_builtin; refine wpList_line_put rfl _ _ 58 rfl ⟨true, 0, 0, g2⟩ Try.underlying58 L2.out (by have := HMI.out; omega) rfl rfl rfl ?_)
                intro A2 c2 w3 l3 _ _
                have LZ := Lib.hid l3
                have HMZ : Hid (m + 1 ≤ i + 1) := Lib.hid (by have := HMI.out; omega)
                clear l3
                clear L2
                obtain ⟨t0, ht0⟩ : ∃ t, rs + most = t := ⟨_, rfl⟩
                have n1 : decide ((t0 : Int) < (su : Int)) = false := decide_eq_false (by have := IZ.out.c; have := IZ.out.e; omega)
                have n2 : decide ((t0 : Int) < (sg : Int)) = false := decide_eq_false (by have := IZ.out.e; omega)
                have n3 : decide (t0 < su) = false := decide_eq_false (by have := IZ.out.c; have := IZ.out.e; omega)
                have n4 : decide (t0 < sg) = false := decide_eq_false (by have := IZ.out.e; omega)
                have n5 : IntKind.u64.wrap ((rs : Int) + (most : Int)) = (t0 : Int) := by rw [IntWalk.u64_in _ (by have := LZ.out.two.rcv.hs; have := M64.out; omega)]; omega
                clear ht0
                go_wp2_with fail
                refine (ssent LZ.out.two.sen).mono ?_
                rintro e v ⟨rfl, rfl⟩
                go_wp2_with fail
                refine (rseen LZ.out.two.rcv).mono ?_
                rintro e v ⟨rfl, rfl⟩
                go_wp2_with fail
                refine (sgranted LZ.out.two.sen).mono ?_
                rintro e v ⟨rfl, rfl⟩
                go_wp2_with fail
                refine (rseen LZ.out.two.rcv).mono ?_
                rintro e v ⟨rfl, rfl⟩
                go_wp2_with fail
                go_round
                case rel => exact ⟨i + 1, m + 1, c2, sp, sg, su, rp, g2, rs, A2, (ws ++ [⟨true, 0, 0, g2⟩]), by omega, by omega, HMZ.out, rfl, by go_num, LZ.out, IZ.out⟩
                case measure => simp [intOf]; omega
              · have y4 : (what == 4) = false := beq_eq_false_iff_ne.2 x4
                have z4 : decide (what = 4) = false := decide_eq_false x4
                clear x4
                have d2 : w1.cell? ⟨o, 2, none⟩ = some (.int .u16 (at_ : Int)) := stp_cell HOB.out rfl
                have d3 : w1.cell? ⟨o, 3, none⟩ = some (.bool stays) := stp_cell HOB.out rfl
                by_cases hm0 : m = 0
                ·
                  subst hm0
                  go_wp2_with fail
                  go_round
                  case rel => exact ⟨i + 1, 0, c, sp, sg, su, rp, rg, rs, A, ws, by omega, by omega, by omega, rfl, by go_num, HL1.out, HW.out⟩
                  case measure => simp [intOf]; omega
                ·
                  obtain ⟨k, hk⟩ : ∃ v, at_ % m = v := ⟨_, rfl⟩
                  have hkm : k < m := by rw [← hk]; exact Nat.mod_lt _ (by omega)
                  have hm100 : m ≤ 100 := by have := HMI.out; omega
                  have b0 : ¬ (m : Int) = 0 := by omega
                  have b1 : decide ((m : Int) = 0) = false := decide_eq_false b0
                  have b2 : IntKind.i64.wrap (at_ : Int) = (at_ : Int) := IntWalk.i64_in _ (by omega)
                  have b3 : (at_ : Int).tmod (m : Int) = (k : Int) := by rw [Int.tmod_eq_emod_of_nonneg (by omega), ← hk]; rfl
                  have b4 : (at_ : Int) % (m : Int) = (k : Int) := by rw [← hk]; rfl
                  have b5 : IntKind.i64.wrap (k : Int) = (k : Int) := IntWalk.i64_in _ (by omega)
                  have b6 : (0 : Int) ≤ (k : Int) := Int.natCast_nonneg _
                  have b7 : (k : Int) < (m : Int) := by omega
                  obtain ⟨gw, ow, p, hA, hgw1, hgw2, hpk, e0, e1, e2, e3⟩ := HL1.out.ways.at_ hkm
                  subst hA
                  obtain ⟨cr, lf, ds, nm⟩ := p
                  have HP := Lib.hid hpk
                  have HKM := Lib.hid hkm
                  have HM100 := Lib.hid hm100
                  clear hk hkm hgw1 hgw2 hpk hm0 hm100
                  have hvb := heap_alloc_new w1 (.cells #[.bool cr, .int .u64 (lf : Int), .int .u64 (ds : Int), .int .u64 (nm : Int)] 65)
                  have hkv := (Keep.refl w1).alloc #[.bool cr, .int .u64 (lf : Int), .int .u64 (ds : Int), .int .u64 (nm : Int)] 65
                  obtain ⟨w2, hw2⟩ : ∃ v, w1.alloc (.cells #[.bool cr, .int .u64 (lf : Int), .int .u64 (ds : Int), .int .u64 (nm : Int)] 65) = v := ⟨_, rfl⟩
                  obtain ⟨vb, hv⟩ : ∃ v, w1.heap.size = v := ⟨_, rfl⟩
                  rw [hw2, hv] at hvb
                  rw [hw2] at hkv
                  have HL2 := Lib.hid (HL1.out.later hkv)
                  have HVB := Lib.hid hvb
                  have HO2 : w2.cell? ⟨o, 3, none⟩ = some (.bool stays) := (Below.cell (B := w1.heap.size) hkv (show o < w1.heap.size from (Array.getElem?_eq_some_iff.1 HOB.out).1)).trans d3
                  clear hvb hkv HL1
                  cases stays with
                  | true =>
                    have HV3 := Lib.hid (show w2.heap[vb]? = some (.cells #[.bool cr, .int .u64 (lf : Int), .int .u64 (ds : Int), .int .u64 (nm : Int)] 65 (0, 0)) from HVB.out)
                    have v0 : w2.cell? ⟨vb, 0, none⟩ = some (.bool cr) := stp_cell HV3.out rfl
                    have v3 : w2.cell? ⟨vb, 3, none⟩ = some (.int .u64 (nm : Int)) := stp_cell HV3.out rfl
                    cases cr with
                    | true =>
                      obtain ⟨P2, hP⟩ : ∃ v, takeP 1 sp 1 1 nm = v := ⟨_, rfl⟩
                      obtain ⟨G2, hG⟩ : ∃ v, takeG 1 sp sg 1 1 nm = v := ⟨_, rfl⟩
                      have IZ := Lib.hid ((HW.out).take (HW.out.f _ (List.mem_of_getElem? HP.out) rfl) hP hG)
                      have CT := Lib.hid (line_take HL2.out 1 1 nm rfl hP hG rfl rfl rfl)
                      clear hP hG HW
                      go_wp2_with fail
                      refine CT.out.mono ?_
                      rintro e w5 ⟨rfl, l5, -⟩
                      have LZ := Lib.hid l5
                      clear l5 CT
                      have HMZ : Hid (m ≤ i + 1) := Lib.hid (by have := HMI.out; omega)
                      obtain ⟨t0, ht0⟩ : ∃ t, rs + most = t := ⟨_, rfl⟩
                      have n1 : decide ((t0 : Int) < (su : Int)) = false := decide_eq_false (by have := IZ.out.c; have := IZ.out.e; omega)
                      have n2 : decide ((t0 : Int) < (G2 : Int)) = false := decide_eq_false (by have := IZ.out.e; omega)
                      have n3 : decide (t0 < su) = false := decide_eq_false (by have := IZ.out.c; have := IZ.out.e; omega)
                      have n4 : decide (t0 < G2) = false := decide_eq_false (by have := IZ.out.e; omega)
                      have n5 : IntKind.u64.wrap ((rs : Int) + (most : Int)) = (t0 : Int) := by rw [IntWalk.u64_in _ (by have := LZ.out.two.rcv.hs; have := M64.out; omega)]; omega
                      clear ht0
                      go_wp2_with fail
                      refine (ssent LZ.out.two.sen).mono ?_
                      rintro e v ⟨rfl, rfl⟩
                      go_wp2_with fail
                      refine (rseen LZ.out.two.rcv).mono ?_
                      rintro e v ⟨rfl, rfl⟩
                      go_wp2_with fail
                      refine (sgranted LZ.out.two.sen).mono ?_
                      rintro e v ⟨rfl, rfl⟩
                      go_wp2_with fail
                      refine (rseen LZ.out.two.rcv).mono ?_
                      rintro e v ⟨rfl, rfl⟩
                      go_wp2_with fail
                      go_round
                      case rel => exact ⟨i + 1, m, c, P2, G2, su, rp, rg, rs, (some ⟨gw, ow, none⟩), ws, by omega, by omega, HMZ.out, rfl, by go_num, LZ.out, IZ.out⟩
                      case measure => simp [intOf]; omega
                    | false =>
                      obtain ⟨P2, hP⟩ : ∃ v, sawP rp 1 nm = v := ⟨_, rfl⟩
                      obtain ⟨G2, hG⟩ : ∃ v, sawG rp rg 1 nm = v := ⟨_, rfl⟩
                      obtain ⟨S2, hS⟩ : ∃ v, sawS rp rs 1 nm = v := ⟨_, rfl⟩
                      have IZ := Lib.hid ((HW.out).saw hP hG hS)
                      have CT := Lib.hid (line_saw HL2.out 1 nm rfl hP hG hS rfl rfl)
                      clear hP hG hS HW
                      go_wp2_with fail
                      refine CT.out.mono ?_
                      rintro e w5 ⟨rfl, l5, -⟩
                      have LZ := Lib.hid l5
                      clear l5 CT
                      have HMZ : Hid (m ≤ i + 1) := Lib.hid (by have := HMI.out; omega)
                      obtain ⟨t0, ht0⟩ : ∃ t, S2 + most = t := ⟨_, rfl⟩
                      have n1 : decide ((t0 : Int) < (su : Int)) = false := decide_eq_false (by have := IZ.out.c; have := IZ.out.e; omega)
                      have n2 : decide ((t0 : Int) < (sg : Int)) = false := decide_eq_false (by have := IZ.out.e; omega)
                      have n3 : decide (t0 < su) = false := decide_eq_false (by have := IZ.out.c; have := IZ.out.e; omega)
                      have n4 : decide (t0 < sg) = false := decide_eq_false (by have := IZ.out.e; omega)
                      have n5 : IntKind.u64.wrap ((S2 : Int) + (most : Int)) = (t0 : Int) := by rw [IntWalk.u64_in _ (by have := LZ.out.two.rcv.hs; have := M64.out; omega)]; omega
                      clear ht0
                      go_wp2_with fail
                      refine (ssent LZ.out.two.sen).mono ?_
                      rintro e v ⟨rfl, rfl⟩
                      go_wp2_with fail
                      refine (rseen LZ.out.two.rcv).mono ?_
                      rintro e v ⟨rfl, rfl⟩
                      go_wp2_with fail
                      refine (sgranted LZ.out.two.sen).mono ?_
                      rintro e v ⟨rfl, rfl⟩
                      go_wp2_with fail
                      refine (rseen LZ.out.two.rcv).mono ?_
                      rintro e v ⟨rfl, rfl⟩
                      go_wp2_with fail
                      go_round
                      case rel => exact ⟨i + 1, m, c, sp, sg, su, P2, G2, S2, (some ⟨gw, ow, none⟩), ws, by omega, by omega, HMZ.out, rfl, by go_num, LZ.out, IZ.out⟩
                      case measure => simp [intOf]; omega
                  | false =>
                    have q1 := run_head_way m c k (some ⟨gw, ow, none⟩) (Nat.le_of_lt HKM.out) HL2.out.ways.cap.1
                    have q2 : ∀ w : World, (Instr.slice 58 (.slice (some ⟨gw, ow, none⟩) m c) (some (.int .i64 ((k : Int) + 1))) none none).run Try.prog w = .ok (.slice (dropWA (some ⟨gw, ow, none⟩) c (k + 1)) (m - (k + 1)) (c - (k + 1))) w := run_tail_way m c k _ HKM.out (by omega)
                    have q3 : IntKind.i64.wrap ((k : Int) + 1) = (k : Int) + 1 := IntWalk.i64_in _ (by have := HKM.out; have := HM100.out; omega)
                    have hkd : Keep w2 w2.drew := (Keep.refl w2).drew
                    obtain ⟨A3, c3, w3, hrun, l3, k3⟩ := (HL2.out.later hkd).out HKM.out (by have := HM100.out; omega) Try.underlying58 58
                    obtain ⟨D, hD⟩ : ∃ v, dropWA (some ⟨gw, ow, none⟩) c (k + 1) = v := ⟨_, rfl⟩
                    obtain ⟨dn, hdn⟩ : ∃ v, m - (k + 1) = v := ⟨_, rfl⟩
                    obtain ⟨dc, hdc⟩ : ∃ v, c - (k + 1) = v := ⟨_, rfl⟩
                    obtain ⟨m3, hm3⟩ : ∃ v, m - 1 = v := ⟨_, rfl⟩
                    simp only [hD, hdn, hdc] at q2
                    rw [hD, hdn, hdc, hm3] at hrun
                    rw [hm3] at l3
                    have HM3 : Hid (m3 ≤ i + 1) := Lib.hid (by have := HMI.out; omega)
                    have L3 := Lib.hid l3
                    have HV3 := Lib.hid ((k3.block vb (by have := hkd.size; have := (Array.getElem?_eq_some_iff.1 HVB.out).1; omega)).trans ((hkd.block vb (Array.getElem?_eq_some_iff.1 HVB.out).1).trans HVB.out))
                    clear hkd l3 k3 hD hdn hdc hm3
                    go_upto_region 16 with fail
                    refine wp_region_still_tail (w := w2) 8 (by kernel_rfl) (by kernel_rfl) ?_
                    simp only [List.take_succ_cons, List.take_zero, List.drop_succ_cons, List.drop_zero]
                    change wpStill _ _ (World.drew w2) _ _ _
                    iterate 8 still_step
                    refine wpStill_nil ?_
                    change wpList _ _ _ _ _ (World.drew w2)
                    refine wpList_run_append rfl _ _ 58 rfl rfl rfl hrun ?_
                    have v0 : w3.cell? ⟨vb, 0, none⟩ = some (.bool cr) := stp_cell HV3.out rfl
                    have v3 : w3.cell? ⟨vb, 3, none⟩ = some (.int .u64 (nm : Int)) := stp_cell HV3.out rfl
                    cases cr with
                    | true =>
                      obtain ⟨P2, hP⟩ : ∃ v, takeP 1 sp 1 1 nm = v := ⟨_, rfl⟩
                      obtain ⟨G2, hG⟩ : ∃ v, takeG 1 sp sg 1 1 nm = v := ⟨_, rfl⟩
                      have IZ := Lib.hid ((HW.out.out k).take (HW.out.f _ (List.mem_of_getElem? HP.out) rfl) hP hG)
                      have CT := Lib.hid (line_take L3.out 1 1 nm rfl hP hG rfl rfl rfl)
                      clear hP hG HW
                      go_wp2_with fail
                      refine CT.out.mono ?_
                      rintro e w5 ⟨rfl, l5, -⟩
                      have LZ := Lib.hid l5
                      clear l5 CT
                      have HMZ := HM3
                      obtain ⟨t0, ht0⟩ : ∃ t, rs + most = t := ⟨_, rfl⟩
                      have n1 : decide ((t0 : Int) < (su : Int)) = false := decide_eq_false (by have := IZ.out.c; have := IZ.out.e; omega)
                      have n2 : decide ((t0 : Int) < (G2 : Int)) = false := decide_eq_false (by have := IZ.out.e; omega)
                      have n3 : decide (t0 < su) = false := decide_eq_false (by have := IZ.out.c; have := IZ.out.e; omega)
                      have n4 : decide (t0 < G2) = false := decide_eq_false (by have := IZ.out.e; omega)
                      have n5 : IntKind.u64.wrap ((rs : Int) + (most : Int)) = (t0 : Int) := by rw [IntWalk.u64_in _ (by have := LZ.out.two.rcv.hs; have := M64.out; omega)]; omega
                      clear ht0
                      go_wp2_with fail
                      refine (ssent LZ.out.two.sen).mono ?_
                      rintro e v ⟨rfl, rfl⟩
                      go_wp2_with fail
                      refine (rseen LZ.out.two.rcv).mono ?_
                      rintro e v ⟨rfl, rfl⟩
                      go_wp2_with fail
                      refine (sgranted LZ.out.two.sen).mono ?_
                      rintro e v ⟨rfl, rfl⟩
                      go_wp2_with fail
                      refine (rseen LZ.out.two.rcv).mono ?_
                      rintro e v ⟨rfl, rfl⟩
                      go_wp2_with fail
                      go_round
                      case rel => exact ⟨i + 1, m3, c3, P2, G2, su, rp, rg, rs, A3, (ws.eraseIdx k), by omega, by omega, HMZ.out, rfl, by go_num, LZ.out, IZ.out⟩
                      case measure => simp [intOf]; omega
                    | false =>
                      obtain ⟨P2, hP⟩ : ∃ v, sawP rp 1 nm = v := ⟨_, rfl⟩
                      obtain ⟨G2, hG⟩ : ∃ v, sawG rp rg 1 nm = v := ⟨_, rfl⟩
                      obtain ⟨S2, hS⟩ : ∃ v, sawS rp rs 1 nm = v := ⟨_, rfl⟩
                      have IZ := Lib.hid ((HW.out.out k).saw hP hG hS)
                      have CT := Lib.hid (line_saw L3.out 1 nm rfl hP hG hS rfl rfl)
                      clear hP hG hS HW
                      go_wp2_with fail
                      refine CT.out.mono ?_
                      rintro e w5 ⟨rfl, l5, -⟩
                      have LZ := Lib.hid l5
                      clear l5 CT
                      have HMZ := HM3
                      obtain ⟨t0, ht0⟩ : ∃ t, S2 + most = t := ⟨_, rfl⟩
                      have n1 : decide ((t0 : Int) < (su : Int)) = false := decide_eq_false (by have := IZ.out.c; have := IZ.out.e; omega)
                      have n2 : decide ((t0 : Int) < (sg : Int)) = false := decide_eq_false (by have := IZ.out.e; omega)
                      have n3 : decide (t0 < su) = false := decide_eq_false (by have := IZ.out.c; have := IZ.out.e; omega)
                      have n4 : decide (t0 < sg) = false := decide_eq_false (by have := IZ.out.e; omega)
                      have n5 : IntKind.u64.wrap ((S2 : Int) + (most : Int)) = (t0 : Int) := by rw [IntWalk.u64_in _ (by have := LZ.out.two.rcv.hs; have := M64.out; omega)]; omega
                      clear ht0
                      go_wp2_with fail
                      refine (ssent LZ.out.two.sen).mono ?_
                      rintro e v ⟨rfl, rfl⟩
                      go_wp2_with fail
                      refine (rseen LZ.out.two.rcv).mono ?_
                      rintro e v ⟨rfl, rfl⟩
                      go_wp2_with fail
                      refine (sgranted LZ.out.two.sen).mono ?_
                      rintro e v ⟨rfl, rfl⟩
                      go_wp2_with fail
                      refine (rseen LZ.out.two.rcv).mono ?_
                      rintro e v ⟨rfl, rfl⟩
                      go_wp2_with fail
                      go_round
                      case rel => exact ⟨i + 1, m3, c3, sp, sg, su, P2, G2, S2, A3, (ws.eraseIdx k), by omega, by omega, HMZ.out, rfl, by go_num, LZ.out, IZ.out⟩
                      case measure => simp [intOf]; omega
      · obtain rfl : i = 100 := by omega
        go_wp2_with fail
        refine (cwakes _).mono ?_
        rintro e v8 ⟨rfl, k8⟩
        have K8 := Lib.hid (HL.out.two.kp.trans k8)
        clear k8
        go_wp2_with fail
        go_ret
        exact ⟨rfl, K8.out⟩
    · have g1 : decide ((i : Int) < (n : Int)) = false := decide_eq_false (by omega)
      go_wp2_with fail
      refine (cwakes _).mono ?_
      rintro e v8 ⟨rfl, k8⟩
      have K8 := Lib.hid (HL.out.two.kp.trans k8)
      clear k8
      go_wp2_with fail
      go_ret
      exact ⟨rfl, K8.out⟩
end Go.Proofs.Ytgogafhpchfinaa
