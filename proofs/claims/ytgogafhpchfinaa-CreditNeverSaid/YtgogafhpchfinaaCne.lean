/- The walk of CreditNever. -/
import Derived.Test.YtgogafhpchfinaaCnev
import Derived.Test.YtgogafhpchfinaaQae
import Derived.Laws.BitsLemmas
namespace Go.Proofs.Ytgogafhpchfinaa
open Go.RowKit Go.Maps
set_option linter.unusedVariables false
set_option linter.unusedSimpArgs false
theorem i64_and7 (n : Int) : bits .and .i64 n 7 = n % 8 := by
  have h7 : (BitVec.ofInt 64 7).toNat = 2 ^ 3 - 1 := by decide
  have key : (BitVec.ofInt 64 n &&& BitVec.ofInt 64 7).toNat = (n % ((2 ^ 64 : Nat) : Int)).toNat % 2 ^ 3 := by
    rw [BitVec.toNat_and, BitVec.toNat_ofInt, h7, Nat.and_two_pow_sub_one_eq_mod]
  show IntKind.i64.wrap ((BitVec.ofInt 64 n &&& BitVec.ofInt 64 7).toNat : Nat) = n % 8
  rw [key, IntKind.wrap_i64]
  omega
theorem row_set {w : World} {g i : Nat} {cs : Array Value} {ty : TypeId} (h : w.heap[g]? = some (.cells cs ty (0, 0))) (v : Value) : (w.setCell ⟨g, i, none⟩ v).heap[g]? = some (.cells (cs.setIfInBounds i v) ty (0, 0)) := by
  simp [World.setCell, Array.getElem?_modify, h]
set_option maxRecDepth 100000 in
set_option maxHeartbeats 16000000 in
theorem cnever (n c : Nat) (A0 : Option Addr) (l : List StepC) (W : World) (hb : StepsC W W.heap.size A0 n l) (hn : n ≤ 140737488351232) :
    Calls Try.prog 4 #[.slice A0 n c] W fun e w' => e = .returned (.bool true) ∧ Keep W w' := by
  have HB := Lib.hid hb
  have HN := Lib.hid hn
  obtain ⟨wl, hwl⟩ : ∃ v, W.alloc (.cells #[.int .u64 1, .int .u64 1] 57) = v := ⟨_, rfl⟩
  obtain ⟨lv, hlv⟩ : ∃ v, W.heap.size = v := ⟨_, rfl⟩
  have hbl : wl.heap[lv]? = some (.cells #[.int .u64 1, .int .u64 1] 57 (0, 0)) := by rw [← hwl, ← hlv]; exact heap_alloc_new _ _
  have kl : Keep W wl := by rw [← hwl]; exact (Keep.refl W).alloc _ _
  have HBL := Lib.hid hbl
  have KL := Lib.hid kl
  have HLV := Lib.hid hlv
  clear hb hn hbl kl
  go_enter Try.func4, Try.ntmps4
  go_wp2_with fail
  refine (snew_in 1 (by decide) _).mono ?_
  rintro e w0 ⟨rfl, b0, c0⟩
  obtain ⟨s, hs⟩ : ∃ s, wl.heap.size = s := ⟨_, rfl⟩
  rw [hs] at b0
  simp only [hs]
  have B0 := Lib.hid b0
  have C0 := Lib.hid c0
  have HS := Lib.hid hs
  clear b0 c0 hs hwl hlv
  go_wp2_with fail
  refine (rnew_in 8 (by decide) (by decide) _).mono ?_
  rintro e v1 ⟨rfl, d1, c1⟩
  obtain ⟨r, hr⟩ : ∃ r, w0.heap.size = r := ⟨_, rfl⟩
  rw [hr] at d1
  simp only [hr]
  obtain ⟨b1, hb1⟩ : ∃ b, v1.heap.size = b := ⟨_, rfl⟩
  obtain ⟨v2, hv2⟩ : ∃ w, v1.alloc (.map #[] 0) = w := ⟨_, rfl⟩
  obtain ⟨b2, hb2⟩ : ∃ b, v2.heap.size = b := ⟨_, rfl⟩
  obtain ⟨v3, hv3⟩ : ∃ w, v2.alloc (.map #[] 0) = w := ⟨_, rfl⟩
  have m1 : (Instr.makeMap 59 none).run Try.prog v1 = .ok (.map (some b1)) v2 := by rw [← hb1, ← hv2]; exact run_makeMap _ _
  have m2 : (Instr.makeMap 60 none).run Try.prog v2 = .ok (.map (some b2)) v3 := by rw [← hb2, ← hv3]; exact run_makeMap _ _
  have k2 : Keep v1 v2 := by rw [← hv2]; exact (Keep.refl v1).allocMap _ _
  have k3 : Keep v2 v3 := by rw [← hv3]; exact (Keep.refl v2).allocMap _ _
  have z2 : v2.heap.size = b1 + 1 := by rw [← hv2, ← hb1]; simp
  have z3 : v3.heap.size = b2 + 1 := by rw [← hv3, ← hb2]; simp
  have M1 : MapU 57 enc2 dom2 v2 b1 0 (fun _ => 0) := by rw [← hv2, ← hb1]; exact MapU.made _
  have M2 : MapU 22 enc1 dom1 v3 b2 0 (fun _ => 0) := by rw [← hv3, ← hb2]; exact MapU.made _
  have T0 : Hid (Nev W v3 s r lv b1 b2 0 1 1 0 0 0 0 0 0 none 0 0 [] (fun _ => 0) (fun _ => 0)) := Lib.hid (by
    have q0 := KL.out.size; have q1 := C0.out.size; have q2 := c1.size; have q3 := k2.size; have q4 := k3.size
    have p0 := (Array.getElem?_eq_some_iff.1 HBL.out).1; have p1 := B0.out.lt; have p2 := d1.lt
    have e0 := HLV.out; have e1 := HS.out
    refine ⟨Line.start ⟨((B0.out.keep c1).keep k2).keep k3, (d1.keep k2).keep k3, by omega, by omega, by omega, (((KL.out.trans C0.out).trans c1).trans k2).trans k3⟩ (fun b hb => ?_), ?_, M1.block (k3.block b1 (by omega)), M2, ⟨by omega, by omega, by omega⟩, ⟨by omega, by omega, by omega⟩⟩
    · rcases hb with rfl | rfl | rfl <;> exact ⟨by omega, by omega, by omega⟩
    · exact (k3.block lv (by omega)).trans ((k2.block lv (by omega)).trans ((c1.block lv (by omega)).trans ((C0.out.block lv (by omega)).trans HBL.out))))
  clear d1 c1 hr hb1 hv2 hb2 hv3 k2 k3 z2 z3 M1 M2 HBL KL HLV B0 C0 HS
  go_wp2_with fail
  go_loopw [4, 6, 8, 11, 12] (fun sv rv wv kv iv wr => ∃ (i m c s r L0 L1 sp sg su rp rg rs : Nat) (A : Option Addr) (ws : List WayC) (G : Nat × Nat → Nat) (U : Nat → Nat), i ≤ n ∧ i ≤ 100 ∧ m ≤ i ∧ L0 ≤ 1 + i ∧ L1 ≤ 1 + i ∧ sv = .pointer (some ⟨s, 0, none⟩) ∧ rv = .pointer (some ⟨r, 0, none⟩) ∧ wv = .slice A m c ∧ kv = .int .u64 sp ∧ iv = .int .i64 i ∧ Nev W wr s r lv b1 b2 i L0 L1 sp sg su rp rg rs A m c ws G U ∧ NevI L0 L1 sp sg su rp rg rs G U ws) (fun _ _ _ _ iv _ => 100 - (intOf iv).toNat)
  case atStart => exact ⟨0, 0, 0, s, r, 1, 1, 0, 0, 0, 0, 0, 0, none, [], fun _ => 0, fun _ => 0, by omega, by omega, by omega, by omega, by omega, rfl, rfl, rfl, rfl, rfl, T0.out, ⟨rfl, fun _ _ => rfl, Nat.le_refl _, rfl, fun _ _ => rfl, fun _ _ _ => rfl, Nat.le_refl _, (fun p hp => nomatch hp), by omega⟩⟩
  case round =>
    obtain ⟨i, m, c, s, r, L0, L1, sp, sg, su, rp, rg, rs, A, ws, G, U, hi, hi2, hmi, hl0, hl1, rfl, rfl, rfl, rfl, rfl, hl, hw⟩ := hrel
    have HL := Lib.hid hl
    have HW := Lib.hid hw
    have HI := Lib.hid hi
    have HMI := Lib.hid hmi
    have HL0 := Lib.hid hl0
    have HL1X := Lib.hid hl1
    clear hl hw hi hmi T0 hl0 hl1
    by_cases hlt : i < n
    · have g1 : decide ((i : Int) < (n : Int)) = true := decide_eq_true (by omega)
      by_cases hlt2 : i < 100
      · have g2 : decide ((i : Int) < 100) = true := decide_eq_true (by omega)
        obtain ⟨b, off, a, rfl, hbl, hcell, hat, hf1, hf2⟩ := HB.out.one hlt
        obtain ⟨what, free, at_, stays⟩ := a
        replace hat : at_ < 65536 := hat
        obtain ⟨c0, c1, c2, c3⟩ := hcell _ HL.out.ln.two.kp
        have g3 : (i : Int) < (n : Int) := by omega
        have g0 : (0 : Int) ≤ (i : Int) := Int.natCast_nonneg _
        clear hcell hbl hf1 hf2
        have hob := heap_alloc_new wr (.cells #[.int .i64 what, .int .i64 free, .int .u16 (at_ : Int), .bool stays] 63)
        have hka := (Keep.refl wr).alloc #[.int .i64 what, .int .i64 free, .int .u16 (at_ : Int), .bool stays] 63
        obtain ⟨w1, hw1⟩ : ∃ w1, wr.alloc (.cells #[.int .i64 what, .int .i64 free, .int .u16 (at_ : Int), .bool stays] 63) = w1 := ⟨_, rfl⟩
        obtain ⟨o, ho⟩ : ∃ v, wr.heap.size = v := ⟨_, rfl⟩
        rw [hw1, ho] at hob
        rw [hw1] at hka
        have HL1 := Lib.hid (HL.out.later hka)
        have HOB := Lib.hid hob
        have d0 : w1.cell? ⟨o, 0, none⟩ = some (.int .i64 what) := stp_cell hob rfl
        clear hob hka HL
        go_upto_if 65 with fail
        go_cut [65] from 65 to 69 (fun v wx => wx = w1 ∧ ∃ z : Bool, v = .bool z)
        case first =>
          by_cases x0 : what = 0
          · have y0 : (what == 0) = true := beq_iff_eq.2 x0
            have z0 : decide (what = 0) = true := decide_eq_true x0
            clear x0
            go_wp2_with fail
            go_meet
            case rel => exact ⟨rfl, true, rfl⟩
          · have y0 : (what == 0) = false := beq_eq_false_iff_ne.2 x0
            have z0 : decide (what = 0) = false := decide_eq_false x0
            clear x0
            by_cases x1 : what = 1
            · have y1 : (what == 1) = true := beq_iff_eq.2 x1
              have z1 : decide (what = 1) = true := decide_eq_true x1
              clear x1
              go_wp2_with fail
              go_meet
              case rel => exact ⟨rfl, true, rfl⟩
            · have y1 : (what == 1) = false := beq_eq_false_iff_ne.2 x1
              have z1 : decide (what = 1) = false := decide_eq_false x1
              clear x1
              by_cases x2 : what = 2
              · have y2 : (what == 2) = true := beq_iff_eq.2 x2
                have z2 : decide (what = 2) = true := decide_eq_true x2
                clear x2
                go_wp2_with fail
                go_meet
                case rel => exact ⟨rfl, true, rfl⟩
              · have y2 : (what == 2) = false := beq_eq_false_iff_ne.2 x2
                have z2 : decide (what = 2) = false := decide_eq_false x2
                clear x2
                go_wp2_with fail
                go_meet
                case rel => exact ⟨rfl, false, rfl⟩
        case rest =>
          obtain ⟨hwc, z, rfl⟩ := hcut
          obtain rfl : w1 = wc := hwc.symm
          cases z with
          | true =>
            by_cases hus : su < sg
            ·
              as_aux_lemma =>
                obtain ⟨su1, hsu1⟩ : ∃ v, su + 1 = v := ⟨_, rfl⟩
                have hsg := HL1.out.ln.two.sen.hg
                have hspM := HL1.out.ln.two.sen.hp
                have hownM := HL1.out.ln.two.sen.high
                have hsu1M : su1 ≤ 1125899906842624 := by omega
                have eU : useU sg su = su1 := by unfold useU; rw [if_pos hus, hsu1]
                have eV : useV sg su = su1 := by unfold useV; rw [if_pos hus, hsu1]
                have eE : useE sg su = 0 := if_pos hus
                have IZ := Lib.hid (HW.out.use hsu1.symm hsu1M)
                have CM := Lib.hid (two_may HL1.out.ln.two (decide_eq_true hus))
                have CU := Lib.hid (line_use HL1.out.ln eE eU eV)
                obtain ⟨gk, hgk⟩ : ∃ v, G (sp, L0) = v := ⟨_, rfl⟩
                have n1 : decide ((gk : Int) < (su1 : Int)) = false := decide_eq_false (by have := HW.out.g1; omega)
                have n2 : decide (gk < su1) = false := decide_eq_false (by have := HW.out.g1; omega)
                have n3 : IntKind.u64.wrap ((su : Int) + 1) = (su1 : Int) := by rw [IntWalk.u64_in _ (by omega)]; omega
                have HGK := Lib.hid hgk
                have HUL := Lib.hid HW.out.u1
                have HM1 := Lib.hid hspM
                have HM2 := Lib.hid hownM
                have HM3 := Lib.hid hsu1M
                clear hsu1 eU eV eE hus hsg hspM hownM hsu1M hgk
                go_wp2_with fail
                refine CM.out.mono ?_
                rintro e w ⟨rfl, rfl⟩
                go_wp2_with fail
                refine CU.out.mono ?_
                rintro e w2 ⟨rfl, l2, k2⟩
                have N2 := Lib.hid (HL1.out.line l2 (HL1.out.ln.still_of k2 (fun b hb e => (HL1.out.ln.xs b hb).1 e)))
                clear l2 k2 CU HL1 HOB CM
                have q0 := N2.out.c0
                have q1 := N2.out.lookG (a := sp) (b := L0) (by have := HM1.out; omega) (by have := HM2.out; omega)
                have q2 := N2.out.lookU (a := L0) (by have := HM2.out; omega)
                rw [HGK.out] at q1
                rw [← HUL.out] at q2
                obtain ⟨w3, q3, n4, -⟩ := N2.out.putU (a := L0) (v := su1) (by have := HM2.out; omega) (by have := HM3.out; omega) (by omega)
                have N3 := Lib.hid n4
                have q4 := N3.out.c0
                clear n4
                go_wp2_with (at_builtin; refine wpList_line_put rfl _ _ 58 rfl ⟨false, L0, 0, su1⟩ Try.underlying58 N3.out.ln (by have := HMI.out; omega) rfl rfl rfl ?_)
                intro A2 c2 w4 l4 st4 _
                have NZ := Lib.hid (N3.out.line l4 st4)
                clear l4 st4 N3 N2 q0 q1 q2 q3 q4
                go_wp2_with fail
                go_round
                case rel => exact ⟨i + 1, m + 1, c2, s, r, L0, L1, sp, sg, su1, rp, rg, rs, A2, ws ++ [⟨false, L0, 0, su1⟩], G, (fun y => if y = L0 then su1 else U y), by omega, by omega, by have := HMI.out; omega, by have := HL0.out; omega, by have := HL1X.out; omega, rfl, rfl, rfl, rfl, by go_num, NZ.out, IZ.out⟩
                case measure => simp [intOf]; omega
            ·
              as_aux_lemma =>
                have eU : useU sg su = su := if_neg hus
                have eV : useV sg su = 0 := if_neg hus
                have eE : useE sg su = 26 := if_neg hus
                have CM := Lib.hid (two_may HL1.out.ln.two (decide_eq_false hus))
                have CU := Lib.hid (line_use HL1.out.ln eE eU eV)
                have IZ := HW
                clear eU eV eE hus
                go_wp2_with fail
                refine CM.out.mono ?_
                rintro e w ⟨rfl, rfl⟩
                go_wp2_with fail
                refine CU.out.mono ?_
                rintro e w2 ⟨rfl, l2, k2⟩
                have NZ := Lib.hid (HL1.out.line l2 (HL1.out.ln.still_of k2 (fun b hb e => (HL1.out.ln.xs b hb).1 e)))
                clear l2 k2 CU HL1 HOB CM
                go_wp2_with fail
                go_round
                case rel => exact ⟨i + 1, m, c, s, r, L0, L1, sp, sg, su, rp, rg, rs, A, ws, G, U, by omega, by omega, by have := HMI.out; omega, by have := HL0.out; omega, by have := HL1X.out; omega, rfl, rfl, rfl, rfl, by go_num, NZ.out.more (Nat.le_succ _), IZ.out⟩
                case measure => simp [intOf]; omega
          | false =>
            by_cases x3 : what = 3
            · have y3 : (what == 3) = true := beq_iff_eq.2 x3
              have z3 : decide (what = 3) = true := decide_eq_true x3
              clear x3
              as_aux_lemma =>
                have IZ := Lib.hid (HW.out.probe HL1.out.ln.two.sen.hu)
                have ND := Lib.hid (HL1.out.later (Keep.refl w1).drew)
                clear HL1 HOB
                go_upto_region 30 with fail
                have hsD := ND.out.c0
                refine wp_region_noPanic ?_
                refine wp_region_held_drew (S := fun wz => wz.cell? ⟨lv, 0, none⟩ = some (.int .u64 (L0 : Int))) (by kernel_rfl) hsD (fun hHeld => ?_)
                refine wpAnyH_take (i := 0) (v := ?_) rfl (by kernel_rfl) (by kernel_rfl) (by kernel_rfl) (fun _ _ _ h => h) (Or.inl ⟨by rfl, ?_⟩) hHeld ?_
                rotate_left
                · intro wq hSw
                  go_simp
                  all_goals with_reducible rfl
                try simp only [Act.put, List.getElem_toArray, List.getElem_cons_succ, List.getElem_cons_zero, List.setIfInBounds_toArray, List.set_cons_zero, List.set_cons_succ]
                refine wpAnyH_take (i := 1) (v := ?_) rfl (by kernel_rfl) (by kernel_rfl) (by kernel_rfl) (fun _ _ _ h => h) (Or.inl ⟨by rfl, ?_⟩) hHeld ?_
                rotate_left
                · intro wq hSw
                  go_simp
                  all_goals with_reducible rfl
                try simp only [Act.put, List.getElem_toArray, List.getElem_cons_succ, List.getElem_cons_zero, List.setIfInBounds_toArray, List.set_cons_zero, List.set_cons_succ]
                refine wpAnyH_take (i := 2) (v := ?_) rfl (by kernel_rfl) (by kernel_rfl) (by kernel_rfl) (fun _ _ _ h => h) (Or.inl ⟨by rfl, ?_⟩) hHeld ?_
                rotate_left
                · intro wq hSw
                  have q0 := hSw
                  go_simp
                  all_goals with_reducible rfl
                try simp only [Act.put, List.getElem_toArray, List.getElem_cons_succ, List.getElem_cons_zero, List.setIfInBounds_toArray, List.set_cons_zero, List.set_cons_succ]
                refine wpAnyH_take (i := 3) (v := ?_) rfl (by kernel_rfl) (by kernel_rfl) (by kernel_rfl) (fun _ _ _ h => h) (Or.inl ⟨by rfl, ?_⟩) hHeld ?_
                rotate_left
                · intro wq hSw
                  go_simp
                  all_goals with_reducible rfl
                try simp only [Act.put, List.getElem_toArray, List.getElem_cons_succ, List.getElem_cons_zero, List.setIfInBounds_toArray, List.set_cons_zero, List.set_cons_succ]
                refine wpAnyH_ready (rs := [4]) (by kernel_rfl) (by simp) ?_
                refine AllReadyH.cons rfl (fun K hK => ?_) AllReadyH.nil
                go_simp
                refine (ssent ND.out.ln.two.sen).mono ?_
                rintro e w9 ⟨rfl, rfl⟩
                refine hK.out _ _ hHeld (fun hHeld => ?_)
                clear hK K
                try simp only [Act.put, List.getElem_toArray, List.getElem_cons_succ, List.getElem_cons_zero, List.setIfInBounds_toArray, List.set_cons_zero, List.set_cons_succ]
                refine wpAnyH_take (i := 5) (v := ?_) rfl (by kernel_rfl) (by kernel_rfl) (by kernel_rfl) (fun _ _ _ h => h) (Or.inl ⟨by rfl, ?_⟩) hHeld ?_
                rotate_left
                · intro wq hSw
                  go_simp
                  all_goals with_reducible rfl
                try simp only [Act.put, List.getElem_toArray, List.getElem_cons_succ, List.getElem_cons_zero, List.setIfInBounds_toArray, List.set_cons_zero, List.set_cons_succ]
                refine wpAnyH_ready (rs := [6]) (by kernel_rfl) (by simp) ?_
                refine AllReadyH.cons rfl (fun K hK => ?_) AllReadyH.nil
                go_simp
                have hsB := (ND.out.later ((Keep.refl (World.drew w1)).alloc #[.bool false, .int .u64 (L0 : Int), .int .u64 0, .int .u64 (su : Int)] 65)).c0
                refine hK.out _ _ hsB (fun hHeld => ?_)
                clear hK K
                try simp only [Act.put, List.getElem_toArray, List.getElem_cons_succ, List.getElem_cons_zero, List.setIfInBounds_toArray, List.set_cons_zero, List.set_cons_succ]
                refine wpAnyH_ready (rs := [7]) (by kernel_rfl) (by simp) ?_
                refine AllReadyH.cons rfl (fun K hK => ?_) AllReadyH.nil
                refine wp_line_put 58 ⟨false, L0, 0, su⟩ Try.underlying58 ND.out.ln (by have := HMI.out; omega) rfl rfl rfl rfl ?_
                intro A2 c2 w5 l5 st5 _
                have NZ := Lib.hid (ND.out.line l5 st5)
                refine hK.out _ _ NZ.out.c0 (fun hHeld => ?_)
                clear hK K l5 st5
                try simp only [Act.put, List.getElem_toArray, List.getElem_cons_succ, List.getElem_cons_zero, List.setIfInBounds_toArray, List.set_cons_zero, List.set_cons_succ]
                refine wpAnyH_take (i := 8) (v := ?_) rfl (by kernel_rfl) (by kernel_rfl) (by kernel_rfl) (fun _ _ _ h => h) (Or.inl ⟨by rfl, ?_⟩) hHeld ?_
                rotate_left
                · intro wq hSw
                  go_simp
                  all_goals with_reducible rfl
                try simp only [Act.put, List.getElem_toArray, List.getElem_cons_succ, List.getElem_cons_zero, List.setIfInBounds_toArray, List.set_cons_zero, List.set_cons_succ]
                refine wpAnyH_done (by kernel_rfl) ?_ _
                refine NoPanic.normal ?_
                clear hHeld
                clear ND hsD hsB
                go_wp2_with fail
                go_round
                case rel => exact ⟨i + 1, m + 1, c2, s, r, L0, L1, sp, sg, su, rp, rg, rs, A2, ws ++ [⟨false, L0, 0, su⟩], G, U, by omega, by omega, by have := HMI.out; omega, by have := HL0.out; omega, by have := HL1X.out; omega, rfl, rfl, rfl, rfl, by go_num, NZ.out.more (Nat.le_succ _), IZ.out⟩
                case measure => simp [intOf]; omega
            · have y3 : (what == 3) = false := beq_eq_false_iff_ne.2 x3
              have z3 : decide (what = 3) = false := decide_eq_false x3
              clear x3
              by_cases x4 : what = 4
              · have y4 : (what == 4) = true := beq_iff_eq.2 x4
                have z4 : decide (what = 4) = true := decide_eq_true x4
                clear x4
                have d1 : w1.cell? ⟨o, 1, none⟩ = some (.int .i64 free) := stp_cell HOB.out rfl
                obtain ⟨y, hy⟩ := Int.eq_ofNat_of_zero_le (show 0 ≤ free % 8 by omega)
                have hy2 : y < 8 := by omega
                have a1 : bits .and .i64 free 7 = (y : Int) := (i64_and7 free).trans hy
                obtain ⟨v2, hv2⟩ : ∃ v, grG 8 rg rs (y : Int) = v := ⟨_, rfl⟩
                have eE : grE 8 (y : Int) = 0 := grE_in (by omega)
                have eV : grV 8 rg rs (y : Int) = v2 := by rw [grV, eE, if_pos rfl, hv2]
                have CU := Lib.hid (line_grant HL1.out.ln (y : Int) eE eV hv2)
                have hvle : rg ≤ v2 := by rw [← hv2]; unfold grG; rw [eE, if_pos rfl]; omega
                have hvub : v2 = rg ∨ v2 ≤ rs + 8 := by rw [← hv2]; unfold grG; rw [eE, if_pos rfl, Int.toNat_natCast]; omega
                have hrgM := HL1.out.ln.two.rcv.hg
                have hrpM := HL1.out.ln.two.rcv.hp
                have hrsM := HL1.out.ln.two.rcv.hs
                have hvM : v2 ≤ 1125899906842624 := by rw [← hv2]; unfold grG; rw [eE, if_pos rfl]; omega
                have IZ := Lib.hid (HW.out.grant hvle hvM hrpM)
                obtain ⟨t8, ht8⟩ : ∃ v, rs + 8 = v := ⟨_, rfl⟩
                have n1 : decide ((v2 : Int) < (rg : Int)) = false := decide_eq_false (by omega)
                have n2 : decide (v2 < rg) = false := decide_eq_false (by omega)
                have n3 : IntKind.u64.wrap ((rs : Int) + 8) = (t8 : Int) := by rw [IntWalk.u64_in _ (by omega)]; omega
                have hor : decide (t8 < v2) = false ∨ decide (rg < v2) = false := by
                  rcases hvub with e | e
                  · exact Or.inr (decide_eq_false (by omega))
                  · exact Or.inl (decide_eq_false (by omega))
                have HVM := Lib.hid hvM
                have HRP := Lib.hid hrpM
                have HOR := Lib.hid hor
                have HG2 := Lib.hid HW.out.g2
                have HLO := Lib.hid HW.out.lo
                clear hy hy2 hv2 eE eV hvle hvub hrgM hrpM hrsM hvM ht8 hor
                go_wp2_with fail
                refine CU.out.mono ?_
                rintro e w2 ⟨rfl, l2, k2⟩
                have N2 := Lib.hid (HL1.out.line l2 (HL1.out.ln.still_of k2 (fun b hb e => (HL1.out.ln.xs b hb).2.1 e)))
                clear l2 k2 CU HL1 HOB d1
                go_upto_region 35 with fail
                go_cut [19] from 132 to 137 (fun v wx => ∃ kb, v = .pointer (some ⟨kb, 0, none⟩) ∧ wx.heap[kb]? = some (.cells #[.int .u64 (L1 : Int), .int .u64 (rp : Int)] 57 (0, 0)) ∧ Keep w2 wx ∧ w2.heap.size ≤ kb)
                case first =>
                  have hsD := (N2.out.later (Keep.refl w2).drew).c1
                  refine wp_region_noPanic ?_
                  refine wp_region_held_drew (S := fun wz => wz.cell? ⟨lv, 1, none⟩ = some (.int .u64 (L1 : Int))) (by kernel_rfl) hsD (fun hHeld => ?_)
                  refine wpAnyH_take (i := 0) (v := ?_) rfl (by kernel_rfl) (by kernel_rfl) (by kernel_rfl) (fun _ _ _ h => h) (Or.inl ⟨by rfl, ?_⟩) hHeld ?_
                  rotate_left
                  · intro wq hSw
                    go_simp
                    all_goals with_reducible rfl
                  try simp only [Act.put, List.getElem_toArray, List.getElem_cons_succ, List.getElem_cons_zero, List.setIfInBounds_toArray, List.set_cons_zero, List.set_cons_succ]
                  refine wpAnyH_take (i := 1) (v := ?_) rfl (by kernel_rfl) (by kernel_rfl) (by kernel_rfl) (fun _ _ _ h => h) (Or.inl ⟨by rfl, ?_⟩) hHeld ?_
                  rotate_left
                  · intro wq hSw
                    have q0 := hSw
                    go_simp
                    all_goals with_reducible rfl
                  try simp only [Act.put, List.getElem_toArray, List.getElem_cons_succ, List.getElem_cons_zero, List.setIfInBounds_toArray, List.set_cons_zero, List.set_cons_succ]
                  refine wpAnyH_take (i := 2) (v := ?_) rfl (by kernel_rfl) (by kernel_rfl) (by kernel_rfl) (fun _ _ _ h => h) (Or.inl ⟨by rfl, ?_⟩) hHeld ?_
                  rotate_left
                  · intro wq hSw
                    go_simp
                    all_goals with_reducible rfl
                  try simp only [Act.put, List.getElem_toArray, List.getElem_cons_succ, List.getElem_cons_zero, List.setIfInBounds_toArray, List.set_cons_zero, List.set_cons_succ]
                  refine wpAnyH_ready (rs := [3, 5]) (by kernel_rfl) (by simp) ?_
                  refine AllReadyH.cons rfl (fun K hK => ?_) (AllReadyH.cons rfl (fun K hK => ?_) AllReadyH.nil)
                  ·
                    go_simp
                    refine (rlife (N2.out.later (Keep.refl w2).drew).ln.two.rcv).mono ?_
                    rintro e w9 ⟨rfl, rfl⟩
                    refine hK.out _ _ hHeld (fun hHeld => ?_)
                    clear hK K
                    try simp only [Act.put, List.getElem_toArray, List.getElem_cons_succ, List.getElem_cons_zero, List.setIfInBounds_toArray, List.set_cons_zero, List.set_cons_succ]
                    refine wpAnyH_take (i := 4) (v := ?_) rfl (by kernel_rfl) (by kernel_rfl) (by kernel_rfl) (fun _ _ _ h => h) (Or.inl ⟨by rfl, ?_⟩) hHeld ?_
                    rotate_left
                    · intro wq hSw
                      go_simp
                      all_goals with_reducible rfl
                    try simp only [Act.put, List.getElem_toArray, List.getElem_cons_succ, List.getElem_cons_zero, List.setIfInBounds_toArray, List.set_cons_zero, List.set_cons_succ]
                    refine wpAnyH_ready (rs := [5]) (by kernel_rfl) (by simp) ?_
                    refine AllReadyH.cons rfl (fun K hK => ?_) AllReadyH.nil
                    go_simp
                    have kwa : Keep w2 (w2.alloc (.cells #[.int .u64 0, .int .u64 0] 57)).drew := ((Keep.refl w2).alloc _ _).drew
                    have hsA := (N2.out.later kwa).c1
                    refine hK.out _ _ hsA (fun hHeld => ?_)
                    clear hK K
                    try simp only [Act.put, List.getElem_toArray, List.getElem_cons_succ, List.getElem_cons_zero, List.setIfInBounds_toArray, List.set_cons_zero, List.set_cons_succ]
                    obtain ⟨kb, hkbe⟩ : ∃ v, w2.heap.size = v := ⟨_, rfl⟩
                    have hkb : w2.heap.size ≤ kb := Nat.le_of_eq hkbe
                    have hbB : (w2.alloc (.cells #[.int .u64 0, .int .u64 0] 57)).drew.heap[kb]? = some (.cells #[.int .u64 0, .int .u64 0] 57 (0, 0)) := by rw [← hkbe]; exact heap_alloc_new w2 _
                    obtain ⟨wa, hwa⟩ : ∃ v, (w2.alloc (.cells #[.int .u64 0, .int .u64 0] 57)).drew = v := ⟨_, rfl⟩
                    replace hHeld : wa.cell? ⟨lv, 1, none⟩ = some (.int .u64 (L1 : Int)) := by rw [← hwa]; exact hHeld
                    rw [hwa] at hbB hsA kwa ⊢
                    try simp only [hkbe]
                    have y0 : wa.cell? ⟨kb, 0, none⟩ = some (.int .u64 0) := stp_cell hbB rfl
                    have y1 : wa.cell? ⟨kb, 1, none⟩ = some (.int .u64 0) := stp_cell hbB rfl
                    have f0 : wa.frozen? ⟨kb, 0, none⟩ = false := by simp [World.frozen?, hbB]
                    have f1 : wa.frozen? ⟨kb, 1, none⟩ = false := by simp [World.frozen?, hbB]
                    have hr1 := row_set (i := 1) (row_set (i := 0) hbB (.int .u64 (L1 : Int))) (.int .u64 (rp : Int))
                    have kk : Keep w2 ((wa.setCell ⟨kb, 0, none⟩ (.int .u64 (L1 : Int))).setCell ⟨kb, 1, none⟩ (.int .u64 (rp : Int))) := (kwa.setCell (a := ⟨kb, 0, none⟩) hkb _).setCell (a := ⟨kb, 1, none⟩) hkb _
                    have hS2 := (N2.out.later kk).c1
                    have HR1 := Lib.hid hr1
                    have KK := Lib.hid kk
                    clear hr1 kk
                    refine wpAnyH_ready (rs := [6]) (by kernel_rfl) (by simp) ?_
                    refine AllReadyH.cons rfl (fun K hK => ?_) AllReadyH.nil
                    go_simp
                    refine hK.out _ _ hS2 (fun hHeld => ?_)
                    clear hK K
                    try simp only [Act.put, List.getElem_toArray, List.getElem_cons_succ, List.getElem_cons_zero, List.setIfInBounds_toArray, List.set_cons_zero, List.set_cons_succ]
                    refine wpAnyH_done (by kernel_rfl) ?_ _
                    refine NoPanic.normal ?_
                    clear hHeld
                    go_wp2_with fail
                    go_meet
                    case rel => exact ⟨kb, rfl, HR1.out, KK.out, hkb⟩
                  ·
                    go_simp
                    have kwx : Keep w2 (w2.alloc (.cells #[.int .u64 0, .int .u64 0] 57)).drew := ((Keep.refl w2).alloc _ _).drew
                    have hsA := (N2.out.later kwx).c1
                    refine hK.out _ _ hsA (fun hHeld => ?_)
                    clear hK K
                    try simp only [Act.put, List.getElem_toArray, List.getElem_cons_succ, List.getElem_cons_zero, List.setIfInBounds_toArray, List.set_cons_zero, List.set_cons_succ]
                    obtain ⟨kb, hkbe⟩ : ∃ v, w2.heap.size = v := ⟨_, rfl⟩
                    have hkb : w2.heap.size ≤ kb := Nat.le_of_eq hkbe
                    have hbB : (w2.alloc (.cells #[.int .u64 0, .int .u64 0] 57)).drew.heap[kb]? = some (.cells #[.int .u64 0, .int .u64 0] 57 (0, 0)) := by rw [← hkbe]; exact heap_alloc_new w2 _
                    obtain ⟨wa, hwa⟩ : ∃ v, (w2.alloc (.cells #[.int .u64 0, .int .u64 0] 57)).drew = v := ⟨_, rfl⟩
                    replace hHeld : wa.cell? ⟨lv, 1, none⟩ = some (.int .u64 (L1 : Int)) := by rw [← hwa]; exact hHeld
                    rw [hwa] at hbB hsA kwx ⊢
                    try simp only [hkbe]
                    have kwa : Keep w2 wa := kwx
                    refine wpAnyH_ready (rs := [3]) (by kernel_rfl) (by simp) ?_
                    refine AllReadyH.cons rfl (fun K hK => ?_) AllReadyH.nil
                    go_simp
                    refine (rlife (N2.out.later kwa).ln.two.rcv).mono ?_
                    rintro e w9 ⟨rfl, hw9⟩
                    obtain rfl : wa = w9 := hw9.symm
                    refine hK.out _ _ hHeld (fun hHeld => ?_)
                    clear hK K
                    try simp only [Act.put, List.getElem_toArray, List.getElem_cons_succ, List.getElem_cons_zero, List.setIfInBounds_toArray, List.set_cons_zero, List.set_cons_succ]
                    refine wpAnyH_take (i := 4) (v := ?_) rfl (by kernel_rfl) (by kernel_rfl) (by kernel_rfl) (fun _ _ _ h => h) (Or.inl ⟨by rfl, ?_⟩) hHeld ?_
                    rotate_left
                    · intro wq hSw
                      go_simp
                      all_goals with_reducible rfl
                    try simp only [Act.put, List.getElem_toArray, List.getElem_cons_succ, List.getElem_cons_zero, List.setIfInBounds_toArray, List.set_cons_zero, List.set_cons_succ]
                    have y0 : wa.cell? ⟨kb, 0, none⟩ = some (.int .u64 0) := stp_cell hbB rfl
                    have y1 : wa.cell? ⟨kb, 1, none⟩ = some (.int .u64 0) := stp_cell hbB rfl
                    have f0 : wa.frozen? ⟨kb, 0, none⟩ = false := by simp [World.frozen?, hbB]
                    have f1 : wa.frozen? ⟨kb, 1, none⟩ = false := by simp [World.frozen?, hbB]
                    have hr1 := row_set (i := 1) (row_set (i := 0) hbB (.int .u64 (L1 : Int))) (.int .u64 (rp : Int))
                    have kk : Keep w2 ((wa.setCell ⟨kb, 0, none⟩ (.int .u64 (L1 : Int))).setCell ⟨kb, 1, none⟩ (.int .u64 (rp : Int))) := (kwa.setCell (a := ⟨kb, 0, none⟩) hkb _).setCell (a := ⟨kb, 1, none⟩) hkb _
                    have hS2 := (N2.out.later kk).c1
                    have HR1 := Lib.hid hr1
                    have KK := Lib.hid kk
                    clear hr1 kk
                    refine wpAnyH_ready (rs := [6]) (by kernel_rfl) (by simp) ?_
                    refine AllReadyH.cons rfl (fun K hK => ?_) AllReadyH.nil
                    go_simp
                    refine hK.out _ _ hS2 (fun hHeld => ?_)
                    clear hK K
                    try simp only [Act.put, List.getElem_toArray, List.getElem_cons_succ, List.getElem_cons_zero, List.setIfInBounds_toArray, List.set_cons_zero, List.set_cons_succ]
                    refine wpAnyH_done (by kernel_rfl) ?_ _
                    refine NoPanic.normal ?_
                    clear hHeld
                    go_wp2_with fail
                    go_meet
                    case rel => exact ⟨kb, rfl, HR1.out, KK.out, hkb⟩
                case rest =>
                  obtain ⟨kb, rfl, hkb, hkc, hkl⟩ := hcut
                  have N3 := Lib.hid (N2.out.later hkc)
                  have HKB := Lib.hid hkb
                  have hx2 := N2.out.ln.xs
                  have hbb : kb ≠ b1 := by have := (hx2 b1 (Or.inr (Or.inl rfl))).2.2; omega
                  have HBB := Lib.hid hbb
                  clear hkb hkc hkl hx2 hbb N2
                  have y0 : wc.cell? ⟨kb, 0, none⟩ = some (.int .u64 (L1 : Int)) := stp_cell HKB.out rfl
                  have y1 : wc.cell? ⟨kb, 1, none⟩ = some (.int .u64 (rp : Int)) := stp_cell HKB.out rfl
                  have q1 := N3.out.lookG (a := L1) (b := rp) (by have := HLO.out; omega) (by have := HRP.out; omega)
                  rw [← HG2.out] at q1
                  obtain ⟨w4, q2, n4, k4⟩ := N3.out.putG (a := L1) (b := rp) (v := v2) (by have := HLO.out; omega) (by have := HRP.out; omega) (by have := HVM.out; omega) (by omega)
                  have N4 := Lib.hid n4
                  have ND := Lib.hid (n4.later (Keep.refl w4).drew)
                  clear n4 k4
                  rcases HOR.out with f1 | f2
                  ·
                    as_aux_lemma =>
                      have f1' : decide ((t8 : Int) < (v2 : Int)) = false := decide_eq_false (by have := of_decide_eq_false f1; omega)
                      go_wp2_with fail
                      refine (rseen N3.out.ln.two.rcv).mono ?_
                      rintro e w ⟨rfl, rfl⟩
                      go_wp2_with fail
                      go_upto_region 39 with fail
                      have hsD := ND.out.c1
                      refine wp_region_noPanic ?_
                      refine wp_region_held_drew (S := fun wz => wz.cell? ⟨lv, 1, none⟩ = some (.int .u64 (L1 : Int))) (by kernel_rfl) hsD (fun hHeld => ?_)
                      refine wpAnyH_take (i := 0) (v := ?_) rfl (by kernel_rfl) (by kernel_rfl) (by kernel_rfl) (fun _ _ _ h => h) (Or.inl ⟨by rfl, ?_⟩) hHeld ?_
                      rotate_left
                      · intro wq hSw
                        go_simp
                        all_goals with_reducible rfl
                      try simp only [Act.put, List.getElem_toArray, List.getElem_cons_succ, List.getElem_cons_zero, List.setIfInBounds_toArray, List.set_cons_zero, List.set_cons_succ]
                      refine wpAnyH_take (i := 1) (v := ?_) rfl (by kernel_rfl) (by kernel_rfl) (by kernel_rfl) (fun _ _ _ h => h) (Or.inl ⟨by rfl, ?_⟩) hHeld ?_
                      rotate_left
                      · intro wq hSw
                        go_simp
                        all_goals with_reducible rfl
                      try simp only [Act.put, List.getElem_toArray, List.getElem_cons_succ, List.getElem_cons_zero, List.setIfInBounds_toArray, List.set_cons_zero, List.set_cons_succ]
                      refine wpAnyH_take (i := 2) (v := ?_) rfl (by kernel_rfl) (by kernel_rfl) (by kernel_rfl) (fun _ _ _ h => h) (Or.inl ⟨by rfl, ?_⟩) hHeld ?_
                      rotate_left
                      · intro wq hSw
                        have q0 := hSw
                        go_simp
                        all_goals with_reducible rfl
                      try simp only [Act.put, List.getElem_toArray, List.getElem_cons_succ, List.getElem_cons_zero, List.setIfInBounds_toArray, List.set_cons_zero, List.set_cons_succ]
                      refine wpAnyH_take (i := 3) (v := ?_) rfl (by kernel_rfl) (by kernel_rfl) (by kernel_rfl) (fun _ _ _ h => h) (Or.inl ⟨by rfl, ?_⟩) hHeld ?_
                      rotate_left
                      · intro wq hSw
                        go_simp
                        all_goals with_reducible rfl
                      try simp only [Act.put, List.getElem_toArray, List.getElem_cons_succ, List.getElem_cons_zero, List.setIfInBounds_toArray, List.set_cons_zero, List.set_cons_succ]
                      refine wpAnyH_take (i := 5) (v := ?_) rfl (by kernel_rfl) (by kernel_rfl) (by kernel_rfl) (fun _ _ _ h => h) (Or.inl ⟨by rfl, ?_⟩) hHeld ?_
                      rotate_left
                      · intro wq hSw
                        go_simp
                        all_goals with_reducible rfl
                      try simp only [Act.put, List.getElem_toArray, List.getElem_cons_succ, List.getElem_cons_zero, List.setIfInBounds_toArray, List.set_cons_zero, List.set_cons_succ]
                      refine wpAnyH_ready (rs := [4]) (by kernel_rfl) (by simp) ?_
                      refine AllReadyH.cons rfl (fun K hK => ?_) AllReadyH.nil
                      go_simp
                      refine (rlife ND.out.ln.two.rcv).mono ?_
                      rintro e w9 ⟨rfl, rfl⟩
                      refine hK.out _ _ hHeld (fun hHeld => ?_)
                      clear hK K
                      try simp only [Act.put, List.getElem_toArray, List.getElem_cons_succ, List.getElem_cons_zero, List.setIfInBounds_toArray, List.set_cons_zero, List.set_cons_succ]
                      refine wpAnyH_take (i := 6) (v := ?_) rfl (by kernel_rfl) (by kernel_rfl) (by kernel_rfl) (fun _ _ _ h => h) (Or.inl ⟨by rfl, ?_⟩) hHeld ?_
                      rotate_left
                      · intro wq hSw
                        go_simp
                        all_goals with_reducible rfl
                      try simp only [Act.put, List.getElem_toArray, List.getElem_cons_succ, List.getElem_cons_zero, List.setIfInBounds_toArray, List.set_cons_zero, List.set_cons_succ]
                      refine wpAnyH_ready (rs := [7]) (by kernel_rfl) (by simp) ?_
                      refine AllReadyH.cons rfl (fun K hK => ?_) AllReadyH.nil
                      go_simp
                      have hsB := (ND.out.later ((Keep.refl (World.drew w4)).alloc #[.bool true, .int .u64 (L1 : Int), .int .u64 (rp : Int), .int .u64 (v2 : Int)] 65)).c1
                      refine hK.out _ _ hsB (fun hHeld => ?_)
                      clear hK K
                      try simp only [Act.put, List.getElem_toArray, List.getElem_cons_succ, List.getElem_cons_zero, List.setIfInBounds_toArray, List.set_cons_zero, List.set_cons_succ]
                      refine wpAnyH_ready (rs := [8]) (by kernel_rfl) (by simp) ?_
                      refine AllReadyH.cons rfl (fun K hK => ?_) AllReadyH.nil
                      refine wp_line_put 58 ⟨true, L1, rp, v2⟩ Try.underlying58 ND.out.ln (by have := HMI.out; omega) rfl rfl rfl rfl ?_
                      intro A2 c2 w5 l5 st5 _
                      have NZ := Lib.hid (ND.out.line l5 st5)
                      refine hK.out _ _ NZ.out.c1 (fun hHeld => ?_)
                      clear hK K l5 st5
                      try simp only [Act.put, List.getElem_toArray, List.getElem_cons_succ, List.getElem_cons_zero, List.setIfInBounds_toArray, List.set_cons_zero, List.set_cons_succ]
                      refine wpAnyH_take (i := 9) (v := ?_) rfl (by kernel_rfl) (by kernel_rfl) (by kernel_rfl) (fun _ _ _ h => h) (Or.inl ⟨by rfl, ?_⟩) hHeld ?_
                      rotate_left
                      · intro wq hSw
                        go_simp
                        all_goals with_reducible rfl
                      try simp only [Act.put, List.getElem_toArray, List.getElem_cons_succ, List.getElem_cons_zero, List.setIfInBounds_toArray, List.set_cons_zero, List.set_cons_succ]
                      refine wpAnyH_done (by kernel_rfl) ?_ _
                      refine NoPanic.normal ?_
                      clear hHeld
                      clear ND N4 N3 q1 q2 y0 y1 hsD hsB
                      go_wp2_with fail
                      go_round
                      case rel => exact ⟨i + 1, m + 1, c2, s, r, L0, L1, sp, sg, su, rp, v2, rs, A2, ws ++ [⟨true, L1, rp, v2⟩], (fun y => if y = (L1, rp) then v2 else G y), U, by omega, by omega, by have := HMI.out; omega, by have := HL0.out; omega, by have := HL1X.out; omega, rfl, rfl, rfl, rfl, by go_num, NZ.out, IZ.out⟩
                      case measure => simp [intOf]; omega
                  ·
                    as_aux_lemma =>
                      have f2' : decide ((rg : Int) < (v2 : Int)) = false := decide_eq_false (by have := of_decide_eq_false f2; omega)
                      cases f1 : decide (t8 < v2) with
                      | true =>
                        have f1' : decide ((t8 : Int) < (v2 : Int)) = true := decide_eq_true (by have := of_decide_eq_true f1; omega)
                        go_wp2_with fail
                        refine (rseen N3.out.ln.two.rcv).mono ?_
                        rintro e w ⟨rfl, rfl⟩
                        go_wp2_with fail
                        go_upto_region 39 with fail
                        have hsD := ND.out.c1
                        refine wp_region_noPanic ?_
                        refine wp_region_held_drew (S := fun wz => wz.cell? ⟨lv, 1, none⟩ = some (.int .u64 (L1 : Int))) (by kernel_rfl) hsD (fun hHeld => ?_)
                        refine wpAnyH_take (i := 0) (v := ?_) rfl (by kernel_rfl) (by kernel_rfl) (by kernel_rfl) (fun _ _ _ h => h) (Or.inl ⟨by rfl, ?_⟩) hHeld ?_
                        rotate_left
                        · intro wq hSw
                          go_simp
                          all_goals with_reducible rfl
                        try simp only [Act.put, List.getElem_toArray, List.getElem_cons_succ, List.getElem_cons_zero, List.setIfInBounds_toArray, List.set_cons_zero, List.set_cons_succ]
                        refine wpAnyH_take (i := 1) (v := ?_) rfl (by kernel_rfl) (by kernel_rfl) (by kernel_rfl) (fun _ _ _ h => h) (Or.inl ⟨by rfl, ?_⟩) hHeld ?_
                        rotate_left
                        · intro wq hSw
                          go_simp
                          all_goals with_reducible rfl
                        try simp only [Act.put, List.getElem_toArray, List.getElem_cons_succ, List.getElem_cons_zero, List.setIfInBounds_toArray, List.set_cons_zero, List.set_cons_succ]
                        refine wpAnyH_take (i := 2) (v := ?_) rfl (by kernel_rfl) (by kernel_rfl) (by kernel_rfl) (fun _ _ _ h => h) (Or.inl ⟨by rfl, ?_⟩) hHeld ?_
                        rotate_left
                        · intro wq hSw
                          have q0 := hSw
                          go_simp
                          all_goals with_reducible rfl
                        try simp only [Act.put, List.getElem_toArray, List.getElem_cons_succ, List.getElem_cons_zero, List.setIfInBounds_toArray, List.set_cons_zero, List.set_cons_succ]
                        refine wpAnyH_take (i := 3) (v := ?_) rfl (by kernel_rfl) (by kernel_rfl) (by kernel_rfl) (fun _ _ _ h => h) (Or.inl ⟨by rfl, ?_⟩) hHeld ?_
                        rotate_left
                        · intro wq hSw
                          go_simp
                          all_goals with_reducible rfl
                        try simp only [Act.put, List.getElem_toArray, List.getElem_cons_succ, List.getElem_cons_zero, List.setIfInBounds_toArray, List.set_cons_zero, List.set_cons_succ]
                        refine wpAnyH_take (i := 5) (v := ?_) rfl (by kernel_rfl) (by kernel_rfl) (by kernel_rfl) (fun _ _ _ h => h) (Or.inl ⟨by rfl, ?_⟩) hHeld ?_
                        rotate_left
                        · intro wq hSw
                          go_simp
                          all_goals with_reducible rfl
                        try simp only [Act.put, List.getElem_toArray, List.getElem_cons_succ, List.getElem_cons_zero, List.setIfInBounds_toArray, List.set_cons_zero, List.set_cons_succ]
                        refine wpAnyH_ready (rs := [4]) (by kernel_rfl) (by simp) ?_
                        refine AllReadyH.cons rfl (fun K hK => ?_) AllReadyH.nil
                        go_simp
                        refine (rlife ND.out.ln.two.rcv).mono ?_
                        rintro e w9 ⟨rfl, rfl⟩
                        refine hK.out _ _ hHeld (fun hHeld => ?_)
                        clear hK K
                        try simp only [Act.put, List.getElem_toArray, List.getElem_cons_succ, List.getElem_cons_zero, List.setIfInBounds_toArray, List.set_cons_zero, List.set_cons_succ]
                        refine wpAnyH_take (i := 6) (v := ?_) rfl (by kernel_rfl) (by kernel_rfl) (by kernel_rfl) (fun _ _ _ h => h) (Or.inl ⟨by rfl, ?_⟩) hHeld ?_
                        rotate_left
                        · intro wq hSw
                          go_simp
                          all_goals with_reducible rfl
                        try simp only [Act.put, List.getElem_toArray, List.getElem_cons_succ, List.getElem_cons_zero, List.setIfInBounds_toArray, List.set_cons_zero, List.set_cons_succ]
                        refine wpAnyH_ready (rs := [7]) (by kernel_rfl) (by simp) ?_
                        refine AllReadyH.cons rfl (fun K hK => ?_) AllReadyH.nil
                        go_simp
                        have hsB := (ND.out.later ((Keep.refl (World.drew w4)).alloc #[.bool true, .int .u64 (L1 : Int), .int .u64 (rp : Int), .int .u64 (v2 : Int)] 65)).c1
                        refine hK.out _ _ hsB (fun hHeld => ?_)
                        clear hK K
                        try simp only [Act.put, List.getElem_toArray, List.getElem_cons_succ, List.getElem_cons_zero, List.setIfInBounds_toArray, List.set_cons_zero, List.set_cons_succ]
                        refine wpAnyH_ready (rs := [8]) (by kernel_rfl) (by simp) ?_
                        refine AllReadyH.cons rfl (fun K hK => ?_) AllReadyH.nil
                        refine wp_line_put 58 ⟨true, L1, rp, v2⟩ Try.underlying58 ND.out.ln (by have := HMI.out; omega) rfl rfl rfl rfl ?_
                        intro A2 c2 w5 l5 st5 _
                        have NZ := Lib.hid (ND.out.line l5 st5)
                        refine hK.out _ _ NZ.out.c1 (fun hHeld => ?_)
                        clear hK K l5 st5
                        try simp only [Act.put, List.getElem_toArray, List.getElem_cons_succ, List.getElem_cons_zero, List.setIfInBounds_toArray, List.set_cons_zero, List.set_cons_succ]
                        refine wpAnyH_take (i := 9) (v := ?_) rfl (by kernel_rfl) (by kernel_rfl) (by kernel_rfl) (fun _ _ _ h => h) (Or.inl ⟨by rfl, ?_⟩) hHeld ?_
                        rotate_left
                        · intro wq hSw
                          go_simp
                          all_goals with_reducible rfl
                        try simp only [Act.put, List.getElem_toArray, List.getElem_cons_succ, List.getElem_cons_zero, List.setIfInBounds_toArray, List.set_cons_zero, List.set_cons_succ]
                        refine wpAnyH_done (by kernel_rfl) ?_ _
                        refine NoPanic.normal ?_
                        clear hHeld
                        clear ND N4 N3 q1 q2 y0 y1 hsD hsB
                        go_wp2_with fail
                        go_round
                        case rel => exact ⟨i + 1, m + 1, c2, s, r, L0, L1, sp, sg, su, rp, v2, rs, A2, ws ++ [⟨true, L1, rp, v2⟩], (fun y => if y = (L1, rp) then v2 else G y), U, by omega, by omega, by have := HMI.out; omega, by have := HL0.out; omega, by have := HL1X.out; omega, rfl, rfl, rfl, rfl, by go_num, NZ.out, IZ.out⟩
                        case measure => simp [intOf]; omega
                      | false =>
                        have f1' : decide ((t8 : Int) < (v2 : Int)) = false := decide_eq_false (by have := of_decide_eq_false f1; omega)
                        go_wp2_with fail
                        refine (rseen N3.out.ln.two.rcv).mono ?_
                        rintro e w ⟨rfl, rfl⟩
                        go_wp2_with fail
                        go_upto_region 39 with fail
                        have hsD := ND.out.c1
                        refine wp_region_noPanic ?_
                        refine wp_region_held_drew (S := fun wz => wz.cell? ⟨lv, 1, none⟩ = some (.int .u64 (L1 : Int))) (by kernel_rfl) hsD (fun hHeld => ?_)
                        refine wpAnyH_take (i := 0) (v := ?_) rfl (by kernel_rfl) (by kernel_rfl) (by kernel_rfl) (fun _ _ _ h => h) (Or.inl ⟨by rfl, ?_⟩) hHeld ?_
                        rotate_left
                        · intro wq hSw
                          go_simp
                          all_goals with_reducible rfl
                        try simp only [Act.put, List.getElem_toArray, List.getElem_cons_succ, List.getElem_cons_zero, List.setIfInBounds_toArray, List.set_cons_zero, List.set_cons_succ]
                        refine wpAnyH_take (i := 1) (v := ?_) rfl (by kernel_rfl) (by kernel_rfl) (by kernel_rfl) (fun _ _ _ h => h) (Or.inl ⟨by rfl, ?_⟩) hHeld ?_
                        rotate_left
                        · intro wq hSw
                          go_simp
                          all_goals with_reducible rfl
                        try simp only [Act.put, List.getElem_toArray, List.getElem_cons_succ, List.getElem_cons_zero, List.setIfInBounds_toArray, List.set_cons_zero, List.set_cons_succ]
                        refine wpAnyH_take (i := 2) (v := ?_) rfl (by kernel_rfl) (by kernel_rfl) (by kernel_rfl) (fun _ _ _ h => h) (Or.inl ⟨by rfl, ?_⟩) hHeld ?_
                        rotate_left
                        · intro wq hSw
                          have q0 := hSw
                          go_simp
                          all_goals with_reducible rfl
                        try simp only [Act.put, List.getElem_toArray, List.getElem_cons_succ, List.getElem_cons_zero, List.setIfInBounds_toArray, List.set_cons_zero, List.set_cons_succ]
                        refine wpAnyH_take (i := 3) (v := ?_) rfl (by kernel_rfl) (by kernel_rfl) (by kernel_rfl) (fun _ _ _ h => h) (Or.inl ⟨by rfl, ?_⟩) hHeld ?_
                        rotate_left
                        · intro wq hSw
                          go_simp
                          all_goals with_reducible rfl
                        try simp only [Act.put, List.getElem_toArray, List.getElem_cons_succ, List.getElem_cons_zero, List.setIfInBounds_toArray, List.set_cons_zero, List.set_cons_succ]
                        refine wpAnyH_take (i := 5) (v := ?_) rfl (by kernel_rfl) (by kernel_rfl) (by kernel_rfl) (fun _ _ _ h => h) (Or.inl ⟨by rfl, ?_⟩) hHeld ?_
                        rotate_left
                        · intro wq hSw
                          go_simp
                          all_goals with_reducible rfl
                        try simp only [Act.put, List.getElem_toArray, List.getElem_cons_succ, List.getElem_cons_zero, List.setIfInBounds_toArray, List.set_cons_zero, List.set_cons_succ]
                        refine wpAnyH_ready (rs := [4]) (by kernel_rfl) (by simp) ?_
                        refine AllReadyH.cons rfl (fun K hK => ?_) AllReadyH.nil
                        go_simp
                        refine (rlife ND.out.ln.two.rcv).mono ?_
                        rintro e w9 ⟨rfl, rfl⟩
                        refine hK.out _ _ hHeld (fun hHeld => ?_)
                        clear hK K
                        try simp only [Act.put, List.getElem_toArray, List.getElem_cons_succ, List.getElem_cons_zero, List.setIfInBounds_toArray, List.set_cons_zero, List.set_cons_succ]
                        refine wpAnyH_take (i := 6) (v := ?_) rfl (by kernel_rfl) (by kernel_rfl) (by kernel_rfl) (fun _ _ _ h => h) (Or.inl ⟨by rfl, ?_⟩) hHeld ?_
                        rotate_left
                        · intro wq hSw
                          go_simp
                          all_goals with_reducible rfl
                        try simp only [Act.put, List.getElem_toArray, List.getElem_cons_succ, List.getElem_cons_zero, List.setIfInBounds_toArray, List.set_cons_zero, List.set_cons_succ]
                        refine wpAnyH_ready (rs := [7]) (by kernel_rfl) (by simp) ?_
                        refine AllReadyH.cons rfl (fun K hK => ?_) AllReadyH.nil
                        go_simp
                        have hsB := (ND.out.later ((Keep.refl (World.drew w4)).alloc #[.bool true, .int .u64 (L1 : Int), .int .u64 (rp : Int), .int .u64 (v2 : Int)] 65)).c1
                        refine hK.out _ _ hsB (fun hHeld => ?_)
                        clear hK K
                        try simp only [Act.put, List.getElem_toArray, List.getElem_cons_succ, List.getElem_cons_zero, List.setIfInBounds_toArray, List.set_cons_zero, List.set_cons_succ]
                        refine wpAnyH_ready (rs := [8]) (by kernel_rfl) (by simp) ?_
                        refine AllReadyH.cons rfl (fun K hK => ?_) AllReadyH.nil
                        refine wp_line_put 58 ⟨true, L1, rp, v2⟩ Try.underlying58 ND.out.ln (by have := HMI.out; omega) rfl rfl rfl rfl ?_
                        intro A2 c2 w5 l5 st5 _
                        have NZ := Lib.hid (ND.out.line l5 st5)
                        refine hK.out _ _ NZ.out.c1 (fun hHeld => ?_)
                        clear hK K l5 st5
                        try simp only [Act.put, List.getElem_toArray, List.getElem_cons_succ, List.getElem_cons_zero, List.setIfInBounds_toArray, List.set_cons_zero, List.set_cons_succ]
                        refine wpAnyH_take (i := 9) (v := ?_) rfl (by kernel_rfl) (by kernel_rfl) (by kernel_rfl) (fun _ _ _ h => h) (Or.inl ⟨by rfl, ?_⟩) hHeld ?_
                        rotate_left
                        · intro wq hSw
                          go_simp
                          all_goals with_reducible rfl
                        try simp only [Act.put, List.getElem_toArray, List.getElem_cons_succ, List.getElem_cons_zero, List.setIfInBounds_toArray, List.set_cons_zero, List.set_cons_succ]
                        refine wpAnyH_done (by kernel_rfl) ?_ _
                        refine NoPanic.normal ?_
                        clear hHeld
                        clear ND N4 N3 q1 q2 y0 y1 hsD hsB
                        go_wp2_with fail
                        go_round
                        case rel => exact ⟨i + 1, m + 1, c2, s, r, L0, L1, sp, sg, su, rp, v2, rs, A2, ws ++ [⟨true, L1, rp, v2⟩], (fun y => if y = (L1, rp) then v2 else G y), U, by omega, by omega, by have := HMI.out; omega, by have := HL0.out; omega, by have := HL1X.out; omega, rfl, rfl, rfl, rfl, by go_num, NZ.out, IZ.out⟩
                        case measure => simp [intOf]; omega
              · have y4 : (what == 4) = false := beq_eq_false_iff_ne.2 x4
                have z4 : decide (what = 4) = false := decide_eq_false x4
                clear x4
                go_upto_if 168 with fail
                go_cut [168] from 168 to 172 (fun v wx => wx = w1 ∧ ∃ z : Bool, v = .bool z)
                case first =>
                  by_cases x5 : what = 5
                  · have y5 : (what == 5) = true := beq_iff_eq.2 x5
                    have z5 : decide (what = 5) = true := decide_eq_true x5
                    clear x5
                    go_wp2_with fail
                    go_meet
                    case rel => exact ⟨rfl, true, rfl⟩
                  · have y5 : (what == 5) = false := beq_eq_false_iff_ne.2 x5
                    have z5 : decide (what = 5) = false := decide_eq_false x5
                    clear x5
                    by_cases x6 : what = 6
                    · have y6 : (what == 6) = true := beq_iff_eq.2 x6
                      have z6 : decide (what = 6) = true := decide_eq_true x6
                      clear x6
                      go_wp2_with fail
                      go_meet
                      case rel => exact ⟨rfl, true, rfl⟩
                    · have y6 : (what == 6) = false := beq_eq_false_iff_ne.2 x6
                      have z6 : decide (what = 6) = false := decide_eq_false x6
                      clear x6
                      by_cases x7 : what = 7
                      · have y7 : (what == 7) = true := beq_iff_eq.2 x7
                        have z7 : decide (what = 7) = true := decide_eq_true x7
                        clear x7
                        go_wp2_with fail
                        go_meet
                        case rel => exact ⟨rfl, true, rfl⟩
                      · have y7 : (what == 7) = false := beq_eq_false_iff_ne.2 x7
                        have z7 : decide (what = 7) = false := decide_eq_false x7
                        clear x7
                        go_wp2_with fail
                        go_meet
                        case rel => exact ⟨rfl, false, rfl⟩
                case rest =>
                  obtain ⟨hwc, z, rfl⟩ := hcut
                  obtain rfl : w1 = wc := hwc.symm
                  cases z with
                  | true =>
                    have d2 : w1.cell? ⟨o, 2, none⟩ = some (.int .u16 (at_ : Int)) := stp_cell HOB.out rfl
                    have d3 : w1.cell? ⟨o, 3, none⟩ = some (.bool stays) := stp_cell HOB.out rfl
                    by_cases hm0 : m = 0
                    ·
                      as_aux_lemma =>
                        subst hm0
                        have IZ := HW
                        have NZ := HL1
                        go_wp2_with fail
                        go_round
                        case rel => exact ⟨i + 1, 0, c, s, r, L0, L1, sp, sg, su, rp, rg, rs, A, ws, G, U, by omega, by omega, by omega, by have := HL0.out; omega, by have := HL1X.out; omega, rfl, rfl, rfl, rfl, by go_num, NZ.out.more (Nat.le_succ _), IZ.out⟩
                        case measure => simp [intOf]; omega
                    ·
                      obtain ⟨k, hk⟩ : ∃ v, at_ % m = v := ⟨_, rfl⟩
                      have hkm : k < m := by rw [← hk]; exact Nat.mod_lt _ (by omega)
                      have hm100 : m ≤ 100 := by have := HMI.out; omega
                      have b0 : ¬ (m : Int) = 0 := by omega
                      have b1' : decide ((m : Int) = 0) = false := decide_eq_false b0
                      have b2' : IntKind.i64.wrap (at_ : Int) = (at_ : Int) := IntWalk.i64_in _ (by omega)
                      have b3 : (at_ : Int).tmod (m : Int) = (k : Int) := by rw [Int.tmod_eq_emod_of_nonneg (by omega), ← hk]; rfl
                      have b4 : (at_ : Int) % (m : Int) = (k : Int) := by rw [← hk]; rfl
                      have b5 : IntKind.i64.wrap (k : Int) = (k : Int) := IntWalk.i64_in _ (by omega)
                      have b6 : (0 : Int) ≤ (k : Int) := Int.natCast_nonneg _
                      have b7 : (k : Int) < (m : Int) := by omega
                      obtain ⟨gw, ow, p, hA, hgw1, hgw2, hpk, e0, e1, e2, e3⟩ := HL1.out.ln.ways.at_ hkm
                      subst hA
                      obtain ⟨cr, lf, ds, nm⟩ := p
                      have HP := Lib.hid (List.mem_of_getElem? hpk)
                      have HKM := Lib.hid hkm
                      have HM100 := Lib.hid hm100
                      clear hk hkm hgw1 hgw2 hpk hm0 hm100
                      have hvb := heap_alloc_new w1 (.cells #[.bool cr, .int .u64 (lf : Int), .int .u64 (ds : Int), .int .u64 (nm : Int)] 65)
                      have hkv := (Keep.refl w1).alloc #[.bool cr, .int .u64 (lf : Int), .int .u64 (ds : Int), .int .u64 (nm : Int)] 65
                      obtain ⟨w2, hw2⟩ : ∃ v, w1.alloc (.cells #[.bool cr, .int .u64 (lf : Int), .int .u64 (ds : Int), .int .u64 (nm : Int)] 65) = v := ⟨_, rfl⟩
                      obtain ⟨vb, hv⟩ : ∃ v, w1.heap.size = v := ⟨_, rfl⟩
                      have hvs : vb ≠ s ∧ vb ≠ r := by have := HL1.out.ln.two.sen.lt; have := HL1.out.ln.two.rcv.lt; omega
                      rw [hw2, hv] at hvb
                      rw [hw2] at hkv
                      have HL2 := Lib.hid (HL1.out.later hkv)
                      have HVB := Lib.hid hvb
                      have HVS := Lib.hid hvs
                      have HO2 : w2.cell? ⟨o, 3, none⟩ = some (.bool stays) := (Below.cell (B := w1.heap.size) hkv (show o < w1.heap.size from (Array.getElem?_eq_some_iff.1 HOB.out).1)).trans d3
                      clear hvb hkv HL1 hvs
                      cases stays with
                      | true =>
                        have HV3 := Lib.hid (show w2.heap[vb]? = some (.cells #[.bool cr, .int .u64 (lf : Int), .int .u64 (ds : Int), .int .u64 (nm : Int)] 65 (0, 0)) from HVB.out)
                        have v0 : w2.cell? ⟨vb, 0, none⟩ = some (.bool cr) := stp_cell HV3.out rfl
                        have v1 : w2.cell? ⟨vb, 1, none⟩ = some (.int .u64 (lf : Int)) := stp_cell HV3.out rfl
                        have v2 : w2.cell? ⟨vb, 2, none⟩ = some (.int .u64 (ds : Int)) := stp_cell HV3.out rfl
                        have v3 : w2.cell? ⟨vb, 3, none⟩ = some (.int .u64 (nm : Int)) := stp_cell HV3.out rfl
                        cases cr with
                        | true =>
                          obtain ⟨iff0, e22, inv⟩ := HW.out.takes HP.out rfl HL2.out.ln.two.sen.high
                          have IFF := Lib.hid iff0
                          have E22 := Lib.hid e22
                          obtain ⟨P2, hP⟩ : ∃ v, takeP L0 sp lf ds nm = v := ⟨_, rfl⟩
                          obtain ⟨G2, hG⟩ : ∃ v, takeG L0 sp sg lf ds nm = v := ⟨_, rfl⟩
                          simp only [hP, hG] at inv
                          have IZ := Lib.hid inv
                          clear iff0 e22 inv
                          by_cases hds : L0 = ds
                          · subst hds
                            by_cases hle : sp ≤ lf
                            · have x4 : decide ((sp : Int) ≤ (lf : Int)) = true := decide_eq_true (by omega)
                              have x5 : decide (sp ≤ lf) = true := decide_eq_true hle
                              have hE : takeE L0 sp lf L0 nm = 0 := IFF.out.2 ⟨rfl, hle⟩
                              have hPl : P2 = lf := by rw [← hP, takeP, hE, if_pos rfl]
                              have CT := Lib.hid (line_take HL2.out.ln lf L0 nm hE hP hG rfl rfl rfl)
                              have HPL := Lib.hid hPl
                              clear hP hG hE hPl hle
                              as_aux_lemma =>
                                have q0 := HL2.out.c0
                                go_wp2_with fail
                                refine CT.out.mono ?_
                                rintro e w5 ⟨rfl, l5, k5⟩
                                have NZ := Lib.hid (HL2.out.line l5 (HL2.out.ln.still_of k5 (fun b hb e => (HL2.out.ln.xs b hb).1 e)))
                                have u1 : w5.cell? ⟨vb, 1, none⟩ = some (.int .u64 (lf : Int)) := k5.cell v1 HVS.out.1
                                have u2 : w5.cell? ⟨vb, 2, none⟩ = some (.int .u64 (L0 : Int)) := k5.cell v2 HVS.out.1
                                have q0 := NZ.out.c0
                                clear l5 k5 CT v0 v1 v2 v3
                                go_wp2_with fail
                                obtain rfl : P2 = lf := HPL.out
                                go_round
                                case rel => exact ⟨i + 1, m, c, s, r, L0, L1, P2, G2, su, rp, rg, rs, (some ⟨gw, ow, none⟩), ws, G, U, by omega, by omega, by have := HMI.out; omega, by have := HL0.out; omega, by have := HL1X.out; omega, rfl, rfl, rfl, rfl, by go_num, NZ.out.more (Nat.le_succ _), IZ.out⟩
                                case measure => simp [intOf]; omega
                            · have x4 : decide ((sp : Int) ≤ (lf : Int)) = false := decide_eq_false (by omega)
                              have x5 : decide (sp ≤ lf) = false := decide_eq_false hle
                              have hE : takeE L0 sp lf L0 nm = 22 := E22.out (fun h => hle h.2)
                              have hPl : P2 = sp := by rw [← hP, takeP, hE, if_neg (by decide)]
                              have CT := Lib.hid (line_take HL2.out.ln lf L0 nm hE hP hG rfl rfl rfl)
                              have HPL := Lib.hid hPl
                              clear hP hG hE hPl hle
                              as_aux_lemma =>
                                have q0 := HL2.out.c0
                                go_wp2_with fail
                                refine CT.out.mono ?_
                                rintro e w5 ⟨rfl, l5, k5⟩
                                have NZ := Lib.hid (HL2.out.line l5 (HL2.out.ln.still_of k5 (fun b hb e => (HL2.out.ln.xs b hb).1 e)))
                                have u1 : w5.cell? ⟨vb, 1, none⟩ = some (.int .u64 (lf : Int)) := k5.cell v1 HVS.out.1
                                have u2 : w5.cell? ⟨vb, 2, none⟩ = some (.int .u64 (L0 : Int)) := k5.cell v2 HVS.out.1
                                have q0 := NZ.out.c0
                                clear l5 k5 CT v0 v1 v2 v3
                                go_wp2_with fail
                                obtain rfl : P2 = sp := HPL.out
                                go_round
                                case rel => exact ⟨i + 1, m, c, s, r, L0, L1, P2, G2, su, rp, rg, rs, (some ⟨gw, ow, none⟩), ws, G, U, by omega, by omega, by have := HMI.out; omega, by have := HL0.out; omega, by have := HL1X.out; omega, rfl, rfl, rfl, rfl, by go_num, NZ.out.more (Nat.le_succ _), IZ.out⟩
                                case measure => simp [intOf]; omega
                          · have x1 : decide ((ds : Int) = (L0 : Int)) = false := decide_eq_false (by omega)
                            have x2 : decide (ds = L0) = false := decide_eq_false (fun e => hds e.symm)
                            have x3 : ¬ (ds : Int) = (L0 : Int) := by omega
                            have hE : takeE L0 sp lf ds nm = 22 := E22.out (fun h => hds h.1.symm)
                            have hPl : P2 = sp := by rw [← hP, takeP, hE, if_neg (by decide)]
                            have CT := Lib.hid (line_take HL2.out.ln lf ds nm hE hP hG rfl rfl rfl)
                            have HPL := Lib.hid hPl
                            clear hP hG hE hPl hds
                            as_aux_lemma =>
                              have q0 := HL2.out.c0
                              go_wp2_with fail
                              refine CT.out.mono ?_
                              rintro e w5 ⟨rfl, l5, k5⟩
                              have NZ := Lib.hid (HL2.out.line l5 (HL2.out.ln.still_of k5 (fun b hb e => (HL2.out.ln.xs b hb).1 e)))
                              have u1 : w5.cell? ⟨vb, 1, none⟩ = some (.int .u64 (lf : Int)) := k5.cell v1 HVS.out.1
                              have u2 : w5.cell? ⟨vb, 2, none⟩ = some (.int .u64 (ds : Int)) := k5.cell v2 HVS.out.1
                              have q0 := NZ.out.c0
                              clear l5 k5 CT v0 v1 v2 v3
                              go_wp2_with fail
                              obtain rfl : P2 = sp := HPL.out
                              go_round
                              case rel => exact ⟨i + 1, m, c, s, r, L0, L1, P2, G2, su, rp, rg, rs, (some ⟨gw, ow, none⟩), ws, G, U, by omega, by omega, by have := HMI.out; omega, by have := HL0.out; omega, by have := HL1X.out; omega, rfl, rfl, rfl, rfl, by go_num, NZ.out.more (Nat.le_succ _), IZ.out⟩
                              case measure => simp [intOf]; omega
                        | false =>
                          obtain ⟨iff0, e22, inv⟩ := HW.out.saws HP.out rfl
                          have IFF := Lib.hid iff0
                          have E22 := Lib.hid e22
                          obtain ⟨P2, hP⟩ : ∃ v, sawP rp lf nm = v := ⟨_, rfl⟩
                          obtain ⟨G2, hG⟩ : ∃ v, sawG rp rg lf nm = v := ⟨_, rfl⟩
                          obtain ⟨S2, hS⟩ : ∃ v, sawS rp rs lf nm = v := ⟨_, rfl⟩
                          simp only [hP, hG, hS] at inv
                          have IZ := Lib.hid inv
                          clear iff0 e22 inv
                          by_cases hle : rp ≤ lf
                          · have x4 : decide ((rp : Int) ≤ (lf : Int)) = true := decide_eq_true (by omega)
                            have x5 : decide (rp ≤ lf) = true := decide_eq_true hle
                            have hE : sawE rp lf nm = 0 := IFF.out.2 hle
                            have CT := Lib.hid (fun w' (h : Nev W w' s r lv b1 b2 i L0 L1 sp sg su rp rg rs (some ⟨gw, ow, none⟩) m c ws G U) => line_saw h.ln lf nm hE hP hG hS rfl rfl)
                            clear hP hG hS hE hle
                            as_aux_lemma =>
                              go_wp2_with fail
                              refine (rlife HL2.out.ln.two.rcv).mono ?_
                              rintro e w ⟨rfl, hv⟩
                              obtain rfl : w2 = w := hv.symm
                              go_upto_region 55 with fail
                              have ND := Lib.hid (HL2.out.later (Keep.refl w2).drew)
                              have HVD := Lib.hid (((Keep.refl w2).drew.block vb (Array.getElem?_eq_some_iff.1 HV3.out).1).trans HV3.out)
                              refine wp_region_noPanic ?_
                              refine wp_region_held_drew (S := fun wz => wz.heap[vb]? = some (.cells #[.bool false, .int .u64 (lf : Int), .int .u64 (ds : Int), .int .u64 (nm : Int)] 65 (0, 0))) (by kernel_rfl) (by exact HVD.out) (fun hHeld => ?_)
                              refine wpAnyH_take (i := 0) (v := ?_) rfl (by kernel_rfl) (by kernel_rfl) (by kernel_rfl) (fun _ _ _ h => h) (Or.inl ⟨by rfl, ?_⟩) hHeld ?_
                              rotate_left
                              · intro wq hSw
                                go_simp
                                all_goals with_reducible rfl
                              try simp only [Act.put, List.getElem_toArray, List.getElem_cons_succ, List.getElem_cons_zero, List.setIfInBounds_toArray, List.set_cons_zero, List.set_cons_succ]
                              refine wpAnyH_take (i := 1) (v := ?_) rfl (by kernel_rfl) (by kernel_rfl) (by kernel_rfl) (fun _ _ _ h => h) (Or.inl ⟨by rfl, ?_⟩) hHeld ?_
                              rotate_left
                              · intro wq hSw
                                go_simp
                                all_goals with_reducible rfl
                              try simp only [Act.put, List.getElem_toArray, List.getElem_cons_succ, List.getElem_cons_zero, List.setIfInBounds_toArray, List.set_cons_zero, List.set_cons_succ]
                              refine wpAnyH_take (i := 2) (v := ?_) rfl (by kernel_rfl) (by kernel_rfl) (by kernel_rfl) (fun _ _ _ h => h) (Or.inl ⟨by rfl, ?_⟩) hHeld ?_
                              rotate_left
                              · intro wq hSw
                                have q0 := stp_cell (i := 1) hSw rfl
                                go_simp
                                all_goals with_reducible rfl
                              try simp only [Act.put, List.getElem_toArray, List.getElem_cons_succ, List.getElem_cons_zero, List.setIfInBounds_toArray, List.set_cons_zero, List.set_cons_succ]
                              refine wpAnyH_take (i := 3) (v := ?_) rfl (by kernel_rfl) (by kernel_rfl) (by kernel_rfl) (fun _ _ _ h => h) (Or.inl ⟨by rfl, ?_⟩) hHeld ?_
                              rotate_left
                              · intro wq hSw
                                go_simp
                                all_goals with_reducible rfl
                              try simp only [Act.put, List.getElem_toArray, List.getElem_cons_succ, List.getElem_cons_zero, List.setIfInBounds_toArray, List.set_cons_zero, List.set_cons_succ]
                              refine wpAnyH_take (i := 4) (v := ?_) rfl (by kernel_rfl) (by kernel_rfl) (by kernel_rfl) (fun _ _ _ h => h) (Or.inl ⟨by rfl, ?_⟩) hHeld ?_
                              rotate_left
                              · intro wq hSw
                                have q0 := stp_cell (i := 3) hSw rfl
                                go_simp
                                all_goals with_reducible rfl
                              try simp only [Act.put, List.getElem_toArray, List.getElem_cons_succ, List.getElem_cons_zero, List.setIfInBounds_toArray, List.set_cons_zero, List.set_cons_succ]
                              refine wpAnyH_take (i := 7) (v := ?_) rfl (by kernel_rfl) (by kernel_rfl) (by kernel_rfl) (fun _ _ _ h => h) (Or.inl ⟨by rfl, ?_⟩) hHeld ?_
                              rotate_left
                              · intro wq hSw
                                go_simp
                                all_goals with_reducible rfl
                              try simp only [Act.put, List.getElem_toArray, List.getElem_cons_succ, List.getElem_cons_zero, List.setIfInBounds_toArray, List.set_cons_zero, List.set_cons_succ]
                              refine wpAnyH_take (i := 8) (v := ?_) rfl (by kernel_rfl) (by kernel_rfl) (by kernel_rfl) (fun _ _ _ h => h) (Or.inl ⟨by rfl, ?_⟩) hHeld ?_
                              rotate_left
                              · intro wq hSw
                                have q0 := stp_cell (i := 1) hSw rfl
                                go_simp
                                all_goals with_reducible rfl
                              try simp only [Act.put, List.getElem_toArray, List.getElem_cons_succ, List.getElem_cons_zero, List.setIfInBounds_toArray, List.set_cons_zero, List.set_cons_succ]
                              refine wpAnyH_take (i := 9) (v := ?_) rfl (by kernel_rfl) (by kernel_rfl) (by kernel_rfl) (fun _ _ _ h => h) (Or.inl ⟨by rfl, ?_⟩) hHeld ?_
                              rotate_left
                              · intro wq hSw
                                go_simp
                                all_goals with_reducible rfl
                              try simp only [Act.put, List.getElem_toArray, List.getElem_cons_succ, List.getElem_cons_zero, List.setIfInBounds_toArray, List.set_cons_zero, List.set_cons_succ]
                              refine wpAnyH_take (i := 10) (v := ?_) rfl (by kernel_rfl) (by kernel_rfl) (by kernel_rfl) (fun _ _ _ h => h) (Or.inl ⟨by rfl, ?_⟩) hHeld ?_
                              rotate_left
                              · intro wq hSw
                                go_simp
                                all_goals with_reducible rfl
                              try simp only [Act.put, List.getElem_toArray, List.getElem_cons_succ, List.getElem_cons_zero, List.setIfInBounds_toArray, List.set_cons_zero, List.set_cons_succ]
                              refine wpAnyH_ready (rs := [5]) (by kernel_rfl) (by simp) ?_
                              refine AllReadyH.cons rfl (fun K hK => ?_) AllReadyH.nil
                              go_simp
                              refine (CT.out _ ND.out).mono ?_
                              rintro e w5 ⟨rfl, l5, k5⟩
                              have NZ := Lib.hid (ND.out.line l5 (ND.out.ln.still_of k5 (fun b hb e => (ND.out.ln.xs b hb).2.1 e)))
                              have HV5 := Lib.hid ((k5.block vb (Array.getElem?_eq_some_iff.1 HVD.out).1 HVS.out.2).trans HVD.out)
                              clear l5 k5
                              refine hK.out _ _ HV5.out (fun hHeld => ?_)
                              clear hK K
                              try simp only [Act.put, List.getElem_toArray, List.getElem_cons_succ, List.getElem_cons_zero, List.setIfInBounds_toArray, List.set_cons_zero, List.set_cons_succ]
                              refine wpAnyH_take (i := 6) (v := ?_) rfl (by kernel_rfl) (by kernel_rfl) (by kernel_rfl) (fun _ _ _ h => h) (Or.inl ⟨by rfl, ?_⟩) hHeld ?_
                              rotate_left
                              · intro wq hSw
                                go_simp
                                all_goals with_reducible rfl
                              try simp only [Act.put, List.getElem_toArray, List.getElem_cons_succ, List.getElem_cons_zero, List.setIfInBounds_toArray, List.set_cons_zero, List.set_cons_succ]
                              refine wpAnyH_take (i := 11) (v := ?_) rfl (by kernel_rfl) (by kernel_rfl) (by kernel_rfl) (fun _ _ _ h => h) (Or.inl ⟨by rfl, ?_⟩) hHeld ?_
                              rotate_left
                              · intro wq hSw
                                go_simp
                                all_goals with_reducible rfl
                              try simp only [Act.put, List.getElem_toArray, List.getElem_cons_succ, List.getElem_cons_zero, List.setIfInBounds_toArray, List.set_cons_zero, List.set_cons_succ]
                              refine wpAnyH_done (by kernel_rfl) ?_ _
                              refine NoPanic.normal ?_
                              clear hHeld
                              clear CT ND HVD HV5 v0 v1 v2 v3
                              obtain ⟨uk, huk⟩ : ∃ v, U P2 = v := ⟨_, rfl⟩
                              have j1 : decide ((uk : Int) < (S2 : Int)) = false := decide_eq_false (by have := IZ.out.s1; omega)
                              have j2 : decide (uk < S2) = false := decide_eq_false (by have := IZ.out.s1; omega)
                              have q7 := NZ.out.lookU (a := P2) (by have := NZ.out.ln.two.rcv.hp; omega)
                              rw [huk] at q7
                              clear huk
                              go_wp2_with fail
                              refine (rseen NZ.out.ln.two.rcv).mono ?_
                              rintro e w ⟨rfl, rfl⟩
                              go_wp2_with fail
                              refine (rlife NZ.out.ln.two.rcv).mono ?_
                              rintro e w ⟨rfl, rfl⟩
                              go_wp2_with fail
                              go_round
                              case rel => exact ⟨i + 1, m, c, s, r, L0, L1, sp, sg, su, P2, G2, S2, (some ⟨gw, ow, none⟩), ws, G, U, by omega, by omega, by have := HMI.out; omega, by have := HL0.out; omega, by have := HL1X.out; omega, rfl, rfl, rfl, rfl, by go_num, NZ.out.more (Nat.le_succ _), IZ.out⟩
                              case measure => simp [intOf]; omega
                          · have x4 : decide ((rp : Int) ≤ (lf : Int)) = false := decide_eq_false (by omega)
                            have x5 : decide (rp ≤ lf) = false := decide_eq_false hle
                            have hE : sawE rp lf nm = 22 := E22.out hle
                            have CT := Lib.hid (fun w' (h : Nev W w' s r lv b1 b2 i L0 L1 sp sg su rp rg rs (some ⟨gw, ow, none⟩) m c ws G U) => line_saw h.ln lf nm hE hP hG hS rfl rfl)
                            clear hP hG hS hE hle
                            as_aux_lemma =>
                              go_wp2_with fail
                              refine (rlife HL2.out.ln.two.rcv).mono ?_
                              rintro e w ⟨rfl, hv⟩
                              obtain rfl : w2 = w := hv.symm
                              go_upto_region 55 with fail
                              have ND := Lib.hid (HL2.out.later (Keep.refl w2).drew)
                              have HVD := Lib.hid (((Keep.refl w2).drew.block vb (Array.getElem?_eq_some_iff.1 HV3.out).1).trans HV3.out)
                              refine wp_region_noPanic ?_
                              refine wp_region_held_drew (S := fun wz => wz.heap[vb]? = some (.cells #[.bool false, .int .u64 (lf : Int), .int .u64 (ds : Int), .int .u64 (nm : Int)] 65 (0, 0))) (by kernel_rfl) (by exact HVD.out) (fun hHeld => ?_)
                              refine wpAnyH_take (i := 0) (v := ?_) rfl (by kernel_rfl) (by kernel_rfl) (by kernel_rfl) (fun _ _ _ h => h) (Or.inl ⟨by rfl, ?_⟩) hHeld ?_
                              rotate_left
                              · intro wq hSw
                                go_simp
                                all_goals with_reducible rfl
                              try simp only [Act.put, List.getElem_toArray, List.getElem_cons_succ, List.getElem_cons_zero, List.setIfInBounds_toArray, List.set_cons_zero, List.set_cons_succ]
                              refine wpAnyH_take (i := 1) (v := ?_) rfl (by kernel_rfl) (by kernel_rfl) (by kernel_rfl) (fun _ _ _ h => h) (Or.inl ⟨by rfl, ?_⟩) hHeld ?_
                              rotate_left
                              · intro wq hSw
                                go_simp
                                all_goals with_reducible rfl
                              try simp only [Act.put, List.getElem_toArray, List.getElem_cons_succ, List.getElem_cons_zero, List.setIfInBounds_toArray, List.set_cons_zero, List.set_cons_succ]
                              refine wpAnyH_take (i := 2) (v := ?_) rfl (by kernel_rfl) (by kernel_rfl) (by kernel_rfl) (fun _ _ _ h => h) (Or.inl ⟨by rfl, ?_⟩) hHeld ?_
                              rotate_left
                              · intro wq hSw
                                have q0 := stp_cell (i := 1) hSw rfl
                                go_simp
                                all_goals with_reducible rfl
                              try simp only [Act.put, List.getElem_toArray, List.getElem_cons_succ, List.getElem_cons_zero, List.setIfInBounds_toArray, List.set_cons_zero, List.set_cons_succ]
                              refine wpAnyH_take (i := 3) (v := ?_) rfl (by kernel_rfl) (by kernel_rfl) (by kernel_rfl) (fun _ _ _ h => h) (Or.inl ⟨by rfl, ?_⟩) hHeld ?_
                              rotate_left
                              · intro wq hSw
                                go_simp
                                all_goals with_reducible rfl
                              try simp only [Act.put, List.getElem_toArray, List.getElem_cons_succ, List.getElem_cons_zero, List.setIfInBounds_toArray, List.set_cons_zero, List.set_cons_succ]
                              refine wpAnyH_take (i := 4) (v := ?_) rfl (by kernel_rfl) (by kernel_rfl) (by kernel_rfl) (fun _ _ _ h => h) (Or.inl ⟨by rfl, ?_⟩) hHeld ?_
                              rotate_left
                              · intro wq hSw
                                have q0 := stp_cell (i := 3) hSw rfl
                                go_simp
                                all_goals with_reducible rfl
                              try simp only [Act.put, List.getElem_toArray, List.getElem_cons_succ, List.getElem_cons_zero, List.setIfInBounds_toArray, List.set_cons_zero, List.set_cons_succ]
                              refine wpAnyH_take (i := 7) (v := ?_) rfl (by kernel_rfl) (by kernel_rfl) (by kernel_rfl) (fun _ _ _ h => h) (Or.inl ⟨by rfl, ?_⟩) hHeld ?_
                              rotate_left
                              · intro wq hSw
                                go_simp
                                all_goals with_reducible rfl
                              try simp only [Act.put, List.getElem_toArray, List.getElem_cons_succ, List.getElem_cons_zero, List.setIfInBounds_toArray, List.set_cons_zero, List.set_cons_succ]
                              refine wpAnyH_take (i := 8) (v := ?_) rfl (by kernel_rfl) (by kernel_rfl) (by kernel_rfl) (fun _ _ _ h => h) (Or.inl ⟨by rfl, ?_⟩) hHeld ?_
                              rotate_left
                              · intro wq hSw
                                have q0 := stp_cell (i := 1) hSw rfl
                                go_simp
                                all_goals with_reducible rfl
                              try simp only [Act.put, List.getElem_toArray, List.getElem_cons_succ, List.getElem_cons_zero, List.setIfInBounds_toArray, List.set_cons_zero, List.set_cons_succ]
                              refine wpAnyH_take (i := 9) (v := ?_) rfl (by kernel_rfl) (by kernel_rfl) (by kernel_rfl) (fun _ _ _ h => h) (Or.inl ⟨by rfl, ?_⟩) hHeld ?_
                              rotate_left
                              · intro wq hSw
                                go_simp
                                all_goals with_reducible rfl
                              try simp only [Act.put, List.getElem_toArray, List.getElem_cons_succ, List.getElem_cons_zero, List.setIfInBounds_toArray, List.set_cons_zero, List.set_cons_succ]
                              refine wpAnyH_take (i := 10) (v := ?_) rfl (by kernel_rfl) (by kernel_rfl) (by kernel_rfl) (fun _ _ _ h => h) (Or.inl ⟨by rfl, ?_⟩) hHeld ?_
                              rotate_left
                              · intro wq hSw
                                go_simp
                                all_goals with_reducible rfl
                              try simp only [Act.put, List.getElem_toArray, List.getElem_cons_succ, List.getElem_cons_zero, List.setIfInBounds_toArray, List.set_cons_zero, List.set_cons_succ]
                              refine wpAnyH_ready (rs := [5]) (by kernel_rfl) (by simp) ?_
                              refine AllReadyH.cons rfl (fun K hK => ?_) AllReadyH.nil
                              go_simp
                              refine (CT.out _ ND.out).mono ?_
                              rintro e w5 ⟨rfl, l5, k5⟩
                              have NZ := Lib.hid (ND.out.line l5 (ND.out.ln.still_of k5 (fun b hb e => (ND.out.ln.xs b hb).2.1 e)))
                              have HV5 := Lib.hid ((k5.block vb (Array.getElem?_eq_some_iff.1 HVD.out).1 HVS.out.2).trans HVD.out)
                              clear l5 k5
                              refine hK.out _ _ HV5.out (fun hHeld => ?_)
                              clear hK K
                              try simp only [Act.put, List.getElem_toArray, List.getElem_cons_succ, List.getElem_cons_zero, List.setIfInBounds_toArray, List.set_cons_zero, List.set_cons_succ]
                              refine wpAnyH_take (i := 6) (v := ?_) rfl (by kernel_rfl) (by kernel_rfl) (by kernel_rfl) (fun _ _ _ h => h) (Or.inl ⟨by rfl, ?_⟩) hHeld ?_
                              rotate_left
                              · intro wq hSw
                                go_simp
                                all_goals with_reducible rfl
                              try simp only [Act.put, List.getElem_toArray, List.getElem_cons_succ, List.getElem_cons_zero, List.setIfInBounds_toArray, List.set_cons_zero, List.set_cons_succ]
                              refine wpAnyH_take (i := 11) (v := ?_) rfl (by kernel_rfl) (by kernel_rfl) (by kernel_rfl) (fun _ _ _ h => h) (Or.inl ⟨by rfl, ?_⟩) hHeld ?_
                              rotate_left
                              · intro wq hSw
                                go_simp
                                all_goals with_reducible rfl
                              try simp only [Act.put, List.getElem_toArray, List.getElem_cons_succ, List.getElem_cons_zero, List.setIfInBounds_toArray, List.set_cons_zero, List.set_cons_succ]
                              refine wpAnyH_done (by kernel_rfl) ?_ _
                              refine NoPanic.normal ?_
                              clear hHeld
                              clear CT ND HVD HV5 v0 v1 v2 v3
                              obtain ⟨uk, huk⟩ : ∃ v, U P2 = v := ⟨_, rfl⟩
                              have j1 : decide ((uk : Int) < (S2 : Int)) = false := decide_eq_false (by have := IZ.out.s1; omega)
                              have j2 : decide (uk < S2) = false := decide_eq_false (by have := IZ.out.s1; omega)
                              have q7 := NZ.out.lookU (a := P2) (by have := NZ.out.ln.two.rcv.hp; omega)
                              rw [huk] at q7
                              clear huk
                              go_wp2_with fail
                              refine (rseen NZ.out.ln.two.rcv).mono ?_
                              rintro e w ⟨rfl, rfl⟩
                              go_wp2_with fail
                              refine (rlife NZ.out.ln.two.rcv).mono ?_
                              rintro e w ⟨rfl, rfl⟩
                              go_wp2_with fail
                              go_round
                              case rel => exact ⟨i + 1, m, c, s, r, L0, L1, sp, sg, su, P2, G2, S2, (some ⟨gw, ow, none⟩), ws, G, U, by omega, by omega, by have := HMI.out; omega, by have := HL0.out; omega, by have := HL1X.out; omega, rfl, rfl, rfl, rfl, by go_num, NZ.out.more (Nat.le_succ _), IZ.out⟩
                              case measure => simp [intOf]; omega
                      | false =>
                        have q1 := run_head_way m c k (some ⟨gw, ow, none⟩) (Nat.le_of_lt HKM.out) HL2.out.ln.ways.cap.1
                        have q2 : ∀ w : World, (Instr.slice 58 (.slice (some ⟨gw, ow, none⟩) m c) (some (.int .i64 ((k : Int) + 1))) none none).run Try.prog w = .ok (.slice (dropWA (some ⟨gw, ow, none⟩) c (k + 1)) (m - (k + 1)) (c - (k + 1))) w := run_tail_way m c k _ HKM.out (by omega)
                        have q3 : IntKind.i64.wrap ((k : Int) + 1) = (k : Int) + 1 := IntWalk.i64_in _ (by have := HKM.out; have := HM100.out; omega)
                        have hkd : Keep w2 w2.drew := (Keep.refl w2).drew
                        have hnd := HL2.out.later hkd
                        obtain ⟨A3, c3, w3, hrun, l3, k3⟩ := hnd.ln.out HKM.out (by have := HM100.out; omega) Try.underlying58 58
                        obtain ⟨D, hD⟩ : ∃ v, dropWA (some ⟨gw, ow, none⟩) c (k + 1) = v := ⟨_, rfl⟩
                        obtain ⟨dn, hdn⟩ : ∃ v, m - (k + 1) = v := ⟨_, rfl⟩
                        obtain ⟨dc, hdc⟩ : ∃ v, c - (k + 1) = v := ⟨_, rfl⟩
                        obtain ⟨m3, hm3⟩ : ∃ v, m - 1 = v := ⟨_, rfl⟩
                        simp only [hD, hdn, hdc] at q2
                        rw [hD, hdn, hdc, hm3] at hrun
                        rw [hm3] at l3
                        have HM3 : Hid (m3 ≤ i) := Lib.hid (by have := HMI.out; omega)
                        have L3 := Lib.hid (hnd.line l3 (hnd.ln.later_still k3))
                        have HV3 := Lib.hid ((k3.block vb (by have := hkd.size; have := (Array.getElem?_eq_some_iff.1 HVB.out).1; omega)).trans ((hkd.block vb (Array.getElem?_eq_some_iff.1 HVB.out).1).trans HVB.out))
                        clear hkd hnd l3 k3 hD hdn hdc hm3
                        go_upto_region 47 with fail
                        refine wp_region_still_tail (w := w2) 8 (by kernel_rfl) (by kernel_rfl) ?_
                        simp only [List.take_succ_cons, List.take_zero, List.drop_succ_cons, List.drop_zero]
                        change wpStill _ _ (World.drew w2) _ _ _
                        iterate 8 still_step
                        refine wpStill_nil ?_
                        change wpList _ _ _ _ _ (World.drew w2)
                        refine wpList_run_append rfl _ _ 58 rfl rfl rfl hrun ?_
                        clear hrun q1 q2 q3
                        have v0 : w3.cell? ⟨vb, 0, none⟩ = some (.bool cr) := stp_cell HV3.out rfl
                        have v1 : w3.cell? ⟨vb, 1, none⟩ = some (.int .u64 (lf : Int)) := stp_cell HV3.out rfl
                        have v2 : w3.cell? ⟨vb, 2, none⟩ = some (.int .u64 (ds : Int)) := stp_cell HV3.out rfl
                        have v3 : w3.cell? ⟨vb, 3, none⟩ = some (.int .u64 (nm : Int)) := stp_cell HV3.out rfl
                        cases cr with
                        | true =>
                          obtain ⟨iff0, e22, inv⟩ := HW.out.takes HP.out rfl L3.out.ln.two.sen.high
                          replace inv := inv.out k
                          have IFF := Lib.hid iff0
                          have E22 := Lib.hid e22
                          obtain ⟨P2, hP⟩ : ∃ v, takeP L0 sp lf ds nm = v := ⟨_, rfl⟩
                          obtain ⟨G2, hG⟩ : ∃ v, takeG L0 sp sg lf ds nm = v := ⟨_, rfl⟩
                          simp only [hP, hG] at inv
                          have IZ := Lib.hid inv
                          clear iff0 e22 inv
                          by_cases hds : L0 = ds
                          · subst hds
                            by_cases hle : sp ≤ lf
                            · have x4 : decide ((sp : Int) ≤ (lf : Int)) = true := decide_eq_true (by omega)
                              have x5 : decide (sp ≤ lf) = true := decide_eq_true hle
                              have hE : takeE L0 sp lf L0 nm = 0 := IFF.out.2 ⟨rfl, hle⟩
                              have hPl : P2 = lf := by rw [← hP, takeP, hE, if_pos rfl]
                              have CT := Lib.hid (line_take L3.out.ln lf L0 nm hE hP hG rfl rfl rfl)
                              have HPL := Lib.hid hPl
                              clear hP hG hE hPl hle
                              as_aux_lemma =>
                                have q0 := L3.out.c0
                                go_wp2_with fail
                                refine CT.out.mono ?_
                                rintro e w5 ⟨rfl, l5, k5⟩
                                have NZ := Lib.hid (L3.out.line l5 (L3.out.ln.still_of k5 (fun b hb e => (L3.out.ln.xs b hb).1 e)))
                                have u1 : w5.cell? ⟨vb, 1, none⟩ = some (.int .u64 (lf : Int)) := k5.cell v1 HVS.out.1
                                have u2 : w5.cell? ⟨vb, 2, none⟩ = some (.int .u64 (L0 : Int)) := k5.cell v2 HVS.out.1
                                have q0 := NZ.out.c0
                                clear l5 k5 CT v0 v1 v2 v3
                                go_wp2_with fail
                                obtain rfl : P2 = lf := HPL.out
                                have HMI := HM3
                                go_round
                                case rel => exact ⟨i + 1, m3, c3, s, r, L0, L1, P2, G2, su, rp, rg, rs, A3, (ws.eraseIdx k), G, U, by omega, by omega, by have := HMI.out; omega, by have := HL0.out; omega, by have := HL1X.out; omega, rfl, rfl, rfl, rfl, by go_num, NZ.out.more (Nat.le_succ _), IZ.out⟩
                                case measure => simp [intOf]; omega
                            · have x4 : decide ((sp : Int) ≤ (lf : Int)) = false := decide_eq_false (by omega)
                              have x5 : decide (sp ≤ lf) = false := decide_eq_false hle
                              have hE : takeE L0 sp lf L0 nm = 22 := E22.out (fun h => hle h.2)
                              have hPl : P2 = sp := by rw [← hP, takeP, hE, if_neg (by decide)]
                              have CT := Lib.hid (line_take L3.out.ln lf L0 nm hE hP hG rfl rfl rfl)
                              have HPL := Lib.hid hPl
                              clear hP hG hE hPl hle
                              as_aux_lemma =>
                                have q0 := L3.out.c0
                                go_wp2_with fail
                                refine CT.out.mono ?_
                                rintro e w5 ⟨rfl, l5, k5⟩
                                have NZ := Lib.hid (L3.out.line l5 (L3.out.ln.still_of k5 (fun b hb e => (L3.out.ln.xs b hb).1 e)))
                                have u1 : w5.cell? ⟨vb, 1, none⟩ = some (.int .u64 (lf : Int)) := k5.cell v1 HVS.out.1
                                have u2 : w5.cell? ⟨vb, 2, none⟩ = some (.int .u64 (L0 : Int)) := k5.cell v2 HVS.out.1
                                have q0 := NZ.out.c0
                                clear l5 k5 CT v0 v1 v2 v3
                                go_wp2_with fail
                                obtain rfl : P2 = sp := HPL.out
                                have HMI := HM3
                                go_round
                                case rel => exact ⟨i + 1, m3, c3, s, r, L0, L1, P2, G2, su, rp, rg, rs, A3, (ws.eraseIdx k), G, U, by omega, by omega, by have := HMI.out; omega, by have := HL0.out; omega, by have := HL1X.out; omega, rfl, rfl, rfl, rfl, by go_num, NZ.out.more (Nat.le_succ _), IZ.out⟩
                                case measure => simp [intOf]; omega
                          · have x1 : decide ((ds : Int) = (L0 : Int)) = false := decide_eq_false (by omega)
                            have x2 : decide (ds = L0) = false := decide_eq_false (fun e => hds e.symm)
                            have x3 : ¬ (ds : Int) = (L0 : Int) := by omega
                            have hE : takeE L0 sp lf ds nm = 22 := E22.out (fun h => hds h.1.symm)
                            have hPl : P2 = sp := by rw [← hP, takeP, hE, if_neg (by decide)]
                            have CT := Lib.hid (line_take L3.out.ln lf ds nm hE hP hG rfl rfl rfl)
                            have HPL := Lib.hid hPl
                            clear hP hG hE hPl hds
                            as_aux_lemma =>
                              have q0 := L3.out.c0
                              go_wp2_with fail
                              refine CT.out.mono ?_
                              rintro e w5 ⟨rfl, l5, k5⟩
                              have NZ := Lib.hid (L3.out.line l5 (L3.out.ln.still_of k5 (fun b hb e => (L3.out.ln.xs b hb).1 e)))
                              have u1 : w5.cell? ⟨vb, 1, none⟩ = some (.int .u64 (lf : Int)) := k5.cell v1 HVS.out.1
                              have u2 : w5.cell? ⟨vb, 2, none⟩ = some (.int .u64 (ds : Int)) := k5.cell v2 HVS.out.1
                              have q0 := NZ.out.c0
                              clear l5 k5 CT v0 v1 v2 v3
                              go_wp2_with fail
                              obtain rfl : P2 = sp := HPL.out
                              have HMI := HM3
                              go_round
                              case rel => exact ⟨i + 1, m3, c3, s, r, L0, L1, P2, G2, su, rp, rg, rs, A3, (ws.eraseIdx k), G, U, by omega, by omega, by have := HMI.out; omega, by have := HL0.out; omega, by have := HL1X.out; omega, rfl, rfl, rfl, rfl, by go_num, NZ.out.more (Nat.le_succ _), IZ.out⟩
                              case measure => simp [intOf]; omega
                        | false =>
                          obtain ⟨iff0, e22, inv⟩ := HW.out.saws HP.out rfl
                          replace inv := inv.out k
                          have IFF := Lib.hid iff0
                          have E22 := Lib.hid e22
                          obtain ⟨P2, hP⟩ : ∃ v, sawP rp lf nm = v := ⟨_, rfl⟩
                          obtain ⟨G2, hG⟩ : ∃ v, sawG rp rg lf nm = v := ⟨_, rfl⟩
                          obtain ⟨S2, hS⟩ : ∃ v, sawS rp rs lf nm = v := ⟨_, rfl⟩
                          simp only [hP, hG, hS] at inv
                          have IZ := Lib.hid inv
                          clear iff0 e22 inv
                          by_cases hle : rp ≤ lf
                          · have x4 : decide ((rp : Int) ≤ (lf : Int)) = true := decide_eq_true (by omega)
                            have x5 : decide (rp ≤ lf) = true := decide_eq_true hle
                            have hE : sawE rp lf nm = 0 := IFF.out.2 hle
                            have CT := Lib.hid (fun w' (h : Nev W w' s r lv b1 b2 i L0 L1 sp sg su rp rg rs A3 m3 c3 (ws.eraseIdx k) G U) => line_saw h.ln lf nm hE hP hG hS rfl rfl)
                            clear hP hG hS hE hle
                            as_aux_lemma =>
                              go_wp2_with fail
                              refine (rlife L3.out.ln.two.rcv).mono ?_
                              rintro e w ⟨rfl, hv⟩
                              obtain rfl : w3 = w := hv.symm
                              go_upto_region 55 with fail
                              have ND := Lib.hid (L3.out.later (Keep.refl w3).drew)
                              have HVD := Lib.hid (((Keep.refl w3).drew.block vb (Array.getElem?_eq_some_iff.1 HV3.out).1).trans HV3.out)
                              refine wp_region_noPanic ?_
                              refine wp_region_held_drew (S := fun wz => wz.heap[vb]? = some (.cells #[.bool false, .int .u64 (lf : Int), .int .u64 (ds : Int), .int .u64 (nm : Int)] 65 (0, 0))) (by kernel_rfl) (by exact HVD.out) (fun hHeld => ?_)
                              refine wpAnyH_take (i := 0) (v := ?_) rfl (by kernel_rfl) (by kernel_rfl) (by kernel_rfl) (fun _ _ _ h => h) (Or.inl ⟨by rfl, ?_⟩) hHeld ?_
                              rotate_left
                              · intro wq hSw
                                go_simp
                                all_goals with_reducible rfl
                              try simp only [Act.put, List.getElem_toArray, List.getElem_cons_succ, List.getElem_cons_zero, List.setIfInBounds_toArray, List.set_cons_zero, List.set_cons_succ]
                              refine wpAnyH_take (i := 1) (v := ?_) rfl (by kernel_rfl) (by kernel_rfl) (by kernel_rfl) (fun _ _ _ h => h) (Or.inl ⟨by rfl, ?_⟩) hHeld ?_
                              rotate_left
                              · intro wq hSw
                                go_simp
                                all_goals with_reducible rfl
                              try simp only [Act.put, List.getElem_toArray, List.getElem_cons_succ, List.getElem_cons_zero, List.setIfInBounds_toArray, List.set_cons_zero, List.set_cons_succ]
                              refine wpAnyH_take (i := 2) (v := ?_) rfl (by kernel_rfl) (by kernel_rfl) (by kernel_rfl) (fun _ _ _ h => h) (Or.inl ⟨by rfl, ?_⟩) hHeld ?_
                              rotate_left
                              · intro wq hSw
                                have q0 := stp_cell (i := 1) hSw rfl
                                go_simp
                                all_goals with_reducible rfl
                              try simp only [Act.put, List.getElem_toArray, List.getElem_cons_succ, List.getElem_cons_zero, List.setIfInBounds_toArray, List.set_cons_zero, List.set_cons_succ]
                              refine wpAnyH_take (i := 3) (v := ?_) rfl (by kernel_rfl) (by kernel_rfl) (by kernel_rfl) (fun _ _ _ h => h) (Or.inl ⟨by rfl, ?_⟩) hHeld ?_
                              rotate_left
                              · intro wq hSw
                                go_simp
                                all_goals with_reducible rfl
                              try simp only [Act.put, List.getElem_toArray, List.getElem_cons_succ, List.getElem_cons_zero, List.setIfInBounds_toArray, List.set_cons_zero, List.set_cons_succ]
                              refine wpAnyH_take (i := 4) (v := ?_) rfl (by kernel_rfl) (by kernel_rfl) (by kernel_rfl) (fun _ _ _ h => h) (Or.inl ⟨by rfl, ?_⟩) hHeld ?_
                              rotate_left
                              · intro wq hSw
                                have q0 := stp_cell (i := 3) hSw rfl
                                go_simp
                                all_goals with_reducible rfl
                              try simp only [Act.put, List.getElem_toArray, List.getElem_cons_succ, List.getElem_cons_zero, List.setIfInBounds_toArray, List.set_cons_zero, List.set_cons_succ]
                              refine wpAnyH_take (i := 7) (v := ?_) rfl (by kernel_rfl) (by kernel_rfl) (by kernel_rfl) (fun _ _ _ h => h) (Or.inl ⟨by rfl, ?_⟩) hHeld ?_
                              rotate_left
                              · intro wq hSw
                                go_simp
                                all_goals with_reducible rfl
                              try simp only [Act.put, List.getElem_toArray, List.getElem_cons_succ, List.getElem_cons_zero, List.setIfInBounds_toArray, List.set_cons_zero, List.set_cons_succ]
                              refine wpAnyH_take (i := 8) (v := ?_) rfl (by kernel_rfl) (by kernel_rfl) (by kernel_rfl) (fun _ _ _ h => h) (Or.inl ⟨by rfl, ?_⟩) hHeld ?_
                              rotate_left
                              · intro wq hSw
                                have q0 := stp_cell (i := 1) hSw rfl
                                go_simp
                                all_goals with_reducible rfl
                              try simp only [Act.put, List.getElem_toArray, List.getElem_cons_succ, List.getElem_cons_zero, List.setIfInBounds_toArray, List.set_cons_zero, List.set_cons_succ]
                              refine wpAnyH_take (i := 9) (v := ?_) rfl (by kernel_rfl) (by kernel_rfl) (by kernel_rfl) (fun _ _ _ h => h) (Or.inl ⟨by rfl, ?_⟩) hHeld ?_
                              rotate_left
                              · intro wq hSw
                                go_simp
                                all_goals with_reducible rfl
                              try simp only [Act.put, List.getElem_toArray, List.getElem_cons_succ, List.getElem_cons_zero, List.setIfInBounds_toArray, List.set_cons_zero, List.set_cons_succ]
                              refine wpAnyH_take (i := 10) (v := ?_) rfl (by kernel_rfl) (by kernel_rfl) (by kernel_rfl) (fun _ _ _ h => h) (Or.inl ⟨by rfl, ?_⟩) hHeld ?_
                              rotate_left
                              · intro wq hSw
                                go_simp
                                all_goals with_reducible rfl
                              try simp only [Act.put, List.getElem_toArray, List.getElem_cons_succ, List.getElem_cons_zero, List.setIfInBounds_toArray, List.set_cons_zero, List.set_cons_succ]
                              refine wpAnyH_ready (rs := [5]) (by kernel_rfl) (by simp) ?_
                              refine AllReadyH.cons rfl (fun K hK => ?_) AllReadyH.nil
                              go_simp
                              refine (CT.out _ ND.out).mono ?_
                              rintro e w5 ⟨rfl, l5, k5⟩
                              have NZ := Lib.hid (ND.out.line l5 (ND.out.ln.still_of k5 (fun b hb e => (ND.out.ln.xs b hb).2.1 e)))
                              have HV5 := Lib.hid ((k5.block vb (Array.getElem?_eq_some_iff.1 HVD.out).1 HVS.out.2).trans HVD.out)
                              clear l5 k5
                              refine hK.out _ _ HV5.out (fun hHeld => ?_)
                              clear hK K
                              try simp only [Act.put, List.getElem_toArray, List.getElem_cons_succ, List.getElem_cons_zero, List.setIfInBounds_toArray, List.set_cons_zero, List.set_cons_succ]
                              refine wpAnyH_take (i := 6) (v := ?_) rfl (by kernel_rfl) (by kernel_rfl) (by kernel_rfl) (fun _ _ _ h => h) (Or.inl ⟨by rfl, ?_⟩) hHeld ?_
                              rotate_left
                              · intro wq hSw
                                go_simp
                                all_goals with_reducible rfl
                              try simp only [Act.put, List.getElem_toArray, List.getElem_cons_succ, List.getElem_cons_zero, List.setIfInBounds_toArray, List.set_cons_zero, List.set_cons_succ]
                              refine wpAnyH_take (i := 11) (v := ?_) rfl (by kernel_rfl) (by kernel_rfl) (by kernel_rfl) (fun _ _ _ h => h) (Or.inl ⟨by rfl, ?_⟩) hHeld ?_
                              rotate_left
                              · intro wq hSw
                                go_simp
                                all_goals with_reducible rfl
                              try simp only [Act.put, List.getElem_toArray, List.getElem_cons_succ, List.getElem_cons_zero, List.setIfInBounds_toArray, List.set_cons_zero, List.set_cons_succ]
                              refine wpAnyH_done (by kernel_rfl) ?_ _
                              refine NoPanic.normal ?_
                              clear hHeld
                              clear CT ND HVD HV5 v0 v1 v2 v3
                              obtain ⟨uk, huk⟩ : ∃ v, U P2 = v := ⟨_, rfl⟩
                              have j1 : decide ((uk : Int) < (S2 : Int)) = false := decide_eq_false (by have := IZ.out.s1; omega)
                              have j2 : decide (uk < S2) = false := decide_eq_false (by have := IZ.out.s1; omega)
                              have q7 := NZ.out.lookU (a := P2) (by have := NZ.out.ln.two.rcv.hp; omega)
                              rw [huk] at q7
                              clear huk
                              go_wp2_with fail
                              refine (rseen NZ.out.ln.two.rcv).mono ?_
                              rintro e w ⟨rfl, rfl⟩
                              go_wp2_with fail
                              refine (rlife NZ.out.ln.two.rcv).mono ?_
                              rintro e w ⟨rfl, rfl⟩
                              have HMI := HM3
                              go_wp2_with fail
                              go_round
                              case rel => exact ⟨i + 1, m3, c3, s, r, L0, L1, sp, sg, su, P2, G2, S2, A3, (ws.eraseIdx k), G, U, by omega, by omega, by have := HMI.out; omega, by have := HL0.out; omega, by have := HL1X.out; omega, rfl, rfl, rfl, rfl, by go_num, NZ.out.more (Nat.le_succ _), IZ.out⟩
                              case measure => simp [intOf]; omega
                          · have x4 : decide ((rp : Int) ≤ (lf : Int)) = false := decide_eq_false (by omega)
                            have x5 : decide (rp ≤ lf) = false := decide_eq_false hle
                            have hE : sawE rp lf nm = 22 := E22.out hle
                            have CT := Lib.hid (fun w' (h : Nev W w' s r lv b1 b2 i L0 L1 sp sg su rp rg rs A3 m3 c3 (ws.eraseIdx k) G U) => line_saw h.ln lf nm hE hP hG hS rfl rfl)
                            clear hP hG hS hE hle
                            as_aux_lemma =>
                              go_wp2_with fail
                              refine (rlife L3.out.ln.two.rcv).mono ?_
                              rintro e w ⟨rfl, hv⟩
                              obtain rfl : w3 = w := hv.symm
                              go_upto_region 55 with fail
                              have ND := Lib.hid (L3.out.later (Keep.refl w3).drew)
                              have HVD := Lib.hid (((Keep.refl w3).drew.block vb (Array.getElem?_eq_some_iff.1 HV3.out).1).trans HV3.out)
                              refine wp_region_noPanic ?_
                              refine wp_region_held_drew (S := fun wz => wz.heap[vb]? = some (.cells #[.bool false, .int .u64 (lf : Int), .int .u64 (ds : Int), .int .u64 (nm : Int)] 65 (0, 0))) (by kernel_rfl) (by exact HVD.out) (fun hHeld => ?_)
                              refine wpAnyH_take (i := 0) (v := ?_) rfl (by kernel_rfl) (by kernel_rfl) (by kernel_rfl) (fun _ _ _ h => h) (Or.inl ⟨by rfl, ?_⟩) hHeld ?_
                              rotate_left
                              · intro wq hSw
                                go_simp
                                all_goals with_reducible rfl
                              try simp only [Act.put, List.getElem_toArray, List.getElem_cons_succ, List.getElem_cons_zero, List.setIfInBounds_toArray, List.set_cons_zero, List.set_cons_succ]
                              refine wpAnyH_take (i := 1) (v := ?_) rfl (by kernel_rfl) (by kernel_rfl) (by kernel_rfl) (fun _ _ _ h => h) (Or.inl ⟨by rfl, ?_⟩) hHeld ?_
                              rotate_left
                              · intro wq hSw
                                go_simp
                                all_goals with_reducible rfl
                              try simp only [Act.put, List.getElem_toArray, List.getElem_cons_succ, List.getElem_cons_zero, List.setIfInBounds_toArray, List.set_cons_zero, List.set_cons_succ]
                              refine wpAnyH_take (i := 2) (v := ?_) rfl (by kernel_rfl) (by kernel_rfl) (by kernel_rfl) (fun _ _ _ h => h) (Or.inl ⟨by rfl, ?_⟩) hHeld ?_
                              rotate_left
                              · intro wq hSw
                                have q0 := stp_cell (i := 1) hSw rfl
                                go_simp
                                all_goals with_reducible rfl
                              try simp only [Act.put, List.getElem_toArray, List.getElem_cons_succ, List.getElem_cons_zero, List.setIfInBounds_toArray, List.set_cons_zero, List.set_cons_succ]
                              refine wpAnyH_take (i := 3) (v := ?_) rfl (by kernel_rfl) (by kernel_rfl) (by kernel_rfl) (fun _ _ _ h => h) (Or.inl ⟨by rfl, ?_⟩) hHeld ?_
                              rotate_left
                              · intro wq hSw
                                go_simp
                                all_goals with_reducible rfl
                              try simp only [Act.put, List.getElem_toArray, List.getElem_cons_succ, List.getElem_cons_zero, List.setIfInBounds_toArray, List.set_cons_zero, List.set_cons_succ]
                              refine wpAnyH_take (i := 4) (v := ?_) rfl (by kernel_rfl) (by kernel_rfl) (by kernel_rfl) (fun _ _ _ h => h) (Or.inl ⟨by rfl, ?_⟩) hHeld ?_
                              rotate_left
                              · intro wq hSw
                                have q0 := stp_cell (i := 3) hSw rfl
                                go_simp
                                all_goals with_reducible rfl
                              try simp only [Act.put, List.getElem_toArray, List.getElem_cons_succ, List.getElem_cons_zero, List.setIfInBounds_toArray, List.set_cons_zero, List.set_cons_succ]
                              refine wpAnyH_take (i := 7) (v := ?_) rfl (by kernel_rfl) (by kernel_rfl) (by kernel_rfl) (fun _ _ _ h => h) (Or.inl ⟨by rfl, ?_⟩) hHeld ?_
                              rotate_left
                              · intro wq hSw
                                go_simp
                                all_goals with_reducible rfl
                              try simp only [Act.put, List.getElem_toArray, List.getElem_cons_succ, List.getElem_cons_zero, List.setIfInBounds_toArray, List.set_cons_zero, List.set_cons_succ]
                              refine wpAnyH_take (i := 8) (v := ?_) rfl (by kernel_rfl) (by kernel_rfl) (by kernel_rfl) (fun _ _ _ h => h) (Or.inl ⟨by rfl, ?_⟩) hHeld ?_
                              rotate_left
                              · intro wq hSw
                                have q0 := stp_cell (i := 1) hSw rfl
                                go_simp
                                all_goals with_reducible rfl
                              try simp only [Act.put, List.getElem_toArray, List.getElem_cons_succ, List.getElem_cons_zero, List.setIfInBounds_toArray, List.set_cons_zero, List.set_cons_succ]
                              refine wpAnyH_take (i := 9) (v := ?_) rfl (by kernel_rfl) (by kernel_rfl) (by kernel_rfl) (fun _ _ _ h => h) (Or.inl ⟨by rfl, ?_⟩) hHeld ?_
                              rotate_left
                              · intro wq hSw
                                go_simp
                                all_goals with_reducible rfl
                              try simp only [Act.put, List.getElem_toArray, List.getElem_cons_succ, List.getElem_cons_zero, List.setIfInBounds_toArray, List.set_cons_zero, List.set_cons_succ]
                              refine wpAnyH_take (i := 10) (v := ?_) rfl (by kernel_rfl) (by kernel_rfl) (by kernel_rfl) (fun _ _ _ h => h) (Or.inl ⟨by rfl, ?_⟩) hHeld ?_
                              rotate_left
                              · intro wq hSw
                                go_simp
                                all_goals with_reducible rfl
                              try simp only [Act.put, List.getElem_toArray, List.getElem_cons_succ, List.getElem_cons_zero, List.setIfInBounds_toArray, List.set_cons_zero, List.set_cons_succ]
                              refine wpAnyH_ready (rs := [5]) (by kernel_rfl) (by simp) ?_
                              refine AllReadyH.cons rfl (fun K hK => ?_) AllReadyH.nil
                              go_simp
                              refine (CT.out _ ND.out).mono ?_
                              rintro e w5 ⟨rfl, l5, k5⟩
                              have NZ := Lib.hid (ND.out.line l5 (ND.out.ln.still_of k5 (fun b hb e => (ND.out.ln.xs b hb).2.1 e)))
                              have HV5 := Lib.hid ((k5.block vb (Array.getElem?_eq_some_iff.1 HVD.out).1 HVS.out.2).trans HVD.out)
                              clear l5 k5
                              refine hK.out _ _ HV5.out (fun hHeld => ?_)
                              clear hK K
                              try simp only [Act.put, List.getElem_toArray, List.getElem_cons_succ, List.getElem_cons_zero, List.setIfInBounds_toArray, List.set_cons_zero, List.set_cons_succ]
                              refine wpAnyH_take (i := 6) (v := ?_) rfl (by kernel_rfl) (by kernel_rfl) (by kernel_rfl) (fun _ _ _ h => h) (Or.inl ⟨by rfl, ?_⟩) hHeld ?_
                              rotate_left
                              · intro wq hSw
                                go_simp
                                all_goals with_reducible rfl
                              try simp only [Act.put, List.getElem_toArray, List.getElem_cons_succ, List.getElem_cons_zero, List.setIfInBounds_toArray, List.set_cons_zero, List.set_cons_succ]
                              refine wpAnyH_take (i := 11) (v := ?_) rfl (by kernel_rfl) (by kernel_rfl) (by kernel_rfl) (fun _ _ _ h => h) (Or.inl ⟨by rfl, ?_⟩) hHeld ?_
                              rotate_left
                              · intro wq hSw
                                go_simp
                                all_goals with_reducible rfl
                              try simp only [Act.put, List.getElem_toArray, List.getElem_cons_succ, List.getElem_cons_zero, List.setIfInBounds_toArray, List.set_cons_zero, List.set_cons_succ]
                              refine wpAnyH_done (by kernel_rfl) ?_ _
                              refine NoPanic.normal ?_
                              clear hHeld
                              clear CT ND HVD HV5 v0 v1 v2 v3
                              obtain ⟨uk, huk⟩ : ∃ v, U P2 = v := ⟨_, rfl⟩
                              have j1 : decide ((uk : Int) < (S2 : Int)) = false := decide_eq_false (by have := IZ.out.s1; omega)
                              have j2 : decide (uk < S2) = false := decide_eq_false (by have := IZ.out.s1; omega)
                              have q7 := NZ.out.lookU (a := P2) (by have := NZ.out.ln.two.rcv.hp; omega)
                              rw [huk] at q7
                              clear huk
                              go_wp2_with fail
                              refine (rseen NZ.out.ln.two.rcv).mono ?_
                              rintro e w ⟨rfl, rfl⟩
                              go_wp2_with fail
                              refine (rlife NZ.out.ln.two.rcv).mono ?_
                              rintro e w ⟨rfl, rfl⟩
                              have HMI := HM3
                              go_wp2_with fail
                              go_round
                              case rel => exact ⟨i + 1, m3, c3, s, r, L0, L1, sp, sg, su, P2, G2, S2, A3, (ws.eraseIdx k), G, U, by omega, by omega, by have := HMI.out; omega, by have := HL0.out; omega, by have := HL1X.out; omega, rfl, rfl, rfl, rfl, by go_num, NZ.out.more (Nat.le_succ _), IZ.out⟩
                              case measure => simp [intOf]; omega
                  | false =>
                    by_cases x8 : what = 8
                    · have y8 : (what == 8) = true := beq_iff_eq.2 x8
                      have z8 : decide (what = 8) = true := decide_eq_true x8
                      clear x8
                      as_aux_lemma =>
                        obtain ⟨L2, hL2⟩ : ∃ v, L0 + 1 = v := ⟨_, rfl⟩
                        have hL2b : L2 ≤ 1000 := by have := HL0.out; omega
                        have IZ := Lib.hid (hL2 ▸ HW.out.sender (by omega))
                        have q0 := HL1.out.c0
                        have q1 := HL1.out.fz 0
                        have q2 : IntKind.u64.wrap ((L0 : Int) + 1) = (L2 : Int) := by rw [IntWalk.u64_in _ (by omega)]; omega
                        have q3 : (w1.setCell ⟨lv, 0, none⟩ (.int .u64 (L2 : Int))).cell? ⟨lv, 0, none⟩ = some (.int .u64 (L2 : Int)) := stp_cell (row_set (i := 0) HL1.out.lives (.int .u64 (L2 : Int))) rfl
                        obtain ⟨w2, hw2⟩ : ∃ v, w1.setCell ⟨lv, 0, none⟩ (.int .u64 (L2 : Int)) = v := ⟨_, rfl⟩
                        rw [hw2] at q3
                        have HW2 := Lib.hid hw2
                        have hok : okL L2 = true := okL_of (by omega) (by omega)
                        have HOK := Lib.hid hok
                        have HL2 := Lib.hid hL2
                        clear hL2b hok
                        clear hL2
                        go_wp2_with fail
                        refine (snew_in L2 HOK.out _).mono ?_
                        rintro e w3 ⟨rfl, h3, k3⟩
                        have NZ := Lib.hid (HL1.out.set0 (v := L2) (HW2.out.symm ▸ k3) rfl (HW2.out.symm ▸ h3))
                        obtain ⟨s2, hs2⟩ : ∃ v, w2.heap.size = v := ⟨_, rfl⟩
                        rw [HW2.out, hs2] at NZ
                        simp only [hs2]
                        clear h3 k3 HL1 HOB q0 q1 q2 q3 HW2 hs2 hw2
                        go_wp2_with fail
                        go_round
                        case rel => exact ⟨i + 1, m, c, s2, r, L2, L1, 0, 0, 0, rp, rg, rs, A, ws, G, U, by omega, by omega, by have := HMI.out; omega, by have := HL0.out; have := HL2.out; omega, by have := HL1X.out; omega, rfl, rfl, rfl, rfl, by go_num, NZ.out.more (Nat.le_succ _), IZ.out⟩
                        case measure => simp [intOf]; omega
                    · have y8 : (what == 8) = false := beq_eq_false_iff_ne.2 x8
                      have z8 : decide (what = 8) = false := decide_eq_false x8
                      clear x8
                      as_aux_lemma =>
                        obtain ⟨L2, hL2⟩ : ∃ v, L1 + 1 = v := ⟨_, rfl⟩
                        have hL2b : L2 ≤ 1000 := by have := HL1X.out; omega
                        have IZ := Lib.hid (hL2 ▸ HW.out.receiver (by omega))
                        have q0 := HL1.out.c1
                        have q1 := HL1.out.fz 1
                        have q2 : IntKind.u64.wrap ((L1 : Int) + 1) = (L2 : Int) := by rw [IntWalk.u64_in _ (by omega)]; omega
                        obtain ⟨w2, hw2⟩ : ∃ v, w1.setCell ⟨lv, 1, none⟩ (.int .u64 (L2 : Int)) = v := ⟨_, rfl⟩
                        have HW2 := Lib.hid hw2
                        have HL2 := Lib.hid hL2
                        clear hL2b
                        clear hL2
                        go_wp2_with fail
                        refine (rnew_in 8 (by decide) (by decide) _).mono ?_
                        rintro e w3 ⟨rfl, h3, k3⟩
                        have NZ := Lib.hid (HL1.out.set1 (v := L2) (HW2.out.symm ▸ k3) rfl (HW2.out.symm ▸ h3))
                        obtain ⟨r2, hr2⟩ : ∃ v, w2.heap.size = v := ⟨_, rfl⟩
                        rw [HW2.out, hr2] at NZ
                        simp only [hr2]
                        clear h3 k3 HL1 HOB q0 q1 q2 HW2 hr2 hw2
                        go_wp2_with fail
                        go_round
                        case rel => exact ⟨i + 1, m, c, s, r2, L0, L2, sp, sg, su, 0, 0, 0, A, ws, G, U, by omega, by omega, by have := HMI.out; omega, by have := HL0.out; omega, by have := HL1X.out; have := HL2.out; omega, rfl, rfl, rfl, rfl, by go_num, NZ.out.more (Nat.le_succ _), IZ.out⟩
                        case measure => simp [intOf]; omega
      · obtain rfl : i = 100 := by omega
        go_wp2_with fail
        refine (cwakes _).mono ?_
        rintro e v8 ⟨rfl, k8⟩
        have K8 := Lib.hid (HL.out.ln.two.kp.trans k8)
        clear k8
        go_wp2_with fail
        go_ret
        exact ⟨rfl, K8.out⟩
    · have g1 : decide ((i : Int) < (n : Int)) = false := decide_eq_false (by omega)
      go_wp2_with fail
      refine (cwakes _).mono ?_
      rintro e v8 ⟨rfl, k8⟩
      have K8 := Lib.hid (HL.out.ln.two.kp.trans k8)
      clear k8
      go_wp2_with fail
      go_ret
      exact ⟨rfl, K8.out⟩
end Go.Proofs.Ytgogafhpchfinaa
