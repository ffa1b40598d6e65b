/- SourcePlays: rows of calls. -/
import Derived.Test.YtcafofffgmaepaaSp2
import Derived.Deep.DeepCutAuto
import Derived.Deep.CutBlock
namespace Go.Proofs.Ytcafofffgmaepaa
open Go.RowKit
set_option linter.unusedVariables false
set_option linter.unusedSimpArgs false
set_option maxRecDepth 100000 in
theorem load_bool {wq : World} {ev : Operand → Value} {x : Operand} {b i : Nat} {v : Value} {o : Oper} (ho : o.op = .load 4 x) (hx : ev x = .pointer (some ⟨b, i, none⟩)) (q0 : wq.cell? ⟨b, i, none⟩ = some v) : Sem.run Try.prog (execOp ev o) wq = .ok (.value v) wq := by
  unfold execOp
  rw [ho]
  go_simp
set_option maxRecDepth 100000 in
theorem load_bytes {wq : World} {ev : Operand → Value} {x : Operand} {b i : Nat} {v : Value} {o : Oper} (ho : o.op = .load 22 x) (hx : ev x = .pointer (some ⟨b, i, none⟩)) (q0 : wq.cell? ⟨b, i, none⟩ = some v) : Sem.run Try.prog (execOp ev o) wq = .ok (.value v) wq := by
  unfold execOp
  rw [ho]
  go_simp
set_option maxRecDepth 100000 in
theorem load_ints {wq : World} {ev : Operand → Value} {x : Operand} {b i : Nat} {v : Value} {o : Oper} (ho : o.op = .load 23 x) (hx : ev x = .pointer (some ⟨b, i, none⟩)) (q0 : wq.cell? ⟨b, i, none⟩ = some v) : Sem.run Try.prog (execOp ev o) wq = .ok (.value v) wq := by
  unfold execOp
  rw [ho]
  go_simp
theorem TurnAt.keepT {w w' : World} {base n : Nat} {A : Option Addr} (h : TurnAt w base A n) (k : Keep w w') : TurnAt w' base A n := by
  rcases h with h | ⟨gr, b, S, c, P, ys, h1, h2, h3, h4, h5, h6, h7, h8, h9⟩
  · exact Or.inl h
  · exact Or.inr ⟨gr, b, S, c, P, ys, h1, h2, Nat.lt_of_lt_of_le h3 k.size, h4, h5, h6, h7, fun j hj => k.cell (p := ⟨gr, j, none⟩) h3 |>.trans (h8 j hj), h9.keep k⟩
set_option maxRecDepth 100000 in
set_option maxHeartbeats 16000000 in
theorem splays_any (g0 s0 : Int) (n1 c1 n2 c2 n c : Nat) (A1 A2 A : Option Addr) (xs : List Nat) (l : List Int) (cl rs : Bool) (acts : List CallV) (W : World) (b1 : Bytes W W.heap.size A1 n1 xs) (l1 : n1 ≤ 140737488351232) (q1 : n1 ≤ c1)
    (b2 : IntsAt W W.heap.size A2 n2 l) (hz : ∀ z ∈ l, -9223372036854775808 ≤ z ∧ z ≤ 9223372036854775807) (l2 : n2 ≤ 140737488351232) (q2 : n2 ≤ c2) (ha : CallsAt W W.heap.size A n acts) (l3 : n ≤ 140737488351232) :
    Calls Try.prog 3 #[.agg #[.int .i64 g0, .int .i64 s0, .slice A1 n1 c1, .slice A2 n2 c2, .bool cl, .bool rs], .slice A n c] W fun e w' => e = .returned (.bool true) ∧ Keep W w' := by
  obtain ⟨k1, hk1⟩ : ∃ k, min n1 500 = k := ⟨_, rfl⟩
  obtain ⟨k2, hk2⟩ : ∃ k, min n2 20 = k := ⟨_, rfl⟩
  have hmin1 := run_least n1 500 k1 500 rfl hk1
  have hmin2 := run_least n2 20 k2 20 rfl hk2
  have hhead1 := head_bytes k1 n1 c1 A1 (by omega)
  have hhead2 := head_ints k2 n2 c2 A2 (by omega)
  have hk1b : k1 ≤ 500 := by omega
  have hk2b : k2 ≤ 20 := by omega
  have hk1c : k1 ≤ c1 := by omega
  obtain ⟨g, hg⟩ : ∃ g, sizeV 255 g0 = g := ⟨_, rfl⟩
  obtain ⟨s, hs⟩ : ∃ s, sizeV 65535 s0 = s := ⟨_, rfl⟩
  have HS0 : ∀ w, Calls Try.prog 8 #[.int .i64 g0, .int .i64 s0] w fun e w' => e = .returned (.tuple #[.int .i64 g, .int .i64 s]) ∧ w = w' := fun w => by rw [← hg, ← hs]; exact sizes_any g0 s0 w
  have HSZ := Lib.hid HS0
  clear HS0
  obtain ⟨xa, hxa⟩ : ∃ xa, xs.take k1 = xa := ⟨_, rfl⟩
  obtain ⟨la, hla⟩ : ∃ la, l.take k2 = la := ⟨_, rfl⟩
  have hB1 := b1.cut (m := k1) (by omega)
  have hB2 := b2.head (k := k2) (by omega)
  rw [hxa] at hB1
  rw [hla] at hB2
  have HT := Lib.hid (restore_told g s k1 k2 c1 c2 A1 A2 xa la cl W (by omega) (by omega) hB1 hk1c hB2 (fun z h => hz z (List.mem_of_mem_take (hla ▸ h))))
  have HXL : Hid (xa.length ≤ 500) := by show _ ≤ _; rw [hB1.length]; exact hk1b
  have HLL : Hid (la.length ≤ 20) := by show _ ≤ _; rw [hB2.1]; exact hk2b
  have HA := Lib.hid ha
  obtain ⟨gX, hgX⟩ : ∃ gX, W.heap.size = gX := ⟨_, rfl⟩
  obtain ⟨w0, hw0, z0, q0, hb0⟩ := one_block W #[.int .i64 g0, .int .i64 s0, .slice A1 n1 c1, .slice A2 n2 c2, .bool cl, .bool rs] 27
  have K0 := Lib.hid q0
  have HB0 := Lib.hid hb0
  clear b1 b2 hz ha hB1 hB2 hg hs hk1 hk2 hxa hla z0 q0 hb0 hk1c
  go_enter Try.func3, Try.ntmps3
  go_wp2_with fail
  refine (sawake_any _).mono ?_
  rintro e w1 ⟨rfl, k01⟩
  have K1 : Hid (Keep W w1) := K0.out.trans k01
  have hb1 := block_keep HB0.out k01
  clear hw0 k01
  rw [hgX] at hb1
  have x0 : w1.cell? ⟨gX, 0, none⟩ = some (.int .i64 g0) := cell_of_row _ _ _ _ _ _ hb1
  have x1 : w1.cell? ⟨gX, 1, none⟩ = some (.int .i64 s0) := cell_of_row _ _ _ _ _ _ hb1
  have x2 : w1.cell? ⟨gX, 2, none⟩ = some (.slice A1 n1 c1) := cell_of_row _ _ _ _ _ _ hb1
  have x3 : w1.cell? ⟨gX, 3, none⟩ = some (.slice A2 n2 c2) := cell_of_row _ _ _ _ _ _ hb1
  have HB1 := Lib.hid hb1
  have HGX := Lib.hid hgX
  clear hb1 HB0 K0 hgX
  go_wp2_with fail
  refine (HSZ.out _).mono ?_
  rintro e w2 ⟨rfl, rfl⟩
  go_wp2_with fail
  go_quiet (fail)
  go_wp2_with fail
  have K2 := Lib.hid (K1.out.trans ((Keep.refl w1).drewN nq))
  have HB2 := Lib.hid (block_keep HB1.out ((Keep.refl w1).drewN nq))
  clear x0 x1 x2 x3 hmin1 hmin2 hhead1 hhead2 K1 HB1
  generalize w1.drewN nq = w2 at *
  refine (new_told g s _).mono ?_
  rintro e w3 ⟨v3, e3, rfl, k3, h3⟩
  have K3 := Lib.hid k3
  have HB3 := Lib.hid (block_keep HB2.out k3)
  have H3 := Lib.hid h3
  clear h3 k3
  go_wp2_with fail
  refine (rnew_told g s _).mono ?_
  rintro e w4 ⟨v4, e4, rfl, k4, h4⟩
  have K4 := Lib.hid k4
  have hb4 := block_keep HB3.out k4
  have H4 := Lib.hid h4
  clear h4 k4
  have y4 : w4.cell? ⟨gX, 4, none⟩ = some (.bool cl) := cell_of_row _ _ _ _ _ _ hb4
  have y5 : w4.cell? ⟨gX, 5, none⟩ = some (.bool rs) := cell_of_row _ _ _ _ _ _ hb4
  have HB4 := Lib.hid hb4
  clear hb4 HB3
  go_upto_if 71 with fail
  go_cut [9, 10, 11, 12] (fun v9 v10 v11 v12 wx => (v9 = .pointer none ∧ v10 = .int .i64 1 ∧ v11 = .pointer none ∧ v12 = .int .i64 1 ∧ Keep W wx) ∨ ∃ (b d G S P : Nat) (F E : Nat → Prop) (ys cs : List Nat) (cl : Bool), v9 = .pointer (some ⟨b, 0, none⟩) ∧ v10 = .int .i64 0 ∧ v11 = .pointer (some ⟨d, 0, none⟩) ∧ v12 = .int .i64 0 ∧ BothS W wx F E b d G S P ys cs cl ∧ ys.length ≤ 500 ∧ cs.length ≤ 20)
  case first => as_aux_lemma =>
    have K14 : Hid (Keep W w4) := (K2.out.trans K3.out).trans K4.out
    cases rs with
    | false =>
      go_wp2_with fail
      go_meet
      case rel =>
        rcases H3.out with ⟨m3, rfl, rfl⟩ | ⟨m3, h3⟩
        · rcases H4.out with ⟨m4, rfl, rfl⟩ | ⟨m4, h4⟩
          · exact Or.inl ⟨rfl, rfl, rfl, rfl, K14.out⟩
          · exact absurd m4 m3
        · rcases H4.out with ⟨m4, rfl, rfl⟩ | ⟨m4, h4⟩
          · exact absurd m3 m4
          · obtain ⟨G, S, P, eg, es, hz⟩ := m3.size
            obtain ⟨b, F, rfl, rfl, hq, hF⟩ := h3 G S P eg es hz
            obtain ⟨d, E, rfl, rfl, hr, hE⟩ := h4 G S P eg es hz
            have e0 := gens_start hz
            refine Or.inr ⟨b, d, G, S, P, F, E, [], [], false, rfl, rfl, rfl, rfl, BothS.begin_ ?_ K2.out ?_ hF K3.out hr hE K4.out, by simp, by simp⟩
            · rw [e0]; exact GoodS.start hz
            · rw [e0]; exact hq
    | true =>
      rcases HT.out with ⟨t1, t2⟩ | ⟨G, S, P, cs, rfl, rfl, hz, hG, hl, hcl, t1, t2⟩
      · have T1 := Lib.hid t1
        have T2 := Lib.hid t2
        clear t1 t2
        go_wp2_with fail
        refine (T1.out _ K14.out).mono ?_
        rintro e w5 ⟨rfl, k5⟩
        have K5 : Hid (Keep W w5) := K14.out.trans k5
        have y4 : w5.cell? ⟨gX, 4, none⟩ = some (.bool cl) := cell_of_row _ _ _ _ _ _ (block_keep HB4.out k5)
        clear k5
        go_wp2_with fail
        refine (T2.out _ K5.out).mono ?_
        rintro e w6 ⟨rfl, k6⟩
        have K6 : Hid (Keep W w6) := K5.out.trans k6
        clear k6
        go_wp2_with fail
        go_meet
        case rel => exact Or.inl ⟨rfl, rfl, rfl, rfl, K6.out⟩
      · have T1 := Lib.hid t1
        have T2 := Lib.hid t2
        have HG := Lib.hid hG
        have HL := Lib.hid hl
        clear t1 t2 hG hl hz hcl
        go_wp2_with fail
        refine (T1.out _ K14.out).mono ?_
        rintro e w5 ⟨b, F, rfl, hq, hF, k5⟩
        have K5 := Lib.hid k5
        have HQ := Lib.hid (And.intro hq hF)
        have y4 : w5.cell? ⟨gX, 4, none⟩ = some (.bool cl) := cell_of_row _ _ _ _ _ _ (block_keep HB4.out k5)
        clear k5 hq hF
        go_wp2_with fail
        refine (T2.out _ (K14.out.trans K5.out)).mono ?_
        rintro e w6 ⟨d, E, rfl, hr, hE, k6⟩
        have K6 := Lib.hid k6
        have HR := Lib.hid (And.intro hr hE)
        clear k6 hr hE
        go_wp2_with fail
        go_meet
        case rel => exact Or.inr ⟨b, d, G, S, P, F, E, xa, cs, cl, rfl, rfl, rfl, rfl, BothS.begin_ HG.out K14.out HQ.out.1 HQ.out.2 K5.out HR.out.1 HR.out.2 K6.out, HXL.out, by have := HLL.out; rw [HL.out, List.length_map] at this; exact this⟩
  case rest =>
    clear y4 y5 H3 H4 HB4 HB2 K3 K4 HT HSZ HXL HLL
    rcases hcut with ⟨rfl, rfl, rfl, rfl, kc⟩ | ⟨b, d, G, S, P, F, E, ys, cs, cl, rfl, rfl, rfl, rfl, hb, hy, hc⟩
    · have KC := Lib.hid kc
      clear kc
      go_wp2_with fail
      go_ret
      exact ⟨rfl, KC.out⟩
    have HB := Lib.hid hb
    have HYC := Lib.hid (And.intro hy hc)
    clear hb hy hc
    go_wp2_with fail
    go_loopw [106] (fun i wr => ∃ (j : Nat) (F E : Nat → Prop) (ys cs : List Nat) (cl : Bool), j ≤ n ∧ j ≤ 40 ∧ i = .int .i64 j ∧ BothS W wr F E b d G S P ys cs cl ∧ ys.length ≤ 500 + 200 * j ∧ cs.length ≤ 20 + j) (fun i _ => n - (intOf i).toNat)
    case atStart => exact ⟨0, F, E, ys, cs, cl, by omega, by omega, rfl, HB.out, by have := HYC.out.1; omega, by have := HYC.out.2; omega⟩
    case round =>
      clear HB HYC
      obtain ⟨j, F, E, ys, cs, cl, hj, hj40, rfl, hb, hy, hc⟩ := hrel
      have e1 : (0 : Int) ≤ (j : Int) := Int.natCast_nonneg _
      by_cases hlt : j < n
      · obtain ⟨q0, off, x, v, p, r, rfl, hq0, hc0, hc1, hc2, hc3, hv, hvn, hvc, hp, hr⟩ := HA.out.at_ hb.keep hlt
        have e2 : (j : Int) < (n : Int) := by omega
        by_cases h40 : j = 40
        · have b0 : ((j : Int) == 40) = true := beq_iff_eq.2 (by omega)
          have HK := Lib.hid hb.keep
          clear hb h40 hv
          go_wp2_with fail
          go_ret
          exact ⟨rfl, HK.out.ob _⟩
        · have b0 : ((j : Int) == 40) = false := beq_eq_false_iff_ne.2 (by omega)
          obtain ⟨k, hk⟩ : ∃ k, min v.n 200 = k := ⟨_, rfl⟩
          have hmin := run_least v.n 200 k 200 rfl hk
          have hhead := head_bytes k v.n v.c v.A (by omega)
          have hkb : k ≤ 200 := by omega
          obtain ⟨ya, hya⟩ : ∃ ya, v.xs.take k = ya := ⟨_, rfl⟩
          have hv2 := hv.cut (m := k) (by omega)
          rw [hya] at hv2
          have HB := Lib.hid hb
          have HV := Lib.hid hv2
          have hj' : j < 40 := by omega
          have HYL : Hid (ya.length ≤ 200) := by show _ ≤ _; rw [hv2.length]; exact hkb
          clear hb hv hv2 hk hya h40 hj40
          go_wp2_with fail
          obtain ⟨w4, hw4, z4, k4, hb4⟩ := one_block wr #[.int .i64 x, .slice v.A k v.c, .int .u64 (p : Int), .int .u64 (r : Int)] 43
          try rw [hw4]
          have HB4 := Lib.hid (HB.out.later k4)
          have hsz : W.heap.size ≤ w4.heap.size := HB4.out.keep.size
          have HV4 := Lib.hid (HV.out.keep HB.out.keep.size k4)
          have HX4 := Lib.hid hb4
          have hgl : wr.heap.size < w4.heap.size := by omega
          have HFE : Hid (∀ i, F i ∨ E i → i < wr.heap.size) := fun i e => by
            rcases e with e | e
            · exact HB.out.q.lt i e
            · exact HB.out.r.lt i e
          obtain ⟨gA, hgA⟩ : ∃ gA, wr.heap.size = gA := ⟨_, rfl⟩
          rw [hgA] at HX4 hgl HFE ⊢
          clear hw4 z4 k4 hb4 hmin hhead hc0 hc1 hc2 hc3 b0 HB HV hgA
          refine (bclone_any _ k v.c v.A ya w4 HV4.out hsz (by omega)).mono ?_
          rintro e w5 ⟨A5, n5, c5, rfl, o5, k5⟩
          obtain rfl : k = n5 := HV4.out.length.symm.trans o5.length
          have HB5 := Lib.hid (HB4.out.later k5)
          have hsz5 : W.heap.size ≤ w5.heap.size := HB5.out.keep.size
          have HV5 := Lib.hid (HV4.out.keep hsz k5)
          have hx5 := block_keep HX4.out k5
          have C0 : w5.cell? ⟨gA, 0, none⟩ = some (.int .i64 x) := cell_of_row _ _ _ _ _ _ hx5
          have C1 : w5.cell? ⟨gA, 1, none⟩ = some (.slice v.A k v.c) := cell_of_row _ _ _ _ _ _ hx5
          have C2 : w5.cell? ⟨gA, 2, none⟩ = some (.int .u64 (p : Int)) := cell_of_row _ _ _ _ _ _ hx5
          have C3 : w5.cell? ⟨gA, 3, none⟩ = some (.int .u64 (r : Int)) := cell_of_row _ _ _ _ _ _ hx5
          have HX5 := Lib.hid hx5
          have O5 := Lib.hid o5
          have hg5 : gA < w5.heap.size := by have := k5.size; omega
          have HD5 : Hid (Dup W w5 F E A5 k c5) := ⟨⟨_, o5.lower hsz⟩, fun i hi => by
            have z := o5.1.lt i hi
            exact ⟨fun e => by have := HFE.out i (Or.inl e); omega, fun e => by have := HFE.out i (Or.inr e); omega, z.2⟩⟩
          clear o5 hx5 k5 HB4 HV4 HX4
          go_upto_block 2 with fail
          go_cut [] (fun wx => ∃ (F E : Nat → Prop) (ys cs : List Nat) (cl : Bool), BothS W wx F E b d G S P ys cs cl ∧ Dup W wx F E A5 k c5 ∧ ys.length ≤ 700 + 200 * j ∧ cs.length ≤ 21 + j)
          case first => as_aux_lemma =>
            by_cases x0 : x = 0
            · subst x0
              as_aux_lemma =>
                have HW5 := Lib.hid (HB5.out.later (Keep.drew (Keep.refl w5)))
                have hnF : ¬ (F gA ∨ E gA) := fun e => by have := HFE.out gA e; omega
                have HNF := Lib.hid hnF
                clear hnF
                go_wp2_with fail
                refine wp_region_noPanic ?_
                refine wp_region_held_drew (S := fun wz => wz.cell? ⟨gA, 1, none⟩ = some (.slice v.A k v.c) ∧ wz.cell? ⟨gA, 2, none⟩ = some (.int .u64 (p : Int))) (by kernel_rfl) ⟨C1, C2⟩ (fun hHeld => ?_)
                refine wpAnyH_take (i := 0) (v := ?_) rfl (by kernel_rfl) (by kernel_rfl) (by kernel_rfl) (fun _ _ _ h => h) (Or.inl ⟨by rfl, ?_⟩) hHeld ?_
                rotate_left
                · intro wq hSw
                  go_simp
                  all_goals with_reducible rfl
                try simp only [Act.put, List.getElem_toArray, List.getElem_cons_succ, List.getElem_cons_zero, List.setIfInBounds_toArray, List.set_cons_zero, List.set_cons_succ]
                refine wpAnyH_take (i := 1) (v := ?_) rfl (by kernel_rfl) (by kernel_rfl) (by kernel_rfl) (fun _ _ _ h => h) (Or.inl ⟨by rfl, ?_⟩) hHeld ?_
                rotate_left
                · intro wq hSw
                  go_simp
                  all_goals with_reducible rfl
                try simp only [Act.put, List.getElem_toArray, List.getElem_cons_succ, List.getElem_cons_zero, List.setIfInBounds_toArray, List.set_cons_zero, List.set_cons_succ]
                refine wpAnyH_take (i := 2) (v := ?_) rfl (by kernel_rfl) (by kernel_rfl) (by kernel_rfl) (fun _ _ _ h => h) (Or.inl ⟨by rfl, ?_⟩) hHeld ?_
                rotate_left
                · intro wq hSw
                  go_simp
                  all_goals with_reducible rfl
                try simp only [Act.put, List.getElem_toArray, List.getElem_cons_succ, List.getElem_cons_zero, List.setIfInBounds_toArray, List.set_cons_zero, List.set_cons_succ]
                refine wpAnyH_take (i := 3) (v := ?_) rfl (by kernel_rfl) (by kernel_rfl) (by kernel_rfl) (fun _ _ _ h => h) (Or.inl ⟨by rfl, ?_⟩) hHeld ?_
                rotate_left
                · intro wq hSw
                  have q0 := hSw.2
                  go_simp
                  all_goals with_reducible rfl
                try simp only [Act.put, List.getElem_toArray, List.getElem_cons_succ, List.getElem_cons_zero, List.setIfInBounds_toArray, List.set_cons_zero, List.set_cons_succ]
                refine wpAnyH_take (i := 5) (v := ?_) rfl (by kernel_rfl) (by kernel_rfl) (by kernel_rfl) (fun _ _ _ h => h) (Or.inl ⟨by rfl, ?_⟩) hHeld ?_
                rotate_left
                · intro wq hSw
                  go_simp
                  all_goals with_reducible rfl
                try simp only [Act.put, List.getElem_toArray, List.getElem_cons_succ, List.getElem_cons_zero, List.setIfInBounds_toArray, List.set_cons_zero, List.set_cons_succ]
                refine wpAnyH_take (i := 6) (v := ?_) rfl (by kernel_rfl) (by kernel_rfl) (by kernel_rfl) (fun _ _ _ h => h) (Or.inl ⟨by rfl, ?_⟩) hHeld ?_
                rotate_left
                · intro wq hSw
                  go_simp
                  all_goals with_reducible rfl
                try simp only [Act.put, List.getElem_toArray, List.getElem_cons_succ, List.getElem_cons_zero, List.setIfInBounds_toArray, List.set_cons_zero, List.set_cons_succ]
                refine wpAnyH_take (i := 7) (v := ?_) rfl (by kernel_rfl) (by kernel_rfl) (by kernel_rfl) (fun _ _ _ h => h) (Or.inl ⟨by rfl, ?_⟩) hHeld ?_
                rotate_left
                · intro wq hSw
                  have q0 := hSw.1
                  go_simp
                  all_goals with_reducible rfl
                try simp only [Act.put, List.getElem_toArray, List.getElem_cons_succ, List.getElem_cons_zero, List.setIfInBounds_toArray, List.set_cons_zero, List.set_cons_succ]
                refine wpAnyH_take (i := 8) (v := ?_) rfl (by kernel_rfl) (by kernel_rfl) (by kernel_rfl) (fun _ _ _ h => h) (Or.inl ⟨by rfl, ?_⟩) hHeld ?_
                rotate_left
                · intro wq hSw
                  go_simp
                  all_goals with_reducible rfl
                try simp only [Act.put, List.getElem_toArray, List.getElem_cons_succ, List.getElem_cons_zero, List.setIfInBounds_toArray, List.set_cons_zero, List.set_cons_succ]
                refine wpAnyH_take (i := 9) (v := ?_) rfl (by kernel_rfl) (by kernel_rfl) (by kernel_rfl) (fun _ _ _ h => h) (Or.inl ⟨by rfl, ?_⟩) hHeld ?_
                rotate_left
                · intro wq hSw
                  have q0 := hSw.2
                  go_simp
                  all_goals with_reducible rfl
                try simp only [Act.put, List.getElem_toArray, List.getElem_cons_succ, List.getElem_cons_zero, List.setIfInBounds_toArray, List.set_cons_zero, List.set_cons_succ]
                refine wpAnyH_ready (rs := [4]) (by kernel_rfl) (by simp) ?_
                refine AllReadyH.cons rfl (fun K hK => ?_) AllReadyH.nil
                go_simp
                refine (submit_any HW5.out.q HW5.out.good _ k c5 A5 p (O5.out.bytes.keep (Nat.le_refl _) (Keep.drew (Keep.refl _))) (Nat.le_refl _) (by omega)).mono ?_
                rintro e w6 ⟨rfl, q6⟩
                have Q6 := Lib.hid q6
                obtain ⟨r6, t6⟩ := HW5.out.mid q6
                have hH6 : w6.cell? ⟨gA, 1, none⟩ = some (.slice v.A k v.c) ∧ w6.cell? ⟨gA, 2, none⟩ = some (.int .u64 (p : Int)) := ⟨t6.cell C1 fun e => HNF.out (Or.inl e), t6.cell C2 fun e => HNF.out (Or.inl e)⟩
                have R6 := Lib.hid r6
                have HV6 := Lib.hid ((HV5.out.keep hsz5 (Keep.drew (Keep.refl _))).turned_low t6 fun i hi e => by have := HB5.out.low i (Or.inl e); omega)
                have hsz6 : W.heap.size ≤ w6.heap.size := Nat.le_trans hsz5 t6.size
                clear q6 r6 t6
                refine hK.out _ _ hH6 (fun hHeld => ?_)
                clear hK K
                try simp only [Act.put, List.getElem_toArray, List.getElem_cons_succ, List.getElem_cons_zero, List.setIfInBounds_toArray, List.set_cons_zero, List.set_cons_succ]
                refine wpAnyH_ready (rs := [10]) (by kernel_rfl) (by simp) ?_
                refine AllReadyH.cons rfl (fun K hK => ?_) AllReadyH.nil
                go_simp
                refine (rsubmit_any R6.out HW5.out.good (by omega) _ k v.c v.A p HV6.out hsz6 (by have := HV6.out.length; omega)).mono ?_
                rintro e w7 ⟨rfl, r7⟩
                obtain ⟨F', E', hB7, hfe, t7⟩ := HW5.out.step Q6.out r7 (HW5.out.good.sub cl ya p)
                have hH7 : w7.cell? ⟨gA, 1, none⟩ = some (.slice v.A k v.c) ∧ w7.cell? ⟨gA, 2, none⟩ = some (.int .u64 (p : Int)) := ⟨t7.cell C1 HNF.out, t7.cell C2 HNF.out⟩
                have HB7 := Lib.hid hB7
                have HD7 := Lib.hid ((HD5.out.later (Keep.drew (Keep.refl _))).turned t7 hfe)
                clear r7 hB7 hfe t7
                refine hK.out _ _ hH7 (fun hHeld => ?_)
                clear hK K
                try simp only [Act.put, List.getElem_toArray, List.getElem_cons_succ, List.getElem_cons_zero, List.setIfInBounds_toArray, List.set_cons_zero, List.set_cons_succ]
                refine wpAnyH_take (i := 11) (v := ?_) rfl (by kernel_rfl) (by kernel_rfl) (by kernel_rfl) (fun _ _ _ h => h) (Or.inl ⟨by rfl, ?_⟩) hHeld ?_
                rotate_left
                · intro wq hSw
                  go_simp
                  all_goals with_reducible rfl
                try simp only [Act.put, List.getElem_toArray, List.getElem_cons_succ, List.getElem_cons_zero, List.setIfInBounds_toArray, List.set_cons_zero, List.set_cons_succ]
                refine wpAnyH_done (by kernel_rfl) ?_ _
                refine NoPanic.normal ?_
                clear hHeld hH6 hH7
                go_wp2_with fail
                go_meet
                case rel => exact ⟨F', E', _, cs, cl, HB7.out, HD7.out, by have := subX_len P cl ys cs ya p; have := HYL.out; omega, by omega⟩
            · skip
              by_cases x1 : x = 1
              · subst x1
                as_aux_lemma =>
                  go_wp2_with fail
                  refine (flush_any HB5.out.q HB5.out.good (by omega)).mono ?_
                  rintro e w6 ⟨rfl, q6⟩
                  have Q6 := Lib.hid q6
                  obtain ⟨r6, t6⟩ := HB5.out.mid q6
                  have R6 := Lib.hid r6
                  clear q6 r6 t6
                  go_wp2_with fail
                  refine (rflush_any R6.out HB5.out.good (by omega) (by omega)).mono ?_
                  rintro e w7 ⟨rfl, r7⟩
                  obtain ⟨F', E', hB7, hfe, t7⟩ := HB5.out.step Q6.out r7 (HB5.out.good.flush cl)
                  have HB7 := Lib.hid hB7
                  have HD7 := Lib.hid (HD5.out.turned t7 hfe)
                  clear r7 hB7 hfe t7
                  go_wp2_with fail
                  go_meet
                  case rel => exact ⟨F', E', ys, _, cl, HB7.out, HD7.out, by omega, by have := flushC_len P cl ys cs; omega⟩
              · skip
                by_cases x2 : x = 2
                · subst x2
                  as_aux_lemma =>
                    go_wp2_with fail
                    refine (close_any HB5.out.q HB5.out.good (by omega)).mono ?_
                    rintro e w6 ⟨rfl, q6⟩
                    have Q6 := Lib.hid q6
                    obtain ⟨r6, t6⟩ := HB5.out.mid q6
                    have R6 := Lib.hid r6
                    clear q6 r6 t6
                    go_wp2_with fail
                    refine (rclose_any R6.out HB5.out.good (by omega) (by omega)).mono ?_
                    rintro e w7 ⟨rfl, r7⟩
                    obtain ⟨F', E', hB7, hfe, t7⟩ := HB5.out.step Q6.out r7 (HB5.out.good.flush cl)
                    have HB7 := Lib.hid hB7
                    have HD7 := Lib.hid (HD5.out.turned t7 hfe)
                    clear r7 hB7 hfe t7
                    go_wp2_with fail
                    go_meet
                    case rel => exact ⟨F', E', ys, _, true, HB7.out, HD7.out, by omega, by have := flushC_len P cl ys cs; omega⟩
                · skip
                  by_cases x3 : x = 3
                  · subst x3
                    as_aux_lemma =>
                      go_wp2_with fail
                      refine (syms_any HB5.out.q HB5.out.good p hp).mono ?_
                      rintro e w6 ⟨A6, n6, c6, rfl, ⟨rs6, hr6, hc6, hx6⟩, ht6, hn6, k6⟩
                      have K6 := Lib.hid k6
                      have R6 := Lib.hid (hr6.mono fun i hi => hi.2)
                      have T6 := Lib.hid ht6
                      have X6 := Lib.hid hx6
                      have HB6 := Lib.hid (HB5.out.later k6)
                      have D2 : w6.cell? ⟨gA, 2, none⟩ = some (.int .u64 (p : Int)) := cell_of_row _ _ _ _ _ _ (block_keep HX5.out k6)
                      clear hr6 hx6 ht6 k6 hc6
                      go_wp2_with fail
                      refine (rsyms_any HB6.out.r HB6.out.good (by omega) (by omega) p hp).mono ?_
                      rintro e w7 h7
                      obtain ⟨A7, n7, c7, rs7, rfl, hr7, hx7, k7⟩ := h7.rowsIn
                      have hS := rsame_any n6 n7 c6 c7 A6 A7 _ _ rs6 rs7 w7 (R6.out.turned (Turned.of_keep (F := fun _ => False) k7) fun _ _ e => e) hr7 (fun i hi => Nat.lt_of_lt_of_le hi k7.size) (fun i hi => hi) (by omega)
                      rw [X6.out, hx7, decide_eq_true rfl] at hS
                      have HS := Lib.hid hS
                      have K7 : Hid (Keep w5 w7) := K6.out.trans k7
                      have T7 : Hid (TurnAt w7 w5.heap.size A6 n6) := T6.out.keepT k7
                      clear hS hr7 hx7 k7 h7 R6 X6 T6 HB6 K6 D2
                      obtain ⟨er, her⟩ : ∃ er, symE (gensN (P - 4) cs ys) p = er := ⟨_, rfl⟩
                      rw [her]
                      clear her
                      have z0 : (er != er) = false := by simp
                      go_wp2_with fail
                      refine HS.out.mono ?_
                      rintro e w8 ⟨rfl, q8, rfl⟩
                      have K8 : Hid (Keep w5 (w7.drewN q8)) := K7.out.drewN q8
                      have T8 : Hid (TurnAt (w7.drewN q8) w5.heap.size A6 n6) := T7.out.keepT ((Keep.refl w7).drewN q8)
                      generalize w7.drewN q8 = w8 at *
                      clear HS K7 T7
                      go_wp2_with fail
                      go_loopw [181] (fun iv wz => ∃ i : Nat, i ≤ n6 ∧ iv = .int .i64 i ∧ TurnAt wz w5.heap.size A6 n6 ∧ Keep w5 wz) (fun iv _ => n6 - (intOf iv).toNat)
                      case atStart => exact ⟨0, by omega, rfl, T8.out, K8.out⟩
                      case round =>
                        clear T8 K8
                        obtain ⟨i, hi, rfl, ht, hk⟩ := hrel
                        have HK := Lib.hid hk
                        have f1 : (0 : Int) ≤ (i : Int) := Int.natCast_nonneg _
                        by_cases hlt : i < n6
                        · have f2 : (i : Int) < (n6 : Int) := by omega
                          rcases ht with h0 | ⟨gr, b', S', c', P', ys', rfl, h2, h3, h4, h5, h6, h7, h8, h9⟩
                          · omega
                          have hp := h7 i hlt
                          have cr := h8 i hlt
                          obtain ⟨p', hpp⟩ : ∃ p, i * S' = p := ⟨_, rfl⟩
                          rw [hpp] at hp cr
                          have cb := h9.cell (i := p') hp
                          have fb := h9.frozen p'
                          have f3 : (0 : Int) < (S' : Int) := by omega
                          obtain ⟨y, hy⟩ : ∃ y, ys'.getD p' 0 = y := ⟨_, rfl⟩
                          rw [hy] at cb
                          obtain ⟨z, hz, hz2⟩ := xor_byte y
                          have HT : Hid (TurnAt (wr.setCell ⟨b', p', none⟩ (.int .u8 (z : Int))) w5.heap.size (some ⟨gr, 0, none⟩) n6) :=
                            Or.inr ⟨gr, b', S', c', P', ys'.set p' z, rfl, h2, by simpa [World.setCell] using h3, h4, h5, h6, h7, fun k hk => by
                              rw [World.cell?_setCell_far _ _ _ _ (by show b' ≠ gr; exact h5)]; exact h8 k hk, h9.stored hz2⟩
                          have HK2 := Lib.hid (HK.out.setCell (a := ⟨b', p', none⟩) h4 (.int .u8 (z : Int)))
                          clear hk h2 h3 h4 h5 h6 h7 h8 h9 hp hpp hy hz2
                          go_wp2_with fail
                          go_roundw
                          case rel => exact ⟨i + 1, by omega, by go_num, HT.out, HK2.out⟩
                          case measure => simp [intOf]; omega
                        · have f2 : ¬ (i : Int) < (n6 : Int) := by omega
                          clear hk ht
                          go_wp2_with fail
                          go_meet
                          case rel => exact ⟨F, E, ys, cs, cl, HB5.out.later HK.out, HD5.out.later HK.out, by omega, by omega⟩
                  · skip
                    by_cases x4 : x = 4
                    · subst x4
                      as_aux_lemma =>
                        go_wp2_with fail
                        refine (rowm_any HB5.out.q HB5.out.good p hp  _ k c5 A5 ya O5.out.bytes (Nat.le_refl _)).mono ?_
                        rintro e w6 ⟨A6, n6, c6, A7, n7, c7, rfl, o6, o7, k6⟩
                        have hx6 := block_keep HX5.out k6
                        have D1 : w6.cell? ⟨gA, 1, none⟩ = some (.slice v.A k v.c) := cell_of_row _ _ _ _ _ _ hx6
                        have D2 : w6.cell? ⟨gA, 2, none⟩ = some (.int .u64 (p : Int)) := cell_of_row _ _ _ _ _ _ hx6
                        have D3 : w6.cell? ⟨gA, 3, none⟩ = some (.int .u64 (r : Int)) := cell_of_row _ _ _ _ _ _ hx6
                        have hg6 : gA < w6.heap.size := Nat.lt_of_lt_of_le hg5 k6.size
                        have K6 := Lib.hid k6
                        have O6 := Lib.hid o6
                        have O7 := Lib.hid o7
                        clear o6 o7 k6 hx6 C0 C1 C2 C3
                        go_wp2_with fail
                        obtain ⟨w7, hw7, z7, k7, hb7⟩ := one_block w6 #[.slice A6 n6 c6, .slice A7 n7 c7] 56
                        try rw [hw7]
                        have K7 : Hid (Keep w5 w7) := K6.out.trans k7
                        have HX7 := Lib.hid hb7
                        have HB7 := Lib.hid (HB5.out.later K7.out)
                        have O8 := Lib.hid (O6.out.keep k7)
                        have O9 := Lib.hid (O7.out.keep k7)
                        have HV7 := Lib.hid (HV5.out.keep hsz5 K7.out)
                        have hg7 : w6.heap.size < w7.heap.size := by omega
                        obtain ⟨gB, hgB⟩ : ∃ gB, w6.heap.size = gB := ⟨_, rfl⟩
                        rw [hgB] at HX7 hg7 ⊢
                        clear hw7 z7 k7 hb7 K6 O6 O7 hgB D1 D2 D3 hg6
                        refine (rrowm_any HB7.out.r HB7.out.good (by omega) (by omega) p hp  _ k v.c v.A ya HV7.out HB7.out.keep.size).mono ?_
                        rintro e w8 ⟨A8, n8, c8, A9, n9, c9, rfl, o8, o9, k8⟩
                        have hb8 := block_keep HX7.out k8
                        have hg8 : gB < w8.heap.size := Nat.lt_of_lt_of_le hg7 k8.size
                        have y0 : w8.cell? ⟨gB, 0, none⟩ = some (.slice A6 n6 c6) := cell_of_row _ _ _ _ _ _ hb8
                        have y1 : w8.cell? ⟨gB, 1, none⟩ = some (.slice A7 n7 c7) := cell_of_row _ _ _ _ _ _ hb8
                        clear hb8
                        have K8 : Hid (Keep w5 w8) := K7.out.trans k8
                        have U1 := Lib.hid (O8.out.keep k8)
                        have U2 := Lib.hid (O9.out.keep k8)
                        have U3 := Lib.hid o8
                        have U4 := Lib.hid o9
                        clear o8 o9 k8 O8 O9 HX7 hg7
                        obtain ⟨er, her⟩ : ∃ er, rowE G (gensN (P - 4) cs ys) p ya.length = er := ⟨_, rfl⟩
                        rw [her]
                        clear her
                        have z0 : (er != er) = false := by simp
                        go_wp2_with fail
                        obtain ⟨w9, hw9, z9, k9, -⟩ := one_block w8 #[.slice A8 n8 c8, .slice A9 n9 c9] 56
                        try rw [hw9]
                        have K9 : Hid (Keep w5 w9) := K8.out.trans k9
                        refine (same_true _ _ _ _ n6 c6 n7 c7 n8 c8 n9 c9 A6 A7 A8 A9 _ _ w9 (U1.out.keep k9).bytes (U2.out.keep k9).bytes (U3.out.keep k9).bytes (U4.out.keep k9).bytes (Nat.le_refl _) (Nat.le_refl _) (Nat.le_refl _) (Nat.le_refl _)).mono ?_
                        rintro e w10 ⟨rfl, k10⟩
                        have K10 : Hid (Keep w5 w10) := K9.out.trans k10
                        clear k10 hw9 z9 k9 y0 y1 hg8
                        go_wp2_with fail
                        go_meet
                        case rel => exact ⟨F, E, ys, cs, cl, HB5.out.later K10.out, HD5.out.later K10.out, by omega, by omega⟩
                    · skip
                      by_cases x5 : x = 5
                      · subst x5
                        as_aux_lemma =>
                          go_wp2_with fail
                          refine (send_any HB5.out.q HB5.out.good p hp r hr _ k c5 A5 ya O5.out.bytes (Nat.le_refl _)).mono ?_
                          rintro e w6 ⟨A6, n6, c6, A7, n7, c7, rfl, o6, o7, k6⟩
                          have hx6 := block_keep HX5.out k6
                          have D1 : w6.cell? ⟨gA, 1, none⟩ = some (.slice v.A k v.c) := cell_of_row _ _ _ _ _ _ hx6
                          have D2 : w6.cell? ⟨gA, 2, none⟩ = some (.int .u64 (p : Int)) := cell_of_row _ _ _ _ _ _ hx6
                          have D3 : w6.cell? ⟨gA, 3, none⟩ = some (.int .u64 (r : Int)) := cell_of_row _ _ _ _ _ _ hx6
                          have hg6 : gA < w6.heap.size := Nat.lt_of_lt_of_le hg5 k6.size
                          have K6 := Lib.hid k6
                          have O6 := Lib.hid o6
                          have O7 := Lib.hid o7
                          clear o6 o7 k6 hx6 C0 C1 C2 C3
                          go_wp2_with fail
                          obtain ⟨w7, hw7, z7, k7, hb7⟩ := one_block w6 #[.slice A6 n6 c6, .slice A7 n7 c7] 56
                          try rw [hw7]
                          have K7 : Hid (Keep w5 w7) := K6.out.trans k7
                          have HX7 := Lib.hid hb7
                          have HB7 := Lib.hid (HB5.out.later K7.out)
                          have O8 := Lib.hid (O6.out.keep k7)
                          have O9 := Lib.hid (O7.out.keep k7)
                          have HV7 := Lib.hid (HV5.out.keep hsz5 K7.out)
                          have hg7 : w6.heap.size < w7.heap.size := by omega
                          obtain ⟨gB, hgB⟩ : ∃ gB, w6.heap.size = gB := ⟨_, rfl⟩
                          rw [hgB] at HX7 hg7 ⊢
                          clear hw7 z7 k7 hb7 K6 O6 O7 hgB D1 D2 D3 hg6
                          refine (rsend_any HB7.out.r HB7.out.good (by omega) (by omega) p hp r hr _ k v.c v.A ya HV7.out HB7.out.keep.size (by omega)).mono ?_
                          rintro e w8 ⟨A8, n8, c8, A9, n9, c9, rfl, o8, o9, k8⟩
                          have hb8 := block_keep HX7.out k8
                          have hg8 : gB < w8.heap.size := Nat.lt_of_lt_of_le hg7 k8.size
                          have y0 : w8.cell? ⟨gB, 0, none⟩ = some (.slice A6 n6 c6) := cell_of_row _ _ _ _ _ _ hb8
                          have y1 : w8.cell? ⟨gB, 1, none⟩ = some (.slice A7 n7 c7) := cell_of_row _ _ _ _ _ _ hb8
                          clear hb8
                          have K8 : Hid (Keep w5 w8) := K7.out.trans k8
                          have U1 := Lib.hid (O8.out.keep k8)
                          have U2 := Lib.hid (O9.out.keep k8)
                          have U3 := Lib.hid o8
                          have U4 := Lib.hid o9
                          clear o8 o9 k8 O8 O9 HX7 hg7
                          obtain ⟨er, her⟩ : ∃ er, symE (gensN (P - 4) cs ys) p = er := ⟨_, rfl⟩
                          rw [her]
                          clear her
                          have z0 : (er != er) = false := by simp
                          go_wp2_with fail
                          obtain ⟨w9, hw9, z9, k9, -⟩ := one_block w8 #[.slice A8 n8 c8, .slice A9 n9 c9] 56
                          try rw [hw9]
                          have K9 : Hid (Keep w5 w9) := K8.out.trans k9
                          refine (same_true _ _ _ _ n6 c6 n7 c7 n8 c8 n9 c9 A6 A7 A8 A9 _ _ w9 (U1.out.keep k9).bytes (U2.out.keep k9).bytes (U3.out.keep k9).bytes (U4.out.keep k9).bytes (Nat.le_refl _) (Nat.le_refl _) (Nat.le_refl _) (Nat.le_refl _)).mono ?_
                          rintro e w10 ⟨rfl, k10⟩
                          have K10 : Hid (Keep w5 w10) := K9.out.trans k10
                          clear k10 hw9 z9 k9 y0 y1 hg8
                          go_wp2_with fail
                          go_meet
                          case rel => exact ⟨F, E, ys, cs, cl, HB5.out.later K10.out, HD5.out.later K10.out, by omega, by omega⟩
                      · skip
                        go_wp2_with fail
                        go_meet
                        case rel => exact ⟨F, E, ys, cs, cl, HB5.out, HD5.out, by omega, by omega⟩
          case rest => as_aux_lemma =>
            obtain ⟨F, E, ys, cs, cl, hb, hd, hy, hc⟩ := hcut
            have HB := Lib.hid hb
            have HD := Lib.hid hd
            clear hb hd HB5 HD5 HYL HV5 HX5 O5 HFE C0 C1 C2 C3
            go_wp2_with fail
            go_loopw [255] (fun iv wr => ∃ i : Nat, i ≤ k ∧ iv = .int .i64 i ∧ BothS W wr F E b d G S P ys cs cl ∧ Dup W wr F E A5 k c5) (fun iv _ => k - (intOf iv).toNat)
            case atStart => exact ⟨0, by omega, rfl, HB.out, HD.out⟩
            case round =>
              clear HB HD
              obtain ⟨i, hi, rfl, hb, hd⟩ := hrel
              have f1 : (0 : Int) ≤ (i : Int) := Int.natCast_nonneg _
              by_cases hlt : i < k
              · have f2 : (i : Int) < (k : Int) := by omega
                obtain ⟨g2, q, rfl, hg, hq, hc6, hf⟩ := hd.mine.at_ hlt
                obtain ⟨u, hu⟩ : ∃ u, q ^^^ 255 = u := ⟨_, rfl⟩
                obtain ⟨hxor, hu2⟩ := flip_int q u hq hu
                have hfar := hd.far g2 rfl
                have H3 := Lib.hid (hb.other (Turned.set (F := fun b => b = g2) _ ⟨g2, i, none⟩ (.int .u8 (u : Int)) rfl) (fun i e => by subst e; exact ⟨hfar.1, hfar.2.1, hg⟩))
                have H4 : Hid (Dup W (wr.setCell ⟨g2, i, none⟩ (.int .u8 (u : Int))) F E (some ⟨g2, 0, none⟩) k c5) := ⟨hd.mine.set g2 i u hu2, fun i' hi' => by
                  obtain ⟨z1, z2, z3⟩ := hd.far i' hi'
                  exact ⟨z1, z2, by simpa [World.setCell] using z3⟩⟩
                clear hb hd hu hfar
                go_wp2_with fail
                first | go_round | go_roundw
                case rel => exact ⟨i + 1, by omega, by go_num, H3.out, H4.out⟩
                case measure => simp [intOf]; omega
              · have f2 : ¬ (i : Int) < (k : Int) := by omega
                obtain ⟨a1, m1, d1, a2, m2, d2, hra⟩ := hb.r
                have hdl : d < wr.heap.size := hra.lt d hra.e0
                have HL2 : Hid (∀ w', Keep wr w' → w'.cell? ⟨d, 2, none⟩ = some (.slice a1 m1 d1)) := fun w' k => (k.cell (p := ⟨d, 2, none⟩) hdl).trans hra.x2
                have HL3 : Hid (∀ w', Keep wr w' → w'.cell? ⟨d, 3, none⟩ = some (.slice a2 m2 d2)) := fun w' k => (k.cell (p := ⟨d, 3, none⟩) hdl).trans hra.x3
                have HL4 : Hid (∀ w', Keep wr w' → w'.cell? ⟨d, 4, none⟩ = some (.bool cl)) := fun w' k => (k.cell (p := ⟨d, 4, none⟩) hdl).trans hra.x4
                have HBy := Lib.hid hra.bytes
                have HNa := Lib.hid hra.nats
                obtain ⟨m, hm⟩ : ∃ m, (gensN (P - 4) cs ys).length = m := ⟨_, rfl⟩
                have hfew := hb.good.few
                have HG1 : Hid (∀ w', Keep wr w' → Calls Try.prog 28 #[.pointer (some ⟨b, 0, none⟩)] w' fun e w'' => e = .returned (.int .u64 (m : Int)) ∧ w' = w'') := fun w' k => by
                  obtain ⟨_, _, _, _, _, _, _, _, _, hs⟩ := hb.q
                  rw [← hm]
                  exact gens_any (hs.keep k) (by omega)
                have HG3 : Hid (∀ w', Keep wr w' → Calls Try.prog 29 #[.pointer (some ⟨d, 0, none⟩)] w' fun e w'' => e = .returned (.int .u64 (m : Int)) ∧ Keep w' w'') := fun w' k => by
                  rw [← hm]
                  exact rgens_any (hb.r.keep k) hb.good (by omega) (by omega)
                have HCl : Hid (∀ w', Keep wr w' → Calls Try.prog 30 #[.pointer (some ⟨b, 0, none⟩)] w' fun e w'' => e = .returned (.bool cl) ∧ w' = w'') := fun w' k => by
                  obtain ⟨_, _, _, _, _, _, _, _, _, hs⟩ := hb.q
                  exact closed_any (hs.keep k)
                have HSt : Hid (∀ w', Keep wr w' → Calls Try.prog 32 #[.pointer (some ⟨b, 0, none⟩)] w' (NewBytes w' ys)) := fun w' k => stream_any (hb.q.keep k) (by omega)
                have HCu : Hid (∀ w', Keep wr w' → Calls Try.prog 34 #[.pointer (some ⟨b, 0, none⟩)] w' (NewInts w' cs)) := fun w' k => cuts_any (hb.q.keep k) (by omega)
                have HB := Lib.hid hb
                have z0 : ((m : Int) != (m : Int)) = false := by simp
                have z1 : (cl != cl) = false := by simp
                clear hb hd hra hm hfew
                go_wp2_with fail
                refine wp_region_noPanic ?_
                refine wp_region_held_drew (S := fun wz => Keep wr wz) (by kernel_rfl) (Keep.drew (Keep.refl _)) (fun hHeld => ?_)
                refine wpAnyH_take (i := 0) (v := ?_) rfl (by kernel_rfl) (by kernel_rfl) (by kernel_rfl) (fun _ _ _ h => h) (Or.inl ⟨by kernel_rfl, ?_⟩) hHeld ?_
                rotate_left
                · intro wq hSw
                  go_simp
                  all_goals with_reducible rfl
                try simp only [Act.put, List.getElem_toArray, List.getElem_cons_succ, List.getElem_cons_zero, List.setIfInBounds_toArray, List.set_cons_zero, List.set_cons_succ]
                refine wpAnyH_take (i := 2) (v := ?_) rfl (by kernel_rfl) (by kernel_rfl) (by kernel_rfl) (fun _ _ _ h => h) (Or.inl ⟨by kernel_rfl, ?_⟩) hHeld ?_
                rotate_left
                · intro wq hSw
                  go_simp
                  all_goals with_reducible rfl
                try simp only [Act.put, List.getElem_toArray, List.getElem_cons_succ, List.getElem_cons_zero, List.setIfInBounds_toArray, List.set_cons_zero, List.set_cons_succ]
                refine wpAnyH_ready (rs := [1]) (by kernel_rfl) (by simp) ?_
                refine AllReadyH.cons rfl (fun K hK => ?_) AllReadyH.nil
                go_simp
                refine (HG1.out _ (Keep.drew (Keep.refl _))).mono ?_
                rintro e w8 ⟨rfl, rfl⟩
                refine hK.out _ _ hHeld (fun hHeld => ?_)
                clear hK K
                try simp only [Act.put, List.getElem_toArray, List.getElem_cons_succ, List.getElem_cons_zero, List.setIfInBounds_toArray, List.set_cons_zero, List.set_cons_succ]
                refine wpAnyH_ready (rs := [3]) (by kernel_rfl) (by simp) ?_
                refine AllReadyH.cons rfl (fun K hK => ?_) AllReadyH.nil
                go_simp
                refine (HG3.out _ (Keep.drew (Keep.refl _))).mono ?_
                rintro e w9 ⟨rfl, k9⟩
                have hKp : Keep wr w9 := (Keep.drew (Keep.refl _)).trans k9
                refine hK.out _ _ hKp (fun _ => ?_)
                clear hK K hHeld
                refine wpAnyH_strong (S' := fun wz => Keep w9 wz) (fun wz h => Keep.trans hKp h) _ _ _ _ ?_
                have hHeld : Keep w9 w9 := Keep.refl _
                try simp only [Act.put, List.getElem_toArray, List.getElem_cons_succ, List.getElem_cons_zero, List.setIfInBounds_toArray, List.set_cons_zero, List.set_cons_succ]
                have kk9 := Lib.hid hKp
                refine wpAnyH_take (i := 4) (v := ?_) rfl (by kernel_rfl) (by kernel_rfl) (by kernel_rfl) (fun _ _ _ h => h) (Or.inl ⟨by kernel_rfl, ?_⟩) hHeld ?_
                rotate_left
                · intro wq hSw
                  go_simp
                  all_goals with_reducible rfl
                try simp only [Act.put, List.getElem_toArray, List.getElem_cons_succ, List.getElem_cons_zero, List.setIfInBounds_toArray, List.set_cons_zero, List.set_cons_succ]
                refine wpAnyH_take (i := 5) (v := ?_) rfl (by kernel_rfl) (by kernel_rfl) (by kernel_rfl) (fun _ _ _ h => h) (Or.inl ⟨by kernel_rfl, ?_⟩) hHeld ?_
                rotate_left
                · intro wq hSw
                  go_simp
                  all_goals with_reducible rfl
                try simp only [Act.put, List.getElem_toArray, List.getElem_cons_succ, List.getElem_cons_zero, List.setIfInBounds_toArray, List.set_cons_zero, List.set_cons_succ]
                refine wpAnyH_take (i := 6) (v := ?_) rfl (by kernel_rfl) (by kernel_rfl) (by kernel_rfl) (fun _ _ _ h => h) (Or.inl ⟨by kernel_rfl, ?_⟩) hHeld ?_
                rotate_left
                · intro wq hSw
                  go_simp
                  all_goals with_reducible rfl
                try simp only [Act.put, List.getElem_toArray, List.getElem_cons_succ, List.getElem_cons_zero, List.setIfInBounds_toArray, List.set_cons_zero, List.set_cons_succ]
                refine wpAnyH_take (i := 8) (v := ?_) rfl (by kernel_rfl) (by kernel_rfl) (by kernel_rfl) (fun _ _ _ h => h) (Or.inl ⟨by kernel_rfl, ?_⟩) hHeld ?_
                rotate_left
                · intro wq hSw
                  go_simp
                  all_goals with_reducible rfl
                try simp only [Act.put, List.getElem_toArray, List.getElem_cons_succ, List.getElem_cons_zero, List.setIfInBounds_toArray, List.set_cons_zero, List.set_cons_succ]
                refine wpAnyH_take (i := 9) (v := ?_) rfl (by kernel_rfl) (by kernel_rfl) (by kernel_rfl) (fun _ _ _ h => h) (Or.inl ⟨by kernel_rfl, ?_⟩) hHeld ?_
                rotate_left
                · intro wq hSw
                  go_simp
                  all_goals with_reducible rfl
                try simp only [Act.put, List.getElem_toArray, List.getElem_cons_succ, List.getElem_cons_zero, List.setIfInBounds_toArray, List.set_cons_zero, List.set_cons_succ]
                refine wpAnyH_take (i := 10) (v := ?_) rfl (by kernel_rfl) (by kernel_rfl) (by kernel_rfl) (fun _ _ _ h => h) (Or.inl ⟨by kernel_rfl, ?_⟩) hHeld ?_
                rotate_left
                · intro wq hSw
                  go_simp
                  all_goals with_reducible rfl
                try simp only [Act.put, List.getElem_toArray, List.getElem_cons_succ, List.getElem_cons_zero, List.setIfInBounds_toArray, List.set_cons_zero, List.set_cons_succ]
                refine wpAnyH_take (i := 11) (v := .bool cl) rfl (by kernel_rfl) (by kernel_rfl) (by kernel_rfl) (fun _ _ _ h => h) (Or.inl ⟨by kernel_rfl, fun wq hSw => load_bool (x := .tmp 275) (by kernel_rfl) (by kernel_rfl) (HL4.out wq (kk9.out.trans hSw))⟩) hHeld ?_
                try simp only [Act.put, List.getElem_toArray, List.getElem_cons_succ, List.getElem_cons_zero, List.setIfInBounds_toArray, List.set_cons_zero, List.set_cons_succ]
                refine wpAnyH_ready (rs := [7]) (by kernel_rfl) (by simp) ?_
                refine AllReadyH.cons rfl (fun K hK => ?_) AllReadyH.nil
                go_simp
                refine (HCl.out _ kk9.out).mono ?_
                rintro e w8 ⟨rfl, rfl⟩
                refine hK.out _ _ hHeld (fun hHeld => ?_)
                clear hK K
                try simp only [Act.put, List.getElem_toArray, List.getElem_cons_succ, List.getElem_cons_zero, List.setIfInBounds_toArray, List.set_cons_zero, List.set_cons_succ]
                refine wpAnyH_take (i := 12) (v := ?_) rfl (by kernel_rfl) (by kernel_rfl) (by kernel_rfl) (fun _ _ _ h => h) (Or.inl ⟨by kernel_rfl, ?_⟩) hHeld ?_
                rotate_left
                · intro wq hSw
                  go_simp
                  all_goals with_reducible rfl
                try simp only [Act.put, List.getElem_toArray, List.getElem_cons_succ, List.getElem_cons_zero, List.setIfInBounds_toArray, List.set_cons_zero, List.set_cons_succ]
                refine wpAnyH_take (i := 13) (v := ?_) rfl (by kernel_rfl) (by kernel_rfl) (by kernel_rfl) (fun _ _ _ h => h) (Or.inl ⟨by kernel_rfl, ?_⟩) hHeld ?_
                rotate_left
                · intro wq hSw
                  go_simp
                  all_goals with_reducible rfl
                try simp only [Act.put, List.getElem_toArray, List.getElem_cons_succ, List.getElem_cons_zero, List.setIfInBounds_toArray, List.set_cons_zero, List.set_cons_succ]
                refine wpAnyH_take (i := 14) (v := ?_) rfl (by kernel_rfl) (by kernel_rfl) (by kernel_rfl) (fun _ _ _ h => h) (Or.inl ⟨by kernel_rfl, ?_⟩) hHeld ?_
                rotate_left
                · intro wq hSw
                  go_simp
                  all_goals with_reducible rfl
                try simp only [Act.put, List.getElem_toArray, List.getElem_cons_succ, List.getElem_cons_zero, List.setIfInBounds_toArray, List.set_cons_zero, List.set_cons_succ]
                refine wpAnyH_take (i := 15) (v := ?_) rfl (by kernel_rfl) (by kernel_rfl) (by kernel_rfl) (fun _ _ _ h => h) (Or.inl ⟨by kernel_rfl, ?_⟩) hHeld ?_
                rotate_left
                · intro wq hSw
                  go_simp
                  all_goals with_reducible rfl
                try simp only [Act.put, List.getElem_toArray, List.getElem_cons_succ, List.getElem_cons_zero, List.setIfInBounds_toArray, List.set_cons_zero, List.set_cons_succ]
                refine wpAnyH_take (i := 17) (v := ?_) rfl (by kernel_rfl) (by kernel_rfl) (by kernel_rfl) (fun _ _ _ h => h) (Or.inl ⟨by kernel_rfl, ?_⟩) hHeld ?_
                rotate_left
                · intro wq hSw
                  go_simp
                  all_goals with_reducible rfl
                try simp only [Act.put, List.getElem_toArray, List.getElem_cons_succ, List.getElem_cons_zero, List.setIfInBounds_toArray, List.set_cons_zero, List.set_cons_succ]
                refine wpAnyH_take (i := 18) (v := ?_) rfl (by kernel_rfl) (by kernel_rfl) (by kernel_rfl) (fun _ _ _ h => h) (Or.inl ⟨by kernel_rfl, ?_⟩) hHeld ?_
                rotate_left
                · intro wq hSw
                  go_simp
                  all_goals with_reducible rfl
                try simp only [Act.put, List.getElem_toArray, List.getElem_cons_succ, List.getElem_cons_zero, List.setIfInBounds_toArray, List.set_cons_zero, List.set_cons_succ]
                refine wpAnyH_take (i := 19) (v := ?_) rfl (by kernel_rfl) (by kernel_rfl) (by kernel_rfl) (fun _ _ _ h => h) (Or.inl ⟨by kernel_rfl, ?_⟩) hHeld ?_
                rotate_left
                · intro wq hSw
                  go_simp
                  all_goals with_reducible rfl
                try simp only [Act.put, List.getElem_toArray, List.getElem_cons_succ, List.getElem_cons_zero, List.setIfInBounds_toArray, List.set_cons_zero, List.set_cons_succ]
                refine wpAnyH_take (i := 20) (v := .slice a1 m1 d1) rfl (by kernel_rfl) (by kernel_rfl) (by kernel_rfl) (fun _ _ _ h => h) (Or.inl ⟨by kernel_rfl, fun wq hSw => load_bytes (x := .tmp 284) (by kernel_rfl) (by kernel_rfl) (HL2.out wq (kk9.out.trans hSw))⟩) hHeld ?_
                try simp only [Act.put, List.getElem_toArray, List.getElem_cons_succ, List.getElem_cons_zero, List.setIfInBounds_toArray, List.set_cons_zero, List.set_cons_succ]
                refine wpAnyH_ready (rs := [16]) (by kernel_rfl) (by simp) ?_
                refine AllReadyH.cons rfl (fun K hK => ?_) AllReadyH.nil
                go_simp
                refine (HSt.out _ kk9.out).mono ?_
                rintro e w10 ⟨A10, n10, c10, rfl, o10, k10⟩
                have hKp : Keep w9 w10 := k10
                refine hK.out _ _ hKp (fun _ => ?_)
                clear hK K hHeld
                refine wpAnyH_strong (S' := fun wz => Keep w10 wz) (fun wz h => Keep.trans hKp h) _ _ _ _ ?_
                have hHeld : Keep w10 w10 := Keep.refl _
                try simp only [Act.put, List.getElem_toArray, List.getElem_cons_succ, List.getElem_cons_zero, List.setIfInBounds_toArray, List.set_cons_zero, List.set_cons_succ]
                have kk10 : Hid (Keep wr w10) := kk9.out.trans hKp
                refine wpAnyH_ready (rs := [21]) (by kernel_rfl) (by simp) ?_
                refine AllReadyH.cons rfl (fun K hK => ?_) AllReadyH.nil
                go_simp
                refine (equal_true _ _ n10 m1 _ _ A10 a1 ys w10 o10.bytes (HBy.out.keep (Nat.le_refl _) kk10.out)).mono ?_
                rintro e w8 ⟨rfl, rfl⟩
                refine hK.out _ _ hHeld (fun hHeld => ?_)
                clear hK K
                try simp only [Act.put, List.getElem_toArray, List.getElem_cons_succ, List.getElem_cons_zero, List.setIfInBounds_toArray, List.set_cons_zero, List.set_cons_succ]
                refine wpAnyH_take (i := 22) (v := ?_) rfl (by kernel_rfl) (by kernel_rfl) (by kernel_rfl) (fun _ _ _ h => h) (Or.inl ⟨by kernel_rfl, ?_⟩) hHeld ?_
                rotate_left
                · intro wq hSw
                  go_simp
                  all_goals with_reducible rfl
                try simp only [Act.put, List.getElem_toArray, List.getElem_cons_succ, List.getElem_cons_zero, List.setIfInBounds_toArray, List.set_cons_zero, List.set_cons_succ]
                refine wpAnyH_take (i := 23) (v := ?_) rfl (by kernel_rfl) (by kernel_rfl) (by kernel_rfl) (fun _ _ _ h => h) (Or.inl ⟨by kernel_rfl, ?_⟩) hHeld ?_
                rotate_left
                · intro wq hSw
                  go_simp
                  all_goals with_reducible rfl
                try simp only [Act.put, List.getElem_toArray, List.getElem_cons_succ, List.getElem_cons_zero, List.setIfInBounds_toArray, List.set_cons_zero, List.set_cons_succ]
                refine wpAnyH_take (i := 24) (v := ?_) rfl (by kernel_rfl) (by kernel_rfl) (by kernel_rfl) (fun _ _ _ h => h) (Or.inl ⟨by kernel_rfl, ?_⟩) hHeld ?_
                rotate_left
                · intro wq hSw
                  go_simp
                  all_goals with_reducible rfl
                try simp only [Act.put, List.getElem_toArray, List.getElem_cons_succ, List.getElem_cons_zero, List.setIfInBounds_toArray, List.set_cons_zero, List.set_cons_succ]
                refine wpAnyH_take (i := 25) (v := ?_) rfl (by kernel_rfl) (by kernel_rfl) (by kernel_rfl) (fun _ _ _ h => h) (Or.inl ⟨by kernel_rfl, ?_⟩) hHeld ?_
                rotate_left
                · intro wq hSw
                  go_simp
                  all_goals with_reducible rfl
                try simp only [Act.put, List.getElem_toArray, List.getElem_cons_succ, List.getElem_cons_zero, List.setIfInBounds_toArray, List.set_cons_zero, List.set_cons_succ]
                refine wpAnyH_take (i := 27) (v := ?_) rfl (by kernel_rfl) (by kernel_rfl) (by kernel_rfl) (fun _ _ _ h => h) (Or.inl ⟨by kernel_rfl, ?_⟩) hHeld ?_
                rotate_left
                · intro wq hSw
                  go_simp
                  all_goals with_reducible rfl
                try simp only [Act.put, List.getElem_toArray, List.getElem_cons_succ, List.getElem_cons_zero, List.setIfInBounds_toArray, List.set_cons_zero, List.set_cons_succ]
                refine wpAnyH_take (i := 28) (v := ?_) rfl (by kernel_rfl) (by kernel_rfl) (by kernel_rfl) (fun _ _ _ h => h) (Or.inl ⟨by kernel_rfl, ?_⟩) hHeld ?_
                rotate_left
                · intro wq hSw
                  go_simp
                  all_goals with_reducible rfl
                try simp only [Act.put, List.getElem_toArray, List.getElem_cons_succ, List.getElem_cons_zero, List.setIfInBounds_toArray, List.set_cons_zero, List.set_cons_succ]
                refine wpAnyH_take (i := 29) (v := ?_) rfl (by kernel_rfl) (by kernel_rfl) (by kernel_rfl) (fun _ _ _ h => h) (Or.inl ⟨by kernel_rfl, ?_⟩) hHeld ?_
                rotate_left
                · intro wq hSw
                  go_simp
                  all_goals with_reducible rfl
                try simp only [Act.put, List.getElem_toArray, List.getElem_cons_succ, List.getElem_cons_zero, List.setIfInBounds_toArray, List.set_cons_zero, List.set_cons_succ]
                refine wpAnyH_take (i := 30) (v := .slice a2 m2 d2) rfl (by kernel_rfl) (by kernel_rfl) (by kernel_rfl) (fun _ _ _ h => h) (Or.inl ⟨by kernel_rfl, fun wq hSw => load_ints (x := .tmp 294) (by kernel_rfl) (by kernel_rfl) (HL3.out wq (kk10.out.trans hSw))⟩) hHeld ?_
                try simp only [Act.put, List.getElem_toArray, List.getElem_cons_succ, List.getElem_cons_zero, List.setIfInBounds_toArray, List.set_cons_zero, List.set_cons_succ]
                refine wpAnyH_ready (rs := [26]) (by kernel_rfl) (by simp) ?_
                refine AllReadyH.cons rfl (fun K hK => ?_) AllReadyH.nil
                go_simp
                refine (HCu.out _ kk10.out).mono ?_
                rintro e w11 ⟨A11, n11, c11, rfl, o11, k11⟩
                have hKp : Keep w10 w11 := k11
                refine hK.out _ _ hKp (fun _ => ?_)
                clear hK K hHeld
                refine wpAnyH_strong (S' := fun wz => Keep w11 wz) (fun wz h => Keep.trans hKp h) _ _ _ _ ?_
                have hHeld : Keep w11 w11 := Keep.refl _
                try simp only [Act.put, List.getElem_toArray, List.getElem_cons_succ, List.getElem_cons_zero, List.setIfInBounds_toArray, List.set_cons_zero, List.set_cons_succ]
                have kk11 : Hid (Keep wr w11) := kk10.out.trans hKp
                refine wpAnyH_ready (rs := [31]) (by kernel_rfl) (by simp) ?_
                refine AllReadyH.cons rfl (fun K hK => ?_) AllReadyH.nil
                go_simp
                refine (eqints_any _ _ n11 m2 _ _ A11 a2 cs cs w11 o11.nats (HNa.out.keep (Nat.le_refl _) kk11.out) (by have e := o11.nats.length; omega) true (decide_eq_true rfl)).mono ?_
                rintro e w12 ⟨rfl, q, rfl⟩
                have hKp : Keep w11 (w11.drewN q) := (Keep.refl w11).drewN q
                refine hK.out _ _ hKp (fun _ => ?_)
                clear hK K hHeld
                refine wpAnyH_strong (S' := fun wz => Keep (w11.drewN q) wz) (fun wz h => Keep.trans hKp h) _ _ _ _ ?_
                have hHeld : Keep (w11.drewN q) (w11.drewN q) := Keep.refl _
                try simp only [Act.put, List.getElem_toArray, List.getElem_cons_succ, List.getElem_cons_zero, List.setIfInBounds_toArray, List.set_cons_zero, List.set_cons_succ]
                have kk12 : Hid (Keep wr (w11.drewN q)) := kk11.out.trans hKp
                refine wpAnyH_take (i := 32) (v := ?_) rfl (by kernel_rfl) (by kernel_rfl) (by kernel_rfl) (fun _ _ _ h => h) (Or.inl ⟨by kernel_rfl, ?_⟩) hHeld ?_
                rotate_left
                · intro wq hSw
                  go_simp
                  all_goals with_reducible rfl
                try simp only [Act.put, List.getElem_toArray, List.getElem_cons_succ, List.getElem_cons_zero, List.setIfInBounds_toArray, List.set_cons_zero, List.set_cons_succ]
                refine wpAnyH_take (i := 33) (v := ?_) rfl (by kernel_rfl) (by kernel_rfl) (by kernel_rfl) (fun _ _ _ h => h) (Or.inl ⟨by kernel_rfl, ?_⟩) hHeld ?_
                rotate_left
                · intro wq hSw
                  go_simp
                  all_goals with_reducible rfl
                try simp only [Act.put, List.getElem_toArray, List.getElem_cons_succ, List.getElem_cons_zero, List.setIfInBounds_toArray, List.set_cons_zero, List.set_cons_succ]
                refine wpAnyH_done (by kernel_rfl) ?_ _
                refine NoPanic.normal ?_
                clear hHeld
                go_wp2_with fail
                go_roundw
                case rel => exact ⟨j + 1, F, E, ys, cs, cl, by omega, by omega, by go_num, HB.out.later kk12.out, by omega, by omega⟩
                case measure => simp [intOf]; omega
      · obtain rfl : n = j := by omega
        have HK := Lib.hid hb.keep
        clear hb
        go_wp2_with fail
        go_ret
        exact ⟨rfl, HK.out⟩
end Go.Proofs.Ytcafofffgmaepaa
