/- SourceKeeps: what was a generation stays it. -/
import Derived.Test.YtcafofffgmaepaaSK
import Derived.Deep.DeepCutAuto
import Derived.Deep.CutBlock
namespace Go.Proofs.Ytcafofffgmaepaa
open Go.RowKit
set_option linter.unusedVariables false
set_option linter.unusedSimpArgs false
set_option maxRecDepth 100000 in
set_option maxHeartbeats 16000000 in
theorem skeeps_any (G0 S0 n c : Nat) (A : Option Addr) (acts : List CallV) (W : World) (hG : G0 < 256) (hS : S0 < 256) (ha : CallsAt W W.heap.size A n acts) (l3 : n ≤ 140737488351232) :
    Calls Try.prog 4 #[.int .u8 (G0 : Int), .int .u8 (S0 : Int), .slice A n c] W fun e w' => e = .returned (.bool true) ∧ Keep W w' := by
  obtain ⟨j0, hj0⟩ : ∃ j, G0 % 12 = j := ⟨_, rfl⟩
  obtain ⟨j1, hj1⟩ : ∃ j, S0 % 12 = j := ⟨_, rfl⟩
  have e0 : IntKind.i64.wrap (G0 : Int) = (G0 : Int) := IntWalk.i64_in _ (by omega)
  have e1 : (G0 : Int).tmod 12 = (j0 : Int) := by rw [Int.tmod_eq_emod_of_nonneg (by omega)]; omega
  have e2 : IntKind.i64.wrap (j0 : Int) = (j0 : Int) := IntWalk.i64_in _ (by omega)
  have e3 : IntKind.i64.wrap (1 + (j0 : Int)) = ((1 + j0 : Nat) : Int) := by rw [IntWalk.i64_in _ (by omega)]; omega
  have e4 : IntKind.i64.wrap (S0 : Int) = (S0 : Int) := IntWalk.i64_in _ (by omega)
  have e5 : (S0 : Int).tmod 12 = (j1 : Int) := by rw [Int.tmod_eq_emod_of_nonneg (by omega)]; omega
  have e6 : IntKind.i64.wrap (j1 : Int) = (j1 : Int) := IntWalk.i64_in _ (by omega)
  have e7 : IntKind.i64.wrap (5 + (j1 : Int)) = ((5 + j1 : Nat) : Int) := by rw [IntWalk.i64_in _ (by omega)]; omega
  obtain ⟨g, hg⟩ : ∃ g, 1 + j0 = g := ⟨_, rfl⟩
  obtain ⟨s, hs⟩ : ∃ s, 5 + j1 = s := ⟨_, rfl⟩
  rw [hg] at e3
  rw [hs] at e7
  have g1 : 1 ≤ g := by omega
  have g2 : g ≤ 12 := by omega
  have s1 : 5 ≤ s := by omega
  have s2 : s ≤ 16 := by omega
  obtain ⟨P, hP⟩ : ∃ P, g * s = P := ⟨_, rfl⟩
  have p1 : 5 ≤ P := by rw [← hP]; exact Nat.le_trans s1 (Nat.le_mul_of_pos_left s g1)
  have p2 : P ≤ 192 := by rw [← hP]; exact Nat.mul_le_mul g2 s2
  have hz : SizeS g s P := ⟨by omega, by omega, by omega, by omega, hP, p1, by omega, ⟨by omega, by omega, by omega, by omega, by rw [show (g : Int) * (s : Int) = ((g * s : Nat) : Int) by simp, hP]; omega⟩, by rw [← hP]; simp⟩
  have HZ := Lib.hid hz
  have HG0 := Lib.hid (GoodS.start hz)
  have HA := Lib.hid ha
  clear ha hz hj0 hj1 hg hs hP
  go_enter Try.func4, Try.ntmps4
  go_wp2_with fail
  clear e0 e1 e2 e3 e4 e5 e6 e7
  refine (new_good g s P HZ.out _).mono ?_
  rintro e w2 ⟨b, F, rfl, q2, f2, k2⟩
  have Q2 := Lib.hid q2
  have F2 := Lib.hid f2
  have K2 := Lib.hid k2
  clear q2 f2 k2
  go_wp2_with fail
  refine (sawake_any _).mono ?_
  rintro e w3 ⟨rfl, k3⟩
  have Q3 := Lib.hid (Q2.out.keep k3)
  have K3 : Hid (Keep W w3) := K2.out.trans k3
  clear k3 Q2
  have HK0 : Hid (KpS W w3 F (fun _ => False) b g s P [] [] false none 0 0 [] none 0 0 []) := by
    have e0 := gens_start HZ.out
    refine ⟨by rw [e0]; exact Q3.out, by rw [e0]; exact HG0.out, K3.out, fun i hi => Nat.le_trans (Nat.le_refl _) (F2.out i hi), Own.none_ _ _ _, OwnRows.none_ _ _ _, fun i hi => by simp [Value.ownBlock] at hi, fun i hi => by simp [Value.ownBlock] at hi, fun i hi => hi.elim, by omega, fun k r hr => by simp at hr⟩
  have HN0 : Hid (0 = (gensN (P - 4) [] []).length) := by
    rw [gens_start HZ.out]; rfl
  clear Q3 F2 K3 HG0
  go_upto_block 0 with fail
  go_cut [11, 12, 13] (fun av wv cv wx => ∃ (F D : Nat → Prop) (xs cs : List Nat) (cl : Bool) (A1 : Option Addr) (n1 c1 : Nat) (A2 : Option Addr) (n2 c2 : Nat) (hs : List RowV), av = .slice A1 n1 c1 ∧ wv = .slice A2 n2 c2 ∧ cv = .bool cl ∧ KpS W wx F D b g s P xs cs cl A1 n1 c1 xs A2 n2 c2 hs ∧ n2 = (gensN (P - 4) cs xs).length ∧ (cl = true → openN (P - 4) cs xs = []) ∧ xs.length ≤ 8000 ∧ cs.length ≤ 40)
  case first => as_aux_lemma =>
    go_wp2_with fail
    go_loopw [11, 12, 13, 50] (fun av wv cv iv wr => ∃ (j : Nat) (F D : Nat → Prop) (xs cs : List Nat) (cl : Bool) (A1 : Option Addr) (n1 c1 : Nat) (A2 : Option Addr) (n2 c2 : Nat) (hs : List RowV), j ≤ n ∧ j ≤ 40 ∧ iv = .int .i64 j ∧ av = .slice A1 n1 c1 ∧ wv = .slice A2 n2 c2 ∧ cv = .bool cl ∧ KpS W wr F D b g s P xs cs cl A1 n1 c1 xs A2 n2 c2 hs ∧ n2 = (gensN (P - 4) cs xs).length ∧ (cl = true → openN (P - 4) cs xs = []) ∧ xs.length ≤ 200 * j ∧ cs.length ≤ j) (fun _ _ _ iv _ => n - (intOf iv).toNat)
    case atStart => exact ⟨0, F, _, [], [], false, none, 0, 0, none, 0, 0, [], by omega, by omega, rfl, rfl, rfl, rfl, HK0.out, HN0.out, (fun h => by cases h), by simp, by simp⟩
    case round =>
      clear HK0 HN0
      obtain ⟨j, F, D, xs, cs, cl, A1, n1, c1, A2, n2, c2, hs, hj, hj40, rfl, rfl, rfl, rfl, hk, hn2, hop, hxl, hcl⟩ := hrel
      have e1 : (0 : Int) ≤ (j : Int) := Int.natCast_nonneg _
      have HN2 := Lib.hid hn2
      have HOP := Lib.hid hop
      have HXL := Lib.hid (And.intro hxl hcl)
      clear hn2 hop hxl hcl
      by_cases hlt : j < n
      · obtain ⟨q0, off, x, v, p, r, rfl, hq0, hc0, hc1, hc2, hc3, hv, hvn, hvc, hp, hr⟩ := HA.out.at_ hk.keep hlt
        have e2 : (j : Int) < (n : Int) := by omega
        by_cases h40 : j = 40
        · have b0 : ((j : Int) == 40) = true := beq_iff_eq.2 (by omega)
          have HK := Lib.hid hk
          clear hk h40 hv
          go_wp2_with fail
          go_meet
          case rel => exact ⟨F, D, xs, cs, cl, A1, n1, c1, A2, n2, c2, hs, rfl, rfl, rfl, HK.out.later ((Keep.refl _).ob _), HN2.out, HOP.out, by have := HXL.out; omega, by have := HXL.out; omega⟩
        · have b0 : ((j : Int) == 40) = false := beq_eq_false_iff_ne.2 (by omega)
          obtain ⟨k, hk'⟩ : ∃ k, min v.n 200 = k := ⟨_, rfl⟩
          have hmin := run_least v.n 200 k 200 rfl hk'
          have hhead := head_bytes k v.n v.c v.A (by omega)
          have hkb : k ≤ 200 := by omega
          obtain ⟨ya, hya⟩ : ∃ ya, v.xs.take k = ya := ⟨_, rfl⟩
          have hv2 := hv.cut (m := k) (by omega)
          rw [hya] at hv2
          have HK := Lib.hid hk
          have HV := Lib.hid hv2
          have hj' : j < 40 := by omega
          have HYL : Hid (ya.length ≤ 200) := by show _ ≤ _; rw [hv2.length]; exact hkb
          clear hk hv hv2 hk' hya h40 hj40
          go_upto_block 2 with fail
          obtain ⟨w4, hw4, z4, k4, hb4⟩ := one_block wr #[.int .i64 x, .slice v.A k v.c, .int .u64 (p : Int), .int .u64 (r : Int)] 43
          rw [hw4]
          have HK4 := Lib.hid (HK.out.later k4)
          have hsz : W.heap.size ≤ w4.heap.size := HK4.out.keep.size
          have HV4 := Lib.hid (HV.out.keep HK.out.keep.size k4)
          have HNF : Hid (¬ F wr.heap.size) := fun e => by have := HK.out.q.lt _ e; omega
          obtain ⟨gA, hgA⟩ : ∃ gA, wr.heap.size = gA := ⟨_, rfl⟩
          rw [hgA] at hb4 HNF ⊢
          have C0 : w4.cell? ⟨gA, 0, none⟩ = some (.int .i64 x) := cell_of_row _ _ _ _ _ _ hb4
          have C1 : w4.cell? ⟨gA, 1, none⟩ = some (.slice v.A k v.c) := cell_of_row _ _ _ _ _ _ hb4
          have C2 : w4.cell? ⟨gA, 2, none⟩ = some (.int .u64 (p : Int)) := cell_of_row _ _ _ _ _ _ hb4
          clear hw4 z4 k4 hb4 hmin hhead hc0 hc1 hc2 hc3 b0 HK HV hgA
          go_cut [11, 13] (fun av cv wx => ∃ (F : Nat → Prop) (xs cs : List Nat) (cl : Bool) (A1 : Option Addr) (n1 c1 : Nat), av = .slice A1 n1 c1 ∧ cv = .bool cl ∧ KpS W wx F D b g s P xs cs cl A1 n1 c1 xs A2 n2 c2 hs ∧ (cl = true → openN (P - 4) cs xs = []) ∧ xs.length ≤ 200 * j + 200 ∧ cs.length ≤ j + 1)
          case first => as_aux_lemma =>
            by_cases x0 : x = 0
            · subst x0
              as_aux_lemma =>
                go_wp2_with fail
                refine (submit_any HK4.out.q HK4.out.good _ k v.c v.A p HV4.out hsz (by omega)).mono ?_
                rintro e w5 ⟨rfl, q5⟩
                obtain ⟨F', hk5, t5, f5⟩ := HK4.out.src q5 (HK4.out.good.sub cl ya p) (HK4.out.good.sub_more cl ya p)
                have D1 : w5.cell? ⟨gA, 1, none⟩ = some (.slice v.A k v.c) := t5.cell C1 HNF.out
                have HV5 := Lib.hid (HV4.out.turned_low t5 fun i hi e => by have := HK4.out.low i e; omega)
                have hsz5 : W.heap.size ≤ w5.heap.size := Nat.le_trans hsz t5.size
                have HKS := Lib.hid hk5
                clear q5 hk5 t5 f5 C0 C1 C2
                rcases sub_cases P cl xs cs ya p with ⟨rfl, hE, hX⟩ | ⟨rfl, hE, hX⟩ | ⟨rfl, hE, hX⟩
                · rw [hE]
                  rw [hX] at HKS
                  clear hE hX
                  go_wp2_with fail
                  go_meet
                  case rel => exact ⟨F', xs, cs, true, A1, n1, c1, rfl, rfl, HKS.out, (by have := HOP.out; simpa using this), by have := HXL.out; omega, by have := HXL.out; omega⟩
                · rw [hE]
                  rw [hX] at HKS
                  clear hE hX
                  go_wp2_with fail
                  go_meet
                  case rel => exact ⟨F', xs, cs, false, A1, n1, c1, rfl, rfl, HKS.out, (fun e => by cases e), by have := HXL.out; omega, by have := HXL.out; omega⟩
                · rw [hE]
                  rw [hX] at HKS
                  clear hE hX
                  have hn1 : n1 = xs.length := HKS.out.all.length.symm
                  have hnb : n1 + k ≤ 140737488355328 := by have := HXL.out; omega
                  clear hn1
                  go_wp2_with (at_builtin; refine wpList_append_bytes rfl _ _ 22 rfl Try.underlying22 info5 rfl HKS.out.all rfl HV5.out hnb hsz5 ?_)
                  intro A6 c6 w6 o6 gr6 hb6
                  have HK6 := Lib.hid (HKS.out.put_all o6 gr6 (by first | exact hb6 | (rcases hb6 with e | e; · exact Or.inl e; · exact Or.inr e)))
                  clear o6 gr6 hb6 D1
                  go_wp2_with fail
                  go_meet
                  case rel => exact ⟨F', xs ++ ya, cs, false, A6, n1 + k, c6, rfl, rfl, HK6.out, (fun h => by cases h), by rw [List.length_append]; have := HXL.out; have := HYL.out; omega, by have := HXL.out; omega⟩
            · by_cases x1 : x = 1
              · subst x1
                as_aux_lemma =>
                  have hcl4 : cs.length ≤ 900000 := by have := HXL.out; omega
                  go_wp2_with fail
                  refine (flush_any HK4.out.q HK4.out.good hcl4).mono ?_
                  rintro e w5 ⟨rfl, q5⟩
                  obtain ⟨F', hk5, t5, f5⟩ := HK4.out.src q5 (HK4.out.good.flush cl) (HK4.out.good.flush_more cl)
                  have HKS := Lib.hid hk5
                  clear q5 hk5 t5 f5 C0 C1 C2 hcl4
                  have hop : openN (P - 4) (flushC P cl xs cs) xs = [] ∨ cl = false := by
                    cases cl with
                    | true => exact Or.inl (by rw [flushC, if_neg (fun e => by cases e.1)]; exact HOP.out rfl)
                    | false => exact Or.inr rfl
                  have hop2 : openN (P - 4) (flushC P cl xs cs) xs = [] ∨ cl = true := by
                    cases cl with
                    | true => exact Or.inr rfl
                    | false => exact Or.inl HK4.out.good.flush_open
                  have HO1 := Lib.hid hop
                  have HO2 := Lib.hid hop2
                  clear hop hop2
                  cases cl with
                  | true =>
                    rw [show flushE true = 27 from rfl]
                    go_wp2_with fail
                    go_meet
                    case rel => exact ⟨F', xs, _, true, A1, n1, c1, rfl, rfl, HKS.out, (by have := HO1.out; simpa using this), by have := HXL.out; omega, by have := HXL.out; have := flushC_len P true xs cs; omega⟩
                  | false =>
                    rw [show flushE false = 0 from rfl]
                    go_wp2_with fail
                    go_meet
                    case rel => exact ⟨F', xs, _, false, A1, n1, c1, rfl, rfl, HKS.out, (fun e => by cases e), by have := HXL.out; omega, by have := HXL.out; have := flushC_len P false xs cs; omega⟩
              · by_cases x2 : x = 2
                · subst x2
                  as_aux_lemma =>
                    have hcl4 : cs.length ≤ 900000 := by have := HXL.out; omega
                    go_wp2_with fail
                    refine (close_any HK4.out.q HK4.out.good hcl4).mono ?_
                    rintro e w5 ⟨rfl, q5⟩
                    obtain ⟨F', hk5, t5, f5⟩ := HK4.out.src q5 (HK4.out.good.flush cl) (HK4.out.good.flush_more cl)
                    have HKS := Lib.hid hk5
                    clear q5 hk5 t5 f5 C0 C1 C2 hcl4
                    have hop : openN (P - 4) (flushC P cl xs cs) xs = [] ∨ cl = false := by
                      cases cl with
                      | true => exact Or.inl (by rw [flushC, if_neg (fun e => by cases e.1)]; exact HOP.out rfl)
                      | false => exact Or.inr rfl
                    have hop2 : openN (P - 4) (flushC P cl xs cs) xs = [] ∨ cl = true := by
                      cases cl with
                      | true => exact Or.inr rfl
                      | false => exact Or.inl HK4.out.good.flush_open
                    have HO1 := Lib.hid hop
                    have HO2 := Lib.hid hop2
                    clear hop hop2
                    cases cl with
                    | true =>
                      rw [show flushE true = 27 from rfl]
                      go_wp2_with fail
                      go_meet
                      case rel => exact ⟨F', xs, _, true, A1, n1, c1, rfl, rfl, HKS.out, (by have := HO1.out; simpa using this), by have := HXL.out; omega, by have := HXL.out; have := flushC_len P true xs cs; omega⟩
                    | false =>
                      rw [show flushE false = 0 from rfl]
                      go_wp2_with fail
                      go_meet
                      case rel => exact ⟨F', xs, _, true, A1, n1, c1, rfl, rfl, HKS.out, (by have := HO2.out; simpa using this), by have := HXL.out; omega, by have := HXL.out; have := flushC_len P false xs cs; omega⟩
                · have y0 : (x == 0) = false := beq_eq_false_iff_ne.2 x0
                  have y1 : (x == 1) = false := beq_eq_false_iff_ne.2 x1
                  have y2 : (x == 2) = false := beq_eq_false_iff_ne.2 x2
                  go_wp2_with fail
                  go_meet
                  case rel => exact ⟨F, xs, cs, cl, A1, n1, c1, rfl, rfl, HK4.out, HOP.out, by have := HXL.out; omega, by have := HXL.out; omega⟩
          case rest => as_aux_lemma =>
            obtain ⟨F, xs, cs, cl, A1, n1, c1, rfl, rfl, hk, hop, hxl, hcl⟩ := hcut
            have HK := Lib.hid hk
            have HOP := Lib.hid hop
            have HXL := Lib.hid (And.intro hxl hcl)
            have hfew := hk.good.few
            have hle := hk.le
            obtain ⟨m, hm⟩ : ∃ m, (gensN (P - 4) cs xs).length = m := ⟨_, rfl⟩
            have HM := Lib.hid hm
            have HGE : Hid (∀ w', Keep wc w' → Calls Try.prog 28 #[.pointer (some ⟨b, 0, none⟩)] w' fun e w'' => e = .returned (.int .u64 (m : Int)) ∧ w' = w'') := fun w' k => by
              obtain ⟨_, _, _, _, _, _, _, _, _, hs⟩ := hk.q
              rw [← hm]
              exact gens_any (hs.keep k) (by omega)
            have HCL : Hid (∀ w', Keep wc w' → Calls Try.prog 30 #[.pointer (some ⟨b, 0, none⟩)] w' fun e w'' => e = .returned (.bool cl) ∧ w' = w'') := fun w' k => by
              obtain ⟨_, _, _, _, _, _, _, _, _, hs⟩ := hk.q
              exact closed_any (hs.keep k)
            rw [hm] at hle hfew
            have m0 : IntKind.u64.wrap (n2 : Int) = (n2 : Int) := IntWalk.u64_in _ (by omega)
            have m1 : decide ((m : Int) < (n2 : Int)) = false := decide_eq_false (by omega)
            have m2 : ¬ ((m : Int) < (n2 : Int)) := by omega
            have z1 : (cl != cl) = false := by simp
            clear hk hop hxl hcl hm HK4 HV4 HNF C0 C1 C2
            go_wp2_with fail
            refine (HGE.out _ (Keep.refl _)).mono ?_
            rintro e w5 ⟨rfl, rfl⟩
            go_wp2_with fail
            refine (HCL.out _ (Keep.refl _)).mono ?_
            rintro e w5 ⟨rfl, rfl⟩
            go_wp2_with fail
            refine (HGE.out _ (Keep.refl _)).mono ?_
            rintro e w5 ⟨rfl, rfl⟩
            go_wp2_with fail
            obtain ⟨B0, hB0⟩ : ∃ B0, wc.heap.size = B0 := ⟨_, rfl⟩
            have hWB : W.heap.size ≤ B0 := by rw [← hB0]; exact HK.out.keep.size
            have HBF : Hid (∀ i, F i ∨ (Value.slice A1 n1 c1).ownBlock = some i → i < B0) := fun i hi => by
              rw [← hB0]
              rcases hi with hi | hi
              · exact HK.out.q.lt i hi
              · exact (HK.out.blk1 i hi).2
            have hsz0 : B0 ≤ wc.heap.size := by omega
            have HT0 : Hid (TdS wc D B0 none 0 0 ((gensN (P - 4) cs xs).take 0).flatten) := ⟨by simpa using Own.none_ wc B0 5, fun i hi => by simp [Value.ownBlock] at hi⟩
            clear m0 m1 m2 z1 hB0
            go_loopw [12, 17, 125] (fun wv tv kv wr => ∃ (i : Nat) (D : Nat → Prop) (A2 : Option Addr) (n2 c2 : Nat) (hs : List RowV) (A3 : Option Addr) (n3 c3 : Nat), i ≤ m ∧ i ≤ n2 ∧ kv = .int .u64 i ∧ wv = .slice A2 n2 c2 ∧ tv = .slice A3 n3 c3 ∧ KpS W wr F D b g s P xs cs cl A1 n1 c1 xs A2 n2 c2 hs ∧ TdS wr D B0 A3 n3 c3 ((gensN (P - 4) cs xs).take i).flatten ∧ B0 ≤ wr.heap.size) (fun _ _ kv _ => m - (intOf kv).toNat)
            case atStart => exact ⟨0, D, A2, n2, c2, hs, none, 0, 0, by omega, by omega, rfl, rfl, rfl, HK.out, HT0.out, hsz0⟩
            case round =>
              clear HK HT0 HGE HCL HN2
              obtain ⟨i, D, A2, n2, c2, hs, A3, n3, c3, hi, hin, rfl, rfl, rfl, hk, ht, hsr⟩ := hrel
              have f1 : (0 : Int) ≤ (i : Int) := Int.natCast_nonneg _
              have hn2m : n2 ≤ m := by have := hk.le; rw [HM.out] at this; exact this
              have hn3 : n3 ≤ 8200 := by have := ht.own.length; have := hk.good.told_len i; have := HXL.out; omega
              by_cases hlt : i < m
              · as_aux_lemma =>
                  have f2 : (i : Int) < (m : Int) := by omega
                  have HSY := Lib.hid (GoodS.told_syms hk.q hk.good (i := i) (by rw [HM.out]; exact hlt))
                  have HK := Lib.hid hk
                  have HT := Lib.hid ht
                  clear hk ht
                  go_wp2_with fail
                  refine HSY.out.mono ?_
                  rintro e w6 ⟨A6, n6, c6, rfl, ⟨rs6, hr6, hc6, hx6⟩, ht6, hn6, k6⟩
                  have HK6 := Lib.hid (HK.out.widen k6)
                  have HT6 := Lib.hid (HT.out.widen k6)
                  have hsz6 : B0 ≤ w6.heap.size := Nat.le_trans hsr k6.size
                  have HTK := Lib.hid (HK6.out.good.told_take HK6.out.all.2 (i := i) (by rw [HM.out]; exact hlt) (c := c6) hr6 (fun b hb => hb.2) hx6)
                  have HR6 : Hid (RowsIn w6 (fun i => D i ∨ (wr.heap.size ≤ i ∧ i < w6.heap.size)) A6 n6 rs6) := hr6.mono fun b hb => Or.inr hb
                  obtain ⟨D', hD'⟩ : ∃ D', (fun i => D i ∨ (wr.heap.size ≤ i ∧ i < w6.heap.size)) = D' := ⟨_, rfl⟩
                  rw [hD'] at HK6 HT6 HR6
                  have HX6 := Lib.hid hx6
                  clear hr6 hx6 ht6 k6 hD' HSY HK HT
                  go_wp2_with fail
                  refine HTK.out.mono ?_
                  rintro e w7 ⟨A7, n7, c7, rfl, o7, k7⟩
                  have HK7 := Lib.hid (HK6.out.later k7)
                  have HT7 := Lib.hid (HT6.out.later k7)
                  have HR7 : Hid (RowsIn w7 D' A6 n6 rs6) := HR6.out.turned (Turned.of_keep (F := fun _ => False) k7) fun _ _ e => e
                  have hsz7 : B0 ≤ w7.heap.size := Nat.le_trans hsz6 k7.size
                  have HO7 := Lib.hid o7
                  have hlen : n3 + n7 ≤ 8400 := by
                    have h1 := HK7.out.good.told_len (i + 1)
                    have h2 := told_step (M := gensN (P - 4) cs xs) (k := i) (by rw [HM.out]; exact hlt)
                    rw [← h2, List.length_append, HT7.out.own.length, o7.length] at h1
                    have := HXL.out; omega
                  have HST := Lib.hid (told_step (M := gensN (P - 4) cs xs) (k := i) (by rw [HM.out]; exact hlt))
                  clear o7 k7 HK6 HT6 HR6 HTK hsz6
                  have m0 : IntKind.u64.wrap (n2 : Int) = (n2 : Int) := IntWalk.u64_in _ (by omega)
                  have m3 : IntKind.u64.wrap ((i : Int) + 1) = (i : Int) + 1 := IntWalk.u64_in _ (by omega)
                  by_cases hin2 : i < n2
                  · as_aux_lemma =>
                      obtain ⟨gb, r, rs, rfl, hgb, hc, hr1, hr2, hr3⟩ := HK7.out.at_ hin2
                      have HSM := Lib.hid (same_told (ca := c6) (cb := r.c) HR7.out hr2 (fun b hb => (HK7.out.apart b hb).2) (fun b hb => (HK7.out.apart b hb).2) hn6 (HX6.out.trans hr3.symm))
                      have d1 : (i : Int) < (n2 : Int) := by omega
                      have d2 : ¬ ((n2 : Int) ≤ (i : Int)) := by omega
                      have d3 : decide ((n2 : Int) ≤ (i : Int)) = false := decide_eq_false d2
                      have d4 : decide ((i : Int) < (n2 : Int)) = true := decide_eq_true d1
                      clear hr1 hr2 hr3 HR7 HX6
                      go_wp2_with fail
                      refine HSM.out.mono ?_
                      rintro e w8 ⟨rfl, q8, rfl⟩
                      have k8 : Keep w7 (w7.drewN q8) := (Keep.refl w7).drewN q8
                      have HK8 := Lib.hid (HK7.out.later k8)
                      have HT8 := Lib.hid (HT7.out.later k8)
                      have HO8 := Lib.hid (HO7.out.keep k8).bytes
                      have hsz8 : B0 ≤ (w7.drewN q8).heap.size := Nat.le_trans hsz7 k8.size
                      clear HK7 HT7 HO7 HSM hsz7 hc hgb k8
                      generalize w7.drewN q8 = w8 at *
                      go_wp2_with (at_builtin; refine wpList_append_bytes rfl _ _ 22 rfl Try.underlying22 info5 rfl HT8.out.own rfl HO8.out (by omega) hsz8 ?_)
                      intro A9 c9 w9 o9 gr9 hb9
                      have HK9 := Lib.hid (HK8.out.told HT8.out hWB HBF.out gr9)
                      have HT9 := Lib.hid (HT8.out.more (fun i hi => (HK8.out.apart i hi).2) o9 hb9)
                      have hst := HST.out
                      try simp only [List.getD_eq_getElem?_getD] at hst
                      rw [hst] at HT9
                      clear hst
                      have hsz9 : B0 ≤ w9.heap.size := Nat.le_trans hsz8 gr9.size
                      clear o9 gr9 hb9
                      go_wp2_with fail
                      go_roundw
                      case rel => exact ⟨i + 1, D', some ⟨gb, 0, none⟩, n2, c2, hs, A9, n3 + n7, c9, by omega, by omega, by go_num, rfl, rfl, HK9.out, HT9.out, hsz9⟩
                      case measure => simp [intOf]; omega
                  · as_aux_lemma =>
                      obtain rfl : i = n2 := by omega
                      have d1 : ¬ ((i : Int) < (i : Int)) := by omega
                      have d2 : (i : Int) ≤ (i : Int) := by omega
                      clear hin2
                      have HKA := fun o => Lib.hid (HK7.out.later ((Keep.refl w7).ob o))
                      go_wp2_with (at_builtin; refine wpList_append_row rfl _ _ 72 rfl ⟨A6, n6, c6, []⟩ Try.underlying72 infoRows rfl (HK7.out.was.alloc _) rfl (by rw [World.cell?_alloc_at _ _ _ _ (by simp)]; rfl) (by omega) (by have := HK7.out.keep.size; simp; omega) ?_)
                      intro A8 c8 w8 o8 gr8 hb8
                      have HL := HKA (.cells #[.slice A6 n6 c6] 49)
                      have kl : Keep w7 (w7.alloc (.cells #[.slice A6 n6 c6] 49)) := (Keep.refl w7).ob _
                      have HK8 := Lib.hid (HL.out.put_was (r := ⟨A6, n6, c6, []⟩) (rs := rs6) o8 gr8 (hb8.imp id fun e => e.trans (by simp)) (by rw [HM.out]; omega) hn6 hc6 (HR7.out.turned (Turned.of_keep (F := fun _ => False) kl) fun _ _ e => e) HX6.out)
                      have HT8 := Lib.hid ((HT7.out.later kl).was HL.out.was gr8)
                      have HO8 := Lib.hid ((HO7.out.keep kl).grown gr8 (blocks_apart (HO7.out.keep kl) HL.out.was (by decide))).bytes
                      have hsz8 : B0 ≤ w8.heap.size := Nat.le_trans (Nat.le_trans hsz7 kl.size) gr8.size
                      clear HK7 HT7 HO7 HL hsz7 o8 gr8 hb8 kl HKA HR7 HX6
                      go_wp2_with (at_builtin; refine wpList_append_bytes rfl _ _ 22 rfl Try.underlying22 info5 rfl HT8.out.own rfl HO8.out (by omega) hsz8 ?_)
                      intro A9 c9 w9 o9 gr9 hb9
                      have HK9 := Lib.hid (HK8.out.told HT8.out hWB HBF.out gr9)
                      have HT9 := Lib.hid (HT8.out.more (fun i hi => (HK8.out.apart i hi).2) o9 hb9)
                      have hst := HST.out
                      try simp only [List.getD_eq_getElem?_getD] at hst
                      rw [hst] at HT9
                      have hsz9 : B0 ≤ w9.heap.size := Nat.le_trans hsz8 gr9.size
                      clear o9 gr9 hb9 hst
                      go_wp2_with fail
                      go_roundw
                      case rel => exact ⟨i + 1, D', A8, i + 1, c8, _, A9, n3 + n7, c9, by omega, by omega, by go_num, by go_num, rfl, HK9.out, HT9.out, hsz9⟩
                      case measure => simp [intOf]; omega
              · as_aux_lemma =>
                  obtain rfl : i = m := by omega
                  obtain rfl : i = n2 := by omega
                  have f2 : ¬ ((i : Int) < (i : Int)) := by omega
                  have hall : ((gensN (P - 4) cs xs).take i).flatten = (gensN (P - 4) cs xs).flatten := by rw [← HM.out, List.take_length]
                  rw [hall] at ht
                  have htl := hk.good.told
                  have hl3 := ht.own.length
                  have hl1 := hk.all.length
                  have hln : n3 ≤ n1 := by have := hk.good.told_len i; rw [hall] at this; omega
                  have HP := Lib.hid (prefix_true _ _ n1 n3 c1 c3 A1 A3 xs _ wr hk.all.bytes ht.own.bytes hln (own_le' hk.all) (by rw [← hl3]; exact htl.1))
                  have HST := Lib.hid (stream_any hk.q (by have := HXL.out; omega))
                  have hend : cl = true → n3 = n1 := fun e => by rw [← hl3, ← hl1]; exact htl.2 (HOP.out e)
                  have HEND := Lib.hid hend
                  have HK := Lib.hid hk
                  clear hk ht htl hl3 hl1 hall hend
                  go_wp2_with fail
                  refine HP.out.mono ?_
                  rintro e w6 ⟨rfl, rfl⟩
                  go_wp2_with fail
                  refine HST.out.mono ?_
                  rintro e w6 ⟨A6, n6, c6, rfl, o6, k6⟩
                  have HK6 := Lib.hid (HK.out.later k6)
                  have HEQ := Lib.hid (equal_true _ _ n6 n1 c6 c1 A6 A1 xs w6 o6.bytes HK6.out.all.bytes)
                  clear o6 k6 HK HP HST
                  go_wp2_with fail
                  refine HEQ.out.mono ?_
                  rintro e w7 ⟨rfl, rfl⟩
                  clear HEQ
                  cases cl with
                  | true =>
                    obtain rfl : n3 = n1 := by have := HEND.out; simpa using this
                    have z2 : ((n3 : Int) != (n3 : Int)) = false := by simp
                    clear HEND
                    go_wp2_with fail
                    go_roundw
                    case rel => exact ⟨j + 1, F, D, xs, cs, true, A1, n3, c1, A2, i, c2, hs, by omega, by omega, by go_num, rfl, rfl, rfl, HK6.out, HM.out.symm, (by have := HOP.out; simpa using this), by have := HXL.out; omega, by have := HXL.out; omega⟩
                    case measure => simp [intOf]; omega
                  | false =>
                    clear HEND
                    go_wp2_with fail
                    go_roundw
                    case rel => exact ⟨j + 1, F, D, xs, cs, false, A1, n1, c1, A2, i, c2, hs, by omega, by omega, by go_num, rfl, rfl, rfl, HK6.out, HM.out.symm, (fun e => by cases e), by have := HXL.out; omega, by have := HXL.out; omega⟩
                    case measure => simp [intOf]; omega
      · obtain rfl : n = j := by omega
        have HK := Lib.hid hk
        clear hk
        go_wp2_with fail
        go_meet
        case rel => exact ⟨F, D, xs, cs, cl, A1, n1, c1, A2, n2, c2, hs, rfl, rfl, rfl, HK.out, HN2.out, HOP.out, by have := HXL.out; omega, by have := HXL.out; omega⟩
  case rest =>
    obtain ⟨F, D, xs, cs, cl, A1, n1, c1, A2, n2, c2, hs, rfl, rfl, rfl, hk, hn2, hop, hxl, hcl⟩ := hcut
    have HK := Lib.hid hk
    have HST := Lib.hid (stream_any hk.q (by omega))
    have HOP := Lib.hid hop
    have HN2 := Lib.hid hn2
    have hfew := hk.good.few
    rw [← hn2] at hfew
    have HXL := Lib.hid (And.intro hxl hcl)
    clear hk hop hn2 hxl hcl
    go_wp2_with fail
    refine HST.out.mono ?_
    rintro e w4 ⟨A4, n4, c4, rfl, o4, k4⟩
    have HK4 := Lib.hid (HK.out.later k4)
    have HO4 := Lib.hid o4
    have HCU := Lib.hid (cuts_any HK4.out.q (by have := HXL.out; omega))
    clear o4 k4 HK HST
    go_wp2_with fail
    refine HCU.out.mono ?_
    rintro e w5 ⟨A5, n5, c5, rfl, o5, k5⟩
    have HK5 := Lib.hid (HK4.out.later k5)
    have HO5 := Lib.hid (HO4.out.keep k5)
    have HU5 := Lib.hid o5
    have HCL : Hid (∀ w', Keep w5 w' → Calls Try.prog 30 #[.pointer (some ⟨b, 0, none⟩)] w' fun e w'' => e = .returned (.bool cl) ∧ w' = w'') := fun w' k => by
      obtain ⟨_, _, _, _, _, _, _, _, _, hs⟩ := HK5.out.q
      exact closed_any (hs.keep k)
    have HGE : Hid (∀ w', Keep w5 w' → Calls Try.prog 28 #[.pointer (some ⟨b, 0, none⟩)] w' fun e w'' => e = .returned (.int .u64 (n2 : Int)) ∧ w' = w'') := fun w' k => by
      obtain ⟨_, _, _, _, _, _, _, _, _, hs⟩ := HK5.out.q
      rw [HN2.out]
      exact gens_any (hs.keep k) (by rw [← HN2.out]; omega)
    have HRE := Lib.hid (HK5.out.good.restored (cl := cl) (c' := c5) HOP.out HO5.out.bytes (own_le' HO5.out) HU5.out.nats (by have := HXL.out; omega) (by have := HXL.out; omega))
    clear o5 k5 HK4 HO4 HCU
    go_wp2_with fail
    refine (HCL.out _ (Keep.refl _)).mono ?_
    rintro e w6 ⟨rfl, rfl⟩
    go_wp2_with fail
    refine HRE.out.mono ?_
    rintro e w6 ⟨d, E, rfl, q6, f6, k6⟩
    have HK6 := Lib.hid (HK5.out.later k6)
    have K6 := Lib.hid k6
    have HQ6 := Lib.hid q6
    have HCZ : Hid (∀ w', Keep w6 w' → Calls Try.prog 30 #[.pointer (some ⟨d, 0, none⟩)] w' fun e w'' => e = .returned (.bool cl) ∧ w' = w'') := fun w' k => by
      obtain ⟨_, _, _, _, _, _, _, _, _, hs⟩ := HQ6.out
      exact closed_any (hs.keep k)
    have HGZ : Hid (∀ w', Keep w6 w' → Calls Try.prog 28 #[.pointer (some ⟨d, 0, none⟩)] w' fun e w'' => e = .returned (.int .u64 (n2 : Int)) ∧ w' = w'') := fun w' k => by
      obtain ⟨_, _, _, _, _, _, _, _, _, hs⟩ := HQ6.out
      rw [HN2.out]
      exact gens_any (hs.keep k) (by rw [← HN2.out]; omega)
    clear q6 f6 k6 HRE HK5 HO5 HU5
    have z1 : (cl != cl) = false := by simp
    have z2 : ((n2 : Int) != (n2 : Int)) = false := by simp
    go_wp2_with fail
    refine (HGZ.out _ (Keep.refl _)).mono ?_
    rintro e w7 ⟨rfl, rfl⟩
    go_wp2_with fail
    refine (HGE.out _ K6.out).mono ?_
    rintro e w7 ⟨rfl, rfl⟩
    go_wp2_with fail
    refine (HCZ.out _ (Keep.refl _)).mono ?_
    rintro e w7 ⟨rfl, rfl⟩
    go_wp2_with fail
    refine (HCL.out _ K6.out).mono ?_
    rintro e w7 ⟨rfl, rfl⟩
    clear HGZ HGE HCZ HCL
    go_wp2_with fail
    go_loopw [228] (fun iv wr => ∃ i : Nat, i ≤ n2 ∧ iv = .int .i64 i ∧ Keep w6 wr) (fun iv _ => n2 - (intOf iv).toNat)
    case atStart => exact ⟨0, by omega, rfl, Keep.refl _⟩
    case round =>
      obtain ⟨i, hi, rfl, hkr⟩ := hrel
      have f1 : (0 : Int) ≤ (i : Int) := Int.natCast_nonneg _
      have HKR := Lib.hid hkr
      clear hkr
      by_cases hlt : i < n2
      · have f2 : (i : Int) < (n2 : Int) := by omega
        have m0 : IntKind.u64.wrap (i : Int) = (i : Int) := IntWalk.u64_in _ (by omega)
        have HSY := Lib.hid (GoodS.told_syms (HQ6.out.keep HKR.out) HK6.out.good (i := i) (by rw [← HN2.out]; exact hlt))
        go_wp2_with fail
        refine HSY.out.mono ?_
        rintro e w8 ⟨A8, n8, c8, rfl, ⟨rs8, hr8, hc8, hx8⟩, ht8, hn8, k8⟩
        have HK8 := HK6.out.later (HKR.out.trans k8)
        obtain ⟨gb, r, rs, rfl, hgb, hc, hr1, hr2, hr3⟩ := HK8.at_ hlt
        have HSM := Lib.hid (same_told (ca := c8) (cb := r.c) hr8 hr2 (fun b hb => hb.2) (fun b hb => (HK8.apart b hb).2) hn8 (hx8.trans hr3.symm))
        have K8 := Lib.hid (HKR.out.trans k8)
        clear hr8 hx8 ht8 hr1 hr2 hr3 k8 HK8 HSY
        go_wp2_with fail
        refine HSM.out.mono ?_
        rintro e w9 ⟨rfl, q9, rfl⟩
        have K9 := Lib.hid (K8.out.drewN q9)
        generalize w8.drewN q9 = w9 at *
        go_wp2_with fail
        go_roundw
        case rel => exact ⟨i + 1, by omega, by go_num, K9.out⟩
        case measure => simp [intOf]; omega
      · obtain rfl : i = n2 := by omega
        have f2 : ¬ ((i : Int) < (i : Int)) := by omega
        have KW := Lib.hid (HK6.out.keep.trans HKR.out)
        go_wp2_with fail
        go_ret
        exact ⟨rfl, KW.out⟩
end Go.Proofs.Ytcafofffgmaepaa
