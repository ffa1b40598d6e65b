/- The walk of BasisForm. -/
import Derived.Test.YticllkklbogcnaaBset
import Derived.Test.YticllkklbogcnaaBfp
import Derived.Test.YticllkklbogcnaaVA
set_option linter.unusedVariables false
set_option linter.unusedSimpArgs false
namespace Go.Proofs.Yticllkklbogcnaa
open Go.RowKit
set_option maxRecDepth 100000 in
set_option maxHeartbeats 8000000 in
theorem bform_any (G S n1 c1 n2 c2 n3 c3 : Nat) (A1 A2 A3 : Option Addr) (rs1 rs2 : List RowV) (w : World) (h1 : RowsAt w w.heap.size A1 n1 rs1) (h2 : RowsAt w w.heap.size A2 n2 rs2) (m1 : n1 ≤ 140737488351232) (m2 : n2 ≤ 140737488351232) (hG : G < 256) (hS : S < 256) :
    Calls Try.prog 6 #[.agg #[.int .u8 (G : Int), .int .u8 (S : Int), .slice A1 n1 c1, .slice A2 n2 c2, .slice A3 n3 c3]] w fun e w' => e = .returned (.bool true) ∧ Keep w w' := by
  obtain ⟨g, hg⟩ : ∃ g, 1 + G % 10 = g := ⟨_, rfl⟩
  obtain ⟨s, hs⟩ : ∃ s, 1 + S % 10 = s := ⟨_, rfl⟩
  obtain ⟨M, hM⟩ : ∃ M, symM (rowsOf rs1) s g = M := ⟨_, rfl⟩
  have H := Lib.hid (And.intro h1 (And.intro h2 (And.intro hg (And.intro hs hM))))
  have hall : ∀ {rs : List RowV} {A : Option Addr} {n : Nat}, RowsAt w w.heap.size A n rs → ∀ x ∈ rowsOf rs, AllB x := fun {rs A n} h x hx => by
    obtain ⟨r, hr, rfl⟩ := List.mem_map.1 hx
    exact (h.2.1 r hr).1.all
  have HA := Lib.hid (And.intro (hall h1) (hall h2))
  clear h1 h2 hg hs hM hall
  go_enter Try.func6, Try.ntmps6
  go_wp2_with fail
  have kbx : Keep w (w.alloc (.cells #[.int .u8 (G : Int), .int .u8 (S : Int), .slice A1 n1 c1, .slice A2 n2 c2, .slice A3 n3 c3] 60)) := (Keep.refl w).alloc _ _
  have h1b := (H.out.1.keep (Nat.le_refl _) kbx)
  have h2b := (H.out.2.1.keep (Nat.le_refl _) kbx)
  have hup : ∀ {A : Option Addr} {n : Nat} {rs : List RowV}, RowsAt (w.alloc (.cells #[.int .u8 (G : Int), .int .u8 (S : Int), .slice A1 n1 c1, .slice A2 n2 c2, .slice A3 n3 c3] 60)) w.heap.size A n rs → RowsAt (w.alloc (.cells #[.int .u8 (G : Int), .int .u8 (S : Int), .slice A1 n1 c1, .slice A2 n2 c2, .slice A3 n3 c3] 60)) (w.alloc (.cells #[.int .u8 (G : Int), .int .u8 (S : Int), .slice A1 n1 c1, .slice A2 n2 c2, .slice A3 n3 c3] 60)).heap.size A n rs := fun {A n rs} h => ⟨h.1, fun r hr => ⟨(h.2.1 r hr).1.mono kbx.size, (h.2.1 r hr).2⟩, fun hp => by
    obtain ⟨b, off, e, hb, hc⟩ := h.2.2 hp
    exact ⟨b, off, e, Nat.lt_of_lt_of_le hb kbx.size, hc⟩⟩
  refine (laid_any G S n1 c1 n2 c2 n3 c3 A1 A2 A3 rs1 rs2 _ (hup h1b) (hup h2b) m1 m2 hG hS g s H.out.2.2.1 H.out.2.2.2.1 M H.out.2.2.2.2).mono ?_
  rintro e w1 ⟨As, cs, rss, Ar, k, cr, ps, rfl, sy1, sx1, st1, px1, pn1, k1, kcr⟩
  have K1 := Lib.hid (kbx.trans k1)
  have KN : Hid (Known g s M rss ps) := known_of H.out.2.2.1 H.out.2.2.2.1 HA.out.1 HA.out.2 H.out.2.2.2.2 sx1 (fun r hr => (sy1.2.1 r hr).1) px1 pn1
  have S1 : Hid (Setup w1.heap.size w1 g s M As rss Ar k ps) := ⟨sy1.mono fun b hb => hb.2, st1.mono fun b hb => hb.2, Nat.le_refl _⟩
  have HKL : Hid (ps.length = k) := st1.1
  have KCR := Lib.hid kcr
  clear kbx h1b h2b hup sy1 sx1 st1 px1 pn1 k1 kcr H HA
  obtain ⟨N, hN⟩ : ∃ N, w1.heap.size = N := ⟨_, rfl⟩
  rw [hN] at S1
  have HN := Lib.hid hN
  clear hN
  have q1 := KN.out.g1
  have q2 := KN.out.g2
  have q3 := KN.out.s1
  have q4 := KN.out.s2
  have q5 : k ≤ 40 := by have := KN.out.len; have := HKL.out; omega
  go_wp2_with fail
  refine (bnew_in g s q1 (by omega) q3 (by omega) _).mono ?_
  rintro e w2 ⟨b, F, rfl, r2, f2, k2⟩
  have R2 := Lib.hid r2
  have F2 : Hid (∀ k, F k → N ≤ k) := fun k hk => by rw [← HN.out]; exact f2 k hk
  have S2 := Lib.hid (S1.out.keep k2)
  have K2 := Lib.hid (K1.out.trans k2)
  clear r2 f2 k2 S1
  go_wp2_with fail
  refine (awake_any _).mono ?_
  rintro e w3 ⟨rfl, k3⟩
  have R3 := Lib.hid (R2.out.keep k3)
  have S3 := Lib.hid (S2.out.keep k3)
  have K3 := Lib.hid (K2.out.trans k3)
  clear k3 R2 S2 K2
  obtain ⟨W, hW⟩ : ∃ W, ps.map PairV.xs = W := ⟨_, rfl⟩
  have HW : Hid (W.length = k ∧ SymRows g s M W ∧ ∀ (j : Nat) (p : PairV), ps[j]? = some p → W.getD j [] = p.a.xs ++ p.b.xs) := by
    rw [← hW]
    exact ⟨by rw [List.length_map]; exact HKL.out, KN.out.sym, fun j p hp => Known.at_ (g := g) (s := s) (M := M) (rss := rss) hp⟩
  clear hW
  go_wp2_with fail
  go_loopw [45] (fun iv wr => ∃ (j : Nat) (F : Nat → Prop), j ≤ k ∧ iv = .int .i64 j ∧ BasR wr F b g s (basK g s W j) ∧ (∀ x, F x → N ≤ x) ∧ Setup N wr g s M As rss Ar k ps ∧ Keep w wr) (fun iv _ => k - (intOf iv).toNat)
  case atStart => exact ⟨0, F, by omega, rfl, R3.out, F2.out, S3.out, K3.out⟩
  case round =>
    clear R3 F2 S3 K3
    obtain ⟨j, F, hj, rfl, hR, hF, hS, hK⟩ := hrel
    have HR := Lib.hid hR
    have HF := Lib.hid hF
    have HS := Lib.hid hS
    have HK := Lib.hid hK
    clear hR hF hK
    by_cases hlt : j < k
    · obtain ⟨b0, off, p, rfl, hb0, hp, ca, cb, la, lb⟩ := hS.rows.at_ hlt
      have hkp := KN.out.rows p (List.mem_of_getElem? hp)
      have hsu := basK_succ (g := g) (s := s) (rows := W) (k := j) (by rw [HW.out.1]; exact hlt)
      rw [HW.out.2.2 j p hp] at hsu
      have HCP : Hid (g ≤ p.a.c ∧ s ≤ p.b.c) := ⟨by have h1 := la.2.2.1; have h2 := hkp.1; omega, by have h1 := lb.2.2.1; have h2 := hkp.2.1; omega⟩
      have B1 : Hid (Bytes wr wr.heap.size p.a.A g p.a.xs) := by
        have := la.bytes (B := wr.heap.size) fun x hx => Nat.lt_of_lt_of_le hx hS.le
        rw [hkp.1] at this; exact this
      have B2 : Hid (Bytes wr wr.heap.size p.b.A s p.b.xs) := by
        have := lb.bytes (B := wr.heap.size) fun x hx => Nat.lt_of_lt_of_le hx hS.le
        rw [hkp.2.1] at this; exact this
      rw [hkp.1] at ca
      rw [hkp.2.1] at cb
      have e1 : (0 : Int) ≤ (j : Int) := Int.natCast_nonneg _
      have e2 : (j : Int) < (k : Int) := by omega
      have ka : Keep wr (wr.alloc (.cells #[.slice p.a.A g p.a.c, .slice p.b.A s p.b.c] 33)) := (Keep.refl wr).alloc _ _
      have KA := Lib.hid ka
      have HSU := Lib.hid hsu
      clear hS hp hkp hsu la lb ka hb0
      go_wp2_with fail
      refine (binsert_in (HR.out.keep KA.out) _ _ p.a.c p.b.c p.a.A p.b.A p.a.xs p.b.xs HCP.out.1 HCP.out.2 (B1.out.keep (Nat.le_refl _) KA.out) (B2.out.keep (Nat.le_refl _) KA.out) KA.out.size KA.out.size).mono ?_
      rw [← HSU.out]
      rintro e w4 ⟨rfl, F4, r4, f4, t4⟩
      have R4 := Lib.hid r4
      have F4' : Hid (∀ x, F4 x → N ≤ x) := fun x hx => by
        rcases f4 x hx with h | h
        · exact HF.out x h
        · have := HS.out.le; have := KA.out.size; omega
      have S4 := Lib.hid ((HS.out.keep KA.out).turned t4 fun x hx => HF.out x hx)
      have K4 : Hid (Keep w w4) := t4.keep (HK.out.trans KA.out) fun x hx => Nat.le_trans (by rw [← HN.out]; exact K1.out.size) (HF.out x hx)
      clear r4 f4 t4 HR HF HS HK ca cb KA B1 B2 HSU
      go_wp2_with fail
      go_roundw
      case rel => exact ⟨j + 1, F4, by omega, by go_num, R4.out, F4'.out, S4.out, K4.out⟩
      case measure => simp [intOf]; omega
    · obtain rfl : j = k := by omega
      have hb := basK_sym HW.out.2.1 j (by rw [HW.out.1]; exact Nat.le_refl _)
      obtain ⟨B, hB⟩ : ∃ B, basK g s W j = B := ⟨_, rfl⟩
      rw [hB] at hb
      rw [List.take_of_length_le (by rw [HW.out.1]; exact Nat.le_refl _)] at hb
      obtain ⟨L, hL, hL2⟩ := form_of hb.1
      have HB := Lib.hid hb
      have HL := Lib.hid (And.intro hL hL2)
      have RB : Hid (BasR wr F b g s B) := by rw [← hB]; exact HR.out
      clear hb hB hL hL2 HR hS
      go_wp2_with fail
      refine (brows_any RB.out).mono ?_
      rintro e w5 ⟨A5, m, c5, qs, rfl, o5⟩
      have O5 := Lib.hid o5
      have hm : m = B.length := by
        have h1 := o5.1.length
        have h2 := congrArg List.length o5.2.2.1
        rw [List.length_map] at h2
        omega
      have HM : Hid (m = B.length) := hm
      have HMG : m ≤ 10 := by have := HB.out.1.length_le; omega
      have R5 := Lib.hid (RB.out.keep o5.2.2.2)
      have S5 := Lib.hid (HS.out.keep o5.2.2.2)
      have K5 := Lib.hid (HK.out.trans o5.2.2.2)
      have HQ : Hid (∀ (i : Nat) (q : PairV), qs[i]? = some q → q.a.n = g ∧ q.b.n = s ∧ q.a.xs = (B.map (List.take g)).getD i []) := fun i q hq => by
        have hm := List.mem_of_getElem? hq
        have h1 := O5.out.2.1 q hm
        refine ⟨h1.2.2.1, h1.2.2.2, ?_⟩
        have h2 : (qs.map PairV.xs)[i]? = some q.xs := by rw [List.getElem?_map, hq]; rfl
        rw [O5.out.2.2.1] at h2
        rw [List.getD_eq_getElem?_getD, List.getElem?_map, h2]
        show q.a.xs = (q.a.xs ++ q.b.xs).take g
        rw [← h1.2.2.1, ← h1.1.length, List.take_left']
        rfl
      have T5 : Hid (StIn w5 (fun x => wr.heap.size ≤ x ∧ x < w5.heap.size) A5 m qs) := o5.stIn
      clear o5 hm O5 RB HS HK HF
      go_wp2_with fail
      go_loopw [57] (fun iv wr => ∃ (i : Nat), i ≤ m ∧ iv = .int .i64 i ∧ Keep w5 wr) (fun iv _ => m - (intOf iv).toNat)
      case atStart => exact ⟨0, by omega, rfl, Keep.refl _⟩
      case round =>
        obtain ⟨i, hi, rfl, hk⟩ := hrel
        have HK := Lib.hid hk
        by_cases hlt3 : i < m
        · obtain ⟨b1, o1, q, rfl, hb1, hq, ca, cb, la, lb⟩ := (T5.out.keep hk).at_ hlt3
          have hqq := HQ.out i q hq
          obtain ⟨li, hli⟩ : ∃ li, L i = li := ⟨_, rfl⟩
          have hg1 : li < g := by rw [← hli]; exact HL.out.1.lt i (by have := HM.out; omega)
          have hle : vLead g q.a.xs = (li : Int) := by rw [hqq.2.2, ← hli]; exact HL.out.1.lead i (by have := HM.out; omega)
          have hone : q.a.xs.getD li 0 = 1 := by rw [hqq.2.2, ← hli]; exact HL.out.1.one i (by have := HM.out; omega)
          have hby := la.bytes (B := wr.heap.size) fun x hx => Nat.lt_of_lt_of_le hx.2 hk.size
          rw [hqq.1] at hby ca
          rw [hqq.2.1] at cb
          obtain ⟨b2, o2, hA2, hb2, cx⟩ := hby.at_ hg1
          rw [hone] at cx
          rw [hA2] at hby ca
          have ka : Keep wr (wr.alloc (.cells #[.slice (some ⟨b2, o2, none⟩) g q.a.c, .slice q.b.A s q.b.c] 33)) := (Keep.refl wr).alloc _ _
          have C0 := Lib.hid (vlead_eq _ g q.a.c _ q.a.xs _ (hby.keep (Nat.le_refl _) ka) (by omega))
          rw [hle] at C0
          have cx2 := (ka.cell (p := ⟨b2, o2 + li, none⟩) hb2).trans cx
          have e1 : (0 : Int) ≤ (i : Int) := Int.natCast_nonneg _
          have e2 : (i : Int) < (m : Int) := by omega
          have e3 : (0 : Int) ≤ (li : Int) := Int.natCast_nonneg _
          have e4 : (li : Int) < (g : Int) := by omega
          have KA := Lib.hid ka
          have HLI := Lib.hid hli
          clear hk hq hqq hle hone la lb ka hb1 hli cx hby
          by_cases hz : i = 0
          · have d3 : ¬ (0 : Int) < (i : Int) := by omega
            have d7 : ¬ 0 < i := by omega
            clear hz
            go_wp2_with fail
            refine C0.out.mono ?_
            rintro e w6 ⟨rfl, rfl⟩
            go_wp2_with fail
            obtain ⟨wo, rfl⟩ : ∃ wo, wo = wr := ⟨_, rfl⟩
            go_loopw [88] (fun iv wr => ∃ (x : Nat), x ≤ m ∧ iv = .int .i64 x ∧ Keep w5 wr) (fun iv _ => m - (intOf iv).toNat)
            case atStart => exact ⟨0, by omega, rfl, HK.out.trans KA.out⟩
            case round =>
              clear ca cb cx2 KA C0 HK
              obtain ⟨x, hx, rfl, hk⟩ := hrel
              have HK := Lib.hid hk
              by_cases hlt4 : x < m
              · obtain ⟨b1', o1', y, hA', _, hy, cc, cd, lc, _⟩ := (T5.out.keep hk).at_ hlt4
                cases hA'
                have hqq := HQ.out x y hy
                have hby := lc.bytes (B := wr.heap.size) fun z hz => Nat.lt_of_lt_of_le hz.2 hk.size
                rw [hqq.1] at hby cc
                rw [hqq.2.1] at cd
                obtain ⟨b3, o3, hA3, hb3, cy⟩ := hby.at_ hg1
                rw [hA3] at cc
                have ka : Keep wr (wr.alloc (.cells #[.slice (some ⟨b3, o3, none⟩) g y.a.c, .slice y.b.A s y.b.c] 33)) := (Keep.refl wr).alloc _ _
                have cy2 := (ka.cell (p := ⟨b3, o3 + li, none⟩) hb3).trans cy
                have KA := Lib.hid ka
                have f1 : (0 : Int) ≤ (x : Int) := Int.natCast_nonneg _
                have f2 : (x : Int) < (m : Int) := by omega
                by_cases he : x = i
                · have f3 : ((x : Int) != (i : Int)) = false := by rw [he]; simp
                  clear hk hy hqq hby lc ka cy he
                  go_wp2_with fail
                  go_roundw
                  case rel => exact ⟨x + 1, by omega, by go_num, HK.out.trans KA.out⟩
                  case measure => simp [intOf]; omega
                · have f3 : ((x : Int) != (i : Int)) = true := by simp; omega
                  rw [hqq.2.2, ← HLI.out, HL.out.1.zero i x (by have := HM.out; omega) (by have := HM.out; omega) he, HLI.out] at cy2
                  clear hk hy hqq hby lc ka cy he
                  go_wp2_with fail
                  go_roundw
                  case rel => exact ⟨x + 1, by omega, by go_num, HK.out.trans KA.out⟩
                  case measure => simp [intOf]; omega
              · obtain rfl : x = m := by omega
                go_wp2_with fail
                go_roundw
                case rel => exact ⟨i + 1, by omega, by go_num, HK.out⟩
                case measure => simp [intOf]; omega
          · obtain ⟨i1, hi1⟩ : ∃ i1, i = i1 + 1 := ⟨i - 1, by omega⟩
            obtain ⟨b1', o1', q1, hA', _, hq1, cc, _, lc, _⟩ := (T5.out.keep HK.out).at_ (show i1 < m by omega)
            cases hA'
            have hqq := HQ.out i1 q1 hq1
            obtain ⟨l1, hl1⟩ : ∃ l1, L i1 = l1 := ⟨_, rfl⟩
            have hle : vLead g q1.a.xs = (l1 : Int) := by rw [hqq.2.2, ← hl1]; exact HL.out.1.lead i1 (by have := HM.out; omega)
            have hll : l1 < li := by rw [← hl1, ← HLI.out, hi1]; exact HL.out.1.inc i1 (by have := HM.out; omega)
            have hby := lc.bytes (B := wr.heap.size) fun x hx => Nat.lt_of_lt_of_le hx.2 HK.out.size
            rw [hqq.1] at hby cc
            have C1 := Lib.hid (vlead_eq _ g q1.a.c _ q1.a.xs _ (hby.keep (Nat.le_refl _) KA.out) (by omega))
            rw [hle] at C1
            have hb1 := World.block_lt_of_cell? wr _ cc
            have ca2 := (KA.out.cell (p := ⟨b1, o1 + i1 * 2, none⟩) hb1).trans cc
            have d1 : (i : Int) - 1 = (i1 : Int) := by omega
            have d2 : IntKind.i64.wrap (i1 : Int) = (i1 : Int) := IntWalk.i64_in _ (by omega)
            have d3 : (0 : Int) < (i : Int) := by omega
            have d4 : (0 : Int) ≤ (i1 : Int) := Int.natCast_nonneg _
            have d5 : (i1 : Int) < (m : Int) := by omega
            have d6 : ¬ (li : Int) ≤ (l1 : Int) := by omega
            have d7 : 0 < i := by omega
            have d8 : ¬ li ≤ l1 := by omega
            clear hqq hle hby hl1 hz hi1 lc hb1 hq1
            go_wp2_with fail
            refine C0.out.mono ?_
            rintro e w6 ⟨rfl, rfl⟩
            go_wp2_with fail
            refine C1.out.mono ?_
            rintro e w6 ⟨rfl, rfl⟩
            clear C1 ca2 cc d1 d2 d4 d5
            go_wp2_with fail
            clear d6 d7 d8 hll
            obtain ⟨wo, rfl⟩ : ∃ wo, wo = wr := ⟨_, rfl⟩
            go_loopw [88] (fun iv wr => ∃ (x : Nat), x ≤ m ∧ iv = .int .i64 x ∧ Keep w5 wr) (fun iv _ => m - (intOf iv).toNat)
            case atStart => exact ⟨0, by omega, rfl, HK.out.trans KA.out⟩
            case round =>
              clear ca cb cx2 KA C0 HK
              obtain ⟨x, hx, rfl, hk⟩ := hrel
              have HK := Lib.hid hk
              by_cases hlt4 : x < m
              · obtain ⟨b1', o1', y, hA', _, hy, cc, cd, lc, _⟩ := (T5.out.keep hk).at_ hlt4
                cases hA'
                have hqq := HQ.out x y hy
                have hby := lc.bytes (B := wr.heap.size) fun z hz => Nat.lt_of_lt_of_le hz.2 hk.size
                rw [hqq.1] at hby cc
                rw [hqq.2.1] at cd
                obtain ⟨b3, o3, hA3, hb3, cy⟩ := hby.at_ hg1
                rw [hA3] at cc
                have ka : Keep wr (wr.alloc (.cells #[.slice (some ⟨b3, o3, none⟩) g y.a.c, .slice y.b.A s y.b.c] 33)) := (Keep.refl wr).alloc _ _
                have cy2 := (ka.cell (p := ⟨b3, o3 + li, none⟩) hb3).trans cy
                have KA := Lib.hid ka
                have f1 : (0 : Int) ≤ (x : Int) := Int.natCast_nonneg _
                have f2 : (x : Int) < (m : Int) := by omega
                by_cases he : x = i
                · have f3 : ((x : Int) != (i : Int)) = false := by rw [he]; simp
                  clear hk hy hqq hby lc ka cy he
                  go_wp2_with fail
                  go_roundw
                  case rel => exact ⟨x + 1, by omega, by go_num, HK.out.trans KA.out⟩
                  case measure => simp [intOf]; omega
                · have f3 : ((x : Int) != (i : Int)) = true := by simp; omega
                  rw [hqq.2.2, ← HLI.out, HL.out.1.zero i x (by have := HM.out; omega) (by have := HM.out; omega) he, HLI.out] at cy2
                  clear hk hy hqq hby lc ka cy he
                  go_wp2_with fail
                  go_roundw
                  case rel => exact ⟨x + 1, by omega, by go_num, HK.out.trans KA.out⟩
                  case measure => simp [intOf]; omega
              · obtain rfl : x = m := by omega
                go_wp2_with fail
                go_roundw
                case rel => exact ⟨i + 1, by omega, by go_num, HK.out⟩
                case measure => simp [intOf]; omega
        · obtain rfl : i = m := by omega
          go_wp2_with fail
          obtain ⟨w6, rfl⟩ : ∃ w6, w6 = wr := ⟨_, rfl⟩
          have S6 := Lib.hid (S5.out.keep HK.out)
          have R6 := Lib.hid (R5.out.keep HK.out)
          have K6 := Lib.hid (K5.out.trans HK.out)
          have T6 := Lib.hid (T5.out.keep HK.out)
          have M6 : Hid (∀ x, wr.heap.size ≤ x ∧ x < w5.heap.size → x < w6.heap.size) := fun x hx => Nat.lt_of_lt_of_le hx.2 HK.out.size
          clear hk HK S5 R5 K5 T5
          go_loopw [108] (fun iv wr => ∃ (x : Nat), x ≤ j ∧ iv = .int .i64 x ∧ Keep w6 wr) (fun iv _ => j - (intOf iv).toNat)
          case atStart => exact ⟨0, by omega, rfl, Keep.refl _⟩
          case round =>
            obtain ⟨x, hx, rfl, hk⟩ := hrel
            have HK := Lib.hid hk
            by_cases hlt5 : x < j
            · obtain ⟨b0, off, p, rfl, hb0, hp, ca, cb, la, lb⟩ := (S6.out.keep hk).rows.at_ hlt5
              have hkp := KN.out.rows p (List.mem_of_getElem? hp)
              have hsz := KN.out.sym (p.a.xs ++ p.b.xs) (List.mem_map.2 ⟨p, List.mem_of_getElem? hp, rfl⟩)
              have HF := Lib.hid (form_back HB.out.1 HB.out.2.2.1 HL.out.1 HL.out.2 (x := x) (by rw [HW.out.1]; exact hlt5) (HW.out.2.2 x p hp) hsz.1 hkp.2.2.1 hsz.2.1 hkp.2.2.2.1)
              have B1 : Hid (Bytes wr wr.heap.size p.a.A g p.a.xs ∧ Bytes wr wr.heap.size p.b.A s p.b.xs ∧ p.a.xs.length = g ∧ p.b.xs.length = s ∧ AllB p.a.xs ∧ g ≤ p.a.c ∧ s ≤ p.b.c) := by
                have h1 := la.bytes (B := wr.heap.size) fun z hz => Nat.lt_of_lt_of_le hz (S6.out.keep hk).le
                have h2 := lb.bytes (B := wr.heap.size) fun z hz => Nat.lt_of_lt_of_le hz (S6.out.keep hk).le
                have h3 := la.2.2.1
                have h4 := lb.2.2.1
                rw [hkp.1] at h1 h3; rw [hkp.2.1] at h2 h4
                exact ⟨h1, h2, hkp.2.2.1, by rw [← hkp.2.1]; exact lb.1, hkp.2.2.2.1, h3, h4⟩
              rw [hkp.1] at ca
              rw [hkp.2.1] at cb
              have e1 : (0 : Int) ≤ (x : Int) := Int.natCast_nonneg _
              have e2 : (x : Int) < (j : Int) := by omega
              obtain ⟨q0, hq0⟩ : ∃ q0, wr.heap.size = q0 := ⟨_, rfl⟩
              have ka : Keep wr (wr.alloc (.cells #[.slice p.a.A g p.a.c, .slice p.b.A s p.b.c] 33)) := (Keep.refl wr).alloc _ _
              have r0 : (wr.alloc (.cells #[.slice p.a.A g p.a.c, .slice p.b.A s p.b.c] 33)).cell? ⟨q0, 0, none⟩ = some (.slice p.a.A g p.a.c) := by rw [← hq0, World.cell?_alloc_at _ _ _ _ rfl]; rfl
              have r1 : (wr.alloc (.cells #[.slice p.a.A g p.a.c, .slice p.b.A s p.b.c] 33)).cell? ⟨q0, 1, none⟩ = some (.slice p.b.A s p.b.c) := by rw [← hq0, World.cell?_alloc_at _ _ _ _ rfl]; rfl
              have hqa : q0 < (wr.alloc (.cells #[.slice p.a.A g p.a.c, .slice p.b.A s p.b.c] 33)).heap.size := by rw [← hq0]; simp
              obtain ⟨wa, hwa⟩ : ∃ wa, wr.alloc (.cells #[.slice p.a.A g p.a.c, .slice p.b.A s p.b.c] 33) = wa := ⟨_, rfl⟩
              rw [hwa] at ka r0 r1 hqa
              have KA : Hid (Keep wr wa ∧ Keep w6 wa ∧ q0 < wa.heap.size) := ⟨ka, hk.trans ka, hqa⟩
              have HR0 := Lib.hid (And.intro r0 r1)
              clear hk hp hkp hsz la lb ka r0 r1 hqa hb0 e1
              go_wp2_with fail
              clear ca cb hwa hq0 e2
              obtain ⟨wo, rfl⟩ : ∃ wo, wo = wr := ⟨_, rfl⟩
              go_loopw [19, 114] (fun bv iv wr => ∃ (y : Nat) (Ab : Option Addr) (cb : Nat), y ≤ i ∧ iv = .int .i64 y ∧ bv = .slice Ab y cb ∧ Own wr wa.heap.size 5 Ab y cb (byL p.a.xs L y) ∧ Keep wa wr) (fun _ iv _ => i - (intOf iv).toNat)
              case atStart => exact ⟨0, none, 0, by omega, rfl, rfl, Own.none_ wa wa.heap.size 5, Keep.refl _⟩
              case round =>
                obtain ⟨y, Ab, cb, hy, rfl, rfl, ho, hk⟩ := hrel
                have HO := Lib.hid ho
                have HK2 := Lib.hid hk
                clear ho
                by_cases hlt6 : y < i
                · obtain ⟨b1, o1, q, rfl, _, hq, cc, cd, lc, _⟩ := (T6.out.keep (KA.out.2.1.trans hk)).at_ hlt6
                  have hqq := HQ.out y q hq
                  obtain ⟨li, hli⟩ : ∃ li, L y = li := ⟨_, rfl⟩
                  have hg1 : li < g := by rw [← hli]; exact HL.out.1.lt y (by have := HM.out; omega)
                  have hle : vLead g q.a.xs = (li : Int) := by rw [hqq.2.2, ← hli]; exact HL.out.1.lead y (by have := HM.out; omega)
                  have hby := lc.bytes (B := wr.heap.size) fun z hz => Nat.lt_of_lt_of_le (M6.out z hz) (KA.out.2.1.trans hk).size
                  rw [hqq.1] at hby cc
                  rw [hqq.2.1] at cd
                  have ka : Keep wr (wr.alloc (.cells #[.slice q.a.A g q.a.c, .slice q.b.A s q.b.c] 33)) := (Keep.refl wr).alloc _ _
                  obtain ⟨q1, hq1⟩ : ∃ q1, wr.heap.size = q1 := ⟨_, rfl⟩
                  have x0 : (wr.alloc (.cells #[.slice q.a.A g q.a.c, .slice q.b.A s q.b.c] 33)).cell? ⟨q1, 0, none⟩ = some (.slice q.a.A g q.a.c) := by rw [← hq1, World.cell?_alloc_at _ _ _ _ rfl]; rfl
                  obtain ⟨wx, hwx⟩ : ∃ wx, wr.alloc (.cells #[.slice q.a.A g q.a.c, .slice q.b.A s q.b.c] 33) = wx := ⟨_, rfl⟩
                  rw [hwx] at ka x0
                  have kx := KA.out.1.trans (hk.trans ka)
                  obtain ⟨b3, o3, hA3, hb3, cy⟩ := (B1.out.1.keep (Nat.le_refl _) kx).at_ hg1
                  obtain ⟨v, hv⟩ : ∃ v, p.a.xs.getD li 0 = v := ⟨_, rfl⟩
                  have hv2 : v < 256 := by rw [← hv]; exact B1.out.2.2.2.2.1.getD li
                  rw [hv] at cy
                  have r0 := ((hk.trans ka).cell (p := ⟨q0, 0, none⟩) KA.out.2.2).trans HR0.out.1
                  rw [hA3] at r0
                  have C0 : Hid (Calls Try.prog 31 #[.slice q.a.A g q.a.c] wx.drew fun e w' => e = .returned (.int .i64 (li : Int)) ∧ w' = wx.drew) := (vlead_eq _ g q.a.c _ q.a.xs wx.drew (hby.keep (Nat.le_refl _) ka.drew) (by omega)).mono fun e w' h => ⟨by rw [h.1, hle], h.2.symm⟩
                  have HO2 : Hid (Own wx.drew wa.heap.size 5 Ab y cb (byL p.a.xs L y)) := (HO.out.keep ka).drew
                  have HK3 : Hid (Keep wa wx.drew) := (hk.trans ka).drew
                  have HLI := Lib.hid (And.intro hli hv)
                  have HQ1 := Lib.hid hq1
                  have HB3 : Hid (b3 < wa.heap.size) := Nat.lt_of_lt_of_le hb3 KA.out.1.size
                  have e1 : (0 : Int) ≤ (y : Int) := Int.natCast_nonneg _
                  have e2 : (y : Int) < (i : Int) := by omega
                  have e3 : (0 : Int) ≤ (li : Int) := Int.natCast_nonneg _
                  have e4 : (li : Int) < (g : Int) := by omega
                  clear hk hq hqq hle hby lc ka hli hv kx hA3 hb3
                  go_wp2_with fail
                  clear hwx hq1 cc cd
                  refine wp_region_noPanic ?_
                  refine wp_region_held_drew (S := fun wz => wz.cell? ⟨q0, 0, none⟩ = some (.slice (some ⟨b3, o3, none⟩) g p.a.c) ∧ wz.cell? ⟨q1, 0, none⟩ = some (.slice q.a.A g q.a.c) ∧ wz.cell? ⟨b3, o3 + li, none⟩ = some (.int .u8 (v : Int))) (by kernel_rfl) ⟨r0, x0, cy⟩ (fun hHeld => ?_)
                  refine wpAnyH_take (i := 0) (v := ?_) rfl (by kernel_rfl) (by kernel_rfl) (by kernel_rfl) (fun _ _ _ h => h) (Or.inl ⟨by rfl, ?_⟩) hHeld ?_
                  rotate_left
                  · intro wq hSw
                    go_simp
                    all_goals with_reducible rfl
                  try simp only [Act.put, List.getElem_toArray, List.getElem_cons_succ, List.getElem_cons_zero, List.setIfInBounds_toArray, List.set_cons_zero, List.set_cons_succ]
                  refine wpAnyH_take (i := 1) (v := ?_) rfl (by kernel_rfl) (by kernel_rfl) (by kernel_rfl) (fun _ _ _ h => h) (Or.inl ⟨by rfl, ?_⟩) hHeld ?_
                  rotate_left
                  · intro wq hSw
                    go_simp
                    all_goals with_reducible rfl
                  try simp only [Act.put, List.getElem_toArray, List.getElem_cons_succ, List.getElem_cons_zero, List.setIfInBounds_toArray, List.set_cons_zero, List.set_cons_succ]
                  refine wpAnyH_take (i := 2) (v := ?_) rfl (by kernel_rfl) (by kernel_rfl) (by kernel_rfl) (fun _ _ _ h => h) (Or.inl ⟨by rfl, ?_⟩) hHeld ?_
                  rotate_left
                  · intro wq hSw
                    have q0 := hSw.1
                    go_simp
                    all_goals with_reducible rfl
                  try simp only [Act.put, List.getElem_toArray, List.getElem_cons_succ, List.getElem_cons_zero, List.setIfInBounds_toArray, List.set_cons_zero, List.set_cons_succ]
                  refine wpAnyH_take (i := 3) (v := ?_) rfl (by kernel_rfl) (by kernel_rfl) (by kernel_rfl) (fun _ _ _ h => h) (Or.inl ⟨by rfl, ?_⟩) hHeld ?_
                  rotate_left
                  · intro wq hSw
                    go_simp
                    all_goals with_reducible rfl
                  try simp only [Act.put, List.getElem_toArray, List.getElem_cons_succ, List.getElem_cons_zero, List.setIfInBounds_toArray, List.set_cons_zero, List.set_cons_succ]
                  refine wpAnyH_take (i := 4) (v := ?_) rfl (by kernel_rfl) (by kernel_rfl) (by kernel_rfl) (fun _ _ _ h => h) (Or.inl ⟨by rfl, ?_⟩) hHeld ?_
                  rotate_left
                  · intro wq hSw
                    have q0 := hSw.2.1
                    go_simp
                    all_goals with_reducible rfl
                  try simp only [Act.put, List.getElem_toArray, List.getElem_cons_succ, List.getElem_cons_zero, List.setIfInBounds_toArray, List.set_cons_zero, List.set_cons_succ]
                  refine wpAnyH_ready (rs := [5]) (by kernel_rfl) (by simp) ?_
                  refine AllReadyH.cons rfl (fun K hK => ?_) AllReadyH.nil
                  go_simp
                  refine (C0.out).mono ?_
                  rintro e w8 ⟨rfl, rfl⟩
                  refine hK.out _ _ ⟨r0, x0, cy⟩ (fun hHeld => ?_)
                  clear hK K
                  try simp only [Act.put, List.getElem_toArray, List.getElem_cons_succ, List.getElem_cons_zero, List.setIfInBounds_toArray, List.set_cons_zero, List.set_cons_succ]
                  refine wpAnyH_take (i := 6) (v := ?_) rfl (by kernel_rfl) (by kernel_rfl) (by kernel_rfl) (fun _ _ _ h => h) (Or.inl ⟨by rfl, ?_⟩) hHeld ?_
                  rotate_left
                  · intro wq hSw
                    go_simp
                    all_goals with_reducible rfl
                  try simp only [Act.put, List.getElem_toArray, List.getElem_cons_succ, List.getElem_cons_zero, List.setIfInBounds_toArray, List.set_cons_zero, List.set_cons_succ]
                  refine wpAnyH_take (i := 7) (v := ?_) rfl (by kernel_rfl) (by kernel_rfl) (by kernel_rfl) (fun _ _ _ h => h) (Or.inl ⟨by rfl, ?_⟩) hHeld ?_
                  rotate_left
                  · intro wq hSw
                    have q0 := hSw.2.2
                    go_simp
                    all_goals with_reducible rfl
                  try simp only [Act.put, List.getElem_toArray, List.getElem_cons_succ, List.getElem_cons_zero, List.setIfInBounds_toArray, List.set_cons_zero, List.set_cons_succ]
                  refine wpAnyH_ready (rs := [8]) (by kernel_rfl) (by simp) ?_
                  refine AllReadyH.cons rfl (fun K hK => ?_) AllReadyH.nil
                  go_simp
                  have kq : Keep wx.drew (wx.drew.alloc (.cells #[.int .u8 (v : Int)] 5)) := (Keep.refl wx.drew).alloc _ _
                  have hc3 : (wx.drew.alloc (.cells #[.int .u8 (v : Int)] 5)).cell? ⟨q0, 0, none⟩ = some (.slice (some ⟨b3, o3, none⟩) g p.a.c) ∧ (wx.drew.alloc (.cells #[.int .u8 (v : Int)] 5)).cell? ⟨q1, 0, none⟩ = some (.slice q.a.A g q.a.c) ∧ (wx.drew.alloc (.cells #[.int .u8 (v : Int)] 5)).cell? ⟨b3, o3 + li, none⟩ = some (.int .u8 (v : Int)) := ⟨(Below.cell kq (World.block_lt_of_cell? wx.drew _ r0)).trans r0, (Below.cell kq (World.block_lt_of_cell? wx.drew _ x0)).trans x0, (Below.cell kq (World.block_lt_of_cell? wx.drew _ cy)).trans cy⟩
                  refine hK.out _ _ hc3 (fun hHeld => ?_)
                  clear hK K
                  try simp only [Act.put, List.getElem_toArray, List.getElem_cons_succ, List.getElem_cons_zero, List.setIfInBounds_toArray, List.set_cons_zero, List.set_cons_succ]
                  refine wpAnyH_ready (rs := [9]) (by kernel_rfl) (by simp) ?_
                  refine AllReadyH.cons rfl (fun K hK => ?_) AllReadyH.nil
                  refine wp_append_bytes (base := wa.heap.size) (n := y) (c := cb) (m := 1) (cx := 1) (xs := byL p.a.xs L y) (ys := [v]) _ _ 31 rfl Try.underlying31 info5 rfl (HO2.out.alloc _) rfl (Bytes.one wx.drew v hv2 5) (by omega) (Nat.le_trans HK3.out.size kq.size) ?_
                  intro A2 c2 w8 h2 hgr2 _
                  have kT : Turned (fun b => (Value.slice Ab y cb).ownBlock = some b) wx.drew w8 := (Turned.of_keep kq).trans (Turned.of_grown (F := fun b => (Value.slice Ab y cb).ownBlock = some b) hgr2 fun i e => e) fun i e => Or.inl e
                  have HO4 := Lib.hid h2
                  have HK4 := Lib.hid ((HK3.out.alloc _ _).grown hgr2 HO2.out.rowLe)
                  have hc4 : w8.cell? ⟨q0, 0, none⟩ = some (.slice (some ⟨b3, o3, none⟩) g p.a.c) ∧ w8.cell? ⟨q1, 0, none⟩ = some (.slice q.a.A g q.a.c) ∧ w8.cell? ⟨b3, o3 + li, none⟩ = some (.int .u8 (v : Int)) := ⟨kT.cell r0 fun e => by have := (HO.out.1.lt q0 e).1; have := KA.out.2.2; omega, kT.cell x0 fun e => by have := (HO.out.1.lt q1 e).2; have := HQ1.out; omega, kT.cell cy fun e => by have := (HO.out.1.lt b3 e).1; have := HB3.out; omega⟩
                  refine hK.out _ _ hc4 (fun hHeld => ?_)
                  clear hK K kT hc3 hgr2 h2 kq
                  try simp only [Act.put, List.getElem_toArray, List.getElem_cons_succ, List.getElem_cons_zero, List.setIfInBounds_toArray, List.set_cons_zero, List.set_cons_succ]
                  refine wpAnyH_take (i := 10) (v := ?_) rfl (by kernel_rfl) (by kernel_rfl) (by kernel_rfl) (fun _ _ _ h => h) (Or.inl ⟨by rfl, ?_⟩) hHeld ?_
                  rotate_left
                  · intro wq hSw
                    go_simp
                    all_goals with_reducible rfl
                  try simp only [Act.put, List.getElem_toArray, List.getElem_cons_succ, List.getElem_cons_zero, List.setIfInBounds_toArray, List.set_cons_zero, List.set_cons_succ]
                  refine wpAnyH_done (by kernel_rfl) ?_ _
                  refine NoPanic.normal ?_
                  clear hHeld
                  clear hc4
                  go_wp2_with fail
                  go_roundw
                  case rel => exact ⟨y + 1, A2, c2, by omega, by go_num, rfl, by rw [byL_succ, HLI.out.1, HLI.out.2]; exact HO4.out, HK4.out⟩
                  case measure => simp [intOf]; omega
                · obtain rfl : y = i := by omega
                  go_wp2_with fail
                  refine (bcombine_in (R6.out.keep (KA.out.2.1.trans HK2.out)) wr.heap.size cb y Ab (byL p.a.xs L y) HO.out.bytes (Nat.le_refl _) HM.out).mono ?_
                  rw [show byL p.a.xs L y = byL p.a.xs L B.length by rw [HM.out], HF.out, List.take_left' B1.out.2.2.1, List.drop_left' B1.out.2.2.1]
                  rintro e w9 ⟨A2, c2, A3, c3, rfl, oa, ob, k9⟩
                  have ha9 : Keep wa w9 := HK2.out.trans k9
                  have kp : Keep w9 (w9.alloc (.cells #[.slice A2 g c2, .slice A3 s c3] 33)) := (Keep.refl w9).alloc _ _
                  obtain ⟨z9, hz9⟩ : ∃ z9, w9.heap.size = z9 := ⟨_, rfl⟩
                  have p0 : (w9.alloc (.cells #[.slice A2 g c2, .slice A3 s c3] 33)).cell? ⟨z9, 0, none⟩ = some (.slice A2 g c2) := by rw [← hz9, World.cell?_alloc_at _ _ _ _ rfl]; rfl
                  have p1 : (w9.alloc (.cells #[.slice A2 g c2, .slice A3 s c3] 33)).cell? ⟨z9, 1, none⟩ = some (.slice A3 s c3) := by rw [← hz9, World.cell?_alloc_at _ _ _ _ rfl]; rfl
                  obtain ⟨wp, hwp⟩ : ∃ wp, w9.alloc (.cells #[.slice A2 g c2, .slice A3 s c3] 33) = wp := ⟨_, rfl⟩
                  rw [hwp] at kp p0 p1
                  have kq : Keep wp (wp.alloc (.cells #[.slice A2 g c2, .slice A3 s c3] 33)) := (Keep.refl wp).alloc _ _
                  have hst1 := st_one wp ⟨⟨A2, g, c2, p.a.xs⟩, ⟨A3, s, c3, p.b.xs⟩⟩ _ _ (oa.keep kp).bytes (ob.keep kp).bytes (Nat.le_refl _) (Nat.le_refl _) (own_le' oa) (own_le' ob) 33
                  have hst1 : StIn (wp.alloc (.cells #[.slice A2 g c2, .slice A3 s c3] 33)) (fun b => b < wp.heap.size + 1) (some ⟨wp.heap.size, 0, none⟩) 1 [⟨⟨A2, g, c2, p.a.xs⟩, ⟨A3, s, c3, p.b.xs⟩⟩] := hst1
                  have hs1 : (wp.alloc (.cells #[.slice A2 g c2, .slice A3 s c3] 33)).heap.size = wp.heap.size + 1 := by simp
                  obtain ⟨wq, hwq⟩ : ∃ wq, wp.alloc (.cells #[.slice A2 g c2, .slice A3 s c3] 33) = wq := ⟨_, rfl⟩
                  rw [hwq] at kq hst1 hs1
                  have kpq := ha9.trans (kp.trans kq)
                  have r0 := (kpq.cell (p := ⟨q0, 0, none⟩) KA.out.2.2).trans HR0.out.1
                  have r1 := (kpq.cell (p := ⟨q0, 1, none⟩) KA.out.2.2).trans HR0.out.2
                  have kz : Keep wq (wq.alloc (.cells #[.slice p.a.A g p.a.c, .slice p.b.A s p.b.c] 33)) := (Keep.refl wq).alloc _ _
                  have hst2 : StIn (wq.alloc (.cells #[.slice p.a.A g p.a.c, .slice p.b.A s p.b.c] 33)) (fun b => b < wq.heap.size + 1) (some ⟨wq.heap.size, 0, none⟩) 1 [⟨⟨p.a.A, g, p.a.c, p.a.xs⟩, ⟨p.b.A, s, p.b.c, p.b.xs⟩⟩] :=
                    st_one wq ⟨⟨p.a.A, g, p.a.c, p.a.xs⟩, ⟨p.b.A, s, p.b.c, p.b.xs⟩⟩ _ _ (B1.out.1.keep (Nat.le_refl _) (KA.out.1.trans kpq)) (B1.out.2.1.keep (Nat.le_refl _) (KA.out.1.trans kpq)) (KA.out.1.trans kpq).size (KA.out.1.trans kpq).size B1.out.2.2.2.2.2.1 B1.out.2.2.2.2.2.2 33
                  have hs2 : (wq.alloc (.cells #[.slice p.a.A g p.a.c, .slice p.b.A s p.b.c] 33)).heap.size = wq.heap.size + 1 := by simp
                  obtain ⟨wt, hwt⟩ : ∃ wt, wq.alloc (.cells #[.slice p.a.A g p.a.c, .slice p.b.A s p.b.c] 33) = wt := ⟨_, rfl⟩
                  rw [hwt] at kz hst2 hs2
                  have C1 := Lib.hid (bsame_any 1 1 1 1 _ _ _ _ _ _ wt (hst1.keep kz) hst2 (fun b hb => by have hb : b < wp.heap.size + 1 := hb; omega) (fun b hb => by have hb : b < wq.heap.size + 1 := hb; omega) (by omega))
                  rw [decide_eq_true (show pairXs [⟨⟨A2, g, c2, p.a.xs⟩, ⟨A3, s, c3, p.b.xs⟩⟩] = pairXs [⟨⟨p.a.A, g, p.a.c, p.a.xs⟩, ⟨p.b.A, s, p.b.c, p.b.xs⟩⟩] from rfl)] at C1
                  have KZ : Hid (Keep w6 wt) := KA.out.2.1.trans (kpq.trans kz)
                  clear hst1 hst2 hs1 hs2 kpq kz kp kq ha9 oa ob k9
                  go_wp2_with fail
                  refine C1.out.mono ?_
                  rintro e w13 ⟨rfl, k13⟩
                  have K13 := Lib.hid (KZ.out.trans k13)
                  clear k13 C1 KZ p0 p1 r0 r1 hwp hwq hwt hz9
                  go_wp2_with fail
                  go_roundw
                  case rel => exact ⟨x + 1, by omega, by go_num, K13.out⟩
                  case measure => simp [intOf]; omega
            · obtain rfl : x = j := by omega
              go_wp2_with fail
              go_ret
              exact ⟨rfl, K6.out.trans HK.out⟩
end Go.Proofs.Yticllkklbogcnaa
