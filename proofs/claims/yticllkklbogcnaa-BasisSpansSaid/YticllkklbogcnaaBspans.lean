/- The walk of BasisSpans. -/
import Derived.Test.YticllkklbogcnaaBset
import Derived.Test.YticllkklbogcnaaBsp
import Derived.Test.YticllkklbogcnaaVA
import Derived.Test.YticllkklbogcnaaMcode
import Derived.Deep.DeepCutAuto
import Derived.Deep.CutBlock
set_option linter.unusedVariables false
set_option linter.unusedSimpArgs false
namespace Go.Proofs.Yticllkklbogcnaa
open Go.RowKit
set_option maxRecDepth 100000 in
set_option maxHeartbeats 8000000 in
theorem spans_any (G S n1 c1 n2 c2 n3 c3 : Nat) (A1 A2 A3 : Option Addr) (rs1 rs2 : List RowV) (w : World) (h1 : RowsAt w w.heap.size A1 n1 rs1) (h2 : RowsAt w w.heap.size A2 n2 rs2) (m1 : n1 ≤ 140737488351232) (m2 : n2 ≤ 140737488351232) (hG : G < 256) (hS : S < 256) (n4 c4 : Nat) (A4 : Option Addr) (ys : List Nat) (h4 : Bytes w w.heap.size A4 n4 ys) (m4 : n4 ≤ 140737488351232) :
    Calls Try.prog 7 #[.agg #[.int .u8 (G : Int), .int .u8 (S : Int), .slice A1 n1 c1, .slice A2 n2 c2, .slice A3 n3 c3], .slice A4 n4 c4] w fun e w' => e = .returned (.bool true) ∧ Keep w w' := by
  obtain ⟨g, hg⟩ : ∃ g, 1 + G % 10 = g := ⟨_, rfl⟩
  obtain ⟨s, hs⟩ : ∃ s, 1 + S % 10 = s := ⟨_, rfl⟩
  obtain ⟨M, hM⟩ : ∃ M, symM (rowsOf rs1) s g = M := ⟨_, rfl⟩
  have H := Lib.hid (And.intro h1 (And.intro h2 (And.intro hg (And.intro hs hM))))
  have hall : ∀ {rs : List RowV} {A : Option Addr} {n : Nat}, RowsAt w w.heap.size A n rs → ∀ x ∈ rowsOf rs, AllB x := fun {rs A n} h x hx => by
    obtain ⟨r, hr, rfl⟩ := List.mem_map.1 hx
    exact (h.2.1 r hr).1.all
  have HA := Lib.hid (And.intro (hall h1) (hall h2))
  clear h1 h2 hg hs hM hall
  have HY := Lib.hid h4
  clear h4
  go_enter Try.func7, Try.ntmps7
  go_wp2_with fail
  have kbx : Keep w (w.alloc (.cells #[.int .u8 (G : Int), .int .u8 (S : Int), .slice A1 n1 c1, .slice A2 n2 c2, .slice A3 n3 c3] 60)) := (Keep.refl w).alloc _ _
  have h1b := (H.out.1.keep (Nat.le_refl _) kbx)
  have h2b := (H.out.2.1.keep (Nat.le_refl _) kbx)
  have hup : ∀ {A : Option Addr} {n : Nat} {rs : List RowV}, RowsAt (w.alloc (.cells #[.int .u8 (G : Int), .int .u8 (S : Int), .slice A1 n1 c1, .slice A2 n2 c2, .slice A3 n3 c3] 60)) w.heap.size A n rs → RowsAt (w.alloc (.cells #[.int .u8 (G : Int), .int .u8 (S : Int), .slice A1 n1 c1, .slice A2 n2 c2, .slice A3 n3 c3] 60)) (w.alloc (.cells #[.int .u8 (G : Int), .int .u8 (S : Int), .slice A1 n1 c1, .slice A2 n2 c2, .slice A3 n3 c3] 60)).heap.size A n rs := fun {A n rs} h => ⟨h.1, fun r hr => ⟨(h.2.1 r hr).1.mono kbx.size, (h.2.1 r hr).2⟩, fun hp => by
    obtain ⟨b, off, e, hb, hc⟩ := h.2.2 hp
    exact ⟨b, off, e, Nat.lt_of_lt_of_le hb kbx.size, hc⟩⟩
  refine (laid_any G S n1 c1 n2 c2 n3 c3 A1 A2 A3 rs1 rs2 _ (hup h1b) (hup h2b) m1 m2 hG hS g s H.out.2.2.1 H.out.2.2.2.1 M H.out.2.2.2.2).mono ?_
  rintro e w1 ⟨As, cs, rss, Ar, k, cr, ps, rfl, sy1, sx1, st1, px1, pn1, k1, kcr⟩
  have K1 := Lib.hid (kbx.trans k1)
  have KN : Hid (Known g s M rss ps) := known_of H.out.2.2.1 H.out.2.2.2.1 HA.out.1 HA.out.2 H.out.2.2.2.2 sx1 (fun r hr => (sy1.2.1 r hr).1) px1 pn1
  have S1 : Hid (Setup w1.heap.size w1 g s M As rss Ar k ps) := ⟨sy1.mono fun b hb => hb.2, st1.mono fun b hb => hb.2, Nat.le_refl _⟩
  have HKL : Hid (ps.length = k) := st1.1
  have KCR := Lib.hid kcr
  clear kbx h1b h2b hup sy1 sx1 st1 px1 pn1 k1 kcr H HA
  obtain ⟨N, hN⟩ : ∃ N, w1.heap.size = N := ⟨_, rfl⟩
  rw [hN] at S1
  have HN := Lib.hid hN
  clear hN
  have q1 := KN.out.g1
  have q2 := KN.out.g2
  have q3 := KN.out.s1
  have q4 := KN.out.s2
  have q5 : k ≤ 40 := by have := KN.out.len; have := HKL.out; omega
  have kmin : ∃ k', min k 30 = k' ∧ k' ≤ k ∧ k' ≤ 30 := ⟨min k 30, rfl, by omega, by omega⟩
  obtain ⟨k', hk', hk1, hk2⟩ := kmin
  go_upto_region 2 with fail
  go_cut [8] (fun v wx => v = .slice Ar k' cr ∧ wx = w1)
  case first =>
    have HK' := Lib.hid (And.intro hk' (And.intro hk1 hk2))
    clear hk' hk1 hk2
    by_cases h30 : k ≤ 30
    · obtain rfl : k = k' := by have := HK'.out; omega
      have d1 : (k : Int) ≤ 30 := by omega
      have d2 : (k : Int) ≤ (cr : Int) := by have := KCR.out; omega
      have d4 : (0 : Int) ≤ (k : Int) := Int.natCast_nonneg _
      go_wp2_with fail
      go_meet
      case rel => exact ⟨rfl, rfl⟩
    · obtain rfl : 30 = k' := by have := HK'.out; omega
      have d1 : ¬ (k : Int) ≤ 30 := by omega
      have d2 : (30 : Int) ≤ (cr : Int) := by have := KCR.out; omega
      have d3 : 30 ≤ cr := by have := KCR.out; omega
      go_wp2_with fail
      go_meet
      case rel => exact ⟨rfl, rfl⟩
  case rest =>
    obtain ⟨rfl, rfl⟩ := hcut
    go_wp2_with fail
    refine (bnew_in g s q1 (by omega) q3 (by omega) _).mono ?_
    rintro e w2 ⟨b, F, rfl, r2, f2, k2⟩
    have R2 := Lib.hid r2
    have F2 : Hid (∀ k, F k → N ≤ k) := fun k hk => by rw [← HN.out]; exact f2 k hk
    have S2 := Lib.hid (S1.out.keep k2)
    have K2 := Lib.hid (K1.out.trans k2)
    clear r2 f2 k2 S1
    go_wp2_with fail
    refine (awake_any _).mono ?_
    rintro e w3 ⟨rfl, k3⟩
    have R3 := Lib.hid (R2.out.keep k3)
    have S3 := Lib.hid (S2.out.keep k3)
    have K3 := Lib.hid (K2.out.trans k3)
    clear k3 R2 S2 K2
    have mkg := run_make_bytes (P := Try.prog) Try.underlying31 info5 g (by omega) w3
    obtain ⟨w5, vv, hcp, ho5, hk5⟩ := run_copy_fill (P := Try.prog) (t := 31) (e := 5) (c := c4) (ty := 3) (n := g) Try.underlying31 (by kernel_rfl) (HY.out.keep (Nat.le_refl _) K3.out) K3.out.size (by omega)
    obtain ⟨V, hV⟩ : ∃ V, fillN ys g = V := ⟨_, rfl⟩
    have HV : Hid (V.length = g ∧ AllB V) := by rw [← hV]; exact ⟨fillN_len _ _, fillN_all HY.out.2.1 _⟩
    rw [hV] at ho5
    have HVB : Hid (∀ x, F x → x < w3.heap.size) := fun x hx => R3.out.fine.2.2.2.2.2 x hx
    obtain ⟨vb, hvb⟩ : ∃ vb, w3.heap.size = vb := ⟨_, rfl⟩
    rw [hvb] at ho5 HVB mkg hcp
    have HO5 := Lib.hid ho5
    have R5 := Lib.hid (R3.out.keep hk5)
    have S5 := Lib.hid (S3.out.keep hk5)
    have K5 := Lib.hid (K3.out.trans hk5)
    have HVN : Hid (N ≤ vb) := by have := S3.out.le; rw [hvb] at this; exact this
    clear ho5 hk5 hV R3 S3 K3
    by_cases h0 : k' = 0
    · subst h0
      go_wp2_with fail
      refine (bcontains_in R5.out w5.heap.size g _ V (Nat.le_refl _) HO5.out.bytes (Nat.le_refl _)).mono ?_
      have hq : decide (inB g s [] (V ++ List.replicate s 0)) = decide (vLead g V < 0) := decide_eq_decide.2 (none_in HV.out.1)
      rw [hq]
      obtain ⟨q, hq⟩ : ∃ q, decide (vLead g V < 0) = q := ⟨_, rfl⟩
      rw [hq]
      have HQ := Lib.hid hq
      clear hq
      rintro e w6 ⟨rfl, k6⟩
      have K6 := Lib.hid (K5.out.trans k6)
      have B6 := Lib.hid (HO5.out.keep k6)
      clear k6
      cases q
      · go_wp2_with fail
        refine (vzero_any w6.heap.size g g _ V _ B6.out.bytes (Nat.le_refl _) (by omega)).mono ?_
        rw [HQ.out]
        rintro e w7 ⟨rfl, k7⟩
        have K7 := Lib.hid (K6.out.trans k7)
        clear k7
        go_wp2_with fail
        go_ret
        exact ⟨rfl, K7.out⟩
      · go_wp2_with fail
        refine (vzero_any w6.heap.size g g _ V _ B6.out.bytes (Nat.le_refl _) (by omega)).mono ?_
        rw [HQ.out]
        rintro e w7 ⟨rfl, k7⟩
        have K7 := Lib.hid (K6.out.trans k7)
        clear k7
        go_wp2_with fail
        go_ret
        exact ⟨rfl, K7.out⟩
    · have d1 : ((k' : Int) == 0) = false := beq_eq_false_iff_ne.2 (by omega)
      obtain ⟨W, hW⟩ : ∃ W, ps.map PairV.xs = W := ⟨_, rfl⟩
      have HW : Hid (W.length = k ∧ SymRows g s M W ∧ ∀ (j : Nat) (p : PairV), ps[j]? = some p → W.getD j [] = p.a.xs ++ p.b.xs) := by
        rw [← hW]
        exact ⟨by rw [List.length_map]; exact HKL.out, KN.out.sym, fun j p hp => Known.at_ (g := g) (s := s) (M := M) (rss := rss) hp⟩
      have HKK := Lib.hid (And.intro hk1 (And.intro hk2 (Nat.pos_of_ne_zero h0)))
      have HWP := Lib.hid hW
      clear hW h0 hk'
      go_wp2_with fail
      clear d1 mkg hcp
      go_loopw [14, 76] (fun lv iv wr => ∃ (j : Nat) (F : Nat → Prop) (Al : Option Addr) (cl : Nat), j ≤ k' ∧ iv = .int .i64 j ∧ lv = .slice Al j cl ∧ SpL N g s b vb k M W As rss Ar ps V w j F Al cl wr) (fun _ iv _ => k' - (intOf iv).toNat)
      case atStart =>
        refine ⟨0, F, none, 0, by omega, rfl, rfl, ⟨R5.out, F2.out, S5.out, OwnRows.none_ _ _ _, fun x e => (by cases e), HO5.out.lower HVN.out, fun hx => (by have := HVB.out vb hx; omega), fun x e => (by cases e), ?_, K5.out⟩⟩
        rw [← HN.out]; exact K1.out.size
      case round =>
        clear R5 S5 K5 HO5 HVB
        obtain ⟨j, F, Al, cl, hj, rfl, rfl, h⟩ := hrel
        have H := Lib.hid h
        clear h
        by_cases hlt : j < k'
        · obtain ⟨b0, off, p, rfl, hb0, hp, ca, cb, la, lb⟩ := H.out.set.rows.at_ (show j < k by omega)
          have hkp := KN.out.rows p (List.mem_of_getElem? hp)
          have hsu := basK_succ (g := g) (s := s) (rows := W) (k := j) (by rw [HW.out.1]; omega)
          rw [HW.out.2.2 j p hp] at hsu
          have HCP : Hid (g ≤ p.a.c ∧ s ≤ p.b.c) := ⟨by have h1 := la.2.2.1; have h2 := hkp.1; omega, by have h1 := lb.2.2.1; have h2 := hkp.2.1; omega⟩
          have B1 : Hid (Bytes wr wr.heap.size p.a.A g p.a.xs) := by
            have := la.bytes (B := wr.heap.size) fun x hx => Nat.lt_of_lt_of_le hx H.out.set.le
            rw [hkp.1] at this; exact this
          have B2 : Hid (Bytes wr wr.heap.size p.b.A s p.b.xs) := by
            have := lb.bytes (B := wr.heap.size) fun x hx => Nat.lt_of_lt_of_le hx H.out.set.le
            rw [hkp.2.1] at this; exact this
          have HPA : Hid ((⟨p.a.A, g, p.a.c, p.a.xs⟩ : RowV) = p.a) := by show _ = _; rw [← hkp.1]
          rw [hkp.1] at ca
          rw [hkp.2.1] at cb
          have e1 : (0 : Int) ≤ (j : Int) := Int.natCast_nonneg _
          have e2 : (j : Int) < (k' : Int) := by omega
          have ka : Keep wr (wr.alloc (.cells #[.slice p.a.A g p.a.c, .slice p.b.A s p.b.c] 33)) := (Keep.refl wr).alloc _ _
          obtain ⟨q0, hq0⟩ : ∃ q0, wr.heap.size = q0 := ⟨_, rfl⟩
          have r0 : (wr.alloc (.cells #[.slice p.a.A g p.a.c, .slice p.b.A s p.b.c] 33)).cell? ⟨q0, 0, none⟩ = some (.slice p.a.A g p.a.c) := by rw [← hq0, World.cell?_alloc_at _ _ _ _ rfl]; rfl
          have r1 : (wr.alloc (.cells #[.slice p.a.A g p.a.c, .slice p.b.A s p.b.c] 33)).cell? ⟨q0, 1, none⟩ = some (.slice p.b.A s p.b.c) := by rw [← hq0, World.cell?_alloc_at _ _ _ _ rfl]; rfl
          obtain ⟨wa, hwa⟩ : ∃ wa, wr.alloc (.cells #[.slice p.a.A g p.a.c, .slice p.b.A s p.b.c] 33) = wa := ⟨_, rfl⟩
          rw [hwa] at ka r0 r1
          have KA := Lib.hid ka
          have HSU := Lib.hid hsu
          have HP := Lib.hid hp
          have HQ0 := Lib.hid hq0
          clear hp hkp hsu la lb ka hb0
          go_wp2_with fail
          refine (binsert_in (H.out.bas.keep KA.out) _ _ p.a.c p.b.c p.a.A p.b.A p.a.xs p.b.xs HCP.out.1 HCP.out.2 (B1.out.keep (Nat.le_refl _) KA.out) (B2.out.keep (Nat.le_refl _) KA.out) KA.out.size KA.out.size).mono ?_
          rw [← HSU.out]
          rintro e w4 ⟨rfl, F4, r4, f4, t4⟩
          have r0' := t4.cell r0 fun e => by have := H.out.bas.fine.2.2.2.2.2 q0 e; have := HQ0.out; omega
          have HOW := Lib.hid (H.out.own4 KA.out t4)
          have R4 := Lib.hid (And.intro r4 (And.intro f4 t4))
          clear r4 f4 t4 r0 r1 ca cb hwa hq0
          go_wp2_with (at_builtin; refine wpList_append_row rfl _ _ 48 rfl ⟨p.a.A, g, p.a.c, p.a.xs⟩ Try.underlying48 infoRow rfl (HOW.out.alloc _) rfl (by rw [World.cell?_alloc_at _ _ _ _ (by simp)]; rfl) (by omega) (by have := H.out.set.le; have := KA.out.size; have := R4.out.2.2.size; simp; omega) ?_)
          intro A7 c7 w7 h7 hgr7 hb7
          rw [HPA.out] at h7
          have H7 := Lib.hid (H.out.step KA.out HP.out R4.out.1 R4.out.2.1 R4.out.2.2 ((Keep.refl w4).alloc _ _) h7 hgr7 (hb7.imp id fun e => by rw [e]; simp))
          clear h7 hgr7 hb7 r0'
          go_wp2_with fail
          go_roundw
          case rel => exact ⟨j + 1, F4, A7, c7, by omega, by go_num, rfl, H7.out⟩
          case measure => simp [intOf]; omega
        · obtain rfl : j = k' := by omega
          go_wp2_with fail
          have hc := spc_of HW.out.2.1 (j := j) (by rw [HW.out.1]; exact HKK.out.1) HKK.out.2.2
          have hx : rowsXs ((ps.map PairV.a).take j) = (W.take j).map (List.take g) := by rw [rowsXs_cut KN.out j]; rw [HWP.out]
          obtain ⟨C, hC⟩ : ∃ C, (W.take j).map (List.take g) = C := ⟨_, rfl⟩
          obtain ⟨B, hB⟩ : ∃ B, basK g s W j = B := ⟨_, rfl⟩
          obtain ⟨rl, hrl⟩ : ∃ rl, (ps.map PairV.a).take j = rl := ⟨_, rfl⟩
          have hb := H.out.bas
          have ho := H.out.own
          rw [hC, hB] at hc
          rw [hC, hrl] at hx
          rw [hB] at hb
          rw [hrl] at ho
          have HC := Lib.hid (And.intro hc hx)
          have RB := Lib.hid hb
          have hri : RowsIn wr (fun b => b < wr.heap.size) Al j rl := RowsIn.of_own ho (fun r hr => by
            rw [← hrl] at hr
            obtain ⟨p, hp, rfl⟩ := List.mem_map.1 (List.mem_of_mem_take hr)
            exact (H.out.set.rows.2.1 p hp).1.mono fun b hb => Nat.lt_of_lt_of_le hb H.out.set.le) (fun b hb => (ho.lt b hb).2)
          have HRI := Lib.hid hri
          have HLO := Lib.hid ho
          obtain ⟨r, hr⟩ : ∃ r, B.length = r := ⟨_, rfl⟩
          have HR := Lib.hid hr
          have HRL := Lib.hid hrl
          clear hc hx hC hB hrl hb ho hri hr
          go_wp2_with fail
          have hm := mrank_any j cl Al _ rl wr HRI.out (fun b hb => hb) (by omega) (by rw [HC.out.2, HC.out.1.sz.sizeC (by have := HKK.out.2.2; omega)]; omega)
          rw [HC.out.2, HC.out.1.len, HC.out.1.sz.sizeE, HR.out] at hm
          refine hm.mono ?_
          clear hm
          rintro e w6 ⟨rfl, k6⟩
          have H6 := Lib.hid (And.intro (RB.out.keep k6) (And.intro (HRI.out.turned (Turned.of_keep (F := fun _ => False) k6) fun _ _ e => e) (And.intro k6 (H.out.keep.trans k6))))
          clear k6
          go_wp2_with fail
          have hm := mreduce_any j cl Al _ rl w6 H6.out.2.1 (fun b hb => Nat.lt_of_lt_of_le hb H6.out.2.2.1.size) (by omega) (by rw [HC.out.2, HC.out.1.sz.sizeC (by have := HKK.out.2.2; omega)]; omega)
          rw [HC.out.2, HC.out.1.sz.sizeE] at hm
          refine hm.mono ?_
          clear hm
          rintro e w7 ⟨A7, n7, c7, rfl, rs7, o7⟩
          have O7 := Lib.hid o7
          have R7 := Lib.hid (H6.out.1.keep o7.2.2.2)
          have K7 := Lib.hid (And.intro (H6.out.2.2.1.trans o7.2.2.2) (H6.out.2.2.2.trans o7.2.2.2))
          have N7 : Hid (n7 = r) := by show _ = _; rw [← HR.out, ← HC.out.1.len, ← o7.2.2.1, rowsXs_len, o7.1.length]
          clear o7 H6
          go_wp2_with fail
          refine (brank_any R7.out).mono ?_
          rw [HR.out]
          rintro e w8 ⟨rfl, k8⟩
          have R8 := Lib.hid (R7.out.keep k8)
          have K8 := Lib.hid (And.intro (K7.out.1.trans k8) (And.intro (K7.out.2.trans k8) k8))
          clear k8 R7 K7
          go_wp2_with fail
          refine (brows_any R8.out).mono ?_
          rintro e w9 ⟨A9, n9, c9, qs, rfl, o9⟩
          have O9 := Lib.hid o9
          clear o9
          go_wp2_with fail
          have N9 : Hid (n9 = r) := by
            have h1 := O9.out.1.length
            have h2 := congrArg List.length O9.out.2.2.1
            rw [List.length_map, HR.out] at h2
            show _ = _; omega
          have HRG : r ≤ 10 := by have := R8.out.fine.1.length_le; have := HR.out; omega
          have HQ : Hid (∀ (i : Nat) (q : PairV), qs[i]? = some q → q.a.n = g ∧ q.b.n = s ∧ q.a.xs = (reduceN C).getD i []) := fun i q hq => by
            have hm := List.mem_of_getElem? hq
            have h1 := O9.out.2.1 q hm
            refine ⟨h1.2.2.1, h1.2.2.2, ?_⟩
            have h2 : (qs.map PairV.xs)[i]? = some q.xs := by rw [List.getElem?_map, hq]; rfl
            rw [O9.out.2.2.1] at h2
            rw [← HC.out.1.red, List.getD_eq_getElem?_getD, List.getElem?_map, h2]
            show q.a.xs = (q.a.xs ++ q.b.xs).take g
            rw [← h1.2.2.1, ← h1.1.length, List.take_left']
            rfl
          have T9 := Lib.hid O9.out.stIn
          have T7 := Lib.hid (O7.out.rowsIn.turned (Turned.of_keep (F := fun _ => False) (K8.out.2.2.trans O9.out.2.2.2)) fun _ _ e => e)
          have K9 := Lib.hid (And.intro (K8.out.1.trans O9.out.2.2.2) (K8.out.2.1.trans O9.out.2.2.2))
          have R9 := Lib.hid (R8.out.keep O9.out.2.2.2)
          have HX7 : Hid (rowsXs rs7 = reduceN C) := O7.out.2.2.1
          have S7 : Hid (w7.heap.size ≤ w9.heap.size) := Nat.le_trans K8.out.2.2.size O9.out.2.2.2.size
          clear O9 K8 R8 O7
          have hn9 : n9 ≤ 10 := by have := N9.out; omega
          obtain ⟨w0, rfl⟩ : ∃ w0, w0 = wr := ⟨_, rfl⟩
          go_loopw [115] (fun iv wr => ∃ (i : Nat), i ≤ n9 ∧ iv = .int .i64 i ∧ Keep w9 wr) (fun iv _ => n9 - (intOf iv).toNat)
          case atStart => exact ⟨0, by omega, rfl, Keep.refl _⟩
          case round =>
            obtain ⟨i, hi, rfl, hk⟩ := hrel
            have HK := Lib.hid hk
            by_cases hlt2 : i < n9
            · obtain ⟨b1, o1, q, rfl, _, hq, ca, cb, la, _⟩ := (T9.out.keep hk).at_ hlt2
              obtain ⟨b2, o2, r2, rfl, _, hr2, c2, l2⟩ := (T7.out.turned (Turned.of_keep (F := fun _ => False) hk) fun _ _ e => e).at_ (show i < n7 by have := N7.out; have := N9.out; omega)
              have hqq := HQ.out i q hq
              have hxx : q.a.xs = r2.xs := by rw [hqq.2.2, ← HX7.out]; exact rowsXs_at' hr2
              have h1 := la.bytes (B := wr.heap.size) fun x hx => Nat.lt_of_lt_of_le hx.2 hk.size
              have h2 := l2.bytes (B := wr.heap.size) fun x hx => Nat.lt_of_lt_of_le hx.2 (Nat.le_trans S7.out hk.size)
              rw [hqq.1] at h1 ca
              rw [hqq.2.1] at cb
              obtain ⟨z0, hz0⟩ : ∃ z0, wr.heap.size = z0 := ⟨_, rfl⟩
              have ka : Keep wr (wr.alloc (.cells #[.slice q.a.A g q.a.c, .slice q.b.A s q.b.c] 33)) := (Keep.refl wr).alloc _ _
              have x0 : (wr.alloc (.cells #[.slice q.a.A g q.a.c, .slice q.b.A s q.b.c] 33)).cell? ⟨z0, 0, none⟩ = some (.slice q.a.A g q.a.c) := by rw [← hz0, World.cell?_alloc_at _ _ _ _ rfl]; rfl
              obtain ⟨wx, hwx⟩ : ∃ wx, wr.alloc (.cells #[.slice q.a.A g q.a.c, .slice q.b.A s q.b.c] 33) = wx := ⟨_, rfl⟩
              rw [hwx] at ka x0
              have c2' := (Below.cell ka (World.block_lt_of_cell? wr _ c2)).trans c2
              have C0 := Lib.hid (equal_any _ _ g r2.n q.a.c r2.c q.a.A r2.A q.a.xs r2.xs wx.drew ((h1.keep (Nat.le_refl _) ka).keep ka.size (Keep.drew (Keep.refl wx))) ((h2.keep (Nat.le_refl _) ka).keep ka.size (Keep.drew (Keep.refl wx))))
              rw [decide_eq_true hxx] at C0
              have HKX : Hid (Keep w9 wx.drew) := (hk.trans ka).drew
              have e1 : (0 : Int) ≤ (i : Int) := Int.natCast_nonneg _
              have e2 : (i : Int) < (n9 : Int) := by omega
              have e3 : (i : Int) < (n7 : Int) := by have := N7.out; have := N9.out; omega
              clear hk hq hr2 hqq hxx h1 h2 la l2 ka
              go_wp2_with fail
              clear hwx hz0 ca cb c2
              refine wp_region_noPanic ?_
              refine wp_region_held_drew (S := fun wz => wz.cell? ⟨z0, 0, none⟩ = some (.slice q.a.A g q.a.c) ∧ wz.cell? ⟨b2, o2 + i, none⟩ = some (.slice r2.A r2.n r2.c)) (by kernel_rfl) ⟨x0, c2'⟩ (fun hHeld => ?_)
              refine wpAnyH_take (i := 0) (v := ?_) rfl (by kernel_rfl) (by kernel_rfl) (by kernel_rfl) (fun _ _ _ h => h) (Or.inl ⟨by rfl, ?_⟩) hHeld ?_
              rotate_left
              · intro wq hSw
                go_simp
                all_goals with_reducible rfl
              try simp only [Act.put, List.getElem_toArray, List.getElem_cons_succ, List.getElem_cons_zero, List.setIfInBounds_toArray, List.set_cons_zero, List.set_cons_succ]
              refine wpAnyH_take (i := 1) (v := ?_) rfl (by kernel_rfl) (by kernel_rfl) (by kernel_rfl) (fun _ _ _ h => h) (Or.inl ⟨by rfl, ?_⟩) hHeld ?_
              rotate_left
              · intro wq hSw
                have q0 := hSw.1
                go_simp
                all_goals with_reducible rfl
              try simp only [Act.put, List.getElem_toArray, List.getElem_cons_succ, List.getElem_cons_zero, List.setIfInBounds_toArray, List.set_cons_zero, List.set_cons_succ]
              refine wpAnyH_take (i := 2) (v := ?_) rfl (by kernel_rfl) (by kernel_rfl) (by kernel_rfl) (fun _ _ _ h => h) (Or.inl ⟨by rfl, ?_⟩) hHeld ?_
              rotate_left
              · intro wq hSw
                go_simp
                all_goals with_reducible rfl
              try simp only [Act.put, List.getElem_toArray, List.getElem_cons_succ, List.getElem_cons_zero, List.setIfInBounds_toArray, List.set_cons_zero, List.set_cons_succ]
              refine wpAnyH_take (i := 3) (v := ?_) rfl (by kernel_rfl) (by kernel_rfl) (by kernel_rfl) (fun _ _ _ h => h) (Or.inl ⟨by rfl, ?_⟩) hHeld ?_
              rotate_left
              · intro wq hSw
                go_simp
                all_goals with_reducible rfl
              try simp only [Act.put, List.getElem_toArray, List.getElem_cons_succ, List.getElem_cons_zero, List.setIfInBounds_toArray, List.set_cons_zero, List.set_cons_succ]
              refine wpAnyH_take (i := 4) (v := ?_) rfl (by kernel_rfl) (by kernel_rfl) (by kernel_rfl) (fun _ _ _ h => h) (Or.inl ⟨by rfl, ?_⟩) hHeld ?_
              rotate_left
              · intro wq hSw
                go_simp
                all_goals with_reducible rfl
              try simp only [Act.put, List.getElem_toArray, List.getElem_cons_succ, List.getElem_cons_zero, List.setIfInBounds_toArray, List.set_cons_zero, List.set_cons_succ]
              refine wpAnyH_take (i := 5) (v := ?_) rfl (by kernel_rfl) (by kernel_rfl) (by kernel_rfl) (fun _ _ _ h => h) (Or.inl ⟨by rfl, ?_⟩) hHeld ?_
              rotate_left
              · intro wq hSw
                have q0 := hSw.2
                go_simp
                all_goals with_reducible rfl
              try simp only [Act.put, List.getElem_toArray, List.getElem_cons_succ, List.getElem_cons_zero, List.setIfInBounds_toArray, List.set_cons_zero, List.set_cons_succ]
              refine wpAnyH_ready (rs := [6]) (by kernel_rfl) (by simp) ?_
              refine AllReadyH.cons rfl (fun K hK => ?_) AllReadyH.nil
              go_simp
              refine (C0.out).mono ?_
              rintro e w8 ⟨rfl, rfl⟩
              refine hK.out _ _ ⟨x0, c2'⟩ (fun hHeld => ?_)
              clear hK K
              try simp only [Act.put, List.getElem_toArray, List.getElem_cons_succ, List.getElem_cons_zero, List.setIfInBounds_toArray, List.set_cons_zero, List.set_cons_succ]
              refine wpAnyH_take (i := 7) (v := ?_) rfl (by kernel_rfl) (by kernel_rfl) (by kernel_rfl) (fun _ _ _ h => h) (Or.inl ⟨by rfl, ?_⟩) hHeld ?_
              rotate_left
              · intro wq hSw
                go_simp
                all_goals with_reducible rfl
              try simp only [Act.put, List.getElem_toArray, List.getElem_cons_succ, List.getElem_cons_zero, List.setIfInBounds_toArray, List.set_cons_zero, List.set_cons_succ]
              refine wpAnyH_done (by kernel_rfl) ?_ _
              refine NoPanic.normal ?_
              clear hHeld
              go_wp2_with fail
              go_roundw
              case rel => exact ⟨i + 1, by omega, by go_num, HKX.out⟩
              case measure => simp [intOf]; omega
            · obtain rfl : i = n9 := by omega
              go_wp2_with fail
              have KW : Hid (Keep w0 wr) := K9.out.1.trans HK.out
              have VB := Lib.hid (H.out.vec.keep KW.out)
              refine (bcontains_in (R9.out.keep HK.out) wr.heap.size g _ V (Nat.le_refl _) VB.out.bytes (Nat.le_refl _)).mono ?_
              obtain ⟨p, hp⟩ : ∃ p, decide (inB g s B (V ++ List.replicate s 0)) = p := ⟨_, rfl⟩
              rw [hp]
              have HP := Lib.hid hp
              clear hp hk
              rintro e w10 ⟨rfl, k10⟩
              have K10 := Lib.hid (KW.out.trans k10)
              have KK := Lib.hid ((K9.out.2.trans HK.out).trans k10)
              clear k10 KW VB
              have ho := Lib.hid (HLO.out.keep K10.out)
              go_wp2_with (at_builtin; refine wpList_append_row rfl _ _ 48 rfl ⟨some ⟨vb, 0, none⟩, g, g, V⟩ Try.underlying48 infoRow rfl (ho.out.alloc _) rfl (by rw [World.cell?_alloc_at _ _ _ _ (by simp)]; rfl) (by omega) (by have := H.out.set.le; have := K10.out.size; simp; omega) ?_)
              intro A8 c8 w11 h11 hgr11 hb11
              have hrl := H.out.own.length
              have hri : RowsIn w11 (fun b => b < w11.heap.size) A8 (j + 1) (rl ++ [⟨some ⟨vb, 0, none⟩, g, g, V⟩]) := by
                have kT : Turned (fun x => (Value.slice Al j cl).ownBlock = some x) w10 w11 := (Turned.of_keep ((Keep.refl w10).alloc _ _)).trans (Turned.of_grown (F := fun x => (Value.slice Al j cl).ownBlock = some x) hgr11 fun i e => e) fun i e => Or.inl e
                refine RowsIn.of_own h11 (fun r' hr' => ?_) (fun b hb => (h11.lt b hb).2)
                rw [List.mem_append, List.mem_singleton] at hr'
                rcases hr' with hr' | rfl
                · rw [← HRL.out] at hr'
                  obtain ⟨p, hp, rfl⟩ := List.mem_map.1 (List.mem_of_mem_take hr')
                  have hl := ((H.out.set.keep K10.out).turned kT fun x e => (ho.out.lt x e).1).rows.2.1 p hp
                  exact hl.1.mono fun b hb => Nat.lt_of_lt_of_le (Nat.lt_of_lt_of_le hb (H.out.set.keep K10.out).le) kT.size
                · have hv := (H.out.vec.keep K10.out).turned kT fun x e he => by
                    have : vb = x := by injection e
                    subst this; exact H.out.vl vb he rfl
                  exact hv.lies.mono fun b hb => (hv.1.lt b hb).2
              have HRI2 := Lib.hid hri
              have KL : Hid (Keep w w11) := ((Turned.of_keep ((Keep.refl w10).alloc _ _)).trans (Turned.of_grown (F := fun x => (Value.slice Al j cl).ownBlock = some x) hgr11 fun i e => e) fun i e => Or.inl e).keep KK.out fun x e => Nat.le_trans H.out.hN (ho.out.lt x e).1
              have hsz : Sz (j + 1) g (C ++ [V]) := ⟨by rw [List.length_append, HC.out.1.sz.1]; rfl, fun x hx => by
                rcases List.mem_append.1 hx with h | h
                · exact HC.out.1.sz.2 x h
                · rw [List.mem_singleton] at h; subst h; exact HV.out⟩
              have hxs : rowsXs (rl ++ [⟨some ⟨vb, 0, none⟩, g, g, V⟩]) = C ++ [V] := by
                rw [rowsXs, List.map_append, ← HC.out.2]; rfl
              have HM2 := mrank_any (j + 1) c8 A8 _ _ w11 HRI2.out (fun b hb => hb) (by omega) (by rw [hxs, hsz.sizeC (by omega)]; omega)
              rw [hxs, hsz.sizeE] at HM2
              obtain ⟨r3, hr3⟩ : ∃ r3, (reduceN (C ++ [V])).length = r3 := ⟨_, rfl⟩
              have hpq : p = decide (r3 = r) := by
                rw [← HP.out, ← hr3, ← HR.out]
                exact decide_eq_decide.2 (HC.out.1.inn V HV.out.1 HV.out.2)
              rw [hr3] at HM2
              have HM2 := Lib.hid HM2
              have hpq2 : p = ((r3 : Int) == (r : Int)) := by
                rw [hpq]
                by_cases h : r3 = r
                · rw [decide_eq_true h, beq_iff_eq.2 (by omega)]
                · rw [decide_eq_false h, beq_eq_false_iff_ne.2 (by omega)]
              clear h11 hgr11 hb11 hri hsz hxs hr3 hrl ho HRI2
              go_wp2_with fail
              refine HM2.out.mono ?_
              rintro e w12 ⟨rfl, k12⟩
              have K12 := Lib.hid (KL.out.trans k12)
              clear k12 HM2
              by_cases h3 : r3 = r
              · have d3 : ((r3 : Int) == (r : Int)) = true := beq_iff_eq.2 (by omega)
                rw [d3] at hpq2
                clear hpq h3
                subst hpq2
                go_wp2_with fail
                go_ret
                exact ⟨rfl, K12.out⟩
              · have d3 : ((r3 : Int) == (r : Int)) = false := beq_eq_false_iff_ne.2 (by omega)
                rw [d3] at hpq2
                clear hpq h3
                subst hpq2
                go_wp2_with fail
                go_ret
                exact ⟨rfl, K12.out⟩
end Go.Proofs.Yticllkklbogcnaa
