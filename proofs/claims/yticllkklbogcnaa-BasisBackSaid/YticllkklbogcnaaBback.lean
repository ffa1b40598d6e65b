/- The walk of BasisBack. -/
import Derived.Test.YticllkklbogcnaaBset
set_option linter.unusedVariables false
set_option linter.unusedSimpArgs false
namespace Go.Proofs.Yticllkklbogcnaa
open Go.RowKit
set_option maxRecDepth 100000 in
set_option maxHeartbeats 8000000 in
theorem back_any (G S n1 c1 n2 c2 n3 c3 : Nat) (A1 A2 A3 : Option Addr) (rs1 rs2 : List RowV) (w : World) (h1 : RowsAt w w.heap.size A1 n1 rs1) (h2 : RowsAt w w.heap.size A2 n2 rs2) (m1 : n1 ≤ 140737488351232) (m2 : n2 ≤ 140737488351232) (hG : G < 256) (hS : S < 256) :
    Calls Try.prog 4 #[.agg #[.int .u8 (G : Int), .int .u8 (S : Int), .slice A1 n1 c1, .slice A2 n2 c2, .slice A3 n3 c3]] w fun e w' => e = .returned (.bool true) ∧ Keep w w' := by
  obtain ⟨g, hg⟩ : ∃ g, 1 + G % 10 = g := ⟨_, rfl⟩
  obtain ⟨s, hs⟩ : ∃ s, 1 + S % 10 = s := ⟨_, rfl⟩
  obtain ⟨M, hM⟩ : ∃ M, symM (rowsOf rs1) s g = M := ⟨_, rfl⟩
  have H := Lib.hid (And.intro h1 (And.intro h2 (And.intro hg (And.intro hs hM))))
  have hall : ∀ {rs : List RowV} {A : Option Addr} {n : Nat}, RowsAt w w.heap.size A n rs → ∀ x ∈ rowsOf rs, AllB x := fun {rs A n} h x hx => by
    obtain ⟨r, hr, rfl⟩ := List.mem_map.1 hx
    exact (h.2.1 r hr).1.all
  have HA := Lib.hid (And.intro (hall h1) (hall h2))
  clear h1 h2 hg hs hM hall
  go_enter Try.func4, Try.ntmps4
  go_wp2_with fail
  have kbx : Keep w (w.alloc (.cells #[.int .u8 (G : Int), .int .u8 (S : Int), .slice A1 n1 c1, .slice A2 n2 c2, .slice A3 n3 c3] 60)) := (Keep.refl w).alloc _ _
  have h1b := (H.out.1.keep (Nat.le_refl _) kbx)
  have h2b := (H.out.2.1.keep (Nat.le_refl _) kbx)
  have hup : ∀ {A : Option Addr} {n : Nat} {rs : List RowV}, RowsAt (w.alloc (.cells #[.int .u8 (G : Int), .int .u8 (S : Int), .slice A1 n1 c1, .slice A2 n2 c2, .slice A3 n3 c3] 60)) w.heap.size A n rs → RowsAt (w.alloc (.cells #[.int .u8 (G : Int), .int .u8 (S : Int), .slice A1 n1 c1, .slice A2 n2 c2, .slice A3 n3 c3] 60)) (w.alloc (.cells #[.int .u8 (G : Int), .int .u8 (S : Int), .slice A1 n1 c1, .slice A2 n2 c2, .slice A3 n3 c3] 60)).heap.size A n rs := fun {A n rs} h => ⟨h.1, fun r hr => ⟨(h.2.1 r hr).1.mono kbx.size, (h.2.1 r hr).2⟩, fun hp => by
    obtain ⟨b, off, e, hb, hc⟩ := h.2.2 hp
    exact ⟨b, off, e, Nat.lt_of_lt_of_le hb kbx.size, hc⟩⟩
  refine (laid_any G S n1 c1 n2 c2 n3 c3 A1 A2 A3 rs1 rs2 _ (hup h1b) (hup h2b) m1 m2 hG hS g s H.out.2.2.1 H.out.2.2.2.1 M H.out.2.2.2.2).mono ?_
  rintro e w1 ⟨As, cs, rss, Ar, k, cr, ps, rfl, sy1, sx1, st1, px1, pn1, k1, kcr⟩
  have K1 := Lib.hid (kbx.trans k1)
  have KN : Hid (Known g s M rss ps) := known_of H.out.2.2.1 H.out.2.2.2.1 HA.out.1 HA.out.2 H.out.2.2.2.2 sx1 (fun r hr => (sy1.2.1 r hr).1) px1 pn1
  have S1 : Hid (Setup w1.heap.size w1 g s M As rss Ar k ps) := ⟨sy1.mono fun b hb => hb.2, st1.mono fun b hb => hb.2, Nat.le_refl _⟩
  have HKL : Hid (ps.length = k) := st1.1
  have KCR := Lib.hid kcr
  clear kbx h1b h2b hup sy1 sx1 st1 px1 pn1 k1 kcr H HA
  obtain ⟨N, hN⟩ : ∃ N, w1.heap.size = N := ⟨_, rfl⟩
  rw [hN] at S1
  have HN := Lib.hid hN
  clear hN
  have q1 := KN.out.g1
  have q2 := KN.out.g2
  have q3 := KN.out.s1
  have q4 := KN.out.s2
  have q5 : k ≤ 40 := by have := KN.out.len; have := HKL.out; omega
  go_wp2_with fail
  refine (bnew_in g s q1 (by omega) q3 (by omega) _).mono ?_
  rintro e w2 ⟨b, F, rfl, r2, f2, k2⟩
  have R2 := Lib.hid r2
  have F2 : Hid (∀ k, F k → N ≤ k) := fun k hk => by rw [← HN.out]; exact f2 k hk
  have S2 := Lib.hid (S1.out.keep k2)
  have K2 := Lib.hid (K1.out.trans k2)
  clear r2 f2 k2 S1
  go_wp2_with fail
  refine (awake_any _).mono ?_
  rintro e w3 ⟨rfl, k3⟩
  have R3 := Lib.hid (R2.out.keep k3)
  have S3 := Lib.hid (S2.out.keep k3)
  have K3 := Lib.hid (K2.out.trans k3)
  clear k3 R2 S2 K2
  obtain ⟨W, hW⟩ : ∃ W, ps.map PairV.xs = W := ⟨_, rfl⟩
  have HW : Hid (W.length = k ∧ SymRows g s M W ∧ ∀ (j : Nat) (p : PairV), ps[j]? = some p → W.getD j [] = p.a.xs ++ p.b.xs) := by
    rw [← hW]
    exact ⟨by rw [List.length_map]; exact HKL.out, KN.out.sym, fun j p hp => Known.at_ (g := g) (s := s) (M := M) (rss := rss) hp⟩
  clear hW
  go_wp2_with fail
  go_loopw [9, 44] (fun rv iv wr => ∃ (j : Nat) (F : Nat → Prop), j ≤ k ∧ iv = .int .i64 j ∧ rv = .int .i64 ((basK g s W j).length : Nat) ∧ BasR wr F b g s (basK g s W j) ∧ (∀ x, F x → N ≤ x) ∧ Setup N wr g s M As rss Ar k ps ∧ Keep w wr) (fun _ iv _ => k - (intOf iv).toNat)
  case atStart => exact ⟨0, F, by omega, rfl, rfl, R3.out, F2.out, S3.out, K3.out⟩
  case round =>
    clear R3 F2 S3 K3
    obtain ⟨j, F, hj, rfl, rfl, hR, hF, hS, hK⟩ := hrel
    have HR := Lib.hid hR
    have HF := Lib.hid hF
    have HS := Lib.hid hS
    have HK := Lib.hid hK
    have HBS := Lib.hid (basK_sym HW.out.2.1 j (by rw [HW.out.1]; exact hj))
    clear hR hF hK
    by_cases hlt : j < k
    · obtain ⟨b0, off, p, rfl, hb0, hp, ca, cb, la, lb⟩ := hS.rows.at_ hlt
      have hkp := KN.out.rows p (List.mem_of_getElem? hp)
      have hbs := (basK_sym HW.out.2.1 (j + 1) (by rw [HW.out.1]; exact hlt)).1
      have hsu := basK_succ (g := g) (s := s) (rows := W) (k := j) (by rw [HW.out.1]; exact hlt)
      rw [HW.out.2.2 j p hp] at hsu
      have hl2 : (p.a.xs ++ p.b.xs).length = g + s ∧ AllB (p.a.xs ++ p.b.xs) := by
        have := KN.out.sym (p.a.xs ++ p.b.xs) (List.mem_map.2 ⟨p, List.mem_of_getElem? hp, rfl⟩)
        exact ⟨this.1, this.2.1⟩
      have haft := inB_after (g := g) (s := s) (row := p.a.xs ++ p.b.xs) HBS.out.1 hl2.1 hl2.2
      rw [← hsu] at haft
      have hzz : (p.a.xs ++ List.replicate s 0).length = g + s ∧ AllB (p.a.xs ++ List.replicate s 0) := ⟨by rw [List.length_append, hkp.2.2.1, List.length_replicate], hkp.2.2.2.1.append (AllB.zeros s)⟩
      have hez : ∀ i, i < g → (p.a.xs ++ List.replicate s 0).getD i 0 = (p.a.xs ++ p.b.xs).getD i 0 := fun i hi => by
        rw [List.getD_eq_getElem?_getD, List.getElem?_append_left (by rw [hkp.2.2.1]; exact hi), List.getD_eq_getElem?_getD, List.getElem?_append_left (by rw [hkp.2.2.1]; exact hi)]
      have hq1 := inB_congr HBS.out.1 hzz.1 hzz.2 hl2.1 hl2.2 hez
      have hq2 := inB_congr hbs hzz.1 hzz.2 hl2.1 hl2.2 hez
      have hln := insB_len (g := g) (s := s) (B := basK g s W j) (row := p.a.xs ++ p.b.xs)
      rw [← hsu] at hln
      have hbl := hbs.length_le
      have HCP : Hid (g ≤ p.a.c ∧ s ≤ p.b.c) := ⟨by have h1 := la.2.2.1; have h2 := hkp.1; omega, by have h1 := lb.2.2.1; have h2 := hkp.2.1; omega⟩
      have B1 : Hid (Bytes wr wr.heap.size p.a.A g p.a.xs) := by
        have := la.bytes (B := wr.heap.size) fun x hx => Nat.lt_of_lt_of_le hx hS.le
        rw [hkp.1] at this; exact this
      have B2 : Hid (Bytes wr wr.heap.size p.b.A s p.b.xs) := by
        have := lb.bytes (B := wr.heap.size) fun x hx => Nat.lt_of_lt_of_le hx hS.le
        rw [hkp.2.1] at this; exact this
      have HLA := Lib.hid (And.intro la hkp.1)
      rw [hkp.1] at ca
      rw [hkp.2.1] at cb
      have e1 : (0 : Int) ≤ (j : Int) := Int.natCast_nonneg _
      have e2 : (j : Int) < (k : Int) := by omega
      have ka : Keep wr (wr.alloc (.cells #[.slice p.a.A g p.a.c, .slice p.b.A s p.b.c] 33)) := (Keep.refl wr).alloc _ _
      have hqa := heap_alloc_new wr (.cells #[.slice p.a.A g p.a.c, .slice p.b.A s p.b.c] 33)
      have RA := Lib.hid (HR.out.keep ka)
      have KA := Lib.hid ka
      have HQ : Hid ((inB g s (basK g s W j) (p.a.xs ++ List.replicate s 0) ↔ inB g s (basK g s W j) (p.a.xs ++ p.b.xs)) ∧ inB g s (basK g s W (j + 1)) (p.a.xs ++ List.replicate s 0) ∧ basK g s W (j + 1) = insB g s (basK g s W j) (p.a.xs ++ p.b.xs) ∧ (basK g s W (j + 1)).length = (basK g s W j).length + (if inB g s (basK g s W j) (p.a.xs ++ p.b.xs) then 0 else 1) ∧ (basK g s W (j + 1)).length ≤ g) := ⟨hq1, hq2.2 haft, hsu, hln, hbl⟩
      have HQA := Lib.hid hqa
      clear hS hp hkp hbs hsu hl2 haft hzz hez hq1 hq2 hln hbl la lb ka hqa hb0
      go_wp2_with fail
      refine (bcontains_in RA.out _ _ p.a.A p.a.xs HCP.out.1 (B1.out.keep (Nat.le_refl _) KA.out) KA.out.size).mono ?_
      rw [show decide (inB g s (basK g s W j) (p.a.xs ++ List.replicate s 0)) = decide (inB g s (basK g s W j) (p.a.xs ++ p.b.xs)) from decide_eq_decide.2 HQ.out.1]
      rintro e w4 ⟨rfl, k4⟩
      have R4 := Lib.hid (RA.out.keep k4)
      have K4 := Lib.hid (KA.out.trans k4)
      have h4 : w4.heap[wr.heap.size]? = some (.cells #[.slice p.a.A g p.a.c, .slice p.b.A s p.b.c] 33 (0, 0)) := (k4.block _ (by simp)).trans HQA.out
      obtain ⟨q, hq⟩ : ∃ q, wr.heap.size = q := ⟨_, rfl⟩
      rw [hq] at h4
      have c40 : w4.cell? ⟨q, 0, none⟩ = some (.slice p.a.A g p.a.c) := by simp [World.cell?, h4]
      have c41 : w4.cell? ⟨q, 1, none⟩ = some (.slice p.b.A s p.b.c) := by simp [World.cell?, h4]
      have H4 := Lib.hid h4
      have HQQ := Lib.hid hq
      try rw [hq]
      clear k4 h4 RA KA HQA ca cb hq
      go_wp2_with fail
      refine (binsert_in R4.out _ _ _ _ p.a.A p.b.A p.a.xs p.b.xs HCP.out.1 HCP.out.2 (B1.out.keep (Nat.le_refl _) K4.out) (B2.out.keep (Nat.le_refl _) K4.out) K4.out.size K4.out.size).mono ?_
      rw [← HQ.out.2.2.1]
      rintro e w5 ⟨rfl, F5, r5, f5, t5⟩
      have R5 := Lib.hid r5
      have hqn : ¬ F q := fun e => by have := HR.out.fine.2.2.2.2.2 q e; have := HQQ.out; omega
      have h5 : w5.heap[q]? = some (.cells #[.slice p.a.A g p.a.c, .slice p.b.A s p.b.c] 33 (0, 0)) := (t5.block q (by have := (Array.getElem?_eq_some_iff.1 H4.out).1; exact this) hqn).trans H4.out
      have c50 : w5.cell? ⟨q, 0, none⟩ = some (.slice p.a.A g p.a.c) := by simp [World.cell?, h5]
      have F5N : Hid (∀ x, F5 x → N ≤ x) := fun x hx => by
        rcases f5 x hx with h | h
        · exact HF.out x h
        · have := HS.out.le; have := K4.out.size; omega
      have K5 : Hid (Keep w w5) := t5.keep (HK.out.trans K4.out) fun x hx => by
        have := HF.out x hx
        have := HN.out
        have := K1.out.size
        omega
      have S5 := Lib.hid ((HS.out.keep K4.out).turned t5 fun x hx => HF.out x hx)
      have B5 : Hid (Bytes w5 w5.heap.size p.a.A g p.a.xs) := by
        have z := ((HLA.out.1.turned (Turned.of_keep (F := fun _ => False) K4.out) fun _ _ e => e).turned t5 fun x hx e => by have := HF.out x e; have hx : x < N := hx; omega).bytes (B := w5.heap.size) fun x hx => Nat.lt_of_lt_of_le hx S5.out.le
        rw [HLA.out.2] at z; exact z
      clear r5 f5 t5 hqn h5 c40 c41 H4 R4
      go_wp2_with fail
      refine (bcontains_in R5.out _ _ p.a.A p.a.xs HCP.out.1 B5.out (Nat.le_refl _)).mono ?_
      rw [decide_eq_true HQ.out.2.1]
      rintro e w6 ⟨rfl, k6⟩
      have R6 := Lib.hid (R5.out.keep k6)
      have S6 := Lib.hid (S5.out.keep k6)
      have K6 := Lib.hid (K5.out.trans k6)
      clear k6 R5 S5 K5 B5 c50
      have hlg := HQ.out.2.2.2.2
      have hll := HQ.out.2.2.2.1
      by_cases hin : inB g s (basK g s W j) (p.a.xs ++ p.b.xs)
      · have HIN := Lib.hid hin
        rw [if_pos hin] at hll
        rw [decide_eq_true hin]
        have b1 : ((((basK g s W (j + 1)).length : Nat) : Int) != (((basK g s W j).length : Nat) : Int)) = false := by rw [hll]; simp
        have b2 : ¬ (g : Int) < ((basK g s W j).length : Int) := by omega
        clear hin
        go_wp2_with fail
        refine (brank_any R6.out).mono ?_
        rintro e w7 ⟨rfl, k7⟩
        have R7 := Lib.hid (R6.out.keep k7)
        have S7 := Lib.hid (S6.out.keep k7)
        have K7 := Lib.hid (K6.out.trans k7)
        clear k7 R6 S6 K6
        go_wp2_with fail
        go_roundw
        case rel => exact ⟨j + 1, F5, by omega, by go_num, by rw [HQ.out.2.2.2.1, if_pos HIN.out]; rfl, R7.out, F5N.out, S7.out, K7.out⟩
        case measure => simp [intOf]; omega
      · have HIN := Lib.hid hin
        rw [if_neg hin] at hll
        rw [decide_eq_false hin]
        have b1 : ((((basK g s W (j + 1)).length : Nat) : Int) != (((basK g s W j).length : Nat) : Int) + 1) = false := by rw [hll]; simp
        have b2 : ¬ (g : Int) < ((basK g s W j).length : Int) + 1 := by omega
        have b3 : ((basK g s W j).length : Int) + 1 ≤ 100 := by omega
        clear hin
        go_wp2_with fail
        refine (brank_any R6.out).mono ?_
        rintro e w7 ⟨rfl, k7⟩
        have R7 := Lib.hid (R6.out.keep k7)
        have S7 := Lib.hid (S6.out.keep k7)
        have K7 := Lib.hid (K6.out.trans k7)
        clear k7 R6 S6 K6
        go_wp2_with fail
        go_roundw
        case rel => exact ⟨j + 1, F5, by omega, by go_num, by rw [HQ.out.2.2.2.1, if_neg HIN.out]; rfl, R7.out, F5N.out, S7.out, K7.out⟩
        case measure => simp [intOf]; omega
    · obtain rfl : j = k := by omega
      obtain ⟨B, hB⟩ : ∃ B, basK g s W j = B := ⟨_, rfl⟩
      have HWJ : Hid (W.take j = W) := List.take_of_length_le (by rw [HW.out.1]; exact Nat.le_refl _)
      have HBB : Hid (Bas g s B ∧ Lin.Within B.length (Lin.fn B) g (symR g M)) := by rw [← hB]; exact ⟨HBS.out.1, HBS.out.2.1⟩
      rw [hB] at HR
      rw [hB]
      have hbl := HBB.out.1.length_le
      have S4 := Lib.hid hS
      clear hS hB HBS hj hlt
      go_wp2_with fail
      refine (brows_any HR.out).mono ?_
      rintro e w4 ⟨A4, n4, c4, qs, rfl, o4⟩
      have O4 := Lib.hid o4
      have HQ4 : Hid (n4 = B.length) := by show _ = _; rw [← o4.1.length, ← o4.2.2.1, List.length_map]
      have hn4 : n4 ≤ 10 := by have := HQ4.out; omega
      have S5 := Lib.hid (S4.out.keep o4.2.2.2)
      have R5 := Lib.hid (HR.out.keep o4.2.2.2)
      have K5 := Lib.hid (HK.out.trans o4.2.2.2)
      have ST5 := Lib.hid (o4.stIn.mono (F' := fun x => x < w4.heap.size) fun x hx => hx.2)
      have HROW : Hid (∀ q ∈ qs, q.a.n = g ∧ q.b.n = s ∧ q.a.xs.length = g ∧ AllB q.a.xs ∧ q.b.xs = payV g s M q.a.xs) := fun q hq => by
        have hk := o4.2.1 q hq
        have hl := hk.1.length
        rw [hk.2.2.1] at hl
        have hm : q.xs ∈ B := by rw [← o4.2.2.1]; exact List.mem_map.2 ⟨q, hq, rfl⟩
        have hr := bas_rows KN.out.sz HBB.out.1 HBB.out.2 _ hm
        have ht : q.xs.take g = q.a.xs := by rw [PairV.xs, ← hl, List.take_left]
        rw [ht] at hr
        exact ⟨hk.2.2.1, hk.2.2.2, hl, hk.1.2, List.append_cancel_left (hr : q.a.xs ++ q.b.xs = q.a.xs ++ payV g s M q.a.xs)⟩
      clear o4 HR S4 HF HK
      go_wp2_with fail
      go_loopw [95] (fun iv wr => ∃ i : Nat, i ≤ n4 ∧ iv = .int .i64 i ∧ Keep w4 wr) (fun iv _ => n4 - (intOf iv).toNat)
      case atStart => exact ⟨0, by omega, rfl, Keep.refl _⟩
      case round =>
        obtain ⟨i, hi, rfl, hk4⟩ := hrel
        have HK4 := Lib.hid hk4
        clear hk4
        by_cases hlt2 : i < n4
        · obtain ⟨b0, off, q, rfl, hb0, hq, ca, cb, la, lb⟩ := (ST5.out.keep HK4.out).at_ hlt2
          have hkq := HROW.out q (List.mem_of_getElem? hq)
          have B1 : Hid (Bytes wr wr.heap.size q.a.A g q.a.xs) := by
            have := la.bytes (B := wr.heap.size) fun x hx => Nat.lt_of_lt_of_le hx HK4.out.size
            rw [hkq.1] at this; exact this
          have B2 : Hid (Bytes wr wr.heap.size q.b.A s q.b.xs) := by
            have := lb.bytes (B := wr.heap.size) fun x hx => Nat.lt_of_lt_of_le hx HK4.out.size
            rw [hkq.2.1] at this; exact this
          rw [hkq.1] at ca
          rw [hkq.2.1] at cb
          have HPX := Lib.hid hkq.2.2.2.2
          have e3 : (0 : Int) ≤ (i : Int) := Int.natCast_nonneg _
          have e4 : (i : Int) < (n4 : Int) := by omega
          have hka : Keep wr (wr.alloc (.cells #[.slice q.a.A g q.a.c, .slice q.b.A s q.b.c] 33)) := (Keep.refl wr).alloc _ _
          have hqa := heap_alloc_new wr (.cells #[.slice q.a.A g q.a.c, .slice q.b.A s q.b.c] 33)
          obtain ⟨wa, hwa⟩ : ∃ wa, wr.alloc (.cells #[.slice q.a.A g q.a.c, .slice q.b.A s q.b.c] 33) = wa := ⟨_, rfl⟩
          rw [hwa] at hka hqa
          obtain ⟨x, hx⟩ : ∃ x, wr.heap.size = x := ⟨_, rfl⟩
          rw [hx] at hqa
          have c0 : wa.cell? ⟨x, 0, none⟩ = some (.slice q.a.A g q.a.c) := by simp [World.cell?, hqa]
          have c1 : wa.cell? ⟨x, 1, none⟩ = some (.slice q.b.A s q.b.c) := by simp [World.cell?, hqa]
          have KA := Lib.hid hka
          have HQL : Hid (x < wa.heap.size) := by have := hka; show x < _; rw [← hwa, ← hx]; simp
          clear la lb hq hkq hb0 hka hqa
          go_wp2_with fail
          try rw [hwa]
          try rw [hx]
          clear hwa hx
          refine wp_region_noPanic ?_
          refine wp_region_held_drew (S := fun wz => wz.cell? ⟨x, 0, none⟩ = some (.slice q.a.A g q.a.c) ∧ wz.cell? ⟨x, 1, none⟩ = some (.slice q.b.A s q.b.c)) (by kernel_rfl) ⟨c0, c1⟩ (fun hHeld => ?_)
          refine wpAnyH_take (i := 0) (v := ?_) rfl (by kernel_rfl) (by kernel_rfl) (by kernel_rfl) (fun _ _ _ h => h) (Or.inl ⟨by rfl, ?_⟩) hHeld ?_
          rotate_left
          · intro wq hSw
            go_simp
            all_goals with_reducible rfl
          try simp only [Act.put, List.getElem_toArray, List.getElem_cons_succ, List.getElem_cons_zero, List.setIfInBounds_toArray, List.set_cons_zero, List.set_cons_succ]
          refine wpAnyH_take (i := 1) (v := ?_) rfl (by kernel_rfl) (by kernel_rfl) (by kernel_rfl) (fun _ _ _ h => h) (Or.inl ⟨by rfl, ?_⟩) hHeld ?_
          rotate_left
          · intro wq hSw
            have q0 := hSw.2
            go_simp
            all_goals with_reducible rfl
          try simp only [Act.put, List.getElem_toArray, List.getElem_cons_succ, List.getElem_cons_zero, List.setIfInBounds_toArray, List.set_cons_zero, List.set_cons_succ]
          refine wpAnyH_take (i := 2) (v := ?_) rfl (by kernel_rfl) (by kernel_rfl) (by kernel_rfl) (fun _ _ _ h => h) (Or.inl ⟨by rfl, ?_⟩) hHeld ?_
          rotate_left
          · intro wq hSw
            go_simp
            all_goals with_reducible rfl
          try simp only [Act.put, List.getElem_toArray, List.getElem_cons_succ, List.getElem_cons_zero, List.setIfInBounds_toArray, List.set_cons_zero, List.set_cons_succ]
          refine wpAnyH_take (i := 3) (v := ?_) rfl (by kernel_rfl) (by kernel_rfl) (by kernel_rfl) (fun _ _ _ h => h) (Or.inl ⟨by rfl, ?_⟩) hHeld ?_
          rotate_left
          · intro wq hSw
            have q0 := hSw.1
            go_simp
            all_goals with_reducible rfl
          try simp only [Act.put, List.getElem_toArray, List.getElem_cons_succ, List.getElem_cons_zero, List.setIfInBounds_toArray, List.set_cons_zero, List.set_cons_succ]
          refine wpAnyH_take (i := 4) (v := ?_) rfl (by kernel_rfl) (by kernel_rfl) (by kernel_rfl) (fun _ _ _ h => h) (Or.inl ⟨by rfl, ?_⟩) hHeld ?_
          rotate_left
          · intro wq hSw
            go_simp
            all_goals with_reducible rfl
          try simp only [Act.put, List.getElem_toArray, List.getElem_cons_succ, List.getElem_cons_zero, List.setIfInBounds_toArray, List.set_cons_zero, List.set_cons_succ]
          refine wpAnyH_take (i := 5) (v := ?_) rfl (by kernel_rfl) (by kernel_rfl) (by kernel_rfl) (fun _ _ _ h => h) (Or.inl ⟨by rfl, ?_⟩) hHeld ?_
          rotate_left
          · intro wq hSw
            go_simp
            all_goals with_reducible rfl
          try simp only [Act.put, List.getElem_toArray, List.getElem_cons_succ, List.getElem_cons_zero, List.setIfInBounds_toArray, List.set_cons_zero, List.set_cons_succ]
          refine wpAnyH_ready (rs := [6]) (by kernel_rfl) (by simp) ?_
          refine AllReadyH.cons rfl (fun K hK => ?_) AllReadyH.nil
          go_simp
          refine (rtimes_any _ g s _ cs _ As _ q.a.xs rss _ ((B1.out.keep (Nat.le_refl _) KA.out).keep KA.out.size (Keep.drew (Keep.refl _))) (((S5.out.keep HK4.out).keep KA.out).keep (Keep.drew (Keep.refl _))).sy KA.out.size (fun x hx => Nat.lt_of_lt_of_le hx (((S5.out.keep HK4.out).keep KA.out).keep (Keep.drew (Keep.refl _))).le) (by omega) (by omega) KN.out.sn).mono ?_
          rintro e w6 ⟨A6, n6, c6, rfl, o6, k6⟩
          obtain rfl : s = n6 := by rw [← o6.length]; exact (tab_length _ _).symm
          have O6 : Hid (Own w6 wa.heap.size 5 A6 s c6 q.b.xs) := by
            have z := o6
            rw [KN.out.sy] at z
            rw [HPX.out]; exact z
          have K6 : Hid (Keep wa w6) := (Keep.drew (Keep.refl wa)).trans k6
          have c06 := Below.cell K6.out (World.block_lt_of_cell? _ _ c0) |>.trans c0
          have c16 := Below.cell K6.out (World.block_lt_of_cell? _ _ c1) |>.trans c1
          clear o6 k6
          refine hK.out _ _ ⟨c06, c16⟩ (fun hHeld => ?_)
          clear hK K
          try simp only [Act.put, List.getElem_toArray, List.getElem_cons_succ, List.getElem_cons_zero, List.setIfInBounds_toArray, List.set_cons_zero, List.set_cons_succ]
          refine wpAnyH_ready (rs := [7]) (by kernel_rfl) (by simp) ?_
          refine AllReadyH.cons rfl (fun K hK => ?_) AllReadyH.nil
          go_simp
          refine (equal_any _ _ s s _ _ q.b.A A6 q.b.xs q.b.xs _ (B2.out.keep (Nat.le_refl _) (KA.out.trans K6.out)) O6.out.bytes).mono ?_
          rintro e w7 ⟨rfl, rfl⟩
          rw [decide_eq_true (rfl : q.b.xs = q.b.xs)]
          refine hK.out _ _ ⟨c06, c16⟩ (fun hHeld => ?_)
          clear hK K
          try simp only [Act.put, List.getElem_toArray, List.getElem_cons_succ, List.getElem_cons_zero, List.setIfInBounds_toArray, List.set_cons_zero, List.set_cons_succ]
          refine wpAnyH_take (i := 8) (v := ?_) rfl (by kernel_rfl) (by kernel_rfl) (by kernel_rfl) (fun _ _ _ h => h) (Or.inl ⟨by rfl, ?_⟩) hHeld ?_
          rotate_left
          · intro wq hSw
            go_simp
            all_goals with_reducible rfl
          try simp only [Act.put, List.getElem_toArray, List.getElem_cons_succ, List.getElem_cons_zero, List.setIfInBounds_toArray, List.set_cons_zero, List.set_cons_succ]
          refine wpAnyH_done (by kernel_rfl) ?_ _
          refine NoPanic.normal ?_
          clear hHeld
          have K8 : Hid (Keep w4 w6) := HK4.out.trans (KA.out.trans K6.out)
          go_wp2_with fail
          go_roundw
          case rel => exact ⟨i + 1, by omega, by go_num, K8.out⟩
          case measure => simp [intOf]; omega
        · obtain rfl : i = n4 := by omega
          have R6 := Lib.hid (R5.out.keep HK4.out)
          have S6 := Lib.hid (S5.out.keep HK4.out)
          have K6 := Lib.hid (K5.out.trans HK4.out)
          clear R5 S5 K5 HK4 hi hlt2
          by_cases hfull : B.length = g
          · have b1 : ¬ ((B.length : Nat) : Int) < (g : Int) := by omega
            have HSO := Lib.hid (solved KN.out.sz HBB.out.1 HBB.out.2 hfull)
            have HFU := Lib.hid hfull
            have b2 : ((g : Int) != (g : Int)) = false := by simp
            obtain ⟨bl, hbl2⟩ : ∃ bl, B.length = bl := ⟨_, rfl⟩
            rw [hbl2]
            rw [hbl2] at b1
            have b1d : decide ((bl : Int) < (g : Int)) = false := decide_eq_false b1
            have b1n : decide (bl < g) = false := decide_eq_false (by omega)
            clear hfull hbl hbl2
            go_wp2_with fail
            refine (bsolve_in R6.out HFU.out).mono ?_
            rw [HSO.out]
            rintro e w7 ⟨A7, c7, rs7, rfl, ow7, or7, ox7, k7⟩
            have ST7 : Hid (RowsIn w7 (fun x => x < w7.heap.size) A7 g rs7 ∧ rowsXs rs7 = M) := ⟨RowsIn.of_own ow7 (fun r hr => (or7 r hr).lies.mono fun x hx => ((or7 r hr).1.lt x hx).2) (fun x hx => (ow7.lt x hx).2), ox7⟩
            have S7 := Lib.hid (S6.out.keep k7)
            have K7 := Lib.hid (K6.out.trans k7)
            clear ow7 or7 ox7 k7 R6 S6 K6
            go_wp2_with fail
            go_loopw [134] (fun iv wr => ∃ (i m : Nat), i ≤ g ∧ iv = .int .i64 i ∧ wr = w7.drewN m) (fun iv _ => g - (intOf iv).toNat)
            case atStart => exact ⟨0, 0, by omega, rfl, rfl⟩
            case round =>
              obtain ⟨a, m, ha, rfl, rfl⟩ := hrel
              have km : Keep w7 (w7.drewN m) := (Keep.refl w7).drewN m
              by_cases hlt3 : a < g
              · obtain ⟨b1, o1, r1, rfl, hb1, hr1, cr1, lr1⟩ := (ST7.out.1.turned (Turned.of_keep (F := fun _ => False) km) fun _ _ e => e).at_ hlt3
                obtain ⟨b2, o2, r2, rfl, hb2, hr2, cr2, lr2⟩ := (S7.out.keep km).sy.at_ hlt3
                have hxx : r1.xs = r2.xs := by
                  have e1 := rowsXs_at' hr1
                  have e2 := rowsXs_at' hr2
                  rw [ST7.out.2] at e1
                  rw [KN.out.sy] at e2
                  exact e1.symm.trans e2
                have C0 := Lib.hid ((equal_any _ _ r1.n r2.n r1.c r2.c r1.A r2.A r1.xs r2.xs (w7.drewN m).drew ((lr1.bytes fun x hx => hx).keep (by have := km.size; omega) (Keep.drew (Keep.refl _))) ((lr2.bytes (B := N) fun x hx => hx).keep (by have := (S7.out.keep km).le; omega) (Keep.drew (Keep.refl _)))))
                rw [decide_eq_true hxx] at C0
                have e5 : (0 : Int) ≤ (a : Int) := Int.natCast_nonneg _
                have e6 : (a : Int) < (g : Int) := by omega
                clear lr1 lr2 hr1 hr2 hxx hb1 hb2 km
                go_wp2_with fail
                refine wp_region_noPanic ?_
                refine wp_region_held_drew (S := fun wz => wz.cell? ⟨b1, o1 + a, none⟩ = some (.slice r1.A r1.n r1.c) ∧ wz.cell? ⟨b2, o2 + a, none⟩ = some (.slice r2.A r2.n r2.c)) (by kernel_rfl) ⟨cr1, cr2⟩ (fun hHeld => ?_)
                refine wpAnyH_take (i := 0) (v := ?_) rfl (by kernel_rfl) (by kernel_rfl) (by kernel_rfl) (fun _ _ _ h => h) (Or.inl ⟨by rfl, ?_⟩) hHeld ?_
                rotate_left
                · intro wq hSw
                  go_simp
                  all_goals with_reducible rfl
                try simp only [Act.put, List.getElem_toArray, List.getElem_cons_succ, List.getElem_cons_zero, List.setIfInBounds_toArray, List.set_cons_zero, List.set_cons_succ]
                refine wpAnyH_take (i := 1) (v := ?_) rfl (by kernel_rfl) (by kernel_rfl) (by kernel_rfl) (fun _ _ _ h => h) (Or.inl ⟨by rfl, ?_⟩) hHeld ?_
                rotate_left
                · intro wq hSw
                  go_simp
                  all_goals with_reducible rfl
                try simp only [Act.put, List.getElem_toArray, List.getElem_cons_succ, List.getElem_cons_zero, List.setIfInBounds_toArray, List.set_cons_zero, List.set_cons_succ]
                refine wpAnyH_take (i := 2) (v := ?_) rfl (by kernel_rfl) (by kernel_rfl) (by kernel_rfl) (fun _ _ _ h => h) (Or.inl ⟨by rfl, ?_⟩) hHeld ?_
                rotate_left
                · intro wq hSw
                  go_simp
                  all_goals with_reducible rfl
                try simp only [Act.put, List.getElem_toArray, List.getElem_cons_succ, List.getElem_cons_zero, List.setIfInBounds_toArray, List.set_cons_zero, List.set_cons_succ]
                refine wpAnyH_take (i := 3) (v := ?_) rfl (by kernel_rfl) (by kernel_rfl) (by kernel_rfl) (fun _ _ _ h => h) (Or.inl ⟨by rfl, ?_⟩) hHeld ?_
                rotate_left
                · intro wq hSw
                  have q0 := hSw.1
                  go_simp
                  all_goals with_reducible rfl
                try simp only [Act.put, List.getElem_toArray, List.getElem_cons_succ, List.getElem_cons_zero, List.setIfInBounds_toArray, List.set_cons_zero, List.set_cons_succ]
                refine wpAnyH_take (i := 4) (v := ?_) rfl (by kernel_rfl) (by kernel_rfl) (by kernel_rfl) (fun _ _ _ h => h) (Or.inl ⟨by rfl, ?_⟩) hHeld ?_
                rotate_left
                · intro wq hSw
                  go_simp
                  all_goals with_reducible rfl
                try simp only [Act.put, List.getElem_toArray, List.getElem_cons_succ, List.getElem_cons_zero, List.setIfInBounds_toArray, List.set_cons_zero, List.set_cons_succ]
                refine wpAnyH_take (i := 5) (v := ?_) rfl (by kernel_rfl) (by kernel_rfl) (by kernel_rfl) (fun _ _ _ h => h) (Or.inl ⟨by rfl, ?_⟩) hHeld ?_
                rotate_left
                · intro wq hSw
                  go_simp
                  all_goals with_reducible rfl
                try simp only [Act.put, List.getElem_toArray, List.getElem_cons_succ, List.getElem_cons_zero, List.setIfInBounds_toArray, List.set_cons_zero, List.set_cons_succ]
                refine wpAnyH_take (i := 6) (v := ?_) rfl (by kernel_rfl) (by kernel_rfl) (by kernel_rfl) (fun _ _ _ h => h) (Or.inl ⟨by rfl, ?_⟩) hHeld ?_
                rotate_left
                · intro wq hSw
                  go_simp
                  all_goals with_reducible rfl
                try simp only [Act.put, List.getElem_toArray, List.getElem_cons_succ, List.getElem_cons_zero, List.setIfInBounds_toArray, List.set_cons_zero, List.set_cons_succ]
                refine wpAnyH_take (i := 7) (v := ?_) rfl (by kernel_rfl) (by kernel_rfl) (by kernel_rfl) (fun _ _ _ h => h) (Or.inl ⟨by rfl, ?_⟩) hHeld ?_
                rotate_left
                · intro wq hSw
                  have q0 := hSw.2
                  go_simp
                  all_goals with_reducible rfl
                try simp only [Act.put, List.getElem_toArray, List.getElem_cons_succ, List.getElem_cons_zero, List.setIfInBounds_toArray, List.set_cons_zero, List.set_cons_succ]
                refine wpAnyH_ready (rs := [8]) (by kernel_rfl) (by simp) ?_
                refine AllReadyH.cons rfl (fun K hK => ?_) AllReadyH.nil
                go_simp
                refine (C0.out).mono ?_
                rintro e w8 ⟨rfl, rfl⟩
                refine hK.out _ _ ⟨cr1, cr2⟩ (fun hHeld => ?_)
                clear hK K
                try simp only [Act.put, List.getElem_toArray, List.getElem_cons_succ, List.getElem_cons_zero, List.setIfInBounds_toArray, List.set_cons_zero, List.set_cons_succ]
                refine wpAnyH_take (i := 9) (v := ?_) rfl (by kernel_rfl) (by kernel_rfl) (by kernel_rfl) (fun _ _ _ h => h) (Or.inl ⟨by rfl, ?_⟩) hHeld ?_
                rotate_left
                · intro wq hSw
                  go_simp
                  all_goals with_reducible rfl
                try simp only [Act.put, List.getElem_toArray, List.getElem_cons_succ, List.getElem_cons_zero, List.setIfInBounds_toArray, List.set_cons_zero, List.set_cons_succ]
                refine wpAnyH_done (by kernel_rfl) ?_ _
                refine NoPanic.normal ?_
                clear hHeld
                go_wp2_with fail
                go_roundw
                case rel => exact ⟨a + 1, m + 1, by omega, by go_num, rfl⟩
                case measure => simp [intOf]; omega
              · obtain rfl : a = g := by omega
                go_wp2_with fail
                go_ret
                exact ⟨rfl, K7.out.trans ((Keep.refl w7).drewN m)⟩
          · have b1 : ((B.length : Nat) : Int) < (g : Int) := by omega
            have HFU := Lib.hid hfull
            obtain ⟨bl, hbl2⟩ : ∃ bl, B.length = bl := ⟨_, rfl⟩
            rw [hbl2]
            rw [hbl2] at b1
            clear hfull hbl hbl2
            go_wp2_with fail
            refine (bsolve_low R6.out HFU.out).mono ?_
            rintro e w7 ⟨rfl, k7⟩
            have K7 := Lib.hid (K6.out.trans k7)
            clear k7
            go_wp2_with fail
            go_ret
            exact ⟨rfl, K7.out⟩
end Go.Proofs.Yticllkklbogcnaa
