/- The walk of BasisOne. -/
import Derived.Test.YticllkklbogcnaaBset
import Derived.Test.YticllkklbogcnaaBop
import Derived.Deep.DeepCutAuto
import Derived.Deep.CutBlock
set_option linter.unusedVariables false
set_option linter.unusedSimpArgs false
namespace Go.Proofs.Yticllkklbogcnaa
open Go.RowKit
set_option maxRecDepth 100000 in
set_option maxHeartbeats 8000000 in
theorem one_any (G S n1 c1 n2 c2 n3 c3 : Nat) (A1 A2 A3 : Option Addr) (rs1 rs2 : List RowV) (w : World) (h1 : RowsAt w w.heap.size A1 n1 rs1) (h2 : RowsAt w w.heap.size A2 n2 rs2) (m1 : n1 ≤ 140737488351232) (m2 : n2 ≤ 140737488351232) (hG : G < 256) (hS : S < 256) (zs : List Nat) (h3 : Bytes w w.heap.size A3 n3 zs) (m3 : n3 ≤ 140737488351232) (n4 c4 : Nat) (A4 : Option Addr) (ys : List Nat) (h4 : Bytes w w.heap.size A4 n4 ys) (m4 : n4 ≤ 140737488351232) :
    Calls Try.prog 5 #[.agg #[.int .u8 (G : Int), .int .u8 (S : Int), .slice A1 n1 c1, .slice A2 n2 c2, .slice A3 n3 c3], .slice A4 n4 c4] w fun e w' => e = .returned (.bool true) ∧ Keep w w' := by
  obtain ⟨g, hg⟩ : ∃ g, 1 + G % 10 = g := ⟨_, rfl⟩
  obtain ⟨s, hs⟩ : ∃ s, 1 + S % 10 = s := ⟨_, rfl⟩
  obtain ⟨M, hM⟩ : ∃ M, symM (rowsOf rs1) s g = M := ⟨_, rfl⟩
  have H := Lib.hid (And.intro h1 (And.intro h2 (And.intro hg (And.intro hs hM))))
  have hall : ∀ {rs : List RowV} {A : Option Addr} {n : Nat}, RowsAt w w.heap.size A n rs → ∀ x ∈ rowsOf rs, AllB x := fun {rs A n} h x hx => by
    obtain ⟨r, hr, rfl⟩ := List.mem_map.1 hx
    exact (h.2.1 r hr).1.all
  have HA := Lib.hid (And.intro (hall h1) (hall h2))
  clear h1 h2 hg hs hM hall
  have HY := Lib.hid (And.intro h4 h3)
  clear h3 h4
  go_enter Try.func5, Try.ntmps5
  go_wp2_with fail
  have kbx : Keep w (w.alloc (.cells #[.int .u8 (G : Int), .int .u8 (S : Int), .slice A1 n1 c1, .slice A2 n2 c2, .slice A3 n3 c3] 60)) := (Keep.refl w).alloc _ _
  have h1b := (H.out.1.keep (Nat.le_refl _) kbx)
  have h2b := (H.out.2.1.keep (Nat.le_refl _) kbx)
  have hup : ∀ {A : Option Addr} {n : Nat} {rs : List RowV}, RowsAt (w.alloc (.cells #[.int .u8 (G : Int), .int .u8 (S : Int), .slice A1 n1 c1, .slice A2 n2 c2, .slice A3 n3 c3] 60)) w.heap.size A n rs → RowsAt (w.alloc (.cells #[.int .u8 (G : Int), .int .u8 (S : Int), .slice A1 n1 c1, .slice A2 n2 c2, .slice A3 n3 c3] 60)) (w.alloc (.cells #[.int .u8 (G : Int), .int .u8 (S : Int), .slice A1 n1 c1, .slice A2 n2 c2, .slice A3 n3 c3] 60)).heap.size A n rs := fun {A n rs} h => ⟨h.1, fun r hr => ⟨(h.2.1 r hr).1.mono kbx.size, (h.2.1 r hr).2⟩, fun hp => by
    obtain ⟨b, off, e, hb, hc⟩ := h.2.2 hp
    exact ⟨b, off, e, Nat.lt_of_lt_of_le hb kbx.size, hc⟩⟩
  refine (laid_any G S n1 c1 n2 c2 n3 c3 A1 A2 A3 rs1 rs2 _ (hup h1b) (hup h2b) m1 m2 hG hS g s H.out.2.2.1 H.out.2.2.2.1 M H.out.2.2.2.2).mono ?_
  rintro e w1 ⟨As, cs, rss, Ar, k, cr, ps, rfl, sy1, sx1, st1, px1, pn1, k1, kcr⟩
  have K1 := Lib.hid (kbx.trans k1)
  have KN : Hid (Known g s M rss ps) := known_of H.out.2.2.1 H.out.2.2.2.1 HA.out.1 HA.out.2 H.out.2.2.2.2 sx1 (fun r hr => (sy1.2.1 r hr).1) px1 pn1
  have S1 : Hid (Setup w1.heap.size w1 g s M As rss Ar k ps) := ⟨sy1.mono fun b hb => hb.2, st1.mono fun b hb => hb.2, Nat.le_refl _⟩
  have HBX : Hid (w1.cell? ⟨w.heap.size, 4, none⟩ = some (.slice A3 n3 c3)) := (k1.cell (p := ⟨w.heap.size, 4, none⟩) (by show w.heap.size < _; simp)).trans (by rw [World.cell?_alloc_at _ _ _ _ rfl]; rfl)
  have HBN : Hid (w.heap.size < w1.heap.size) := by have := k1.size; show _ < _; simp at this; omega
  have HKL : Hid (ps.length = k) := st1.1
  have KCR := Lib.hid kcr
  clear kbx h1b h2b hup sy1 sx1 st1 px1 pn1 k1 kcr H HA
  obtain ⟨N, hN⟩ : ∃ N, w1.heap.size = N := ⟨_, rfl⟩
  rw [hN] at S1 HBN
  have HN1 := Lib.hid hN
  have HN := Lib.hid hN
  clear hN
  have q1 := KN.out.g1
  have q2 := KN.out.g2
  have q3 := KN.out.s1
  have q4 := KN.out.s2
  have q5 : k ≤ 40 := by have := KN.out.len; have := HKL.out; omega
  go_wp2_with fail
  refine (bnew_in g s q1 (by omega) q3 (by omega) _).mono ?_
  rintro e w2 ⟨b, F, rfl, r2, f2, k2⟩
  have R2 := Lib.hid r2
  have F2 : Hid (∀ k, F k → N ≤ k ∧ k < w2.heap.size) := fun k hk => ⟨by rw [← HN.out]; exact f2 k hk, r2.fine.2.2.2.2.2 k hk⟩
  have K2 := Lib.hid k2
  clear r2 f2 k2
  go_wp2_with fail
  refine (bnew_in g s q1 (by omega) q3 (by omega) _).mono ?_
  rintro e w3 ⟨vc, Fc, rfl, r3, f3, k3⟩
  have R3 := Lib.hid r3
  have R3b := Lib.hid (R2.out.keep k3)
  have F3 : Hid (∀ k, Fc k → N ≤ k ∧ ¬ F k) := fun k hk => by
    have h1 := f3 k hk
    have h2 := K2.out.size
    have h3 := HN.out
    exact ⟨by omega, fun e => by have := (F2.out k e).2; omega⟩
  have K3 := Lib.hid (K2.out.trans k3)
  clear r3 f3 k3 R2 K2
  go_wp2_with fail
  refine (awake_any _).mono ?_
  rintro e w4 ⟨rfl, k4⟩
  have RC := Lib.hid (R3.out.keep k4)
  have RB := Lib.hid (R3b.out.keep k4)
  have K4 := Lib.hid (K3.out.trans k4)
  clear k4 R3 R3b K3
  obtain ⟨W, hW⟩ : ∃ W, ps.map PairV.xs = W := ⟨_, rfl⟩
  have HW : Hid (W.length = k ∧ SymRows g s M W ∧ ∀ (j : Nat) (p : PairV), ps[j]? = some p → W.getD j [] = p.a.xs ++ p.b.xs) := by
    rw [← hW]
    exact ⟨by rw [List.length_map]; exact HKL.out, KN.out.sym, fun j p hp => Known.at_ (g := g) (s := s) (M := M) (rss := rss) hp⟩
  have HWP := Lib.hid hW.symm
  clear hW
  go_wp2_with fail
  go_loopw [50] (fun iv wr => ∃ (j : Nat) (F : Nat → Prop), j ≤ k ∧ iv = .int .i64 j ∧ BasR wr F b g s (basK g s W j) ∧ (∀ x, F x → N ≤ x ∧ ¬ Fc x) ∧ BasR wr Fc vc g s [] ∧ Keep w1 wr) (fun iv _ => k - (intOf iv).toNat)
  case atStart => exact ⟨0, F, by omega, rfl, RB.out, fun x hx => ⟨(F2.out x hx).1, fun e => (F3.out x e).2 hx⟩, RC.out, K4.out⟩
  case round =>
    have F3' : Hid (∀ x, Fc x → N ≤ x) := fun x hx => (F3.out x hx).1
    clear RB RC F2 F3 K4
    obtain ⟨j, F, hj, rfl, hR, hF, hC, hK⟩ := hrel
    have HR := Lib.hid hR
    have HF := Lib.hid hF
    have HC := Lib.hid hC
    have HK := Lib.hid hK
    have HS := Lib.hid (S1.out.keep hK)
    clear hR hF hC hK
    by_cases hlt : j < k
    · obtain ⟨b0, off, p, rfl, hb0, hp, ca, cb, la, lb⟩ := HS.out.rows.at_ hlt
      have hkp := KN.out.rows p (List.mem_of_getElem? hp)
      have hsu := basK_succ (g := g) (s := s) (rows := W) (k := j) (by rw [HW.out.1]; exact hlt)
      rw [HW.out.2.2 j p hp] at hsu
      have HCP : Hid (g ≤ p.a.c ∧ s ≤ p.b.c) := ⟨by have h1 := la.2.2.1; have h2 := hkp.1; omega, by have h1 := lb.2.2.1; have h2 := hkp.2.1; omega⟩
      have B1 : Hid (Bytes wr wr.heap.size p.a.A g p.a.xs) := by
        have := la.bytes (B := wr.heap.size) fun x hx => Nat.lt_of_lt_of_le hx HS.out.le
        rw [hkp.1] at this; exact this
      have B2 : Hid (Bytes wr wr.heap.size p.b.A s p.b.xs) := by
        have := lb.bytes (B := wr.heap.size) fun x hx => Nat.lt_of_lt_of_le hx HS.out.le
        rw [hkp.2.1] at this; exact this
      rw [hkp.1] at ca
      rw [hkp.2.1] at cb
      have e1 : (0 : Int) ≤ (j : Int) := Int.natCast_nonneg _
      have e2 : (j : Int) < (k : Int) := by omega
      have ka : Keep wr (wr.alloc (.cells #[.slice p.a.A g p.a.c, .slice p.b.A s p.b.c] 33)) := (Keep.refl wr).alloc _ _
      have KA := Lib.hid ka
      have HSU := Lib.hid hsu
      clear hp hkp hsu la lb ka hb0
      go_wp2_with fail
      refine (binsert_in (HR.out.keep KA.out) _ _ p.a.c p.b.c p.a.A p.b.A p.a.xs p.b.xs HCP.out.1 HCP.out.2 (B1.out.keep (Nat.le_refl _) KA.out) (B2.out.keep (Nat.le_refl _) KA.out) KA.out.size KA.out.size).mono ?_
      rw [← HSU.out]
      rintro e w4 ⟨rfl, F4, r4, f4, t4⟩
      have R4 := Lib.hid r4
      have C4 := Lib.hid ((HC.out.keep KA.out).turned t4 fun x hx e => (HF.out x e).2 hx)
      have F4' : Hid (∀ x, F4 x → N ≤ x ∧ ¬ Fc x) := fun x hx => by
        rcases f4 x hx with h | h
        · exact HF.out x h
        · have h1 := HS.out.le
          have h2 := KA.out.size
          exact ⟨by omega, fun e => by have := HC.out.fine.2.2.2.2.2 x e; omega⟩
      have K4 : Hid (Keep w1 w4) := t4.keep (HK.out.trans KA.out) fun x hx => by rw [HN.out]; exact (HF.out x hx).1
      clear r4 f4 t4 HR HF HS HK HC ca cb KA B1 B2 HSU
      go_wp2_with fail
      go_roundw
      case rel => exact ⟨j + 1, F4, by omega, by go_num, R4.out, F4'.out, C4.out, K4.out⟩
      case measure => simp [intOf]; omega
    · obtain rfl : j = k := by omega
      have hb := basK_sym HW.out.2.1 j (by rw [HW.out.1]; exact Nat.le_refl _)
      obtain ⟨B, hB⟩ : ∃ B, basK g s W j = B := ⟨_, rfl⟩
      rw [hB] at hb HR
      rw [List.take_of_length_le (by rw [HW.out.1]; exact Nat.le_refl _)] at hb
      have HB := Lib.hid hb
      have HLIT := Lib.hid (ownSt_lit wr)
      have kl : Keep wr (wr.alloc (.cells #[] 33)) := (Keep.refl wr).alloc _ _
      have HROW : Hid (0 < j → ∃ b off, Ar = some ⟨b, off, none⟩ ∧ ∀ i p, ps[i]? = some p → (wr.alloc (.cells #[] 33)).cell? ⟨b, off + i * 2, none⟩ = some p.a.val ∧ (wr.alloc (.cells #[] 33)).cell? ⟨b, off + i * 2 + 1, none⟩ = some p.b.val) := fun h0 => by
        obtain ⟨b', off, e, _, hc⟩ := (HS.out.keep kl).rows.2.2 h0
        exact ⟨b', off, e, hc⟩
      have KL := Lib.hid kl
      clear hb hB kl
      go_wp2_with (at_builtin; refine wpList_append_sts rfl _ _ 54 rfl (Nat.zero_add j) Try.underlying54 rfl HLIT.out rfl HKL.out HROW.out (by omega) (Nat.le_of_lt (by simp)) ?_)
      intro A5 c5 w5 h5 g5 _
      have K5 : Hid (Keep wr w5) := KL.out.grown g5 (fun i e => by cases e; exact Nat.le_refl _)
      have M5 : Hid (OneM N g s b vc j c5 ps ps B [] F Fc A5 w1 w5) :=
        ⟨HN.out, HR.out.keep K5.out, HC.out.keep K5.out, h5.lower HS.out.le, fun p hp => hp, fun x hx => (HF.out x hx).1, fun x hx => ⟨F3'.out x hx, fun e => (HF.out x e).2 hx, fun e => by
          have h1 := (h5.lt x e).1
          have h2 := HC.out.fine.2.2.2.2.2 x hx
          omega⟩, HK.out.trans K5.out⟩
      have P5 : Hid (OneP g s M W [] ps) := OneP.start HWP.out
      clear h5 g5 HLIT HROW KL K5 HR HC HK HS HF
      go_wp2_with fail
      go_loopw [15, 16] (fun lv iv wr => ∃ (i nl cl : Nat) (Al : Option Addr) (lefts : List PairV) (C : List (List Nat)) (Fc : Nat → Prop), lv = .slice Al nl cl ∧ iv = .int .i64 i ∧ i + nl = j ∧ OneM N g s b vc nl cl ps lefts B C F Fc Al w1 wr ∧ OneP g s M W C lefts) (fun _ iv _ => j - (intOf iv).toNat)
      case atStart => exact ⟨0, j, c5, A5, ps, [], Fc, rfl, rfl, by omega, M5.out, P5.out⟩
      case round =>
        clear M5 P5 F3'
        obtain ⟨i, nl, cl, Al, lefts, C, Fc, rfl, rfl, hij, hM, hP⟩ := hrel
        have HM := Lib.hid hM
        have HP := Lib.hid hP
        clear hM hP
        by_cases hlt : 0 < nl
        · have hat : ∃ t at_, decide ((i : Int) < (n3 : Int)) = t ∧ at_ < nl ∧ (t = true → i < n3 ∧ zs.getD i 0 % nl = at_) ∧ (t = false → at_ = 0) := by
            by_cases h : i < n3
            · exact ⟨true, zs.getD i 0 % nl, decide_eq_true (by omega), Nat.mod_lt _ hlt, fun _ => ⟨h, rfl⟩, (by intro e; cases e)⟩
            · exact ⟨false, 0, decide_eq_false (by omega), hlt, (by intro e; cases e), fun _ => rfl⟩
          obtain ⟨t, at_, ht, hat, ht1, ht2⟩ := hat
          have ht' : decide (i < n3) = t := by rw [← ht]; exact decide_eq_decide.2 (by omega)
          have HT := Lib.hid (And.intro ht1 ht2)
          have hbx := (HM.out.keep.cell (p := ⟨w.heap.size, 4, none⟩) (by rw [HN.out]; exact HBN.out)).trans HBX.out
          have d0 : (0 : Int) < (nl : Int) := by omega
          clear ht1 ht2
          go_upto_if 70 with fail
          go_cut [17] (fun av wx => av = .int .i64 (at_ : Int) ∧ wx = wr)
          case first =>
            cases t with
            | false =>
              have h0 := HT.out.2 rfl
              go_wp2_with fail
              go_meet
              case rel => exact ⟨by rw [h0]; rfl, rfl⟩
            | true =>
              have h0 := HT.out.1 rfl
              obtain ⟨b3, o3, rfl, hb3, cz⟩ := ((HY.out.2.keep (Nat.le_refl _) (K1.out.trans HM.out.keep))).at_ h0.1
              have hzl := HY.out.2.all.getD i
              have hmod := h0.2
              obtain ⟨z, hz⟩ : ∃ z, zs.getD i 0 = z := ⟨_, rfl⟩
              rw [hz] at cz hmod hzl
              have hrem : (z : Int).tmod (nl : Int) = (at_ : Int) := by rw [Int.tmod_eq_emod_of_nonneg (by omega), ← hmod]; rfl
              have hrem2 : (z : Int) % (nl : Int) = (at_ : Int) := by rw [← hmod]; rfl
              have hwz : IntKind.i64.wrap (z : Int) = (z : Int) := IntWalk.i64_in _ (by omega)
              have hnz : ¬ ((nl : Int) = 0) := by omega
              have hnz2 : ¬ (nl = 0) := by omega
              have e1 : (0 : Int) ≤ (i : Int) := Int.natCast_nonneg _
              have e2 : (i : Int) < (n3 : Int) := by omega
              clear hz h0 hmod
              go_wp2_with fail
              go_meet
              case rel => exact ⟨rfl, rfl⟩
          case rest =>
            obtain ⟨rfl, rfl⟩ := hcut
            clear hbx ht ht' HT
            have hal : at_ < lefts.length := by rw [HM.out.own.length]; exact hat
            obtain ⟨b0, off, p, hAl, hb0, hp, ca, cb, la, lb⟩ := (HM.out.stIn S1.out).at_ hat
            have hpm := HM.out.mem p (List.mem_of_getElem? hp)
            have hkp := KN.out.rows p hpm
            have hsy := HW.out.2.1 p.xs (by rw [show W = ps.map PairV.xs from HWP.out]; exact List.mem_map.2 ⟨p, hpm, rfl⟩)
            have HST := Lib.hid (HP.out.step hp hsy.1 hsy.2.1 hsy.2.2)
            have HIN := Lib.hid (inB_after (g := g) (s := s) (B := C) (row := p.xs) HP.out.bas hsy.1 hsy.2.1)
            have HCP : Hid (g ≤ p.a.c ∧ s ≤ p.b.c) := ⟨by have h1 := la.2.2.1; have h2 := hkp.1; omega, by have h1 := lb.2.2.1; have h2 := hkp.2.1; omega⟩
            have B1 : Hid (Bytes wc wc.heap.size p.a.A g p.a.xs) := by
              have := la.bytes (B := wc.heap.size) fun x hx => HM.out.ltL x hx
              rw [hkp.1] at this; exact this
            have B2 : Hid (Bytes wc wc.heap.size p.b.A s p.b.xs) := by
              have := lb.bytes (B := wc.heap.size) fun x hx => HM.out.ltL x hx
              rw [hkp.2.1] at this; exact this
            have HPP := Lib.hid (And.intro hp (And.intro hkp.1 hkp.2.1))
            have HAT := Lib.hid hat
            rw [hkp.1] at ca
            rw [hkp.2.1] at cb
            subst hAl
            have e1 : (0 : Int) ≤ (at_ : Int) := Int.natCast_nonneg _
            have e2 : (at_ : Int) < (nl : Int) := by omega
            clear hp hpm hkp hsy la lb hb0 hal
            go_wp2_with fail
            refine (binsert_in HM.out.basC _ _ p.a.c p.b.c p.a.A p.b.A p.a.xs p.b.xs HCP.out.1 HCP.out.2 B1.out B2.out (Nat.le_refl _) (Nat.le_refl _)).mono ?_
            rintro e w4 ⟨rfl, F4, r4, f4, t4⟩
            obtain ⟨v4, hv4⟩ : ∃ v4, (!decide (inB g s C (p.a.xs ++ p.b.xs))) = v4 := ⟨_, rfl⟩
            rw [hv4]
            have M4 := Lib.hid (HM.out.put r4 f4 t4)
            obtain ⟨C4, hC4⟩ : ∃ C4, insB g s C (p.a.xs ++ p.b.xs) = C4 := ⟨_, rfl⟩
            have HST' : Hid (OneP g s M W C4 (lefts.take at_ ++ lefts.drop (at_ + 1))) := by rw [← hC4]; exact HST.out
            have HIN' : Hid (inB g s C4 (p.a.xs ++ p.b.xs)) := by rw [← hC4]; exact HIN.out
            rw [hC4] at M4
            have B14 : Hid (Bytes w4 w4.heap.size p.a.A g p.a.xs ∧ Bytes w4 w4.heap.size p.b.A s p.b.xs ∧ w4.cell? ⟨b0, off + at_ * 2, none⟩ = some (.slice p.a.A g p.a.c) ∧ w4.cell? ⟨b0, off + at_ * 2 + 1, none⟩ = some (.slice p.b.A s p.b.c)) := by
              obtain ⟨b0', off', p', hAl, hb0, hp, ca, cb, la, lb⟩ := (M4.out.stIn S1.out).at_ HAT.out
              cases hAl
              obtain rfl : p = p' := Option.some.inj (HPP.out.1.symm.trans hp)
              have h1 := la.bytes (B := w4.heap.size) fun x hx => M4.out.ltL x hx
              have h2 := lb.bytes (B := w4.heap.size) fun x hx => M4.out.ltL x hx
              rw [HPP.out.2.1] at h1 ca
              rw [HPP.out.2.2] at h2 cb
              exact ⟨h1, h2, ca, cb⟩
            clear r4 f4 t4 hC4 hv4 HST HIN B1 B2 HM HP ca cb
            have ca := B14.out.2.2.1
            have cb := B14.out.2.2.2
            go_wp2_with fail
            refine (binsert_in M4.out.basC _ _ p.a.c p.b.c p.a.A p.b.A p.a.xs p.b.xs HCP.out.1 HCP.out.2 B14.out.1 B14.out.2.1 (Nat.le_refl _) (Nat.le_refl _)).mono ?_
            rw [insB_in HIN'.out, decide_eq_true HIN'.out]
            rintro e w5 ⟨rfl, F5, r5, f5, t5⟩
            have M5 := Lib.hid (M4.out.put r5 f5 t5)
            clear r5 f5 t5 M4 B14 ca cb HIN'
            go_wp2_with fail
            refine (brank_any M5.out.basC).mono ?_
            obtain ⟨rk, hrk⟩ : ∃ rk, C4.length = rk := ⟨_, rfl⟩
            have hrg : rk ≤ 10 := by have := HST'.out.bas.length_le; omega
            have HRK := Lib.hid hrk
            rw [hrk]
            rintro e w6 ⟨rfl, k6⟩
            have M6 := Lib.hid (M5.out.later k6)
            clear k6 M5 hrk
            have mkg := run_make_bytes (P := Try.prog) Try.underlying31 info5 rk (by omega) w6
            obtain ⟨w7, vv, hcp, ho7, hk7⟩ := run_copy_fill (P := Try.prog) (t := 31) (e := 5) (c := c4) (ty := 3) (n := rk) Try.underlying31 (by kernel_rfl) (HY.out.1.keep (Nat.le_refl _) (K1.out.trans M6.out.keep)) (K1.out.trans M6.out.keep).size (by omega)
            have HV : Hid (AllB (fillN ys rk)) := fillN_all HY.out.1.all _
            obtain ⟨V, hV⟩ : ∃ V, fillN ys rk = V := ⟨_, rfl⟩
            rw [hV] at ho7 HV
            have HO7 := Lib.hid ho7
            have M7 := Lib.hid (M6.out.later hk7)
            clear ho7 hk7 hV M6
            obtain ⟨vb, hvb⟩ : ∃ vb, w6.heap.size = vb := ⟨_, rfl⟩
            rw [hvb] at mkg hcp HO7
            go_wp2_with fail
            clear mkg hcp hvb
            refine (bcombine_in M7.out.basC w7.heap.size rk rk _ V HO7.out.bytes (Nat.le_refl _) HRK.out.symm).mono ?_
            rintro e w8 ⟨A8, c8, A9, c9, rfl, o8, o9, k8⟩
            have K8 : Hid (Keep w7 w8) := k8
            have hx : ((vComb (g + s) C4 V C4.length).take g) ++ ((vComb (g + s) C4 V C4.length).drop g) = vComb (g + s) C4 V C4.length := List.take_append_drop _ _
            have hci := comb_in HST'.out.bas (c := V) HV.out
            rw [← hx] at hci
            have HCI := Lib.hid hci
            have M8 := Lib.hid (M7.out.later k8)
            have kp : Keep w8 (w8.alloc (.cells #[.slice A8 g c8, .slice A9 s c9] 33)) := (Keep.refl w8).alloc _ _
            have HO8 := Lib.hid (And.intro (o8.keep kp).bytes (And.intro (own_le' o8) (And.intro (o9.keep kp).bytes (own_le' o9))))
            obtain ⟨z8, hz8⟩ : ∃ z8, w8.heap.size = z8 := ⟨_, rfl⟩
            have p0 : (w8.alloc (.cells #[.slice A8 g c8, .slice A9 s c9] 33)).cell? ⟨z8, 0, none⟩ = some (.slice A8 g c8) := by rw [← hz8, World.cell?_alloc_at _ _ _ _ rfl]; rfl
            have p1 : (w8.alloc (.cells #[.slice A8 g c8, .slice A9 s c9] 33)).cell? ⟨z8, 1, none⟩ = some (.slice A9 s c9) := by rw [← hz8, World.cell?_alloc_at _ _ _ _ rfl]; rfl
            have HWX := Lib.hid hx
            obtain ⟨X1, hX1⟩ : ∃ X1, (vComb (g + s) C4 V C4.length).take g = X1 := ⟨_, rfl⟩
            obtain ⟨X2, hX2⟩ : ∃ X2, (vComb (g + s) C4 V C4.length).drop g = X2 := ⟨_, rfl⟩
            rw [hX1, hX2] at HO8 HCI
            have M9 := Lib.hid (M8.out.later kp)
            clear hx hci o8 o9 k8 M7 M8 HO7 hX1 hX2 HWX kp
            obtain ⟨w9, hw9⟩ : ∃ w9, w8.alloc (.cells #[.slice A8 g c8, .slice A9 s c9] 33) = w9 := ⟨_, rfl⟩
            rw [hw9] at HO8 M9 p0 p1
            go_wp2_with fail
            clear hw9 hz8 K8
            refine (binsert_in M9.out.basC _ _ c8 c9 A8 A9 X1 X2 HO8.out.2.1 HO8.out.2.2.2 HO8.out.1 HO8.out.2.2.1 (Nat.le_refl _) (Nat.le_refl _)).mono ?_
            rw [insB_in HCI.out, decide_eq_true HCI.out]
            rintro e w10 ⟨rfl, F10, r10, f10, t10⟩
            have M10 := Lib.hid (M9.out.put r10 f10 t10)
            clear r10 f10 t10 M9 p0 p1 HO8 HCI
            have hnc : nl ≤ cl := M10.out.own.le
            have hw1 : IntKind.i64.wrap ((at_ : Int) + 1) = (at_ : Int) + 1 := by rw [IntKind.wrap_i64]; omega
            have e3 : (at_ : Int) ≤ (cl : Int) := by omega
            have hsl : ∀ w, (Instr.slice 54 (.slice (some ⟨b0, off, none⟩) nl cl) (some (.int .i64 ((at_ : Int) + 1))) none none).run Try.prog w = .ok (.slice (dropS (some ⟨b0, off, none⟩) cl (at_ + 1)) (nl - (at_ + 1)) (cl - (at_ + 1))) w := fun w => run_drop_st Try.underlying54 (by kernel_rfl) nl cl (at_ + 1) _ (by omega) w
            have HNC := Lib.hid hnc
            go_wp2_with fail
            refine wp_region_noPanic ?_
            refine wp_region_held_drew (S := fun wz => True) (by kernel_rfl) trivial (fun hHeld => ?_)
            refine wpAnyH_take (i := 1) (v := ?_) rfl (by kernel_rfl) (by kernel_rfl) (by kernel_rfl) (fun _ _ _ h => h) (Or.inl ⟨by rfl, ?_⟩) hHeld ?_
            rotate_left
            · intro wq hSw
              go_simp
              all_goals with_reducible rfl
            try simp only [Act.put, List.getElem_toArray, List.getElem_cons_succ, List.getElem_cons_zero, List.setIfInBounds_toArray, List.set_cons_zero, List.set_cons_succ]
            refine wpAnyH_take (i := 2) (v := ?_) rfl (by kernel_rfl) (by kernel_rfl) (by kernel_rfl) (fun _ _ _ h => h) (Or.inl ⟨by rfl, ?_⟩) hHeld ?_
            rotate_left
            · intro wq hSw
              go_simp
              all_goals with_reducible rfl
            try simp only [Act.put, List.getElem_toArray, List.getElem_cons_succ, List.getElem_cons_zero, List.setIfInBounds_toArray, List.set_cons_zero, List.set_cons_succ]
            refine wpAnyH_take (i := 3) (v := ?_) rfl (by kernel_rfl) (by kernel_rfl) (by kernel_rfl) (fun _ _ _ h => h) (Or.inl ⟨by rfl, ?_⟩) hHeld ?_
            rotate_left
            · intro wq hSw
              go_simp
              all_goals with_reducible rfl
            try simp only [Act.put, List.getElem_toArray, List.getElem_cons_succ, List.getElem_cons_zero, List.setIfInBounds_toArray, List.set_cons_zero, List.set_cons_succ]
            refine wpAnyH_take (i := 5) (v := ?_) rfl (by kernel_rfl) (by kernel_rfl) (by kernel_rfl) (fun _ _ _ h => h) (Or.inl ⟨by rfl, ?_⟩) hHeld ?_
            rotate_left
            · intro wq hSw
              go_simp
              all_goals with_reducible rfl
            try simp only [Act.put, List.getElem_toArray, List.getElem_cons_succ, List.getElem_cons_zero, List.setIfInBounds_toArray, List.set_cons_zero, List.set_cons_succ]
            refine wpAnyH_take (i := 6) (v := ?_) rfl (by kernel_rfl) (by kernel_rfl) (by kernel_rfl) (fun _ _ _ h => h) (Or.inl ⟨by rfl, ?_⟩) hHeld ?_
            rotate_left
            · intro wq hSw
              go_simp
              all_goals with_reducible rfl
            try simp only [Act.put, List.getElem_toArray, List.getElem_cons_succ, List.getElem_cons_zero, List.setIfInBounds_toArray, List.set_cons_zero, List.set_cons_succ]
            refine wpAnyH_take (i := 7) (v := ?_) rfl (by kernel_rfl) (by kernel_rfl) (by kernel_rfl) (fun _ _ _ h => h) (Or.inl ⟨by rfl, ?_⟩) hHeld ?_
            rotate_left
            · intro wq hSw
              go_simp
              all_goals with_reducible rfl
            try simp only [Act.put, List.getElem_toArray, List.getElem_cons_succ, List.getElem_cons_zero, List.setIfInBounds_toArray, List.set_cons_zero, List.set_cons_succ]
            refine wpAnyH_take (i := 8) (v := ?_) rfl (by kernel_rfl) (by kernel_rfl) (by kernel_rfl) (fun _ _ _ h => h) (Or.inl ⟨by rfl, ?_⟩) hHeld ?_
            rotate_left
            · intro wq hSw
              go_simp
              all_goals with_reducible rfl
            try simp only [Act.put, List.getElem_toArray, List.getElem_cons_succ, List.getElem_cons_zero, List.setIfInBounds_toArray, List.set_cons_zero, List.set_cons_succ]
            refine wpAnyH_ready (rs := [0]) (by kernel_rfl) (by simp) ?_
            refine AllReadyH.cons rfl (fun K hK => ?_) AllReadyH.nil
            go_simp
            have kl : Keep w10 ((w10.alloc (.cells #[] 33)).drew) := ((Keep.refl w10).alloc _ _).drew
            have ML := Lib.hid (M10.out.later kl)
            have HLIT : Hid (OwnSt ((w10.alloc (.cells #[] 33)).drew) w10.heap.size (some ⟨w10.heap.size, 0, none⟩) 0 0 []) := ownSt_lit w10
            have KL := Lib.hid kl
            have SL : Hid (w10.heap.size < ((w10.alloc (.cells #[] 33)).drew).heap.size) := by show _ < _; simp
            refine hK.out _ _ trivial (fun hHeld => ?_)
            clear hK K kl
            try simp only [Act.put, List.getElem_toArray, List.getElem_cons_succ, List.getElem_cons_zero, List.setIfInBounds_toArray, List.set_cons_zero, List.set_cons_succ]
            generalize (w10.alloc (.cells #[] 33)).drew = wl at *
            refine wpAnyH_ready (rs := [4]) (by kernel_rfl) (by simp) ?_
            refine AllReadyH.cons rfl (fun K hK => ?_) AllReadyH.nil
            have hc1 : 0 < at_ → ∃ b1 off1, some (⟨b0, off, none⟩ : Addr) = some ⟨b1, off1, none⟩ ∧ ∀ i p, (lefts.take at_)[i]? = some p → wl.cell? ⟨b1, off1 + i * 2, none⟩ = some p.a.val ∧ wl.cell? ⟨b1, off1 + i * 2 + 1, none⟩ = some p.b.val := fun _ => by
              obtain ⟨b1, o1, e, _, hc⟩ := (ML.out.stIn S1.out).2.2 (by have := HAT.out; omega)
              refine ⟨b1, o1, e, fun i p hi => hc i p ?_⟩
              rw [List.getElem?_take] at hi
              split at hi
              · exact hi
              · cases hi
            refine wp_append_sts _ _ 54 rfl (Nat.zero_add at_) Try.underlying54 rfl HLIT.out rfl (by rw [List.length_take, ML.out.own.length]; have := HAT.out; omega) hc1 (by omega) (Nat.le_of_lt SL.out) ?_
            intro A11 c11 w11 h11 g11 _
            have K11 : Hid (Keep w10 w11) := KL.out.grown g11 (fun i e => by cases e; exact Nat.le_refl _)
            have M11 := Lib.hid (M10.out.later K11.out)
            have H11 : Hid (OwnSt w11 w10.heap.size A11 at_ c11 (lefts.take at_)) := h11
            refine hK.out _ _ trivial (fun hHeld => ?_)
            clear hK K h11 g11 hc1 HLIT ML
            try simp only [Act.put, List.getElem_toArray, List.getElem_cons_succ, List.getElem_cons_zero, List.setIfInBounds_toArray, List.set_cons_zero, List.set_cons_succ]
            refine wpAnyH_ready (rs := [9]) (by kernel_rfl) (by simp) ?_
            refine AllReadyH.cons rfl (fun K hK => ?_) AllReadyH.nil
            have hc2 : 0 < nl - (at_ + 1) → ∃ b1 off1, dropS (some ⟨b0, off, none⟩) cl (at_ + 1) = some ⟨b1, off1, none⟩ ∧ ∀ i p, (lefts.drop (at_ + 1))[i]? = some p → w11.cell? ⟨b1, off1 + i * 2, none⟩ = some p.a.val ∧ w11.cell? ⟨b1, off1 + i * 2 + 1, none⟩ = some p.b.val := fun h0 => by
              obtain ⟨b1, o1, e, _, hc⟩ := (M11.out.stIn S1.out).2.2 (by omega)
              cases e
              refine ⟨b0, off + (at_ + 1) * 2, dropS_some b0 off cl (at_ + 1) (by have := HNC.out; omega), fun i p hi => ?_⟩
              rw [List.getElem?_drop] at hi
              have := hc (at_ + 1 + i) p hi
              rwa [show off + (at_ + 1) * 2 + i * 2 = off + (at_ + 1 + i) * 2 by omega]
            refine wp_append_sts _ _ 54 rfl (show at_ + (nl - (at_ + 1)) = nl - 1 by have := HAT.out; omega) Try.underlying54 rfl H11.out rfl (by rw [List.length_drop, M11.out.own.length]) hc2 (by have := HAT.out; omega) K11.out.size ?_
            intro A12 c12 w12 h12 g12 _
            have K12 : Hid (Keep w10 w12) := K11.out.grown g12 (fun i e => by have := (H11.out.lt i e).1; exact this)
            have M12 := Lib.hid (M10.out.other K12.out h12 (fun p hp => by
              rcases List.mem_append.1 hp with e | e
              · exact List.mem_of_mem_take e
              · exact List.mem_of_mem_drop e))
            refine hK.out _ _ trivial (fun hHeld => ?_)
            clear hK K h12 g12 hc2 H11 M11 K11
            try simp only [Act.put, List.getElem_toArray, List.getElem_cons_succ, List.getElem_cons_zero, List.setIfInBounds_toArray, List.set_cons_zero, List.set_cons_succ]
            refine wpAnyH_take (i := 10) (v := ?_) rfl (by kernel_rfl) (by kernel_rfl) (by kernel_rfl) (fun _ _ _ h => h) (Or.inl ⟨by rfl, ?_⟩) hHeld ?_
            rotate_left
            · intro wq hSw
              go_simp
              all_goals with_reducible rfl
            try simp only [Act.put, List.getElem_toArray, List.getElem_cons_succ, List.getElem_cons_zero, List.setIfInBounds_toArray, List.set_cons_zero, List.set_cons_succ]
            refine wpAnyH_done (by kernel_rfl) ?_ _
            refine NoPanic.normal ?_
            clear hHeld
            clear hsl
            go_wp2_with fail
            go_roundw
            case rel => exact ⟨i + 1, nl - 1, c12, A12, _, C4, F10, rfl, by go_num, by omega, M12.out, HST'.out⟩
            case measure => simp [intOf]; omega
        · obtain rfl : nl = 0 := by omega
          obtain rfl : lefts = [] := List.eq_nil_of_length_eq_zero HM.out.own.length
          have hspan := HP.out.span
          rw [List.map_nil, List.append_nil] at hspan
          have hBC : B = C := one_done HB.out.1 HP.out.bas HB.out.2.2.1 hspan
          have HBC := Lib.hid hBC
          clear hspan hBC
          go_wp2_with fail
          refine (brows_any HM.out.basB).mono ?_
          rintro e w5 ⟨A5, m5, c5, qs, rfl, o5⟩
          have O5 := Lib.hid o5
          have M5 := Lib.hid (HM.out.later o5.2.2.2)
          have Q5 : Hid (m5 ≤ 10) := by
            have h1 := o5.1.length
            have h2 := congrArg List.length o5.2.2.1
            rw [List.length_map] at h2
            have h3 := HB.out.1.length_le
            show m5 ≤ 10
            omega
          have W5 := Lib.hid (HM.out.keep.trans o5.2.2.2)
          clear o5
          go_wp2_with fail
          refine (brows_any M5.out.basC).mono ?_
          rintro e w6 ⟨A6, m6, c6, rs, rfl, o6⟩
          have O6 := Lib.hid o6
          have K6 := Lib.hid (M5.out.keep.trans o6.2.2.2)
          have T5 := Lib.hid (O5.out.stIn.keep o6.2.2.2)
          have T6 := Lib.hid o6.stIn
          have L6 := Lib.hid o6.2.2.2.size
          clear o6
          go_wp2_with fail
          refine (bsame_any m5 m6 c5 c6 A5 A6 _ _ qs rs w6 T5.out T6.out (fun x hx => Nat.lt_of_lt_of_le hx.2 L6.out) (fun x hx => hx.2) (by have := Q5.out; omega)).mono ?_
          have hsame : pairXs qs = pairXs rs := by
            have h6 := O6.out
            rw [← HBC.out] at h6
            exact pairs_same O5.out h6
          rw [decide_eq_true hsame]
          rintro e w7 ⟨rfl, k7⟩
          have K7 := Lib.hid (K1.out.trans (K6.out.trans k7))
          clear k7 hsame
          go_wp2_with fail
          go_ret
          exact ⟨rfl, K7.out⟩
end Go.Proofs.Yticllkklbogcnaa
