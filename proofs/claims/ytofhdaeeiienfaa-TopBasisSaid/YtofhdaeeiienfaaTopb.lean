/- The walk of TopBasis. -/
import Derived.Test.YtofhdaeeiienfaaTp
import Derived.Test.YtofhdaeeiienfaaArr
import Derived.Deep.DeepCutAuto
import Derived.Deep.CutBlock
set_option linter.unusedVariables false
set_option linter.unusedSimpArgs false
namespace Go.Proofs.Ytofhdaeeiienfaa
open Go.RowKit Lin
theorem StIn.cells {w : World} {F : Nat → Prop} {b off n k : Nat} {ps : List PairV} {p : PairV} (h : StIn w F (some ⟨b, off, none⟩) n ps) (hk : k < n) (hp : ps[k]? = some p) : F b ∧ w.cell? ⟨b, off + k * 2, none⟩ = some (.slice p.a.A p.a.n p.a.c) ∧ w.cell? ⟨b, off + k * 2 + 1, none⟩ = some (.slice p.b.A p.b.n p.b.c) := by
  obtain ⟨b1, o1, p1, e, hb, hp1, ca, cb, _, _⟩ := h.at_ hk
  injection e with e
  injection e with e1 e2 e3
  subst e1; subst e2
  obtain rfl : p = p1 := Option.some.inj (hp.symm.trans hp1)
  exact ⟨hb, ca, cb⟩
theorem take_self {α : Type} (l : List α) (i k : Nat) (h : i ≤ k) : (l.take k).take i = l.take i := by rw [List.take_take, Nat.min_eq_left h]
set_option maxRecDepth 100000 in
set_option maxHeartbeats 8000000 in
theorem topbasis_any (n1 n2 n4 c1 c2 c4 s0 s1 : Nat) (A1 A2 A4 : Option Addr) (xs ys : List Nat) (rs2 : List RowV) (w : World) (h1 : Bytes w w.heap.size A1 n1 xs) (h2 : RowsAt w w.heap.size A2 n2 rs2) (h4 : Bytes w w.heap.size A4 n4 ys) (m1 : n1 ≤ 140737488355328) (m2 : n2 ≤ 140737488351232) (m4 : n4 ≤ 140737488355328) (b0 : s0 < 256) (b1 : s1 < 256) :
    Calls Try.prog 9 #[.slice A1 n1 c1, .agg #[.int .u8 (s0 : Int), .int .u8 (s1 : Int)], .slice A2 n2 c2, .slice A4 n4 c4] w fun e w' => e = .returned (.bool true) ∧ Keep w w' := by
  have H1 := Lib.hid h1
  have H2 := Lib.hid h2
  have H4 := Lib.hid h4
  have HA2 : Hid (∀ x ∈ rowsOf rs2, AllB x) := fun x hx => by
    obtain ⟨r, hr, rfl⟩ := List.mem_map.1 hx
    exact (h2.2.1 r hr).1.all
  obtain ⟨q0, hq0⟩ : ∃ q, s0 % 6 = q := ⟨_, rfl⟩
  obtain ⟨g, hk0⟩ : ∃ k, 1 + q0 = k := ⟨_, rfl⟩
  obtain ⟨q1, hq1⟩ : ∃ q, s1 % 6 = q := ⟨_, rfl⟩
  obtain ⟨s, hk1⟩ : ∃ k, 1 + q1 = k := ⟨_, rfl⟩
  have d1 : (s0 : Int) % 6 = (q0 : Int) := by omega
  have d2 : 1 + (q0 : Int) = (g : Int) := by omega
  have d3 : (s1 : Int) % 6 = (q1 : Int) := by omega
  have d4 : 1 + (q1 : Int) = (s : Int) := by omega
  have p0 : 1 ≤ g := by omega
  have r0 : g ≤ 6 := by omega
  have p1 : 1 ≤ s := by omega
  have r1 : s ≤ 6 := by omega
  obtain ⟨M, hM⟩ : ∃ M, shapeN xs g s = M := ⟨_, rfl⟩
  have sM : Hid (Sz g s M) := hM ▸ shape_sz xs g s h1.all
  have EM := Lib.hid hM
  clear h1 h2 h4 hM hq0 hq1 hk0 hk1
  go_enter Try.func9, Try.ntmps9
  go_upto_region 1 with fail
  have hbk := heap_alloc_new w (.cells #[.int .u8 (s0 : Int), .int .u8 (s1 : Int)] 56)
  have kb : Keep w (w.alloc (.cells #[.int .u8 (s0 : Int), .int .u8 (s1 : Int)] 56)) := (Keep.refl w).obj _
  obtain ⟨gs, hgs⟩ : ∃ g, w.heap.size = g := ⟨_, rfl⟩
  rw [hgs] at hbk
  simp only [hgs]
  have cs0 : (w.alloc (.cells #[.int .u8 (s0 : Int), .int .u8 (s1 : Int)] 56)).cell? ⟨gs, 0, none⟩ = some (.int .u8 (s0 : Int)) := by simp [World.cell?, hbk]
  have cs1 : (w.alloc (.cells #[.int .u8 (s0 : Int), .int .u8 (s1 : Int)] 56)).cell? ⟨gs, 1, none⟩ = some (.int .u8 (s1 : Int)) := by simp [World.cell?, hbk]
  clear hbk hgs
  have KB0 := Lib.hid kb
  generalize w.alloc (.cells #[.int .u8 (s0 : Int), .int .u8 (s1 : Int)] 56) = wb at *
  clear kb
  go_wp2_with fail
  go_quiet (fail)
  have KB := Lib.hid (KB0.out.drewN nq)
  generalize wb.drewN nq = w0 at *
  clear cs0 cs1 KB0 d1 d2 d3 d4
  go_wp2_with fail
  refine (symbols_mat _ n1 c1 g s A1 xs _ (H1.out.keep (Nat.le_refl _) KB.out) KB.out.size m1 (by omega) (by omega)).mono ?_
  rw [EM.out]
  rintro e w1 ⟨As, na, cs, rfl, mm, kk1⟩
  obtain rfl : na = g := mm.cnt sM.out
  have MM := Lib.hid mm
  have K1 := Lib.hid (KB.out.trans kk1)
  clear mm kk1 KB
  go_wp2_with fail
  refine (lrows_any na s n2 c2 na cs A2 As rs2 M _ (by
    have h := H2.out.keep (Nat.le_refl _) K1.out
    exact ⟨h.1, fun r hr => ⟨(h.2.1 r hr).1.mono K1.out.size, (h.2.1 r hr).2⟩, fun hp => by
      obtain ⟨b, off, e, hb, hc⟩ := h.2.2 hp
      exact ⟨b, off, e, Nat.lt_of_lt_of_le hb K1.out.size, hc⟩⟩) m2 MM.out sM.out p0 (by omega) (by omega)).mono ?_
  rintro e w2 ⟨Ar, k, cr, ps, rfl, st2, px2, pn2, k2⟩
  obtain ⟨rss, sy1, sx1, sn1⟩ := MM.out.rowsAt sM.out (by omega)
  have hcs : na ≤ cs := by
    obtain ⟨_, _, _, h⟩ := MM.out
    exact h
  obtain ⟨kn, kl⟩ := known_top HA2.out p0 r0 p1 r1 sM.out sx1 sn1 px2 pn2
  have KN := Lib.hid kn
  have hk : ps.length = k := st2.1
  rw [hk] at kl
  have HK := Lib.hid hk
  have HCS := Lib.hid hcs
  have K2 := Lib.hid (K1.out.trans k2)
  obtain ⟨N, hN⟩ : ∃ N, w2.heap.size = N := ⟨_, rfl⟩
  have S2 : Hid (Setup N w2 na s M As rss Ar k ps) := ⟨((sy1.turned (Turned.of_keep (F := fun _ => False) k2) fun _ _ e => e).mono fun b hb => by rw [← hN]; exact Nat.lt_of_lt_of_le hb k2.size), st2.mono fun b hb => by rw [← hN]; exact hb.2, by rw [hN]; exact Nat.le_refl _⟩
  have HN := Lib.hid hN
  obtain ⟨W, hW⟩ : ∃ W, ps.map PairV.xs = W := ⟨_, rfl⟩
  have HW : Hid (W.length = k ∧ SymRows na s M W ∧ ∀ (j : Nat) (p : PairV), ps[j]? = some p → W.getD j [] = p.a.xs ++ p.b.xs ∧ (W.getD j []).take na = p.a.xs) := by
    rw [← hW]
    refine ⟨by rw [List.length_map]; exact hk, kn.sym, fun j p hp => ?_⟩
    have h1 : (ps.map PairV.xs).getD j [] = p.a.xs ++ p.b.xs := Known.at_ (g := na) (s := s) (M := M) (rss := rss) hp
    refine ⟨h1, ?_⟩
    rw [h1, List.take_left' (kn.rows p (List.mem_of_getElem? hp)).2.2.1]
  have HWP := Lib.hid hW
  clear st2 px2 pn2 k2 sy1 sx1 sn1 hcs kn hk hN hW K1 MM
  go_wp2_with fail
  refine (bnew_in na s p0 (by omega) p1 (by omega) _).mono ?_
  rintro e w3 ⟨b, F, rfl, r3, f3, k3⟩
  have R3 := Lib.hid r3
  have F3 : Hid (∀ k, F k → N ≤ k) := fun k hk => by rw [← HN.out]; exact f3 k hk
  have S3 := Lib.hid (S2.out.keep k3)
  have K3 := Lib.hid (K2.out.trans k3)
  clear r3 f3 k3 S2
  go_wp2_with fail
  go_loopw [15, 16, 17] (fun cv pv iv wr => ∃ (j : Nat) (F : Nat → Prop) (Al : Option Addr) (cl : Nat) (Ap : Option Addr) (cp : Nat), j ≤ k ∧ iv = .int .i64 j ∧ cv = .slice Al j cl ∧ pv = .slice Ap (selK na s W j).length cp ∧ TpL N na s b k M W As rss Ar ps w j j (selK na s W j) F Al cl Ap cp wr) (fun _ _ iv _ => k - (intOf iv).toNat)
  case atStart =>
    refine ⟨0, F, none, 0, none, 0, by omega, rfl, rfl, rfl, ⟨R3.out, F3.out, S3.out, OwnRows.none_ _ _ _, fun x e => (by cases e), OwnRows.none_ _ _ _, fun x e => (by cases e), fun x e => (by cases e), ?_, K3.out⟩⟩
    rw [← HN.out]; exact K2.out.size
  case round =>
    clear R3 S3 K3 F3
    obtain ⟨j, F, Al, cl, Ap, cp, hj, rfl, rfl, rfl, h⟩ := hrel
    have H := Lib.hid h
    clear h
    by_cases hlt : j < k
    · obtain ⟨b0, off, p, rfl, hb0, hp, ca, cb, la, lb⟩ := H.out.set.rows.at_ hlt
      have hkp := KN.out.rows p (List.mem_of_getElem? hp)
      obtain ⟨hw1, hw2⟩ := HW.out.2.2 j p hp
      have hsu := basK_succ (g := na) (s := s) (rows := W) (k := j) (by rw [HW.out.1]; exact hlt)
      have hse := selK_succ (g := na) (s := s) (W := W) j
      have hha := cut_has HW.out.2.1 j (by rw [HW.out.1]; exact hlt)
      have hcs := cut_sz HW.out.2.1 j (by rw [HW.out.1]; omega)
      have hmc := H.out.coefs
      rw [coefs_xs KN.out j, HWP.out] at hmc
      rw [hw2] at hha
      rw [hw1] at hsu hse hha
      have HMC := Lib.hid (And.intro hmc (And.intro hcs hha))
      have HCP : Hid (na ≤ p.a.c ∧ s ≤ p.b.c) := ⟨by have h1 := la.2.2.1; have h2 := hkp.1; omega, by have h1 := lb.2.2.1; have h2 := hkp.2.1; omega⟩
      have LA : Hid (LiesIn wr (fun b => b < wr.heap.size) ⟨p.a.A, na, p.a.c, p.a.xs⟩) := by
        have := la.mono (F' := fun b => b < wr.heap.size) fun x hx => Nat.lt_of_lt_of_le hx H.out.set.le
        rw [show p.a = ⟨p.a.A, na, p.a.c, p.a.xs⟩ by rw [← hkp.1]] at this; exact this
      have B1 : Hid (Bytes wr wr.heap.size p.a.A na p.a.xs) := by
        have := la.bytes (B := wr.heap.size) fun x hx => Nat.lt_of_lt_of_le hx H.out.set.le
        rw [hkp.1] at this; exact this
      have B2 : Hid (Bytes wr wr.heap.size p.b.A s p.b.xs) := by
        have := lb.bytes (B := wr.heap.size) fun x hx => Nat.lt_of_lt_of_le hx H.out.set.le
        rw [hkp.2.1] at this; exact this
      have HPA : Hid ((⟨p.a.A, na, p.a.c, p.a.xs⟩ : RowV) = p.a ∧ (⟨p.b.A, s, p.b.c, p.b.xs⟩ : RowV) = p.b) := ⟨by rw [← hkp.1], by rw [← hkp.2.1]⟩
      have HS1 : Hid (Sz 1 na [p.a.xs]) := Sz.one hkp.2.2.1 hkp.2.2.2.1
      rw [hkp.1] at ca
      rw [hkp.2.1] at cb
      have e1 : (0 : Int) ≤ (j : Int) := Int.natCast_nonneg _
      have e2 : (j : Int) < (k : Int) := by omega
      have HSU := Lib.hid (And.intro hsu hse)
      have HP := Lib.hid hp
      obtain ⟨z, hz⟩ : ∃ z, decide (inB na s (basK na s W j) (p.a.xs ++ p.b.xs)) = z := ⟨_, rfl⟩
      have HZ := Lib.hid hz
      have hj16 : j ≤ 16 := by omega
      clear hp hkp hsu hse hha hcs hmc la lb hw1 hw2 hz
      go_wp2_with fail
      refine (has_szm HMC.out.1 LA.out HMC.out.2.1 HS1.out (by omega) (by omega)).mono ?_
      rw [HMC.out.2.2, HZ.out]
      rintro e w4 ⟨rfl, k4⟩
      have KE4 := Lib.hid k4
      have H4w := Lib.hid (H.out.later k4)
      have c4 := H4w.out.set.rows.cells (k := j) hlt HP.out
      have ca4 := c4.2.1
      have cb4 := c4.2.2
      rw [← HPA.out.1] at ca4
      rw [← HPA.out.2] at cb4
      clear k4 c4 ca cb
      go_wp2_with fail
      refine (binsert_in H4w.out.bas _ _ p.a.c p.b.c p.a.A p.b.A p.a.xs p.b.xs HCP.out.1 HCP.out.2 (B1.out.keep (Nat.le_refl _) KE4.out) (B2.out.keep (Nat.le_refl _) KE4.out) KE4.out.size KE4.out.size).mono ?_
      rw [HZ.out, ← HSU.out.1]
      rintro e w5 ⟨rfl, F5, r5, f5, t5⟩
      have H5 := Lib.hid (H4w.out.put r5 f5 t5)
      have c5 := H5.out.set.rows.cells (k := j) hlt HP.out
      have ca5 := c5.2.1
      have cb5 := c5.2.2
      rw [← HPA.out.1] at ca5
      rw [← HPA.out.2] at cb5
      clear r5 f5 t5 c5 ca4 cb4
      have hse : selK na s W (j + 1) = selK na s W j ++ (if z = true then [] else [j]) := by
        rw [HSU.out.2]
        congr 1
        by_cases hi : inB na s (basK na s W j) (p.a.xs ++ p.b.xs)
        · rw [if_pos hi, if_pos (by rw [← HZ.out]; exact decide_eq_true hi)]
        · rw [if_neg hi, if_neg (by rw [← HZ.out]; simpa using hi)]
      have HSE := Lib.hid hse
      clear hse
      cases z
      · go_wp2_with (at_builtin; refine wpList_append_row rfl _ _ 22 rfl ⟨p.a.A, na, p.a.c, p.a.xs⟩ Try.underlying22 infoRow rfl (H5.out.own.alloc _) rfl (by rw [World.cell?_alloc_at _ _ _ _ (by simp)]; rfl) (by omega) (by have := H5.out.set.le; simp; omega) ?_)
        intro A7 c7 w7 h7 hgr7 hb7
        rw [HPA.out.1] at h7
        have H7 := Lib.hid (H5.out.addC HP.out h7 ((Keep.refl w5).alloc _ _) hgr7 (hb7.imp id fun e => by rw [e]; simp))
        have c7' := H7.out.set.rows.cells (k := j) hlt HP.out
        have ca7 := c7'.2.1
        have cb7 := c7'.2.2
        rw [← HPA.out.1] at ca7
        rw [← HPA.out.2] at cb7
        clear h7 hgr7 hb7 c7' ca5 cb5
        have hsl : (selK na s W j).length ≤ 1000000 := by rw [selK_len j (by rw [HW.out.1]; omega)]; have := H7.out.bas.fine.1; have := H5.out.bas.fine.1.length_le; have := selK_len (g := na) (s := s) (W := W) (j + 1) (by rw [HW.out.1]; omega); have hh := H.out.bas.fine.1.length_le; omega
        have HSL := Lib.hid hsl
        clear hsl
        go_wp2_with (at_builtin; refine wpList_append_row rfl _ _ 22 rfl ⟨p.b.A, s, p.b.c, p.b.xs⟩ Try.underlying22 infoRow rfl (H7.out.ownP.alloc _) rfl (by rw [World.cell?_alloc_at _ _ _ _ (by simp)]; rfl) HSL.out (by have := H7.out.set.le; simp; omega) ?_)
        intro A8 c8 w8 h8 hgr8 hb8
        rw [HPA.out.2] at h8
        have H8 := Lib.hid (H7.out.addP HP.out h8 ((Keep.refl w7).alloc _ _) hgr8 (hb8.imp id fun e => by rw [e]; simp))
        have HL8 : Hid (selK na s W (j + 1) = selK na s W j ++ [j]) := HSE.out
        clear h8 hgr8 hb8 ca7 cb7
        go_wp2_with fail
        go_roundw
        case rel => exact ⟨j + 1, F5, A7, c7, A8, c8, by omega, by go_num, rfl, by rw [HL8.out, List.length_append]; rfl, by rw [HL8.out]; exact H8.out⟩
        case measure => simp [intOf]; omega
      · go_wp2_with (at_builtin; refine wpList_append_row rfl _ _ 22 rfl ⟨p.a.A, na, p.a.c, p.a.xs⟩ Try.underlying22 infoRow rfl (H5.out.own.alloc _) rfl (by rw [World.cell?_alloc_at _ _ _ _ (by simp)]; rfl) (by omega) (by have := H5.out.set.le; simp; omega) ?_)
        intro A7 c7 w7 h7 hgr7 hb7
        rw [HPA.out.1] at h7
        have H7 := Lib.hid (H5.out.addC HP.out h7 ((Keep.refl w5).alloc _ _) hgr7 (hb7.imp id fun e => by rw [e]; simp))
        have HL8 : Hid (selK na s W (j + 1) = selK na s W j) := HSE.out.trans (List.append_nil _)
        clear h7 hgr7 hb7 ca5 cb5
        go_wp2_with fail
        go_roundw
        case rel => exact ⟨j + 1, F5, A7, c7, Ap, cp, by omega, by go_num, rfl, by rw [HL8.out], by rw [HL8.out]; exact H7.out⟩
        case measure => simp [intOf]; omega
    · obtain rfl : j = k := by omega
      have hjW : j ≤ W.length := by rw [HW.out.1]; exact Nat.le_refl _
      have hz := cut_sz HW.out.2.1 j hjW
      have hrk := cut_rk HW.out.2.1 j hjW
      have hred := cut_red HW.out.2.1 j hjW
      have hask := fun v (hv : v.length = na) (ha : AllB v) => cut_ask HW.out.2.1 j hjW hv ha
      have hbs := basK_sym HW.out.2.1 j hjW
      have hsl := selK_len (g := na) (s := s) (W := W) j hjW
      have hsq := sel_square HW.out.2.1 sM.out j hjW
      have hmc := H.out.coefs
      rw [coefs_xs KN.out j, HWP.out] at hmc
      have hI : ∀ i ∈ selK na s W j, i < ps.length := fun i hi => by have := selK_lt j i hi; rw [HK.out]; exact this
      have hmp := H.out.pays hI
      rw [pays_xs KN.out hI, HWP.out, hsl] at hmp
      have hms := H.out.symbols HCS.out
      rw [KN.out.sy] at hms
      have hrb := H.out.bas
      have hri : RowsIn wr (fun b => b < wr.heap.size) Al j ((ps.map PairV.a).take j) := RowsIn.of_own H.out.own (fun r hr => by
        obtain ⟨p, hp, rfl⟩ := List.mem_map.1 (List.mem_of_mem_take hr)
        exact (H.out.set.rows.2.1 p hp).1.mono fun b hb => Nat.lt_of_lt_of_le hb H.out.set.le) (fun b hb => (H.out.own.lt b hb).2)
      have HCL : Hid (j ≤ cl) := ownrows_le H.out.own
      have KW := Lib.hid H.out.keep
      rw [hsl]
      obtain ⟨C, hC⟩ : ∃ C, (W.map (List.take na)).take j = C := ⟨_, rfl⟩
      obtain ⟨B, hB⟩ : ∃ B, basK na s W j = B := ⟨_, rfl⟩
      obtain ⟨r, hr⟩ : ∃ r, B.length = r := ⟨_, rfl⟩
      rw [hC] at hz hrk hred hmc
      simp only [hC] at hask
      rw [hB] at hrk hred hsl hmp hrb hbs hsq
      simp only [hB] at hask
      rw [hr] at hrk hsl hmp hsq
      rw [hB, hr]
      have hrow := bas_rows sM.out hbs.1 hbs.2.1
      have hle := hbs.1.length_le
      rw [hr] at hle
      have hsol := solved sM.out hbs.1 hbs.2.1
      rw [hr] at hsol
      have sR : Hid (Sz r na (reduceN C)) := by
        have := red_sz hz
        rwa [hrk] at this
      have SC := Lib.hid hz
      have HRK := Lib.hid hrk
      have HRED := Lib.hid hred
      have HASK := Lib.hid hask
      have HSL := Lib.hid hsl
      have HSQ := Lib.hid hsq
      have MC := Lib.hid hmc
      have MP := Lib.hid hmp
      have MS := Lib.hid hms
      have RB := Lib.hid hrb
      have RI := Lib.hid hri
      have HROW := Lib.hid hrow
      have HSOL := Lib.hid hsol
      have HR := Lib.hid hr
      have HCC := Lib.hid (And.intro hC hB)
      have hle6 : r ≤ 6 := by omega
      clear hz hrk hred hask hbs hsl hsq hmc hI hmp hms hrb hri hrow hsol hr hC hB hjW hle H
      obtain ⟨wE, rfl⟩ : ∃ wE, wE = wr := ⟨_, rfl⟩
      go_wp2_with fail
      refine (brows_any RB.out).mono ?_
      rintro e wF ⟨A9, n9, c9, qs, rfl, o9⟩
      obtain rfl : r = n9 := by
        have h1 := o9.1.length
        have h2 := congrArg List.length o9.2.2.1
        rw [List.length_map, HR.out] at h2
        omega
      have HQ : Hid (∀ (i : Nat) (q : PairV), qs[i]? = some q → q.a.n = na ∧ q.b.n = s ∧ q.a.xs = (reduceN C).getD i [] ∧ q.b.xs = payV na s M ((reduceN C).getD i [])) := fun i q hq => by
        have hm := List.mem_of_getElem? hq
        have h1 := o9.2.1 q hm
        have h2 : (qs.map PairV.xs)[i]? = some q.xs := by rw [List.getElem?_map, hq]; rfl
        rw [o9.2.2.1] at h2
        have ha : q.a.xs = q.xs.take na := by
          show q.a.xs = (q.a.xs ++ q.b.xs).take na
          rw [← h1.2.2.1, ← h1.1.length, List.take_left']
          rfl
        have hx : q.a.xs = (reduceN C).getD i [] := by
          rw [← HRED.out, List.getD_eq_getElem?_getD, List.getElem?_map, h2]
          exact ha
        refine ⟨h1.2.2.1, h1.2.2.2, hx, ?_⟩
        have h3 := HROW.out q.xs (List.mem_of_getElem? h2)
        rw [← ha, rowV] at h3
        have h4 : q.a.xs ++ q.b.xs = q.a.xs ++ payV na s M q.a.xs := h3
        rw [← hx]
        exact List.append_cancel_left h4
      have T9 := Lib.hid o9.stIn
      have KF := Lib.hid o9.2.2.2
      clear o9
      go_wp2_with fail
      refine (reduce_sz0 (MC.out.keep KF.out) SC.out (by omega) (by omega)).mono ?_
      rintro e wG ⟨A7, n7, c7, rfl, m7, k7⟩
      obtain rfl : r = n7 := (m7.cnt sR.out).symm
      have M7 := Lib.hid m7
      have KG := Lib.hid (KF.out.trans k7)
      have TG := Lib.hid (T9.out.keep k7)
      have ZG := Lib.hid k7.size
      clear m7 k7 T9 KF
      go_wp2_with fail
      refine (rank_sz0 (MC.out.keep KG.out) SC.out (by omega) (by omega)).mono ?_
      rw [HRK.out]
      rintro e wH ⟨rfl, k8⟩
      have MH := Lib.hid (M7.out.keep k8)
      have KH := Lib.hid (KG.out.trans k8)
      have TH := Lib.hid (TG.out.keep k8)
      have ZH := Lib.hid (Nat.le_trans ZG.out k8.size)
      clear k8 M7 KG TG ZG
      go_wp2_with fail
      refine (brank_any (RB.out.keep KH.out)).mono ?_
      rw [HR.out]
      rintro e wI ⟨rfl, k9⟩
      have MI := Lib.hid (MH.out.keep k9)
      have KI := Lib.hid (KH.out.trans k9)
      have TI := Lib.hid (TH.out.keep k9)
      have SI := Lib.hid (Nat.le_trans ZH.out k9.size)
      clear k9 MH KH TH ZH
      go_wp2_with fail
      go_loopw [27] (fun iv wr => ∃ (i : Nat), i ≤ r ∧ iv = .int .i64 i ∧ Keep wI wr) (fun iv _ => r - (intOf iv).toNat)
      case atStart => exact ⟨0, by omega, rfl, Keep.refl _⟩
      case round =>
        obtain ⟨i, hi, rfl, hk⟩ := hrel
        have HKI := Lib.hid hk
        by_cases hlt2 : i < r
        · obtain ⟨b1, o1, q, rfl, _, hq, ca, cb, la, lb⟩ := (TI.out.keep hk).at_ hlt2
          obtain ⟨b2, o2, Ay, cy, rfl, hb2, cc, hby, hcy, _⟩ := (MI.out.keep hk).row_at sR.out hlt2
          have hqq := HQ.out i q hq
          have y1 := la.bytes (B := wr.heap.size) fun x hx => Nat.lt_of_lt_of_le hx.2 (Nat.le_trans SI.out hk.size)
          have y2 := lb.bytes (B := wr.heap.size) fun x hx => Nat.lt_of_lt_of_le hx.2 (Nat.le_trans SI.out hk.size)
          rw [hqq.1, hqq.2.2.1] at y1
          rw [hqq.2.1, hqq.2.2.2] at y2
          rw [hqq.1] at ca
          rw [hqq.2.1] at cb
          obtain ⟨R0, hR0⟩ : ∃ R0, (reduceN C).getD i [] = R0 := ⟨_, rfl⟩
          rw [hR0] at y1 y2 hby
          have Y := Lib.hid (And.intro y1 (And.intro y2 hby))
          have HCY := Lib.hid hcy
          have e1 : (0 : Int) ≤ (i : Int) := Int.natCast_nonneg _
          have e2 : (i : Int) < (r : Int) := by omega
          clear hk hq hqq la lb y1 y2 hby hcy hR0
          go_wp2_with fail
          refine (comb_mat (MS.out.keep (KI.out.trans HKI.out)) sM.out p0 (by omega) (by omega) Y.out.2.2 (Nat.le_refl _) rfl).mono ?_
          rintro e w6 ⟨A6, n6, c6, rfl, o6, k6⟩
          obtain rfl : s = n6 := by rw [← o6.length]; exact (tab_length _ _).symm
          have ca6 := (Below.cell k6 (World.block_lt_of_cell? wr _ ca)).trans ca
          have cb6 := (Below.cell k6 (World.block_lt_of_cell? wr _ cb)).trans cb
          have cc6 := (Below.cell k6 (World.block_lt_of_cell? wr _ cc)).trans cc
          have tk : ∀ n, Keep wr (w6.drewN n) := fun n => k6.drewN n
          have v1 : ∀ n, (convert 23 9 (.slice q.a.A na q.a.c)).run Try.prog (w6.drewN n) = .ok (.string (strN R0)) (w6.drewN n) := fun n => run_str (Y.out.1.keep (Nat.le_refl _) (tk n)) Try.underlying23 Try.underlying5 Try.underlying9 _
          have v2 : ∀ n, (convert 23 9 (.slice Ay na cy)).run Try.prog (w6.drewN n) = .ok (.string (strN R0)) (w6.drewN n) := fun n => run_str (Y.out.2.2.keep (Nat.le_refl _) (tk n)) Try.underlying23 Try.underlying5 Try.underlying9 _
          have v3 : ∀ n, (convert 23 9 (.slice q.b.A s q.b.c)).run Try.prog (w6.drewN n) = .ok (.string (strN (payV na s M R0))) (w6.drewN n) := fun n => run_str (Y.out.2.1.keep (Nat.le_refl _) (tk n)) Try.underlying23 Try.underlying5 Try.underlying9 _
          have v4 : ∀ n, (convert 23 9 (.slice A6 s c6)).run Try.prog (w6.drewN n) = .ok (.string (strN (payV na s M R0))) (w6.drewN n) := fun n => run_str (o6.bytes.keep (Nat.le_refl _) (Keep.drewN (Keep.refl w6) n)) Try.underlying23 Try.underlying5 Try.underlying9 _
          generalize strN (payV na s M R0) = t2 at *
          generalize strN R0 = t1 at *
          have z1 : (t1.toList == t1.toList) = true := beq_iff_eq.2 rfl
          have z2 : (t2.toList == t2.toList) = true := beq_iff_eq.2 rfl
          have z3 : (t1.toList != t1.toList) = false := by rw [bne, z1]; rfl
          have z4 : (t2.toList != t2.toList) = false := by rw [bne, z2]; rfl
          have HK6 := Lib.hid (HKI.out.trans k6)
          clear k6 tk o6 ca cb cc hb2
          go_wp2_with fail
          go_quiet (fail)
          go_wp2_with fail
          go_roundw
          case rel => exact ⟨i + 1, by omega, by go_num, HK6.out.drewN _⟩
          case measure => simp [intOf]; omega
        · obtain rfl : r = i := by omega
          have KJ := Lib.hid (KI.out.trans hk)
          have KWJ := Lib.hid (KW.out.trans KJ.out)
          have mkg := run_make_bytes (P := Try.prog) Try.underlying23 info5 na (by omega) wr
          obtain ⟨w5, vv, hcp, ho5, hk5⟩ := run_copy_fill (P := Try.prog) (t := 23) (e := 5) (c := c4) (ty := 3) (n := na) Try.underlying23 (by kernel_rfl) (H4.out.keep (Nat.le_refl _) KWJ.out) KWJ.out.size (by omega)
          obtain ⟨V, hV⟩ : ∃ V, fillN ys na = V := ⟨_, rfl⟩
          have HV : Hid (V.length = na ∧ AllB V) := by rw [← hV]; exact ⟨fillN_len _ _, fillN_all H4.out.2.1 _⟩
          rw [hV] at ho5
          obtain ⟨vb, hvb⟩ : ∃ vb, wr.heap.size = vb := ⟨_, rfl⟩
          rw [hvb] at ho5 mkg hcp
          have HO5 := Lib.hid ho5
          have K5 := Lib.hid (KJ.out.trans hk5)
          obtain ⟨z, hz⟩ : ∃ z, decide (inB na s B (V ++ List.replicate s 0)) = z := ⟨_, rfl⟩
          have HZ := Lib.hid hz
          have hzz : (z != z) = false := by cases z <;> rfl
          clear ho5 hk5 hV hz hk
          go_wp2_with fail
          refine (has_szm (MC.out.keep K5.out) (HO5.out.lies.mono fun b hb => (HO5.out.1.lt b hb).2) SC.out (Sz.one HV.out.1 HV.out.2) (by omega) (by omega)).mono ?_
          rw [HASK.out V HV.out.1 HV.out.2, HZ.out]
          rintro e w6 ⟨rfl, k6⟩
          have K6 := Lib.hid (K5.out.trans k6)
          have O6 := Lib.hid (HO5.out.keep k6)
          clear k6 mkg hcp
          go_wp2_with fail
          refine (bcontains_in (RB.out.keep K6.out) w6.heap.size na _ V (Nat.le_refl _) O6.out.bytes (Nat.le_refl _)).mono ?_
          rw [HZ.out]
          rintro e w7 ⟨rfl, k7⟩
          have K7 := Lib.hid (K6.out.trans k7)
          clear k7
          go_wp2_with fail
          by_cases hg : r = na
          · obtain rfl : r = na := hg
            have dr : ((r : Int) == (r : Int)) = true := beq_iff_eq.2 rfl
            refine (bsolve_in (RB.out.keep K7.out) HR.out).mono ?_
            rintro e wZ ⟨Ao, co, ro, rfl, oo, ow, ox, k8⟩
            have hmo : Mat wZ ⟨Ao, r, co, B.map (List.drop r)⟩ := ⟨ro, RowsIn.of_own oo (fun x hx => (ow x hx).lies.mono fun b hb => ((ow x hx).1.lt b hb).2) (fun b hb => (oo.lt b hb).2), ox, ownrows_le oo⟩
            rw [HSOL.out rfl] at hmo
            have MO := Lib.hid hmo
            have KZ := Lib.hid (K7.out.trans k8)
            clear hmo oo ow ox k8
            go_wp2_with fail
            clear dr hzz
            go_loopw [35, 36, 37] (fun sv iv nv wr => ∃ (i : Nat) (Aq : Option Addr) (cq : Nat), i ≤ j ∧ iv = .int .i64 i ∧ nv = .int .i64 (selK r s W i).length ∧ sv = .slice Aq (selK r s W i).length cq ∧ Lay wZ wr Aq (selK r s W i).length cq (selA ps (selK r s W i))) (fun _ iv _ _ => j - (intOf iv).toNat)
            case atStart => exact ⟨0, none, 0, by omega, rfl, rfl, rfl, Lay.nothing wZ⟩
            case round =>
              obtain ⟨i, Aq, cq, hi, rfl, rfl, rfl, hl⟩ := hrel
              have hmore := selK_more (g := r) (s := s) (W := W) i (j - i)
              rw [show i + (j - i) = j by omega] at hmore
              have hLle : (selK r s W i).length ≤ r := by
                obtain ⟨t, e⟩ := hmore
                have := HSL.out
                rw [e, List.length_append] at this
                omega
              obtain ⟨L, hL⟩ : ∃ L, (selK r s W i).length = L := ⟨_, rfl⟩
              rw [hL] at hLle hl ⊢
              have HL := Lib.hid hl
              have HLL := Lib.hid hL
              clear hl hL hmore
              have e1 : (0 : Int) ≤ (i : Int) := Int.natCast_nonneg _
              by_cases hlt2 : i < j
              · have e2 : (i : Int) < (j : Int) := by omega
                have e2' : decide ((i : Int) < (j : Int)) = true := decide_eq_true e2
                by_cases hLr : L < r
                · have e3 : decide ((L : Int) < (r : Int)) = true := decide_eq_true (by omega)
                  have e3' : decide (L < r) = true := decide_eq_true hLr
                  have w1 : IntKind.i64.wrap ((i : Int) + 1) = ((i + 1 : Nat) : Int) := by rw [show (i : Int) + 1 = ((i + 1 : Nat) : Int) by omega]; exact IntWalk.i64_in _ (by omega)
                  obtain ⟨i1, hi1⟩ : ∃ i1, i + 1 = i1 := ⟨_, rfl⟩
                  rw [hi1] at w1
                  have w5 : i1 ≤ 17 := by omega
                  have w2 : (i1 : Int) ≤ (cl : Int) := by have := HCL.out; omega
                  have w3 : (0 : Int) ≤ (i1 : Int) := Int.natCast_nonneg _
                  have w4 : i1 ≤ cl := by have := HCL.out; omega
                  have hrk := cut_rk HW.out.2.1 i1 (by rw [HW.out.1]; omega)
                  have hsz := cut_sz HW.out.2.1 i1 (by rw [HW.out.1]; omega)
                  have hlen := selK_len (g := r) (s := s) (W := W) i1 (by rw [HW.out.1]; omega)
                  rw [← hlen] at hrk
                  have hmt := (MC.out.keep (KZ.out.trans HL.out.keep)).take (k := i1) (by omega)
                  rw [← HCC.out.1, take_self _ i1 j (by omega)] at hmt
                  have hse := selK_succ (g := r) (s := s) (W := W) i
                  rw [hi1] at hse
                  have HI1 := Lib.hid hi1
                  have HMT := Lib.hid (And.intro hmt hsz)
                  obtain ⟨bl, off, r0, rfl, hbl, hr0, hc0, hl0⟩ := (RI.out.turned (Turned.of_keep (F := fun _ => False) (KZ.out.trans HL.out.keep)) fun _ _ e => e).at_ hlt2
                  have hra : (ps.getD i PairV.zero).a = r0 := by
                    rw [List.getElem?_take, if_pos hlt2, List.getElem?_map] at hr0
                    rw [List.getD_eq_getElem?_getD]
                    cases hpi : ps[i]? with
                    | none => rw [hpi] at hr0; cases hr0
                    | some p => rw [hpi] at hr0; exact Option.some.inj hr0
                  have HRA := Lib.hid hra
                  have HL0 : Hid (LiesIn wZ (fun b => b < wZ.heap.size) r0) := ((RI.out.2.1 r0 (List.mem_of_getElem? hr0)).turned (Turned.of_keep (F := fun _ => False) KZ.out) fun _ _ e => e).mono fun b hb => Nat.lt_of_lt_of_le hb KZ.out.size
                  by_cases hin : inB r s (basK r s W i) (W.getD i [])
                  · rw [if_pos hin, List.append_nil] at hse
                    rw [hse, HLL.out] at hrk
                    have HRK1 := Lib.hid hrk
                    have HSE := Lib.hid hse
                    clear hrk hsz hlen hmt hse hi1 hr0 hra hin hl0 hbl hc0
                    go_wp2_with fail
                    refine (rank_sz0 HMT.out.1 HMT.out.2 (by omega) (by omega)).mono ?_
                    rw [HRK1.out]
                    rintro e wa ⟨rfl, ka⟩
                    have HLa := Lib.hid (HL.out.later ka)
                    have e4 : ¬ (L : Int) < (L : Int) := by omega
                    have e5 : decide ((L : Int) < (L : Int)) = false := decide_eq_false e4
                    clear ka
                    go_wp2_with fail
                    go_roundw
                    case rel => exact ⟨i1, Aq, cq, by have := HI1.out; omega, by rw [← HI1.out], by rw [HSE.out, HLL.out], by rw [HSE.out, HLL.out], by rw [HSE.out, HLL.out]; exact HLa.out⟩
                    case measure => simp [intOf]; have := HI1.out; omega
                  · rw [if_neg hin] at hse
                    have hlL : (selK r s W i1).length = L + 1 := by rw [hse, List.length_append, HLL.out]; rfl
                    rw [hlL] at hrk
                    have HLL1 := Lib.hid hlL
                    have HRK1 := Lib.hid hrk
                    have HSE := Lib.hid hse
                    obtain ⟨rA, rn, rc, rx⟩ := r0
                    have hc0 : wr.cell? ⟨bl, off + i, none⟩ = some (.slice rA rn rc) := hc0
                    clear hrk hsz hlen hmt hse hi1 hr0 hra hin hl0 hbl hlL
                    go_wp2_with fail
                    refine (rank_sz0 HMT.out.1 HMT.out.2 (by omega) (by omega)).mono ?_
                    rw [HRK1.out]
                    rintro e wa ⟨rfl, ka⟩
                    have HLa := Lib.hid (HL.out.later ka)
                    have hca := (Below.cell ka (World.block_lt_of_cell? wr _ hc0)).trans hc0
                    obtain ⟨L1, hL1⟩ : ∃ L1, L + 1 = L1 := ⟨_, rfl⟩
                    rw [hL1]
                    have e4 : (L : Int) < (L1 : Int) := by omega
                    have e5 : decide ((L : Int) < (L1 : Int)) = true := decide_eq_true e4
                    have e6 : decide (L < L1) = true := decide_eq_true (by omega)
                    have HL1 := Lib.hid hL1
                    have hL6 : L ≤ 1000000 := by omega
                    clear ka hc0 hL1
                    go_wp2_with (at_builtin; refine wpList_append_layrow rfl _ _ 22 rfl ⟨rA, rn, rc, rx⟩ 23 Try.underlying22 rfl HLa.out (HLa.out.old HL0.out) rfl hL6 ?_)
                    intro A8 c8 w8 h8
                    have H8 : Hid (Lay wZ w8 A8 L1 c8 (selA ps (selK r s W i1))) := by
                      show Lay _ _ _ _ _ _
                      rw [HSE.out, ← HL1.out, selA, List.map_append]
                      show Lay _ _ _ _ _ (selA ps (selK r s W i) ++ [(ps.getD i PairV.zero).a])
                      rw [HRA.out]; exact h8
                    have HLL2 : Hid ((selK r s W i1).length = L1) := HLL1.out.trans HL1.out
                    clear h8
                    rw [HL1.out]
                    go_wp2_with fail
                    go_roundw
                    case rel => exact ⟨i1, A8, c8, by have := HI1.out; omega, by rw [← HI1.out], by rw [HLL2.out], by rw [HLL2.out], by rw [HLL2.out]; exact H8.out⟩
                    case measure => simp [intOf]; have := HI1.out; omega
                · have e3 : decide ((L : Int) < (r : Int)) = false := decide_eq_false (by omega)
                  have e3' : decide (L < r) = false := decide_eq_false hLr
                  obtain rfl : r = L := by omega
                  have HXX : Hid (selK r s W i = selK r s W j) := selK_full (by omega) HLL.out HSL.out
                  clear hLr hLle
                  have hx2 := picks_xs KN.out (I := selK r s W j) (fun x hx => by have := selK_lt j x hx; rw [HK.out]; exact this)
                  rw [HWP.out] at hx2
                  have hmq := HL.out.mat
                  rw [HXX.out, hx2] at hmq
                  obtain ⟨sq, rq, sP, sI, eM⟩ := HSQ.out (by first | trivial | rfl) p0
                  have hmp := MP.out
                  generalize pickN (W.map (List.take r)) (selK r s W j) = Q at *
                  have MQ := Lib.hid hmq
                  have SQ := Lib.hid sq
                  have RQ := Lib.hid rq
                  have SP := Lib.hid sP
                  have SIV := Lib.hid sI
                  have EMM := Lib.hid eM
                  have MP2 := Lib.hid (hmp.keep KZ.out)
                  clear hx2 hmq sq rq sP sI eM hmp
                  go_wp2_with fail
                  refine (inv_szm MQ.out SQ.out p0 (by omega) RQ.out).mono ?_
                  rintro e wa ⟨Ai, ni, ci, rfl, mi, ki⟩
                  have Mi := Lib.hid mi
                  have Ka := Lib.hid (HL.out.keep.trans ki)
                  clear mi ki
                  go_wp2_with fail
                  refine (mul_szm Mi.out (MP2.out.keep Ka.out) SIV.out SP.out p0 p0 (by omega) (by omega) (by omega)).mono ?_
                  rw [EMM.out]
                  rintro e wb ⟨Ax, nx, cx, rfl, mx, kx⟩
                  have Mx := Lib.hid mx
                  have Kb := Lib.hid (Ka.out.trans kx)
                  clear mx kx
                  go_wp2_with fail
                  refine (same_szm Mx.out (MO.out.keep Kb.out) sM.out (by omega)).mono ?_
                  rintro e wc ⟨rfl, kc⟩
                  have Kc := Lib.hid (Kb.out.trans kc)
                  clear kc
                  go_wp2_with fail
                  refine (same_szm (MO.out.keep Kc.out) (MS.out.keep (KZ.out.trans Kc.out)) sM.out (by omega)).mono ?_
                  rintro e wd ⟨rfl, kd⟩
                  have Kd := Lib.hid ((KW.out.trans KZ.out).trans (Kc.out.trans kd))
                  clear kd
                  go_wp2_with fail
                  go_ret
                  exact ⟨rfl, Kd.out⟩
              · obtain rfl : i = j := by omega
                have e2' : decide ((i : Int) < (i : Int)) = false := decide_eq_false (by omega)
                have HXX : Hid (selK r s W i = selK r s W i) := rfl
                obtain rfl : r = L := HSL.out.symm.trans HLL.out
                clear hLle hlt2
                have hx2 := picks_xs KN.out (I := selK r s W i) (fun x hx => by have := selK_lt i x hx; rw [HK.out]; exact this)
                rw [HWP.out] at hx2
                have hmq := HL.out.mat
                rw [HXX.out, hx2] at hmq
                obtain ⟨sq, rq, sP, sI, eM⟩ := HSQ.out (by first | trivial | rfl) p0
                have hmp := MP.out
                generalize pickN (W.map (List.take r)) (selK r s W i) = Q at *
                have MQ := Lib.hid hmq
                have SQ := Lib.hid sq
                have RQ := Lib.hid rq
                have SP := Lib.hid sP
                have SIV := Lib.hid sI
                have EMM := Lib.hid eM
                have MP2 := Lib.hid (hmp.keep KZ.out)
                clear hx2 hmq sq rq sP sI eM hmp
                go_wp2_with fail
                refine (inv_szm MQ.out SQ.out p0 (by omega) RQ.out).mono ?_
                rintro e wa ⟨Ai, ni, ci, rfl, mi, ki⟩
                have Mi := Lib.hid mi
                have Ka := Lib.hid (HL.out.keep.trans ki)
                clear mi ki
                go_wp2_with fail
                refine (mul_szm Mi.out (MP2.out.keep Ka.out) SIV.out SP.out p0 p0 (by omega) (by omega) (by omega)).mono ?_
                rw [EMM.out]
                rintro e wb ⟨Ax, nx, cx, rfl, mx, kx⟩
                have Mx := Lib.hid mx
                have Kb := Lib.hid (Ka.out.trans kx)
                clear mx kx
                go_wp2_with fail
                refine (same_szm Mx.out (MO.out.keep Kb.out) sM.out (by omega)).mono ?_
                rintro e wc ⟨rfl, kc⟩
                have Kc := Lib.hid (Kb.out.trans kc)
                clear kc
                go_wp2_with fail
                refine (same_szm (MO.out.keep Kc.out) (MS.out.keep (KZ.out.trans Kc.out)) sM.out (by omega)).mono ?_
                rintro e wd ⟨rfl, kd⟩
                have Kd := Lib.hid ((KW.out.trans KZ.out).trans (Kc.out.trans kd))
                clear kd
                go_wp2_with fail
                go_ret
                exact ⟨rfl, Kd.out⟩
          · have dr : ((r : Int) == (na : Int)) = false := beq_eq_false_iff_ne.2 (by omega)
            refine (bsolve_low (RB.out.keep K7.out) (by rw [HR.out]; exact hg)).mono ?_
            rintro e w8 ⟨rfl, k8⟩
            have K8 := Lib.hid ((KW.out.trans K7.out).trans k8)
            clear k8 hg
            go_wp2_with fail
            go_ret
            exact ⟨rfl, K8.out⟩
end Go.Proofs.Ytofhdaeeiienfaa
