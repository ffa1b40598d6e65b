/- The walk of MatrixSolves. -/
import Derived.Test.YtcmjglmagkjdoaaMvec
namespace Go.Proofs.Ytcmjglmagkjdoaa
open Go.RowKit
set_option linter.unusedVariables false
set_option linter.unusedSimpArgs false
theorem lit_one {w : World} {r : RowV} (h : Bytes w w.heap.size r.A r.n r.xs) (hc : r.n ≤ r.c) (t : TypeId) : Mat (w.alloc (.cells #[.slice r.A r.n r.c] t)) ⟨some ⟨w.heap.size, 0, none⟩, 1, 1, [r.xs]⟩ :=
  lit_mat rfl t 1 [r] _ (fun y hy => by rw [List.mem_singleton] at hy; subst hy; exact LiesIn.of_bytes h hc) rfl rfl _ rfl
set_option maxRecDepth 100000 in
set_option maxHeartbeats 8000000 in
theorem solves_any (n1 n2 c1 c2 s0 : Nat) (A1 A2 : Option Addr) (xs ys : List Nat) (w : World) (h1 : Bytes w w.heap.size A1 n1 xs) (h2 : Bytes w w.heap.size A2 n2 ys) (m1 : n1 ≤ 140737488355328) (m2 : n2 ≤ 140737488355328) (b0 : s0 < 256) :
    Calls Try.prog 7 #[.slice A1 n1 c1, .slice A2 n2 c2, .int .u8 (s0 : Int)] w fun e w' => e = .returned (.bool true) ∧ Keep w w' := by
  have H1 := Lib.hid h1
  have H2 := Lib.hid h2
  obtain ⟨q, hq⟩ : ∃ q, s0 % 6 = q := ⟨_, rfl⟩
  obtain ⟨k, hk⟩ : ∃ k, 1 + q = k := ⟨_, rfl⟩
  have d1 : (s0 : Int) % 6 = (q : Int) := by omega
  have d2 : 1 + (q : Int) = (k : Int) := by omega
  have p0 : 1 ≤ k := by omega
  have q0 : k ≤ 6 := by omega
  obtain ⟨X, hX⟩ : ∃ X, shapeN xs k k = X := ⟨_, rfl⟩
  have sX : Hid (Sz k k X) := hX ▸ shape_sz xs k k h1.all
  obtain ⟨R, hR⟩ : ∃ R, fillN ys k = R := ⟨_, rfl⟩
  have hRl : R.length = k := hR ▸ fillN_len ys k
  have hRa : AllB R := hR ▸ fillN_all h2.all k
  have E0 := Lib.hid (And.intro hX hR)
  have sR : Hid (Sz 1 k [R]) := Sz.one hRl hRa
  have HR := Lib.hid (And.intro hRl hRa)
  have hm := run_make_bytes (P := Try.prog) (t := 26) (e := 5) Try.underlying26 info5 k (by omega)
  clear h1 h2 hX hR hRl hRa hq hk
  go_enter Try.func7, Try.ntmps7
  go_wp2_with fail
  refine (shaped_mat _ n1 c1 k k A1 xs _ (H1.out.keep (Nat.le_refl _) (Keep.refl w)) (Nat.le_refl _) m1 (by omega) (by omega)).mono ?_
  rw [E0.out.1]
  rintro e w1 ⟨A3, n3, c3, rfl, mm, kk⟩
  obtain ⟨wc, v, hcp, ho, hkc⟩ := run_copy_fill (P := Try.prog) (w := w1) (t := 26) (e := 5) (c := c2) (n := k) (ty := 3) Try.underlying26 (by kernel_rfl) (H2.out.keep (Nat.le_refl _) kk) kk.size (by omega)
  rw [E0.out.2] at ho
  have KB := Lib.hid (kk.trans hkc)
  have hb := ho.bytes
  obtain ⟨gr, hgr⟩ : ∃ gr, w1.heap.size = gr := ⟨_, rfl⟩
  simp only [hgr] at hcp hm hb
  have hm1 := hm w1
  rw [hgr] at hm1
  have S0 : Hid (Sr wc wc [⟨A3, n3, c3, X⟩] [⟨some ⟨gr, 0, none⟩, k, k, R⟩]) := ((Sr.start wc).more (x := ⟨A3, n3, c3, X⟩) (mm.keep hkc) (Keep.refl _)).moreRow (r := ⟨some ⟨gr, 0, none⟩, k, k, R⟩) hb (Keep.refl _)
  clear mm kk ho hkc hgr hb hm
  go_wp2_with fail
  clear hm1 hcp
  by_cases hx : rk X = k
  · obtain ⟨U, hUe⟩ : ∃ M, invV X = M := ⟨_, rfl⟩
    have sU : Hid (Sz k k U) := hUe ▸ (inv_left sX.out p0 hx).1
    have hs := solves sX.out p0 hx HR.out.1 HR.out.2
    rw [hUe] at hs
    obtain ⟨V, hV⟩ : ∃ V, rowN R U k k = V := ⟨_, rfl⟩
    have sV : Hid (Sz 1 k [V]) := Sz.one (by rw [← hV, rowN, tab_length]) (hV ▸ rowN_all HR.out.2)
    have e1 : prodN [R] U k k 1 = [V] := by rw [← hV]; rfl
    have e2 : prodN [V] X k k 1 = [R] := by
      have := hs.2.2.1
      rw [hV, (mulV_eq sV.out sX.out (by omega) p0).1] at this
      exact this
    obtain ⟨D, hD⟩ : ∃ D, rowN R X k k = D := ⟨_, rfl⟩
    have e3 : vComb k X R k = D := by rw [← hD]; exact comb_row sX.out HR.out.2
    have hDa : AllB D := hD ▸ rowN_all HR.out.2
    have hDl : D.length = k := by rw [← hD, rowN, tab_length]
    have e4 : vComb k U D k = R := by rw [comb_row sU.out hDa, ← hD]; exact hs.2.2.2.2
    have EX := Lib.hid (And.intro hUe (And.intro e1 (And.intro e2 (And.intro e3 e4))))
    have HX := Lib.hid hx
    have HDL := Lib.hid hDl
    clear hUe hs hV e1 e2 hD e3 hDa hDl e4 hx
    refine (inv_szm (S0.out.get 0 rfl) sX.out p0 (by omega) HX.out).mono ?_
    rw [EX.out.1]
    rintro e w2 ⟨A4, n4, c4, rfl, mm, kk⟩
    have S2 : Hid (Sr wc w2 [⟨A3, n3, c3, X⟩, ⟨A4, n4, c4, U⟩] [⟨some ⟨gr, 0, none⟩, k, k, R⟩]) := S0.out.more mm kk
    clear mm kk S0
    go_wp2_with fail
    refine (mul_szm (lit_one (S2.out.row 0 rfl) (Nat.le_refl _) _) ((S2.out.get 1 rfl).keep ((Keep.refl w2).obj _)) sR.out sU.out (by omega) p0 (by omega) (by omega) (by omega)).mono ?_
    rw [EX.out.2.1]
    rintro e w3 ⟨A5, n5, c5, rfl, mm, kk⟩
    have S3 : Hid (Sr wc w3 [⟨A3, n3, c3, X⟩, ⟨A4, n4, c4, U⟩, ⟨A5, n5, c5, [V]⟩] [⟨some ⟨gr, 0, none⟩, k, k, R⟩]) := (S2.out.later ((Keep.refl w2).obj _)).more mm kk
    clear mm kk S2
    go_wp2_with fail
    refine (mul_szm (S3.out.get 2 rfl) (S3.out.get 0 rfl) sV.out sX.out (by omega) p0 (by omega) (by omega) (by omega)).mono ?_
    rw [EX.out.2.2.1]
    rintro e w4 ⟨A6, n6, c6, rfl, mm, kk⟩
    have S4 : Hid (Sr wc w4 [⟨A3, n3, c3, X⟩, ⟨A4, n4, c4, U⟩, ⟨A5, n5, c5, [V]⟩, ⟨A6, n6, c6, [R]⟩] [⟨some ⟨gr, 0, none⟩, k, k, R⟩]) := S3.out.more mm kk
    clear mm kk S3
    go_wp2_with fail
    refine (comb_mat (S4.out.get 0 rfl) sX.out p0 (by omega) (by omega) (S4.out.row 0 rfl) (Nat.le_refl _) rfl).mono ?_
    rw [EX.out.2.2.2.1]
    rintro e w5 ⟨A7, n7, c7, rfl, oo, kk⟩
    have N7 : Hid (n7 = k) := by show _ = _; rw [← oo.length, HDL.out]
    have S5 : Hid (Sr wc w5 [⟨A3, n3, c3, X⟩, ⟨A4, n4, c4, U⟩, ⟨A5, n5, c5, [V]⟩, ⟨A6, n6, c6, [R]⟩] [⟨some ⟨gr, 0, none⟩, k, k, R⟩, ⟨A7, n7, c7, D⟩]) := S4.out.moreRow oo.bytes kk
    clear oo kk S4
    go_wp2_with fail
    refine (comb_mat (S5.out.get 1 rfl) sU.out p0 (by omega) (by omega) (S5.out.row 1 rfl) (Nat.le_refl _) N7.out).mono ?_
    rw [EX.out.2.2.2.2]
    rintro e w6 ⟨A8, n8, c8, rfl, oo, kk⟩
    have S6 : Hid (Sr wc w6 [⟨A3, n3, c3, X⟩, ⟨A4, n4, c4, U⟩, ⟨A5, n5, c5, [V]⟩, ⟨A6, n6, c6, [R]⟩] [⟨some ⟨gr, 0, none⟩, k, k, R⟩, ⟨A7, n7, c7, D⟩, ⟨A8, n8, c8, R⟩]) := S5.out.moreRow oo.bytes kk
    clear oo kk S5
    go_wp2_with fail
    refine (same_szm ((S6.out.get 3 rfl).keep ((Keep.refl w6).obj _)) (lit_one (S6.out.row 0 rfl) (Nat.le_refl _) _) sR.out (by omega)).mono ?_
    rintro e w7 ⟨rfl, kk⟩
    have S7 := Lib.hid ((S6.out.later ((Keep.refl w6).obj _)).later kk)
    have t1 := run_str (w := w7) (S7.out.row 0 rfl) Try.underlying26 Try.underlying5 Try.underlying9 k
    have t2 := run_str (w := w7) (S7.out.row 2 rfl) Try.underlying26 Try.underlying5 Try.underlying9 c8
    have t3 : ((strN R).toList == (strN R).toList) = true := beq_iff_eq.2 rfl
    simp only at t1 t2
    clear kk S6
    go_wp2_with fail
    refine (wakes_any _).mono ?_
    rintro e w8 ⟨rfl, kk⟩
    have S8 := Lib.hid (S7.out.later kk)
    clear kk S7
    go_wp2_with fail
    go_ret
    exact ⟨rfl, KB.out.trans S8.out.keep⟩
  · refine (inv_szn (S0.out.get 0 rfl) sX.out p0 (by omega) hx).mono ?_
    rintro e w2 ⟨A4, n4, c4, rfl, mm, kk⟩
    have S2 := Lib.hid (S0.out.later kk)
    clear mm kk S0
    go_wp2_with fail
    refine (wakes_any _).mono ?_
    rintro e w3 ⟨rfl, kk⟩
    have S3 := Lib.hid (S2.out.later kk)
    clear kk S2
    go_wp2_with fail
    go_ret
    exact ⟨rfl, KB.out.trans S3.out.keep⟩
end Go.Proofs.Ytcmjglmagkjdoaa
