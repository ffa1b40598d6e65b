/- Contracts of the document's own answers of layer 8, but for Meet. -/
import Derived.Test.YtofhdaeeiienfaaSk
import Derived.Test.YtofhdaeeiienfaaRef
namespace Go.Proofs.Ytofhdaeeiienfaa
open Go.RowKit Lin
set_option linter.unusedVariables false
set_option linter.unusedSimpArgs false
theorem NewMat.of_rows {w w' : World} {M : List (List Nat)} {er : Int} {e : Ending} (h : NewRows w M er e w') : NewMat w M er e w' := by
  obtain ⟨A, n, c, he, rs, h1, h2, h3, h4⟩ := h
  exact ⟨A, n, c, he, ⟨rs, h1.mono fun b hb => hb.2, h3, h2⟩, h4⟩
section
variable {w : World} {A A' : Option Addr} {n n' c c' : Nat} {M N : List (List Nat)}
theorem rreduce_mat (h : Mat w ⟨A, n, c, M⟩) (hn : n ≤ 1000) (hc : sizeC M ≤ 1000) : Calls Try.prog 50 #[.slice A n c] w (NewMat w (reduceN M) (sizeE M)) := by
  obtain ⟨rs, e1, rfl, e3⟩ := h
  exact (rreduce_any n c A _ rs w e1 (fun _ e => e) (by omega) (Nat.le_trans hc (by omega))).mono fun _ _ => NewMat.of_rows
theorem rrank_mat (h : Mat w ⟨A, n, c, M⟩) (hn : n ≤ 1000) (hc : sizeC M ≤ 1000) : Calls Try.prog 44 #[.slice A n c] w fun e w' => e = .returned (.tuple #[.int .i64 (rk M : Int), .int .i64 (sizeE M)]) ∧ Keep w w' := by
  obtain ⟨rs, e1, rfl, e3⟩ := h
  exact rrank_any n c A _ rs w e1 (fun _ e => e) (by omega) (Nat.le_trans hc (by omega))
set_option maxRecDepth 100000 in
theorem both_mat (h : Mat w ⟨A, n, c, M⟩) (k : Mat w ⟨A', n', c', N⟩) (hn : n ≤ 1000) (hn' : n' ≤ 1000) :
    Calls Try.prog 45 #[.slice A n c, .slice A' n' c'] w fun e w' => ∃ A2 n2 c2, e = .returned (.slice A2 n2 c2) ∧ n2 = n + n' ∧ Mat w' ⟨A2, n2, c2, M ++ N⟩ ∧ Keep w w' := by
  have H := Lib.hid h
  have K := Lib.hid k
  clear h k
  go_enter Try.func45, Try.ntmps45
  go_wp2_with (at_builtin; refine wpList_append_lay rfl _ _ 22 rfl Try.underlying22 rfl (Lay.nothing w) rfl H.out n (Nat.zero_add n) (by omega) ?_)
  intro A2 c2 w2 rs2 h2 x2
  have H2 := Lib.hid h2
  have X2 := Lib.hid x2
  clear h2 x2
  go_wp2_with (at_builtin; refine wpList_append_lay rfl _ _ 22 rfl Try.underlying22 rfl H2.out rfl K.out (n + n') rfl (by omega) ?_)
  intro A3 c3 w3 rs3 h3 x3
  have hm := h3.mat
  rw [x3, X2.out] at hm
  have HM := Lib.hid hm
  have HK := Lib.hid h3.keep
  clear h3 x3 hm H2 X2
  go_wp2_with fail
  go_ret
  exact ⟨A3, n + n', c3, by push_cast; rfl, rfl, HM.out, HK.out⟩
set_option maxRecDepth 100000 in
theorem rsum_mat (h : Mat w ⟨A, n, c, M⟩) (k : Mat w ⟨A', n', c', N⟩) (hn : n ≤ 400) (hn' : n' ≤ 400) (hc : sizeC (M ++ N) ≤ 400) :
    Calls Try.prog 22 #[.slice A n c, .slice A' n' c'] w (NewMat w (reduceN (M ++ N)) (sizeE (M ++ N))) := by
  have HB := Lib.hid (both_mat h k (by omega) (by omega))
  obtain ⟨R, hR⟩ : ∃ R, reduceN (M ++ N) = R := ⟨_, rfl⟩
  obtain ⟨er, her⟩ : ∃ R, sizeE (M ++ N) = R := ⟨_, rfl⟩
  have E := Lib.hid (And.intro hR her)
  rw [hR, her]
  clear h k hR her
  go_enter Try.func22, Try.ntmps22
  go_wp2_with fail
  refine HB.out.mono ?_
  rintro e w1 ⟨A2, n2, c2, rfl, hn2, m2, k2⟩
  have M2 := Lib.hid m2
  have K2 := Lib.hid k2
  have hn3 : n2 ≤ 1000 := by omega
  clear m2 k2 hn2 HB
  go_wp2_with fail
  refine (rreduce_mat M2.out hn3 (by omega)).mono ?_
  rw [E.out.1, E.out.2]
  rintro e w3 ⟨A3, n3, c3, rfl, m3, k3⟩
  have M3 := Lib.hid m3
  have K3 := Lib.hid (K2.out.trans k3)
  clear m3 k3
  go_wp2_with fail
  go_ret2
  exact ⟨A3, n3, c3, rfl, M3.out, K3.out⟩
theorem cons_le {M N : List (List Nat)} {k : Nat} (h : sizeC (M ++ N) ≤ k) (hf : fits (M ++ N)) : sizeC M ≤ k := by
  cases M with
  | nil => exact Nat.zero_le _
  | cons a l =>
    rw [sizeC, if_pos hf] at h
    rw [sizeC]
    split
    · exact h
    · exact Nat.zero_le _
set_option maxRecDepth 100000 in
theorem rcontains_mat (h : Mat w ⟨A, n, c, M⟩) (k : Mat w ⟨A', n', c', N⟩) (hn : n ≤ 400) (hn' : n' ≤ 400) (hc : sizeC (M ++ N) ≤ 400) :
    Calls Try.prog 18 #[.slice A n c, .slice A' n' c'] w fun e w' => e = .returned (.tuple #[.bool (conV M N), .int .i64 (sizeE (M ++ N))]) ∧ Keep w w' := by
  have HB := Lib.hid (both_mat h k (by omega) (by omega))
  have H := Lib.hid h
  obtain ⟨p, hp⟩ : ∃ p, rk (M ++ N) = p := ⟨_, rfl⟩
  obtain ⟨q, hq⟩ : ∃ p, rk M = p := ⟨_, rfl⟩
  have EP := Lib.hid hp
  have EQ := Lib.hid hq
  by_cases hf : fits (M ++ N)
  · have he : sizeE (M ++ N) = 0 := by rw [sizeE, if_pos hf]
    have hcm := cons_le hc hf
    rw [conV, if_pos hf, conB, hp, hq]
    have EE := Lib.hid he
    rw [he]
    have b1 : ((p : Int) == (q : Int)) = decide (p = q) := by
      rw [Bool.eq_iff_iff, beq_iff_eq, decide_eq_true_iff]; omega
    generalize decide (p = q) = z at *
    clear h k hp hq he hf
    go_enter Try.func18, Try.ntmps18
    go_wp2_with fail
    refine HB.out.mono ?_
    rintro e w1 ⟨A2, n2, c2, rfl, hn2, m2, k2⟩
    have M2 := Lib.hid m2
    have K2 := Lib.hid k2
    have hn3 : n2 ≤ 1000 := by omega
    clear m2 k2 hn2 HB
    go_wp2_with fail
    refine (rrank_mat M2.out hn3 (by omega)).mono ?_
    rw [EP.out, EE.out]
    rintro e w3 ⟨rfl, k3⟩
    have K3 := Lib.hid (K2.out.trans k3)
    clear k3
    go_wp2_with fail
    refine (rrank_mat (H.out.keep K3.out) (by omega) (by omega)).mono ?_
    rw [EQ.out]
    rintro e w4 ⟨rfl, k4⟩
    have K4 := Lib.hid (K3.out.trans k4)
    clear k4
    go_wp2_with fail
    go_ret2
    exact ⟨rfl, K4.out⟩
  · have he : sizeE (M ++ N) = 21 := by rw [sizeE, if_neg hf]
    rw [conV, if_neg hf]
    have EE := Lib.hid he
    rw [he]
    clear h k hp hq he hf
    go_enter Try.func18, Try.ntmps18
    go_wp2_with fail
    refine HB.out.mono ?_
    rintro e w1 ⟨A2, n2, c2, rfl, hn2, m2, k2⟩
    have M2 := Lib.hid m2
    have K2 := Lib.hid k2
    have hn3 : n2 ≤ 1000 := by omega
    clear m2 k2 hn2 HB
    go_wp2_with fail
    refine (rrank_mat M2.out hn3 (by omega)).mono ?_
    rw [EP.out, EE.out]
    rintro e w3 ⟨rfl, k3⟩
    have K3 := Lib.hid (K2.out.trans k3)
    clear k3
    go_wp2_with fail
    go_ret2
    exact ⟨rfl, K3.out⟩
set_option maxRecDepth 100000 in
theorem rhas_mat {xs : List Nat} (h : Mat w ⟨A, n, c, M⟩) (k : LiesIn w (fun b => b < w.heap.size) ⟨A', n', c', xs⟩) (hn : n ≤ 400) (hc : sizeC (M ++ [xs]) ≤ 400) :
    Calls Try.prog 16 #[.slice A n c, .slice A' n' c'] w fun e w' => e = .returned (.tuple #[.bool (conV M [xs]), .int .i64 (sizeE (M ++ [xs]))]) ∧ Keep w w' := by
  have hm : Mat (w.alloc (.cells #[.slice A' n' c'] 23)) ⟨some ⟨w.heap.size, 0, none⟩, 1, 1, [xs]⟩ := lit_mat rfl _ 1 [⟨A', n', c', xs⟩] _ (fun r hr => by rw [List.mem_singleton.1 hr]; exact k) rfl rfl _ rfl
  have HB := Lib.hid (both_mat (h.keep ((Keep.refl w).obj (.cells #[.slice A' n' c'] 23))) hm (by omega) (by omega))
  have H := Lib.hid h
  obtain ⟨p, hp⟩ : ∃ p, rk (M ++ [xs]) = p := ⟨_, rfl⟩
  obtain ⟨q, hq⟩ : ∃ p, rk M = p := ⟨_, rfl⟩
  have EP := Lib.hid hp
  have EQ := Lib.hid hq
  by_cases hf : fits (M ++ [xs])
  · have he : sizeE (M ++ [xs]) = 0 := by rw [sizeE, if_pos hf]
    have hcm := cons_le hc hf
    rw [conV, if_pos hf, conB, hp, hq]
    have EE := Lib.hid he
    rw [he]
    have b1 : ((p : Int) == (q : Int)) = decide (p = q) := by
      rw [Bool.eq_iff_iff, beq_iff_eq, decide_eq_true_iff]; omega
    generalize decide (p = q) = z at *
    clear h k hp hq he hf hm
    go_enter Try.func16, Try.ntmps16
    go_wp2_with fail
    refine HB.out.mono ?_
    rintro e w1 ⟨A2, n2, c2, rfl, hn2, m2, k2⟩
    have M2 := Lib.hid m2
    have K2 := Lib.hid (((Keep.refl w).obj (.cells #[.slice A' n' c'] 23)).trans k2)
    have hn3 : n2 ≤ 1000 := by omega
    clear m2 k2 hn2 HB
    go_wp2_with fail
    refine (rrank_mat M2.out hn3 (by omega)).mono ?_
    rw [EP.out, EE.out]
    rintro e w3 ⟨rfl, k3⟩
    have K3 := Lib.hid (K2.out.trans k3)
    clear k3
    go_wp2_with fail
    refine (rrank_mat (H.out.keep K3.out) (by omega) (by omega)).mono ?_
    rw [EQ.out]
    rintro e w4 ⟨rfl, k4⟩
    have K4 := Lib.hid (K3.out.trans k4)
    clear k4
    go_wp2_with fail
    go_ret2
    exact ⟨rfl, K4.out⟩
  · have he : sizeE (M ++ [xs]) = 21 := by rw [sizeE, if_neg hf]
    rw [conV, if_neg hf]
    have EE := Lib.hid he
    rw [he]
    clear h k hp hq he hf hm
    go_enter Try.func16, Try.ntmps16
    go_wp2_with fail
    refine HB.out.mono ?_
    rintro e w1 ⟨A2, n2, c2, rfl, hn2, m2, k2⟩
    have M2 := Lib.hid m2
    have K2 := Lib.hid (((Keep.refl w).obj (.cells #[.slice A' n' c'] 23)).trans k2)
    have hn3 : n2 ≤ 1000 := by omega
    clear m2 k2 hn2 HB
    go_wp2_with fail
    refine (rrank_mat M2.out hn3 (by omega)).mono ?_
    rw [EP.out, EE.out]
    rintro e w3 ⟨rfl, k3⟩
    have K3 := Lib.hid (K2.out.trans k3)
    clear k3
    go_wp2_with fail
    go_ret2
    exact ⟨rfl, K3.out⟩
set_option maxRecDepth 100000 in
theorem rsames_mat (h : Mat w ⟨A, n, c, M⟩) (k : Mat w ⟨A', n', c', N⟩) (hn : n ≤ 400) (hn' : n' ≤ 400) (hc : sizeC (M ++ N) ≤ 400) (hc' : sizeC (N ++ M) ≤ 400) :
    Calls Try.prog 20 #[.slice A n c, .slice A' n' c'] w fun e w' => e = .returned (.tuple #[.bool (conV M N && conV N M), .int .i64 (sizeE (M ++ N))]) ∧ Keep w w' := by
  have h1 := rcontains_mat h k hn hn' hc
  have h2 := fun w' (kk : Keep w w') => rcontains_mat (k.keep kk) (h.keep kk) hn' hn hc'
  generalize conV M N = x at *
  generalize conV N M = y at *
  generalize sizeE (M ++ N) = er at *
  generalize sizeE (N ++ M) = er2 at *
  have H1 := Lib.hid h1
  have H2 := Lib.hid h2
  clear h1 h2 h k hc hc'
  cases x <;>
  · go_enter Try.func20, Try.ntmps20
    go_wp2_with fail
    refine H1.out.mono ?_
    rintro e w1 ⟨rfl, k1⟩
    have K1 := Lib.hid k1
    clear k1
    go_wp2_with fail
    refine (H2.out w1 K1.out).mono ?_
    rintro e w2 ⟨rfl, k2⟩
    have K2 := Lib.hid (K1.out.trans k2)
    clear k2
    go_wp2_with fail
    go_ret2
    exact ⟨rfl, K2.out⟩
end
end Go.Proofs.Ytofhdaeeiienfaa
