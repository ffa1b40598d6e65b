/- The walk of WireLays. -/
import Derived.Test.YtpmildbgmmiaeaaAwake
import Derived.Test.YtpmildbgmmiaeaaMine
namespace Go.Proofs.Ytpmildbgmmiaeaa
open Go.RowKit
theorem rnum_all (B m ca v : Nat) (s : Int) (A : Option Addr) (xs : List Nat) (w : World) (h : Bytes w B A m xs) (hm : m ≤ 140737488351232) (hv : v < 18446744073709551616) :
    Calls Try.prog 11 #[.slice A m ca, .int .u64 v, .int .i64 s] w (NewPair w (numOf xs v s) (numErr v s)) := by
  by_cases e : s < 1 ∨ 8 < s
  · rw [numOf, numErr, if_pos e, if_pos e]; exact rnum_out m ca v A s e w
  · rw [numOf, numErr, if_neg e, if_neg e]
    obtain ⟨t, rfl⟩ := Int.eq_ofNat_of_zero_le (show 0 ≤ s by omega)
    exact rnum_in B m ca v t A xs w h hm (by omega) (by omega) hv
theorem numOf_len (xs : List Nat) (v : Nat) (s : Int) : (numOf xs v s).length ≤ xs.length + 8 := by
  unfold numOf
  split
  · simp
  · unfold laysOf
    split
    · rw [List.length_append, formN_length]; omega
    · simp
set_option maxRecDepth 100000 in
set_option maxHeartbeats 4000000 in
theorem lays_any (n ca v : Nat) (s : Int) (A : Option Addr) (xs : List Nat) (w : World) (h1 : Bytes w w.heap.size A n xs) (m1 : n ≤ 140737488351232) (hv : v < 18446744073709551616) :
    Calls Try.prog 3 #[.slice A n ca, .int .u64 v, .int .i64 s] w fun e w' => e = .returned (.bool true) ∧ Keep w w' := by
  obtain ⟨F, hF⟩ : ∃ F, numOf xs v s = F := ⟨_, rfl⟩
  obtain ⟨er, her⟩ : ∃ e, numErr v s = e := ⟨_, rfl⟩
  have HF := Lib.hid hF
  have HE := Lib.hid her
  have B1 := Lib.hid h1
  clear hF her h1
  go_enter Try.func3, Try.ntmps3
  go_wp2_with fail
  refine (rown_any _ n _ _ _ _ B1.out (by omega)).mono ?_
  rintro e w1 ⟨P1, n1, c1, rfl, o1, s1⟩
  obtain rfl : n = n1 := (o1.length.symm.trans B1.out.length).symm
  have O1 := Lib.hid o1
  have K1 := Lib.hid s1
  clear o1 s1
  go_wp2_with fail
  refine (wnum_any _ n _ v s _ xs _ O1.out.bytes (Nat.le_refl _) m1 hv).mono ?_
  rw [HF.out, HE.out]
  rintro e w2 ⟨P2, n2, c2, rfl, o2, s2⟩
  have O2 := Lib.hid o2
  have S2 := Lib.hid s2
  have K2 := Lib.hid (Keep.trans K1.out s2)
  clear o2 s2
  go_wp2_with fail
  refine (rnum_all _ n _ v s _ xs _ (B1.out.keep (Nat.le_refl _) K2.out) m1 hv).mono ?_
  rw [HF.out, HE.out]
  rintro e w3 ⟨P3, n3, c3, rfl, o3, s3⟩
  have O3 := Lib.hid o3
  have S3 := Lib.hid s3
  have K3 := Lib.hid (Keep.trans K2.out s3)
  clear o3 s3
  go_wp2_with fail
  refine (equal_any _ _ n2 n3 _ _ _ _ _ _ _ (O2.out.bytes.keep (Nat.le_refl _) S3.out) O3.out.bytes).mono ?_
  rw [decide_eq_true rfl]
  rintro e w4 ⟨rfl, rfl⟩
  have n2le : n2 ≤ 140737488355328 := by
    have h := O2.out.length
    have h2 := numOf_len xs v s
    rw [HF.out, B1.out.length] at h2
    omega
  have M2 : Hid (Mine w1 w3 P2 n2 c2) := ⟨_, O2.out.keep S3.out⟩
  have KE : Hid (Keep w1 w3) := Keep.trans S2.out S3.out
  clear O2 O3
  go_wp2_with fail
  go_loopw [35] (fun i wr => ∃ r : Nat, r ≤ n2 ∧ i = .int .i64 r ∧ Mine w1 wr P2 n2 c2 ∧ Keep w1 wr) (fun i _ => n2 - (intOf i).toNat)
  case atStart => exact ⟨0, by omega, rfl, M2.out, KE.out⟩
  case round =>
    clear M2 KE
    obtain ⟨r, hr, rfl, h3, hkeep⟩ := hrel
    by_cases hlt : r < n2
    · obtain ⟨g, q, rfl, hg, hq, hc, hf⟩ := h3.at_ hlt
      obtain ⟨u, hu⟩ : ∃ u, q ^^^ 255 = u := ⟨_, rfl⟩
      obtain ⟨hxor, hu2⟩ := flip_int q u hq hu
      have H3 := Lib.hid (h3.set g r u hu2)
      have HK := Lib.hid (hkeep.setCell (a := ⟨g, r, none⟩) hg (.int .u8 (u : Int)))
      have e1 : (0 : Int) ≤ (r : Int) := Int.natCast_nonneg _
      have e2 : (r : Int) < (n2 : Int) := by omega
      clear h3 hkeep hu
      go_wp2_with fail
      go_round
      case rel => exact ⟨r + 1, by omega, by go_num, H3.out, HK.out⟩
      case measure => simp [intOf]; omega
    · have e2 : ¬ (r : Int) < (n2 : Int) := by omega
      have HK := Lib.hid hkeep
      have KW := Lib.hid (Keep.trans K1.out hkeep)
      clear h3 hkeep hr
      go_wp2_with fail
      refine (awake_any _).mono ?_
      rintro e w5 ⟨rfl, s5⟩
      have S5 := Lib.hid s5
      have K5 := Lib.hid (Keep.trans KW.out s5)
      clear s5
      go_wp2_with fail
      refine (equal_any _ _ n n _ _ _ _ _ _ _ (O1.out.bytes.keep (Nat.le_refl _) (Keep.trans HK.out S5.out)) (B1.out.keep (Nat.le_refl _) K5.out)).mono ?_
      rw [decide_eq_true rfl]
      rintro e w6 ⟨rfl, rfl⟩
      go_wp2_with fail
      go_ret
      exact ⟨rfl, K5.out⟩
end Go.Proofs.Ytpmildbgmmiaeaa
