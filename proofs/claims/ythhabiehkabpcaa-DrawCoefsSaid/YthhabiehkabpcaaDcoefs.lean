/- The walk of DrawCoefs. -/
import Derived.Test.YthhabiehkabpcaaDaw
import Derived.Test.YthhabiehkabpcaaDr
namespace Go.Proofs.Ythhabiehkabpcaa
open Go.RowKit
set_option linter.unusedVariables false
set_option linter.unusedSimpArgs false
/-- Both draws, whatever the numbers. -/
theorem coefs_both (n k : Int) (m : Nat) (xs : List Nat) (hm : m ≤ 140737488351232) : ∃ (ys : List Nat) (er : Int), ys.length ≤ 255 ∧
    (∀ (B c : Nat) (A : Option Addr) w, Bytes w B A m xs → B ≤ w.heap.size → Calls Try.prog 7 #[.slice A m c, .int .i64 n, .int .i64 k] w (NewPair w ys er)) ∧
    (∀ (B c : Nat) (A : Option Addr) w, Bytes w B A m xs → B ≤ w.heap.size → Calls Try.prog 8 #[.slice A m c, .int .i64 n, .int .i64 k] w (NewPair w ys er)) := by
  by_cases h : n < 1 ∨ 255 < n ∨ k < 0 ∨ n ≤ k
  · exact ⟨[], 1, by decide, fun B c A w _ _ => coefs_bad m c A n k h w, fun B c A w _ _ => rcoefs_bad m c A n k h w⟩
  · obtain ⟨n, rfl⟩ : ∃ m : Nat, n = m := ⟨n.toNat, by omega⟩
    obtain ⟨k, rfl⟩ : ∃ m : Nat, k = m := ⟨k.toNat, by omega⟩
    exact ⟨coefN n k xs, 0, by rw [coefN_len]; omega, fun B c A w hb hB => coefs_any B n k m c A xs w hb hB (by omega) (by omega) (by omega), fun B c A w hb hB => rcoefs_any B n k m c A xs w hb hB (by omega) (by omega) (by omega) hm⟩
set_option maxRecDepth 100000 in
set_option maxHeartbeats 4000000 in
theorem coefsw_any (m c : Nat) (A : Option Addr) (xs : List Nat) (n k : Int) (hm : m ≤ 140737488351232) (W : World) (h : Bytes W W.heap.size A m xs) :
    Calls Try.prog 3 #[.slice A m c, .int .i64 n, .int .i64 k] W fun e w' => e = .returned (.bool true) ∧ Keep W w' := by
  obtain ⟨ys, er, hy, c1, c2⟩ := coefs_both n k m xs hm
  have C1 := Lib.hid c1
  have C2 := Lib.hid c2
  obtain ⟨w0, hw0⟩ : ∃ w0, W.alloc (.cells #[] 5) = w0 := ⟨_, rfl⟩
  have HL := Lib.hid (one_lit W [] 0 rfl (by decide) (by decide) #[] rfl hw0)
  have hO : Own w0 W.heap.size 5 (some ⟨W.heap.size, 0, none⟩) 0 0 [] := by rw [← hw0]; exact Own.lit W 5 0 [] #[] rfl rfl (by decide) (by decide)
  have HO := Lib.hid hO
  have HW := Lib.hid h
  have HB := Lib.hid (h.later HL.out.2)
  have HI : Hid (0 + m ≤ 140737488355328) := by show 0 + m ≤ 140737488355328; omega
  clear c1 c2 h hO
  go_enter Try.func3, Try.ntmps3
  go_wp2_with (at_builtin; refine wpList_append_bytes rfl _ _ 22 rfl Try.underlying22 info5 rfl HO.out rfl HB.out HI.out HL.out.2.size ?_)
  intro A2 c2 w1 h2 hg2 _
  have HK1 := Lib.hid (HL.out.2.grown hg2 HO.out.rowLe)
  have HO1 : Hid (Own w1 W.heap.size 5 A2 m c2 xs) := by
    show Own _ _ _ _ _ _ _
    simpa using h2
  clear h2 hg2 HL HO HB HI
  go_wp2_with fail
  refine (C1.out _ c2 A2 _ HO1.out.bytes (Nat.le_refl _)).mono ?_
  rintro e w2 ⟨A3, n3, c3, rfl, o3, k3⟩
  have HK2 := Lib.hid (HK1.out.trans k3)
  have HM2 := Lib.hid o3
  have HS5 := Lib.hid k3
  clear o3 k3
  go_wp2_with fail
  refine (C2.out _ c A _ (HW.out.later HK2.out) (Nat.le_refl _)).mono ?_
  rintro e w3 ⟨A4, n4, c4, rfl, o4, k4⟩
  have HK3 := Lib.hid (HK2.out.trans k4)
  have HM3 := Lib.hid (HM2.out.keep k4)
  have HS4' := Lib.hid k4
  have HM4 := Lib.hid o4
  obtain rfl : n4 = n3 := by rw [← o4.length, ← HM2.out.length]
  have hn4 : n4 ≤ 255 := by rw [← o4.length]; exact hy
  clear o4 k4 HM2
  go_wp2_with fail
  refine (equal_any _ _ n4 n4 _ _ _ _ ys ys _ HM3.out.bytes HM4.out.bytes).mono ?_
  rw [decide_eq_true rfl]
  rintro e w4 ⟨rfl, rfl⟩
  have HX : Hid (Mine w1 w3 A3 n4 c3) := ⟨_, HM3.out⟩
  have KE : Hid (Keep w1 w3) := HS5.out.trans HS4'.out
  clear HM3 HM4
  go_wp2_with fail
  go_loopw [36] (fun i wr => ∃ r : Nat, r ≤ n4 ∧ i = .int .i64 r ∧ Mine w1 wr A3 n4 c3 ∧ Keep w1 wr) (fun i _ => n4 - (intOf i).toNat)
  case atStart => exact ⟨0, by omega, rfl, HX.out, KE.out⟩
  case round =>
    clear HX KE
    obtain ⟨r, hr, rfl, h3, hkeep⟩ := hrel
    by_cases hlt : r < n4
    · obtain ⟨g, q, rfl, hg, hq, hc, hf⟩ := h3.at_ hlt
      obtain ⟨u, hu⟩ : ∃ u, q ^^^ 255 = u := ⟨_, rfl⟩
      obtain ⟨hxor, hu2⟩ := flip_int q u hq hu
      have H3 := Lib.hid (h3.set g r u hu2)
      have HK := Lib.hid (hkeep.setCell (a := ⟨g, r, none⟩) hg (.int .u8 (u : Int)))
      have e1 : (0 : Int) ≤ (r : Int) := Int.natCast_nonneg _
      have e2 : (r : Int) < (n4 : Int) := by omega
      clear h3 hkeep hu
      go_wp2_with fail
      go_round
      case rel => exact ⟨r + 1, by omega, by go_num, H3.out, HK.out⟩
      case measure => simp [intOf]; omega
    · have e2 : ¬ (r : Int) < (n4 : Int) := by omega
      have HK := Lib.hid hkeep
      have KW := Lib.hid (Keep.trans HK1.out hkeep)
      clear h3 hkeep hr
      go_wp2_with fail
      refine (awake_any _).mono ?_
      rintro e w5 ⟨rfl, s5⟩
      have K5 := Lib.hid (Keep.trans KW.out s5)
      have B5 := Lib.hid (HO1.out.bytes.keep (Nat.le_refl _) (Keep.trans HK.out s5))
      clear s5
      go_wp2_with fail
      refine (equal_any _ _ m m _ _ _ _ xs xs _ B5.out (HW.out.keep (Nat.le_refl _) K5.out)).mono ?_
      rw [decide_eq_true rfl]
      rintro e w6 ⟨rfl, rfl⟩
      go_wp2_with fail
      go_ret
      exact ⟨rfl, K5.out⟩
end Go.Proofs.Ythhabiehkabpcaa
