/- The walk of DrawTurns. -/
import Derived.Test.YthhabiehkabpcaaDaw
import Derived.Test.YthhabiehkabpcaaDr
namespace Go.Proofs.Ythhabiehkabpcaa
open Go.RowKit
set_option linter.unusedVariables false
set_option linter.unusedSimpArgs false
/-- Both turns, whatever the numbers. -/
theorem turn_both (s : Nat) (n : Int) (hs : s < 18446744073709551616) : ∃ v e : Int, (∀ w, Calls Try.prog 11 #[.int .u64 (s : Int), .int .i64 n] w fun r w' => r = .returned (.tuple #[.int .i64 v, .int .i64 e]) ∧ w = w') ∧
    (∀ w, Calls Try.prog 12 #[.int .u64 (s : Int), .int .i64 n] w fun r w' => r = .returned (.tuple #[.int .i64 v, .int .i64 e]) ∧ w = w') := by
  by_cases h : n < 1 ∨ 255 < n
  · exact ⟨0, 1, turn_bad s n h, rturn_bad s n h⟩
  · obtain ⟨m, rfl⟩ : ∃ m : Nat, n = m := ⟨n.toNat, by omega⟩
    exact ⟨(s % m : Nat), 0, turn_any s m hs (by omega) (by omega), rturn_any s m hs (by omega) (by omega)⟩
set_option maxRecDepth 100000 in
set_option maxHeartbeats 4000000 in
theorem turns_any (s : Nat) (n t : Int) (hs : s < 18446744073709551616) (W : World) :
    Calls Try.prog 4 #[.int .u64 (s : Int), .int .i64 n, .int .i64 t] W fun e w' => e = .returned (.bool true) ∧ Keep W w' := by
  obtain ⟨v, er, c1, c2⟩ := turn_both s n hs
  have C1 := Lib.hid c1
  have C2 := Lib.hid c2
  obtain ⟨q, hq⟩ : ∃ q, decide (0 ≤ t ∧ t < n) = q := ⟨_, rfl⟩
  have C3 := Lib.hid (sys_any t n q hq.symm)
  clear c1 c2
  by_cases h1 : 0 ≤ t
  · by_cases h2 : t < n
    · obtain rfl : true = q := by rw [← hq]; exact (decide_eq_true ⟨h1, h2⟩).symm
      clear hq
      go_enter Try.func4, Try.ntmps4
      go_wp2_with fail
      refine (C1.out _).mono ?_
      rintro e w1 ⟨rfl, rfl⟩
      go_wp2_with fail
      refine (C2.out _).mono ?_
      rintro e w1 ⟨rfl, rfl⟩
      go_wp2_with fail
      refine (awake_any _).mono ?_
      rintro e w1 ⟨rfl, k1⟩
      have K1 := Lib.hid k1
      clear k1
      go_wp2_with fail
      refine (C3.out _).mono ?_
      rintro e w2 ⟨rfl, rfl⟩
      go_wp2_with fail
      go_ret
      exact ⟨rfl, K1.out⟩
    · obtain rfl : false = q := by rw [← hq]; exact (decide_eq_false fun e => h2 e.2).symm
      clear hq
      go_enter Try.func4, Try.ntmps4
      go_wp2_with fail
      refine (C1.out _).mono ?_
      rintro e w1 ⟨rfl, rfl⟩
      go_wp2_with fail
      refine (C2.out _).mono ?_
      rintro e w1 ⟨rfl, rfl⟩
      go_wp2_with fail
      refine (awake_any _).mono ?_
      rintro e w1 ⟨rfl, k1⟩
      have K1 := Lib.hid k1
      clear k1
      go_wp2_with fail
      refine (C3.out _).mono ?_
      rintro e w2 ⟨rfl, rfl⟩
      go_wp2_with fail
      go_ret
      refine ⟨?_, K1.out⟩
      show Ending.returned (Value.bool (!decide (t < n))) = _
      rw [show decide (t < n) = false from decide_eq_false (by omega)]; rfl
  · obtain rfl : false = q := by rw [← hq]; exact (decide_eq_false fun e => h1 e.1).symm
    clear hq
    go_enter Try.func4, Try.ntmps4
    go_wp2_with fail
    refine (C1.out _).mono ?_
    rintro e w1 ⟨rfl, rfl⟩
    go_wp2_with fail
    refine (C2.out _).mono ?_
    rintro e w1 ⟨rfl, rfl⟩
    go_wp2_with fail
    refine (awake_any _).mono ?_
    rintro e w1 ⟨rfl, k1⟩
    have K1 := Lib.hid k1
    clear k1
    go_wp2_with fail
    refine (C3.out _).mono ?_
    rintro e w2 ⟨rfl, rfl⟩
    go_wp2_with fail
    go_ret
    exact ⟨rfl, K1.out⟩
end Go.Proofs.Ythhabiehkabpcaa
