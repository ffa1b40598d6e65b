/- Layer 9's statements: sizes brought into 1 to 40. -/
import Derived.Test.YtbmfjikkmkmgeaaPd
namespace Go.Proofs.Ytbmfjikkmkmgeaa
open Go.RowKit
set_option linter.unusedVariables false
set_option linter.unusedSimpArgs false
/-- A size as the statements take it. -/
def sizeV (m x : Int) : Int := if 40 < x ∧ x ≤ m then 1 + x % 40 else x
theorem sizeV_low {m x : Int} (h : sizeV m x ≤ m) : sizeV m x ≤ 40 := by
  unfold sizeV at h ⊢
  split
  · omega
  · next hh => rw [if_neg hh] at h; omega
theorem MayG.forty {g s : Int} (h : MayG (sizeV 255 g) (sizeV 65535 s)) : ∃ G S P : Nat, sizeV 255 g = G ∧ sizeV 65535 s = S ∧ 1 ≤ G ∧ G ≤ 40 ∧ 1 ≤ S ∧ S ≤ 40 ∧ G * S = P ∧ 5 ≤ P ∧ P ≤ 1600 ∧ (G : Int) * (S : Int) = (P : Int) := by
  obtain ⟨G, S, P, e1, e2, a1, a2, a3, a4, a5, a6, a7, a8⟩ := h.nat
  have h1 : sizeV 255 g ≤ 40 := sizeV_low (by omega)
  have h2 : sizeV 65535 s ≤ 40 := sizeV_low (by omega)
  have hm : G * S ≤ 40 * 40 := Nat.mul_le_mul (by omega) (by omega)
  exact ⟨G, S, P, e1, e2, a1, by omega, a3, by omega, a5, a6, by omega, a8⟩
theorem sizeV_in {m x : Int} (hm : m ≤ 9223372036854775807) (h : -9223372036854775808 ≤ x ∧ x ≤ 9223372036854775807) : -9223372036854775808 ≤ sizeV m x ∧ sizeV m x ≤ 9223372036854775807 := by
  unfold sizeV; split <;> omega
theorem sizes_any (g s : Int) (w : World) :
    Calls Try.prog 9 #[.int .i64 g, .int .i64 s] w fun e w' => e = .returned (.tuple #[.int .i64 (sizeV 255 g), .int .i64 (sizeV 65535 s)]) ∧ w = w' := by
  by_cases h1 : 40 < g ∧ g ≤ 255
  · have a1 : decide (40 < g) = true := decide_eq_true h1.1
    have a2 : decide (g ≤ 255) = true := decide_eq_true h1.2
    have a3 : sizeV 255 g = 1 + g % 40 := if_pos h1
    have a4 : g.tmod 40 = g % 40 := Int.tmod_eq_emod_of_nonneg (by omega)
    have a5 : IntKind.i64.wrap (g % 40) = g % 40 := IntWalk.i64_in _ (by omega)
    have a6 : IntKind.i64.wrap (1 + g % 40) = 1 + g % 40 := IntWalk.i64_in _ (by omega)
    by_cases h2 : 40 < s ∧ s ≤ 65535
    · have c1 : decide (40 < s) = true := decide_eq_true h2.1
      have c2 : decide (s ≤ 65535) = true := decide_eq_true h2.2
      have c3 : sizeV 65535 s = 1 + s % 40 := if_pos h2
      have c4 : s.tmod 40 = s % 40 := Int.tmod_eq_emod_of_nonneg (by omega)
      have c5 : IntKind.i64.wrap (s % 40) = s % 40 := IntWalk.i64_in _ (by omega)
      have c6 : IntKind.i64.wrap (1 + s % 40) = 1 + s % 40 := IntWalk.i64_in _ (by omega)
      rw [a3, c3]
      clear h1 h2
      go_enter Try.func9, Try.ntmps9
      go_wp2_with fail
      go_ret2
      exact ⟨rfl, rfl⟩
    · have c3 : sizeV 65535 s = s := if_neg h2
      rw [a3, c3]
      by_cases h3 : 40 < s
      · have c1 : decide (40 < s) = true := decide_eq_true h3
        have c2 : decide (s ≤ 65535) = false := decide_eq_false (by omega)
        clear h1 h2 h3
        go_enter Try.func9, Try.ntmps9
        go_wp2_with fail
        go_ret2
        exact ⟨rfl, rfl⟩
      · have c1 : decide (40 < s) = false := decide_eq_false h3
        clear h1 h2 h3
        go_enter Try.func9, Try.ntmps9
        go_wp2_with fail
        go_ret2
        exact ⟨rfl, rfl⟩
  · have a3 : sizeV 255 g = g := if_neg h1
    rw [a3]
    by_cases h2 : 40 < s ∧ s ≤ 65535
    · have c1 : decide (40 < s) = true := decide_eq_true h2.1
      have c2 : decide (s ≤ 65535) = true := decide_eq_true h2.2
      have c3 : sizeV 65535 s = 1 + s % 40 := if_pos h2
      have c4 : s.tmod 40 = s % 40 := Int.tmod_eq_emod_of_nonneg (by omega)
      have c5 : IntKind.i64.wrap (s % 40) = s % 40 := IntWalk.i64_in _ (by omega)
      have c6 : IntKind.i64.wrap (1 + s % 40) = 1 + s % 40 := IntWalk.i64_in _ (by omega)
      rw [c3]
      by_cases h4 : 40 < g
      · have a1 : decide (40 < g) = true := decide_eq_true h4
        have a2 : decide (g ≤ 255) = false := decide_eq_false (by omega)
        clear h1 h2 h4
        go_enter Try.func9, Try.ntmps9
        go_wp2_with fail
        go_ret2
        exact ⟨rfl, rfl⟩
      · have a1 : decide (40 < g) = false := decide_eq_false h4
        clear h1 h2 h4
        go_enter Try.func9, Try.ntmps9
        go_wp2_with fail
        go_ret2
        exact ⟨rfl, rfl⟩
    · have c3 : sizeV 65535 s = s := if_neg h2
      rw [c3]
      by_cases h4 : 40 < g
      · have a1 : decide (40 < g) = true := decide_eq_true h4
        have a2 : decide (g ≤ 255) = false := decide_eq_false (by omega)
        by_cases h3 : 40 < s
        · have c1 : decide (40 < s) = true := decide_eq_true h3
          have c2 : decide (s ≤ 65535) = false := decide_eq_false (by omega)
          clear h1 h2 h3 h4
          go_enter Try.func9, Try.ntmps9
          go_wp2_with fail
          go_ret2
          exact ⟨rfl, rfl⟩
        · have c1 : decide (40 < s) = false := decide_eq_false h3
          clear h1 h2 h3 h4
          go_enter Try.func9, Try.ntmps9
          go_wp2_with fail
          go_ret2
          exact ⟨rfl, rfl⟩
      · have a1 : decide (40 < g) = false := decide_eq_false h4
        by_cases h3 : 40 < s
        · have c1 : decide (40 < s) = true := decide_eq_true h3
          have c2 : decide (s ≤ 65535) = false := decide_eq_false (by omega)
          clear h1 h2 h3 h4
          go_enter Try.func9, Try.ntmps9
          go_wp2_with fail
          go_ret2
          exact ⟨rfl, rfl⟩
        · have c1 : decide (40 < s) = false := decide_eq_false h3
          clear h1 h2 h3 h4
          go_enter Try.func9, Try.ntmps9
          go_wp2_with fail
          go_ret2
          exact ⟨rfl, rfl⟩
end Go.Proofs.Ytbmfjikkmkmgeaa
