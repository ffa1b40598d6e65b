/- bytes.Equal. -/
import Derived.Test.YtcafofffgmaepaaNew
namespace Go.Proofs.Ytcafofffgmaepaa
open Go.RowKit
theorem equal_any (B B' n m ca cb : Nat) (A A' : Option Addr) (xs ys : List Nat) (w : World) (h : Bytes w B A n xs) (h' : Bytes w B' A' m ys) :
    Calls Try.prog 31 #[.slice A n ca, .slice A' m cb] w fun e w' => e = .returned (.bool (decide (xs = ys))) ∧ w = w' := by
  have t1 := run_str h Try.underlying22 Try.underlying5 Try.underlying9 ca
  have t2 := run_str h' Try.underlying22 Try.underlying5 Try.underlying9 cb
  by_cases e : xs = ys
  · have b := strN_eq e
    rw [decide_eq_true e]
    go_enter Try.func31, Try.ntmps31
    go_wp2_with fail
    go_ret
    exact ⟨rfl, rfl⟩
  · have b := strN_ne h.all h'.all e
    rw [decide_eq_false e]
    go_enter Try.func31, Try.ntmps31
    go_wp2_with fail
    go_ret
    exact ⟨rfl, rfl⟩
end Go.Proofs.Ytcafofffgmaepaa
