/- bytes.Equal. -/
import Derived.Test.YtgkihfemlbhioaaDoorNew
namespace Go.Proofs.YtgkihfemlbhioaaDoor
open Go.RowKit
theorem equal_any (B B' n m ca cb : Nat) (A A' : Option Addr) (xs ys : List Nat) (w : World) (h : Bytes w B A n xs) (h' : Bytes w B' A' m ys) :
    Calls Tryd.prog 35 #[.slice A n ca, .slice A' m cb] w fun e w' => e = .returned (.bool (decide (xs = ys))) ∧ w = w' := by
  have t1 := run_str h Tryd.underlying23 Tryd.underlying5 Tryd.underlying9 ca
  have t2 := run_str h' Tryd.underlying23 Tryd.underlying5 Tryd.underlying9 cb
  by_cases e : xs = ys
  · have b := strN_eq e
    rw [decide_eq_true e]
    go_enter Tryd.func35, Tryd.ntmps35
    go_wp2_with fail
    go_ret
    exact ⟨rfl, rfl⟩
  · have b := strN_ne h.all h'.all e
    rw [decide_eq_false e]
    go_enter Tryd.func35, Tryd.ntmps35
    go_wp2_with fail
    go_ret
    exact ⟨rfl, rfl⟩
end Go.Proofs.YtgkihfemlbhioaaDoor
