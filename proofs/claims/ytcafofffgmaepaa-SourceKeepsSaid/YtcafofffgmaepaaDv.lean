/- Vector's landed contracts that stage 11 leans on: Lead, IsZero, Unit. -/
import Derived.Test.YtcafofffgmaepaaVA
import Derived.Test.YtcafofffgmaepaaNew
import Derived.Test.YtcafofffgmaepaaVecB
import Derived.Test.YtcafofffgmaepaaRegion
import Derived.OneCell
namespace Go.Proofs.Ytcafofffgmaepaa
open Go.RowKit
set_option linter.unusedVariables false
set_option linter.unusedSimpArgs false
theorem vzero_eq (B n ca : Nat) (A : Option Addr) (xs : List Nat) (w : World) (h : Bytes w B A n xs) (hn : n ≤ 140737488351232) :
    Calls Try.prog 39 #[.slice A n ca] w fun e w' => e = .returned (.bool (decide (vLead n xs < 0))) ∧ w = w' := by
  go_enter Try.func39, Try.ntmps39
  go_wp2_with fail
  refine (vlead_eq B n ca A xs w h hn).mono ?_
  rintro e w1 ⟨rfl, rfl⟩
  go_wp2_with fail
  go_ret
  exact ⟨rfl, rfl⟩
theorem vLead_unit (n k : Nat) (hk : k < n) : vLead n (vUnit n k) = k := by
  have h : vLeadTo (vUnit n k) n = some k := (vLeadTo_some _ n k).2 ⟨hk, by rw [vUnit, tab_getD, if_pos hk, if_pos rfl]; decide, fun i hi => by rw [vUnit, tab_getD, if_pos (by omega), if_neg (by omega)]⟩
  rw [vLead, h]
end Go.Proofs.Ytcafofffgmaepaa
