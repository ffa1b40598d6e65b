/- The contract of the document's own product; sums and products whose answer has a name. -/
import Derived.Test.YtcjjhblgejkkeaaProg
import Derived.Test.YtcjjhblgejkkeaaPlain
import Derived.WalkKit
import Derived.Lib.Hide
namespace Go.Proofs.Ytcjjhblgejkkeaa
open Go.RowKit

theorem xt_hi_int (x : Nat) (hx : x < 256) (h : 128 ≤ x) : bits .xor .u8 ((x : Int) * 2 % 256) 27 = ((xt x : Nat) : Int) := by
  have e := u8_xor_nat (x * 2 % 256) 27 (by omega) (by decide)
  rw [xt_hi x hx h] at e
  rw [← e]; simp
theorem xt_lo_int (x : Nat) (h : x < 128) : (x : Int) * 2 = ((xt x : Nat) : Int) := by
  rw [← xt_lo x h]; omega

end Go.Proofs.Ytcjjhblgejkkeaa
