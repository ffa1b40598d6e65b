/- What a call hands back that lays bytes in new memory. -/
import Derived.Test.YtcjjhblgejkkeaaGreatProg
import Derived.Test.YtcjjhblgejkkeaaGreatBytes
import Derived.WalkKit
import Derived.WalkSpells
import Derived.Lib.Hide
import Derived.Deep.RegionHeld3
import Derived.Deep.AppendLies
import Derived.Deep.QuietTactic
import Derived.BigQuiet
namespace Go.Proofs.YtcjjhblgejkkeaaGreat
open Go.RowKit
theorem info5 : (Tryz.prog.info? 5).map (fun i => (i.zero, i.size, i.bytes)) = some (some (.int .u8 0), 1, 1) := by kernel_rfl
/-- What a call hands back that lays a slice of bytes in new memory. -/
def NewBytes (w : World) (xs : List Nat) (r : Ending) (w' : World) : Prop :=
  ∃ A n c, r = .returned (.slice A n c) ∧ Own w' w.heap.size 5 A n c xs ∧ Keep w w'
/-- .. and an error. -/
def NewPair (w : World) (xs : List Nat) (er : Int) (r : Ending) (w' : World) : Prop :=
  ∃ A n c, r = .returned (.tuple #[.slice A n c, .int .i64 er]) ∧ Own w' w.heap.size 5 A n c xs ∧ Keep w w'
theorem NewPair.nil (w : World) (er : Int) : NewPair w [] er (.returned (.tuple #[.slice none 0 0, .int .i64 er])) w := ⟨none, 0, 0, rfl, Own.none_ _ _ _, Keep.refl _⟩
theorem quiet_of_eq {P : Program} {f : FuncId} {args : Array Value} {w : World} {n : Nat} {v : Value}
    (h : Calls P f args (w.drewN n) fun e w' => e = .returned v ∧ w.drewN n = w') : Calls P f args (w.drewN n) fun e w'' => e = .returned v ∧ ∃ m, w'' = w.drewN m :=
  h.mono fun _ _ h => ⟨h.1, n, h.2.symm⟩
end Go.Proofs.YtcjjhblgejkkeaaGreat
