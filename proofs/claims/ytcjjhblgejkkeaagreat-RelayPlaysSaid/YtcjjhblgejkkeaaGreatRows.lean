/-
  No cell of these rows narrows 'for every input' (looked for: loops, veiled, ifaces, maps, wideKeys, modest, calm, conditions, laid).
  DERIVED. THE GIVEN ROWS OF THIS SEAT. 3 by the template 'for every input the law returns true; each argument reads behind the call as it read before'; 0 by the template 'total and deterministic' (their statements: YtcjjhblgejkkeaaGreatTotals.lean).
  GIVEN WITH THE SEED: the statements are not yours to turn. If you find one false, say at which input.
  Laid BY PROGRAM, IN A SANDBOX (cutbox-rows.mjs): the forced cells as the released guide's own fill.sh prints them over the translation ce5176e1d735f224… (all of the seat's roots in one cut). By AI agents, Wed Nov 11 2026. No macro, syntax, notation, axiom, sorry.
-/
import Derived.Test.YtcjjhblgejkkeaaGreatChecked
import GoSem.Claim
import GoSem.ClaimJoined
import GoSem.ClaimMapViews
import Derived.JoinedTies
import Derived.KernelRfl
namespace Go.Proofs.YtcjjhblgejkkeaaGreat
/- THE CELL 'sum', in the pinned program and in every row, IS THE sha256 OF THE DUMP (.gsa) THAT YtcjjhblgejkkeaaGreatProg.lean LOADS. Nothing in Lean hashes anything: it is a label: what it is worth is what the hold of that sum in a sandbox is worth. -/
noncomputable def Tryz.pinned : Pinned := { name := "ytcjjhblgejkkeaagreat", sum := "ce5176e1d735f2242d9b0a3e779de0aca53331fd7a74db37d97787d09132cfbd", checked := Tryz.checked }
namespace Rows
def none {H : Type} : Left H := { results := [], args := [] }

/-- 'braidworklaw14.RelayPlays': WHATEVER THE INPUT: true; the input reads as it did. -/
def relayPlaysSpec : ChangeSpec := { name := "relayPlays", fn := fun _ => fun
  | [d1, d2, d3, d4] => { results := [.lit (.bool true)], args := [d1, d2, d3, d4] }
  | _ => none }
def relayPlaysRow : OpenClaim := { program := "ytcjjhblgejkkeaagreat", sum := "ce5176e1d735f2242d9b0a3e779de0aca53331fd7a74db37d97787d09132cfbd", func := "braidwork/braidworklaw14.RelayPlays", spec := "relayPlays", inPlace := ["slices.overlaps[braidwork/api.Row]"], unfollowed := true, recurses := true, apart := false }
def RelayPlaysSaid : Prop := relayPlaysRow.holds Tryz.pinned (OpenSpec.ofChange relayPlaysSpec)

/-- ITS FALSE NEIGHBOUR: 'it returns false'. Refute it at one input. -/
def relayPlaysWrong : ChangeSpec := { name := "relayPlays", fn := fun _ => fun
  | [d1, d2, d3, d4] => { results := [.lit (.bool false)], args := [d1, d2, d3, d4] }
  | _ => none }
def RelayPlaysWrongFalsely : Prop := relayPlaysRow.holds Tryz.pinned (OpenSpec.ofChange relayPlaysWrong)

/-- 'braidworklaw14.RelayTrue': WHATEVER THE INPUT: true; the input reads as it did. -/
def relayTrueSpec : ChangeSpec := { name := "relayTrue", fn := fun _ => fun
  | [d1, d2, d3, d4] => { results := [.lit (.bool true)], args := [d1, d2, d3, d4] }
  | _ => none }
def relayTrueRow : OpenClaim := { program := "ytcjjhblgejkkeaagreat", sum := "ce5176e1d735f2242d9b0a3e779de0aca53331fd7a74db37d97787d09132cfbd", func := "braidwork/braidworklaw14.RelayTrue", spec := "relayTrue", inPlace := ["slices.overlaps[braidwork/api.Row]"], unfollowed := true, recurses := true, apart := false }
def RelayTrueSaid : Prop := relayTrueRow.holds Tryz.pinned (OpenSpec.ofChange relayTrueSpec)

/-- ITS FALSE NEIGHBOUR: 'it returns false'. Refute it at one input. -/
def relayTrueWrong : ChangeSpec := { name := "relayTrue", fn := fun _ => fun
  | [d1, d2, d3, d4] => { results := [.lit (.bool false)], args := [d1, d2, d3, d4] }
  | _ => none }
def RelayTrueWrongFalsely : Prop := relayTrueRow.holds Tryz.pinned (OpenSpec.ofChange relayTrueWrong)

/-- 'braidworklaw14.RelayHops': WHATEVER THE INPUT: true; the input reads as it did. -/
def relayHopsSpec : ChangeSpec := { name := "relayHops", fn := fun _ => fun
  | [d1, d2, d3, d4, d5] => { results := [.lit (.bool true)], args := [d1, d2, d3, d4, d5] }
  | _ => none }
def relayHopsRow : OpenClaim := { program := "ytcjjhblgejkkeaagreat", sum := "ce5176e1d735f2242d9b0a3e779de0aca53331fd7a74db37d97787d09132cfbd", func := "braidwork/braidworklaw14.RelayHops", spec := "relayHops", inPlace := ["slices.overlaps[braidwork/api.Row]"], unfollowed := true, recurses := true, apart := false }
def RelayHopsSaid : Prop := relayHopsRow.holds Tryz.pinned (OpenSpec.ofChange relayHopsSpec)

/-- ITS FALSE NEIGHBOUR: 'it returns false'. Refute it at one input. -/
def relayHopsWrong : ChangeSpec := { name := "relayHops", fn := fun _ => fun
  | [d1, d2, d3, d4, d5] => { results := [.lit (.bool false)], args := [d1, d2, d3, d4, d5] }
  | _ => none }
def RelayHopsWrongFalsely : Prop := relayHopsRow.holds Tryz.pinned (OpenSpec.ofChange relayHopsWrong)

/- THE SECOND FORM. 'bulk': how many values and letters a reading holds, each counted each time it is reached (what is shared counts as often as it is met; a slice's spare places count too). A statement '..UptoSaid' is the law's where the arguments, and the package variables that the reading takes, are together of bulk at most 1048576: NARROWER than '..Said'. Prove '..Said' where nothing that the law and all that it calls make is longer than what came in: it says more and counts as full. Else prove '..UptoSaid'. A law counts once. -/
mutual
def uptoBulk {H : Type} : DataW H → Nat
  | .lit (.string bytes) => bytes.length + 1
  | .lit _ => 1
  | .nil => 1
  | .ptr d => uptoBulk d + 1
  | .slice elems spare => uptoBulkAll elems + uptoBulkAll spare + 1
  | .agg parts => uptoBulkAll parts + 1
  | .iface _ d => uptoBulk d + 1
  | .map entries => uptoBulkEntries entries + 1
  | .held _ => 1
def uptoBulkAll {H : Type} : List (DataW H) → Nat
  | [] => 0
  | d :: r => uptoBulk d + uptoBulkAll r
def uptoBulkEntries {H : Type} : List (Lit × DataW H) → Nat
  | [] => 0
  | x :: r => uptoBulkEntry x + uptoBulkEntries r
def uptoBulkEntry {H : Type} : Lit × DataW H → Nat
  | (.string bytes, d) => bytes.length + uptoBulk d + 1
  | (_, d) => uptoBulk d + 1
 end
def uptoSmall : (H : Type) → List (DataW H) → Bool := fun _ ds => decide (uptoBulkAll ds ≤ 1048576)
def OpenSpec.upto (s : _root_.Go.ChangeSpec) : _root_.Go.OpenSpec := { _root_.Go.OpenSpec.ofChange s with cond := some uptoSmall }

/-- 'braidworklaw14.RelayPlays', WHERE WHAT IT READS IS OF BULK AT MOST 1048576: true; the input reads as it did. -/
def relayPlaysUptoRow : OpenClaim := { program := "ytcjjhblgejkkeaagreat", sum := "ce5176e1d735f2242d9b0a3e779de0aca53331fd7a74db37d97787d09132cfbd", func := "braidwork/braidworklaw14.RelayPlays", spec := "relayPlays", inPlace := ["slices.overlaps[braidwork/api.Row]"], unfollowed := true, recurses := true, apart := false, narrowed := true }
def RelayPlaysUptoSaid : Prop := relayPlaysUptoRow.holds Tryz.pinned (OpenSpec.upto relayPlaysSpec)

/-- 'braidworklaw14.RelayTrue', WHERE WHAT IT READS IS OF BULK AT MOST 1048576: true; the input reads as it did. -/
def relayTrueUptoRow : OpenClaim := { program := "ytcjjhblgejkkeaagreat", sum := "ce5176e1d735f2242d9b0a3e779de0aca53331fd7a74db37d97787d09132cfbd", func := "braidwork/braidworklaw14.RelayTrue", spec := "relayTrue", inPlace := ["slices.overlaps[braidwork/api.Row]"], unfollowed := true, recurses := true, apart := false, narrowed := true }
def RelayTrueUptoSaid : Prop := relayTrueUptoRow.holds Tryz.pinned (OpenSpec.upto relayTrueSpec)

/-- 'braidworklaw14.RelayHops', WHERE WHAT IT READS IS OF BULK AT MOST 1048576: true; the input reads as it did. -/
def relayHopsUptoRow : OpenClaim := { program := "ytcjjhblgejkkeaagreat", sum := "ce5176e1d735f2242d9b0a3e779de0aca53331fd7a74db37d97787d09132cfbd", func := "braidwork/braidworklaw14.RelayHops", spec := "relayHops", inPlace := ["slices.overlaps[braidwork/api.Row]"], unfollowed := true, recurses := true, apart := false, narrowed := true }
def RelayHopsUptoSaid : Prop := relayHopsUptoRow.holds Tryz.pinned (OpenSpec.upto relayHopsSpec)

end Rows
end Go.Proofs.YtcjjhblgejkkeaaGreat
