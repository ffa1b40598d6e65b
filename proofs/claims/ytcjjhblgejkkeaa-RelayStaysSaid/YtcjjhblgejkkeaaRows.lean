/-
  No cell of these rows narrows 'for every input' (looked for: loops, veiled, ifaces, maps, wideKeys, modest, calm, conditions, laid).
  DERIVED. THE GIVEN ROWS OF THIS SEAT. 4 by the template 'for every input the law returns true; each argument reads behind the call as it read before'; 0 by the template 'total and deterministic' (their statements: YtcjjhblgejkkeaaTotals.lean).
  GIVEN WITH THE SEED: the statements are not yours to turn. If you find one false, say at which input.
  Laid BY PROGRAM, IN A SANDBOX (cutbox-rows.mjs): the forced cells as the released guide's own fill.sh prints them over the translation 1afc090fd52314e0… (all of the seat's roots in one cut). By AI agents, Wed Nov 11 2026. No macro, syntax, notation, axiom, sorry.
-/
import Derived.Test.YtcjjhblgejkkeaaChecked
import GoSem.Claim
import GoSem.ClaimJoined
import GoSem.ClaimMapViews
import Derived.JoinedTies
import Derived.KernelRfl
namespace Go.Proofs.Ytcjjhblgejkkeaa
/- THE CELL 'sum', in the pinned program and in every row, IS THE sha256 OF THE DUMP (.gsa) THAT YtcjjhblgejkkeaaProg.lean LOADS. Nothing in Lean hashes anything: it is a label: what it is worth is what the hold of that sum in a sandbox is worth. -/
noncomputable def Try.pinned : Pinned := { name := "ytcjjhblgejkkeaa", sum := "1afc090fd52314e074e085cbea26bdf3be56bd1b526f6a4ab9257c0336655fbb", checked := Try.checked }
namespace Rows
def none {H : Type} : Left H := { results := [], args := [] }

/-- 'braidworklaw14.RelayTurns': WHATEVER THE INPUT: true; the input reads as it did. -/
def relayTurnsSpec : ChangeSpec := { name := "relayTurns", fn := fun _ => fun
  | [d1, d2, d3, d4] => { results := [.lit (.bool true)], args := [d1, d2, d3, d4] }
  | _ => none }
def relayTurnsRow : OpenClaim := { program := "ytcjjhblgejkkeaa", sum := "1afc090fd52314e074e085cbea26bdf3be56bd1b526f6a4ab9257c0336655fbb", func := "braidwork/braidworklaw14.RelayTurns", spec := "relayTurns", inPlace := ["slices.overlaps[braidwork/api.Row]"], unfollowed := true, recurses := true, apart := false }
def RelayTurnsSaid : Prop := relayTurnsRow.holds Try.pinned (OpenSpec.ofChange relayTurnsSpec)

/-- ITS FALSE NEIGHBOUR: 'it returns false'. Refute it at one input. -/
def relayTurnsWrong : ChangeSpec := { name := "relayTurns", fn := fun _ => fun
  | [d1, d2, d3, d4] => { results := [.lit (.bool false)], args := [d1, d2, d3, d4] }
  | _ => none }
def RelayTurnsWrongFalsely : Prop := relayTurnsRow.holds Try.pinned (OpenSpec.ofChange relayTurnsWrong)

/-- 'braidworklaw14.RelayStays': WHATEVER THE INPUT: true; the input reads as it did. -/
def relayStaysSpec : ChangeSpec := { name := "relayStays", fn := fun _ => fun
  | [d1, d2, d3, d4, d5] => { results := [.lit (.bool true)], args := [d1, d2, d3, d4, d5] }
  | _ => none }
def relayStaysRow : OpenClaim := { program := "ytcjjhblgejkkeaa", sum := "1afc090fd52314e074e085cbea26bdf3be56bd1b526f6a4ab9257c0336655fbb", func := "braidwork/braidworklaw14.RelayStays", spec := "relayStays", inPlace := ["slices.overlaps[braidwork/api.Row]"], unfollowed := true, recurses := true, apart := false }
def RelayStaysSaid : Prop := relayStaysRow.holds Try.pinned (OpenSpec.ofChange relayStaysSpec)

/-- ITS FALSE NEIGHBOUR: 'it returns false'. Refute it at one input. -/
def relayStaysWrong : ChangeSpec := { name := "relayStays", fn := fun _ => fun
  | [d1, d2, d3, d4, d5] => { results := [.lit (.bool false)], args := [d1, d2, d3, d4, d5] }
  | _ => none }
def RelayStaysWrongFalsely : Prop := relayStaysRow.holds Try.pinned (OpenSpec.ofChange relayStaysWrong)

/-- 'braidworklaw14.RelayOrder': WHATEVER THE INPUT: true; the input reads as it did. -/
def relayOrderSpec : ChangeSpec := { name := "relayOrder", fn := fun _ => fun
  | [d1, d2, d3, d4] => { results := [.lit (.bool true)], args := [d1, d2, d3, d4] }
  | _ => none }
def relayOrderRow : OpenClaim := { program := "ytcjjhblgejkkeaa", sum := "1afc090fd52314e074e085cbea26bdf3be56bd1b526f6a4ab9257c0336655fbb", func := "braidwork/braidworklaw14.RelayOrder", spec := "relayOrder", inPlace := ["slices.overlaps[braidwork/api.Row]"], unfollowed := true, recurses := true, apart := false }
def RelayOrderSaid : Prop := relayOrderRow.holds Try.pinned (OpenSpec.ofChange relayOrderSpec)

/-- ITS FALSE NEIGHBOUR: 'it returns false'. Refute it at one input. -/
def relayOrderWrong : ChangeSpec := { name := "relayOrder", fn := fun _ => fun
  | [d1, d2, d3, d4] => { results := [.lit (.bool false)], args := [d1, d2, d3, d4] }
  | _ => none }
def RelayOrderWrongFalsely : Prop := relayOrderRow.holds Try.pinned (OpenSpec.ofChange relayOrderWrong)

/-- 'braidworklaw14.RelayKnown': WHATEVER THE INPUT: true; the input reads as it did. -/
def relayKnownSpec : ChangeSpec := { name := "relayKnown", fn := fun _ => fun
  | [] => { results := [.lit (.bool true)], args := [] }
  | _ => none }
def relayKnownRow : OpenClaim := { program := "ytcjjhblgejkkeaa", sum := "1afc090fd52314e074e085cbea26bdf3be56bd1b526f6a4ab9257c0336655fbb", func := "braidwork/braidworklaw14.RelayKnown", spec := "relayKnown", inPlace := ["slices.overlaps[braidwork/api.Row]"], unfollowed := true, recurses := true, apart := false }
def RelayKnownSaid : Prop := relayKnownRow.holds Try.pinned (OpenSpec.ofChange relayKnownSpec)

/-- ITS FALSE NEIGHBOUR: 'it returns false'. Refute it at one input. -/
def relayKnownWrong : ChangeSpec := { name := "relayKnown", fn := fun _ => fun
  | [] => { results := [.lit (.bool false)], args := [] }
  | _ => none }
def RelayKnownWrongFalsely : Prop := relayKnownRow.holds Try.pinned (OpenSpec.ofChange relayKnownWrong)

/- THE SECOND FORM. 'bulk': how many values and letters a reading holds, each counted each time it is reached (what is shared counts as often as it is met; a slice's spare places count too). A statement '..UptoSaid' is the law's where the arguments, and the package variables that the reading takes, are together of bulk at most 1048576: NARROWER than '..Said'. Prove '..Said' where nothing that the law and all that it calls make is longer than what came in: it says more and counts as full. Else prove '..UptoSaid'. A law counts once. -/
mutual
def uptoBulk {H : Type} : DataW H → Nat
  | .lit (.string bytes) => bytes.length + 1
  | .lit _ => 1
  | .nil => 1
  | .ptr d => uptoBulk d + 1
  | .slice elems spare => uptoBulkAll elems + uptoBulkAll spare + 1
  | .agg parts => uptoBulkAll parts + 1
  | .iface _ d => uptoBulk d + 1
  | .map entries => uptoBulkEntries entries + 1
  | .held _ => 1
def uptoBulkAll {H : Type} : List (DataW H) → Nat
  | [] => 0
  | d :: r => uptoBulk d + uptoBulkAll r
def uptoBulkEntries {H : Type} : List (Lit × DataW H) → Nat
  | [] => 0
  | x :: r => uptoBulkEntry x + uptoBulkEntries r
def uptoBulkEntry {H : Type} : Lit × DataW H → Nat
  | (.string bytes, d) => bytes.length + uptoBulk d + 1
  | (_, d) => uptoBulk d + 1
 end
def uptoSmall : (H : Type) → List (DataW H) → Bool := fun _ ds => decide (uptoBulkAll ds ≤ 1048576)
def OpenSpec.upto (s : _root_.Go.ChangeSpec) : _root_.Go.OpenSpec := { _root_.Go.OpenSpec.ofChange s with cond := some uptoSmall }

/-- 'braidworklaw14.RelayTurns', WHERE WHAT IT READS IS OF BULK AT MOST 1048576: true; the input reads as it did. -/
def relayTurnsUptoRow : OpenClaim := { program := "ytcjjhblgejkkeaa", sum := "1afc090fd52314e074e085cbea26bdf3be56bd1b526f6a4ab9257c0336655fbb", func := "braidwork/braidworklaw14.RelayTurns", spec := "relayTurns", inPlace := ["slices.overlaps[braidwork/api.Row]"], unfollowed := true, recurses := true, apart := false, narrowed := true }
def RelayTurnsUptoSaid : Prop := relayTurnsUptoRow.holds Try.pinned (OpenSpec.upto relayTurnsSpec)

/-- 'braidworklaw14.RelayStays', WHERE WHAT IT READS IS OF BULK AT MOST 1048576: true; the input reads as it did. -/
def relayStaysUptoRow : OpenClaim := { program := "ytcjjhblgejkkeaa", sum := "1afc090fd52314e074e085cbea26bdf3be56bd1b526f6a4ab9257c0336655fbb", func := "braidwork/braidworklaw14.RelayStays", spec := "relayStays", inPlace := ["slices.overlaps[braidwork/api.Row]"], unfollowed := true, recurses := true, apart := false, narrowed := true }
def RelayStaysUptoSaid : Prop := relayStaysUptoRow.holds Try.pinned (OpenSpec.upto relayStaysSpec)

/-- 'braidworklaw14.RelayOrder', WHERE WHAT IT READS IS OF BULK AT MOST 1048576: true; the input reads as it did. -/
def relayOrderUptoRow : OpenClaim := { program := "ytcjjhblgejkkeaa", sum := "1afc090fd52314e074e085cbea26bdf3be56bd1b526f6a4ab9257c0336655fbb", func := "braidwork/braidworklaw14.RelayOrder", spec := "relayOrder", inPlace := ["slices.overlaps[braidwork/api.Row]"], unfollowed := true, recurses := true, apart := false, narrowed := true }
def RelayOrderUptoSaid : Prop := relayOrderUptoRow.holds Try.pinned (OpenSpec.upto relayOrderSpec)

/-- 'braidworklaw14.RelayKnown', WHERE WHAT IT READS IS OF BULK AT MOST 1048576: true; the input reads as it did. -/
def relayKnownUptoRow : OpenClaim := { program := "ytcjjhblgejkkeaa", sum := "1afc090fd52314e074e085cbea26bdf3be56bd1b526f6a4ab9257c0336655fbb", func := "braidwork/braidworklaw14.RelayKnown", spec := "relayKnown", inPlace := ["slices.overlaps[braidwork/api.Row]"], unfollowed := true, recurses := true, apart := false, narrowed := true }
def RelayKnownUptoSaid : Prop := relayKnownUptoRow.holds Try.pinned (OpenSpec.upto relayKnownSpec)

end Rows
end Go.Proofs.Ytcjjhblgejkkeaa
