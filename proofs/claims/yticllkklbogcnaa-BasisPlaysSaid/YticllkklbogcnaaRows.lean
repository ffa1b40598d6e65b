/-
  No cell of these rows narrows 'for every input' (looked for: loops, veiled, ifaces, maps, wideKeys, modest, calm, conditions, laid).
  DERIVED. THE GIVEN ROWS OF THIS SEAT. 6 by the template 'for every input the law returns true; each argument reads behind the call as it read before'; 0 by the template 'total and deterministic' (their statements: YticllkklbogcnaaTotals.lean).
  GIVEN WITH THE SEED: the statements are not yours to turn. If you find one false, say at which input.
  Laid BY PROGRAM, IN A SANDBOX (cutbox-rows.mjs): the forced cells as the released guide's own fill.sh prints them over the translation f397d482482b3774… (all of the seat's roots in one cut). By AI agents, Wed Nov 11 2026. No macro, syntax, notation, axiom, sorry.
-/
import Derived.Test.YticllkklbogcnaaChecked
import GoSem.Claim
import GoSem.ClaimJoined
import GoSem.ClaimMapViews
import Derived.JoinedTies
import Derived.KernelRfl
namespace Go.Proofs.Yticllkklbogcnaa
/- THE CELL 'sum', in the pinned program and in every row, IS THE sha256 OF THE DUMP (.gsa) THAT YticllkklbogcnaaProg.lean LOADS. Nothing in Lean hashes anything: it is a label: what it is worth is what the hold of that sum in a sandbox is worth. -/
noncomputable def Try.pinned : Pinned := { name := "yticllkklbogcnaa", sum := "f397d482482b37741a7f954bff84ea9bf586ab4f8f42b91775b4d656b315a1a7", checked := Try.checked }
namespace Rows
def none {H : Type} : Left H := { results := [], args := [] }

/-- 'braidworklaw07.BasisPlays': WHATEVER THE INPUT: true; the input reads as it did. -/
def basisPlaysSpec : ChangeSpec := { name := "basisPlays", fn := fun _ => fun
  | [d1, d2, d3] => { results := [.lit (.bool true)], args := [d1, d2, d3] }
  | _ => none }
def basisPlaysRow : OpenClaim := { program := "yticllkklbogcnaa", sum := "f397d482482b37741a7f954bff84ea9bf586ab4f8f42b91775b4d656b315a1a7", func := "braidwork/braidworklaw07.BasisPlays", spec := "basisPlays", inPlace := ["slices.overlaps[braidwork/api.Row]"], unfollowed := true, recurses := true, apart := false }
def BasisPlaysSaid : Prop := basisPlaysRow.holds Try.pinned (OpenSpec.ofChange basisPlaysSpec)

/-- ITS FALSE NEIGHBOUR: 'it returns false'. Refute it at one input. -/
def basisPlaysWrong : ChangeSpec := { name := "basisPlays", fn := fun _ => fun
  | [d1, d2, d3] => { results := [.lit (.bool false)], args := [d1, d2, d3] }
  | _ => none }
def BasisPlaysWrongFalsely : Prop := basisPlaysRow.holds Try.pinned (OpenSpec.ofChange basisPlaysWrong)

/-- 'braidworklaw07.BasisBack': WHATEVER THE INPUT: true; the input reads as it did. -/
def basisBackSpec : ChangeSpec := { name := "basisBack", fn := fun _ => fun
  | [d] => { results := [.lit (.bool true)], args := [d] }
  | _ => none }
def basisBackRow : OpenClaim := { program := "yticllkklbogcnaa", sum := "f397d482482b37741a7f954bff84ea9bf586ab4f8f42b91775b4d656b315a1a7", func := "braidwork/braidworklaw07.BasisBack", spec := "basisBack", inPlace := ["slices.overlaps[braidwork/api.Row]"], unfollowed := true, recurses := true, apart := false }
def BasisBackSaid : Prop := basisBackRow.holds Try.pinned (OpenSpec.ofChange basisBackSpec)

/-- ITS FALSE NEIGHBOUR: 'it returns false'. Refute it at one input. -/
def basisBackWrong : ChangeSpec := { name := "basisBack", fn := fun _ => fun
  | [d] => { results := [.lit (.bool false)], args := [d] }
  | _ => none }
def BasisBackWrongFalsely : Prop := basisBackRow.holds Try.pinned (OpenSpec.ofChange basisBackWrong)

/-- 'braidworklaw07.BasisOne': WHATEVER THE INPUT: true; the input reads as it did. -/
def basisOneSpec : ChangeSpec := { name := "basisOne", fn := fun _ => fun
  | [d1, d2] => { results := [.lit (.bool true)], args := [d1, d2] }
  | _ => none }
def basisOneRow : OpenClaim := { program := "yticllkklbogcnaa", sum := "f397d482482b37741a7f954bff84ea9bf586ab4f8f42b91775b4d656b315a1a7", func := "braidwork/braidworklaw07.BasisOne", spec := "basisOne", inPlace := ["slices.overlaps[braidwork/api.Row]"], unfollowed := true, recurses := true, apart := false }
def BasisOneSaid : Prop := basisOneRow.holds Try.pinned (OpenSpec.ofChange basisOneSpec)

/-- ITS FALSE NEIGHBOUR: 'it returns false'. Refute it at one input. -/
def basisOneWrong : ChangeSpec := { name := "basisOne", fn := fun _ => fun
  | [d1, d2] => { results := [.lit (.bool false)], args := [d1, d2] }
  | _ => none }
def BasisOneWrongFalsely : Prop := basisOneRow.holds Try.pinned (OpenSpec.ofChange basisOneWrong)

/-- 'braidworklaw07.BasisForm': WHATEVER THE INPUT: true; the input reads as it did. -/
def basisFormSpec : ChangeSpec := { name := "basisForm", fn := fun _ => fun
  | [d] => { results := [.lit (.bool true)], args := [d] }
  | _ => none }
def basisFormRow : OpenClaim := { program := "yticllkklbogcnaa", sum := "f397d482482b37741a7f954bff84ea9bf586ab4f8f42b91775b4d656b315a1a7", func := "braidwork/braidworklaw07.BasisForm", spec := "basisForm", inPlace := ["slices.overlaps[braidwork/api.Row]"], unfollowed := true, recurses := true, apart := false }
def BasisFormSaid : Prop := basisFormRow.holds Try.pinned (OpenSpec.ofChange basisFormSpec)

/-- ITS FALSE NEIGHBOUR: 'it returns false'. Refute it at one input. -/
def basisFormWrong : ChangeSpec := { name := "basisForm", fn := fun _ => fun
  | [d] => { results := [.lit (.bool false)], args := [d] }
  | _ => none }
def BasisFormWrongFalsely : Prop := basisFormRow.holds Try.pinned (OpenSpec.ofChange basisFormWrong)

/-- 'braidworklaw07.BasisSpans': WHATEVER THE INPUT: true; the input reads as it did. -/
def basisSpansSpec : ChangeSpec := { name := "basisSpans", fn := fun _ => fun
  | [d1, d2] => { results := [.lit (.bool true)], args := [d1, d2] }
  | _ => none }
def basisSpansRow : OpenClaim := { program := "yticllkklbogcnaa", sum := "f397d482482b37741a7f954bff84ea9bf586ab4f8f42b91775b4d656b315a1a7", func := "braidwork/braidworklaw07.BasisSpans", spec := "basisSpans", inPlace := ["slices.overlaps[braidwork/api.Row]"], unfollowed := true, recurses := true, apart := false }
def BasisSpansSaid : Prop := basisSpansRow.holds Try.pinned (OpenSpec.ofChange basisSpansSpec)

/-- ITS FALSE NEIGHBOUR: 'it returns false'. Refute it at one input. -/
def basisSpansWrong : ChangeSpec := { name := "basisSpans", fn := fun _ => fun
  | [d1, d2] => { results := [.lit (.bool false)], args := [d1, d2] }
  | _ => none }
def BasisSpansWrongFalsely : Prop := basisSpansRow.holds Try.pinned (OpenSpec.ofChange basisSpansWrong)

/-- 'braidworklaw07.BasisKnown': WHATEVER THE INPUT: true; the input reads as it did. -/
def basisKnownSpec : ChangeSpec := { name := "basisKnown", fn := fun _ => fun
  | [] => { results := [.lit (.bool true)], args := [] }
  | _ => none }
def basisKnownRow : OpenClaim := { program := "yticllkklbogcnaa", sum := "f397d482482b37741a7f954bff84ea9bf586ab4f8f42b91775b4d656b315a1a7", func := "braidwork/braidworklaw07.BasisKnown", spec := "basisKnown", inPlace := ["slices.overlaps[braidwork/api.Row]"], unfollowed := true, recurses := true, apart := false }
def BasisKnownSaid : Prop := basisKnownRow.holds Try.pinned (OpenSpec.ofChange basisKnownSpec)

/-- ITS FALSE NEIGHBOUR: 'it returns false'. Refute it at one input. -/
def basisKnownWrong : ChangeSpec := { name := "basisKnown", fn := fun _ => fun
  | [] => { results := [.lit (.bool false)], args := [] }
  | _ => none }
def BasisKnownWrongFalsely : Prop := basisKnownRow.holds Try.pinned (OpenSpec.ofChange basisKnownWrong)

/- THE SECOND FORM. 'bulk': how many values and letters a reading holds, each counted each time it is reached (what is shared counts as often as it is met; a slice's spare places count too). A statement '..UptoSaid' is the law's where the arguments, and the package variables that the reading takes, are together of bulk at most 1048576: NARROWER than '..Said'. Prove '..Said' where nothing that the law and all that it calls make is longer than what came in: it says more and counts as full. Else prove '..UptoSaid'. A law counts once. -/
mutual
def uptoBulk {H : Type} : DataW H → Nat
  | .lit (.string bytes) => bytes.length + 1
  | .lit _ => 1
  | .nil => 1
  | .ptr d => uptoBulk d + 1
  | .slice elems spare => uptoBulkAll elems + uptoBulkAll spare + 1
  | .agg parts => uptoBulkAll parts + 1
  | .iface _ d => uptoBulk d + 1
  | .map entries => uptoBulkEntries entries + 1
  | .held _ => 1
def uptoBulkAll {H : Type} : List (DataW H) → Nat
  | [] => 0
  | d :: r => uptoBulk d + uptoBulkAll r
def uptoBulkEntries {H : Type} : List (Lit × DataW H) → Nat
  | [] => 0
  | x :: r => uptoBulkEntry x + uptoBulkEntries r
def uptoBulkEntry {H : Type} : Lit × DataW H → Nat
  | (.string bytes, d) => bytes.length + uptoBulk d + 1
  | (_, d) => uptoBulk d + 1
 end
def uptoSmall : (H : Type) → List (DataW H) → Bool := fun _ ds => decide (uptoBulkAll ds ≤ 1048576)
def OpenSpec.upto (s : _root_.Go.ChangeSpec) : _root_.Go.OpenSpec := { _root_.Go.OpenSpec.ofChange s with cond := some uptoSmall }

/-- 'braidworklaw07.BasisPlays', WHERE WHAT IT READS IS OF BULK AT MOST 1048576: true; the input reads as it did. -/
def basisPlaysUptoRow : OpenClaim := { program := "yticllkklbogcnaa", sum := "f397d482482b37741a7f954bff84ea9bf586ab4f8f42b91775b4d656b315a1a7", func := "braidwork/braidworklaw07.BasisPlays", spec := "basisPlays", inPlace := ["slices.overlaps[braidwork/api.Row]"], unfollowed := true, recurses := true, apart := false, narrowed := true }
def BasisPlaysUptoSaid : Prop := basisPlaysUptoRow.holds Try.pinned (OpenSpec.upto basisPlaysSpec)

/-- 'braidworklaw07.BasisBack', WHERE WHAT IT READS IS OF BULK AT MOST 1048576: true; the input reads as it did. -/
def basisBackUptoRow : OpenClaim := { program := "yticllkklbogcnaa", sum := "f397d482482b37741a7f954bff84ea9bf586ab4f8f42b91775b4d656b315a1a7", func := "braidwork/braidworklaw07.BasisBack", spec := "basisBack", inPlace := ["slices.overlaps[braidwork/api.Row]"], unfollowed := true, recurses := true, apart := false, narrowed := true }
def BasisBackUptoSaid : Prop := basisBackUptoRow.holds Try.pinned (OpenSpec.upto basisBackSpec)

/-- 'braidworklaw07.BasisOne', WHERE WHAT IT READS IS OF BULK AT MOST 1048576: true; the input reads as it did. -/
def basisOneUptoRow : OpenClaim := { program := "yticllkklbogcnaa", sum := "f397d482482b37741a7f954bff84ea9bf586ab4f8f42b91775b4d656b315a1a7", func := "braidwork/braidworklaw07.BasisOne", spec := "basisOne", inPlace := ["slices.overlaps[braidwork/api.Row]"], unfollowed := true, recurses := true, apart := false, narrowed := true }
def BasisOneUptoSaid : Prop := basisOneUptoRow.holds Try.pinned (OpenSpec.upto basisOneSpec)

/-- 'braidworklaw07.BasisForm', WHERE WHAT IT READS IS OF BULK AT MOST 1048576: true; the input reads as it did. -/
def basisFormUptoRow : OpenClaim := { program := "yticllkklbogcnaa", sum := "f397d482482b37741a7f954bff84ea9bf586ab4f8f42b91775b4d656b315a1a7", func := "braidwork/braidworklaw07.BasisForm", spec := "basisForm", inPlace := ["slices.overlaps[braidwork/api.Row]"], unfollowed := true, recurses := true, apart := false, narrowed := true }
def BasisFormUptoSaid : Prop := basisFormUptoRow.holds Try.pinned (OpenSpec.upto basisFormSpec)

/-- 'braidworklaw07.BasisSpans', WHERE WHAT IT READS IS OF BULK AT MOST 1048576: true; the input reads as it did. -/
def basisSpansUptoRow : OpenClaim := { program := "yticllkklbogcnaa", sum := "f397d482482b37741a7f954bff84ea9bf586ab4f8f42b91775b4d656b315a1a7", func := "braidwork/braidworklaw07.BasisSpans", spec := "basisSpans", inPlace := ["slices.overlaps[braidwork/api.Row]"], unfollowed := true, recurses := true, apart := false, narrowed := true }
def BasisSpansUptoSaid : Prop := basisSpansUptoRow.holds Try.pinned (OpenSpec.upto basisSpansSpec)

/-- 'braidworklaw07.BasisKnown', WHERE WHAT IT READS IS OF BULK AT MOST 1048576: true; the input reads as it did. -/
def basisKnownUptoRow : OpenClaim := { program := "yticllkklbogcnaa", sum := "f397d482482b37741a7f954bff84ea9bf586ab4f8f42b91775b4d656b315a1a7", func := "braidwork/braidworklaw07.BasisKnown", spec := "basisKnown", inPlace := ["slices.overlaps[braidwork/api.Row]"], unfollowed := true, recurses := true, apart := false, narrowed := true }
def BasisKnownUptoSaid : Prop := basisKnownUptoRow.holds Try.pinned (OpenSpec.upto basisKnownSpec)

end Rows
end Go.Proofs.Yticllkklbogcnaa
