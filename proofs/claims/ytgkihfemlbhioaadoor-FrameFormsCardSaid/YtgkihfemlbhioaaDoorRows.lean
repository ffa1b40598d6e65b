/-
  NARROWER THAN 'FOR EVERY INPUT', by the rows' own cells (each row's printed sentence says how): FrameForms: laid · FrameBack: laid · FrameSealed: laid · FrameApart: laid · FrameSizes: laid · FrameKnown: laid.
  DERIVED. THE GIVEN ROWS OF THIS SEAT. 6 by the template 'for every input the law returns true; each argument reads behind the call as it read before'; 0 by the template 'total and deterministic' (their statements: YtgkihfemlbhioaaDoorTotals.lean).
  GIVEN WITH THE SEED: the statements are not yours to turn. If you find one false, say at which input.
  Laid BY PROGRAM, IN A SANDBOX (cutbox-rows.mjs): the forced cells as the released guide's own fill.sh prints them over the translation b99d1c9861b52245… (all of the seat's roots in one cut). By AI agents, Wed Nov 11 2026. No macro, syntax, notation, axiom, sorry.
-/
import Derived.Test.YtgkihfemlbhioaaDoorChecked
import GoSem.Claim
import GoSem.ClaimJoined
import GoSem.ClaimMapViews
import Derived.JoinedTies
import Derived.KernelRfl
namespace Go.Proofs.YtgkihfemlbhioaaDoor
/- THE CELL 'sum', in the pinned program and in every row, IS THE sha256 OF THE DUMP (.gsa) THAT YtgkihfemlbhioaaDoorProg.lean LOADS. Nothing in Lean hashes anything: it is a label: what it is worth is what the hold of that sum in a sandbox is worth. -/
noncomputable def Tryd.pinned : Pinned := { name := "ytgkihfemlbhioaadoor", sum := "b99d1c9861b52245232237ff4b2b8e12dfda4ce2bd8e606a8cfeef4bbba20dba", checked := Tryd.checked }
namespace Rows
def none {H : Type} : Left H := { results := [], args := [] }

/- WHAT THE LISTED PACKAGE-LEVEL VARIABLES READ AS WHEN THE CALL BEGINS. Each datum BY PROGRAM (the guide's laid-datum.mjs) off the statement by which the dump's own 'gosem.cut.vars' lays the variable. In a bare row this is a premise. The card (YtgkihfemlbhioaaDoorCards.lean) ties it to the program's text. -/
def laid_braidwork_crc_steps {H : Type} : DataW H := .agg [.lit (.int .u32 0), .lit (.int .u32 498536548), .lit (.int .u32 997073096), .lit (.int .u32 651767980), .lit (.int .u32 1994146192), .lit (.int .u32 1802195444), .lit (.int .u32 1303535960), .lit (.int .u32 1342533948), .lit (.int .u32 3988292384), .lit (.int .u32 4027552580), .lit (.int .u32 3604390888), .lit (.int .u32 3412177804), .lit (.int .u32 2607071920), .lit (.int .u32 2262029012), .lit (.int .u32 2685067896), .lit (.int .u32 3183342108)]

/-- 'braidworklaw12.FrameForms': WHATEVER THE INPUT: true; the input reads as it did. -/
def frameFormsSpec : ChangeSpec := { name := "frameForms", fn := fun _ => fun
  | [d1, d2, d3] => { results := [.lit (.bool true)], args := [d1, d2, d3] }
  | _ => none }
def frameFormsRow : OpenClaim := { program := "ytgkihfemlbhioaadoor", sum := "b99d1c9861b52245232237ff4b2b8e12dfda4ce2bd8e606a8cfeef4bbba20dba", func := "braidwork/braidworklaw12.FrameForms", spec := "frameForms", unfollowed := true, recurses := true, named := ["braidwork/crc.steps"], apart := false, laid := [("braidwork/crc.steps", laid_braidwork_crc_steps)] }
def FrameFormsSaid : Prop := frameFormsRow.holds Tryd.pinned (OpenSpec.ofChange frameFormsSpec)

/-- ITS FALSE NEIGHBOUR: 'it returns false'. Refute it at one input. -/
def frameFormsWrong : ChangeSpec := { name := "frameForms", fn := fun _ => fun
  | [d1, d2, d3] => { results := [.lit (.bool false)], args := [d1, d2, d3] }
  | _ => none }
def FrameFormsWrongFalsely : Prop := frameFormsRow.holds Tryd.pinned (OpenSpec.ofChange frameFormsWrong)

/-- 'braidworklaw12.FrameBack': WHATEVER THE INPUT: true; the input reads as it did. -/
def frameBackSpec : ChangeSpec := { name := "frameBack", fn := fun _ => fun
  | [d1, d2, d3, d4] => { results := [.lit (.bool true)], args := [d1, d2, d3, d4] }
  | _ => none }
def frameBackRow : OpenClaim := { program := "ytgkihfemlbhioaadoor", sum := "b99d1c9861b52245232237ff4b2b8e12dfda4ce2bd8e606a8cfeef4bbba20dba", func := "braidwork/braidworklaw12.FrameBack", spec := "frameBack", unfollowed := true, recurses := true, named := ["braidwork/crc.steps"], apart := false, laid := [("braidwork/crc.steps", laid_braidwork_crc_steps)] }
def FrameBackSaid : Prop := frameBackRow.holds Tryd.pinned (OpenSpec.ofChange frameBackSpec)

/-- ITS FALSE NEIGHBOUR: 'it returns false'. Refute it at one input. -/
def frameBackWrong : ChangeSpec := { name := "frameBack", fn := fun _ => fun
  | [d1, d2, d3, d4] => { results := [.lit (.bool false)], args := [d1, d2, d3, d4] }
  | _ => none }
def FrameBackWrongFalsely : Prop := frameBackRow.holds Tryd.pinned (OpenSpec.ofChange frameBackWrong)

/-- 'braidworklaw12.FrameSealed': WHATEVER THE INPUT: true; the input reads as it did. -/
def frameSealedSpec : ChangeSpec := { name := "frameSealed", fn := fun _ => fun
  | [d1, d2, d3] => { results := [.lit (.bool true)], args := [d1, d2, d3] }
  | _ => none }
def frameSealedRow : OpenClaim := { program := "ytgkihfemlbhioaadoor", sum := "b99d1c9861b52245232237ff4b2b8e12dfda4ce2bd8e606a8cfeef4bbba20dba", func := "braidwork/braidworklaw12.FrameSealed", spec := "frameSealed", unfollowed := true, recurses := true, named := ["braidwork/crc.steps"], apart := false, laid := [("braidwork/crc.steps", laid_braidwork_crc_steps)] }
def FrameSealedSaid : Prop := frameSealedRow.holds Tryd.pinned (OpenSpec.ofChange frameSealedSpec)

/-- ITS FALSE NEIGHBOUR: 'it returns false'. Refute it at one input. -/
def frameSealedWrong : ChangeSpec := { name := "frameSealed", fn := fun _ => fun
  | [d1, d2, d3] => { results := [.lit (.bool false)], args := [d1, d2, d3] }
  | _ => none }
def FrameSealedWrongFalsely : Prop := frameSealedRow.holds Tryd.pinned (OpenSpec.ofChange frameSealedWrong)

/-- 'braidworklaw12.FrameApart': WHATEVER THE INPUT: true; the input reads as it did. -/
def frameApartSpec : ChangeSpec := { name := "frameApart", fn := fun _ => fun
  | [d1, d2] => { results := [.lit (.bool true)], args := [d1, d2] }
  | _ => none }
def frameApartRow : OpenClaim := { program := "ytgkihfemlbhioaadoor", sum := "b99d1c9861b52245232237ff4b2b8e12dfda4ce2bd8e606a8cfeef4bbba20dba", func := "braidwork/braidworklaw12.FrameApart", spec := "frameApart", unfollowed := true, recurses := true, named := ["braidwork/crc.steps"], apart := false, laid := [("braidwork/crc.steps", laid_braidwork_crc_steps)] }
def FrameApartSaid : Prop := frameApartRow.holds Tryd.pinned (OpenSpec.ofChange frameApartSpec)

/-- ITS FALSE NEIGHBOUR: 'it returns false'. Refute it at one input. -/
def frameApartWrong : ChangeSpec := { name := "frameApart", fn := fun _ => fun
  | [d1, d2] => { results := [.lit (.bool false)], args := [d1, d2] }
  | _ => none }
def FrameApartWrongFalsely : Prop := frameApartRow.holds Tryd.pinned (OpenSpec.ofChange frameApartWrong)

/-- 'braidworklaw12.FrameSizes': WHATEVER THE INPUT: true; the input reads as it did. -/
def frameSizesSpec : ChangeSpec := { name := "frameSizes", fn := fun _ => fun
  | [d] => { results := [.lit (.bool true)], args := [d] }
  | _ => none }
def frameSizesRow : OpenClaim := { program := "ytgkihfemlbhioaadoor", sum := "b99d1c9861b52245232237ff4b2b8e12dfda4ce2bd8e606a8cfeef4bbba20dba", func := "braidwork/braidworklaw12.FrameSizes", spec := "frameSizes", unfollowed := true, recurses := true, named := ["braidwork/crc.steps"], apart := false, laid := [("braidwork/crc.steps", laid_braidwork_crc_steps)] }
def FrameSizesSaid : Prop := frameSizesRow.holds Tryd.pinned (OpenSpec.ofChange frameSizesSpec)

/-- ITS FALSE NEIGHBOUR: 'it returns false'. Refute it at one input. -/
def frameSizesWrong : ChangeSpec := { name := "frameSizes", fn := fun _ => fun
  | [d] => { results := [.lit (.bool false)], args := [d] }
  | _ => none }
def FrameSizesWrongFalsely : Prop := frameSizesRow.holds Tryd.pinned (OpenSpec.ofChange frameSizesWrong)

/-- 'braidworklaw12.FrameKnown': WHATEVER THE INPUT: true; the input reads as it did. -/
def frameKnownSpec : ChangeSpec := { name := "frameKnown", fn := fun _ => fun
  | [] => { results := [.lit (.bool true)], args := [] }
  | _ => none }
def frameKnownRow : OpenClaim := { program := "ytgkihfemlbhioaadoor", sum := "b99d1c9861b52245232237ff4b2b8e12dfda4ce2bd8e606a8cfeef4bbba20dba", func := "braidwork/braidworklaw12.FrameKnown", spec := "frameKnown", unfollowed := true, recurses := true, named := ["braidwork/crc.steps"], apart := false, laid := [("braidwork/crc.steps", laid_braidwork_crc_steps)] }
def FrameKnownSaid : Prop := frameKnownRow.holds Tryd.pinned (OpenSpec.ofChange frameKnownSpec)

/-- ITS FALSE NEIGHBOUR: 'it returns false'. Refute it at one input. -/
def frameKnownWrong : ChangeSpec := { name := "frameKnown", fn := fun _ => fun
  | [] => { results := [.lit (.bool false)], args := [] }
  | _ => none }
def FrameKnownWrongFalsely : Prop := frameKnownRow.holds Tryd.pinned (OpenSpec.ofChange frameKnownWrong)

/- THE SECOND FORM. 'bulk': how many values and letters a reading holds, each counted each time it is reached (what is shared counts as often as it is met; a slice's spare places count too). A statement '..UptoSaid' is the law's where the arguments, and the package variables that the reading takes, are together of bulk at most 1048576: NARROWER than '..Said'. Prove '..Said' where nothing that the law and all that it calls make is longer than what came in: it says more and counts as full. Else prove '..UptoSaid'. A law counts once. -/
mutual
def uptoBulk {H : Type} : DataW H → Nat
  | .lit (.string bytes) => bytes.length + 1
  | .lit _ => 1
  | .nil => 1
  | .ptr d => uptoBulk d + 1
  | .slice elems spare => uptoBulkAll elems + uptoBulkAll spare + 1
  | .agg parts => uptoBulkAll parts + 1
  | .iface _ d => uptoBulk d + 1
  | .map entries => uptoBulkEntries entries + 1
  | .held _ => 1
def uptoBulkAll {H : Type} : List (DataW H) → Nat
  | [] => 0
  | d :: r => uptoBulk d + uptoBulkAll r
def uptoBulkEntries {H : Type} : List (Lit × DataW H) → Nat
  | [] => 0
  | x :: r => uptoBulkEntry x + uptoBulkEntries r
def uptoBulkEntry {H : Type} : Lit × DataW H → Nat
  | (.string bytes, d) => bytes.length + uptoBulk d + 1
  | (_, d) => uptoBulk d + 1
 end
def uptoSmall : (H : Type) → List (DataW H) → Bool := fun _ ds => decide (uptoBulkAll ds ≤ 1048576)
def OpenSpec.upto (s : _root_.Go.ChangeSpec) : _root_.Go.OpenSpec := { _root_.Go.OpenSpec.ofChange s with cond := some uptoSmall }

/-- 'braidworklaw12.FrameForms', WHERE WHAT IT READS IS OF BULK AT MOST 1048576: true; the input reads as it did. -/
def frameFormsUptoRow : OpenClaim := { program := "ytgkihfemlbhioaadoor", sum := "b99d1c9861b52245232237ff4b2b8e12dfda4ce2bd8e606a8cfeef4bbba20dba", func := "braidwork/braidworklaw12.FrameForms", spec := "frameForms", unfollowed := true, recurses := true, named := ["braidwork/crc.steps"], apart := false, laid := [("braidwork/crc.steps", laid_braidwork_crc_steps)], narrowed := true }
def FrameFormsUptoSaid : Prop := frameFormsUptoRow.holds Tryd.pinned (OpenSpec.upto frameFormsSpec)

/-- 'braidworklaw12.FrameBack', WHERE WHAT IT READS IS OF BULK AT MOST 1048576: true; the input reads as it did. -/
def frameBackUptoRow : OpenClaim := { program := "ytgkihfemlbhioaadoor", sum := "b99d1c9861b52245232237ff4b2b8e12dfda4ce2bd8e606a8cfeef4bbba20dba", func := "braidwork/braidworklaw12.FrameBack", spec := "frameBack", unfollowed := true, recurses := true, named := ["braidwork/crc.steps"], apart := false, laid := [("braidwork/crc.steps", laid_braidwork_crc_steps)], narrowed := true }
def FrameBackUptoSaid : Prop := frameBackUptoRow.holds Tryd.pinned (OpenSpec.upto frameBackSpec)

/-- 'braidworklaw12.FrameSealed', WHERE WHAT IT READS IS OF BULK AT MOST 1048576: true; the input reads as it did. -/
def frameSealedUptoRow : OpenClaim := { program := "ytgkihfemlbhioaadoor", sum := "b99d1c9861b52245232237ff4b2b8e12dfda4ce2bd8e606a8cfeef4bbba20dba", func := "braidwork/braidworklaw12.FrameSealed", spec := "frameSealed", unfollowed := true, recurses := true, named := ["braidwork/crc.steps"], apart := false, laid := [("braidwork/crc.steps", laid_braidwork_crc_steps)], narrowed := true }
def FrameSealedUptoSaid : Prop := frameSealedUptoRow.holds Tryd.pinned (OpenSpec.upto frameSealedSpec)

/-- 'braidworklaw12.FrameApart', WHERE WHAT IT READS IS OF BULK AT MOST 1048576: true; the input reads as it did. -/
def frameApartUptoRow : OpenClaim := { program := "ytgkihfemlbhioaadoor", sum := "b99d1c9861b52245232237ff4b2b8e12dfda4ce2bd8e606a8cfeef4bbba20dba", func := "braidwork/braidworklaw12.FrameApart", spec := "frameApart", unfollowed := true, recurses := true, named := ["braidwork/crc.steps"], apart := false, laid := [("braidwork/crc.steps", laid_braidwork_crc_steps)], narrowed := true }
def FrameApartUptoSaid : Prop := frameApartUptoRow.holds Tryd.pinned (OpenSpec.upto frameApartSpec)

/-- 'braidworklaw12.FrameSizes', WHERE WHAT IT READS IS OF BULK AT MOST 1048576: true; the input reads as it did. -/
def frameSizesUptoRow : OpenClaim := { program := "ytgkihfemlbhioaadoor", sum := "b99d1c9861b52245232237ff4b2b8e12dfda4ce2bd8e606a8cfeef4bbba20dba", func := "braidwork/braidworklaw12.FrameSizes", spec := "frameSizes", unfollowed := true, recurses := true, named := ["braidwork/crc.steps"], apart := false, laid := [("braidwork/crc.steps", laid_braidwork_crc_steps)], narrowed := true }
def FrameSizesUptoSaid : Prop := frameSizesUptoRow.holds Tryd.pinned (OpenSpec.upto frameSizesSpec)

/-- 'braidworklaw12.FrameKnown', WHERE WHAT IT READS IS OF BULK AT MOST 1048576: true; the input reads as it did. -/
def frameKnownUptoRow : OpenClaim := { program := "ytgkihfemlbhioaadoor", sum := "b99d1c9861b52245232237ff4b2b8e12dfda4ce2bd8e606a8cfeef4bbba20dba", func := "braidwork/braidworklaw12.FrameKnown", spec := "frameKnown", unfollowed := true, recurses := true, named := ["braidwork/crc.steps"], apart := false, laid := [("braidwork/crc.steps", laid_braidwork_crc_steps)], narrowed := true }
def FrameKnownUptoSaid : Prop := frameKnownUptoRow.holds Tryd.pinned (OpenSpec.upto frameKnownSpec)

end Rows
end Go.Proofs.YtgkihfemlbhioaaDoor
