/-
  NARROWER THAN 'FOR EVERY INPUT', by the rows' own cells (each row's printed sentence says how): CoreDoes: laid · CoreRuns: laid · CoreNoMore: laid · CoreData: laid · CoreMoves: laid · CoreKnown: laid.
  DERIVED. THE GIVEN ROWS OF THIS SEAT. 6 by the template 'for every input the law returns true; each argument reads behind the call as it read before'; 0 by the template 'total and deterministic' (their statements: YtkmgdfcambdeeaaGreatDoorTotals.lean).
  GIVEN WITH THE SEED: the statements are not yours to turn. If you find one false, say at which input.
  Laid BY PROGRAM, IN A SANDBOX (cutbox-rows.mjs): the forced cells as the released guide's own fill.sh prints them over the translation 9547d29cab60b1f4… (all of the seat's roots in one cut). By AI agents, Wed Nov 11 2026. No macro, syntax, notation, axiom, sorry.
-/
import Derived.Test.YtkmgdfcambdeeaaGreatDoorChecked
import GoSem.Claim
import GoSem.ClaimJoined
import GoSem.ClaimMapViews
import Derived.JoinedTies
import Derived.KernelRfl
namespace Go.Proofs.YtkmgdfcambdeeaaGreatDoor
/- THE CELL 'sum', in the pinned program and in every row, IS THE sha256 OF THE DUMP (.gsa) THAT YtkmgdfcambdeeaaGreatDoorProg.lean LOADS. Nothing in Lean hashes anything: it is a label: what it is worth is what the hold of that sum in a sandbox is worth. -/
noncomputable def Tryz.pinned : Pinned := { name := "ytkmgdfcambdeeaagreatdoor", sum := "9547d29cab60b1f482075756af7a26a3f67ebee0949d204ed4846f124903a2e6", checked := Tryz.checked }
namespace Rows
def none {H : Type} : Left H := { results := [], args := [] }

/- WHAT THE LISTED PACKAGE-LEVEL VARIABLES READ AS WHEN THE CALL BEGINS. Each datum BY PROGRAM (the guide's laid-datum.mjs) off the statement by which the dump's own 'gosem.cut.vars' lays the variable. In a bare row this is a premise. The card (YtkmgdfcambdeeaaGreatDoorCards.lean) ties it to the program's text. -/
def laid_fallow_isa_forms {H : Type} : DataW H := .agg [.lit (.string []), .lit (.string [97, 105]), .lit (.string [97, 106]), .lit (.string [97, 98, 99]), .lit (.string [97, 98, 99]), .lit (.string [97, 98, 99]), .lit (.string [97, 98, 99]), .lit (.string [97, 98, 99]), .lit (.string [97, 98, 99]), .lit (.string [97, 98, 99]), .lit (.string [97, 98, 99]), .lit (.string [97, 98, 99]), .lit (.string [97, 98, 99]), .lit (.string [97, 98, 99]), .lit (.string [97, 98, 99]), .lit (.string [97, 98, 99]), .lit (.string [97, 98, 105]), .lit (.string [97, 98, 105]), .lit (.string [97, 98, 105]), .lit (.string [97, 98, 105]), .lit (.string [97, 98, 105]), .lit (.string [97, 98, 105]), .lit (.string [97, 98, 105]), .lit (.string [97, 98, 105]), .lit (.string [97, 98, 105]), .lit (.string [97, 98, 105]), .lit (.string [97, 98, 105]), .lit (.string [97, 98, 105]), .lit (.string [97, 98, 105]), .lit (.string [97, 106]), .lit (.string [97, 98]), .lit (.string [97, 98]), .lit (.string [97, 98, 99]), .lit (.string [97, 98, 105]), .lit (.string [97, 98, 99]), .lit (.string [97, 98, 99]), .lit (.string [97, 98, 99]), .lit (.string [97, 98, 99]), .lit (.string [97, 98, 99]), .lit (.string [97, 98, 99]), .lit (.string [97, 98, 99]), .lit (.string [97, 98]), .lit (.string [97, 98]), .lit (.string [97, 98]), .lit (.string [97, 98]), .lit (.string [97, 98]), .lit (.string [97, 98]), .lit (.string [97, 98]), .lit (.string [97, 98]), .lit (.string [97, 106]), .lit (.string [97, 98]), .lit (.string []), .lit (.string [105]), .lit (.string [])]

/-- 'fallowlaw10.CoreDoes': WHATEVER THE INPUT: true; the input reads as it did. -/
def coreDoesSpec : ChangeSpec := { name := "coreDoes", fn := fun _ => fun
  | [d1, d2, d3] => { results := [.lit (.bool true)], args := [d1, d2, d3] }
  | _ => none }
def coreDoesRow : OpenClaim := { program := "ytkmgdfcambdeeaagreatdoor", sum := "9547d29cab60b1f482075756af7a26a3f67ebee0949d204ed4846f124903a2e6", func := "fallow/fallowlaw10.CoreDoes", spec := "coreDoes", unfollowed := true, recurses := true, named := ["fallow/isa.forms"], apart := false, laid := [("fallow/isa.forms", laid_fallow_isa_forms)] }
def CoreDoesSaid : Prop := coreDoesRow.holds Tryz.pinned (OpenSpec.ofChange coreDoesSpec)

/-- ITS FALSE NEIGHBOUR: 'it returns false'. Refute it at one input. -/
def coreDoesWrong : ChangeSpec := { name := "coreDoes", fn := fun _ => fun
  | [d1, d2, d3] => { results := [.lit (.bool false)], args := [d1, d2, d3] }
  | _ => none }
def CoreDoesWrongFalsely : Prop := coreDoesRow.holds Tryz.pinned (OpenSpec.ofChange coreDoesWrong)

/-- 'fallowlaw10.CoreRuns': WHATEVER THE INPUT: true; the input reads as it did. -/
def coreRunsSpec : ChangeSpec := { name := "coreRuns", fn := fun _ => fun
  | [d1, d2] => { results := [.lit (.bool true)], args := [d1, d2] }
  | _ => none }
def coreRunsRow : OpenClaim := { program := "ytkmgdfcambdeeaagreatdoor", sum := "9547d29cab60b1f482075756af7a26a3f67ebee0949d204ed4846f124903a2e6", func := "fallow/fallowlaw10.CoreRuns", spec := "coreRuns", unfollowed := true, recurses := true, named := ["fallow/isa.forms"], apart := false, laid := [("fallow/isa.forms", laid_fallow_isa_forms)] }
def CoreRunsSaid : Prop := coreRunsRow.holds Tryz.pinned (OpenSpec.ofChange coreRunsSpec)

/-- ITS FALSE NEIGHBOUR: 'it returns false'. Refute it at one input. -/
def coreRunsWrong : ChangeSpec := { name := "coreRuns", fn := fun _ => fun
  | [d1, d2] => { results := [.lit (.bool false)], args := [d1, d2] }
  | _ => none }
def CoreRunsWrongFalsely : Prop := coreRunsRow.holds Tryz.pinned (OpenSpec.ofChange coreRunsWrong)

/-- 'fallowlaw10.CoreNoMore': WHATEVER THE INPUT: true; the input reads as it did. -/
def coreNoMoreSpec : ChangeSpec := { name := "coreNoMore", fn := fun _ => fun
  | [d1, d2, d3] => { results := [.lit (.bool true)], args := [d1, d2, d3] }
  | _ => none }
def coreNoMoreRow : OpenClaim := { program := "ytkmgdfcambdeeaagreatdoor", sum := "9547d29cab60b1f482075756af7a26a3f67ebee0949d204ed4846f124903a2e6", func := "fallow/fallowlaw10.CoreNoMore", spec := "coreNoMore", unfollowed := true, recurses := true, named := ["fallow/isa.forms"], apart := false, laid := [("fallow/isa.forms", laid_fallow_isa_forms)] }
def CoreNoMoreSaid : Prop := coreNoMoreRow.holds Tryz.pinned (OpenSpec.ofChange coreNoMoreSpec)

/-- ITS FALSE NEIGHBOUR: 'it returns false'. Refute it at one input. -/
def coreNoMoreWrong : ChangeSpec := { name := "coreNoMore", fn := fun _ => fun
  | [d1, d2, d3] => { results := [.lit (.bool false)], args := [d1, d2, d3] }
  | _ => none }
def CoreNoMoreWrongFalsely : Prop := coreNoMoreRow.holds Tryz.pinned (OpenSpec.ofChange coreNoMoreWrong)

/-- 'fallowlaw10.CoreData': WHATEVER THE INPUT: true; the input reads as it did. -/
def coreDataSpec : ChangeSpec := { name := "coreData", fn := fun _ => fun
  | [d1, d2, d3] => { results := [.lit (.bool true)], args := [d1, d2, d3] }
  | _ => none }
def coreDataRow : OpenClaim := { program := "ytkmgdfcambdeeaagreatdoor", sum := "9547d29cab60b1f482075756af7a26a3f67ebee0949d204ed4846f124903a2e6", func := "fallow/fallowlaw10.CoreData", spec := "coreData", unfollowed := true, recurses := true, named := ["fallow/isa.forms"], apart := false, laid := [("fallow/isa.forms", laid_fallow_isa_forms)] }
def CoreDataSaid : Prop := coreDataRow.holds Tryz.pinned (OpenSpec.ofChange coreDataSpec)

/-- ITS FALSE NEIGHBOUR: 'it returns false'. Refute it at one input. -/
def coreDataWrong : ChangeSpec := { name := "coreData", fn := fun _ => fun
  | [d1, d2, d3] => { results := [.lit (.bool false)], args := [d1, d2, d3] }
  | _ => none }
def CoreDataWrongFalsely : Prop := coreDataRow.holds Tryz.pinned (OpenSpec.ofChange coreDataWrong)

/-- 'fallowlaw10.CoreMoves': WHATEVER THE INPUT: true; the input reads as it did. -/
def coreMovesSpec : ChangeSpec := { name := "coreMoves", fn := fun _ => fun
  | [d1, d2, d3] => { results := [.lit (.bool true)], args := [d1, d2, d3] }
  | _ => none }
def coreMovesRow : OpenClaim := { program := "ytkmgdfcambdeeaagreatdoor", sum := "9547d29cab60b1f482075756af7a26a3f67ebee0949d204ed4846f124903a2e6", func := "fallow/fallowlaw10.CoreMoves", spec := "coreMoves", unfollowed := true, recurses := true, named := ["fallow/isa.forms"], apart := false, laid := [("fallow/isa.forms", laid_fallow_isa_forms)] }
def CoreMovesSaid : Prop := coreMovesRow.holds Tryz.pinned (OpenSpec.ofChange coreMovesSpec)

/-- ITS FALSE NEIGHBOUR: 'it returns false'. Refute it at one input. -/
def coreMovesWrong : ChangeSpec := { name := "coreMoves", fn := fun _ => fun
  | [d1, d2, d3] => { results := [.lit (.bool false)], args := [d1, d2, d3] }
  | _ => none }
def CoreMovesWrongFalsely : Prop := coreMovesRow.holds Tryz.pinned (OpenSpec.ofChange coreMovesWrong)

/-- 'fallowlaw10.CoreKnown': WHATEVER THE INPUT: true; the input reads as it did. -/
def coreKnownSpec : ChangeSpec := { name := "coreKnown", fn := fun _ => fun
  | [] => { results := [.lit (.bool true)], args := [] }
  | _ => none }
def coreKnownRow : OpenClaim := { program := "ytkmgdfcambdeeaagreatdoor", sum := "9547d29cab60b1f482075756af7a26a3f67ebee0949d204ed4846f124903a2e6", func := "fallow/fallowlaw10.CoreKnown", spec := "coreKnown", unfollowed := true, recurses := true, named := ["fallow/isa.forms"], apart := false, laid := [("fallow/isa.forms", laid_fallow_isa_forms)] }
def CoreKnownSaid : Prop := coreKnownRow.holds Tryz.pinned (OpenSpec.ofChange coreKnownSpec)

/-- ITS FALSE NEIGHBOUR: 'it returns false'. Refute it at one input. -/
def coreKnownWrong : ChangeSpec := { name := "coreKnown", fn := fun _ => fun
  | [] => { results := [.lit (.bool false)], args := [] }
  | _ => none }
def CoreKnownWrongFalsely : Prop := coreKnownRow.holds Tryz.pinned (OpenSpec.ofChange coreKnownWrong)

/- THE SECOND FORM. 'bulk': how many values and letters a reading holds, each counted each time it is reached (what is shared counts as often as it is met; a slice's spare places count too). A statement '..UptoSaid' is the law's where the arguments, and the package variables that the reading takes, are together of bulk at most 1048576: NARROWER than '..Said'. Prove '..Said' where nothing that the law and all that it calls make is longer than what came in: it says more and counts as full. Else prove '..UptoSaid'. A law counts once. -/
mutual
def uptoBulk {H : Type} : DataW H → Nat
  | .lit (.string bytes) => bytes.length + 1
  | .lit _ => 1
  | .nil => 1
  | .ptr d => uptoBulk d + 1
  | .slice elems spare => uptoBulkAll elems + uptoBulkAll spare + 1
  | .agg parts => uptoBulkAll parts + 1
  | .iface _ d => uptoBulk d + 1
  | .map entries => uptoBulkEntries entries + 1
  | .held _ => 1
def uptoBulkAll {H : Type} : List (DataW H) → Nat
  | [] => 0
  | d :: r => uptoBulk d + uptoBulkAll r
def uptoBulkEntries {H : Type} : List (Lit × DataW H) → Nat
  | [] => 0
  | x :: r => uptoBulkEntry x + uptoBulkEntries r
def uptoBulkEntry {H : Type} : Lit × DataW H → Nat
  | (.string bytes, d) => bytes.length + uptoBulk d + 1
  | (_, d) => uptoBulk d + 1
 end
def uptoSmall : (H : Type) → List (DataW H) → Bool := fun _ ds => decide (uptoBulkAll ds ≤ 1048576)
def OpenSpec.upto (s : _root_.Go.ChangeSpec) : _root_.Go.OpenSpec := { _root_.Go.OpenSpec.ofChange s with cond := some uptoSmall }

/-- 'fallowlaw10.CoreDoes', WHERE WHAT IT READS IS OF BULK AT MOST 1048576: true; the input reads as it did. -/
def coreDoesUptoRow : OpenClaim := { program := "ytkmgdfcambdeeaagreatdoor", sum := "9547d29cab60b1f482075756af7a26a3f67ebee0949d204ed4846f124903a2e6", func := "fallow/fallowlaw10.CoreDoes", spec := "coreDoes", unfollowed := true, recurses := true, named := ["fallow/isa.forms"], apart := false, laid := [("fallow/isa.forms", laid_fallow_isa_forms)], narrowed := true }
def CoreDoesUptoSaid : Prop := coreDoesUptoRow.holds Tryz.pinned (OpenSpec.upto coreDoesSpec)

/-- 'fallowlaw10.CoreRuns', WHERE WHAT IT READS IS OF BULK AT MOST 1048576: true; the input reads as it did. -/
def coreRunsUptoRow : OpenClaim := { program := "ytkmgdfcambdeeaagreatdoor", sum := "9547d29cab60b1f482075756af7a26a3f67ebee0949d204ed4846f124903a2e6", func := "fallow/fallowlaw10.CoreRuns", spec := "coreRuns", unfollowed := true, recurses := true, named := ["fallow/isa.forms"], apart := false, laid := [("fallow/isa.forms", laid_fallow_isa_forms)], narrowed := true }
def CoreRunsUptoSaid : Prop := coreRunsUptoRow.holds Tryz.pinned (OpenSpec.upto coreRunsSpec)

/-- 'fallowlaw10.CoreNoMore', WHERE WHAT IT READS IS OF BULK AT MOST 1048576: true; the input reads as it did. -/
def coreNoMoreUptoRow : OpenClaim := { program := "ytkmgdfcambdeeaagreatdoor", sum := "9547d29cab60b1f482075756af7a26a3f67ebee0949d204ed4846f124903a2e6", func := "fallow/fallowlaw10.CoreNoMore", spec := "coreNoMore", unfollowed := true, recurses := true, named := ["fallow/isa.forms"], apart := false, laid := [("fallow/isa.forms", laid_fallow_isa_forms)], narrowed := true }
def CoreNoMoreUptoSaid : Prop := coreNoMoreUptoRow.holds Tryz.pinned (OpenSpec.upto coreNoMoreSpec)

/-- 'fallowlaw10.CoreData', WHERE WHAT IT READS IS OF BULK AT MOST 1048576: true; the input reads as it did. -/
def coreDataUptoRow : OpenClaim := { program := "ytkmgdfcambdeeaagreatdoor", sum := "9547d29cab60b1f482075756af7a26a3f67ebee0949d204ed4846f124903a2e6", func := "fallow/fallowlaw10.CoreData", spec := "coreData", unfollowed := true, recurses := true, named := ["fallow/isa.forms"], apart := false, laid := [("fallow/isa.forms", laid_fallow_isa_forms)], narrowed := true }
def CoreDataUptoSaid : Prop := coreDataUptoRow.holds Tryz.pinned (OpenSpec.upto coreDataSpec)

/-- 'fallowlaw10.CoreMoves', WHERE WHAT IT READS IS OF BULK AT MOST 1048576: true; the input reads as it did. -/
def coreMovesUptoRow : OpenClaim := { program := "ytkmgdfcambdeeaagreatdoor", sum := "9547d29cab60b1f482075756af7a26a3f67ebee0949d204ed4846f124903a2e6", func := "fallow/fallowlaw10.CoreMoves", spec := "coreMoves", unfollowed := true, recurses := true, named := ["fallow/isa.forms"], apart := false, laid := [("fallow/isa.forms", laid_fallow_isa_forms)], narrowed := true }
def CoreMovesUptoSaid : Prop := coreMovesUptoRow.holds Tryz.pinned (OpenSpec.upto coreMovesSpec)

/-- 'fallowlaw10.CoreKnown', WHERE WHAT IT READS IS OF BULK AT MOST 1048576: true; the input reads as it did. -/
def coreKnownUptoRow : OpenClaim := { program := "ytkmgdfcambdeeaagreatdoor", sum := "9547d29cab60b1f482075756af7a26a3f67ebee0949d204ed4846f124903a2e6", func := "fallow/fallowlaw10.CoreKnown", spec := "coreKnown", unfollowed := true, recurses := true, named := ["fallow/isa.forms"], apart := false, laid := [("fallow/isa.forms", laid_fallow_isa_forms)], narrowed := true }
def CoreKnownUptoSaid : Prop := coreKnownUptoRow.holds Tryz.pinned (OpenSpec.upto coreKnownSpec)

end Rows
end Go.Proofs.YtkmgdfcambdeeaaGreatDoor
