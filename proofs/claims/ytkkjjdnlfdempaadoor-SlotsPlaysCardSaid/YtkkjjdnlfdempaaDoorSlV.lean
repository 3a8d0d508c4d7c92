/- The library's table, as its own text lays it. Plain lemmas; no statement is proved here. -/
import Derived.Test.YtkkjjdnlfdempaaDoorRows
import Derived.Test.YtkkjjdnlfdempaaDoorSlW
import Derived.ChangeSame
import Derived.ChangeVars
import Derived.JoinedOf
import Derived.RowKitTokens
import Derived.LaidLaws
import Derived.LaidHandle
import Derived.Lib.LaidTab
namespace Go.Proofs.YtkkjjdnlfdempaaDoor
open Go.ChangeShapes Go.WideShapes Go.ChangeAt Go.RowKit Go.Shelf
set_option linter.unusedVariables false
theorem own : ownKnob Tryd.prog.godebug = none := by kernel_rfl
theorem laidOut : laidOutB Tryd.prog = true := by kernel_rfl
theorem gTab : Tryd.prog.globalNamed "math/bits.deBruijn32tab" = some 0 := by kernel_rfl
theorem gTabType : (Tryd.prog.globals[0]?).map (·.type) = some 80 := by kernel_rfl
/-- The table, as integers. -/
def tabInts : List Int := List.map Int.ofNat Lib.deBruijn32tab
/-- What the rows list. -/
def laidL : List (String × DataW Unit) := [("math/bits.deBruijn32tab", Rows.laid_math_bits_deBruijn32tab)]
/-- A world in which the table holds what its own text lays: the witness. -/
noncomputable def laidWorld (os : Os) : World :=
  let w0 := World.holding Tryd.prog os ⟨#[], #[], []⟩
  { w0 with heap := w0.heap.modify 0 fun
      | .cells _ t frozen => .cells (tabInts.map fun z => Value.int .u8 z).toArray t frozen
      | o => o }
theorem laid_met (os : Os) (args : Array Value) : laidMetH Tryd.prog laidL ((laidWorld os).forCall (fun _ _ => 0) ⟨#[], args, []⟩).memory :=
  laidMetH_of_parts (laidMet_of_run' 8 (by kernel_rfl) (by kernel_rfl)) (by kernel_rfl)
/-- What the row's condition says of the table. -/
theorem tabs_of_laid {W : World} (h : laidMetH Tryd.prog laidL W) : TabAt 0 Lib.deBruijn32tab W := by
  have h' : laidMet Tryd.prog (("math/bits.deBruijn32tab", Lib.tabData .u8 tabInts) :: []) W := h
  have hT : Lib.TabIs Tryd.prog W "math/bits.deBruijn32tab" .u8 tabInts := Lib.tabIs_of_head gTab gTabType Tryd.underlying80 Tryd.underlying5 (by kernel_rfl) (by kernel_rfl) h'
  intro j hj
  have := hT.cell gTab j (by rw [tabInts, List.length_map]; exact hj)
  rw [this, tabInts]
  simp [List.getD]
  rw [List.getElem?_eq_getElem hj]
  rfl
end Go.Proofs.YtkkjjdnlfdempaaDoor
