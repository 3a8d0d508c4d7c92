/- The document's Do (layer core), where nothing is done. No statement is proved here. -/
import Derived.Test.YtkmgdfcambdeeaaGreatDoorPaz
import Derived.Test.YtkmgdfcambdeeaaGreatDoorPba
namespace Go.Proofs.YtkmgdfcambdeeaaGreatDoor
set_option maxRecDepth 100000
open Go.RowKit
set_option linter.unusedVariables false
theorem start_do (F : List Cp) (op A B C m : Int) (W : World) : KR W [⟨W.heap.size + 2, fC zF⟩, ⟨W.heap.size + 1, ir op A B C m⟩, ⟨W.heap.size, fC F⟩] (((W.alloc (.cells (fC F).toArray 28)).alloc (.cells #[.int .i64 op, .int .i64 A, .int .i64 B, .int .i64 C, .int .i64 m] 30)).alloc (.cells Tryz.zeroCells28 28)) := by
  have := (((KR.start (W := W)).push (fC F) 28).push (ir op A B C m) 30).push (fC zF) 28
  rw [show ((W.alloc (Obj.cells (fC F).toArray 28)).alloc (Obj.cells (ir op A B C m).toArray 30)).heap.size = W.heap.size + 2 from by simp, show (W.alloc (Obj.cells (fC F).toArray 28)).heap.size = W.heap.size + 1 from by simp, ← zero_fr] at this
  exact this
section
variable {W : World} {r : Nat}
end
end Go.Proofs.YtkmgdfcambdeeaaGreatDoor
