/- Contracts of the document's answers for layer caps: Of, IsNumber, Range, Within, Holds, Meets, Make. No statement is proved here. -/
import Derived.Deep.LoopGhost
import Derived.Deep.DeepCutAuto
import Derived.Test.YtkmgdfcambdeeaaGreatDoorPaa
import Derived.Test.YtkmgdfcambdeeaaGreatDoorPac
namespace Go.Proofs.YtkmgdfcambdeeaaGreatDoor
open Go.RowKit
set_option linter.unusedVariables false

/-- The number of some bytes, from a place on. -/
def nm (l : List UInt8) (a k : Nat) : Nat := le ((l.drop a).take k)
theorem nm_lt (l : List UInt8) (a k : Nat) : nm l a k < 256 ^ k := by
  have h := le_lt ((l.drop a).take k)
  exact Nat.lt_of_lt_of_le h (Nat.pow_le_pow_right (by decide) (by simp; omega))

def isNumP (e b t pm ty rs : Nat) (va : Bool) : Bool := decide (e = 0 ∧ b = 0 ∧ t = 0 ∧ pm = 0 ∧ ty = 0 ∧ rs = 0 ∧ va = false)
/-- Some cells of a block, stored one behind the other. -/
def setRow (b : Nat) : Nat → List Value → World → World
  | _, [], w => w
  | i, v :: vs, w => setRow b (i + 1) vs (w.setCell ⟨b, i, none⟩ v)
theorem setRow_before (b : Nat) : ∀ (vs : List Value) (i k : Nat) (w : World), k < i → (setRow b i vs w).cell? ⟨b, k, none⟩ = w.cell? ⟨b, k, none⟩
  | [], i, k, w, _ => rfl
  | v :: vs, i, k, w, h => by
    rw [setRow, setRow_before b vs (i + 1) k _ (by omega)]
    exact World.cell?_setCell_other _ _ _ _ (by simp <;> omega)
theorem setRow_cell (b : Nat) : ∀ (vs : List Value) (i j : Nat) (u : Value) (w : World), (∀ j, j < vs.length → (w.cell? ⟨b, i + j, none⟩).isSome = true) → vs[j]? = some u → (setRow b i vs w).cell? ⟨b, i + j, none⟩ = some u
  | [], i, j, u, w, _, hu => by simp at hu
  | v :: vs, i, 0, u, w, h, hu => by
    rw [setRow, setRow_before b vs (i + 1) (i + 0) _ (by omega)]
    simp at hu
    subst hu
    exact World.cell?_setCell_same' _ _ _ (h 0 (by simp))
  | v :: vs, i, j + 1, u, w, h, hu => by
    rw [setRow, show i + (j + 1) = i + 1 + j from by omega]
    refine setRow_cell b vs (i + 1) j u _ (fun j' hj' => ?_) (by simpa using hu)
    rw [World.cell?_setCell_other _ _ _ _ (by simp <;> omega), show i + 1 + j' = i + (j' + 1) from by omega]
    exact h (j' + 1) (by simp <;> omega)

end Go.Proofs.YtkmgdfcambdeeaaGreatDoor
