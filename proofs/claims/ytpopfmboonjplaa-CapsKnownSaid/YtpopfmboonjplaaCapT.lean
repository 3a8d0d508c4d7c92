/- Contracts of the document's answers for layer caps: Within, Holds, Meets, Make. No statement is proved here. -/
import Derived.Test.YtpopfmboonjplaaCapS
namespace Go.Proofs.Ytpopfmboonjplaa
open Go.RowKit
set_option linter.unusedVariables false

/-- Does a region lie within bounds? -/
def hoP (x y : Int) (at_ sz : Nat) : Bool := decide (x ≤ at_ ∧ (at_ : Int) + sz ≤ y)
def meP (x y : Int) (at_ sz : Nat) : Bool := decide (max x at_ < min y ((at_ : Int) + sz))
def wiP (pm pm' : Nat) (x y x' y' : Int) : Bool := decide (pm &&& pm' = pm ∧ (y ≤ x ∨ (x' ≤ x ∧ y ≤ y')))
theorem de_bounds (e b t c : Nat) : 0 ≤ deB e b t c ∧ deB e b t c ≤ 4294967295 ∧ deB e b t c ≤ deT e b t c ∧ deT e b t c ≤ 4294967296 := by
  have h := te_bounds e b t c
  unfold deB deT
  split <;> omega

theorem may_of' {b t : Nat} (hb : b ≤ t) (ht : t ≤ 4294967296) : may b t = true := decide_eq_true ⟨hb, ht⟩

/-- Is there a capability of just this region, with these permissions? -/
def mkP (at_ sz pm : Nat) : Bool := decide (pm ≤ 255 ∧ at_ + sz ≤ 4294967296) && enX at_ (at_ + sz)
end Go.Proofs.Ytpopfmboonjplaa
