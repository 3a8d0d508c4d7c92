/- Contracts of the document's answers for layer bounds: Decode, Keeps, Encode, Round, Pad. No statement is proved here. -/
import Derived.Test.YtpopfmboonjplaaBndQ
namespace Go.Proofs.Ytpopfmboonjplaa
open Go.RowKit
set_option linter.unusedVariables false

theorem isB_not {e b t c : Nat} (h : mayP e b t = false) : isB e b t c = false := by
  have := of_decide_eq_false h
  exact decide_eq_false fun k => this ⟨k.1, k.2.1, k.2.2.1⟩
/-- What 'Tell' answers. -/
def raB (e b t c : Nat) : Int := if mayP e b t then plc (2 ^ e : Nat) b c b else 0
def raT (e b t c : Nat) : Int := if mayP e b t then plc (2 ^ e : Nat) b c t else 0
theorem ra_te {e b t c : Nat} (h : isB e b t c = true) : raB e b t c = teB e b t c ∧ raT e b t c = teT e b t c := by
  have k := of_decide_eq_true h
  have hm : mayP e b t = true := decide_eq_true ⟨k.1, k.2.1, k.2.2.1⟩
  simp [raB, raT, teB, teT, h, hm]

theorem rkp_eq (e b t c n : Nat) : (isB e b t c && (raB e b t c == raB e b t n && raT e b t c == raT e b t n)) = kp e b t c n := by
  unfold kp
  cases h : isB e b t c
  · simp only [Bool.false_and]
  · have k := of_decide_eq_true h
    have hm : mayP e b t = true := decide_eq_true ⟨k.1, k.2.1, k.2.2.1⟩
    rw [Bool.eq_iff_iff]
    simp [raB, raT, hm]




end Go.Proofs.Ytpopfmboonjplaa
