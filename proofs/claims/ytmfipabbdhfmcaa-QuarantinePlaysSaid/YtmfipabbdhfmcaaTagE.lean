/- Contracts of layer tags: Clear. No statement is proved here. -/
import Derived.Test.YtmfipabbdhfmcaaTagD
namespace Go.Proofs.Ytmfipabbdhfmcaa
open Go.RowKit Go.Shelf
set_option linter.unusedVariables false
attribute [local go_sem] Oper.semAt_some

/-- What Clear hands back, and leaves. -/
def Cleared (b wb n lo hi : Nat) (f : Nat → Bool) (w : World) (e : Ending) (W' : World) : Prop :=
  e = .returned (.int .i64 (cnt (fun k => f k && inr lo hi k) n : Nat)) ∧ MapAt W' b wb n (fun k => f k && !inr lo hi k) ∧ Off w.heap.size wb w W'

end Go.Proofs.Ytmfipabbdhfmcaa
