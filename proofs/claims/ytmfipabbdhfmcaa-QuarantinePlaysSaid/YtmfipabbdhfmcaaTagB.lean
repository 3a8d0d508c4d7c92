/- Contracts of layer tags: the words of a range, told one behind the other; Count, Any, Clear. No statement is proved here. -/
import Derived.Test.YtmfipabbdhfmcaaTagA
import Derived.RangeFuncNested
import Derived.RangeFuncBound
import Derived.RangeFuncBox
import Derived.RangeFuncCalls
import Derived.RangeFuncLeaves
import Derived.Shelf.Abstract
import Derived.Shelf.RegionOpen
import Derived.OwnWalkIn
import Derived.TacticsInMore
import Derived.LoopNIn
import Derived.LoopIn
import Derived.Deep.RegionHeld3
namespace Go.Proofs.Ytmfipabbdhfmcaa
open Go.RowKit Go.Shelf
set_option linter.unusedVariables false
attribute [local go_sem] Oper.semAt_some


/-- What stays while the two ends are put right. -/
structure PartS (c b wb n : Nat) (f : Nat → Bool) (W : World) : Prop where
  c : W.cell? ⟨c, 0, none⟩ = some (.pointer (some ⟨b, 0, none⟩))
  m : MapAt W b wb n f
theorem PartS.set {c b wb n : Nat} {f : Nat → Bool} {W : World} (h : PartS c b wb n f W) {p : Addr} (h0 : p.block ≠ c) (h1 : p.block ≠ b) (h2 : p.block ≠ wb) (v : Value) : PartS c b wb n f (W.setCell p v) :=
  ⟨(World.cell?_setCell_other _ _ _ _ (fun e => h0 (congrArg Addr.block e))).trans h.c, h.m.setOther h1 h2 v⟩

end Go.Proofs.Ytmfipabbdhfmcaa
