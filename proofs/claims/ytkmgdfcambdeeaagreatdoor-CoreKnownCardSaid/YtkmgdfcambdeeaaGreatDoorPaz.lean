/- The document's memory (layer core), where it stores. No statement is proved here. -/
import Derived.Test.YtkmgdfcambdeeaaGreatDoorPay
import Derived.Test.YtkmgdfcambdeeaaGreatDoorPaw
namespace Go.Proofs.YtkmgdfcambdeeaaGreatDoor
set_option maxRecDepth 100000
open Go.RowKit
set_option linter.unusedVariables false
/-- What a store makes of tags and bytes. -/
def stoF (N : Nat) (f : Nat → Bool) (o : Cp) (a : Nat) (op : Int) (n : Nat) : Nat → Bool := if op = 24 then scF N f a (o.va && sndP o.e o.b o.t o.pm o.ty o.rs) else stF N f a (putB [] n o.cu).length
def stoL (N : Nat) (l : List UInt8) (o : Cp) (a : Nat) (op : Int) (n : Nat) : List UInt8 := if op = 24 then scL N l a (bytesC o.cu o.e o.b o.t o.pm o.ty o.rs) else stL N l a (putB [] n o.cu)
theorem below_setCells {B g : Nat} (hg : B ≤ g) : ∀ (us : List Value) (k : Nat) (w : World), Below B w (w.setCells g k us)
  | [], _, w => Below.refl _ _
  | u :: us, k, w => ((Below.refl B w).setCell (p := ⟨g, k, none⟩) hg u).trans (below_setCells hg us (k + 1) _)
theorem at_there {x : Rw} {w : World} (h : x.at w) (n : Nat) (hn : n ≤ x.vs.length) : w.there x.g 0 n := fun j hj => by
  rw [Nat.zero_add]
  exact ⟨by rw [h.2.2 j _ (List.getElem?_eq_getElem (show j < x.vs.length by omega))]; rfl, h.2.1 j⟩
section
variable {W : World} {r rb tb N g : Nat} {f : Nat → Bool} {l : List UInt8}
end
end Go.Proofs.YtkmgdfcambdeeaaGreatDoor
