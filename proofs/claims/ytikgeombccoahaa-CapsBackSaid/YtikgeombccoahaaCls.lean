/- A region that draws its order, whose own operations only read and whose callees keep a class of worlds: one walk in the order of the text serves (the library's quiet walk, at a class of one's own). Plain lemmas; no statement is proved here. -/
import Derived.Test.YtikgeombccoahaaMem
import Derived.BigQuiet
namespace Go.Proofs.Ytikgeombccoahaa
open Go.RowKit

/-- A world of the class. -/
structure Wd (S : World → Prop) where
  w : World
  h : S w
theorem region_cls {P : Program} (S : World → Prop) {id : Nat} {Q : Exit → Act → World → Prop} {a : Act} {w : World} {l : List Oper} (hm : P.follows .mixedOrders = true) (hB : Region.lexB .any l.toArray = true) (h0 : S w.drew)
    (h : wpQuiet P l.toArray (fun w' => ∃ y : Wd S, w' = y.w) (fun a' => ∀ y : Wd S, Q .normal a' y.w) l a) : (Code.region id l.toArray true).wp P Q a w :=
  wp_region_quiet (C := fun w' => ∃ y : Wd S, w' = y.w) hm hB ⟨⟨w.drew, h0⟩, rfl⟩ (by
    have e : (fun a' => ∀ y : Wd S, Q .normal a' y.w) = (fun a' => ∀ w', (∃ y : Wd S, w' = y.w) → Q .normal a' w') := by
      funext a'
      exact propext ⟨fun k w' ⟨y, hy⟩ => hy ▸ k y, fun k y => k y.w ⟨y, rfl⟩⟩
    rw [e] at h
    simpa using h)
theorem cls_call {P : Program} {S : World → Prop} {f : FuncId} {args : Array Value} {v : Value} (h : ∀ w, S w → Calls P f args w fun e w' => e = .returned v ∧ S w') (y : Wd S) :
    Calls P f args y.w fun e w' => e = .returned v ∧ ∃ y' : Wd S, w' = y'.w :=
  (h y.w y.h).mono fun _ w' k => ⟨k.1, ⟨w', k.2⟩, rfl⟩
end Go.Proofs.Ytikgeombccoahaa
