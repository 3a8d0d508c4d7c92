/- Boxes that a call lays for itself, kept whole over draws, new blocks and calls that write nothing old: a list of rows of cells. Plain lemmas; no statement is proved here. -/
import Derived.Test.YtdkggahkfheocaaGreatDoorMem
import Derived.Test.YtdkggahkfheocaaGreatDoorCls
import Derived.Laws.NewBlocks
namespace Go.Proofs.YtdkggahkfheocaaGreatDoor
open Go.RowKit
set_option linter.unusedVariables false

/-- A row of cells in a block. -/
structure Rw where
  g : Nat
  vs : List Value
def Rw.at (x : Rw) (w : World) : Prop := x.g < w.heap.size ∧ (∀ j, w.frozen? ⟨x.g, j, none⟩ = false) ∧ ∀ j u, x.vs[j]? = some u → w.cell? ⟨x.g, j, none⟩ = some u
/-- The rows L lie; nothing that was there at W has changed. -/
structure KR (W : World) (L : List Rw) (w : World) : Prop where
  bl : Below W.heap.size W w
  al : ∀ x, x ∈ L → x.at w
section
variable {W w w' : World} {L : List Rw}
theorem KR.start : KR W [] W := ⟨Below.refl _ _, fun x h => by cases h⟩
theorem KR.below (h : KR W L w) (k : Below w.heap.size w w') : KR W L w' :=
  ⟨h.bl.trans (k.mono h.bl.size), fun x hx => ⟨Nat.lt_of_lt_of_le (h.al x hx).1 k.size, fun j => (k.frozen (p := ⟨x.g, j, none⟩) (h.al x hx).1).trans ((h.al x hx).2.1 j),
    fun j u hu => (k.cell (p := ⟨x.g, j, none⟩) (h.al x hx).1).trans ((h.al x hx).2.2 j u hu)⟩⟩
theorem KR.alloc (h : KR W L w) (ob : Obj) : KR W L (w.alloc ob) := h.below ((Below.refl _ _).alloc (Nat.le_refl _) ob)
theorem KR.drew (h : KR W L w) : KR W L w.drew := h.below (Below.refl _ _).drew
theorem Rw.new (w : World) (vs : List Value) (ty : TypeId) : (⟨w.heap.size, vs⟩ : Rw).at (w.alloc (.cells vs.toArray ty)) :=
  ⟨by simp, fun j => by rw [World.frozen?_alloc_at (hn := rfl)], fun j u hu => by rw [World.cell?_alloc_at (hn := rfl)]; simpa using hu⟩
theorem KR.push (h : KR W L w) (vs : List Value) (ty : TypeId) : KR W (⟨w.heap.size, vs⟩ :: L) (w.alloc (.cells vs.toArray ty)) :=
  ⟨(h.alloc _).bl, fun x hx => by
    rcases List.mem_cons.1 hx with rfl | hx
    · exact Rw.new w vs ty
    · exact (h.alloc _).al x hx⟩
theorem KR.sub {L' : List Rw} (h : KR W L w) (hs : ∀ x, x ∈ L' → x ∈ L) : KR W L' w := ⟨h.bl, fun x hx => h.al x (hs x hx)⟩
theorem KR.cell (h : KR W L w) {g j : Nat} {u : Value} (vs : List Value) (hx : (⟨g, vs⟩ : Rw) ∈ L) (hu : vs[j]? = some u) : w.cell? ⟨g, j, none⟩ = some u := (h.al _ hx).2.2 j u hu
theorem KR.soft (h : KR W L w) {g : Nat} {vs : List Value} (hx : (⟨g, vs⟩ : Rw) ∈ L) (j : Nat) : w.frozen? ⟨g, j, none⟩ = false := (h.al _ hx).2.1 j
theorem KR.lt (h : KR W L w) {g : Nat} {vs : List Value} (hx : (⟨g, vs⟩ : Rw) ∈ L) : g < w.heap.size := (h.al _ hx).1
/-- A store into a block of none of the rows. -/
theorem KR.far (h : KR W L w) {g : Nat} (hg : W.heap.size ≤ g) (hn : ∀ x, x ∈ L → x.g ≠ g) (j : Nat) (u : Value) : KR W L (w.setCell ⟨g, j, none⟩ u) :=
  ⟨h.bl.setCell hg u, fun x hx => ⟨by rw [World.size_setCell]; exact (h.al x hx).1, fun i => by rw [World.frozen?_setCell]; exact (h.al x hx).2.1 i, fun i v hv => by
    rw [World.cell?_setCell_other _ _ _ _ (fun e => hn x hx (by injection e with e _; exact e.symm))]
    exact (h.al x hx).2.2 i v hv⟩⟩
/-- A store into the first row. -/
theorem KR.set {g : Nat} {vs : List Value} (h : KR W (⟨g, vs⟩ :: L) w) (hg : W.heap.size ≤ g) (hn : ∀ x, x ∈ L → x.g ≠ g) (j : Nat) (u : Value) (hj : j < vs.length) : KR W (⟨g, vs.set j u⟩ :: L) (w.setCell ⟨g, j, none⟩ u) :=
  ⟨h.bl.setCell hg u, fun x hx => by
    rcases List.mem_cons.1 hx with rfl | hx
    · have hA := h.al _ (List.mem_cons_self ..)
      refine ⟨by rw [World.size_setCell]; exact hA.1, fun i => by rw [World.frozen?_setCell]; exact hA.2.1 i, fun i v hv => ?_⟩
      have hi : i < vs.length := by have := (List.getElem?_eq_some_iff.1 hv).1; simpa using this
      have hB := hA.2.2 i vs[i] (List.getElem?_eq_getElem hi)
      by_cases e : i = j
      · subst e
        simp only [List.getElem?_set_self hj, Option.some.injEq] at hv
        subst hv
        exact World.cell?_setCell_same' _ _ _ (by simp only at hB; rw [hB]; rfl)
      · simp only [List.getElem?_set_ne (fun k => e k.symm), List.getElem?_eq_getElem hi, Option.some.injEq] at hv
        subst hv
        rw [World.cell?_setCell_other _ _ _ _ (fun k => e (by injection k with k1 k2; exact k2.symm))]
        exact hB
    · exact ((KR.far (L := L) (h.sub fun y hy => List.mem_cons_of_mem _ hy) hg hn j u).al x hx)⟩
theorem KR.swap {a b : Rw} (h : KR W (a :: b :: L) w) : KR W (b :: a :: L) w := h.sub fun x hx => by
  rcases List.mem_cons.1 hx with rfl | hx
  · exact List.mem_cons_of_mem _ (List.mem_cons_self ..)
  · rcases List.mem_cons.1 hx with rfl | hx
    · exact List.mem_cons_self ..
    · exact List.mem_cons_of_mem _ (List.mem_cons_of_mem _ hx)
end
end Go.Proofs.YtdkggahkfheocaaGreatDoor
