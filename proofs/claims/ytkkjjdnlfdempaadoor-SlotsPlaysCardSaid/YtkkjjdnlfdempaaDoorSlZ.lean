/- A list of pages that a book has told. Plain lemmas; no statement is proved here. -/
import Derived.Test.YtkkjjdnlfdempaaDoorSlY
namespace Go.Proofs.YtkkjjdnlfdempaaDoor
set_option maxRecDepth 100000
open Go.RowKit Go.Shelf
set_option linter.unusedVariables false
/-- A list of numbers that nobody else writes. -/
structure LstAt (w : World) (b : Nat) (A : Option Addr) (l : List Nat) : Prop where
  c : ∀ (i p : Nat), l[i]? = some p → ∃ q, A = some ⟨q, 0, none⟩ ∧ q ≠ b ∧ q < w.heap.size ∧ w.cell? ⟨q, i, none⟩ = some (.int .i64 (p : Int))
section
variable {w w' : World} {b : Nat} {A : Option Addr} {l : List Nat}
theorem LstAt.off (H : LstAt w b A l) (o : Off w.heap.size b w w') : LstAt w' b A l := ⟨fun i p h => by
  obtain ⟨q, e, h1, h2, h3⟩ := H.c i p h
  exact ⟨q, e, h1, Nat.lt_of_lt_of_le h2 o.size, (o.cell (p := ⟨q, i, none⟩) h2 h1).trans h3⟩⟩
theorem LstAt.grow (H : LstAt w b A l) (k : Below w.heap.size w w') : LstAt w' b A l := H.off (Off.of_below k)
/-- What Pages hands back is such a list. -/
theorem ListPost.lst {e : Ending} (hb : b < w.heap.size) (h : ListPost w l e w') : ∃ A c, e = .returned (.slice A l.length c) ∧ LstAt w' b A l ∧ Below w.heap.size w w' := by
  obtain ⟨v, rfl, o, hB⟩ := h
  have o' := o
  rcases o.2 with ⟨rfl, e0⟩ | ⟨q, cap, cur, rfl, h1, h2, h3⟩
  · have hl : l = [] := List.eq_nil_of_length_eq_zero e0
    subst hl
    exact ⟨none, 0, rfl, ⟨fun i p h => by simp at h⟩, hB⟩
  · refine ⟨_, _, rfl, ⟨fun i p h => ⟨q, rfl, by omega, (Array.getElem?_eq_some_iff.1 h2).1, ?_⟩⟩, hB⟩
    have hi := (List.getElem?_eq_some_iff.1 h).1
    rw [World.ownsRow.cellAt o' i (by omega), List.getElem?_map, h]
    rfl
end
end Go.Proofs.YtkkjjdnlfdempaaDoor
