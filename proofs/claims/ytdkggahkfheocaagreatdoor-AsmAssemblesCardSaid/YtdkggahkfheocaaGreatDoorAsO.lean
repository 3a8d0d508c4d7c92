/- Words for rows that grow by append beside boxes and an iterator; rows of texts. Plain lemmas; no statement is proved here. -/
import Derived.Test.YtdkggahkfheocaaGreatDoorIsL
import Derived.Test.YtdkggahkfheocaaGreatDoorAsM
import Derived.Deep.AppendLies
import Derived.Laws.AppendOwn
import Derived.Laws.OwnMore
namespace Go.Proofs.YtdkggahkfheocaaGreatDoor
open Go.RowKit Go.Lib
set_option linter.unusedVariables false

def strV (x : List UInt8) : Value := .string ⟨x.toArray⟩
section
variable {W w w' : World} {L : List Rw} {r : Option Nat} {it p : Nat} {s : ByteArray}
theorem KR.grown (h : KR W L w) (hg : w.grownBy w' r) (hr : ∀ k, r = some k → W.heap.size ≤ k) (hd : ∀ x, x ∈ L → r ≠ some x.g) : KR W L w' :=
  ⟨h.bl.grown hg h.bl.size hr, fun x hx => by
    have hA := h.al x hx
    have hb := hg.block x.g hA.1 (fun e => hd x hx e.symm)
    exact ⟨Nat.lt_of_lt_of_le hA.1 hg.size, fun j => (World.frozen?_of_block (a := ⟨x.g, j, none⟩) hb).trans (hA.2.1 j), fun j u hu => (World.cell?_of_block (a := ⟨x.g, j, none⟩) hb).trans (hA.2.2 j u hu)⟩⟩
theorem LP.grown (h : LP W L it s p w) (hg : w.grownBy w' r) (hr : ∀ k, r = some k → W.heap.size ≤ k) (hd : ∀ x, x ∈ L → r ≠ some x.g) (hi : r ≠ some it) : LP W L it s p w' :=
  ⟨h.k.grown hg hr hd, (hg.block it h.lt (fun e => hi e.symm)).trans h.i, h.hi, h.hn⟩
theorem below_grown (h : Below W.heap.size W w) (hg : w.grownBy w' r) (hr : ∀ k, r = some k → W.heap.size ≤ k) : Below W.heap.size W w' := h.grown hg h.size hr
theorem owns_below {base : Nat} {e : TypeId} {sz n : Nat} {v : Value} {xs : List Value} (h : w.ownsRow base e sz v n xs) (k : Below w.heap.size w w') : w'.ownsRow base e sz v n xs :=
  h.kept (row := none) ⟨k.os, k.tape, k.output, k.size, fun j hj _ => k.block j hj⟩ (by cases v.ownBlock <;> simp)
theorem owns_iter {base : Nat} {e : TypeId} {sz n : Nat} {v : Value} {xs : List Value} (h : w.ownsRow base e sz v n xs) (hb : v.ownBlock ≠ some it) (s : ByteArray) (p : Nat) : (w.iterAt it s p).ownsRow base e sz v n xs := by
  refine ⟨h.1, ?_⟩
  rcases h.2 with hn | ⟨g, cap, cur, rfl, hb', hg, rest⟩
  · exact .inl hn
  · refine .inr ⟨g, cap, cur, rfl, hb', ?_, rest⟩
    have hne : g ≠ it := fun e => hb (by simp [Value.ownBlock, e])
    rw [Lib.iterAt_other _ _ _ _ _ hne]
    exact hg
theorem owns_cell {base : Nat} {e : TypeId} {sz n : Nat} {v : Value} {xs : List Value} (h : w.ownsRow base e sz v n xs) (g j : Nat) (u : Value) (hb : v.ownBlock ≠ some g) : (w.setCell ⟨g, j, none⟩ u).ownsRow base e sz v n xs := by
  refine ⟨h.1, ?_⟩
  rcases h.2 with hn | ⟨g', cap, cur, rfl, hb', hg, rest⟩
  · exact .inl hn
  · refine .inr ⟨g', cap, cur, rfl, hb', ?_, rest⟩
    have hne : g' ≠ g := fun e => hb (by simp [Value.ownBlock, e])
    rw [Below.heap_setCell _ _ _ _ (fun e => hne (by simpa using e))]
    exact hg
end
end Go.Proofs.YtdkggahkfheocaaGreatDoor
