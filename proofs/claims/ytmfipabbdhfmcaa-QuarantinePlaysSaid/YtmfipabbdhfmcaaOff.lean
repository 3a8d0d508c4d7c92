/- What a call leaves as it was, but for one block; cells of new blocks. No statement is proved here. -/
import Derived.Test.YtmfipabbdhfmcaaChecked
import Derived.Below
import Derived.Handy
import Derived.Deep.QuietTactic
namespace Go.Proofs.Ytmfipabbdhfmcaa
open Go.RowKit
set_option linter.unusedVariables false

theorem new_cell {w : World} {vs : Array Value} {t : TypeId} {v : Value} (h : vs[0]? = some v) (B : Nat) (hB : B = w.heap.size) :
    (w.alloc (.cells vs t)).cell? ⟨B, 0, none⟩ = some v ∧ (w.alloc (.cells vs t)).frozen? ⟨B, 0, none⟩ = false := by
  subst hB
  exact ⟨by simp [h], by simp⟩
theorem old_cell {w : World} {o : Obj} {B : Nat} {v : Value} (h : w.cell? ⟨B, 0, none⟩ = some v ∧ w.frozen? ⟨B, 0, none⟩ = false) (hB : B < w.heap.size) :
    (w.alloc o).cell? ⟨B, 0, none⟩ = some v ∧ (w.alloc o).frozen? ⟨B, 0, none⟩ = false := by
  have hb := (Below.refl w.heap.size w).alloc (Nat.le_refl _) o
  exact ⟨(hb.cell (p := ⟨B, 0, none⟩) hB).trans h.1, (hb.frozen (p := ⟨B, 0, none⟩) hB).trans h.2⟩
/-- Below block number B, and but for block wb, the world is as it was. -/
structure Off (B wb : Nat) (w w' : World) : Prop where
  os : w'.os = w.os
  tape : w'.tape = w.tape
  output : w'.output = w.output
  size : w.heap.size ≤ w'.heap.size
  block : ∀ k, k < B → k ≠ wb → w'.heap[k]? = w.heap[k]?
section
variable {B wb : Nat} {a b c w w' : World}
theorem Off.refl (B wb : Nat) (w : World) : Off B wb w w := ⟨rfl, rfl, rfl, Nat.le_refl _, fun _ _ _ => rfl⟩
theorem Off.trans (h : Off B wb a b) (k : Off B wb b c) : Off B wb a c :=
  ⟨k.os.trans h.os, k.tape.trans h.tape, k.output.trans h.output, Nat.le_trans h.size k.size, fun i hi hn => (k.block i hi hn).trans (h.block i hi hn)⟩
theorem Off.mono (h : Off B wb w w') {B' : Nat} (hB : B' ≤ B) : Off B' wb w w' := ⟨h.os, h.tape, h.output, h.size, fun k hk hn => h.block k (by omega) hn⟩
theorem Off.drew (h : Off B wb a w) : Off B wb a w.drew := ⟨h.os, h.tape, h.output, h.size, h.block⟩
theorem Off.drewN (h : Off B wb a w) (n : Nat) : Off B wb a (w.drewN n) := ⟨h.os, h.tape, h.output, h.size, h.block⟩
theorem Off.of_below (h : Below B w w') : Off B wb w w' := ⟨h.os, h.tape, h.output, h.size, fun k hk _ => h.block k hk⟩
theorem Off.below (h : Off B wb w w') {B' : Nat} (hB : B' ≤ B) (hw : B' ≤ wb) : Below B' w w' := ⟨h.os, h.tape, h.output, h.size, fun k hk => h.block k (by omega) (by omega)⟩
theorem Off.alloc (h : Off B wb a w) (hB : B ≤ w.heap.size) (o : Obj) : Off B wb a (w.alloc o) := h.trans (Off.of_below ((Below.refl B w).alloc hB o))
theorem Off.setCell (h : Off B wb a w) {p : Addr} (hp : B ≤ p.block ∨ p.block = wb) (u : Value) : Off B wb a (w.setCell p u) :=
  h.trans ⟨rfl, rfl, rfl, by simp [World.setCell], fun k hk hn => Below.heap_setCell _ _ _ _ (by omega)⟩
theorem Off.cell (h : Off B wb w w') {p : Addr} (hp : p.block < B) (hn : p.block ≠ wb) : w'.cell? p = w.cell? p := World.cell?_of_block (w := w) (h.block p.block hp hn)
theorem Off.frozen (h : Off B wb w w') {p : Addr} (hp : p.block < B) (hn : p.block ≠ wb) : w'.frozen? p = w.frozen? p := World.frozen?_of_block (w := w) (h.block p.block hp hn)
theorem Off.step (h : Off a.heap.size wb a b) (k : Off b.heap.size wb b c) : Off a.heap.size wb a c := h.trans (k.mono h.size)
end
end Go.Proofs.Ytmfipabbdhfmcaa
