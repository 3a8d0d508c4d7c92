/- Contracts of layer tags: Any. No statement is proved here. -/
import Derived.Test.YtmfipabbdhfmcaaTagD
namespace Go.Proofs.Ytmfipabbdhfmcaa
open Go.RowKit Go.Shelf
set_option linter.unusedVariables false
attribute [local go_sem] Oper.semAt_some

/-- What a look holds between two rounds: nothing is set in the words that came. -/
structure AnyI (w : World) (b wb n lo hi : Nat) (f : Nat → Bool) (l : List Nat) (W : World) : Prop where
  c : W.cell? ⟨w.heap.size, 0, none⟩ = some (.bool false)
  fr : W.frozen? ⟨w.heap.size, 0, none⟩ = false
  m : MapAt W b wb n f
  off : ∀ i ∈ l, ∀ j, j < 64 → (f (64 * i + j) && inr lo hi (64 * i + j)) = false
theorem AnyI.kept {w : World} {b wb n lo hi : Nat} {f : Nat → Bool} {l : List Nat} {W W' : World} {row : Option Nat} (h : AnyI w b wb n lo hi f l W) (hg : W.grownBy W' row) (hr : ∀ r, row = some r → ∃ o : Obj, W.heap[r]? = some o ∧ o.isCells = false) : AnyI w b wb n lo hi f l W' :=
  ⟨cell_kept h.c hg hr, (frozen_kept h.c hg hr).trans h.fr, h.m.kept hg hr, h.off⟩
/-- A round has left: something is set. -/
structure AnyX (w : World) (lo hi n : Nat) (f : Nat → Bool) (c : Code) (W : World) : Prop where
  ret : c = .ret
  c : W.cell? ⟨w.heap.size, 0, none⟩ = some (.bool true)
  pos : 0 < cnt (fun k => f k && inr lo hi k) n
theorem AnyX.kept {w : World} {lo hi n : Nat} {f : Nat → Bool} {c : Code} {W W' : World} {row : Option Nat} (h : AnyX w lo hi n f c W) (hg : W.grownBy W' row) (hr : ∀ r, row = some r → ∃ o : Obj, W.heap[r]? = some o ∧ o.isCells = false) : AnyX w lo hi n f c W' :=
  ⟨h.ret, cell_kept h.c hg hr, h.pos⟩

end Go.Proofs.Ytmfipabbdhfmcaa
