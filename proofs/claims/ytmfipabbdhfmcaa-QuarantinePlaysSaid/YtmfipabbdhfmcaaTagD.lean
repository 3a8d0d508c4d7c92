/- Contracts of layer tags: Count, Any, Clear. No statement is proved here. -/
import Derived.Test.YtmfipabbdhfmcaaTagC
namespace Go.Proofs.Ytmfipabbdhfmcaa
open Go.RowKit Go.Shelf
set_option linter.unusedVariables false
attribute [local go_sem] Oper.semAt_some

section
variable {W W' : World} {b wb n : Nat} {f : Nat → Bool} {row : Option Nat}
theorem MapAt.kept (h : MapAt W b wb n f) (hg : W.grownBy W' row) (hr : ∀ r, row = some r → ∃ o : Obj, W.heap[r]? = some o ∧ o.isCells = false) : MapAt W' b wb n f :=
  ⟨cell_kept h.h0 hg hr, cell_kept h.h1 hg hr, cell_kept h.h2 hg hr, fun i hi => ⟨cell_kept (h.ws i hi).1 hg hr, (frozen_kept (h.ws i hi).1 hg hr).trans (h.ws i hi).2⟩, h.ne, Nat.lt_of_lt_of_le h.lb hg.size, Nat.lt_of_lt_of_le h.lw hg.size, h.off, h.le⟩
theorem ownFrom_off {β : Type} {n₀ B : Nat} {w₀ : World} (hn : n₀ ≤ w₀.heap.size) (hB : n₀ ≤ B) : OwnFrom B (fun (_ : β) W => Off n₀ wb w₀ W) :=
  fun _ _ _ _ hs hg hr => hs.trans ⟨hg.os, hg.tape, hg.output, hg.size, fun k hk hkn => hg.block k (by have := hs.size; omega) (fun e => by have := (hr k e.symm).1; omega)⟩
end

/-- What a count holds between two rounds. -/
structure CountI (w : World) (b wb n : Nat) (f : Nat → Bool) (W : World) (v : Nat) : Prop where
  c : W.cell? ⟨w.heap.size, 0, none⟩ = some (.int .i64 v)
  fr : W.frozen? ⟨w.heap.size, 0, none⟩ = false
  m : MapAt W b wb n f
theorem CountI.kept {w : World} {b wb n : Nat} {f : Nat → Bool} {W W' : World} {v : Nat} {row : Option Nat} (h : CountI w b wb n f W v) (hg : W.grownBy W' row) (hr : ∀ r, row = some r → ∃ o : Obj, W.heap[r]? = some o ∧ o.isCells = false) : CountI w b wb n f W' v :=
  ⟨cell_kept h.c hg hr, (frozen_kept h.c hg hr).trans h.fr, h.m.kept hg hr⟩

end Go.Proofs.Ytmfipabbdhfmcaa
