/- Contracts of layer tags: the words of a range, told one behind the other. No statement is proved here. -/
import Derived.Test.YtmfipabbdhfmcaaTagB
import Derived.Test.YtmfipabbdhfmcaaWide
import Derived.Sort.QuietIn
namespace Go.Proofs.Ytmfipabbdhfmcaa
open Go.RowKit Go.Shelf
set_option linter.unusedVariables false
attribute [local go_sem] Oper.semAt_some

/-- What the iterator reads between two rounds stands as it stood: the map's own block, and the three boxes. -/
def KpW (b c : Nat) (W W' : World) : Prop := ∀ k, k = b ∨ k = c ∨ k = c + 1 ∨ k = c + 1 + 1 → W'.heap[k]? = W.heap[k]?
theorem KpW.trans {b c : Nat} {A B C : World} (h : KpW b c A B) (k : KpW b c B C) : KpW b c A C := fun i hi => (k i hi).trans (h i hi)
theorem KpW.refl (b c : Nat) (W : World) : KpW b c W W := fun _ _ => rfl
theorem KpW.put {b c : Nat} {w : World} (hb : b < w.heap.size) (hc : c + 1 + 1 < w.heap.size) (W : World) (l : Nat) (o o' : Obj) (hl : w.heap.size ≤ l) (_ : W.heap[l]? = some o) (_ : o.isCells = false) (_ : o.isWalk = false) : KpW b c W (W.putObj l o') :=
  fun k hk => World.putObj_heap_other (by rcases hk with rfl | rfl | rfl | rfl <;> omega)
theorem KpW.set {b c : Nat} (W : World) {p : Addr} (hb : p.block ≠ b) (h0 : p.block ≠ c) (h1 : p.block ≠ c + 1) (h2 : p.block ≠ c + 1 + 1) (v : Value) : KpW b c W (W.setCell p v) :=
  fun k hk => Below.heap_setCell _ _ _ _ (by rcases hk with rfl | rfl | rfl | rfl <;> omega)
theorem KpW.drew {b c : Nat} {A B : World} (h : KpW b c A B) : KpW b c A B.drew := h

/-- The boxes of a range of words, and the map that it goes through. -/
structure PartsAt (W : World) (b wb n c : Nat) (A B : Int) : Prop where
  h0 : W.cell? ⟨b, 0, none⟩ = some (.slice (some ⟨wb, 0, none⟩) ((n + 63) / 64) ((n + 63) / 64))
  m : W.cell? ⟨c, 0, none⟩ = some (.pointer (some ⟨b, 0, none⟩))
  a : W.cell? ⟨c + 1, 0, none⟩ = some (.int .i64 A)
  b : W.cell? ⟨c + 1 + 1, 0, none⟩ = some (.int .i64 B)
theorem PartsAt.keep {W W' : World} {b wb n c : Nat} {A B : Int} (h : PartsAt W b wb n c A B) (hk : KpW b c W W') : PartsAt W' b wb n c A B :=
  ⟨(World.cell?_of_block (hk b (.inl rfl))).trans h.h0, (World.cell?_of_block (hk c (.inr (.inl rfl)))).trans h.m, (World.cell?_of_block (hk (c + 1) (.inr (.inr (.inl rfl))))).trans h.a, (World.cell?_of_block (hk (c + 1 + 1) (.inr (.inr (.inr rfl))))).trans h.b⟩

/-- The value that is handed to a round: a word's place, and which of its bits are meant. -/
def tgEnc (wb n lo hi : Nat) (x : Fin ((n + 63) / 64)) : Array Value := #[.pointer (some ⟨wb, x.val, none⟩), .int .u64 (wdo (inr lo hi) x.val : Nat)]

theorem mask_word (lo hi i : Nat) : bits BinOp.andNot .u64 (wd (fun j => decide ((j : Int) < (hi : Int) - (i : Int) * 64)) 64 : Nat) (wd (fun j => decide ((j : Int) < (lo : Int) - (i : Int) * 64)) 64 : Nat) = (wdo (inr lo hi) i : Nat) := by
  rw [andnot_wd]
  refine congrArg Nat.cast (wd_congr fun j hj => ?_)
  simp only [inr]
  rw [Bool.eq_iff_iff]
  simp
  omega

end Go.Proofs.Ytmfipabbdhfmcaa
