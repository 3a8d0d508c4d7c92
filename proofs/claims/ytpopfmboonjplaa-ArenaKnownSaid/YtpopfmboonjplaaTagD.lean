/- Contracts of layer tags: Count, Any, Clear. No statement is proved here. -/
import Derived.Test.YtpopfmboonjplaaTagC
namespace Go.Proofs.Ytpopfmboonjplaa
open Go.RowKit Go.Shelf
set_option linter.unusedVariables false
attribute [local go_sem] Oper.semAt_some

theorem words_stops (m : Nat) (hm : 1 ≤ m) (b wb n c : Nat) (A B : Int) (lo hi : Nat) (hlo : A = lo) (hhi : B.toNat = hi) (hB : B ≤ n) (hn : n ≤ 1048576) (w : World) (H : PartsAt w b wb n c A B) (hb : b < w.heap.size) (hc : c + 1 + 1 < w.heap.size) :
    SeqStopsK Fence.wide m Try.prog 90 #[.pointer (some ⟨c + 1, 0, none⟩), .pointer (some ⟨c + 1 + 1, 0, none⟩), .pointer (some ⟨c, 0, none⟩)] (encW wb n lo hi) (KpW b c)
      (fun xs => (hi ≤ lo ∧ xs = []) ∨ (lo < hi ∧ xs.map (fun x => x.val) = (List.range ((hi - 1) / 64 - lo / 64 + 1)).map (lo / 64 + ·)))
      (fun pre => lo < hi ∧ ∃ k, k ≤ (hi - 1) / 64 - lo / 64 + 1 ∧ pre.map (fun x => x.val) = (List.range k).map (lo / 64 + ·)) ((n + 63) / 64) w := fun l J Jx W hW hJ hJx hY h0 => by
  have H' : PartsAt W b wb n c A B := H.keep (fun k hk => hW.block k (by rcases hk with rfl | rfl | rfl | rfl <;> omega))
  by_cases h : B ≤ A
  · exact (words_none m l b wb n c A B h W J H' h0).mono fun e W' ⟨he, hj⟩ => ⟨he, .inl ⟨_, .inl ⟨by omega, rfl⟩, hj⟩⟩
  · have e2 : B = (hi : Int) := by omega
    rw [hlo, e2] at H'
    refine (words_in m hm l b wb n c lo hi (by omega) (by omega) hn J Jx hY W H' h0 (fun pre W hs => hJ _ _ _ none hs ⟨rfl, rfl, rfl, Nat.le_refl _, fun _ _ _ => rfl⟩ (fun r e => by cases e))).mono ?_
    rintro e W' ⟨he, ⟨ys, hs, hj⟩ | ⟨pre, hs, hj⟩⟩
    · exact ⟨he, .inl ⟨ys, .inr ⟨by omega, hs⟩, hj⟩⟩
    · exact ⟨he, .inr ⟨pre, ⟨by omega, hs⟩, hj⟩⟩

section
variable {W W' : World} {b wb n : Nat} {f : Nat → Bool} {row : Option Nat}
theorem MapAt.kept (h : MapAt W b wb n f) (hg : W.grownBy W' row) (hr : ∀ r, row = some r → ∃ o : Obj, W.heap[r]? = some o ∧ o.isCells = false) : MapAt W' b wb n f :=
  ⟨cell_kept h.h0 hg hr, cell_kept h.h1 hg hr, cell_kept h.h2 hg hr, fun i hi => ⟨cell_kept (h.ws i hi).1 hg hr, (frozen_kept (h.ws i hi).1 hg hr).trans (h.ws i hi).2⟩, h.ne, Nat.lt_of_lt_of_le h.lb hg.size, Nat.lt_of_lt_of_le h.lw hg.size, h.off, h.le⟩
theorem ownFrom_off {β : Type} {n₀ B : Nat} {w₀ : World} (hn : n₀ ≤ w₀.heap.size) (hB : n₀ ≤ B) : OwnFrom B (fun (_ : β) W => Off n₀ wb w₀ W) :=
  fun _ _ _ _ hs hg hr => hs.trans ⟨hg.os, hg.tape, hg.output, hg.size, fun k hk hkn => hg.block k (by have := hs.size; omega) (fun e => by have := (hr k e.symm).1; omega)⟩
end

/-- What a count holds between two rounds. -/
structure CountI (w : World) (b wb n : Nat) (f : Nat → Bool) (W : World) (v : Nat) : Prop where
  c : W.cell? ⟨w.heap.size, 0, none⟩ = some (.int .i64 v)
  fr : W.frozen? ⟨w.heap.size, 0, none⟩ = false
  m : MapAt W b wb n f
theorem CountI.kept {w : World} {b wb n : Nat} {f : Nat → Bool} {W W' : World} {v : Nat} {row : Option Nat} (h : CountI w b wb n f W v) (hg : W.grownBy W' row) (hr : ∀ r, row = some r → ∃ o : Obj, W.heap[r]? = some o ∧ o.isCells = false) : CountI w b wb n f W' v :=
  ⟨cell_kept h.c hg hr, (frozen_kept h.c hg hr).trans h.fr, h.m.kept hg hr⟩

end Go.Proofs.Ytpopfmboonjplaa
