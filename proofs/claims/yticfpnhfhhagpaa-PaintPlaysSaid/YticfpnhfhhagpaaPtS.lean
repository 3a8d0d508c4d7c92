/- A paint, and a row of bools beside it. Plain lemmas. -/
import Derived.Test.YticfpnhfhhagpaaPtW
import Derived.Test.YticfpnhfhhagpaaPtM
namespace Go.Proofs.Yticfpnhfhhagpaa
set_option maxRecDepth 100000
open Go.RowKit Go.Shelf
set_option linter.unusedVariables false
/-- At block q stand m bools, as h tells. -/
structure BA (W : World) (q m : Nat) (h : Nat → Bool) : Prop where
  cs : ∀ i, i < m → W.cell? ⟨q, i, none⟩ = some (.bool (h i)) ∧ W.frozen? ⟨q, i, none⟩ = false
section
variable {W W' : World} {q m : Nat} {h g : Nat → Bool}
theorem BA.keep (H : BA W q m h) (hk : W'.heap[q]? = W.heap[q]?) : BA W' q m h :=
  ⟨fun i hi => ⟨(World.cell?_of_block hk).trans (H.cs i hi).1, (World.frozen?_of_block hk).trans (H.cs i hi).2⟩⟩
theorem BA.congr (H : BA W q m h) (e : ∀ k, k < m → h k = g k) : BA W q m g := ⟨fun i hi => e i hi ▸ H.cs i hi⟩
theorem BA.store (H : BA W q m h) {a : Nat} (ha : a < m) (v : Bool) : BA (W.setCell ⟨q, a, none⟩ (.bool v)) q m (upd h a v) := by
  refine ⟨fun i hi => ⟨?_, (World.frozen?_setCell _ _ _ _).trans (H.cs i hi).2⟩⟩
  unfold upd
  by_cases e : i = a
  · subst e
    rw [if_pos rfl]
    exact World.cell?_setCell_same' _ _ _ (by rw [(H.cs i hi).1]; rfl)
  · rw [if_neg e, World.cell?_setCell_other _ _ _ _ (fun e' => e (by simpa using (congrArg Addr.off e').symm))]
    exact (H.cs i hi).1
theorem BA.zero (W : World) (m : Nat) (t : TypeId) : BA (W.alloc (.cells (Array.replicate m (.bool false)) t)) W.heap.size m (fun _ => false) := ⟨fun i hi => by
  constructor
  · simp [hi]
  · simp⟩
end
/-- A paint of 64 granules, and 72 bools beside it. -/
structure SA (W : World) (p b wb qh : Nat) (f h : Nat → Bool) (w : World) : Prop where
  k : TK W p b wb 64 f w
  a : BA w qh 72 h
  o : p < qh ∧ b < qh ∧ wb < qh
  l : qh < w.heap.size
section
variable {W w w' : World} {p b wb qh : Nat} {f g h h' : Nat → Bool} {v : Value} {e : Ending}
theorem SA.hw (S : SA W p b wb qh f h w) : W.heap.size ≤ qh := by have := S.k.hw; have := S.o; omega
theorem SA.below (S : SA W p b wb qh f h w) (hb : Below w.heap.size w w') : SA W p b wb qh f h w' :=
  ⟨S.k.grow hb, S.a.keep (hb.block qh S.l), S.o, Nat.lt_of_lt_of_le S.l hb.size⟩
theorem SA.post (S : SA W p b wb qh f h w) (H : PtPost p b wb 64 g v w e w') : e = .returned v ∧ SA W p b wb qh g h w' :=
  ⟨H.1, (S.k.post H).2, S.a.keep (H.2.2.block qh S.l (by have := S.o; omega)), S.o, Nat.lt_of_lt_of_le S.l H.2.2.size⟩
theorem SA.congr (S : SA W p b wb qh f h w) (e1 : ∀ k, k < 72 → h k = h' k) : SA W p b wb qh f h' w := ⟨S.k, S.a.congr e1, S.o, S.l⟩
theorem SA.set (S : SA W p b wb qh f h w) {a : Nat} (ha : a < 72) (x : Bool) : SA W p b wb qh f (upd h a x) (w.setCell ⟨qh, a, none⟩ (.bool x)) := by
  have h1 := S.o
  have o : Off w.heap.size qh w (w.setCell ⟨qh, a, none⟩ (.bool x)) := (Off.refl w.heap.size qh w).setCell (p := ⟨qh, a, none⟩) (.inr rfl) (.bool x)
  have m : MapAt (w.setCell ⟨qh, a, none⟩ (.bool x)) b wb 64 f := S.k.pt.m.setOther (p := ⟨qh, a, none⟩) (by show qh ≠ b; omega) (by show qh ≠ wb; omega) _
  exact ⟨⟨⟨(o.cell (p := ⟨p, 0, none⟩) S.k.pt.lp (by show p ≠ qh; omega)).trans S.k.pt.c0, m, S.k.pt.ne, Nat.lt_of_lt_of_le S.k.pt.lp o.size⟩, S.k.bel.trans (o.below S.k.bel.size S.hw), S.k.hw⟩, S.a.store ha x, S.o, Nat.lt_of_lt_of_le S.l o.size⟩
theorem SA.start (K : TK W p b wb 64 f w) (t : TypeId) : SA W p b wb w.heap.size f (fun _ => false) (w.alloc (.cells (Array.replicate 72 (.bool false)) t)) :=
  ⟨K.grow ((Below.refl _ _).alloc (Nat.le_refl _) _), BA.zero w 72 t, ⟨K.pt.lp, K.pt.m.lb, K.pt.m.lw⟩, by simp⟩
end
/-- How far a region's granules have been asked. -/
def isJ (f : Nat → Bool) (x n : Nat) (t : Bool) (j : Nat) : Bool := decide (x + n ≤ 64) && (List.range j).all fun i => f (x + i) != t
theorem isJ_succ (f : Nat → Bool) (x n : Nat) (t : Bool) (j : Nat) : isJ f x n t (j + 1) = (isJ f x n t j && (f (x + j) != t)) := by
  unfold isJ
  rw [List.range_succ, List.all_append, Bool.and_assoc]
  simp
theorem isJ_ok (f : Nat → Bool) (x n : Nat) (t : Bool) (hn : 0 < n) : okT 64 f (16 * x) (16 * n) t = isJ f x n t n := by
  rw [Bool.eq_iff_iff, ok_iff]
  unfold isJ
  rw [Bool.and_eq_true, decide_eq_true_eq, List.all_eq_true]
  simp only [List.mem_range, bne_iff_ne]
  rw [show 16 * n / 16 = n by omega, show 16 * x / 16 = x by omega]
  constructor
  · rintro ⟨_, h⟩
    exact ⟨by have := (h (n - 1) (by omega)).1; omega, fun i hi => (h i hi).2⟩
  · rintro ⟨h1, h2⟩
    exact ⟨by omega, fun i hi => ⟨by omega, h2 i hi⟩⟩
/-- The row, some granules turned. -/
def turnJ (f : Nat → Bool) (x : Nat) (t : Bool) (j : Nat) : Nat → Bool := fun k => if x ≤ k ∧ k < x + j then t else f k
theorem turnJ_zero (f : Nat → Bool) (x : Nat) (t : Bool) (k : Nat) : f k = turnJ f x t 0 k := by unfold turnJ; rw [if_neg (by omega)]
theorem turnJ_step (f : Nat → Bool) (x : Nat) (t : Bool) (j k : Nat) : upd (turnJ f x t j) (x + j) t k = turnJ f x t (j + 1) k := by
  unfold upd turnJ
  by_cases h : k = x + j
  · rw [if_pos h, if_pos (by omega)]
  · rw [if_neg h]
    by_cases h2 : x ≤ k ∧ k < x + j
    · rw [if_pos h2, if_pos (by omega)]
    · rw [if_neg h2, if_neg (by omega)]
theorem turnJ_yes (f : Nat → Bool) (x n : Nat) (t : Bool) (h : okT 64 f (16 * x) (16 * n) t = true) (k : Nat) : turnJ f x t n k = tnF 64 f (16 * x) (16 * n) t k := by
  unfold tnF turnJ
  rw [h, if_pos rfl, show 16 * n / 16 = n by omega, show 16 * x / 16 = x by omega]
theorem tnF_no {f : Nat → Bool} {n a s : Nat} {t : Bool} (h : okT n f a s t = false) : tnF n f a s t = f := by unfold tnF; rw [h]; rfl
end Go.Proofs.Yticfpnhfhhagpaa
