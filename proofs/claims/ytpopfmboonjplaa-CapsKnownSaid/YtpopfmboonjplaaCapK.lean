/- Words for a capability in a box: stored whole, made, kept. Plain lemmas; no statement is proved here. -/
import Derived.Test.YtpopfmboonjplaaCapS
namespace Go.Proofs.Ytpopfmboonjplaa
open Go.RowKit
set_option linter.unusedVariables false

theorem setRow_frozen (b : Nat) : ∀ (vs : List Value) (i : Nat) (w : World) (q : Addr), (setRow b i vs w).frozen? q = w.frozen? q
  | [], i, w, q => rfl
  | v :: vs, i, w, q => by rw [setRow, setRow_frozen b vs, World.frozen?_setCell]
theorem setRow_size (b : Nat) : ∀ (vs : List Value) (i : Nat) (w : World), (setRow b i vs w).heap.size = w.heap.size
  | [], i, w => rfl
  | v :: vs, i, w => by rw [setRow, setRow_size b vs, World.size_setCell]
theorem setRow_other (b : Nat) : ∀ (vs : List Value) (i : Nat) (w : World) (q : Addr), q.block ≠ b → (setRow b i vs w).cell? q = w.cell? q
  | [], i, w, q, h => rfl
  | v :: vs, i, w, q, h => by
    rw [setRow, setRow_other b vs _ _ _ h]
    exact World.cell?_setCell_other _ _ _ _ (fun e => h (by rw [← e]))
theorem setRow_below {B : Nat} {a : World} (b : Nat) (hb : B ≤ b) : ∀ (vs : List Value) (i : Nat) (w : World), Below B a w → Below B a (setRow b i vs w)
  | [], i, w, h => h
  | v :: vs, i, w, h => setRow_below b hb vs _ _ (h.setCell hb _)
/-- A whole capability is stored. -/
theorem CapAt.store {w : World} {bx cu e b t pm ty rs : Nat} {va : Bool} (cu' e' b' t' pm' ty' rs' : Nat) (va' : Bool) (h : CapAt w bx cu e b t pm ty rs va) :
    CapAt (setRow bx 0 [.int .u32 cu', .int .u8 e', .int .u16 b', .int .u16 t', .int .u16 pm', .int .u16 ty', .int .u32 rs', .bool va'] w) bx cu' e' b' t' pm' ty' rs' va' := by
  have hc8 : ∀ j u, [Value.int .u32 cu', .int .u8 e', .int .u16 b', .int .u16 t', .int .u16 pm', .int .u16 ty', .int .u32 rs', .bool va'][j]? = some u → (setRow bx 0 [.int .u32 cu', .int .u8 e', .int .u16 b', .int .u16 t', .int .u16 pm', .int .u16 ty', .int .u32 rs', .bool va'] w).cell? ⟨bx, j, none⟩ = some u := fun j u hu => by
    have := setRow_cell bx [.int .u32 cu', .int .u8 e', .int .u16 b', .int .u16 t', .int .u16 pm', .int .u16 ty', .int .u32 rs', .bool va'] 0 j u w (fun j' hj' => by
      rw [Nat.zero_add]
      have : j' = 0 ∨ j' = 1 ∨ j' = 2 ∨ j' = 3 ∨ j' = 4 ∨ j' = 5 ∨ j' = 6 ∨ j' = 7 := by simp at hj'; omega
      rcases this with rfl | rfl | rfl | rfl | rfl | rfl | rfl | rfl <;> simp [h.q0, h.q1, h.q2, h.q3, h.q4, h.q5, h.q6, h.q7]) hu
    rwa [Nat.zero_add] at this
  exact ⟨hc8 0 _ rfl, hc8 1 _ rfl, hc8 2 _ rfl, hc8 3 _ rfl, hc8 4 _ rfl, hc8 5 _ rfl, hc8 6 _ rfl, hc8 7 _ rfl⟩
theorem CapAt.make (w : World) (cu e b t pm ty rs : Nat) (va : Bool) : CapAt (w.alloc (.cells #[.int .u32 cu, .int .u8 e, .int .u16 b, .int .u16 t, .int .u16 pm, .int .u16 ty, .int .u32 rs, .bool va] 25)) w.heap.size cu e b t pm ty rs va :=
  ⟨by simp [go_sem], by simp [go_sem], by simp [go_sem], by simp [go_sem], by simp [go_sem], by simp [go_sem], by simp [go_sem], by simp [go_sem]⟩
theorem CapAt.drew {w : World} {bx cu e b t pm ty rs : Nat} {va : Bool} (h : CapAt w bx cu e b t pm ty rs va) : CapAt w.drew bx cu e b t pm ty rs va := ⟨h.q0, h.q1, h.q2, h.q3, h.q4, h.q5, h.q6, h.q7⟩
theorem CapAt.other {w : World} {bx g cu e b t pm ty rs : Nat} {va : Bool} (h : CapAt w bx cu e b t pm ty rs va) (hg : bx ≠ g) (vs : List Value) : CapAt (setRow g 0 vs w) bx cu e b t pm ty rs va :=
  ⟨(setRow_other _ _ _ _ _ hg).trans h.q0, (setRow_other _ _ _ _ _ hg).trans h.q1, (setRow_other _ _ _ _ _ hg).trans h.q2, (setRow_other _ _ _ _ _ hg).trans h.q3, (setRow_other _ _ _ _ _ hg).trans h.q4, (setRow_other _ _ _ _ _ hg).trans h.q5, (setRow_other _ _ _ _ _ hg).trans h.q6, (setRow_other _ _ _ _ _ hg).trans h.q7⟩
end Go.Proofs.Ytpopfmboonjplaa
