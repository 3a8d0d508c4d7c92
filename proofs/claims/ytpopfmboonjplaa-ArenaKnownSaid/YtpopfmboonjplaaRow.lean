/- Boxes that a call lays for itself, kept whole over draws, new blocks and calls that write nothing old: a list of rows of cells. Plain lemmas; no statement is proved here. -/
import Derived.Test.YtpopfmboonjplaaMem
import Derived.Test.YtpopfmboonjplaaRow0
import Derived.Test.YtpopfmboonjplaaCapK
import Derived.Test.YtpopfmboonjplaaCls
namespace Go.Proofs.Ytpopfmboonjplaa
open Go.RowKit
set_option linter.unusedVariables false

section
variable {W w w' : World} {L : List Rw}
/-- A whole row is stored anew. -/
theorem KR.row {g : Nat} : ∀ (us vs : List Value) (k : Nat) (w : World), KR W (⟨g, vs⟩ :: L) w → W.heap.size ≤ g → (∀ x, x ∈ L → x.g ≠ g) → k + us.length ≤ vs.length → KR W (⟨g, vs.take k ++ us ++ vs.drop (k + us.length)⟩ :: L) (setRow g k us w)
  | [], vs, k, w, h, hg, hn, hk => by simpa [setRow] using h
  | u :: us, vs, k, w, h, hg, hn, hk => by
    have h1 := h.set hg hn k u (by simp at hk; omega)
    have h2 := KR.row us (vs.set k u) (k + 1) _ h1 hg hn (by simp at hk ⊢; omega)
    rw [setRow]
    have e : (vs.set k u).take (k + 1) ++ us ++ (vs.set k u).drop (k + 1 + us.length) = vs.take k ++ (u :: us) ++ vs.drop (k + (u :: us).length) := by
      rw [List.drop_set_of_lt (by omega), List.take_add_one, List.getElem?_set_self (by simp at hk; omega), List.take_set_of_le (Nat.le_refl _)]
      simp [Nat.add_comm, Nat.add_left_comm]
    rw [e] at h2
    exact h2
theorem KR.whole {g : Nat} {vs : List Value} (us : List Value) (h : KR W (⟨g, vs⟩ :: L) w) (hg : W.heap.size ≤ g) (hn : ∀ x, x ∈ L → x.g ≠ g) (hl : us.length = vs.length) : KR W (⟨g, us⟩ :: L) (setRow g 0 us w) := by
  have := KR.row us vs 0 w h hg hn (by omega)
  rwa [Nat.zero_add, List.take_zero, List.nil_append, List.drop_eq_nil_of_le (by omega), List.append_nil] at this
/-- A capability's row. -/
def cv (cu e b t pm ty rs : Nat) (va : Bool) : List Value := [.int .u32 cu, .int .u8 e, .int .u16 b, .int .u16 t, .int .u16 pm, .int .u16 ty, .int .u32 rs, .bool va]
theorem KR.cap (h : KR W L w) {g : Nat} {cu e b t pm ty rs : Nat} {va : Bool} (hx : (⟨g, cv cu e b t pm ty rs va⟩ : Rw) ∈ L) : CapAt w g cu e b t pm ty rs va :=
  ⟨h.cell _ hx rfl, h.cell _ hx rfl, h.cell _ hx rfl, h.cell _ hx rfl, h.cell _ hx rfl, h.cell _ hx rfl, h.cell _ hx rfl, h.cell _ hx rfl⟩
/-- Eight stores into a block of none of the rows. -/
theorem KR.far8 (h : KR W L w) {g : Nat} (hg : W.heap.size ≤ g) (hn : ∀ x, x ∈ L → x.g ≠ g) (u0 u1 u2 u3 u4 u5 u6 u7 : Value) :
    KR W L ((((((((w.setCell ⟨g, 0, none⟩ u0).setCell ⟨g, 1, none⟩ u1).setCell ⟨g, 2, none⟩ u2).setCell ⟨g, 3, none⟩ u3).setCell ⟨g, 4, none⟩ u4).setCell ⟨g, 5, none⟩ u5).setCell ⟨g, 6, none⟩ u6).setCell ⟨g, 7, none⟩ u7) :=
  (((((((h.far hg hn _ _).far hg hn _ _).far hg hn _ _).far hg hn _ _).far hg hn _ _).far hg hn _ _).far hg hn _ _).far hg hn _ _
/-- The rows lie, and beside them a box of eight cells for a result. -/
structure KS (W : World) (g : Nat) (L : List Rw) (w : World) : Prop where
  k : KR W L w
  r : ∃ v0 v1 v2 v3 v4 v5 v6 v7, (⟨g, [v0, v1, v2, v3, v4, v5, v6, v7]⟩ : Rw).at w
  hg : W.heap.size ≤ g
  hn : ∀ x, x ∈ L → x.g ≠ g
theorem KS.of {g : Nat} {cu e b t pm ty rs : Nat} {va : Bool} (h : KR W (⟨g, cv cu e b t pm ty rs va⟩ :: L) w) (hg : W.heap.size ≤ g) (hn : ∀ x, x ∈ L → x.g ≠ g) : KS W g L w :=
  ⟨h.sub fun _ hx => List.mem_cons_of_mem _ hx, ⟨_, _, _, _, _, _, _, _, h.al _ (List.mem_cons_self ..)⟩, hg, hn⟩
theorem KS.whole {g : Nat} (h : KS W g L w) : ∃ v0 v1 v2 v3 v4 v5 v6 v7, KR W (⟨g, [v0, v1, v2, v3, v4, v5, v6, v7]⟩ :: L) w :=
  let ⟨v0, v1, v2, v3, v4, v5, v6, v7, hr⟩ := h.r
  ⟨v0, v1, v2, v3, v4, v5, v6, v7, h.k.bl, fun x hx => by
    rcases List.mem_cons.1 hx with rfl | hx
    · exact hr
    · exact h.k.al x hx⟩
theorem KS.below {g : Nat} (h : KS W g L w) (k : Below w.heap.size w w') : KS W g L w' :=
  let ⟨v0, v1, v2, v3, v4, v5, v6, v7, hr⟩ := h.whole
  ⟨h.k.below k, ⟨v0, v1, v2, v3, v4, v5, v6, v7, (hr.below k).al _ (List.mem_cons_self ..)⟩, h.hg, h.hn⟩
theorem KS.drew {g : Nat} (h : KS W g L w) : KS W g L w.drew := h.below (Below.refl _ _).drew
theorem KS.alloc {g : Nat} (h : KS W g L w) (ob : Obj) : KS W g L (w.alloc ob) := h.below ((Below.refl _ _).alloc (Nat.le_refl _) ob)
theorem KS.cells {g : Nat} (h : KS W g L w) : ∃ v0 v1 v2 v3 v4 v5 v6 v7, w.cell? ⟨g, 0, none⟩ = some v0 ∧ w.cell? ⟨g, 1, none⟩ = some v1 ∧ w.cell? ⟨g, 2, none⟩ = some v2 ∧ w.cell? ⟨g, 3, none⟩ = some v3 ∧ w.cell? ⟨g, 4, none⟩ = some v4 ∧ w.cell? ⟨g, 5, none⟩ = some v5 ∧ w.cell? ⟨g, 6, none⟩ = some v6 ∧ w.cell? ⟨g, 7, none⟩ = some v7 ∧ ∀ j, w.frozen? ⟨g, j, none⟩ = false :=
  let ⟨v0, v1, v2, v3, v4, v5, v6, v7, hr⟩ := h.r
  ⟨v0, v1, v2, v3, v4, v5, v6, v7, hr.2.2 0 _ rfl, hr.2.2 1 _ rfl, hr.2.2 2 _ rfl, hr.2.2 3 _ rfl, hr.2.2 4 _ rfl, hr.2.2 5 _ rfl, hr.2.2 6 _ rfl, hr.2.2 7 _ rfl, hr.2.1⟩
theorem KS.store {g : Nat} (h : KS W g L w) (cu e b t pm ty rs : Nat) (va : Bool) : KR W (⟨g, cv cu e b t pm ty rs va⟩ :: L) (setRow g 0 (cv cu e b t pm ty rs va) w) :=
  let ⟨v0, v1, v2, v3, v4, v5, v6, v7, hr⟩ := h.whole
  hr.whole (cv cu e b t pm ty rs va) h.hg h.hn rfl
theorem KS.store8 {g : Nat} (h : KS W g L w) (cu e b t pm ty rs : Nat) (va : Bool) :
    KS W g L ((((((((w.setCell ⟨g, 0, none⟩ (.int .u32 cu)).setCell ⟨g, 1, none⟩ (.int .u8 e)).setCell ⟨g, 2, none⟩ (.int .u16 b)).setCell ⟨g, 3, none⟩ (.int .u16 t)).setCell ⟨g, 4, none⟩ (.int .u16 pm)).setCell ⟨g, 5, none⟩ (.int .u16 ty)).setCell ⟨g, 6, none⟩ (.int .u32 rs)).setCell ⟨g, 7, none⟩ (.bool va)) :=
  KS.of (h.store cu e b t pm ty rs va) h.hg h.hn
end
/-- A capability's cells, as rules for all worlds of a class. -/
theorem cls_cap {S : World → Prop} {bx cu e b t pm ty rs : Nat} {va : Bool} (h : ∀ w, S w → CapAt w bx cu e b t pm ty rs va) :
    (∀ y : Wd S, y.w.cell? ⟨bx, 0, none⟩ = some (.int .u32 cu)) ∧ (∀ y : Wd S, y.w.cell? ⟨bx, 1, none⟩ = some (.int .u8 e)) ∧ (∀ y : Wd S, y.w.cell? ⟨bx, 2, none⟩ = some (.int .u16 b)) ∧ (∀ y : Wd S, y.w.cell? ⟨bx, 3, none⟩ = some (.int .u16 t)) ∧ (∀ y : Wd S, y.w.cell? ⟨bx, 4, none⟩ = some (.int .u16 pm)) ∧ (∀ y : Wd S, y.w.cell? ⟨bx, 5, none⟩ = some (.int .u16 ty)) ∧ (∀ y : Wd S, y.w.cell? ⟨bx, 6, none⟩ = some (.int .u32 rs)) ∧ (∀ y : Wd S, y.w.cell? ⟨bx, 7, none⟩ = some (.bool va)) :=
  ⟨fun y => (h _ y.h).q0, fun y => (h _ y.h).q1, fun y => (h _ y.h).q2, fun y => (h _ y.h).q3, fun y => (h _ y.h).q4, fun y => (h _ y.h).q5, fun y => (h _ y.h).q6, fun y => (h _ y.h).q7⟩
end Go.Proofs.Ytpopfmboonjplaa
