/- Two boxes for results beside kept rows. Plain lemmas; no statement is proved here. -/
import Derived.Test.YthniimefocjamaaRow
namespace Go.Proofs.Ythniimefocjamaa
open Go.RowKit
set_option linter.unusedVariables false

section
variable {W w w' : World} {L : List Rw}
/-- Eight cells and their marks. -/
theorem KR.cells8 (h : KR W L w) {g : Nat} {v0 v1 v2 v3 v4 v5 v6 v7 : Value} (hx : (⟨g, [v0, v1, v2, v3, v4, v5, v6, v7]⟩ : Rw) ∈ L) : w.cell? ⟨g, 0, none⟩ = some v0 ∧ w.cell? ⟨g, 1, none⟩ = some v1 ∧ w.cell? ⟨g, 2, none⟩ = some v2 ∧ w.cell? ⟨g, 3, none⟩ = some v3 ∧ w.cell? ⟨g, 4, none⟩ = some v4 ∧ w.cell? ⟨g, 5, none⟩ = some v5 ∧ w.cell? ⟨g, 6, none⟩ = some v6 ∧ w.cell? ⟨g, 7, none⟩ = some v7 ∧ ∀ j, w.frozen? ⟨g, j, none⟩ = false :=
  have hr := h.al _ hx
  ⟨hr.2.2 0 _ rfl, hr.2.2 1 _ rfl, hr.2.2 2 _ rfl, hr.2.2 3 _ rfl, hr.2.2 4 _ rfl, hr.2.2 5 _ rfl, hr.2.2 6 _ rfl, hr.2.2 7 _ rfl, hr.2.1⟩
/-- The rows lie, and beside them two boxes of eight cells for results. -/
structure KT (W : World) (g h : Nat) (L : List Rw) (w : World) : Prop where
  r : ∃ v0 v1 v2 v3 v4 v5 v6 v7 u0 u1 u2 u3 u4 u5 u6 u7, KR W (⟨g, [v0, v1, v2, v3, v4, v5, v6, v7]⟩ :: ⟨h, [u0, u1, u2, u3, u4, u5, u6, u7]⟩ :: L) w
  hg : W.heap.size ≤ g
  hh : W.heap.size ≤ h
  ne : g ≠ h
  ng : ∀ x, x ∈ L → x.g ≠ g
  nh : ∀ x, x ∈ L → x.g ≠ h
theorem KT.k {g h : Nat} (k : KT W g h L w) : KR W L w := let ⟨_, _, _, _, _, _, _, _, _, _, _, _, _, _, _, _, hr⟩ := k.r; hr.sub fun _ hx => List.mem_cons_of_mem _ (List.mem_cons_of_mem _ hx)
theorem KT.below {g h : Nat} (k : KT W g h L w) (b : Below w.heap.size w w') : KT W g h L w' := let ⟨v0, v1, v2, v3, v4, v5, v6, v7, u0, u1, u2, u3, u4, u5, u6, u7, hr⟩ := k.r; ⟨⟨v0, v1, v2, v3, v4, v5, v6, v7, u0, u1, u2, u3, u4, u5, u6, u7, hr.below b⟩, k.hg, k.hh, k.ne, k.ng, k.nh⟩
theorem KT.drew {g h : Nat} (k : KT W g h L w) : KT W g h L w.drew := k.below (Below.refl _ _).drew
theorem KT.alloc {g h : Nat} (k : KT W g h L w) (ob : Obj) : KT W g h L (w.alloc ob) := k.below ((Below.refl _ _).alloc (Nat.le_refl _) ob)
theorem KT.swap {g h : Nat} (k : KT W g h L w) : KT W h g L w := let ⟨v0, v1, v2, v3, v4, v5, v6, v7, u0, u1, u2, u3, u4, u5, u6, u7, hr⟩ := k.r; ⟨⟨u0, u1, u2, u3, u4, u5, u6, u7, v0, v1, v2, v3, v4, v5, v6, v7, hr.swap⟩, k.hh, k.hg, Ne.symm k.ne, k.nh, k.ng⟩
theorem KT.store1 {g h : Nat} (k : KT W g h L w) (cu e b t pm ty rs : Nat) (va : Bool) : KT W g h L ((((((((w.setCell ⟨g, 0, none⟩ (.int .u32 cu)).setCell ⟨g, 1, none⟩ (.int .u8 e)).setCell ⟨g, 2, none⟩ (.int .u16 b)).setCell ⟨g, 3, none⟩ (.int .u16 t)).setCell ⟨g, 4, none⟩ (.int .u16 pm)).setCell ⟨g, 5, none⟩ (.int .u16 ty)).setCell ⟨g, 6, none⟩ (.int .u32 rs)).setCell ⟨g, 7, none⟩ (.bool va)) :=
  let ⟨v0, v1, v2, v3, v4, v5, v6, v7, u0, u1, u2, u3, u4, u5, u6, u7, hr⟩ := k.r
  ⟨⟨_, _, _, _, _, _, _, _, u0, u1, u2, u3, u4, u5, u6, u7, hr.whole (cv cu e b t pm ty rs va) k.hg (fun x hx => by
    rcases List.mem_cons.1 hx with rfl | hx
    · exact Ne.symm k.ne
    · exact k.ng x hx) rfl⟩, k.hg, k.hh, k.ne, k.ng, k.nh⟩
theorem KT.store2 {g h : Nat} (k : KT W g h L w) (cu e b t pm ty rs : Nat) (va : Bool) : KT W g h L ((((((((w.setCell ⟨h, 0, none⟩ (.int .u32 cu)).setCell ⟨h, 1, none⟩ (.int .u8 e)).setCell ⟨h, 2, none⟩ (.int .u16 b)).setCell ⟨h, 3, none⟩ (.int .u16 t)).setCell ⟨h, 4, none⟩ (.int .u16 pm)).setCell ⟨h, 5, none⟩ (.int .u16 ty)).setCell ⟨h, 6, none⟩ (.int .u32 rs)).setCell ⟨h, 7, none⟩ (.bool va)) := (k.swap.store1 cu e b t pm ty rs va).swap
end
end Go.Proofs.Ythniimefocjamaa
