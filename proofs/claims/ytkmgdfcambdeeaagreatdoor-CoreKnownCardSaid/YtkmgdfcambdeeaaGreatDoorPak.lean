/- Boxes that a call lays for itself, kept whole over draws, new blocks and calls that write nothing old: a list of rows of cells. Plain lemmas; no statement is proved here.; Words for a capability in a box: stored whole, made, kept. Plain lemmas; no statement is proved here.; Boxes that a call lays for itself, kept whole over draws, new blocks and calls that write nothing old: a list of rows of cells. Plain lemmas; no statement is proved here.; Questions, as derive asks them: closures that tell a truth and write nothing old. Contracts of open, all and of what they make. No statement is proved here.; A region that draws its order, inside a fence that asks nothing: its head only reads (calls that leave the world alone among it), its tail comes in one order. Plain lemmas; no statement is proved here.; Contracts of layer tags: the words of a range, told one behind the other. No statement is pr -/
import Derived.Laws.NewBlocks
import Derived.Deep.LoopGhost
import Derived.StillTailTactics
import Derived.TacticsIn
import Derived.OrdersIn
import Derived.RangeFuncLeaves
import Derived.RangeFuncCalls
import Derived.Below
import Derived.Sort.QuietIn
import Derived.Laws.CopyOwn
import Derived.Deep.RegionHeld3
import Derived.Test.YtkmgdfcambdeeaaGreatDoorPaf
import Derived.Test.YtkmgdfcambdeeaaGreatDoorPad
import Derived.Test.YtkmgdfcambdeeaaGreatDoorPaj
import Derived.Test.YtkmgdfcambdeeaaGreatDoorPai
import Derived.Test.YtkmgdfcambdeeaaGreatDoorPah
import Derived.Test.YtkmgdfcambdeeaaGreatDoorPaa
import Derived.Test.YtkmgdfcambdeeaaGreatDoorPag
namespace Go.Proofs.YtkmgdfcambdeeaaGreatDoor
open Go.RowKit
set_option linter.unusedVariables false

/-- A row of cells in a block. -/
structure Rw where
  g : Nat
  vs : List Value
def Rw.at (x : Rw) (w : World) : Prop := x.g < w.heap.size ∧ (∀ j, w.frozen? ⟨x.g, j, none⟩ = false) ∧ ∀ j u, x.vs[j]? = some u → w.cell? ⟨x.g, j, none⟩ = some u
/-- The rows L lie; nothing that was there at W has changed. -/
structure KR (W : World) (L : List Rw) (w : World) : Prop where
  bl : Below W.heap.size W w
  al : ∀ x, x ∈ L → x.at w
section
variable {W w w' : World} {L : List Rw}
theorem KR.start : KR W [] W := ⟨Below.refl _ _, fun x h => by cases h⟩
theorem KR.below (h : KR W L w) (k : Below w.heap.size w w') : KR W L w' :=
  ⟨h.bl.trans (k.mono h.bl.size), fun x hx => ⟨Nat.lt_of_lt_of_le (h.al x hx).1 k.size, fun j => (k.frozen (p := ⟨x.g, j, none⟩) (h.al x hx).1).trans ((h.al x hx).2.1 j),
    fun j u hu => (k.cell (p := ⟨x.g, j, none⟩) (h.al x hx).1).trans ((h.al x hx).2.2 j u hu)⟩⟩
theorem KR.alloc (h : KR W L w) (ob : Obj) : KR W L (w.alloc ob) := h.below ((Below.refl _ _).alloc (Nat.le_refl _) ob)
theorem KR.drew (h : KR W L w) : KR W L w.drew := h.below (Below.refl _ _).drew
theorem Rw.new (w : World) (vs : List Value) (ty : TypeId) : (⟨w.heap.size, vs⟩ : Rw).at (w.alloc (.cells vs.toArray ty)) :=
  ⟨by simp, fun j => by rw [World.frozen?_alloc_at (hn := rfl)], fun j u hu => by rw [World.cell?_alloc_at (hn := rfl)]; simpa using hu⟩
theorem KR.push (h : KR W L w) (vs : List Value) (ty : TypeId) : KR W (⟨w.heap.size, vs⟩ :: L) (w.alloc (.cells vs.toArray ty)) :=
  ⟨(h.alloc _).bl, fun x hx => by
    rcases List.mem_cons.1 hx with rfl | hx
    · exact Rw.new w vs ty
    · exact (h.alloc _).al x hx⟩
theorem KR.sub {L' : List Rw} (h : KR W L w) (hs : ∀ x, x ∈ L' → x ∈ L) : KR W L' w := ⟨h.bl, fun x hx => h.al x (hs x hx)⟩
theorem KR.cell (h : KR W L w) {g j : Nat} {u : Value} (vs : List Value) (hx : (⟨g, vs⟩ : Rw) ∈ L) (hu : vs[j]? = some u) : w.cell? ⟨g, j, none⟩ = some u := (h.al _ hx).2.2 j u hu
theorem KR.soft (h : KR W L w) {g : Nat} {vs : List Value} (hx : (⟨g, vs⟩ : Rw) ∈ L) (j : Nat) : w.frozen? ⟨g, j, none⟩ = false := (h.al _ hx).2.1 j
theorem KR.lt (h : KR W L w) {g : Nat} {vs : List Value} (hx : (⟨g, vs⟩ : Rw) ∈ L) : g < w.heap.size := (h.al _ hx).1
/-- A store into a block of none of the rows. -/
theorem KR.far (h : KR W L w) {g : Nat} (hg : W.heap.size ≤ g) (hn : ∀ x, x ∈ L → x.g ≠ g) (j : Nat) (u : Value) : KR W L (w.setCell ⟨g, j, none⟩ u) :=
  ⟨h.bl.setCell hg u, fun x hx => ⟨by rw [World.size_setCell]; exact (h.al x hx).1, fun i => by rw [World.frozen?_setCell]; exact (h.al x hx).2.1 i, fun i v hv => by
    rw [World.cell?_setCell_other _ _ _ _ (fun e => hn x hx (by injection e with e _; exact e.symm))]
    exact (h.al x hx).2.2 i v hv⟩⟩
/-- A store into the first row. -/
theorem KR.set {g : Nat} {vs : List Value} (h : KR W (⟨g, vs⟩ :: L) w) (hg : W.heap.size ≤ g) (hn : ∀ x, x ∈ L → x.g ≠ g) (j : Nat) (u : Value) (hj : j < vs.length) : KR W (⟨g, vs.set j u⟩ :: L) (w.setCell ⟨g, j, none⟩ u) :=
  ⟨h.bl.setCell hg u, fun x hx => by
    rcases List.mem_cons.1 hx with rfl | hx
    · have hA := h.al _ (List.mem_cons_self ..)
      refine ⟨by rw [World.size_setCell]; exact hA.1, fun i => by rw [World.frozen?_setCell]; exact hA.2.1 i, fun i v hv => ?_⟩
      have hi : i < vs.length := by have := (List.getElem?_eq_some_iff.1 hv).1; simpa using this
      have hB := hA.2.2 i vs[i] (List.getElem?_eq_getElem hi)
      by_cases e : i = j
      · subst e
        simp only [List.getElem?_set_self hj, Option.some.injEq] at hv
        subst hv
        exact World.cell?_setCell_same' _ _ _ (by simp only at hB; rw [hB]; rfl)
      · simp only [List.getElem?_set_ne (fun k => e k.symm), List.getElem?_eq_getElem hi, Option.some.injEq] at hv
        subst hv
        rw [World.cell?_setCell_other _ _ _ _ (fun k => e (by injection k with k1 k2; exact k2.symm))]
        exact hB
    · exact ((KR.far (L := L) (h.sub fun y hy => List.mem_cons_of_mem _ hy) hg hn j u).al x hx)⟩
theorem KR.swap {a b : Rw} (h : KR W (a :: b :: L) w) : KR W (b :: a :: L) w := h.sub fun x hx => by
  rcases List.mem_cons.1 hx with rfl | hx
  · exact List.mem_cons_of_mem _ (List.mem_cons_self ..)
  · rcases List.mem_cons.1 hx with rfl | hx
    · exact List.mem_cons_self ..
    · exact List.mem_cons_of_mem _ (List.mem_cons_of_mem _ hx)
end
end Go.Proofs.YtkmgdfcambdeeaaGreatDoor
namespace Go.Proofs.YtkmgdfcambdeeaaGreatDoor
open Go.RowKit
set_option linter.unusedVariables false

theorem setRow_other (b : Nat) : ∀ (vs : List Value) (i : Nat) (w : World) (q : Addr), q.block ≠ b → (setRow b i vs w).cell? q = w.cell? q
  | [], i, w, q, h => rfl
  | v :: vs, i, w, q, h => by
    rw [setRow, setRow_other b vs _ _ _ h]
    exact World.cell?_setCell_other _ _ _ _ (fun e => h (by rw [← e]))
/-- A whole capability is stored. -/
theorem CapAt.store {w : World} {bx cu e b t pm ty rs : Nat} {va : Bool} (cu' e' b' t' pm' ty' rs' : Nat) (va' : Bool) (h : CapAt w bx cu e b t pm ty rs va) :
    CapAt (setRow bx 0 [.int .u32 cu', .int .u8 e', .int .u16 b', .int .u16 t', .int .u16 pm', .int .u16 ty', .int .u32 rs', .bool va'] w) bx cu' e' b' t' pm' ty' rs' va' := by
  have hc8 : ∀ j u, [Value.int .u32 cu', .int .u8 e', .int .u16 b', .int .u16 t', .int .u16 pm', .int .u16 ty', .int .u32 rs', .bool va'][j]? = some u → (setRow bx 0 [.int .u32 cu', .int .u8 e', .int .u16 b', .int .u16 t', .int .u16 pm', .int .u16 ty', .int .u32 rs', .bool va'] w).cell? ⟨bx, j, none⟩ = some u := fun j u hu => by
    have := setRow_cell bx [.int .u32 cu', .int .u8 e', .int .u16 b', .int .u16 t', .int .u16 pm', .int .u16 ty', .int .u32 rs', .bool va'] 0 j u w (fun j' hj' => by
      rw [Nat.zero_add]
      have : j' = 0 ∨ j' = 1 ∨ j' = 2 ∨ j' = 3 ∨ j' = 4 ∨ j' = 5 ∨ j' = 6 ∨ j' = 7 := by simp at hj'; omega
      rcases this with rfl | rfl | rfl | rfl | rfl | rfl | rfl | rfl <;> simp [h.q0, h.q1, h.q2, h.q3, h.q4, h.q5, h.q6, h.q7]) hu
    rwa [Nat.zero_add] at this
  exact ⟨hc8 0 _ rfl, hc8 1 _ rfl, hc8 2 _ rfl, hc8 3 _ rfl, hc8 4 _ rfl, hc8 5 _ rfl, hc8 6 _ rfl, hc8 7 _ rfl⟩
theorem CapAt.make (w : World) (cu e b t pm ty rs : Nat) (va : Bool) : CapAt (w.alloc (.cells #[.int .u32 cu, .int .u8 e, .int .u16 b, .int .u16 t, .int .u16 pm, .int .u16 ty, .int .u32 rs, .bool va] 25)) w.heap.size cu e b t pm ty rs va :=
  ⟨by simp [go_sem], by simp [go_sem], by simp [go_sem], by simp [go_sem], by simp [go_sem], by simp [go_sem], by simp [go_sem], by simp [go_sem]⟩
theorem CapAt.drew {w : World} {bx cu e b t pm ty rs : Nat} {va : Bool} (h : CapAt w bx cu e b t pm ty rs va) : CapAt w.drew bx cu e b t pm ty rs va := ⟨h.q0, h.q1, h.q2, h.q3, h.q4, h.q5, h.q6, h.q7⟩
theorem CapAt.other {w : World} {bx g cu e b t pm ty rs : Nat} {va : Bool} (h : CapAt w bx cu e b t pm ty rs va) (hg : bx ≠ g) (vs : List Value) : CapAt (setRow g 0 vs w) bx cu e b t pm ty rs va :=
  ⟨(setRow_other _ _ _ _ _ hg).trans h.q0, (setRow_other _ _ _ _ _ hg).trans h.q1, (setRow_other _ _ _ _ _ hg).trans h.q2, (setRow_other _ _ _ _ _ hg).trans h.q3, (setRow_other _ _ _ _ _ hg).trans h.q4, (setRow_other _ _ _ _ _ hg).trans h.q5, (setRow_other _ _ _ _ _ hg).trans h.q6, (setRow_other _ _ _ _ _ hg).trans h.q7⟩
end Go.Proofs.YtkmgdfcambdeeaaGreatDoor
namespace Go.Proofs.YtkmgdfcambdeeaaGreatDoor
open Go.RowKit
set_option linter.unusedVariables false

section
variable {W w w' : World} {L : List Rw}
/-- A whole row is stored anew. -/
theorem KR.row {g : Nat} : ∀ (us vs : List Value) (k : Nat) (w : World), KR W (⟨g, vs⟩ :: L) w → W.heap.size ≤ g → (∀ x, x ∈ L → x.g ≠ g) → k + us.length ≤ vs.length → KR W (⟨g, vs.take k ++ us ++ vs.drop (k + us.length)⟩ :: L) (setRow g k us w)
  | [], vs, k, w, h, hg, hn, hk => by simpa [setRow] using h
  | u :: us, vs, k, w, h, hg, hn, hk => by
    have h1 := h.set hg hn k u (by simp at hk; omega)
    have h2 := KR.row us (vs.set k u) (k + 1) _ h1 hg hn (by simp at hk ⊢; omega)
    rw [setRow]
    have e : (vs.set k u).take (k + 1) ++ us ++ (vs.set k u).drop (k + 1 + us.length) = vs.take k ++ (u :: us) ++ vs.drop (k + (u :: us).length) := by
      rw [List.drop_set_of_lt (by omega), List.take_add_one, List.getElem?_set_self (by simp at hk; omega), List.take_set_of_le (Nat.le_refl _)]
      simp [Nat.add_comm, Nat.add_left_comm]
    rw [e] at h2
    exact h2
theorem KR.whole {g : Nat} {vs : List Value} (us : List Value) (h : KR W (⟨g, vs⟩ :: L) w) (hg : W.heap.size ≤ g) (hn : ∀ x, x ∈ L → x.g ≠ g) (hl : us.length = vs.length) : KR W (⟨g, us⟩ :: L) (setRow g 0 us w) := by
  have := KR.row us vs 0 w h hg hn (by omega)
  rwa [Nat.zero_add, List.take_zero, List.nil_append, List.drop_eq_nil_of_le (by omega), List.append_nil] at this
/-- A capability's row. -/
def cv (cu e b t pm ty rs : Nat) (va : Bool) : List Value := [.int .u32 cu, .int .u8 e, .int .u16 b, .int .u16 t, .int .u16 pm, .int .u16 ty, .int .u32 rs, .bool va]
theorem KR.cap (h : KR W L w) {g : Nat} {cu e b t pm ty rs : Nat} {va : Bool} (hx : (⟨g, cv cu e b t pm ty rs va⟩ : Rw) ∈ L) : CapAt w g cu e b t pm ty rs va :=
  ⟨h.cell _ hx rfl, h.cell _ hx rfl, h.cell _ hx rfl, h.cell _ hx rfl, h.cell _ hx rfl, h.cell _ hx rfl, h.cell _ hx rfl, h.cell _ hx rfl⟩
/-- The rows lie, and beside them a box of eight cells for a result. -/
structure KS (W : World) (g : Nat) (L : List Rw) (w : World) : Prop where
  k : KR W L w
  r : ∃ v0 v1 v2 v3 v4 v5 v6 v7, (⟨g, [v0, v1, v2, v3, v4, v5, v6, v7]⟩ : Rw).at w
  hg : W.heap.size ≤ g
  hn : ∀ x, x ∈ L → x.g ≠ g
theorem KS.of {g : Nat} {cu e b t pm ty rs : Nat} {va : Bool} (h : KR W (⟨g, cv cu e b t pm ty rs va⟩ :: L) w) (hg : W.heap.size ≤ g) (hn : ∀ x, x ∈ L → x.g ≠ g) : KS W g L w :=
  ⟨h.sub fun _ hx => List.mem_cons_of_mem _ hx, ⟨_, _, _, _, _, _, _, _, h.al _ (List.mem_cons_self ..)⟩, hg, hn⟩
theorem KS.whole {g : Nat} (h : KS W g L w) : ∃ v0 v1 v2 v3 v4 v5 v6 v7, KR W (⟨g, [v0, v1, v2, v3, v4, v5, v6, v7]⟩ :: L) w :=
  let ⟨v0, v1, v2, v3, v4, v5, v6, v7, hr⟩ := h.r
  ⟨v0, v1, v2, v3, v4, v5, v6, v7, h.k.bl, fun x hx => by
    rcases List.mem_cons.1 hx with rfl | hx
    · exact hr
    · exact h.k.al x hx⟩
theorem KS.below {g : Nat} (h : KS W g L w) (k : Below w.heap.size w w') : KS W g L w' :=
  let ⟨v0, v1, v2, v3, v4, v5, v6, v7, hr⟩ := h.whole
  ⟨h.k.below k, ⟨v0, v1, v2, v3, v4, v5, v6, v7, (hr.below k).al _ (List.mem_cons_self ..)⟩, h.hg, h.hn⟩
theorem KS.drew {g : Nat} (h : KS W g L w) : KS W g L w.drew := h.below (Below.refl _ _).drew
theorem KS.alloc {g : Nat} (h : KS W g L w) (ob : Obj) : KS W g L (w.alloc ob) := h.below ((Below.refl _ _).alloc (Nat.le_refl _) ob)
theorem KS.cells {g : Nat} (h : KS W g L w) : ∃ v0 v1 v2 v3 v4 v5 v6 v7, w.cell? ⟨g, 0, none⟩ = some v0 ∧ w.cell? ⟨g, 1, none⟩ = some v1 ∧ w.cell? ⟨g, 2, none⟩ = some v2 ∧ w.cell? ⟨g, 3, none⟩ = some v3 ∧ w.cell? ⟨g, 4, none⟩ = some v4 ∧ w.cell? ⟨g, 5, none⟩ = some v5 ∧ w.cell? ⟨g, 6, none⟩ = some v6 ∧ w.cell? ⟨g, 7, none⟩ = some v7 ∧ ∀ j, w.frozen? ⟨g, j, none⟩ = false :=
  let ⟨v0, v1, v2, v3, v4, v5, v6, v7, hr⟩ := h.r
  ⟨v0, v1, v2, v3, v4, v5, v6, v7, hr.2.2 0 _ rfl, hr.2.2 1 _ rfl, hr.2.2 2 _ rfl, hr.2.2 3 _ rfl, hr.2.2 4 _ rfl, hr.2.2 5 _ rfl, hr.2.2 6 _ rfl, hr.2.2 7 _ rfl, hr.2.1⟩
theorem KS.store {g : Nat} (h : KS W g L w) (cu e b t pm ty rs : Nat) (va : Bool) : KR W (⟨g, cv cu e b t pm ty rs va⟩ :: L) (setRow g 0 (cv cu e b t pm ty rs va) w) :=
  let ⟨v0, v1, v2, v3, v4, v5, v6, v7, hr⟩ := h.whole
  hr.whole (cv cu e b t pm ty rs va) h.hg h.hn rfl
theorem KS.store8 {g : Nat} (h : KS W g L w) (cu e b t pm ty rs : Nat) (va : Bool) :
    KS W g L ((((((((w.setCell ⟨g, 0, none⟩ (.int .u32 cu)).setCell ⟨g, 1, none⟩ (.int .u8 e)).setCell ⟨g, 2, none⟩ (.int .u16 b)).setCell ⟨g, 3, none⟩ (.int .u16 t)).setCell ⟨g, 4, none⟩ (.int .u16 pm)).setCell ⟨g, 5, none⟩ (.int .u16 ty)).setCell ⟨g, 6, none⟩ (.int .u32 rs)).setCell ⟨g, 7, none⟩ (.bool va)) :=
  KS.of (h.store cu e b t pm ty rs va) h.hg h.hn
end
/-- A capability's cells, as rules for all worlds of a class. -/
theorem cls_cap {S : World → Prop} {bx cu e b t pm ty rs : Nat} {va : Bool} (h : ∀ w, S w → CapAt w bx cu e b t pm ty rs va) :
    (∀ y : Wd S, y.w.cell? ⟨bx, 0, none⟩ = some (.int .u32 cu)) ∧ (∀ y : Wd S, y.w.cell? ⟨bx, 1, none⟩ = some (.int .u8 e)) ∧ (∀ y : Wd S, y.w.cell? ⟨bx, 2, none⟩ = some (.int .u16 b)) ∧ (∀ y : Wd S, y.w.cell? ⟨bx, 3, none⟩ = some (.int .u16 t)) ∧ (∀ y : Wd S, y.w.cell? ⟨bx, 4, none⟩ = some (.int .u16 pm)) ∧ (∀ y : Wd S, y.w.cell? ⟨bx, 5, none⟩ = some (.int .u16 ty)) ∧ (∀ y : Wd S, y.w.cell? ⟨bx, 6, none⟩ = some (.int .u32 rs)) ∧ (∀ y : Wd S, y.w.cell? ⟨bx, 7, none⟩ = some (.bool va)) :=
  ⟨fun y => (h _ y.h).q0, fun y => (h _ y.h).q1, fun y => (h _ y.h).q2, fun y => (h _ y.h).q3, fun y => (h _ y.h).q4, fun y => (h _ y.h).q5, fun y => (h _ y.h).q6, fun y => (h _ y.h).q7⟩
end Go.Proofs.YtkmgdfcambdeeaaGreatDoor
namespace Go.Proofs.YtkmgdfcambdeeaaGreatDoor
open Go.RowKit
set_option linter.unusedVariables false

/-- A question: called in whatever world came of this one, it tells b, and writes nothing that is old. -/
def Ques (w : World) (v : Value) (b : Bool) : Prop := ∃ f caps, v = .func (.func f) #[] caps ∧ (∀ w', (callFunc f caps).run Tryz.prog w' = .ok (.enter f caps) w') ∧ ∀ w', Below w.heap.size w w' → Calls Tryz.prog f caps w' fun e w'' => e = .returned (.bool b) ∧ Below w'.heap.size w' w''
theorem Ques.below {w w1 : World} {v : Value} {b : Bool} (h : Ques w v b) (k : Below w.heap.size w w1) : Ques w1 v b :=
  let ⟨f, caps, e, cf, c⟩ := h
  ⟨f, caps, e, cf, fun w' k' => c w' (k.trans (k'.mono k.size))⟩
theorem Ques.drew {w : World} {v : Value} {b : Bool} (h : Ques w v b) : Ques w.drew v b := h.below (Below.refl _ _).drew
/-- What a call leaves that tells a question. -/
def QPost (W : World) (b : Bool) (e : Ending) (w' : World) : Prop := ∃ v, e = .returned v ∧ Ques w' v b ∧ Below W.heap.size W w'

theorem pOpen1_any (bx : Nat) (cu e b t pm ty rs : Nat) (va : Bool) (w : World) (H : CapAt w bx cu e b t pm ty rs va) :
    Calls Tryz.prog 175 #[.pointer (some ⟨bx, 0, none⟩)] w fun e w' => e = .returned (.bool (va && decide (ty = 0))) ∧ Below w.heap.size w w' := by
  obtain ⟨q0, q1, q2, q3, q4, q5, q6, q7⟩ := H
  cases va
  · go_enter Tryz.func175, Tryz.ntmps175
    go_wp2
    go_ret
    exact ⟨rfl, by go_grown⟩
  · go_enter Tryz.func175, Tryz.ntmps175
    go_wp2
    go_ret
    refine ⟨ret_bool ?_, by go_grown⟩
    rw [Bool.eq_iff_iff]; simp

theorem pOpen_any (cu e b t pm ty rs : Nat) (va : Bool) (W : World) : Calls Tryz.prog 142 #[.agg #[.int .u32 cu, .int .u8 e, .int .u16 b, .int .u16 t, .int .u16 pm, .int .u16 ty, .int .u32 rs, .bool va]] W (QPost W (va && decide (ty = 0))) := by
  have hQ : Ques (W.alloc (.cells #[.int .u32 cu, .int .u8 e, .int .u16 b, .int .u16 t, .int .u16 pm, .int .u16 ty, .int .u32 rs, .bool va] 25)) (.func (.func 175) #[] #[.pointer (some ⟨W.heap.size, 0, none⟩)]) (va && decide (ty = 0)) :=
    ⟨_, _, rfl, fun w' => by kernel_rfl, fun w' k => pOpen1_any _ _ _ _ _ _ _ _ _ w' ((CapAt.make W cu e b t pm ty rs va).below k (by simp))⟩
  replace hQ := Lib.hid hQ
  go_enter Tryz.func142, Tryz.ntmps142
  go_wp2_with fail
  go_ret
  exact ⟨_, rfl, hQ.out, by go_grown⟩

/-- Questions that lie one behind the other. -/
def QsAt (w : World) (sb : Nat) (qs : List (Value × Bool)) : Prop := ∀ j p, qs[j]? = some p → w.cell? ⟨sb, j, none⟩ = some p.1 ∧ Ques w p.1 p.2
theorem QsAt.below {w w1 : World} {sb : Nat} {qs : List (Value × Bool)} (h : QsAt w sb qs) (k : Below w.heap.size w w1) (hs : sb < w.heap.size) : QsAt w1 sb qs :=
  fun j p hp => ⟨(k.cell (p := ⟨sb, j, none⟩) hs).trans (h j p hp).1, (h j p hp).2.below k⟩

/-- What a call leaves that tells a truth and writes nothing old. -/
def BPost (W : World) (b : Bool) (e : Ending) (w' : World) : Prop := e = .returned (.bool b) ∧ Below W.heap.size W w'

theorem pAll1_any (bx sb : Nat) (qs : List (Value × Bool)) (w : World) (hb : w.cell? ⟨bx, 0, none⟩ = some (.slice (some ⟨sb, 0, none⟩) qs.length qs.length)) (hn : qs.length ≤ 100) (hs : sb < w.heap.size) (hq : QsAt w sb qs) :
    Calls Tryz.prog 174 #[.pointer (some ⟨bx, 0, none⟩)] w (BPost w (qs.all (·.2))) := by
  have hQ := Lib.hid hq
  clear hq
  go_enter Tryz.func174, Tryz.ntmps174
  go_wp2_with fail
  go_loopw [6] (fun i wr => ∃ j : Nat, j ≤ qs.length ∧ i = .int .i64 j ∧ (∀ p ∈ qs.take j, p.2 = true) ∧ Below w.heap.size w wr) (fun i _ => qs.length - (intOf i).toNat)
  case atStart => exact ⟨0, by omega, rfl, by simp, Below.refl _ _⟩
  case round =>
    obtain ⟨j, hj, rfl, hall, hbl⟩ := hrel
    by_cases hlt : j < qs.length
    · obtain ⟨p, hp⟩ : ∃ p, qs[j]? = some p := ⟨qs[j], List.getElem?_eq_getElem hlt⟩
      obtain ⟨c0, hc⟩ := hQ.out j p hp
      replace c0 : wr.cell? ⟨sb, j, none⟩ = some p.1 := (hbl.cell (p := ⟨sb, j, none⟩) hs).trans c0
      replace hc := hc.below hbl
      have htk : qs.take (j + 1) = qs.take j ++ [p] := by rw [List.take_add_one, hp]; rfl
      have hmem : p ∈ qs := List.mem_of_getElem? hp
      obtain ⟨v, b⟩ := p
      obtain ⟨f, caps, rfl, hcf, c⟩ := hc
      dsimp only at c0 c
      have hbs := hbl.size
      replace hall := Lib.hid hall
      replace htk := Lib.hid htk
      replace hmem := Lib.hid hmem
      replace hp := Lib.hid hp
      replace hbl := Lib.hid hbl
      replace c := Lib.hid c
      cases b
      · have hF : qs.all (·.2) = false := by
          rw [List.all_eq_false]; exact ⟨_, hmem.out, by simp⟩
        replace hF := Lib.hid hF
        go_wp2_with fail
        refine (c.out _ (Below.refl _ _)).mono ?_
        rintro e w2 ⟨rfl, h2⟩
        replace h2 := Lib.hid (hbl.out.trans (h2.mono hbs))
        go_wp2_with fail
        go_ret
        exact ⟨ret_bool hF.out.symm, h2.out⟩
      · go_wp2_with fail
        refine (c.out _ (Below.refl _ _)).mono ?_
        rintro e w2 ⟨rfl, h2⟩
        replace h2 := Lib.hid (hbl.out.trans (h2.mono hbs))
        go_wp2_with fail
        go_roundw
        case rel =>
          refine ⟨j + 1, by omega, by go_num, ?_, h2.out⟩
          intro p hp
          rw [htk.out] at hp
          rcases List.mem_append.1 hp with hp | hp
          · exact hall.out p hp
          · simp at hp; subst hp; rfl
        case measure => simp [intOf]; omega
    · obtain rfl : j = qs.length := by omega
      rw [List.take_length] at hall
      have hT : qs.all (·.2) = true := by rw [List.all_eq_true]; exact fun p hp => hall p hp
      replace hT := Lib.hid hT
      replace hbl := Lib.hid hbl
      clear hall
      go_wp2_with fail
      go_ret
      exact ⟨ret_bool hT.out.symm, hbl.out⟩

theorem pAll_any (sb : Nat) (qs : List (Value × Bool)) (W : World) (hn : qs.length ≤ 100) (hs : sb < W.heap.size) (hq : QsAt W sb qs) :
    Calls Tryz.prog 141 #[.slice (some ⟨sb, 0, none⟩) qs.length qs.length] W (QPost W (qs.all (·.2))) := by
  have hb0 := (Below.refl W.heap.size W).alloc (Nat.le_refl _) (.cells #[.slice (some ⟨sb, 0, none⟩) qs.length qs.length] 225)
  have hc : (W.alloc (.cells #[.slice (some ⟨sb, 0, none⟩) qs.length qs.length] 225)).cell? ⟨W.heap.size, 0, none⟩ = some (.slice (some ⟨sb, 0, none⟩) qs.length qs.length) := by simp [go_sem]
  have hz : W.heap.size < (W.alloc (.cells #[.slice (some ⟨sb, 0, none⟩) qs.length qs.length] 225)).heap.size := by simp
  have hQ : Ques (W.alloc (.cells #[.slice (some ⟨sb, 0, none⟩) qs.length qs.length] 225)) (.func (.func 174) #[] #[.pointer (some ⟨W.heap.size, 0, none⟩)]) (qs.all (·.2)) :=
    ⟨_, _, rfl, fun w' => by kernel_rfl, fun w' k => pAll1_any _ sb qs w' ((k.cell (p := ⟨W.heap.size, 0, none⟩) hz).trans hc) hn (by have := k.size; omega) ((hq.below hb0 hs).below k (by omega))⟩
  replace hQ := Lib.hid hQ
  clear hb0 hc hz hq
  go_enter Tryz.func141, Tryz.ntmps141
  go_wp2_with fail
  go_ret
  exact ⟨_, rfl, hQ.out, by go_grown⟩
end Go.Proofs.YtkmgdfcambdeeaaGreatDoor
namespace Go.Proofs.YtkmgdfcambdeeaaGreatDoor
open Go Go.RowKit
set_option linter.unusedVariables false

/-- What a fence grants that asks nothing of a call. -/
structure Free (F : Fence) (n : Nat) (P : Program) : Prop where
  fn : ∀ f, F.fn f
  depth : F.depth = none
  call : ∀ f args w R, Calls P f args w R → CallsIn F (n - 1) P f args w R

section
variable {F : Fence} {n : Nat} {P : Program} {ops : Array Oper} {md : Region.Mode} {w : World} {Q' : Exit → Act → World → Prop}
theorem Free.wide (n : Nat) (P : Program) : Free Fence.wide n P := ⟨fun _ => trivial, rfl, fun _ _ _ _ h => callsIn_wide.2 h⟩
theorem Free.round (l n : Nat) (P : Program) : Free (Fence.wide.inRound l) n P := ⟨fun _ => trivial, rfl, fun _ _ _ _ h => CallsIn.inRound l (callsIn_wide.2 h)⟩

theorem Free.op {o : Oper} {a : Act} {K : Act → Prop} {K' : Act → World → Prop} (hF : Free F n P) (hd : ∀ c, o.op ≠ .defer c) (h : ∀ a, K a → K' a w) (hh : o.still P a w K) : o.wpIn F n P a w K' Q' := by
  unfold Oper.still at hh
  refine ⟨fun f _ => hF.fn f, ?_⟩
  rw [Oper.semAt_eq _ _ _ hd]
  generalize (execOp a.eval o).run P w = r at *
  cases r with
  | ok x w' =>
    cases x <;> simp only [Oper.stillUpon] at hh
    case enter f args =>
      obtain ⟨rfl, v, hc, hn⟩ := hh
      rw [Oper.uponIn_enter]
      exact ⟨fun e => (by rw [hF.depth] at e; cases e), (hF.call _ _ _ _ hc).mono fun e w'' ⟨he, hw⟩ => by subst he; subst hw; exact h _ hn⟩
    all_goals (obtain ⟨rfl, h2⟩ := hh; exact h _ h2)
  | halt x w' => simp only [Oper.stillUpon] at hh

theorem Free.opAt {i : Nat} {a : Act} {K : Act → Prop} {K' : Act → World → Prop} (hF : Free F n P) (hd : ∀ (i : Nat) (o : Oper) c, ops[i]? = some o → o.op ≠ .defer c) (h : ∀ a, K a → K' a w) (hh : stOp P ops w i K a) : wpOpIn F n P ops Q' i K' a w := by
  unfold stOp at hh
  unfold wpOpIn
  split
  · rename_i ho; simp only [ho] at hh; exact h _ hh
  · rename_i o ho
    simp only [ho] at hh
    split
    · rename_i hw; simp only [hw, if_true] at hh; exact hF.op (fun c => hd i o c ho) h hh
    · rename_i hw; simp only [hw] at hh; exact ⟨fun f _ => hF.fn f, h _ hh⟩

theorem Free.head {k g : Nat} {L : Array Bool → Act → Prop} (hF : Free F n P) (hd : ∀ (i : Nat) (o : Oper) c, ops[i]? = some o → o.op ≠ .defer c) (hL : ∀ listed a, L listed a → wpAnyIn F n P md ops Q' g listed a w) :
    ∀ (f : Nat) (listed : Array Bool) (a : Act), wpAnyL P md ops w k L f listed a → wpAnyIn F n P md ops Q' (f + g) listed a w
  | 0, listed, a, h => by rw [Nat.zero_add]; exact hL _ _ h
  | f + 1, listed, a, h => by
    rw [show f + 1 + g = (f + g) + 1 by omega]
    exact ⟨fun h0 => absurd h0 h.1, fun i hi => hF.opAt hd (fun a' h' => Free.head hF hd hL f _ a' h') (h.2 i hi).2⟩

theorem seq_in : ∀ (l : List Oper) (k : Nat) (listed : Array Bool) (a : Act) (w : World), (∀ j, l[j]? = ops[k + j]?) →
    Region.seqB md ops l.length k listed = true → wpListIn F n P ops Q' l a w → wpAnyIn F n P md ops Q' l.length listed a w
  | [], _, _, _, _, _, hB, h => ⟨by simpa [Region.seqB] using hB, h⟩
  | o :: l, k, listed, a, w, hl, hB, h => by
    have h0 : ops[k]? = some o := by simpa using (hl 0).symm
    simp only [List.length_cons, Region.seqB, Bool.and_eq_true, decide_eq_true_eq] at hB
    refine ⟨fun h1 => (by rw [hB.1] at h1; cases h1), fun i hi => ?_⟩
    rw [hB.1] at hi
    obtain rfl : i = k := by simpa using hi
    have hw : wpOpIn F n P ops Q' i (wpListIn F n P ops Q' l) a w := by unfold wpOpIn; simp only [h0]; exact h
    exact wpOpIn_mono (fun a' w' h' => seq_in l (i + 1) _ a' w' (fun j => by have := hl (j + 1); simpa [Nat.add_assoc, Nat.add_comm 1 j] using this) hB.2 h') hw

/-- The region: its first k operations leave the world alone, and come in whatever order; the others come behind them, in the text's order. -/
theorem Free.region {id : Nat} {a : Act} {l : List Oper} (hF : Free F n P) (k : Nat) (hm : P.follows .mixedOrders = true) (hB : Region.lexTailB .any l.toArray k = true) (hd : (l.all fun o => match o.op with | .defer _ => false | _ => true) = true)
    (h : wpStill P l.toArray w.drew (fun a' => wpListIn F n P l.toArray Q' (l.drop k) a' w.drew) (l.take k) a) : (Code.region id l.toArray true).wpIn F n P Q' a w := by
  have hd' : ∀ (i : Nat) (o : Oper) c, l.toArray[i]? = some o → o.op ≠ .defer c := fun i o c ho e => by
    have h1 : o ∈ l := List.mem_of_getElem? (by simpa using ho)
    have h2 := List.all_eq_true.1 hd o h1
    rw [e] at h2
    cases h2
  simp only [Region.lexTailB, Bool.and_eq_true, decide_eq_true_eq] at hB
  obtain ⟨⟨⟨⟨hsel, hn⟩, hs⟩, hc⟩, hlex⟩ := hB
  have hn' : k < l.length := by simpa using hn
  have htl : (l.take k).length = k := by simp; omega
  have hdl : (l.drop k).length = l.toArray.size - k := by simp
  have inv0 : HeadInv .any l.toArray k (Array.replicate l.toArray.size false) :=
    ⟨by simp, fun j oj _ hl => (by rw [getD_replicate_false] at hl; cases hl), fun t _ ht => getD_in (by simpa using ht) (getD_replicate_false _ _)⟩
  have H := wpAnyL_lex (md := .any) (g := l.toArray.size - k) hsel hs hc hn (l.take k) 0 _ a (fun j hj => by
    have hj' : j < k := by rw [htl] at hj; exact hj
    simp [hj']) (by simpa using htl) inv0 (by rw [htl]; exact hlex) h
  refine wpIn_region_any hm ?_
  have := hF.head (Q' := Q') (g := l.toArray.size - k) hd' (fun listed a' hL => by
    have := seq_in (F := F) (n := n) (P := P) (md := .any) (Q' := Q') (l.drop k) k listed a' w.drew (fun j => by simp [List.getElem?_drop]) (by rw [hdl]; exact hL.1) hL.2
    rwa [hdl] at this) _ _ _ H
  rw [htl, show k + (l.toArray.size - k) = l.toArray.size by omega] at this
  exact this
end
end Go.Proofs.YtkmgdfcambdeeaaGreatDoor
namespace Go.Proofs.YtkmgdfcambdeeaaGreatDoor
open Go.RowKit Go.Shelf
set_option linter.unusedVariables false
attribute [local go_sem] Oper.semAt_some

/-- What the iterator reads between two rounds stands as it stood: the map's own block, and the three boxes. -/
def KpW (b c : Nat) (W W' : World) : Prop := ∀ k, k = b ∨ k = c ∨ k = c + 1 ∨ k = c + 1 + 1 → W'.heap[k]? = W.heap[k]?
theorem KpW.trans {b c : Nat} {A B C : World} (h : KpW b c A B) (k : KpW b c B C) : KpW b c A C := fun i hi => (k i hi).trans (h i hi)
theorem KpW.refl (b c : Nat) (W : World) : KpW b c W W := fun _ _ => rfl
theorem KpW.put {b c : Nat} {w : World} (hb : b < w.heap.size) (hc : c + 1 + 1 < w.heap.size) (W : World) (l : Nat) (o o' : Obj) (hl : w.heap.size ≤ l) (_ : W.heap[l]? = some o) (_ : o.isCells = false) (_ : o.isWalk = false) : KpW b c W (W.putObj l o') :=
  fun k hk => World.putObj_heap_other (by rcases hk with rfl | rfl | rfl | rfl <;> omega)
theorem KpW.set {b c : Nat} (W : World) {p : Addr} (hb : p.block ≠ b) (h0 : p.block ≠ c) (h1 : p.block ≠ c + 1) (h2 : p.block ≠ c + 1 + 1) (v : Value) : KpW b c W (W.setCell p v) :=
  fun k hk => Below.heap_setCell _ _ _ _ (by rcases hk with rfl | rfl | rfl | rfl <;> omega)
theorem KpW.drew {b c : Nat} {A B : World} (h : KpW b c A B) : KpW b c A B.drew := h

/-- The boxes of a range of words, and the map that it goes through. -/
structure PartsAt (W : World) (b wb n c : Nat) (A B : Int) : Prop where
  h0 : W.cell? ⟨b, 0, none⟩ = some (.slice (some ⟨wb, 0, none⟩) ((n + 63) / 64) ((n + 63) / 64))
  m : W.cell? ⟨c, 0, none⟩ = some (.pointer (some ⟨b, 0, none⟩))
  a : W.cell? ⟨c + 1, 0, none⟩ = some (.int .i64 A)
  b : W.cell? ⟨c + 1 + 1, 0, none⟩ = some (.int .i64 B)
theorem PartsAt.keep {W W' : World} {b wb n c : Nat} {A B : Int} (h : PartsAt W b wb n c A B) (hk : KpW b c W W') : PartsAt W' b wb n c A B :=
  ⟨(World.cell?_of_block (hk b (.inl rfl))).trans h.h0, (World.cell?_of_block (hk c (.inr (.inl rfl)))).trans h.m, (World.cell?_of_block (hk (c + 1) (.inr (.inr (.inl rfl))))).trans h.a, (World.cell?_of_block (hk (c + 1 + 1) (.inr (.inr (.inr rfl))))).trans h.b⟩

set_option maxRecDepth 100000 in
set_option maxHeartbeats 1000000 in
theorem words_none (m : Nat) (l b wb n c : Nat) (A B : Int) (hAB : B ≤ A) (W : World) (J : List (Fin ((n + 63) / 64)) → World → Prop) (H : PartsAt W b wb n c A B) (h0 : J [] W) :
    CallsIn Fence.wide m Tryz.prog 207 #[.func (.yield l) #[] #[], .pointer (some ⟨c + 1, 0, none⟩), .pointer (some ⟨c + 1 + 1, 0, none⟩), .pointer (some ⟨c, 0, none⟩)] W fun e W' => (∃ v, e = .returned v) ∧ J [] W' := by
  have k1 := H.a
  have k2 := H.b
  refine callsIn_of_wp Tryz.func207 rfl trivial ?_ rfl
  simp only [Tryz.ntmps207, List.size_toArray, List.length_cons, List.length_nil, Nat.reduceAdd, Nat.reduceSub, Array.replicate_succ, Array.replicate_zero, List.push_toArray, List.append_toArray, List.nil_append, List.cons_append]
  gi_wp2
  refine bodyPost_ret (results_none rfl _ _ _) rfl ?_
  exact ⟨⟨_, rfl⟩, h0⟩

/-- The value that is handed to a round: a word's place, and which of its bits are meant. -/
def tgEnc (wb n lo hi : Nat) (x : Fin ((n + 63) / 64)) : Array Value := #[.pointer (some ⟨wb, x.val, none⟩), .int .u64 (wdo (inr lo hi) x.val : Nat)]

theorem mask_word (lo hi i : Nat) : bits BinOp.andNot .u64 (wd (fun j => decide ((j : Int) < (hi : Int) - (i : Int) * 64)) 64 : Nat) (wd (fun j => decide ((j : Int) < (lo : Int) - (i : Int) * 64)) 64 : Nat) = (wdo (inr lo hi) i : Nat) := by
  rw [andnot_wd]
  refine congrArg Nat.cast (wd_congr fun j hj => ?_)
  simp only [inr]
  rw [Bool.eq_iff_iff]
  simp
  omega

set_option maxRecDepth 100000 in
set_option maxHeartbeats 2000000 in
theorem words_in (m : Nat) (hm : 1 ≤ m) (l b wb n c lo hi : Nat) (hlt : lo < hi) (hhi : hi ≤ n) (hn : n ≤ 1048576) (J Jx : List (Fin ((n + 63) / 64)) → World → Prop)
    (hY : ∀ pre x W, J pre W → pre.length < (n + 63) / 64 → YieldAt Fence.wide (m - 1) Tryz.prog l (tgEnc wb n lo hi x) W fun e W' =>
      (e = .returned (.bool true) ∧ J (pre ++ [x]) W' ∧ KpW b c W W') ∨ (e = .returned (.bool false) ∧ Jx (pre ++ [x]) W'))
    (W : World) (H : PartsAt W b wb n c lo hi) (h0 : J [] W) (hJd : ∀ pre W, J pre W → J pre W.drew) :
    CallsIn Fence.wide m Tryz.prog 207 #[.func (.yield l) #[] #[], .pointer (some ⟨c + 1, 0, none⟩), .pointer (some ⟨c + 1 + 1, 0, none⟩), .pointer (some ⟨c, 0, none⟩)] W fun e W' => (∃ v, e = .returned v) ∧
      ((∃ ys, ys.map (fun x => x.val) = (List.range ((hi - 1) / 64 - lo / 64 + 1)).map (lo / 64 + ·) ∧ J ys W') ∨ (∃ pre, (∃ k, k ≤ (hi - 1) / 64 - lo / 64 + 1 ∧ pre.map (fun x => x.val) = (List.range k).map (lo / 64 + ·)) ∧ Jx pre W')) := by
  have k1 := H.a
  have k2 := H.b
  have i1 : (lo : Int) < (hi : Int) := by omega
  have i2 : (hi : Int) ≤ 1048576 := by omega
  have H' := Lib.hid H
  clear H
  refine callsIn_of_wp Tryz.func207 rfl trivial ?_ rfl
  simp only [Tryz.ntmps207, List.size_toArray, List.length_cons, List.length_nil, Nat.reduceAdd, Nat.reduceSub, Array.replicate_succ, Array.replicate_zero, List.push_toArray, List.append_toArray, List.nil_append, List.cons_append]
  gi_wp2
  gi_quiet (fail)
  gi_wp2
  obtain ⟨cn, hcn⟩ : ∃ cn, cn = (hi - 1) / 64 - lo / 64 + 1 := ⟨_, rfl⟩
  have e2 : ((hi : Int) - 1) / 64 - (lo : Int) / 64 + 1 = (cn : Int) := by omega
  obtain ⟨fst, hfst⟩ : ∃ fst, fst = lo / 64 := ⟨_, rfl⟩
  have e1 : (lo : Int) / 64 = (fst : Int) := by omega
  have hcn1 : fst + cn ≤ (n + 63) / 64 ∧ fst + cn ≤ 16384 := by omega
  have e3 : decide (hi ≤ lo) = false := by simp; omega
  rw [e2, e1, e3]
  clear e3
  have hcn' := Lib.hid hcn
  have hfst' := Lib.hid hfst
  have hM := Lib.hid hcn1
  clear hcn hfst e1 e2 hcn1
  gi_loopw [21] (fun i wr => ∃ (k : Nat) (pre : List (Fin ((n + 63) / 64))), k ≤ cn ∧ i = .int .i64 k ∧ pre.map (fun x => x.val) = (List.range k).map (fst + ·) ∧ J pre wr ∧ KpW b c W wr)
    (fun i _ => cn - (intOf i).toNat)
  case atStart => exact ⟨0, [], Nat.zero_le _, rfl, rfl, by clear k1 k2; induction nq with | zero => exact h0 | succ q ih => exact hJd _ _ ih, fun _ _ => rfl⟩
  case round =>
    obtain ⟨k, pre, hk, rfl, hpre, hJs, hnx⟩ := hrel
    have hq := H'.out.keep hnx
    have q0 := hq.h0
    have q1 := hq.m
    have q2 := hq.a
    have q3 := hq.b
    have hlen : pre.length = k := by have := congrArg List.length hpre; simpa using this
    have hpre' := Lib.hid hpre
    have hlen' := Lib.hid hlen
    clear hpre hq k1 k2 hlen
    by_cases hlt2 : k < cn
    · have hx : fst + k < (n + 63) / 64 := by have := hM.out; omega
      obtain ⟨x, hxv⟩ : ∃ x : Fin ((n + 63) / 64), x.val = fst + k := ⟨⟨fst + k, hx⟩, rfl⟩
      obtain ⟨fn, tmps, assign, body, hy, hR⟩ := hY pre x wr.drew (hJd _ _ hJs) (by have := hlen'.out; omega)
      dsimp only [tgEnc] at hy
      rw [hxv] at hy
      have hxv' := Lib.hid hxv
      clear hxv
      have hk1 : (fst : Int) + (k : Int) ≤ 16384 := by have := hM.out; omega
      obtain ⟨M, hMM⟩ : ∃ M, M = (n + 63) / 64 := ⟨_, rfl⟩
      rw [← hMM] at q0
      have hj1 : (fst : Int) + (k : Int) < (M : Int) := by omega
      have hx' := Lib.hid hx
      have hMM' := Lib.hid hMM
      clear hx hMM
      gi_wp2
      have s1 : IntKind.i64.wrap ((fst : Int) + (k : Int)) = (fst : Int) + (k : Int) := by rw [IntKind.wrap_i64]; omega
      have s2 : ((fst : Int) + (k : Int)).toNat = fst + k := by omega
      have s3 : IntKind.i64.wrap ((hi : Int) - ((fst : Int) + (k : Int)) * 64) = (hi : Int) - ((fst : Int) + (k : Int)) * 64 := by rw [IntKind.wrap_i64]; omega
      have s4 : IntKind.i64.wrap ((lo : Int) - ((fst : Int) + (k : Int)) * 64) = (lo : Int) - ((fst : Int) + (k : Int)) * 64 := by rw [IntKind.wrap_i64]; omega
      have s5 : 0 ≤ (fst : Int) + (k : Int) := by omega
      have s6 := mask_word lo hi (fst + k)
      rw [show ((fst + k : Nat) : Int) = (fst : Int) + (k : Int) by omega] at s6
      have b1 := Lib.hid (fun w => below_any ((hi : Int) - ((fst : Int) + (k : Int)) * 64) w (by omega) (by omega))
      have b2 := Lib.hid (fun w => below_any ((lo : Int) - ((fst : Int) + (k : Int)) * 64) w (by omega) (by omega))
      refine Free.region (Free.wide _ _) 18 (by kernel_rfl) (by kernel_rfl) (by kernel_rfl) ?_
      simp only [List.take_succ_cons, List.take_zero, List.drop_succ_cons, List.drop_zero]
      repeat still_step
      still_call ((b1.out _).mono fun e w' h => ⟨h.1, h.2.symm⟩)
      repeat still_step
      still_call ((b2.out _).mono fun e w' h => ⟨h.1, h.2.symm⟩)
      repeat still_step
      refine wpStill_nil ?_
      have hR' := Lib.hid hR
      have hk2 : (k : Int) ≤ 16384 := by omega
      clear hR s1 s2 s3 s4 s5 s6 b1 b2 q0 q1 q2 q3 hj1 hk1 i1 i2
      gi_wp2
      refine hR'.out.mono ?_
      rintro e W3 (⟨rfl, hJ3, hk3⟩ | ⟨rfl, hJx3⟩)
      · have hnx3 : KpW b c W W3 := hnx.trans hk3
        have hsn : (pre ++ [x]).map (fun x => x.val) = (List.range (k + 1)).map (fst + ·) := by rw [List.map_append, hpre'.out, List.range_succ, List.map_append]; simp [hxv'.out]
        have hsn' := Lib.hid hsn
        clear hsn hy
        gi_wp2
        go_roundw
        case rel => exact ⟨k + 1, pre ++ [x], by omega, by go_num, hsn'.out, hJ3, hnx3⟩
        case measure => simp [intOf]; omega
      · have hsn : (pre ++ [x]).map (fun x => x.val) = (List.range (k + 1)).map (fst + ·) := by rw [List.map_append, hpre'.out, List.range_succ, List.map_append]; simp [hxv'.out]
        have hsn' := Lib.hid hsn
        clear hsn hy
        gi_wp2
        refine bodyPost_ret (results_none rfl _ _ _) rfl ?_
        exact ⟨⟨_, rfl⟩, .inr ⟨pre ++ [x], ⟨k + 1, by rw [← hcn'.out]; omega, by rw [← hfst'.out]; exact hsn'.out⟩, hJx3⟩⟩
    · obtain rfl : k = cn := by omega
      gi_wp2
      go_end0
      exact ⟨⟨_, rfl⟩, .inl ⟨pre, by rw [← hcn'.out, ← hfst'.out]; exact hpre'.out, hJs⟩⟩
end Go.Proofs.YtkmgdfcambdeeaaGreatDoor
namespace Go.Proofs.YtkmgdfcambdeeaaGreatDoor
open Go.RowKit Go.Shelf
set_option linter.unusedVariables false
attribute [local go_sem] Oper.semAt_some

theorem words_stops (m : Nat) (hm : 1 ≤ m) (b wb n c : Nat) (A B : Int) (lo hi : Nat) (hlo : A = lo) (hhi : B.toNat = hi) (hB : B ≤ n) (hn : n ≤ 1048576) (w : World) (H : PartsAt w b wb n c A B) (hb : b < w.heap.size) (hc : c + 1 + 1 < w.heap.size) :
    SeqStopsK Fence.wide m Tryz.prog 207 #[.pointer (some ⟨c + 1, 0, none⟩), .pointer (some ⟨c + 1 + 1, 0, none⟩), .pointer (some ⟨c, 0, none⟩)] (tgEnc wb n lo hi) (KpW b c)
      (fun xs => (hi ≤ lo ∧ xs = []) ∨ (lo < hi ∧ xs.map (fun x => x.val) = (List.range ((hi - 1) / 64 - lo / 64 + 1)).map (lo / 64 + ·)))
      (fun pre => lo < hi ∧ ∃ k, k ≤ (hi - 1) / 64 - lo / 64 + 1 ∧ pre.map (fun x => x.val) = (List.range k).map (lo / 64 + ·)) ((n + 63) / 64) w := fun l J Jx W hW hJ hJx hY h0 => by
  have H' : PartsAt W b wb n c A B := H.keep (fun k hk => hW.block k (by rcases hk with rfl | rfl | rfl | rfl <;> omega))
  by_cases h : B ≤ A
  · exact (words_none m l b wb n c A B h W J H' h0).mono fun e W' ⟨he, hj⟩ => ⟨he, .inl ⟨_, .inl ⟨by omega, rfl⟩, hj⟩⟩
  · have e2 : B = (hi : Int) := by omega
    rw [hlo, e2] at H'
    refine (words_in m hm l b wb n c lo hi (by omega) (by omega) hn J Jx hY W H' h0 (fun pre W hs => hJ _ _ _ none hs ⟨rfl, rfl, rfl, Nat.le_refl _, fun _ _ _ => rfl⟩ (fun r e => by cases e))).mono ?_
    rintro e W' ⟨he, ⟨ys, hs, hj⟩ | ⟨pre, hs, hj⟩⟩
    · exact ⟨he, .inl ⟨ys, .inr ⟨by omega, hs⟩, hj⟩⟩
    · exact ⟨he, .inr ⟨pre, ⟨by omega, hs⟩, hj⟩⟩

section
variable {W W' : World} {b wb n : Nat} {f : Nat → Bool} {row : Option Nat}
theorem MapAt.kept (h : MapAt W b wb n f) (hg : W.grownBy W' row) (hr : ∀ r, row = some r → ∃ o : Obj, W.heap[r]? = some o ∧ o.isCells = false) : MapAt W' b wb n f :=
  ⟨cell_kept h.h0 hg hr, cell_kept h.h1 hg hr, cell_kept h.h2 hg hr, fun i hi => ⟨cell_kept (h.ws i hi).1 hg hr, (frozen_kept (h.ws i hi).1 hg hr).trans (h.ws i hi).2⟩, h.ne, Nat.lt_of_lt_of_le h.lb hg.size, Nat.lt_of_lt_of_le h.lw hg.size, h.off, h.le⟩
theorem ownFrom_off {β : Type} {n₀ B : Nat} {w₀ : World} (hn : n₀ ≤ w₀.heap.size) (hB : n₀ ≤ B) : OwnFrom B (fun (_ : β) W => Off n₀ wb w₀ W) :=
  fun _ _ _ _ hs hg hr => hs.trans ⟨hg.os, hg.tape, hg.output, hg.size, fun k hk hkn => hg.block k (by have := hs.size; omega) (fun e => by have := (hr k e.symm).1; omega)⟩
end

/-- What a count holds between two rounds. -/
structure CountI (w : World) (b wb n : Nat) (f : Nat → Bool) (W : World) (v : Nat) : Prop where
  c : W.cell? ⟨w.heap.size, 0, none⟩ = some (.int .i64 v)
  fr : W.frozen? ⟨w.heap.size, 0, none⟩ = false
  m : MapAt W b wb n f
theorem CountI.kept {w : World} {b wb n : Nat} {f : Nat → Bool} {W W' : World} {v : Nat} {row : Option Nat} (h : CountI w b wb n f W v) (hg : W.grownBy W' row) (hr : ∀ r, row = some r → ∃ o : Obj, W.heap[r]? = some o ∧ o.isCells = false) : CountI w b wb n f W' v :=
  ⟨cell_kept h.c hg hr, (frozen_kept h.c hg hr).trans h.fr, h.m.kept hg hr⟩

end Go.Proofs.YtkmgdfcambdeeaaGreatDoor
namespace Go.Proofs.YtkmgdfcambdeeaaGreatDoor
open Go.RowKit Go.Shelf
set_option linter.unusedVariables false
attribute [local go_sem] Oper.semAt_some

/-- What Clear hands back, and leaves. -/
def Cleared (b wb n lo hi : Nat) (f : Nat → Bool) (w : World) (e : Ending) (W' : World) : Prop :=
  e = .returned (.int .i64 (cnt (fun k => f k && inr lo hi k) n : Nat)) ∧ MapAt W' b wb n (fun k => f k && !inr lo hi k) ∧ Off w.heap.size wb w W'

set_option maxRecDepth 100000 in
set_option maxHeartbeats 2000000 in
theorem clear_any (b wb n lo hi : Nat) (f : Nat → Bool) (fr to_ : Int) (w : World) (H : MapAt w b wb n f) (h1 : -9223372036854775808 ≤ fr) (h2 : to_ ≤ 9223372036854775807) (hlo : max fr 0 = (lo : Int)) (hhi : (min to_ n).toNat = hi) :
    Calls Tryz.prog 127 #[.pointer (some ⟨b, 0, none⟩), .int .i64 fr, .int .i64 to_] w (Cleared b wb n lo hi f w) := by
  refine (callsIn_wide (n := 5)).1 ?_
  have hlb := H.lb
  have hlw := H.lw
  have hne := H.ne
  have hle := H.le
  obtain ⟨w1, hw1⟩ : ∃ w1, w1 = w.alloc (.cells #[.int .i64 0] 3) := ⟨_, rfl⟩
  have H1 : MapAt w1 b wb n f := by rw [hw1]; exact H.alloc _
  have hs1 : w1.heap.size = w.heap.size + 1 := by rw [hw1]; simp
  have hb1 : Below w.heap.size w w1 := by rw [hw1]; exact (Below.refl _ w).alloc (Nat.le_refl _) _
  have q1 : w1.cell? ⟨w.heap.size, 0, none⟩ = some (.int .i64 0) ∧ w1.frozen? ⟨w.heap.size, 0, none⟩ = false := by rw [hw1]; exact new_cell rfl _ rfl
  have hP := Lib.hid (parts_any b wb n f fr to_ w1 H1 h1 h2)
  have G := Lib.hid (And.intro H1 (And.intro hs1 (And.intro hb1 q1)))
  have hw1' := Lib.hid hw1
  have hlo' := Lib.hid hlo
  have hhi' := Lib.hid hhi
  clear H H1 hs1 hb1 q1 hw1 h1 h2 hlo hhi
  refine callsIn_of_wp_marks Tryz.func127 rfl trivial ?_ rfl
  simp only [Tryz.ntmps127, List.size_toArray, List.length_cons, List.length_nil, Nat.reduceAdd, Nat.reduceSub, Array.replicate_succ, Array.replicate_zero, List.push_toArray, List.append_toArray, List.nil_append, List.cons_append]
  gi_wp2_with fail
  rw [← hw1'.out]
  refine ⟨trivial, (callsIn_wide.2 hP.out).mono ?_⟩
  rintro e w2 ⟨rfl, hb2, hs2, k0, k1, k2⟩
  obtain ⟨H1, hs1, hb1, q1, q2⟩ := G.out
  have H2 : MapAt w2 b wb n f := H1.below hb2 (by omega) (by omega)
  have hps : PartsAt w2 b wb n w1.heap.size lo (min to_ n) := ⟨H2.h0, k0, by rw [k1, hlo'.out], k2⟩
  have c1 : w2.cell? ⟨w.heap.size, 0, none⟩ = some (.int .i64 0) := (hb2.cell (p := ⟨w.heap.size, 0, none⟩) (by show w.heap.size < _; omega)).trans q1
  have c2 : w2.frozen? ⟨w.heap.size, 0, none⟩ = false := (hb2.frozen (p := ⟨w.heap.size, 0, none⟩) (by show w.heap.size < _; omega)).trans q2
  have hB2 : Off w.heap.size wb w w2 := Off.of_below (hb1.trans (hb2.mono (by omega)))
  have st := Lib.hid (words_stops 4 (by omega) b wb n w1.heap.size lo (min to_ n) lo hi rfl hhi'.out (by omega) hle w2 hps (by omega) (by omega))
  have G2 := Lib.hid (And.intro H2 (And.intro c1 (And.intro c2 (And.intro hB2 (And.intro hs2 hs1)))))
  clear H1 hb1 q1 q2 H2 hps c1 c2 hB2 k0 k1 k2 hb2 hs2 hP G hs1
  gi_wp2_with fail
  refine wpIn_rangeFunc_ownG rfl (by decide) (gf := 207) (lb := #[.pointer (some ⟨w1.heap.size + 1, 0, none⟩), .pointer (some ⟨w1.heap.size + 1 + 1, 0, none⟩), .pointer (some ⟨w1.heap.size, 0, none⟩)]) rfl trivial (enters_of Tryz.func207 (by kernel_rfl) rfl)
    st.out KpW.trans (KpW.put (by have := G2.out.2.2.2.2; omega) (by have := G2.out.2.2.2.2; omega)) (Below.refl _ _) (fun _ => rfl)
    (fun pre W => CountI w b wb n (cfold lo hi f (pre.map fun x => x.val)).1 W (cfold lo hi f (pre.map fun x => x.val)).2 ∧ Off w.heap.size wb w W)
    (fun _ _ _ => False)
    (OwnFrom.and (Own.from (fun s A B row hs hg hr => hs.kept hg hr) _) (ownFrom_off (Nat.le_refl _) (by have := G2.out.2.2.2.2; omega)))
    (fun _ _ _ _ _ hs _ _ => hs)
    ⟨⟨G2.out.2.1, G2.out.2.2.1, G2.out.1⟩, G2.out.2.2.2.1⟩
    (fun x => { tmps := #[.pointer (some ⟨b, 0, none⟩), .int .i64 fr, .int .i64 to_, undef, undef, undef, .int .i64 0, .pointer (some ⟨w.heap.size, 0, none⟩), .pointer (some ⟨wb, x.val, none⟩), .int .u64 (wdo (inr lo hi) x.val : Nat), .pointer (some ⟨b, 0, none⟩), .int .i64 fr, .int .i64 to_, .func (.func 207) #[] #[.pointer (some ⟨w1.heap.size + 1, 0, none⟩), .pointer (some ⟨w1.heap.size + 1 + 1, 0, none⟩), .pointer (some ⟨w1.heap.size, 0, none⟩)], .pointer (some ⟨wb, x.val, none⟩), .int .u64 (wdo (inr lo hi) x.val : Nat), undef, undef, undef, undef, undef, undef, undef, undef, undef, undef, undef, undef, undef, undef, undef], defers := [] }) ?assign ?body ?done ?stop
  case assign =>
    intro l x W K hK
    dsimp only [tgEnc]
    gi_wp2
    exact hK
  case body =>
    rintro l pre x W ⟨hc, hB⟩ hlen
    obtain ⟨P, hP⟩ : ∃ P, P = cfold lo hi f (pre.map fun x => x.val) := ⟨_, rfl⟩
    have hsum := cfold_le lo hi f (pre.map fun x => x.val)
    rw [← hP] at hc hsum
    have q1 := hc.c
    have q2 := hc.fr
    have q3 := (hc.m.ws x.val x.isLt).1
    have q4 := (hc.m.ws x.val x.isLt).2
    have hcw := cnt_le (fun j => P.1 (64 * x.val + j) && inr lo hi (64 * x.val + j)) 64
    have hlen2 : (pre.map fun x => x.val).length < (n + 63) / 64 := by simpa using hlen
    have hand : bits BinOp.and IntKind.u64 (wdo P.1 x.val : Nat) (wdo (inr lo hi) x.val : Nat) = (wd (fun j => P.1 (64 * x.val + j) && inr lo hi (64 * x.val + j)) 64 : Nat) := and_wd _ _
    have hnot : bits BinOp.andNot IntKind.u64 (wdo P.1 x.val : Nat) (wdo (inr lo hi) x.val : Nat) = (wdo (cstep lo hi P x.val).1 x.val : Nat) := by
      rw [cstep_same]; exact andnot_wd _ _
    have hO := Lib.hid (fun w' => ones_c (wd (fun j => P.1 (64 * x.val + j) && inr lo hi (64 * x.val + j)) 64) w' (wd_lt _ _))
    rw [ones_wd] at hO
    obtain ⟨s, hs⟩ : ∃ s, s = P.2 := ⟨_, rfl⟩
    obtain ⟨d, hd⟩ : ∃ d, d = cnt (fun j => P.1 (64 * x.val + j) && inr lo hi (64 * x.val + j)) 64 := ⟨_, rfl⟩
    obtain ⟨v, hv⟩ : ∃ v, v = wd (fun j => P.1 (64 * x.val + j) && inr lo hi (64 * x.val + j)) 64 := ⟨_, rfl⟩
    rw [← hs] at q1 hsum
    rw [← hd] at hO hcw
    rw [← hv] at hand hO
    have s1 : IntKind.i64.wrap ((s : Int) + (d : Int)) = ((s + d : Nat) : Int) := by rw [IntKind.wrap_i64]; omega
    have hc' := Lib.hid hc
    have hB' := Lib.hid hB
    have hs' := Lib.hid hs
    have hd' := Lib.hid hd
    have hP' := Lib.hid hP
    have hnot' := Lib.hid hnot
    clear hc hB hs hd hv hP hsum hcw hlen hlen2 hnot
    gi_wp2
    refine Free.region (Free.round _ _ _) 8 (by kernel_rfl) (by kernel_rfl) (by kernel_rfl) ?_
    simp only [List.take_succ_cons, List.take_zero, List.drop_succ_cons, List.drop_zero]
    repeat still_step
    still_call ((hO.out _).mono fun e w' h => ⟨h.1, h.2.symm⟩)
    repeat still_step
    refine wpStill_nil ?_
    have q1' : W.drew.cell? ⟨w.heap.size, 0, none⟩ = some (.int .i64 s) := q1
    have q2' : W.drew.frozen? ⟨w.heap.size, 0, none⟩ = false := q2
    have q3' : W.drew.cell? ⟨wb, x.val, none⟩ = some (.int .u64 (wdo P.1 x.val : Nat)) := q3
    have q4' : W.drew.frozen? ⟨wb, x.val, none⟩ = false := q4
    have E := Lib.hid (And.intro hc'.out.m.drew (And.intro hB'.out.drew (And.intro (KpW.drew (KpW.refl b w1.heap.size W)) (KeepsOthers.drew W))))
    generalize W.drew = W3 at q1' q2' q3' q4' E ⊢
    have hnot := hnot'.out
    clear q1 q2 q3 q4 s1 hO hand
    gi_wp2
    have hsz := G2.out.2.2.2.2
    have hP2 : cfold lo hi f ((pre ++ [x]).map fun x => x.val) = cstep lo hi P x.val := by rw [List.map_append, List.map_singleton, cfold_snoc, hP'.out]
    have hm := (E.out.1.setOther (p := ⟨w.heap.size, 0, none⟩) (by show w.heap.size ≠ b; omega) (by show w.heap.size ≠ wb; omega) (.int .i64 ((s : Int) + (d : Int)))).store (i := x.val) (g := (cstep lo hi P x.val).1) x.isLt (fun j hj => cstep_ne lo hi P hj) (fun k hk => by simp [cstep, E.out.1.off k hk])
    have hcell : ∀ u, ((W3.setCell ⟨w.heap.size, 0, none⟩ (.int .i64 ((s : Int) + (d : Int)))).setCell ⟨wb, x.val, none⟩ u).cell? ⟨w.heap.size, 0, none⟩ = some (.int .i64 ((s : Int) + (d : Int))) := fun u => by
      rw [World.cell?_setCell_other _ _ _ _ (fun e => by have := congrArg Addr.block e; simp at this; omega)]
      exact World.cell?_setCell_same' _ _ _ (by rw [q1']; rfl)
    rw [← hP2] at hm
    refine ⟨((E.out.2.2.2.trans (KeepsOthers.setCell _ _ _)).trans (KeepsOthers.setCell _ _ _)).from _,
      (E.out.2.2.1.trans (KpW.set _ (p := ⟨w.heap.size, 0, none⟩) (by show w.heap.size ≠ b; omega) (by show w.heap.size ≠ _; omega) (by show w.heap.size ≠ _; omega) (by show w.heap.size ≠ _; omega) _)).trans
        (KpW.set _ (p := ⟨wb, x.val, none⟩) (by show wb ≠ b; omega) (by show wb ≠ _; omega) (by show wb ≠ _; omega) (by show wb ≠ _; omega) _),
      ⟨?_, ?_, ?_⟩, (E.out.2.1.setCell (p := ⟨w.heap.size, 0, none⟩) (.inl (Nat.le_refl _)) _).setCell (p := ⟨wb, x.val, none⟩) (.inr rfl) _⟩
    · rw [hcell, hP2]
      simp only [cstep, ← hs'.out, ← hd'.out]
      rfl
    · rw [World.frozen?_setCell, World.frozen?_setCell]; exact q2'
    · rw [hP2] at hm ⊢
      exact hm
  case done =>
    rintro D ys W hD hS ⟨hc, hB⟩ hK
    have q1 := hc.c
    have hlohi : hi ≤ n := by have := hhi'.out; omega
    have hv : (∀ k, (cfold lo hi f (ys.map fun x => x.val)).1 k = (f k && !inr lo hi k)) ∧ (cfold lo hi f (ys.map fun x => x.val)).2 = cnt (fun k => f k && inr lo hi k) n := by
      rcases hS with ⟨h0, rfl⟩ | ⟨h0, hy⟩
      · have hz : ∀ k, inr lo hi k = false := fun k => by simp only [inr, Bool.and_eq_false_iff, decide_eq_false_iff_not]; omega
        exact ⟨fun k => by simp [cfold, hz k], (cnt_zero (fun j _ => by simp [hz j])).symm⟩
      · rw [hy]
        exact cfold_all lo hi _ n f (by omega) hlohi
    rw [hv.2] at q1
    have hm := hc.m.congr hv.1
    have hB' := Lib.hid hB
    have hm' := Lib.hid hm
    clear hS hc hv hB hm
    gi_wp2
    refine ⟨by simp, .inl ⟨_, _, rfl, run_takeDeferred hK, ?_⟩⟩
    exact ⟨_, results_tmp rfl _ _ _, rfl, hm'.out.kept (grownBy_putObj' _ D (.deferred none)) (fun r e => by cases e; exact ⟨_, hK, rfl⟩), hB'.out.trans (Off.of_below (belowK_b (w := w) (Nat.le_refl _) W D _ _ (by have := G2.out.2.2.2.2; omega) hK rfl rfl))⟩
  case stop =>
    rintro D c pre W _ _ h _
    exact h.elim
end Go.Proofs.YtkmgdfcambdeeaaGreatDoor
namespace Go.Proofs.YtkmgdfcambdeeaaGreatDoor
open Go.RowKit
set_option linter.unusedVariables false

/-- Below block B, and but for the blocks x and y, the world is as it was. -/
structure Of2 (B x y : Nat) (w w' : World) : Prop where
  os : w'.os = w.os
  tape : w'.tape = w.tape
  output : w'.output = w.output
  size : w.heap.size ≤ w'.heap.size
  block : ∀ k, k < B → k ≠ x → k ≠ y → w'.heap[k]? = w.heap[k]?
section
variable {B x y : Nat} {a b c w w' : World}
theorem Of2.refl (B x y : Nat) (w : World) : Of2 B x y w w := ⟨rfl, rfl, rfl, Nat.le_refl _, fun _ _ _ _ => rfl⟩
theorem Of2.trans (h : Of2 B x y a b) (k : Of2 B x y b c) : Of2 B x y a c :=
  ⟨k.os.trans h.os, k.tape.trans h.tape, k.output.trans h.output, Nat.le_trans h.size k.size, fun i hi h1 h2 => (k.block i hi h1 h2).trans (h.block i hi h1 h2)⟩
theorem Of2.mono (h : Of2 B x y w w') {B' : Nat} (hB : B' ≤ B) : Of2 B' x y w w' := ⟨h.os, h.tape, h.output, h.size, fun k hk h1 h2 => h.block k (by omega) h1 h2⟩
theorem Of2.step (h : Of2 a.heap.size x y a b) (k : Of2 b.heap.size x y b c) : Of2 a.heap.size x y a c := h.trans (k.mono h.size)
theorem Of2.drew (h : Of2 B x y a w) : Of2 B x y a w.drew := ⟨h.os, h.tape, h.output, h.size, h.block⟩
theorem Of2.of_below (h : Below B w w') : Of2 B x y w w' := ⟨h.os, h.tape, h.output, h.size, fun k hk _ _ => h.block k hk⟩
theorem Of2.of_off (h : Off B x w w') : Of2 B x y w w' := ⟨h.os, h.tape, h.output, h.size, fun k hk h1 _ => h.block k hk h1⟩
theorem Of2.below (h : Of2 B x y w w') {B' : Nat} (hB : B' ≤ B) (hx : B' ≤ x) (hy : B' ≤ y) : Below B' w w' := ⟨h.os, h.tape, h.output, h.size, fun k hk => h.block k (by omega) (by omega) (by omega)⟩
theorem Of2.alloc (h : Of2 B x y a w) (hB : B ≤ w.heap.size) (o : Obj) : Of2 B x y a (w.alloc o) := h.trans (Of2.of_below ((Below.refl B w).alloc hB o))
theorem Of2.setCell (h : Of2 B x y a w) {p : Addr} (hp : B ≤ p.block ∨ p.block = x ∨ p.block = y) (u : Value) : Of2 B x y a (w.setCell p u) :=
  h.trans ⟨rfl, rfl, rfl, by simp [World.setCell], fun k hk h1 h2 => Below.heap_setCell _ _ _ _ (by omega)⟩
theorem Of2.setRow (h : Of2 B x y a w) {g : Nat} (hp : B ≤ g ∨ g = x ∨ g = y) (u : Array Value) : Of2 B x y a (w.setRow g u) :=
  h.trans ⟨rfl, rfl, rfl, by simp [World.setRow], fun k hk h1 h2 => Go.setRow_other w g k u (by omega)⟩
theorem Of2.cell (h : Of2 B x y w w') {p : Addr} (hp : p.block < B) (h1 : p.block ≠ x) (h2 : p.block ≠ y) : w'.cell? p = w.cell? p := World.cell?_of_block (w := w) (h.block p.block hp h1 h2)
theorem Of2.frozen (h : Of2 B x y w w') {p : Addr} (hp : p.block < B) (h1 : p.block ≠ x) (h2 : p.block ≠ y) : w'.frozen? p = w.frozen? p := World.frozen?_of_block (w := w) (h.block p.block hp h1 h2)
end

theorem ownsRow_block {w w' : World} {base b n c : Nat} {e : TypeId} {xs : List Value} (h : w.ownsRow base e 1 (.slice (some ⟨b, 0, none⟩) n c) n xs) (hb : w'.heap[b]? = w.heap[b]?) : w'.ownsRow base e 1 (.slice (some ⟨b, 0, none⟩) n c) n xs := by
  refine ⟨h.1, ?_⟩
  rcases h.2 with ⟨e, _⟩ | ⟨g, cap, cur, e, h1, h2, h3⟩
  · cases e
  · cases e
    exact .inr ⟨_, _, cur, rfl, h1, hb.trans h2, h3⟩

/-- b laid over l from place k on. -/
def ovr (l : List UInt8) (k : Nat) (b : List UInt8) : List UInt8 := l.take k ++ (b ++ l.drop (k + b.length))
theorem ovr_length {l b : List UInt8} {k : Nat} (h : k + b.length ≤ l.length) : (ovr l k b).length = l.length := by simp [ovr]; omega
theorem ovr_nil (l : List UInt8) (k : Nat) : ovr l k [] = l := by simp [ovr]
/-- Granule j is touched by k bytes from place at_ on. -/
def tch (at_ k : Nat) : Nat → Bool := fun j => decide (0 < k) && decide (at_ < 16 * (j + 1)) && decide (16 * j < at_ + k)
def clr (f : Nat → Bool) (at_ k : Nat) : Nat → Bool := fun j => f j && !tch at_ k j
theorem clr_zero (f : Nat → Bool) (at_ : Nat) : clr f at_ 0 = f := by funext j; simp [clr, tch]

/-- At block a stands an arena of n bytes l, of g granules, whose tags are as f tells: its map in the blocks mb and wb, its bytes in bb. -/
structure ArAt (W : World) (a mb wb bb c n g : Nat) (f : Nat → Bool) (l : List UInt8) : Prop where
  q0 : W.cell? ⟨a, 0, none⟩ = some (.pointer (some ⟨mb, 0, none⟩))
  q1 : W.cell? ⟨a, 1, none⟩ = some (.slice (some ⟨bb, 0, none⟩) n c)
  m : MapAt W mb wb g f
  own : W.ownsRow 0 5 1 (.slice (some ⟨bb, 0, none⟩) n c) n (l.map vb)
  hn : n = 16 * g
  lo : 256 ≤ g
  hi : g ≤ 16384
  la : a < W.heap.size
  n1 : a ≠ wb
  n2 : a ≠ bb
  n3 : mb ≠ bb
  n4 : wb ≠ bb
section
variable {W W' : World} {a mb wb bb c n g B : Nat} {f f' : Nat → Bool} {l l' : List UInt8}
theorem ArAt.lb (h : ArAt W a mb wb bb c n g f l) : bb < W.heap.size := (h.own.lt bb rfl).2
theorem ArAt.len (h : ArAt W a mb wb bb c n g f l) : l.length = n := by simpa using h.own.1
theorem ArAt.caps (h : ArAt W a mb wb bb c n g f l) : n ≤ c ∧ c ≤ maxLen := by
  rcases h.own.2 with ⟨e, _⟩ | ⟨g, cap, cur, e, h1, h2, h3, h4, _⟩
  · cases e
  · cases e; exact ⟨h3, h4⟩
theorem ArAt.keep (h : ArAt W a mb wb bb c n g f l) (hk : ∀ k, k = a ∨ k = mb ∨ k = wb ∨ k = bb → W'.heap[k]? = W.heap[k]?) (hs : W.heap.size ≤ W'.heap.size) : ArAt W' a mb wb bb c n g f l :=
  ⟨(World.cell?_of_block (hk a (.inl rfl))).trans h.q0, (World.cell?_of_block (hk a (.inl rfl))).trans h.q1, h.m.keep (fun k hk' => hk k (hk'.elim (fun e => .inr (.inl e)) (fun e => .inr (.inr (.inl e))))) hs,
    ownsRow_block h.own (hk bb (.inr (.inr (.inr rfl)))), h.hn, h.lo, h.hi, Nat.lt_of_lt_of_le h.la hs, h.n1, h.n2, h.n3, h.n4⟩
theorem ArAt.below (h : ArAt W a mb wb bb c n g f l) (hb : Below W.heap.size W W') : ArAt W' a mb wb bb c n g f l :=
  h.keep (fun k hk => hb.block k (by have := h.la; have := h.lb; have := h.m.lb; have := h.m.lw; omega)) hb.size
theorem ArAt.of2 {x y : Nat} (h : ArAt W a mb wb bb c n g f l) (hb : Of2 W.heap.size x y W W') (hx : a ≠ x ∧ mb ≠ x ∧ wb ≠ x ∧ bb ≠ x) (hy : a ≠ y ∧ mb ≠ y ∧ wb ≠ y ∧ bb ≠ y) : ArAt W' a mb wb bb c n g f l :=
  h.keep (fun k hk => hb.block k (by have := h.la; have := h.lb; have := h.m.lb; have := h.m.lw; omega) (by omega) (by omega)) hb.size
theorem ArAt.drew (h : ArAt W a mb wb bb c n g f l) : ArAt W.drew a mb wb bb c n g f l := h.keep (fun _ _ => rfl) (Nat.le_refl _)
theorem ArAt.alloc (h : ArAt W a mb wb bb c n g f l) (o : Obj) : ArAt (W.alloc o) a mb wb bb c n g f l := h.below ((Below.refl _ W).alloc (Nat.le_refl _) o)
theorem ArAt.cell (h : ArAt W a mb wb bb c n g f l) {j : Nat} {u : UInt8} (hu : l[j]? = some u) : W.cell? ⟨bb, j, none⟩ = some (vb u) := by
  have := h.own.cells (g := bb) rfl j (vb u) (by simp [hu])
  rwa [Addr.add_lit, Nat.zero_add] at this
theorem ArAt.rb (h : ArAt W a mb wb bb c n g f l) : RB W W.heap.size (some ⟨bb, 0, none⟩) l := fun _ =>
  ⟨bb, 0, rfl, h.lb, fun j u hu => by rw [Nat.zero_add]; exact h.cell hu⟩
theorem ArAt.ext (h : ArAt W a mb wb bb c n g f l) (e : ∀ k, f k = f' k) (e2 : l = l') : ArAt W a mb wb bb c n g f' l' :=
  e2 ▸ ⟨h.q0, h.q1, h.m.congr e, h.own, h.hn, h.lo, h.hi, h.la, h.n1, h.n2, h.n3, h.n4⟩
/-- Another map in the same blocks. -/
theorem ArAt.map (h : ArAt W a mb wb bb c n g f l) (hm : MapAt W' mb wb g f') (ho : Off W.heap.size wb W W') : ArAt W' a mb wb bb c n g f' l :=
  have hk : ∀ k, k = a ∨ k = bb → W'.heap[k]? = W.heap[k]? := fun k hk => ho.block k (by have := h.la; have := h.lb; omega) (by have := h.n1; have := h.n4; omega)
  ⟨(World.cell?_of_block (hk a (.inl rfl))).trans h.q0, (World.cell?_of_block (hk a (.inl rfl))).trans h.q1, hm, ownsRow_block h.own (hk bb (.inr rfl)), h.hn, h.lo, h.hi, Nat.lt_of_lt_of_le h.la ho.size, h.n1, h.n2, h.n3, h.n4⟩
theorem splice_take {L A cs : List Value} {n k : Nat} (hA : L.take n = A) (hn : A.length = n) (hk : k + cs.length ≤ n) : (L.take k ++ (cs ++ L.drop (k + cs.length))).take n = A.take k ++ (cs ++ A.drop (k + cs.length)) := by
  obtain ⟨R, hR⟩ : ∃ R, L = A ++ R := ⟨L.drop n, by rw [← hA, List.take_append_drop]⟩
  have e1 : (A ++ R).take k = A.take k := List.take_append_of_le_length (by omega)
  have e2 : (A ++ R).drop (k + cs.length) = A.drop (k + cs.length) ++ R := List.drop_append_of_le_length (by omega)
  rw [hR, e1, e2, ← List.append_assoc cs, ← List.append_assoc (A.take k)]
  have hl : (A.take k ++ (cs ++ A.drop (k + cs.length))).length = n := by simp; omega
  rw [List.take_append_of_le_length (by omega), List.take_of_length_le (by omega)]
/-- Bytes laid over the arena's. -/
theorem ArAt.lay (h : ArAt W a mb wb bb c n g f l) {k : Nat} {b : List UInt8} (hk : k + b.length ≤ n) {cur : Array Value} (hc : W.heap[bb]? = some (.cells cur 5 (0, 0))) :
    ArAt (W.setRow bb (cur.toList.take k ++ (b.map vb ++ cur.toList.drop (k + (b.map vb).length))).toArray) a mb wb bb c n g f (ovr l k b) := by
  have hrow := setRow_heap W bb cur (cur.toList.take k ++ (b.map vb ++ cur.toList.drop (k + (b.map vb).length))).toArray 5 (0, 0) hc
  generalize hW : W.setRow bb _ = W2 at hrow ⊢
  have ho : ∀ k, k ≠ bb → W2.heap[k]? = W.heap[k]? := fun k hk => by rw [← hW]; exact Go.setRow_other W bb k _ hk
  have hsz : W2.heap.size = W.heap.size := by rw [← hW]; simp [World.setRow]
  refine ⟨(World.cell?_of_block (ho a h.n2)).trans h.q0, (World.cell?_of_block (ho a h.n2)).trans h.q1, h.m.keep (fun k hk => ho k (by have := h.n3; have := h.n4; omega)) (by omega), ?_, h.hn, h.lo, h.hi, by rw [hsz]; exact h.la, h.n1, h.n2, h.n3, h.n4⟩
  have hl := h.len
  refine ⟨by simp [ovr]; omega, ?_⟩
  rcases h.own.2 with ⟨e, _⟩ | ⟨g', cap, cur', e, h1, h2, h3, h4, h5, h6⟩
  · cases e
  · cases e
    rw [hc] at h2
    cases h2
    refine .inr ⟨_, _, _, rfl, h1, hrow, h3, h4, ?_, ?_⟩
    · have : cur.toList.length = cur.size := by simp
      simp; omega
    · rw [Nat.mul_one] at h6 ⊢
      have hs := splice_take (L := cur.toList) (cs := b.map vb) (k := k) h6 (by simp [hl]) (by simpa using hk)
      rw [List.toList_toArray, hs]
      simp [ovr]
theorem ArAt.row (h : ArAt W a mb wb bb c n g f l) : ∃ cur : Array Value, W.heap[bb]? = some (.cells cur 5 (0, 0)) ∧ n ≤ cur.size := by
  rcases h.own.2 with ⟨e, _⟩ | ⟨g', cap, cur, e, h1, h2, h3, h4, h5, h6⟩
  · cases e
  · cases e
    exact ⟨cur, h2, by omega⟩
end

/-- A call on an arena has answered v; its tags are as f tells, its bytes l; nothing else has turned. -/
def Nxt (a mb wb bb c n g : Nat) (f : Nat → Bool) (l : List UInt8) (w : World) (v : Value) (e : Ending) (w' : World) : Prop :=
  e = .returned v ∧ ArAt w' a mb wb bb c n g f l ∧ Of2 w.heap.size wb bb w w'
theorem nxt_below {a mb wb bb c n g : Nat} {f : Nat → Bool} {l : List UInt8} {w w' : World} {v : Value} {e : Ending} (H : ArAt w a mb wb bb c n g f l) (h : e = .returned v ∧ Below w.heap.size w w') : Nxt a mb wb bb c n g f l w v e w' :=
  ⟨h.1, H.below h.2, Of2.of_below h.2⟩
end Go.Proofs.YtkmgdfcambdeeaaGreatDoor
namespace Go.Proofs.YtkmgdfcambdeeaaGreatDoor
open Go.RowKit
set_option linter.unusedVariables false

theorem own_any (a : Nat) (p A : Option Addr) (n c : Nat) (w : World) (h0 : w.cell? ⟨a, 0, none⟩ = some (.pointer p)) (h1 : w.cell? ⟨a, 1, none⟩ = some (.slice A n c)) (ha : a < w.heap.size) :
    Calls Tryz.prog 64 #[.pointer (some ⟨a, 0, none⟩)] w fun e w' => e = .returned (.agg #[.pointer p, .slice A n c]) ∧ Below w.heap.size w w' := by
  have hb := fun o => Lib.hid ((Below.refl w.heap.size w).alloc (Nat.le_refl _) o)
  go_enter Tryz.func64, Tryz.ntmps64
  go_wp2
  exact bodyPost_ret (v := .agg #[.pointer p, .slice A n c]) (by simp [results, Tryz.results64, go_sem]) rfl ⟨rfl, (hb _).out⟩
theorem granule_any (v : Nat) (w : World) (lv : v < 4294967296) : Calls Tryz.prog 75 #[.int .u32 v] w fun e w' => e = .returned (.int .i64 (v / 16 : Nat)) ∧ w = w' := by
  go_enter Tryz.func75, Tryz.ntmps75
  go_wp2
  go_ret
  exact ⟨ret_int (by simp), rfl⟩
theorem granule_int (v : Int) (w : World) (h0 : 0 ≤ v) (lv : v < 4294967296) : Calls Tryz.prog 75 #[.int .u32 v] w fun e w' => e = .returned (.int .i64 (v / 16)) ∧ w = w' := by
  obtain ⟨v, rfl⟩ := Int.eq_ofNat_of_zero_le h0
  exact (granule_any v w (by omega)).mono fun e w' h => ⟨h.1.trans (ret_int (by simp)), h.2⟩
/-- Are k bytes from at_ on there, in n? -/
def thr (n at_ : Nat) (k : Int) : Bool := decide (0 ≤ k) && decide ((at_ : Int) + k ≤ n)
theorem there_any (mb : Addr) (A : Option Addr) (n c at_ : Nat) (k : Int) (w : World) (ln : n ≤ 262144) (la : at_ < 4294967296) (hk : -9223372036854775808 ≤ k ∧ k < 9223372036854775808) :
    Calls Tryz.prog 65 #[.agg #[.pointer (some mb), .slice A n c], .int .u32 at_, .int .i64 k] w fun e w' => e = .returned (.bool (thr n at_ k)) ∧ Below w.heap.size w w' := by
  have hb := fun o => Lib.hid ((Below.refl w.heap.size w).alloc (Nat.le_refl _) o)
  obtain ⟨h1, h2⟩ := hk
  by_cases h0 : 0 ≤ k
  · have hs : IntKind.u64.wrap ((at_ : Int) + k) = (at_ : Int) + k := by rw [IntKind.wrap_u64]; omega
    have hk : IntKind.u64.wrap k = k := by rw [IntKind.wrap_u64]; omega
    have hT := Lib.hid (show thr n at_ k = decide ((at_ : Int) + k ≤ n) by simp [thr, h0])
    go_enter Tryz.func65, Tryz.ntmps65
    go_wp2
    go_ret
    refine ⟨ret_bool ?_, (hb _).out⟩
    rw [hT.out]
  · have hT := Lib.hid (show thr n at_ k = false by simp [thr, h0])
    go_enter Tryz.func65, Tryz.ntmps65
    go_wp2
    go_ret
    refine ⟨ret_bool ?_, (hb _).out⟩
    rw [hT.out]
set_option maxRecDepth 100000 in
theorem cut_pos (P : Value) (bb c n at_ k : Nat) (l : List UInt8) (w : World) (hl : l.length = n) (hc : n ≤ c) (h : at_ + k ≤ n) (ln : n ≤ 262144) (h0 : 0 < k) (hcell : ∀ j u, l[j]? = some u → w.cell? ⟨bb, j, none⟩ = some (vb u)) (hbb : bb < w.heap.size) :
    Calls Tryz.prog 66 #[.agg #[P, .slice (some ⟨bb, 0, none⟩) n c], .int .u32 at_, .int .i64 k] w fun e w' => e = .returned (.string ⟨((l.drop at_).take k).toArray⟩) ∧ Below w.heap.size w w' := by
  obtain ⟨w1, hw1⟩ : ∃ w1, w1 = w.alloc (.cells #[P, .slice (some ⟨bb, 0, none⟩) n c] 113) := ⟨_, rfl⟩
  have hb : Below w.heap.size w w1 := by rw [hw1]; exact (Below.refl _ w).alloc (Nat.le_refl _) _
  have hB := Lib.hid hb
  have hconv : (convert 97 9 (.slice (some ⟨bb, at_, none⟩) k (c - at_))).run Tryz.prog w1 = .ok (.string ⟨((l.drop at_).take k).toArray⟩) w1 := by
    have hlen : ((l.drop at_).take k).length = k := by simp; omega
    have := run_convert_bytes_back (P := Tryz.prog) w1 97 9 5 ⟨bb, at_, none⟩ (c - at_) ((l.drop at_).take k) Tryz.underlying97 Tryz.underlying5 Tryz.underlying9 (fun j hj => by
      rw [Addr.add_lit]
      rw [hb.cell (p := ⟨bb, at_ + j, none⟩) hbb]
      rw [hlen] at hj
      refine (hcell (at_ + j) _ ?_).trans rfl
      rw [List.getElem_take, List.getElem_drop]
      exact List.getElem?_eq_getElem _)
    rwa [hlen] at this
  rw [hw1] at hconv hB
  have i1 : (at_ : Int) < c := by omega
  have i2 : (k : Int) ≤ (c : Int) - at_ := by omega
  clear hw1 hb hcell
  go_enter Tryz.func66, Tryz.ntmps66
  go_wp2
  go_ret
  exact ⟨rfl, hB.out⟩
set_option maxRecDepth 100000 in
theorem cut_nil (P : Value) (bb c n at_ : Nat) (w : World) (hc : n ≤ c) (h : at_ ≤ n) (ln : n ≤ 262144) :
    Calls Tryz.prog 66 #[.agg #[P, .slice (some ⟨bb, 0, none⟩) n c], .int .u32 at_, .int .i64 0] w fun e w' => e = .returned (.string ⟨#[]⟩) ∧ Below w.heap.size w w' := by
  obtain ⟨w1, hw1⟩ : ∃ w1, w1 = w.alloc (.cells #[P, .slice (some ⟨bb, 0, none⟩) n c] 113) := ⟨_, rfl⟩
  have hb : Below w.heap.size w w1 := by rw [hw1]; exact (Below.refl _ w).alloc (Nat.le_refl _) _
  have hB := Lib.hid hb
  have hconv : ∀ off cp, (convert 97 9 (.slice (some ⟨bb, off, none⟩) 0 cp)).run Tryz.prog w1 = .ok (.string ⟨#[]⟩) w1 := fun off cp =>
    run_convert_bytes_back (P := Tryz.prog) w1 97 9 5 ⟨bb, off, none⟩ cp [] Tryz.underlying97 Tryz.underlying5 Tryz.underlying9 (fun j hj => absurd hj (by simp))
  rw [hw1] at hB hconv
  clear hw1 hb
  by_cases he : at_ = c
  · subst he
    obtain rfl : n = at_ := by omega
    have h1 := hconv 0 0
    clear hconv
    go_enter Tryz.func66, Tryz.ntmps66
    go_wp2
    go_ret
    exact ⟨rfl, hB.out⟩
  · have h1 := hconv at_ (c - at_)
    have i1 : (at_ : Int) < c := by omega
    clear hconv
    go_enter Tryz.func66, Tryz.ntmps66
    go_wp2
    go_ret
    exact ⟨rfl, hB.out⟩
end Go.Proofs.YtkmgdfcambdeeaaGreatDoor
namespace Go.Proofs.YtkmgdfcambdeeaaGreatDoor
open Go.RowKit
set_option linter.unusedVariables false

section
variable {a mb wb bb c n g : Nat} {f : Nat → Bool} {l : List UInt8} {w : World}
theorem lay_no (at_ k cp : Nat) (A : Option Addr) (B : Option Addr) (la : at_ < 4294967296) (ln : n ≤ 262144) (lk : k < 9223372036854775808) (h : thr n at_ k = false) :
    Calls Tryz.prog 70 #[.agg #[.pointer (some ⟨mb, 0, none⟩), .slice B n c], .int .u32 at_, .slice A k cp] w fun e w' => e = .returned (.bool false) ∧ Below w.heap.size w w' := by
  have hT := Lib.hid (fun w => there_any ⟨mb, 0, none⟩ B n c at_ k w ln la (by omega))
  rw [h] at hT
  have hb := Lib.hid ((Below.refl w.heap.size w).alloc (Nat.le_refl _) (.cells #[.pointer (some ⟨mb, 0, none⟩), .slice B n c] 113))
  have c0 : (w.alloc (.cells #[.pointer (some ⟨mb, 0, none⟩), .slice B n c] 113)).heap.size = w.heap.size + 1 := by simp
  clear h
  go_enter Tryz.func70, Tryz.ntmps70
  go_wp2_with fail
  refine (hT.out _).mono ?_
  rintro e w2 ⟨rfl, hb2⟩
  have hb3 := Lib.hid (hb.out.trans (hb2.mono (by omega)))
  clear hb2 c0
  go_wp2
  go_ret
  exact ⟨rfl, hb3.out⟩
set_option maxRecDepth 100000 in
theorem lay_yes (H : ArAt w a mb wb bb c n g f l) (b : List UInt8) (sb so cp at_ : Nat) (hs : ∀ j u, b[j]? = some u → w.cell? ⟨sb, so + j, none⟩ = some (vb u)) (h0 : 0 < b.length) (h : at_ + b.length ≤ n) :
    Calls Tryz.prog 70 #[.agg #[.pointer (some ⟨mb, 0, none⟩), .slice (some ⟨bb, 0, none⟩) n c], .int .u32 at_, .slice (some ⟨sb, so, none⟩) b.length cp] w (Nxt a mb wb bb c n g (clr f at_ b.length) (ovr l at_ b) w (.bool true)) := by
  have hn : n ≤ 262144 := by have := H.hn; have := H.hi; omega
  have hT := Lib.hid (fun w => there_any ⟨mb, 0, none⟩ (some ⟨bb, 0, none⟩) n c at_ b.length w hn (by omega) (by omega))
  have e1 : thr n at_ b.length = true := by simp [thr]; omega
  rw [e1] at hT
  obtain ⟨w1, hw1⟩ : ∃ w1, w1 = w.alloc (.cells #[.pointer (some ⟨mb, 0, none⟩), .slice (some ⟨bb, 0, none⟩) n c] 113) := ⟨_, rfl⟩
  have hb1 : Below w.heap.size w w1 := by rw [hw1]; exact (Below.refl _ w).alloc (Nat.le_refl _) _
  have s1 : w1.heap.size = w.heap.size + 1 := by rw [hw1]; simp
  have q0 : w1.cell? ⟨w.heap.size, 0, none⟩ = some (.pointer (some ⟨mb, 0, none⟩)) := by rw [hw1]; simp
  have q1 : w1.cell? ⟨w.heap.size, 1, none⟩ = some (.slice (some ⟨bb, 0, none⟩) n c) := by rw [hw1]; simp
  obtain ⟨k, hk⟩ : ∃ k, k = b.length := ⟨_, rfl⟩
  rw [← hk] at h0 h hT ⊢
  have hw := Lib.hid hw1
  have hk' := Lib.hid hk
  have G := Lib.hid (And.intro H (And.intro hb1 (And.intro s1 (And.intro q0 (And.intro q1 hs)))))
  have i1 : (at_ : Int) < c := by have := H.caps.1; omega
  have i2 : (at_ : Int) + k ≤ n := by omega
  clear hw1 hk e1 H hb1 s1 q0 q1 hs
  go_enter Tryz.func70, Tryz.ntmps70
  go_wp2_with fail
  rw [← hw.out]
  refine (hT.out _).mono ?_
  rintro e w2 ⟨rfl, hb2⟩
  obtain ⟨H, hb1, s1, q0, q1, hs⟩ := G.out
  have H2 : ArAt w2 a mb wb bb c n g f l := (H.below hb1).below hb2
  have p0 := (hb2.cell (p := ⟨w.heap.size, 0, none⟩) (by show w.heap.size < _; omega)).trans q0
  have p1 := (hb2.cell (p := ⟨w.heap.size, 1, none⟩) (by show w.heap.size < _; omega)).trans q1
  have hB2 : Below w.heap.size w w2 := hb1.trans (hb2.mono (by omega))
  have hs2 : ∀ j u, b[j]? = some u → w2.cell? ⟨sb, so + j, none⟩ = some (vb u) := fun j u hu => by
    have h1 := hs j u hu
    exact (hB2.cell (p := ⟨sb, so + j, none⟩) (World.block_lt_of_cell? w ⟨sb, so + j, none⟩ h1)).trans h1
  obtain ⟨cur, hc, hcs⟩ := H2.row
  have hlen : cur.toList.length = cur.size := by simp
  have G2 := Lib.hid (And.intro H2 (And.intro hB2 (And.intro hs2 (And.intro hc hcs))))
  have sz := Lib.hid (show w.heap.size + 1 ≤ w2.heap.size by have := hb2.size; omega)
  clear hs q0 q1 hb1 H hb2 hT hB2 hs2 hc hcs H2 s1
  obtain ⟨w3, hrun, hL, hO, hsz, hcell⟩ : ∃ w3, (Builtin.copy_ #[97, 97] 3 #[.slice (some ⟨bb, at_, none⟩) (n - at_) (c - at_), .slice (some ⟨sb, so, none⟩) k cp]).run Tryz.prog w2 = .ok (.int .i64 (k : Int)) w3 ∧
      ArAt w3 a mb wb bb c n g f (ovr l at_ b) ∧ Of2 w.heap.size wb bb w w3 ∧ w3.heap.size = w2.heap.size ∧ ∀ o, w3.cell? ⟨w.heap.size, o, none⟩ = w2.cell? ⟨w.heap.size, o, none⟩ := by
    have hlb : (b.map vb).length = k := by rw [List.length_map, hk'.out]
    have hrun := run_copy_row (P := Tryz.prog) w2 97 97 3 5 bb at_ (n - at_) (c - at_) ⟨sb, so, none⟩ k cp cur 5 (b.map vb) Tryz.underlying97 (by kernel_rfl) G2.out.2.2.2.1 (by rw [hlb]; exact (Nat.min_eq_left (by omega)).symm)
      (fun j v hv => by
        rw [List.getElem?_map] at hv
        rw [Addr.add_lit]
        obtain ⟨u, hu, rfl⟩ := Option.map_eq_some_iff.1 hv
        exact G2.out.2.2.1 j u hu) (by have := G2.out.2.2.2.2; omega) (fun v hv => by
        obtain ⟨u, _, rfl⟩ := List.mem_map.1 hv
        rfl)
    refine ⟨_, hrun.trans (by rw [hlb, List.append_assoc]; rfl), G2.out.1.lay (k := at_) (b := b) (by rw [← hk'.out]; omega) G2.out.2.2.2.1, (Of2.of_below (x := wb) (y := bb) G2.out.2.1).setRow (g := bb) (.inr (.inr rfl)) _, by simp [World.setRow], fun o => World.cell?_of_block (Go.setRow_other w2 bb w.heap.size _ (by have := G.out.1.lb; omega))⟩
  have r0 := (hcell 0).trans p0
  have r1 := (hcell 1).trans p1
  have hL' := Lib.hid hL
  have hO' := Lib.hid hO
  have hsz' := Lib.hid hsz
  have hb' := Lib.hid hw
  clear hL hO hsz hcell
  have hgr := Lib.hid (fun (v : Int) w (h : 0 ≤ v ∧ v < 4294967296) => granule_int v w h.1 h.2)
  have j1 : (k : Int) ≤ 262144 := by omega
  have j2 : (at_ : Int) < 262144 := by omega
  have j3 : 0 < (k : Int) := by omega
  go_wp2_with fail
  have t1 : IntKind.u32.wrap (k : Int) = k := by rw [IntKind.wrap_u32]; omega
  have t2 : IntKind.u32.wrap ((at_ : Int) + k) = at_ + k := by rw [IntKind.wrap_u32]; omega
  have t3 : IntKind.u32.wrap ((at_ : Int) + k - 1) = at_ + k - 1 := by rw [IntKind.wrap_u32]; omega
  have t4 : IntKind.i64.wrap (((at_ : Int) + k - 1) / 16 + 1) = ((at_ : Int) + k - 1) / 16 + 1 := by rw [IntKind.wrap_i64]; omega
  go_still_tail 11, (by kernel_rfl)
  repeat still_step
  still_call ((hgr.out (at_ : Int) _ (by omega)).mono fun e w' h => ⟨h.1, h.2.symm⟩)
  repeat still_step
  still_call ((hgr.out ((at_ : Int) + k - 1) _ (by omega)).mono fun e w' h => ⟨h.1, h.2.symm⟩)
  repeat still_step
  refine wpStill_nil ?_
  change wpList _ _ _ _ _ w3.drew
  have hL2 := Lib.hid hL'.out.drew
  have hO2 := Lib.hid hO'.out.drew
  have hsz2 := Lib.hid (show w3.drew.heap.size = w2.heap.size from hsz'.out)
  generalize w3.drew = w4 at hL2 hO2 hsz2 ⊢
  have hC := Lib.hid (clear_any mb wb g (at_ / 16) ((at_ + k - 1) / 16 + 1) f ((at_ : Int) / 16) (((at_ : Int) + k - 1) / 16 + 1) w4 hL2.out.m (by omega) (by omega) (by omega) (by have := hL2.out.hn; omega))
  clear r0 r1 p0 p1
  go_wp2_with fail
  refine hC.out.mono ?_
  rintro e w5 ⟨rfl, hm, ho⟩
  have hE := Lib.hid (And.intro (hL2.out.map hm ho) (hO2.out.trans (Of2.of_off (ho.mono (by have := hsz2.out; have := sz.out; omega)))))
  clear hm ho hC
  go_wp2
  go_ret
  refine ⟨rfl, hE.out.1.ext (fun j => ?_) rfl, hE.out.2⟩
  simp only [clr, tch, inr]
  congr 2
  rw [Bool.eq_iff_iff]
  simp
  omega
set_option maxRecDepth 100000 in
theorem lay_zero (A : Option Addr) (cp at_ : Nat) (hc : n ≤ c) (ln : n ≤ 262144) (h : at_ ≤ n) (w : World) :
    Calls Tryz.prog 70 #[.agg #[.pointer (some ⟨mb, 0, none⟩), .slice (some ⟨bb, 0, none⟩) n c], .int .u32 at_, .slice A 0 cp] w fun e w' => e = .returned (.bool true) ∧ Below w.heap.size w w' := by
  have hT := Lib.hid (fun w => there_any ⟨mb, 0, none⟩ (some ⟨bb, 0, none⟩) n c at_ 0 w ln (by omega) (by omega))
  have e1 : thr n at_ 0 = true := by simp [thr]; omega
  rw [e1] at hT
  obtain ⟨w1, hw1⟩ : ∃ w1, w1 = w.alloc (.cells #[.pointer (some ⟨mb, 0, none⟩), .slice (some ⟨bb, 0, none⟩) n c] 113) := ⟨_, rfl⟩
  have hb1 : Below w.heap.size w w1 := by rw [hw1]; exact (Below.refl _ w).alloc (Nat.le_refl _) _
  have s1 : w1.heap.size = w.heap.size + 1 := by rw [hw1]; simp
  have q0 : w1.cell? ⟨w.heap.size, 0, none⟩ = some (.pointer (some ⟨mb, 0, none⟩)) := by rw [hw1]; simp
  have q1 : w1.cell? ⟨w.heap.size, 1, none⟩ = some (.slice (some ⟨bb, 0, none⟩) n c) := by rw [hw1]; simp
  have hw := Lib.hid hw1
  have G := Lib.hid (And.intro hb1 (And.intro s1 (And.intro q0 q1)))
  have i2 : (at_ : Int) ≤ n := by omega
  have hcp := fun off d1 d2 w => run_copy_none (P := Tryz.prog) w 97 97 3 5 (some ⟨bb, off, none⟩) A d1 d2 0 cp Tryz.underlying97 (by kernel_rfl) (Nat.zero_min _)
  clear hw1 e1 hb1 s1 q0 q1
  by_cases he : at_ = c
  all_goals
    first
      | (obtain rfl : n = at_ := by omega
         subst he)
      | (have i1 : (at_ : Int) < c := by omega)
    go_enter Tryz.func70, Tryz.ntmps70
    go_wp2_with fail
    rw [← hw.out]
    refine (hT.out _).mono ?_
    rintro e w2 ⟨rfl, hb2⟩
    obtain ⟨hb1, s1, q0, q1⟩ := G.out
    have p0 := (hb2.cell (p := ⟨w.heap.size, 0, none⟩) (by show w.heap.size < _; omega)).trans q0
    have p1 := (hb2.cell (p := ⟨w.heap.size, 1, none⟩) (by show w.heap.size < _; omega)).trans q1
    have hB2 := Lib.hid (hb1.trans (hb2.mono (by omega)))
    clear hb1 s1 q0 q1 hb2
    go_wp2
    go_ret
    exact ⟨rfl, hB2.out⟩
end
end Go.Proofs.YtkmgdfcambdeeaaGreatDoor
namespace Go.Proofs.YtkmgdfcambdeeaaGreatDoor
open Go.RowKit
set_option linter.unusedVariables false

/-- The tags, the bytes, when s is written at at_. -/
def stF (n : Nat) (f : Nat → Bool) (at_ k : Nat) : Nat → Bool := if thr n at_ k then clr f at_ k else f
def stL (n : Nat) (l : List UInt8) (at_ : Nat) (s : List UInt8) : List UInt8 := if thr n at_ s.length then ovr l at_ s else l
theorem thr_iff {n at_ k : Nat} : thr n at_ (k : Int) = true ↔ at_ + k ≤ n := by simp [thr]; omega
theorem stL_nil (n : Nat) (l : List UInt8) (at_ : Nat) : stL n l at_ [] = l := by simp [stL, ovr_nil]
theorem stF_zero (n : Nat) (f : Nat → Bool) (at_ : Nat) : stF n f at_ 0 = f := by simp [stF, clr_zero]
section
variable {a mb wb bb c n g : Nat} {f : Nat → Bool} {l : List UInt8} {w : World}
theorem ArAt.ln (H : ArAt w a mb wb bb c n g f l) : n ≤ 262144 := by have := H.hn; have := H.hi; omega
theorem ArAt.l0 (H : ArAt w a mb wb bb c n g f l) : 4096 ≤ n := by have := H.hn; have := H.lo; omega
theorem aown (H : ArAt w a mb wb bb c n g f l) : Calls Tryz.prog 64 #[.pointer (some ⟨a, 0, none⟩)] w fun e w' => e = .returned (.agg #[.pointer (some ⟨mb, 0, none⟩), .slice (some ⟨bb, 0, none⟩) n c]) ∧ Below w.heap.size w w' :=
  own_any a _ _ n c w H.q0 H.q1 H.la
theorem afield (mb bb n c : Nat) : ∀ w, (Instr.field 113 (.agg #[.pointer (some ⟨mb, 0, none⟩), .slice (some ⟨bb, 0, none⟩) n c]) 1).run Tryz.prog w = .ok (.slice (some ⟨bb, 0, none⟩) n c) w := fun w => by kernel_rfl
set_option maxRecDepth 100000 in
theorem asize_any (H : ArAt w a mb wb bb c n g f l) : Calls Tryz.prog 25 #[.pointer (some ⟨a, 0, none⟩)] w fun e w' => e = .returned (.int .i64 n) ∧ Below w.heap.size w w' := by
  have hO := Lib.hid (aown H)
  have hf := afield mb bb n c
  clear H
  go_enter Tryz.func25, Tryz.ntmps25
  go_wp2_with fail
  refine hO.out.mono ?_
  rintro e w2 ⟨rfl, hb⟩
  have hB := Lib.hid hb
  clear hb
  go_wp2
  go_ret
  exact ⟨rfl, hB.out⟩
set_option maxRecDepth 100000 in
theorem aload_any (H : ArAt w a mb wb bb c n g f l) (at_ : Nat) (k : Int) (la : at_ < 4294967296) : Calls Tryz.prog 57 #[.pointer (some ⟨a, 0, none⟩), .int .u32 at_, .int .i64 k] w fun e w' => e = .returned (.tuple #[.int .u32 (getB l at_ k : Nat), .bool (inB n at_ k)]) ∧ Below w.heap.size w w' := by
  have hO := Lib.hid (aown H)
  have hG : ∀ w', Below w.heap.size w w' → Calls Tryz.prog 112 #[.slice (some ⟨bb, 0, none⟩) n c, .int .i64 at_, .int .i64 k] w' fun e w' => e = .returned (.tuple #[.int .u32 (getB l at_ k : Nat), .bool (inB n at_ k)]) ∧ Below w.heap.size w w' := fun w' hb => by
    have H' := H.below hb
    have := get_any (some ⟨bb, 0, none⟩) l w'.heap.size c at_ k w' H'.rb (by have := H.len; have := H.ln; omega) (by rw [H.len]; exact H.caps.1) (by omega)
    rw [H.len] at this
    exact this.mono fun e w'' ⟨h1, k, h2⟩ => ⟨h1, h2 ▸ below_drewN hb k⟩
  have hG' := Lib.hid hG
  have hf := afield mb bb n c
  clear H hG
  go_enter Tryz.func57, Tryz.ntmps57
  go_wp2_with fail
  refine hO.out.mono ?_
  rintro e w2 ⟨rfl, hb⟩
  have hB := Lib.hid hb
  clear hb
  go_wp2_with fail
  refine (hG'.out w2 hB.out).mono ?_
  rintro e w3 ⟨rfl, hb⟩
  have hB3 := Lib.hid hb
  clear hb
  go_wp2
  go_ret2
  exact ⟨rfl, hB3.out⟩
theorem aread_yes (H : ArAt w a mb wb bb c n g f l) (at_ : Nat) (k : Nat) (la : at_ < 4294967296) (h : at_ + k ≤ n) : Calls Tryz.prog 24 #[.pointer (some ⟨a, 0, none⟩), .int .u32 at_, .int .i64 k] w fun e w' => e = .returned (.tuple #[.string ⟨((l.drop at_).take k).toArray⟩, .bool true]) ∧ Below w.heap.size w w' := by
  have hO := Lib.hid (aown H)
  have hT := Lib.hid (fun w => there_any ⟨mb, 0, none⟩ (some ⟨bb, 0, none⟩) n c at_ k w H.ln la (by have := H.ln; omega))
  rw [thr_iff.2 h] at hT
  have hC : ∀ w', Below w.heap.size w w' → Calls Tryz.prog 66 #[.agg #[.pointer (some ⟨mb, 0, none⟩), .slice (some ⟨bb, 0, none⟩) n c], .int .u32 at_, .int .i64 k] w' fun e w'' => e = .returned (.string ⟨((l.drop at_).take k).toArray⟩) ∧ Below w'.heap.size w' w'' := fun w' hb => by
    have H' := H.below hb
    rcases Nat.eq_zero_or_pos k with rfl | h0
    · rw [List.take_zero]
      exact cut_nil _ bb c n at_ w' H.caps.1 (by omega) H.ln
    · exact cut_pos _ bb c n at_ k l w' H.len H.caps.1 h H.ln h0 (fun j u hu => H'.cell hu) H'.lb
  have hC' := Lib.hid hC
  clear H h hC
  go_enter Tryz.func24, Tryz.ntmps24
  go_wp2_with fail
  refine hO.out.mono ?_
  rintro e w2 ⟨rfl, hb⟩
  have hb2 := Lib.hid (hb.alloc hb.size (.cells #[.pointer (some ⟨mb, 0, none⟩), .slice (some ⟨bb, 0, none⟩) n c] 113))
  obtain ⟨w3, hw3⟩ : ∃ w3, w3 = w2.alloc (.cells #[.pointer (some ⟨mb, 0, none⟩), .slice (some ⟨bb, 0, none⟩) n c] 113) := ⟨_, rfl⟩
  have q0 : w3.cell? ⟨w2.heap.size, 0, none⟩ = some (.pointer (some ⟨mb, 0, none⟩)) := by rw [hw3]; simp
  have q1 : w3.cell? ⟨w2.heap.size, 1, none⟩ = some (.slice (some ⟨bb, 0, none⟩) n c) := by rw [hw3]; simp
  have s3 : w3.heap.size = w2.heap.size + 1 := by rw [hw3]; simp
  have hsz := hb.size
  have hw := Lib.hid hw3
  have G := Lib.hid (And.intro q0 (And.intro q1 (And.intro s3 hsz)))
  clear hb hw3 q0 q1 s3 hsz
  go_wp2_with fail
  rw [← hw.out] at hb2 ⊢
  refine (hT.out _).mono ?_
  rintro e w4 ⟨rfl, hb⟩
  have p0 := (hb.cell (p := ⟨w2.heap.size, 0, none⟩) (by show w2.heap.size < _; have := G.out.2.2.1; omega)).trans G.out.1
  have p1 := (hb.cell (p := ⟨w2.heap.size, 1, none⟩) (by show w2.heap.size < _; have := G.out.2.2.1; omega)).trans G.out.2.1
  have hb4 := Lib.hid (hb2.out.trans (hb.mono (by have := G.out.2.2; omega)))
  clear hb
  go_wp2_with fail
  refine (hC'.out w4 hb4.out).mono ?_
  rintro e w5 ⟨rfl, hb⟩
  have hb5 := Lib.hid (hb4.out.trans (hb.mono hb4.out.size))
  clear hb p0 p1
  go_wp2
  go_ret2
  exact ⟨rfl, hb5.out⟩
/-- What lies at s's bytes is laid into the arena. -/
theorem alay_any (H : ArAt w a mb wb bb c n g f l) (s : List UInt8) (sb cp at_ : Nat) (la : at_ < 4294967296) (ls : s.length < 9223372036854775808) (hs : ∀ j u, s[j]? = some u → w.cell? ⟨sb, j, none⟩ = some (vb u)) :
    Calls Tryz.prog 70 #[.agg #[.pointer (some ⟨mb, 0, none⟩), .slice (some ⟨bb, 0, none⟩) n c], .int .u32 at_, .slice (some ⟨sb, 0, none⟩) s.length cp] w (Nxt a mb wb bb c n g (stF n f at_ s.length) (stL n l at_ s) w (.bool (thr n at_ s.length))) := by
  rcases ht : thr n at_ s.length with _ | _
  · have := lay_no (w := w) (mb := mb) (c := c) at_ s.length cp (some ⟨sb, 0, none⟩) (some ⟨bb, 0, none⟩) la H.ln ls ht
    refine this.mono fun e w' h => ?_
    simp only [stF, stL, ht]
    exact nxt_below H h
  · have h := thr_iff.1 ht
    simp only [stF, stL, ht, if_true]
    rcases Nat.eq_zero_or_pos s.length with h0 | h0
    · have e0 : s = [] := List.eq_nil_of_length_eq_zero h0
      subst e0
      rw [List.length_nil, clr_zero, ovr_nil]
      exact (lay_zero (some ⟨sb, 0, none⟩) cp at_ H.caps.1 H.ln (by simpa using h) w).mono fun e w' h => nxt_below H h
    · exact lay_yes H s sb 0 cp at_ (fun j u hu => by rw [Nat.zero_add]; exact hs j u hu) h0 h
theorem putB_nil (k : Int) (v : Nat) : (putB [] k v).length = if isW k then k.toNat else 0 := by
  unfold putB; split <;> simp [leB_length]
theorem astore_any (H : ArAt w a mb wb bb c n g f l) (k : Int) (v at_ : Nat) (la : at_ < 4294967296) (lv : v < 4294967296) :
    Calls Tryz.prog 30 #[.pointer (some ⟨a, 0, none⟩), .int .u32 at_, .int .i64 k, .int .u32 v] w (Nxt a mb wb bb c n g (stF n f at_ (putB [] k v).length) (stL n l at_ (putB [] k v)) w (.bool (isW k && thr n at_ (putB [] k v).length))) := by
  have hP := Lib.hid (put_any [] k v w (by simp) lv)
  have hO := Lib.hid (fun w' (hb : Below w.heap.size w w') => aown (H.below hb))
  have hH := Lib.hid H
  rcases hk : isW k with _ | _
  · have e0 : putB [] k v = [] := by simp [putB, hk]
    rw [e0] at hP ⊢
    rw [List.length_nil, stF_zero, stL_nil, Bool.false_and]
    clear H hk e0
    go_enter Tryz.func30, Tryz.ntmps30
    go_wp2_with fail
    refine hP.out.mono ?_
    rintro e w2 ⟨rfl, hb⟩
    have hE := Lib.hid (nxt_below hH.out ⟨rfl, hb⟩ (v := .bool false))
    clear hb
    go_wp2
    go_ret
    exact hE.out
  · have hw := isW_cases hk
    have hl : 0 < (putB [] k v).length := by rw [putB_nil, if_pos hk]; omega
    have hl2 : (putB [] k v).length < 9223372036854775808 := by rw [putB_nil, if_pos hk]; omega
    rw [Bool.true_and]
    generalize putB [] k v = s at *
    have hse : ¬ s = [] := fun e => by rw [e] at hl; simp at hl
    have hconv : ∀ w, (convert 9 97 (.string ⟨s.toArray⟩)).run Tryz.prog w = .ok (.slice (some ⟨w.heap.size, 0, none⟩) s.length (grownCap w s.length 0 5)) (Lib.bytesWorld w 5 ⟨s.toArray⟩) := fun w => Lib.run_convert_string_bytes w _ _ _ _ Tryz.underlying9 Tryz.underlying97 Tryz.underlying5
    have ls' := Lib.hid hl2
    clear H hk hw hl hl2
    go_enter Tryz.func30, Tryz.ntmps30
    go_wp2_with fail
    refine hP.out.mono ?_
    rintro e w2 ⟨rfl, hb⟩
    have hB := Lib.hid hb
    clear hb
    go_wp2_with fail
    refine (hO.out w2 hB.out).mono ?_
    rintro e w3 ⟨rfl, hb⟩
    have hB3 := Lib.hid (hB.out.trans (hb.mono hB.out.size))
    clear hb
    go_wp2_with fail
    have hB2 := bw_below w3 5 ⟨s.toArray⟩
    have H3 := (hH.out.below hB3.out).below hB2
    refine (alay_any H3 s _ _ at_ la ls'.out (fun j u hu => bw_cell w3 5 s j u hu)).mono ?_
    rintro e w4 ⟨rfl, h3, o3⟩
    have hE := Lib.hid (And.intro h3 ((Of2.of_below (hB3.out.trans (hB2.mono hB3.out.size))).step o3))
    clear h3 o3 H3 hB2
    go_wp2
    go_ret
    refine ⟨ret_bool ?_, hE.out⟩
    cases s with
    | nil => exact absurd rfl hse
    | cons x xs => rfl
end
end Go.Proofs.YtkmgdfcambdeeaaGreatDoor
namespace Go.Proofs.YtkmgdfcambdeeaaGreatDoor
open Go.RowKit
set_option linter.unusedVariables false

/-- What stays where nothing old is written. -/
def Stay (T : World → Prop) : Prop := ∀ w w', T w → Below w.heap.size w w' → T w'
/-- What an operation leaves in the frame at the end. -/
def slotOf (aF : Act) (o : Oper) : Value := match o.dst with | some d => aF.tmps.getD d undef | none => undef
def ptr (b : Nat) : Value := .pointer (some ⟨b, 0, none⟩)
/-- Each of the first n operations has a slot of its own. -/
def ownB (ops : Array Oper) (n sz : Nat) : Bool :=
  (List.range n).all fun i => match ops[i]? with
    | some o => match o.dst with
      | some d => decide (d < sz) && (List.range n).all fun j => j == i || decide (((ops[j]?).bind (·.dst)) ≠ some d)
      | none => false
    | none => false
theorem ownB_dst {ops : Array Oper} {n sz : Nat} (h : ownB ops n sz = true) {i : Nat} (hi : i < n) : ∃ o d, ops[i]? = some o ∧ o.dst = some d ∧ d < sz ∧ ∀ j oj, j < n → ops[j]? = some oj → j ≠ i → oj.dst ≠ some d := by
  have h1 := List.all_eq_true.1 h i (List.mem_range.2 hi)
  split at h1
  · rename_i o ho
    split at h1
    · rename_i d hd
      simp only [Bool.and_eq_true, decide_eq_true_eq] at h1
      refine ⟨o, d, ho, hd, h1.1, fun j oj hj hoj hji he => ?_⟩
      have h2 := List.all_eq_true.1 h1.2 j (List.mem_range.2 hj)
      simp only [Bool.or_eq_true, beq_iff_eq, decide_eq_true_eq, hji, false_or, hoj, Option.bind_some] at h2
      exact h2 he
    · cases h1
  · cases h1

section
variable {P : Program} {ops : Array Oper} {md : Region.Mode} {S : World → Prop} {aF : Act} {q n : Nat}

/-- In every class that is no wider and stays, the operation leaves v. -/
def YAll (P : Program) (ops : Array Oper) (S : World → Prop) (o : Oper) (v : Value) (a : Act) : Prop :=
  ∀ S' : World → Prop, (∀ w, S' w → S w) → Stay S' → YieldsIn P ops (fun w' => ∃ y : Wd S', w' = y.w) o v a
theorem YAll.put {o oj : Oper} {v u : Value} {a : Act} (h : YAll P ops S o v a) (hs : ∀ cs b, o.op ≠ .select cs b) (h3 : ∀ a' : Act, execOp (a'.put oj.dst u).eval o = execOp a'.eval o) (h4 : ∀ a' : Act, Region.wanted o (yielded ops (a'.put oj.dst u).tmps) = Region.wanted o (yielded ops a'.tmps)) : YAll P ops S o v (a.put oj.dst u) :=
  fun S' h1 h2 => (h S' h1 h2).of_same (h3 a) (h4 a)
theorem YAll.unput {o oj : Oper} {v u : Value} {a : Act} (h : YAll P ops S o v (a.put oj.dst u)) (h3 : ∀ a' : Act, execOp (a'.put oj.dst u).eval o = execOp a'.eval o) (h4 : ∀ a' : Act, Region.wanted o (yielded ops (a'.put oj.dst u).tmps) = Region.wanted o (yielded ops a'.tmps)) : YAll P ops S o v a :=
  fun S' h1 h2 => (h S' h1 h2).of_same (h3 a).symm (h4 a).symm

/-- Which values an operation may leave. -/
def Val (aF : Act) (q i : Nat) (o : Oper) (v : Value) : Prop := (i < q ∧ v = slotOf aF o) ∨ (¬ i < q ∧ ∃ b, v = ptr b)
theorem Val.some (aF : Act) (q i : Nat) (o : Oper) : ∃ v, Val aF q i o v := by
  by_cases h : i < q
  · exact ⟨_, .inl ⟨h, rfl⟩⟩
  · exact ⟨ptr 0, .inr ⟨h, 0, rfl⟩⟩

def anyF (P : Program) (md : Region.Mode) (ops : Array Oper) (S : World → Prop) (aF : Act) (q n : Nat) (L : Array Bool → Act → Prop) : Nat → Array Bool → Act → Prop
  | 0, s, a => L s a
  | f + 1, s, a => Region.ready md ops s ≠ [] ∧ ∀ i ∈ Region.ready md ops s, i < n ∧ ∃ o, ops[i]? = some o ∧ (i < q → YAll P ops S o (slotOf aF o) a) ∧ ∀ v, Val aF q i o v → anyF P md ops S aF q n L f (s.setIfInBounds i true) (a.put o.dst v)

theorem anyF_first {i : Nat} {oi : Oper} {L : Array Bool → Act → Prop} (hi : ops[i]? = some oi) (hsel : ∀ (j : Nat) (o : Oper) cs b, ops[j]? = some o → o.op ≠ .select cs b)
    (hs : Region.sinkB md ops n = true) (hc : Region.chainB md ops n = true) (hn : n < ops.size) (hin : i < n) (hdone : ∀ s a, L s a → ∀ j ∈ Region.ready md ops s, n ≤ j) :
    ∀ (f : Nat) (s : Array Bool) (a : Act), HeadInv md ops n s →
      (∀ j oj, ops[j]? = some oj → j ≠ i → s.getD j true = false → (∀ e ∈ oj.after, Region.binds md e = true → e.on ≠ i) → oi.apart ops oj = true) →
      i ∈ Region.ready md ops s → (i < q → YAll P ops S oi (slotOf aF oi) a) → (∀ v, Val aF q i oi v → anyF P md ops S aF q n L f (s.setIfInBounds i true) (a.put oi.dst v)) → anyF P md ops S aF q n L (f + 1) s a := by
  intro f
  induction f with
  | zero =>
    intro s a inv _ hr hy H
    refine ⟨fun h => (by rw [h] at hr; cases hr), fun j hj => ?_⟩
    have hjn : j < n := Nat.lt_of_not_le fun h => tail_waits hs hc hn inv _ i rfl hin (mem_ready.1 hr).1 j h hj
    by_cases hji : j = i
    · subst hji; exact ⟨hjn, oi, hi, hy, H⟩
    · obtain ⟨v, hv⟩ := Val.some aF q i oi
      have := hdone _ _ (H v hv) j (ready_mono hj hji)
      omega
  | succ f ih =>
    intro s a inv hfree hr hy H
    have hun := (mem_ready.1 hr).1
    refine ⟨fun h => (by rw [h] at hr; cases hr), fun j hj => ?_⟩
    have hjn : j < n := Nat.lt_of_not_le fun h => tail_waits hs hc hn inv _ i rfl hin hun j h hj
    refine ⟨hjn, ?_⟩
    by_cases hji : j = i
    · subst hji; exact ⟨oi, hi, hy, H⟩
    · obtain ⟨hjun, oj, hoj, hall⟩ := mem_ready.1 hj
      have hnot : ∀ e ∈ oj.after, Region.binds md e = true → e.on ≠ i := fun e he hb heq => by
        have h1 := hall e he hb
        rw [heq, getD_both hun] at h1
        cases h1
      obtain ⟨h1, h2, h3⟩ := Oper.apart_spec (hfree j oj hoj hji hjun hnot)
      have hsi := fun cs b => hsel i oi cs b hi
      have hsj := fun cs b => hsel j oj cs b hoj
      obtain ⟨v0, hv0⟩ := Val.some aF q i oi
      obtain ⟨_, o', ho', hok, _⟩ := (H v0 hv0).2 j (ready_mono hj hji)
      obtain rfl : o' = oj := Option.some.inj (ho'.symm.trans hoj)
      refine ⟨o', hoj, fun hjq => (hok hjq).unput (fun a' => execOp_put o' hsj a' oi.dst v0 h1) (fun a' => wanted_put o' a' oi.dst v0 h1), fun u hu => ?_⟩
      refine ih (s.setIfInBounds j true) (a.put o'.dst u) (inv.set hj hjn) (fun k ok hk hki hku hno => hfree k ok hk hki ?_ hno) (ready_mono hr (Ne.symm hji))
        (fun hiq => (hy hiq).put hsi (fun a' => execOp_put oi hsi a' o'.dst u h3) (fun a' => wanted_put oi a' o'.dst u h3)) (fun v hv => ?_)
      · by_cases hjk : j = k
        · subst hjk; exact hjun
        · rw [getD_set_ne true hjk] at hku; exact hku
      · obtain ⟨_, o'', ho'', _, hK⟩ := (H v hv).2 j (ready_mono hj hji)
        obtain rfl : o'' = o' := Option.some.inj (ho''.symm.trans hoj)
        have := hK u hu
        rw [Act.put_comm a v u h2] at this
        rw [Array.setIfInBounds_comm _ _ hji]
        exact this

theorem put_ne {a : Act} {x : Option Tmp} {d : Tmp} (v : Value) (h : x ≠ some d) : (a.put x v).tmps.getD d undef = a.tmps.getD d undef := by
  cases x with
  | none => rfl
  | some e =>
    have hne : e ≠ d := fun k => h (by rw [k])
    simp [Act.put, Array.getElem?_setIfInBounds_ne hne]
theorem put_same {a : Act} {d : Tmp} (v : Value) (h : d < a.tmps.size) : (a.put (some d) v).tmps.getD d undef = v := by
  simp [Act.put, h]
theorem put_size (a : Act) (x : Option Tmp) (v : Value) : (a.put x v).tmps.size = a.tmps.size := by
  cases x <;> simp [Act.put]
theorem quiet_slot {C : World → Prop} {d : Tmp} : ∀ (l : List Oper) (a : Act), (∀ o, o ∈ l → o.dst ≠ some d) → wpQuiet P ops C (fun a' => a' = aF) l a → aF.tmps.getD d undef = a.tmps.getD d undef
  | [], a, _, h => by rw [show a = aF from h]
  | o :: l, a, hl, h => by
    unfold wpQuiet at h
    split at h
    · obtain ⟨v, _, hn⟩ := h
      rw [quiet_slot l _ (fun o' ho' => hl o' (List.mem_cons_of_mem _ ho')) hn, put_ne v (hl o (List.mem_cons_self ..))]
    · rw [quiet_slot l _ (fun o' ho' => hl o' (List.mem_cons_of_mem _ ho')) h, put_ne _ (hl o (List.mem_cons_self ..))]

/-- The new blocks' slots. -/
def putL : Act → List Oper → List Nat → Act
  | a, o :: os, b :: bs => putL (a.put o.dst (ptr b)) os bs
  | a, _, _ => a
theorem putL_ne {d : Tmp} : ∀ (os : List Oper) (bs : List Nat) (a : Act), (∀ o, o ∈ os → o.dst ≠ some d) → (putL a os bs).tmps.getD d undef = a.tmps.getD d undef
  | o :: os, b :: bs, a, h => by
    rw [putL, putL_ne os bs _ fun o' ho' => h o' (List.mem_cons_of_mem _ ho')]
    exact put_ne _ (h o (List.mem_cons_self ..))
  | [], _, a, h => rfl
  | o :: os, [], a, h => rfl
theorem putL_get {sz : Nat} : ∀ (os : List Oper) (bs : List Nat) (a : Act) (k : Nat) (o : Oper) (d : Tmp) (b : Nat), a.tmps.size = sz → d < sz → os[k]? = some o → o.dst = some d → bs[k]? = some b →
    (∀ j oj, os[j]? = some oj → j ≠ k → oj.dst ≠ some d) → (putL a os bs).tmps.getD d undef = ptr b
  | [], _, _, k, o, d, b, _, _, h, _, _, _ => by simp at h
  | o' :: os, [], _, k, o, d, b, _, _, _, _, h, _ => by simp at h
  | o' :: os, b' :: bs, a, 0, o, d, b, hz, hd, h1, h2, h3, h4 => by
    simp at h1 h3
    subst h1 h3
    rw [putL, putL_ne os bs _ fun o1 ho1 => by
      obtain ⟨j, hj⟩ := List.getElem?_of_mem ho1
      exact h4 (j + 1) o1 (by simpa using hj) (by omega), h2]
    exact put_same _ (by rw [hz]; exact hd)
  | o' :: os, b' :: bs, a, k + 1, o, d, b, hz, hd, h1, h2, h3, h4 => by
    rw [putL]
    exact putL_get os bs _ k o d b (by rw [put_size, hz]) hd (by simpa using h1) h2 (by simpa using h3) fun j oj hj hne => h4 (j + 1) oj (by simpa using hj) (by omega)

theorem anyF_news {g : Nat} {news : List Oper} (hsel : Region.noSelect ops = true) (hs : Region.sinkB md ops n = true) (hc : Region.chainB md ops n = true) (hn : n < ops.size) :
    ∀ (l : List Oper) (k : Nat) (s : Array Bool) (a : Act), (∀ j, j < l.length → l[j]? = ops[k + j]?) → q ≤ k → k + l.length = n → HeadInv md ops n s →
    Region.lexHead md ops g l.length k s = true → (∀ cs : List Nat, cs.length = l.length → ∃ bs : List Nat, bs.length = news.length ∧ putL a l cs = putL aF news bs) →
    anyF P md ops S aF q n (fun s' a' => Region.seqB md ops g n s' = true ∧ HeadInv md ops n s' ∧ ∃ bs : List Nat, bs.length = news.length ∧ a' = putL aF news bs) l.length s a
  | [], k, s, a, _, _, hk, inv, hB, hT => by
    obtain rfl : k = n := by simpa using hk
    obtain ⟨bs, h1, h2⟩ := hT [] rfl
    exact ⟨by simpa [Region.lexHead] using hB, inv, bs, h1, h2⟩
  | o :: l, k, s, a, hl, hq, hk, inv, hB, hT => by
    have h0 : ops[k]? = some o := by simpa using (hl 0 (by simp)).symm
    simp only [List.length_cons, Region.lexHead, Bool.and_eq_true] at hB
    simp only [List.length_cons] at hk
    have hr : k ∈ Region.ready md ops s := by simpa using hB.1.1
    refine anyF_first h0 (Region.noSelect_spec hsel) hs hc hn (by omega) (fun s' a' hL => seqB_ready hL.1) l.length s a inv (Region.free_spec h0 hB.1.2) hr (fun h => absurd h (by omega)) (fun v hv => ?_)
    rcases hv with ⟨hv, _⟩ | ⟨_, b, rfl⟩
    · omega
    refine anyF_news hsel hs hc hn l (k + 1) _ _ (fun j hj => by have := hl (j + 1) (by simp; omega); simpa [Nat.add_assoc, Nat.add_comm 1 j] using this) (by omega) (by omega) (inv.set hr (by omega)) hB.2 (fun cs hcs => ?_)
    obtain ⟨bs, h1, h2⟩ := hT (b :: cs) (by simp [hcs])
    exact ⟨bs, h1, by rw [← h2, putL]⟩

theorem anyF_head {g sz : Nat} {news : List Oper} (hsel : Region.noSelect ops = true) (hs : Region.sinkB md ops n = true) (hc : Region.chainB md ops n = true) (hn : n < ops.size) (hown : ownB ops n sz = true) (hqn : q + news.length = n) :
    ∀ (hd : List Oper) (k : Nat) (s : Array Bool) (a : Act), (∀ j, j < (hd ++ news).length → (hd ++ news)[j]? = ops[k + j]?) → k + hd.length = q → HeadInv md ops n s →
    Region.lexHead md ops g (hd ++ news).length k s = true → a.tmps.size = sz →
    (∀ S' : World → Prop, (∀ w, S' w → S w) → Stay S' → wpQuiet P ops (fun w' => ∃ y : Wd S', w' = y.w) (fun a' => a' = aF) hd a) →
    anyF P md ops S aF q n (fun s' a' => Region.seqB md ops g n s' = true ∧ HeadInv md ops n s' ∧ ∃ bs : List Nat, bs.length = news.length ∧ a' = putL aF news bs) (hd ++ news).length s a
  | [], k, s, a, hl, hk, inv, hB, hz, hW => by
    obtain rfl : a = aF := hW (fun _ => False) (fun _ h => h.elim) (fun _ _ h => h.elim)
    exact anyF_news hsel hs hc hn news k s a (by simpa using hl) (by simp at hk; omega) (by simp at hk; omega) inv (by simpa using hB) fun cs hcs => ⟨cs, hcs, rfl⟩
  | o :: hd, k, s, a, hl, hk, inv, hB, hz, hW => by
    have h0 : ops[k]? = some o := by simpa using (hl 0 (by simp)).symm
    simp only [List.cons_append, List.length_cons, Region.lexHead, Bool.and_eq_true] at hB
    simp only [List.length_cons] at hk
    have hr : k ∈ Region.ready md ops s := by simpa using hB.1.1
    have hl' : ∀ j, j < (hd ++ news).length → (hd ++ news)[j]? = ops[k + 1 + j]? := fun j hj => by have := hl (j + 1) (by simp at hj ⊢; omega); simpa [Nat.add_assoc, Nat.add_comm 1 j] using this
    obtain ⟨o', d, ho', hdst, hd1, hd2⟩ := ownB_dst hown (show k < n by omega)
    obtain rfl : o' = o := Option.some.inj (ho'.symm.trans h0)
    have hoth : ∀ o2, o2 ∈ hd → o2.dst ≠ some d := fun o2 ho2 => by
      obtain ⟨j, hj⟩ := List.getElem?_of_mem ho2
      have hjl : j < hd.length := (List.getElem?_eq_some_iff.1 hj).1
      have := hl' j (by simp; omega)
      rw [List.getElem?_append_left hjl, hj] at this
      exact hd2 (k + 1 + j) o2 (by omega) this.symm (by omega)
    have key : ∀ S' : World → Prop, (∀ w, S' w → S w) → Stay S' → YieldsIn P ops (fun w' => ∃ y : Wd S', w' = y.w) o' (slotOf aF o') a ∧ wpQuiet P ops (fun w' => ∃ y : Wd S', w' = y.w) (fun a' => a' = aF) hd (a.put o'.dst (slotOf aF o')) := fun S' h1 h2 => by
      obtain ⟨v, hy, hK⟩ := yieldsIn_of_qOp h0 (show qOp P ops (fun w' => ∃ y : Wd S', w' = y.w) k (wpQuiet P ops (fun w' => ∃ y : Wd S', w' = y.w) (fun a' => a' = aF) hd) a by unfold qOp; simp only [h0]; exact hW S' h1 h2)
      have e := quiet_slot hd _ hoth hK
      rw [hdst, put_same v (by rw [hz]; exact hd1)] at e
      have e2 : slotOf aF o' = v := by unfold slotOf; rw [hdst]; exact e
      rw [e2]
      exact ⟨hy, hK⟩
    refine anyF_first h0 (Region.noSelect_spec hsel) hs hc hn (by omega) (fun s' a' hL => seqB_ready hL.1) (hd ++ news).length s a inv (Region.free_spec h0 hB.1.2) hr (fun _ S' h1 h2 => (key S' h1 h2).1) (fun v hv => ?_)
    rcases hv with ⟨_, rfl⟩ | ⟨hv, _⟩
    · exact anyF_head hsel hs hc hn hown hqn hd (k + 1) _ _ hl' (by omega) (inv.set hr (by omega)) hB.2 (by rw [put_size, hz]) fun S' h1 h2 => (key S' h1 h2).2
    · omega

theorem Rw.below {x : Rw} {w w' : World} (h : x.at w) (k : Below w.heap.size w w') : x.at w' :=
  ((KR.mk (Below.refl _ _) (fun y hy => by obtain rfl := List.mem_singleton.1 hy; exact h) : KR w [x] w).below k).al x (List.mem_singleton.2 rfl)

/-- What holds on the way: the class, and the blocks that have come up. -/
structure Inv (ops : Array Oper) (S : World → Prop) (z : Nat → List Value) (B0 q n sz : Nat) (s : Array Bool) (a : Act) (w : World) : Prop where
  hS : S w
  hB : B0 ≤ w.heap.size
  hz : a.tmps.size = sz
  al : ∀ k o d, ops[q + k]? = some o → q + k < n → s.getD (q + k) false = true → o.dst = some d → ∃ b, a.tmps.getD d undef = ptr b ∧ (⟨b, z k⟩ : Rw).at w ∧ B0 ≤ b
  di : ∀ j k oj ok dj dk, j ≠ k → ops[q + j]? = some oj → ops[q + k]? = some ok → q + j < n → q + k < n → s.getD (q + j) false = true → s.getD (q + k) false = true → oj.dst = some dj → ok.dst = some dk → a.tmps.getD dj undef ≠ a.tmps.getD dk undef
theorem ptr_inj {a b : Nat} (h : ptr a = ptr b) : a = b := by
  unfold ptr at h
  injection h with h
  injection h with h
  injection h

theorem anyF_out {g sz B0 : Nat} {z : Nat → List Value} {L : Array Bool → Act → Prop} {Q : Exit → Act → World → Prop} (hown : ownB ops n sz = true) (hSt : Stay S)
    (hNew : ∀ k o, ops[q + k]? = some o → q + k < n → o.guard = none ∧ ∃ ty, ∀ (a : Act) w, (execOp a.eval o).run P w = .ok (.value (ptr w.heap.size)) (w.alloc (.cells (z k).toArray ty)))
    (hL : ∀ s a w, Inv ops S z B0 q n sz s a w → L s a → wpAny P md ops Q g s a w) :
    ∀ (f : Nat) (s : Array Bool) (a : Act) (w : World), Inv ops S z B0 q n sz s a w → anyF P md ops S aF q n L f s a → wpAny P md ops Q (f + g) s a w
  | 0, s, a, w, hi, h => by rw [Nat.zero_add]; exact hL _ _ _ hi h
  | f + 1, s, a, w, hi, h => by
    rw [show f + 1 + g = (f + g) + 1 by omega]
    refine ⟨fun h0 => absurd h0 h.1, fun i hir => ?_⟩
    obtain ⟨hin, o, ho, hok, hK⟩ := h.2 i hir
    obtain ⟨o', d, ho', hdst, hd1, hd2⟩ := ownB_dst hown hin
    obtain rfl : o' = o := Option.some.inj (ho'.symm.trans ho)
    have hun := (mem_ready.1 hir).1
    by_cases hq : i < q
    · have hcl : ∀ w', (S w' ∧ B0 ≤ w'.heap.size ∧ ∀ k o d b, ops[q + k]? = some o → q + k < n → s.getD (q + k) false = true → o.dst = some d → a.tmps.getD d undef = ptr b → (⟨b, z k⟩ : Rw).at w') →
          Inv ops S z B0 q n sz (s.setIfInBounds i true) (a.put o'.dst (slotOf aF o')) w' := fun w' ⟨g1, g2, g3⟩ => by
        have hs : ∀ k ok dk, ops[q + k]? = some ok → q + k < n → ok.dst = some dk → (a.put o'.dst (slotOf aF o')).tmps.getD dk undef = a.tmps.getD dk undef := fun k ok dk hk hkn hdk =>
          put_ne _ (by rw [hdst]; intro e; rw [Option.some.inj e] at hd2; exact hd2 (q + k) ok hkn hk (by omega) hdk)
        refine ⟨g1, g2, by rw [put_size]; exact hi.hz, fun k ok dk hk hkn hkl hdk => ?_, fun j k oj ok dj dk hjk hj hk hjn hkn hjl hkl hdj hdk => ?_⟩
        · rw [getD_set_ne false (by omega)] at hkl
          obtain ⟨b, e1, e2, e3⟩ := hi.al k ok dk hk hkn hkl hdk
          exact ⟨b, by rw [hs k ok dk hk hkn hdk]; exact e1, g3 k ok dk b hk hkn hkl hdk e1, e3⟩
        · rw [getD_set_ne false (by omega)] at hjl hkl
          rw [hs j oj dj hj hjn hdj, hs k ok dk hk hkn hdk]
          exact hi.di j k oj ok dj dk hjk hj hk hjn hkn hjl hkl hdj hdk
      have hy := hok hq (fun w' => S w' ∧ B0 ≤ w'.heap.size ∧ ∀ k o d b, ops[q + k]? = some o → q + k < n → s.getD (q + k) false = true → o.dst = some d → a.tmps.getD d undef = ptr b → (⟨b, z k⟩ : Rw).at w')
        (fun w' h => h.1) (fun w1 w2 ⟨g1, g2, g3⟩ hb => ⟨hSt _ _ g1 hb, Nat.le_trans g2 hb.size, fun k o d b h1 h2 h3 h4 h5 => Rw.below (g3 k o d b h1 h2 h3 h4 h5) hb⟩)
      have hrow : ∀ k o d b, ops[q + k]? = some o → q + k < n → s.getD (q + k) false = true → o.dst = some d → a.tmps.getD d undef = ptr b → (⟨b, z k⟩ : Rw).at w := fun k o d b h1 h2 h3 h4 h5 => by
        obtain ⟨b', e1, e2, _⟩ := hi.al k o d h1 h2 h3 h4
        rw [h5] at e1
        rw [ptr_inj e1]
        exact e2
      refine wpOp_of_qOp (K := fun a' => a' = a.put o'.dst (slotOf aF o')) ⟨⟨w, hi.hS, hi.hB, hrow⟩, rfl⟩ (fun a' w' hw' ha' => ?_) (hy.qOp ho rfl)
      obtain ⟨y, rfl⟩ := hw'
      subst ha'
      exact anyF_out hown hSt hNew hL f _ _ _ (hcl y.w y.h) (hK _ (.inl ⟨hq, rfl⟩))
    · obtain ⟨k, rfl⟩ : ∃ k, i = q + k := ⟨i - q, by omega⟩
      obtain ⟨hg, ty, hrun⟩ := hNew k o' ho hin
      have hsz : s.size > q + k := by
        refine Nat.lt_of_not_le fun hle => ?_
        simp [Array.getElem?_eq_none hle] at hun
      unfold wpOp
      simp only [ho]
      rw [if_pos (by simp [Region.wanted, hg])]
      refine .inl ?_
      unfold Oper.wp
      rw [hrun a w]
      refine anyF_out hown hSt hNew hL f _ _ _ ?_ (hK _ (.inr ⟨hq, _, rfl⟩))
      have hbl := (Below.refl w.heap.size w).alloc (Nat.le_refl _) (.cells (z k).toArray ty)
      have hs : ∀ j oj dj, j ≠ k → ops[q + j]? = some oj → q + j < n → oj.dst = some dj → (a.put o'.dst (ptr w.heap.size)).tmps.getD dj undef = a.tmps.getD dj undef := fun j oj dj hjk hj hjn hdj =>
        put_ne _ (by rw [hdst]; intro e; rw [Option.some.inj e] at hd2; exact hd2 (q + j) oj hjn hj (by omega) hdj)
      have hme : (a.put o'.dst (ptr w.heap.size)).tmps.getD d undef = ptr w.heap.size := by rw [hdst]; exact put_same _ (by rw [hi.hz]; exact hd1)
      have hfar : ∀ j oj dj, ops[q + j]? = some oj → q + j < n → s.getD (q + j) false = true → oj.dst = some dj → a.tmps.getD dj undef ≠ ptr w.heap.size := fun j oj dj hj hjn hjl hdj e => by
        obtain ⟨b, e1, e2, _⟩ := hi.al j oj dj hj hjn hjl hdj
        rw [e1] at e
        have := e2.1
        rw [ptr_inj e] at this
        exact Nat.lt_irrefl _ this
      refine ⟨hSt _ _ hi.hS hbl, Nat.le_trans hi.hB hbl.size, by rw [put_size]; exact hi.hz, fun j oj dj hj hjn hjl hdj => ?_, fun j1 j2 o1 o2 d1 d2 hne h1 h2 hn1 hn2 hl1 hl2 hd1' hd2' => ?_⟩
      · by_cases hjk : j = k
        · subst hjk
          obtain rfl : oj = o' := Option.some.inj (hj.symm.trans ho)
          obtain rfl : dj = d := Option.some.inj (hdj.symm.trans hdst)
          exact ⟨w.heap.size, hme, Rw.new w (z j) ty, hi.hB⟩
        · rw [getD_set_ne false (by omega)] at hjl
          obtain ⟨b, e1, e2, e3⟩ := hi.al j oj dj hj hjn hjl hdj
          exact ⟨b, by rw [hs j oj dj hjk hj hjn hdj]; exact e1, Rw.below e2 hbl, e3⟩
      · by_cases e1 : j1 = k
        · subst e1
          obtain rfl : o1 = o' := Option.some.inj (h1.symm.trans ho)
          obtain rfl : d1 = d := Option.some.inj (hd1'.symm.trans hdst)
          rw [getD_set_ne false (by omega)] at hl2
          rw [hme, hs j2 o2 d2 (Ne.symm hne) h2 hn2 hd2']
          exact Ne.symm (hfar j2 o2 d2 h2 hn2 hl2 hd2')
        · rw [getD_set_ne false (by omega)] at hl1
          rw [hs j1 o1 d1 e1 h1 hn1 hd1']
          by_cases e2 : j2 = k
          · subst e2
            obtain rfl : o2 = o' := Option.some.inj (h2.symm.trans ho)
            obtain rfl : d2 = d := Option.some.inj (hd2'.symm.trans hdst)
            rw [hme]
            exact hfar j1 o1 d1 h1 hn1 hl1 hd1'
          · rw [getD_set_ne false (by omega)] at hl2
            rw [hs j2 o2 d2 e2 h2 hn2 hd2']
            exact hi.di j1 j2 o1 o2 d1 d2 hne h1 h2 hn1 hn2 hl1 hl2 hd1' hd2'
end

/-- The region: q operations that read or call what writes nothing old; m new blocks; the rest in the order of the text. -/
theorem new_any {P : Program} (S : World → Prop) {Q : Exit → Act → World → Prop} {a aF : Act} {w : World} {l : List Oper} (q m : Nat) (z : Nat → List Value) (B0 : Nat)
    (hB : (Region.lexTailB .any l.toArray (q + m) && ownB l.toArray (q + m) a.tmps.size) = true) (h0 : S w.drew) (hB0 : B0 ≤ w.drew.heap.size) (hSt : Stay S)
    (hNew : ∀ k o, k < m → l[q + k]? = some o → o.guard = none ∧ ∃ ty, ∀ (a : Act) w, (execOp a.eval o).run P w = .ok (.value (ptr w.heap.size)) (w.alloc (.cells (z k).toArray ty)))
    (hW : ∀ S' : World → Prop, (∀ w, S' w → S w) → Stay S' → wpQuiet P l.toArray (fun w' => ∃ y : Wd S', w' = y.w) (fun a' => a' = aF) (l.take q) a)
    (hT : ∀ (bs : List Nat) (w' : World), bs.length = m → S w' → (∀ k b, bs[k]? = some b → (⟨b, z k⟩ : Rw).at w' ∧ B0 ≤ b) → (∀ (j k b c : Nat), j < k → bs[j]? = some b → bs[k]? = some c → b ≠ c) → wpList P l.toArray Q (l.drop (q + m)) (putL aF ((l.drop q).take m) bs) w') :
    wpAny P .any l.toArray Q l.toArray.size (Array.replicate l.toArray.size false) a w.drew := by
  rw [Bool.and_eq_true] at hB
  obtain ⟨hB, hown⟩ := hB
  simp only [Region.lexTailB, Bool.and_eq_true, decide_eq_true_eq] at hB
  obtain ⟨⟨⟨⟨hsel, hn⟩, hs⟩, hc⟩, hlex⟩ := hB
  have hn' : q + m < l.length := by simpa using hn
  have hln : ((l.drop q).take m).length = m := by simp; omega
  have hlq : (l.take q).length = q := by simp; omega
  have happ : l.take q ++ (l.drop q).take m = l.take (q + m) := by rw [List.take_add]
  have htl : (l.take q ++ (l.drop q).take m).length = q + m := by rw [List.length_append, hlq, hln]
  have hdl : (l.drop (q + m)).length = l.toArray.size - (q + m) := by simp
  have inv0 : HeadInv .any l.toArray (q + m) (Array.replicate l.toArray.size false) :=
    ⟨by simp, fun j oj _ hl => (by rw [getD_replicate_false] at hl; cases hl), fun t _ ht => getD_in (by simpa using ht) (getD_replicate_false _ _)⟩
  have H := anyF_head (P := P) (S := S) (aF := aF) (md := .any) (q := q) (g := l.toArray.size - (q + m)) hsel hs hc hn hown (news := (l.drop q).take m) (by rw [hln]) (l.take q) 0 (Array.replicate l.toArray.size false) a (fun j hj => by
    rw [happ]
    have hj' : j < q + m := by rw [htl] at hj; exact hj
    simp [hj']) (by rw [hlq, Nat.zero_add]) inv0 (by rw [htl]; exact hlex) rfl hW
  have nk : ∀ k o, l.toArray[q + k]? = some o → q + k < q + m → ((l.drop q).take m)[k]? = some o := fun k o ho hk => by
    rw [List.getElem?_take_of_lt (by omega), List.getElem?_drop]
    simpa using ho
  have := anyF_out (Q := Q) (g := l.toArray.size - (q + m)) (B0 := B0) (z := z) hown hSt (fun k o ho hk => hNew k o (by omega) (by simpa using ho)) (fun s a' w' hi hL => by
    obtain ⟨hseq, hinv, bs, hbl, rfl⟩ := hL
    have hlist : ∀ i, i < q + m → s.getD i false = true := fun i hi' => by
      cases e : s.getD i false with
      | true => rfl
      | false =>
        have hr : q + m ∈ Region.ready .any l.toArray s := by
          have e : l.toArray.size - (q + m) = (l.toArray.size - (q + m) - 1) + 1 := by omega
          rw [e] at hseq
          simp only [Region.seqB, Bool.and_eq_true, decide_eq_true_eq] at hseq
          rw [hseq.1]; simp
        exact absurd hr (tail_waits hs hc hn hinv _ i rfl hi' (getD_in (by rw [hinv.size]; omega) e) (q + m) (Nat.le_refl _))
    have hget : ∀ k b, bs[k]? = some b → ∃ o d, l.toArray[q + k]? = some o ∧ k < m ∧ o.dst = some d ∧ (putL aF ((l.drop q).take m) bs).tmps.getD d undef = ptr b := fun k b hb => by
      have hk : k < m := by have := (List.getElem?_eq_some_iff.1 hb).1; omega
      obtain ⟨o, d, ho, hdst, hd1, hd2⟩ := ownB_dst hown (show q + k < q + m by omega)
      refine ⟨o, d, ho, hk, hdst, putL_get (sz := a.tmps.size) _ _ _ k o d b ?_ hd1 (nk k o ho (by omega)) hdst hb fun j oj hj hjk => ?_⟩
      · have hh := hi.hz
        have : ∀ (os : List Oper) (bs : List Nat) (x : Act), (putL x os bs).tmps.size = x.tmps.size := fun os => by
          induction os with
          | nil => intro bs x; cases bs <;> rfl
          | cons o os ih => intro bs x; cases bs with
            | nil => rfl
            | cons b bs => rw [putL, ih, put_size]
        rwa [this] at hh
      · have hjm : j < m := by have := (List.getElem?_eq_some_iff.1 hj).1; omega
        rw [List.getElem?_take_of_lt hjm, List.getElem?_drop] at hj
        exact hd2 (q + j) oj (by omega) (by simpa using hj) (by omega)
    have := wpAny_of_seq (md := .any) (Q' := Q) (l.drop (q + m)) (q + m) s _ w' (fun j => by simp [List.getElem?_drop]) (by rw [hdl]; exact hseq) (hT bs w' (by rw [hbl, hln]) hi.hS (fun k b hb => by
      obtain ⟨o, d, ho, hk, hdst, e⟩ := hget k b hb
      obtain ⟨b', e1, e2, e3⟩ := hi.al k o d ho (by omega) (hlist _ (by omega)) hdst
      rw [e] at e1
      rw [ptr_inj e1]
      exact ⟨e2, e3⟩) (fun j k b c hjk hj1 hk1 => by
        obtain ⟨o1, d1, ho1, hm1, hdst1, e1⟩ := hget j _ hj1
        obtain ⟨o2, d2, ho2, hm2, hdst2, e2⟩ := hget k _ hk1
        have hne := hi.di j k o1 o2 d1 d2 (by omega) ho1 ho2 (by omega) (by omega) (hlist _ (by omega)) (hlist _ (by omega)) hdst1 hdst2
        rw [e1, e2] at hne
        intro e
        exact hne (by rw [e])))
    rwa [hdl] at this) _ _ _ w.drew ⟨h0, hB0, rfl, fun k o d _ _ hl => (by rw [getD_replicate_false] at hl; cases hl), fun j k oj ok dj dk _ _ _ _ _ hl => (by rw [getD_replicate_false] at hl; cases hl)⟩ H
  rw [htl, show q + m + (l.toArray.size - (q + m)) = l.toArray.size by omega] at this
  exact this
theorem region_new {P : Program} (S : World → Prop) {id : Nat} {Q : Exit → Act → World → Prop} {a aF : Act} {w : World} {l : List Oper} (q m : Nat) (z : Nat → List Value) (B0 : Nat) (hm : P.follows .mixedOrders = true)
    (hB : (Region.lexTailB .any l.toArray (q + m) && ownB l.toArray (q + m) a.tmps.size) = true) (h0 : S w.drew) (hB0 : B0 ≤ w.drew.heap.size) (hSt : Stay S)
    (hNew : ∀ k o, k < m → l[q + k]? = some o → o.guard = none ∧ ∃ ty, ∀ (a : Act) w, (execOp a.eval o).run P w = .ok (.value (ptr w.heap.size)) (w.alloc (.cells (z k).toArray ty)))
    (hW : ∀ S' : World → Prop, (∀ w, S' w → S w) → Stay S' → wpQuiet P l.toArray (fun w' => ∃ y : Wd S', w' = y.w) (fun a' => a' = aF) (l.take q) a)
    (hT : ∀ (bs : List Nat) (w' : World), bs.length = m → S w' → (∀ k b, bs[k]? = some b → (⟨b, z k⟩ : Rw).at w' ∧ B0 ≤ b) → (∀ (j k b c : Nat), j < k → bs[j]? = some b → bs[k]? = some c → b ≠ c) → wpList P l.toArray Q (l.drop (q + m)) (putL aF ((l.drop q).take m) bs) w') :
    (Code.region id l.toArray true).wp P Q a w := wp_region_any hm (new_any S q m z B0 hB h0 hB0 hSt hNew hW hT)
end Go.Proofs.YtkmgdfcambdeeaaGreatDoor
