/- Contracts of the document's answers for layer caps: Within, Holds, Meets, Make. No statement is proved here. -/
import Derived.Test.YthniimefocjamaaCapS
namespace Go.Proofs.Ythniimefocjamaa
open Go.RowKit
set_option linter.unusedVariables false

/-- Does a region lie within bounds? -/
def hoP (x y : Int) (at_ sz : Nat) : Bool := decide (x ≤ at_ ∧ (at_ : Int) + sz ≤ y)
def meP (x y : Int) (at_ sz : Nat) : Bool := decide (max x at_ < min y ((at_ : Int) + sz))
def wiP (pm pm' : Nat) (x y x' y' : Int) : Bool := decide (pm &&& pm' = pm ∧ (y ≤ x ∨ (x' ≤ x ∧ y ≤ y')))
theorem de_bounds (e b t c : Nat) : 0 ≤ deB e b t c ∧ deB e b t c ≤ 4294967295 ∧ deB e b t c ≤ deT e b t c ∧ deT e b t c ≤ 4294967296 := by
  have h := te_bounds e b t c
  unfold deB deT
  split <;> omega

theorem may_of' {b t : Nat} (hb : b ≤ t) (ht : t ≤ 4294967296) : may b t = true := decide_eq_true ⟨hb, ht⟩

theorem rWithin_any (cu e b t pm ty rs : Nat) (va : Bool) (cu' e' b' t' pm' ty' rs' : Nat) (va' : Bool) (W : World) (l0 : cu < 4294967296) (l0' : cu' < 4294967296) (l4 : pm < 65536) (l4' : pm' < 65536) :
    Calls Try.prog 75 #[.agg #[.int .u32 cu, .int .u8 e, .int .u16 b, .int .u16 t, .int .u16 pm, .int .u16 ty, .int .u32 rs, .bool va], .agg #[.int .u32 cu', .int .u8 e', .int .u16 b', .int .u16 t', .int .u16 pm', .int .u16 ty', .int .u32 rs', .bool va']] W fun ee w' => ee = .returned (.bool (wiP pm pm' (deB e b t cu) (deT e b t cu) (deB e' b' t' cu') (deT e' b' t' cu'))) ∧ Below W.heap.size W w' := by
  have hR := Lib.hid (fun w => rRange_any cu e b t pm ty rs va w l0)
  have hR' := Lib.hid (fun w => rRange_any cu' e' b' t' pm' ty' rs' va' w l0')
  have hand := u16_and_nat pm pm' l4 l4'
  have hbd := de_bounds e b t cu
  have hbd' := de_bounds e' b' t' cu'
  generalize deB e b t cu = x at *
  generalize deT e b t cu = y at *
  generalize deB e' b' t' cu' = x' at *
  generalize deT e' b' t' cu' = y' at *
  have hw : wiP pm pm' x y x' y' = (decide (pm &&& pm' = pm) && (decide (y ≤ x) || (decide (x' ≤ x) && decide (y ≤ y')))) := by
    rw [Bool.eq_iff_iff]; simp [wiP]
  rw [hw]
  generalize pm &&& pm' = q at *
  obtain ⟨b1, b2, b3, b4⟩ := hbd
  obtain ⟨c1, c2, c3, c4⟩ := hbd'
  go_enter Try.func75, Try.ntmps75
  go_wp2_with fail
  refine (hR.out _).mono ?_
  rintro ee w1 ⟨rfl, h1⟩
  have p0 : w1.cell? ⟨W.heap.size + 1, 0, none⟩ = some (.int .u32 cu') := (h1.cell (by simp <;> omega)).trans (by simp [go_sem])
  have p1 : w1.cell? ⟨W.heap.size + 1, 1, none⟩ = some (.int .u8 e') := (h1.cell (by simp <;> omega)).trans (by simp [go_sem])
  have p2 : w1.cell? ⟨W.heap.size + 1, 2, none⟩ = some (.int .u16 b') := (h1.cell (by simp <;> omega)).trans (by simp [go_sem])
  have p3 : w1.cell? ⟨W.heap.size + 1, 3, none⟩ = some (.int .u16 t') := (h1.cell (by simp <;> omega)).trans (by simp [go_sem])
  have p4 : w1.cell? ⟨W.heap.size + 1, 4, none⟩ = some (.int .u16 pm') := (h1.cell (by simp <;> omega)).trans (by simp [go_sem])
  have p5 : w1.cell? ⟨W.heap.size + 1, 5, none⟩ = some (.int .u16 ty') := (h1.cell (by simp <;> omega)).trans (by simp [go_sem])
  have p6 : w1.cell? ⟨W.heap.size + 1, 6, none⟩ = some (.int .u32 rs') := (h1.cell (by simp <;> omega)).trans (by simp [go_sem])
  have p7 : w1.cell? ⟨W.heap.size + 1, 7, none⟩ = some (.bool va') := (h1.cell (by simp <;> omega)).trans (by simp [go_sem])
  have r4 : w1.cell? ⟨W.heap.size, 4, none⟩ = some (.int .u16 pm) := (h1.cell (by simp <;> omega)).trans (by simp [go_sem])
  have hs := Lib.hid (show W.heap.size + 2 ≤ w1.heap.size from by have := h1.size; simp at this; omega)
  have hb := Lib.hid ((((Below.refl W.heap.size W).alloc (Nat.le_refl _) (.cells #[.int .u32 cu, .int .u8 e, .int .u16 b, .int .u16 t, .int .u16 pm, .int .u16 ty, .int .u32 rs, .bool va] 25)).alloc (by simp) (.cells #[.int .u32 cu', .int .u8 e', .int .u16 b', .int .u16 t', .int .u16 pm', .int .u16 ty', .int .u32 rs', .bool va'] 25)).trans (h1.mono (by simp <;> omega)))
  clear h1
  go_wp2_with fail
  refine (hR'.out _).mono ?_
  rintro ee w2 ⟨rfl, h2⟩
  have hs' := hs.out
  replace r4 : w2.cell? ⟨W.heap.size, 4, none⟩ = some (.int .u16 pm) := (h2.cell (by show W.heap.size < _; omega)).trans r4
  replace p4 : w2.cell? ⟨W.heap.size + 1, 4, none⟩ = some (.int .u16 pm') := (h2.cell (by show W.heap.size + 1 < _; omega)).trans p4
  replace hb := Lib.hid (hb.out.trans (h2.mono hb.out.size))
  clear h2 p0 p1 p2 p3 p5 p6 p7 hs hs'
  go_wp2_with fail
  all_goals go_ret
  all_goals
    refine ⟨ret_bool ?_, hb.out⟩
    rw [Bool.eq_iff_iff]
    simp
    omega
/-- Is there a capability of just this region, with these permissions? -/
def mkP (at_ sz pm : Nat) : Bool := decide (pm ≤ 255 ∧ at_ + sz ≤ 4294967296) && enX at_ (at_ + sz)
end Go.Proofs.Ythniimefocjamaa
