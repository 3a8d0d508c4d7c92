/- Contracts of layer bounds: what the parts tell. No statement is proved here. -/
import Derived.Test.YtchonkkflklckaaBndA
namespace Go.Proofs.Ytchonkkflklckaa
open Go.RowKit
set_option linter.unusedVariables false

theorem hi_num (c e : Nat) : (c : Int) / 2 ^ (e + 12) = (c : Int) / ((2 ^ e : Nat) * 4096) := by
  rw [Int.pow_add, cast_pow]; rfl
theorem mid_num (c e : Nat) : IntKind.u16.wrap (((c : Int) / 2 ^ e).tmod 4096) = (c : Int) / (2 ^ e : Nat) % 4096 := by
  rw [cast_pow, IntKind.wrap_u16, Int.tmod_eq_emod_of_nonneg (Int.ediv_nonneg (Int.natCast_nonneg _) (Int.natCast_nonneg _))]
  generalize (c : Int) / ((2 ^ e : Nat) : Int) = r
  omega
theorem isB_of {e b t c : Nat} (he : e ≤ 21) (hb : b < 4096) (ht : t < 4096) : isB e b t c = decide (0 ≤ plc (2 ^ e : Nat) b c b ∧ plc (2 ^ e : Nat) b c b ≤ plc (2 ^ e : Nat) b c t ∧ plc (2 ^ e : Nat) b c t ≤ 4294967296) := by
  simp [isB, he, hb, ht]

theorem two_cells {W : World} {b : Nat} {x0 x1 : Value} (p0 p1 v0 v1 : Value) (q0 : W.cell? ⟨b, 0, none⟩ = some x0) (q1 : W.cell? ⟨b, 1, none⟩ = some x1) :
    ((((W.setCell ⟨b, 0, none⟩ p0).setCell ⟨b, 1, none⟩ p1).setCell ⟨b, 0, none⟩ v0).setCell ⟨b, 1, none⟩ v1).cell? ⟨b, 0, none⟩ = some v0 ∧
    ((((W.setCell ⟨b, 0, none⟩ p0).setCell ⟨b, 1, none⟩ p1).setCell ⟨b, 0, none⟩ v0).setCell ⟨b, 1, none⟩ v1).cell? ⟨b, 1, none⟩ = some v1 := by
  have a0 : ∀ (W : World) (u : Value), (W.setCell ⟨b, 1, none⟩ u).cell? ⟨b, 0, none⟩ = W.cell? ⟨b, 0, none⟩ := fun W u => World.cell?_setCell_other _ _ _ _ (by simp)
  have a1 : ∀ (W : World) (u : Value), (W.setCell ⟨b, 0, none⟩ u).cell? ⟨b, 1, none⟩ = W.cell? ⟨b, 1, none⟩ := fun W u => World.cell?_setCell_other _ _ _ _ (by simp)
  have s0 : (W.setCell ⟨b, 0, none⟩ p0).cell? ⟨b, 0, none⟩ = some p0 := World.cell?_setCell_same' _ _ _ (by rw [q0]; rfl)
  have s1 : ((W.setCell ⟨b, 0, none⟩ p0).setCell ⟨b, 1, none⟩ p1).cell? ⟨b, 1, none⟩ = some p1 := World.cell?_setCell_same' _ _ _ (by rw [a1, q1]; rfl)
  constructor
  · rw [a0]; exact World.cell?_setCell_same' _ _ _ (by rw [a0, s0]; rfl)
  · exact World.cell?_setCell_same' _ _ _ (by rw [a1, s1]; rfl)

end Go.Proofs.Ytchonkkflklckaa
