/- Contracts of layer bounds: the two closures of tell. No statement is proved here.; Contracts of layer bounds: what the parts tell. No statement is proved here. -/
import Derived.Test.YticfpnhfhhagpaaDoorChecked
import Derived.Test.YticfpnhfhhagpaaDoormh
import Derived.Test.YticfpnhfhhagpaaDoorma
import Derived.WalkSpells
import Derived.WalkLawsBesides
import Derived.Deep.QuietTactic
import Derived.BigQuiet
import Derived.Handy
import Derived.Below
import Derived.Laws.Bits64b
import Derived.Laws.BitsLemmas
import Derived.Lib.Hide
import Derived.Deep.OwnRows
import Derived.Deep.RegionWith
import Derived.StillTailTactics
namespace Go.Proofs.YticfpnhfhhagpaaDoor
open Go.RowKit
set_option linter.unusedVariables false


theorem trn_two (x g : Int) : trn x g = 0 ∨ trn x g = 1 := by unfold trn; split <;> simp
theorem pow_le21 {e : Nat} (he : e ≤ 21) : 2 ^ e ≤ 2097152 := by
  have := Nat.pow_le_pow_right (n := 2) (by decide) he
  simpa using this
theorem cast_pow (e : Nat) : ((2 : Int) ^ e) = ((2 ^ e : Nat) : Int) := by simp
theorem e12 {e : Nat} (he : e ≤ 21) : (2 : Int) ^ min (IntKind.u8.wrap ((e : Int) + 12)).toNat 64 = ((2 ^ e : Nat) : Int) * 4096 := by
  have h : min (IntKind.u8.wrap ((e : Int) + 12)).toNat 64 = e + 12 := by rw [IntKind.wrap_u8']; omega
  rw [h, Int.pow_add, cast_pow]
  rfl
theorem e64 {e : Nat} (he : e ≤ 21) : (2 : Int) ^ min e 64 = ((2 ^ e : Nat) : Int) := by
  rw [show min e 64 = e from by omega, cast_pow]
theorem place_num {e x c : Nat} (he : e ≤ 21) (hx : x < 65536) (hc : c < 4294967296) (g m : Int) :
    IntKind.i64.wrap (IntKind.i64.wrap (IntKind.i64.wrap (IntKind.i64.wrap ((c : Int) / ((2 ^ e : Nat) * 4096) + trn x g) - trn m g) * 2 ^ min (IntKind.u8.wrap ((e : Int) + 12)).toNat 64) + IntKind.i64.wrap (IntKind.i64.wrap x * 2 ^ min e 64))
      = ((c : Int) / ((2 ^ e : Nat) * 4096) + trn x g - trn m g) * ((2 ^ e : Nat) * 4096) + x * (2 ^ e : Nat) := by
  rw [e12 he, e64 he]
  have hU := pow_le21 he
  have hU1 := pow_pos2 e
  generalize 2 ^ e = U at *
  have hd : 0 ≤ (c : Int) / ((U : Int) * 4096) := Int.ediv_nonneg (by omega) (by omega)
  have hm : (c : Int) / ((U : Int) * 4096) * ((U : Int) * 4096) ≤ c := Int.ediv_mul_le _ (by omega)
  have hm0 : 0 ≤ (c : Int) / ((U : Int) * 4096) * ((U : Int) * 4096) := Int.mul_nonneg hd (by omega)
  have hd2 : (c : Int) / ((U : Int) * 4096) ≤ c := Int.ediv_le_self _ (by omega)
  have hxU : (x : Int) * U ≤ 65536 * 2097152 := Int.mul_le_mul (by omega) (by omega) (by omega) (by omega)
  have hxU0 : 0 ≤ (x : Int) * U := Int.mul_nonneg (by omega) (by omega)
  generalize hq : (c : Int) / ((U : Int) * 4096) = q at *
  have a := trn_two x g
  have b := trn_two m g
  generalize trn x g = r at *
  generalize trn m g = s at *
  have h1 : IntKind.i64.wrap (q + r) = q + r := by rw [IntKind.wrap_i64]; omega
  have h2 : IntKind.i64.wrap (q + r - s) = q + r - s := by rw [IntKind.wrap_i64]; omega
  have h3 : (q + r - s) * ((U : Int) * 4096) = q * ((U : Int) * 4096) + (r - s) * ((U : Int) * 4096) := by rw [← Int.add_mul]; congr 1; omega
  have h3b : (r - s) * ((U : Int) * 4096) ≤ (U : Int) * 4096 ∧ -((U : Int) * 4096) ≤ (r - s) * ((U : Int) * 4096) := by
    rcases a with rfl | rfl <;> rcases b with rfl | rfl <;> constructor <;> simp <;> omega
  have h4 : IntKind.i64.wrap ((q + r - s) * ((U : Int) * 4096)) = (q + r - s) * ((U : Int) * 4096) := by rw [IntKind.wrap_i64, h3]; omega
  have h5 : IntKind.i64.wrap (x : Int) = x := by rw [IntKind.wrap_i64]; omega
  have h6 : IntKind.i64.wrap ((x : Int) * U) = x * U := by rw [IntKind.wrap_i64]; omega
  have h7 : IntKind.i64.wrap ((q + r - s) * ((U : Int) * 4096) + x * U) = (q + r - s) * ((U : Int) * 4096) + x * U := by rw [IntKind.wrap_i64, h3]; omega
  rw [h1, h2, h4, h5, h6, h7]

end Go.Proofs.YticfpnhfhhagpaaDoor
namespace Go.Proofs.YticfpnhfhhagpaaDoor
open Go.RowKit
set_option linter.unusedVariables false

theorem hi_num (c e : Nat) : (c : Int) / 2 ^ (e + 12) = (c : Int) / ((2 ^ e : Nat) * 4096) := by
  rw [Int.pow_add, cast_pow]; rfl
theorem mid_num (c e : Nat) : IntKind.u16.wrap (((c : Int) / 2 ^ e).tmod 4096) = (c : Int) / (2 ^ e : Nat) % 4096 := by
  rw [cast_pow, IntKind.wrap_u16, Int.tmod_eq_emod_of_nonneg (Int.ediv_nonneg (Int.natCast_nonneg _) (Int.natCast_nonneg _))]
  generalize (c : Int) / ((2 ^ e : Nat) : Int) = r
  omega
theorem isB_of {e b t c : Nat} (he : e ≤ 21) (hb : b < 4096) (ht : t < 4096) : isB e b t c = decide (0 ≤ plc (2 ^ e : Nat) b c b ∧ plc (2 ^ e : Nat) b c b ≤ plc (2 ^ e : Nat) b c t ∧ plc (2 ^ e : Nat) b c t ≤ 4294967296) := by
  simp [isB, he, hb, ht]

theorem two_cells {W : World} {b : Nat} {x0 x1 : Value} (p0 p1 v0 v1 : Value) (q0 : W.cell? ⟨b, 0, none⟩ = some x0) (q1 : W.cell? ⟨b, 1, none⟩ = some x1) :
    ((((W.setCell ⟨b, 0, none⟩ p0).setCell ⟨b, 1, none⟩ p1).setCell ⟨b, 0, none⟩ v0).setCell ⟨b, 1, none⟩ v1).cell? ⟨b, 0, none⟩ = some v0 ∧
    ((((W.setCell ⟨b, 0, none⟩ p0).setCell ⟨b, 1, none⟩ p1).setCell ⟨b, 0, none⟩ v0).setCell ⟨b, 1, none⟩ v1).cell? ⟨b, 1, none⟩ = some v1 := by
  have a0 : ∀ (W : World) (u : Value), (W.setCell ⟨b, 1, none⟩ u).cell? ⟨b, 0, none⟩ = W.cell? ⟨b, 0, none⟩ := fun W u => World.cell?_setCell_other _ _ _ _ (by simp)
  have a1 : ∀ (W : World) (u : Value), (W.setCell ⟨b, 0, none⟩ u).cell? ⟨b, 1, none⟩ = W.cell? ⟨b, 1, none⟩ := fun W u => World.cell?_setCell_other _ _ _ _ (by simp)
  have s0 : (W.setCell ⟨b, 0, none⟩ p0).cell? ⟨b, 0, none⟩ = some p0 := World.cell?_setCell_same' _ _ _ (by rw [q0]; rfl)
  have s1 : ((W.setCell ⟨b, 0, none⟩ p0).setCell ⟨b, 1, none⟩ p1).cell? ⟨b, 1, none⟩ = some p1 := World.cell?_setCell_same' _ _ _ (by rw [a1, q1]; rfl)
  constructor
  · rw [a0]; exact World.cell?_setCell_same' _ _ _ (by rw [a0, s0]; rfl)
  · exact World.cell?_setCell_same' _ _ _ (by rw [a1, s1]; rfl)

end Go.Proofs.YticfpnhfhhagpaaDoor
