/- Contracts of the document's answers for layer bounds: May, turn, Tell. No statement is proved here. -/
import Derived.Test.YtchonkkflklckaaBndB
import Derived.Deep.LoopGhost
import Derived.Deep.DeepCutAuto
namespace Go.Proofs.Ytchonkkflklckaa
open Go.RowKit
set_option linter.unusedVariables false

def mayP (e b t : Nat) : Bool := decide (e ≤ 21 ∧ b < 4096 ∧ t < 4096)
theorem rplace_num {U x c : Nat} (b : Int) (hU1 : 1 ≤ U) (hU : U ≤ 2097152) (hx : x < 65536) (hc : c < 4294967296) :
    wrap64 (wrap64 (wrap64 (wrap64 (wrap64 ((c : Int) / (U * 4096) + trn x ((b + 3072) % 4096)) - trn ((c : Int) / U % 4096) ((b + 3072) % 4096)) * U) * 4096) + wrap64 (x * U)) = plc U b c x := by
  unfold plc
  have hd : 0 ≤ (c : Int) / ((U : Int) * 4096) := Int.ediv_nonneg (by omega) (by omega)
  have hm : (c : Int) / ((U : Int) * 4096) * ((U : Int) * 4096) ≤ c := Int.ediv_mul_le _ (by omega)
  have hm0 : 0 ≤ (c : Int) / ((U : Int) * 4096) * ((U : Int) * 4096) := Int.mul_nonneg hd (by omega)
  have hd2 : (c : Int) / ((U : Int) * 4096) ≤ c := Int.ediv_le_self _ (by omega)
  have hxU : (x : Int) * U ≤ 65536 * 2097152 := Int.mul_le_mul (by omega) (by omega) (by omega) (by omega)
  have hxU0 : 0 ≤ (x : Int) * U := Int.mul_nonneg (by omega) (by omega)
  generalize hq : (c : Int) / ((U : Int) * 4096) = q at *
  have a := trn_two x ((b + 3072) % 4096)
  have b' := trn_two ((c : Int) / U % 4096) ((b + 3072) % 4096)
  generalize trn x ((b + 3072) % 4096) = r at *
  generalize trn ((c : Int) / U % 4096) ((b + 3072) % 4096) = s at *
  have h3 : (q + r - s) * ((U : Int) * 4096) = q * ((U : Int) * 4096) + (r - s) * ((U : Int) * 4096) := by rw [← Int.add_mul]; congr 1; omega
  have h3b : (r - s) * ((U : Int) * 4096) ≤ (U : Int) * 4096 ∧ -((U : Int) * 4096) ≤ (r - s) * ((U : Int) * 4096) := by
    rcases a with rfl | rfl <;> rcases b' with rfl | rfl <;> constructor <;> simp <;> omega
  have h4 : (q + r - s) * U * 4096 = (q + r - s) * ((U : Int) * 4096) := Int.mul_assoc _ _ _
  rw [IntWalk.wrap64_in (q + r) (by omega), IntWalk.wrap64_in (q + r - s) (by omega), IntWalk.wrap64_in ((q + r - s) * U) (by omega), h4, IntWalk.wrap64_in ((q + r - s) * ((U : Int) * 4096)) (by omega), IntWalk.wrap64_in ((x : Int) * U) (by omega), IntWalk.wrap64_in _ (by omega)]

end Go.Proofs.Ytchonkkflklckaa
