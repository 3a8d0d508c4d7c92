/- Contracts of the document's answers for layer bounds: May, turn, Tell. No statement is proved here. -/
import Derived.Test.YthniimefocjamaaBndB
import Derived.Deep.LoopGhost
import Derived.Deep.DeepCutAuto
namespace Go.Proofs.Ythniimefocjamaa
open Go.RowKit
set_option linter.unusedVariables false

theorem rturn_any (x g : Int) (w : World) : Calls Try.prog 104 #[.int .i64 x, .int .i64 g] w fun e w' => e = .returned (.int .i64 (trn x g)) ∧ w = w' := by
  by_cases h : x < g
  · rw [show trn x g = 1 from if_pos h]
    go_enter Try.func104, Try.ntmps104
    go_wp2
    go_ret
    exact ⟨rfl, rfl⟩
  · rw [show trn x g = 0 from if_neg h]
    go_enter Try.func104, Try.ntmps104
    go_wp2
    go_ret
    exact ⟨rfl, rfl⟩

def mayP (e b t : Nat) : Bool := decide (e ≤ 21 ∧ b < 4096 ∧ t < 4096)
theorem May_any (e b t : Nat) (w : World) : Calls Try.prog 103 #[.int .u8 e, .int .u16 b, .int .u16 t] w fun e' w' => e' = .returned (.bool (mayP e b t)) ∧ w = w' := by
  by_cases h1 : (e : Int) ≤ 21
  · by_cases h2 : (b : Int) < 4096
    · rw [show mayP e b t = decide ((t : Int) < 4096) from by unfold mayP; rw [decide_eq_decide]; omega]
      go_enter Try.func103, Try.ntmps103
      go_wp2
      go_ret
      exact ⟨rfl, rfl⟩
    · rw [show mayP e b t = false from by unfold mayP; exact decide_eq_false (by omega)]
      go_enter Try.func103, Try.ntmps103
      go_wp2
      go_ret
      exact ⟨rfl, rfl⟩
  · rw [show mayP e b t = false from by unfold mayP; exact decide_eq_false (by omega)]
    go_enter Try.func103, Try.ntmps103
    go_wp2
    go_ret
    exact ⟨rfl, rfl⟩

theorem rplace_num {U x c : Nat} (b : Int) (hU1 : 1 ≤ U) (hU : U ≤ 2097152) (hx : x < 65536) (hc : c < 4294967296) :
    wrap64 (wrap64 (wrap64 (wrap64 (wrap64 ((c : Int) / (U * 4096) + trn x ((b + 3072) % 4096)) - trn ((c : Int) / U % 4096) ((b + 3072) % 4096)) * U) * 4096) + wrap64 (x * U)) = plc U b c x := by
  unfold plc
  have hd : 0 ≤ (c : Int) / ((U : Int) * 4096) := Int.ediv_nonneg (by omega) (by omega)
  have hm : (c : Int) / ((U : Int) * 4096) * ((U : Int) * 4096) ≤ c := Int.ediv_mul_le _ (by omega)
  have hm0 : 0 ≤ (c : Int) / ((U : Int) * 4096) * ((U : Int) * 4096) := Int.mul_nonneg hd (by omega)
  have hd2 : (c : Int) / ((U : Int) * 4096) ≤ c := Int.ediv_le_self _ (by omega)
  have hxU : (x : Int) * U ≤ 65536 * 2097152 := Int.mul_le_mul (by omega) (by omega) (by omega) (by omega)
  have hxU0 : 0 ≤ (x : Int) * U := Int.mul_nonneg (by omega) (by omega)
  generalize hq : (c : Int) / ((U : Int) * 4096) = q at *
  have a := trn_two x ((b + 3072) % 4096)
  have b' := trn_two ((c : Int) / U % 4096) ((b + 3072) % 4096)
  generalize trn x ((b + 3072) % 4096) = r at *
  generalize trn ((c : Int) / U % 4096) ((b + 3072) % 4096) = s at *
  have h3 : (q + r - s) * ((U : Int) * 4096) = q * ((U : Int) * 4096) + (r - s) * ((U : Int) * 4096) := by rw [← Int.add_mul]; congr 1; omega
  have h3b : (r - s) * ((U : Int) * 4096) ≤ (U : Int) * 4096 ∧ -((U : Int) * 4096) ≤ (r - s) * ((U : Int) * 4096) := by
    rcases a with rfl | rfl <;> rcases b' with rfl | rfl <;> constructor <;> simp <;> omega
  have h4 : (q + r - s) * U * 4096 = (q + r - s) * ((U : Int) * 4096) := Int.mul_assoc _ _ _
  rw [IntWalk.wrap64_in (q + r) (by omega), IntWalk.wrap64_in (q + r - s) (by omega), IntWalk.wrap64_in ((q + r - s) * U) (by omega), h4, IntWalk.wrap64_in ((q + r - s) * ((U : Int) * 4096)) (by omega), IntWalk.wrap64_in ((x : Int) * U) (by omega), IntWalk.wrap64_in _ (by omega)]

set_option maxRecDepth 100000 in
theorem Tell_may (e b t c : Nat) (w : World) (he : e ≤ 21) (hb : b < 4096) (ht : t < 4096) (hc : c < 4294967296) :
    Calls Try.prog 87 #[.int .u8 e, .int .u16 b, .int .u16 t, .int .u32 c] w fun e' w' => e' = .returned (.tuple #[.int .i64 (plc (2 ^ e : Nat) b c b), .int .i64 (plc (2 ^ e : Nat) b c t), .bool (isB e b t c)]) ∧ w = w' := by
  have hM := Lib.hid (fun w => May_any e b t w)
  rw [show mayP e b t = true from decide_eq_true ⟨he, hb, ht⟩] at hM
  have hI : isB e b t c = decide (0 ≤ plc (2 ^ e : Nat) b c b ∧ plc (2 ^ e : Nat) b c b ≤ plc (2 ^ e : Nat) b c t ∧ plc (2 ^ e : Nat) b c t ≤ 4294967296) := isB_of he hb ht
  have i1 : (e : Int) ≤ 21 := by omega
  have hu : wrap64 (2 ^ e) = ((2 ^ e : Nat) : Int) := by rw [cast_pow]; have := pow_le21 he; generalize 2 ^ e = U at *; exact IntWalk.wrap64_in _ (by omega)
  have u1 := pow_pos2 e
  have u2 := pow_le21 he
  rw [hI]
  generalize 2 ^ e = U at *
  have d1 : 0 ≤ (c : Int) / ((U : Int) * 4096) := Int.ediv_nonneg (by omega) (by omega)
  have d2 : (c : Int) / ((U : Int) * 4096) ≤ 4294967296 := Int.le_trans (Int.ediv_le_self _ (by omega)) (by omega)
  have d3 : 0 ≤ (c : Int) / (U : Int) := Int.ediv_nonneg (by omega) (by omega)
  have d4 : (c : Int) / (U : Int) ≤ 4294967296 := Int.le_trans (Int.ediv_le_self _ (by omega)) (by omega)
  have hT := Lib.hid (fun (x g : Int) (w : World) => rturn_any x g w)
  have hp := rplace_num (x := b) (b : Int) u1 u2 (by omega) hc
  have hr := rplace_num (x := t) (b : Int) u1 u2 (by omega) hc
  generalize plc U b c b = p1 at *
  generalize plc U b c t = p2 at *
  replace hp := Lib.hid hp
  replace hr := Lib.hid hr
  clear he hI
  have pick : ∀ z, z = decide (0 ≤ p1 ∧ p1 ≤ p2 ∧ p2 ≤ 4294967296) → (0 ≤ p1 ∧ p1 ≤ p2 ∧ p2 ≤ 4294967296 ∧ z = true) ∨ (¬ 0 ≤ p1 ∧ z = false) ∨ (0 ≤ p1 ∧ ¬ p1 ≤ p2 ∧ z = false) ∨ (0 ≤ p1 ∧ p1 ≤ p2 ∧ ¬ p2 ≤ 4294967296 ∧ z = false) := by
    rintro z rfl
    by_cases c1 : 0 ≤ p1 <;> by_cases c2 : p1 ≤ p2 <;> by_cases c3 : p2 ≤ 4294967296 <;> simp [c1, c2, c3]
  generalize hz : decide (0 ≤ p1 ∧ p1 ≤ p2 ∧ p2 ≤ 4294967296) = z
  have hk := pick z hz.symm
  clear pick hz
  rcases hk with ⟨c1, c2, c3, rfl⟩ | ⟨c1, rfl⟩ | ⟨c1, c2, rfl⟩ | ⟨c1, c2, c3, rfl⟩
  all_goals
    go_enter Try.func87, Try.ntmps87
    go_wp2_with fail
    refine (hM.out _).mono ?_
    rintro e' w1 ⟨rfl, rfl⟩
    go_wp2_with fail
    refine (hT.out _ _ _).mono ?_
    rintro e' w1 ⟨rfl, rfl⟩
    go_wp2_with fail
    refine (hT.out _ _ _).mono ?_
    rintro e' w1 ⟨rfl, rfl⟩
    go_wp2_with fail
    rw [hp.out]
    refine (hT.out _ _ _).mono ?_
    rintro e' w1 ⟨rfl, rfl⟩
    go_wp2_with fail
    refine (hT.out _ _ _).mono ?_
    rintro e' w1 ⟨rfl, rfl⟩
    go_upto_region 9 with (fail)
    rw [hr.out]
    go_wp2_with fail
    go_ret3
    first
      | exact ⟨rfl, rfl⟩
      | exact ⟨by show Ending.returned (.tuple #[.int .i64 p1, .int .i64 p2, .bool (decide (p2 ≤ 4294967296))]) = _; rw [decide_eq_false (Int.not_le.mpr c3)], rfl⟩
end Go.Proofs.Ythniimefocjamaa
