/- For core. -/
import Derived.Test.YtkmgdfcambdeeaaGreatDoorQac
namespace Go.Proofs.YtkmgdfcambdeeaaGreatDoor
open Lib (hid)
open Go.RowKit
set_option linter.unusedVariables false
theorem rturn_any (x g : Int) (w : World) : Calls Tryz.prog 218 #[.int .i64 x, .int .i64 g] w fun e w' => e = .returned (.int .i64 (trn x g)) ∧ w = w' := by
 by_cases h : x < g
 · rw [show trn x g = 1 from if_pos h]
   go_enter Tryz.func218, Tryz.ntmps218
   go_wp2
   go_ret
   exact ⟨rfl, rfl⟩
 · rw [show trn x g = 0 from if_neg h]
   go_enter Tryz.func218, Tryz.ntmps218
   go_wp2
   go_ret
   exact ⟨rfl, rfl⟩
def mayP (e b t : Nat) : Bool := decide (e ≤ 21 ∧ b < 4096 ∧ t < 4096)
theorem May_any (e b t : Nat) (w : World) : Calls Tryz.prog 217 #[.int .u8 e, .int .u16 b, .int .u16 t] w fun e' w' => e' = .returned (.bool (mayP e b t)) ∧ w = w' := by
 by_cases h1 : (e : Int) ≤ 21
 · by_cases h2 : (b : Int) < 4096
   · rw [show mayP e b t = decide ((t : Int) < 4096) from by unfold mayP; rw [decide_eq_decide]; omega]
     go_enter Tryz.func217, Tryz.ntmps217
     go_wp2
     go_ret
     exact ⟨rfl, rfl⟩
   · rw [show mayP e b t = false from by unfold mayP; exact decide_eq_false (by omega)]
     go_enter Tryz.func217, Tryz.ntmps217
     go_wp2
     go_ret
     exact ⟨rfl, rfl⟩
 · rw [show mayP e b t = false from by unfold mayP; exact decide_eq_false (by omega)]
   go_enter Tryz.func217, Tryz.ntmps217
   go_wp2
   go_ret
   exact ⟨rfl, rfl⟩
theorem rplace_num {U x c : Nat} (b : Int) (hU1 : 1 ≤ U) (hU : U ≤ 2097152) (hx : x < 65536) (hc : c < 4294967296) :
   wrap64 (wrap64 (wrap64 (wrap64 (wrap64 ((c : Int) / (U * 4096) + trn x ((b + 3072) % 4096)) - trn ((c : Int) / U % 4096) ((b + 3072) % 4096)) * U) * 4096) + wrap64 (x * U)) = plc U b c x := by
 unfold plc
 have hd : 0 ≤ (c : Int) / ((U : Int) * 4096) := Int.ediv_nonneg (by omega) (by omega)
 have hm : (c : Int) / ((U : Int) * 4096) * ((U : Int) * 4096) ≤ c := Int.ediv_mul_le _ (by omega)
 have hm0 : 0 ≤ (c : Int) / ((U : Int) * 4096) * ((U : Int) * 4096) := Int.mul_nonneg hd (by omega)
 have hd2 : (c : Int) / ((U : Int) * 4096) ≤ c := Int.ediv_le_self _ (by omega)
 have hxU : (x : Int) * U ≤ 65536 * 2097152 := Int.mul_le_mul (by omega) (by omega) (by omega) (by omega)
 have hxU0 : 0 ≤ (x : Int) * U := Int.mul_nonneg (by omega) (by omega)
 generalize hq : (c : Int) / ((U : Int) * 4096) = q at *
 have a := trn_two x ((b + 3072) % 4096)
 have b' := trn_two ((c : Int) / U % 4096) ((b + 3072) % 4096)
 generalize trn x ((b + 3072) % 4096) = r at *
 generalize trn ((c : Int) / U % 4096) ((b + 3072) % 4096) = s at *
 have h3 : (q + r - s) * ((U : Int) * 4096) = q * ((U : Int) * 4096) + (r - s) * ((U : Int) * 4096) := by rw [← Int.add_mul]; congr 1; omega
 have h3b : (r - s) * ((U : Int) * 4096) ≤ (U : Int) * 4096 ∧ -((U : Int) * 4096) ≤ (r - s) * ((U : Int) * 4096) := by
   rcases a with rfl | rfl <;> rcases b' with rfl | rfl <;> constructor <;> simp <;> omega
 have h4 : (q + r - s) * U * 4096 = (q + r - s) * ((U : Int) * 4096) := Int.mul_assoc _ _ _
 rw [IntWalk.wrap64_in (q + r) (by omega), IntWalk.wrap64_in (q + r - s) (by omega), IntWalk.wrap64_in ((q + r - s) * U) (by omega), h4, IntWalk.wrap64_in ((q + r - s) * ((U : Int) * 4096)) (by omega), IntWalk.wrap64_in ((x : Int) * U) (by omega), IntWalk.wrap64_in _ (by omega)]
set_option maxRecDepth 100000 in
theorem Tell_may (e b t c : Nat) (w : World) (he : e ≤ 21) (hb : b < 4096) (ht : t < 4096) (hc : c < 4294967296) :
   Calls Tryz.prog 199 #[.int .u8 e, .int .u16 b, .int .u16 t, .int .u32 c] w fun e' w' => e' = .returned (.tuple #[.int .i64 (plc (2 ^ e : Nat) b c b), .int .i64 (plc (2 ^ e : Nat) b c t), .bool (isB e b t c)]) ∧ w = w' := by
 have hM := hid (fun w => May_any e b t w)
 rw [show mayP e b t = true from decide_eq_true ⟨he, hb, ht⟩] at hM
 have hI : isB e b t c = decide (0 ≤ plc (2 ^ e : Nat) b c b ∧ plc (2 ^ e : Nat) b c b ≤ plc (2 ^ e : Nat) b c t ∧ plc (2 ^ e : Nat) b c t ≤ 4294967296) := isB_of he hb ht
 have i1 : (e : Int) ≤ 21 := by omega
 have hu : wrap64 (2 ^ e) = ((2 ^ e : Nat) : Int) := by rw [cast_pow]; have := pow_le21 he; generalize 2 ^ e = U at *; exact IntWalk.wrap64_in _ (by omega)
 have u1 := pow_pos2 e
 have u2 := pow_le21 he
 rw [hI]
 generalize 2 ^ e = U at *
 have d1 : 0 ≤ (c : Int) / ((U : Int) * 4096) := Int.ediv_nonneg (by omega) (by omega)
 have d2 : (c : Int) / ((U : Int) * 4096) ≤ 4294967296 := Int.le_trans (Int.ediv_le_self _ (by omega)) (by omega)
 have d3 : 0 ≤ (c : Int) / (U : Int) := Int.ediv_nonneg (by omega) (by omega)
 have d4 : (c : Int) / (U : Int) ≤ 4294967296 := Int.le_trans (Int.ediv_le_self _ (by omega)) (by omega)
 have hT := hid (fun (x g : Int) (w : World) => rturn_any x g w)
 have hp := rplace_num (x := b) (b : Int) u1 u2 (by omega) hc
 have hr := rplace_num (x := t) (b : Int) u1 u2 (by omega) hc
 generalize plc U b c b = p1 at *
 generalize plc U b c t = p2 at *
 replace hp := hid hp
 replace hr := hid hr
 clear he hI
 have pick : ∀ z, z = decide (0 ≤ p1 ∧ p1 ≤ p2 ∧ p2 ≤ 4294967296) → (0 ≤ p1 ∧ p1 ≤ p2 ∧ p2 ≤ 4294967296 ∧ z = true) ∨ (¬ 0 ≤ p1 ∧ z = false) ∨ (0 ≤ p1 ∧ ¬ p1 ≤ p2 ∧ z = false) ∨ (0 ≤ p1 ∧ p1 ≤ p2 ∧ ¬ p2 ≤ 4294967296 ∧ z = false) := by
   rintro z rfl
   by_cases c1 : 0 ≤ p1 <;> by_cases c2 : p1 ≤ p2 <;> by_cases c3 : p2 ≤ 4294967296 <;> simp [c1, c2, c3]
 generalize hz : decide (0 ≤ p1 ∧ p1 ≤ p2 ∧ p2 ≤ 4294967296) = z
 have hk := pick z hz.symm
 clear pick hz
 rcases hk with ⟨c1, c2, c3, rfl⟩ | ⟨c1, rfl⟩ | ⟨c1, c2, rfl⟩ | ⟨c1, c2, c3, rfl⟩
 all_goals
   go_enter Tryz.func199, Tryz.ntmps199
   go_wp2_with fail
   refine (hM.out _).mono ?_
   rintro e' w1 ⟨rfl, rfl⟩
   go_wp2_with fail
   refine (hT.out _ _ _).mono ?_
   rintro e' w1 ⟨rfl, rfl⟩
   go_wp2_with fail
   refine (hT.out _ _ _).mono ?_
   rintro e' w1 ⟨rfl, rfl⟩
   go_wp2_with fail
   rw [hp.out]
   refine (hT.out _ _ _).mono ?_
   rintro e' w1 ⟨rfl, rfl⟩
   go_wp2_with fail
   refine (hT.out _ _ _).mono ?_
   rintro e' w1 ⟨rfl, rfl⟩
   go_upto_region 9 with (fail)
   rw [hr.out]
   go_wp2_with fail
   go_ret3
   first
     | exact ⟨rfl, rfl⟩
     | exact ⟨by show Ending.returned (.tuple #[.int .i64 p1, .int .i64 p2, .bool (decide (p2 ≤ 4294967296))]) = _; rw [decide_eq_false (Int.not_le.mpr c3)], rfl⟩
theorem Tell_not (e b t c : Nat) (w : World) (h : mayP e b t = false) :
   Calls Tryz.prog 199 #[.int .u8 e, .int .u16 b, .int .u16 t, .int .u32 c] w fun e' w' => e' = .returned (.tuple #[.int .i64 0, .int .i64 0, .bool false]) ∧ w = w' := by
 have hM := hid (fun w => May_any e b t w)
 rw [h] at hM
 clear h
 go_enter Tryz.func199, Tryz.ntmps199
 go_wp2_with fail
 refine (hM.out _).mono ?_
 rintro e' w1 ⟨rfl, rfl⟩
 go_wp2_with fail
 go_ret3
 exact ⟨rfl, rfl⟩
theorem isB_not {e b t c : Nat} (h : mayP e b t = false) : isB e b t c = false := by
 have := of_decide_eq_false h
 exact decide_eq_false fun k => this ⟨k.1, k.2.1, k.2.2.1⟩
def raB (e b t c : Nat) : Int := if mayP e b t then plc (2 ^ e : Nat) b c b else 0
def raT (e b t c : Nat) : Int := if mayP e b t then plc (2 ^ e : Nat) b c t else 0
theorem Tell_any (e b t c : Nat) (w : World) (hc : c < 4294967296) :
   Calls Tryz.prog 199 #[.int .u8 e, .int .u16 b, .int .u16 t, .int .u32 c] w fun e' w' => e' = .returned (.tuple #[.int .i64 (raB e b t c), .int .i64 (raT e b t c), .bool (isB e b t c)]) ∧ w = w' := by
 unfold raB raT
 cases h : mayP e b t
 · rw [isB_not h]
   exact Tell_not e b t c w h
 · have k := of_decide_eq_true h
   exact Tell_may e b t c w k.1 k.2.1 k.2.2 hc
theorem ra_te {e b t c : Nat} (h : isB e b t c = true) : raB e b t c = teB e b t c ∧ raT e b t c = teT e b t c := by
 have k := of_decide_eq_true h
 have hm : mayP e b t = true := decide_eq_true ⟨k.1, k.2.1, k.2.2.1⟩
 simp [raB, raT, teB, teT, h, hm]
theorem rDecode_any (e b t c : Nat) (w : World) (hc : c < 4294967296) :
   Calls Tryz.prog 157 #[.int .u8 e, .int .u16 b, .int .u16 t, .int .u32 c] w fun e' w' => e' = .returned (.tuple #[.int .u32 (deB e b t c), .int .u64 (deT e b t c)]) ∧ w = w' := by
 have hT := hid (fun w => Tell_any e b t c w hc)
 have hb := te_bounds e b t c
 have hr := fun h => ra_te (e := e) (b := b) (t := t) (c := c) h
 have hB := hid (show deB e b t c = if teB e b t c = 4294967296 then 0 else teB e b t c from rfl)
 have hD := hid (show deT e b t c = if teB e b t c = 4294967296 then 0 else teT e b t c from rfl)
 have h0 : isB e b t c = false → teB e b t c = 0 ∧ teT e b t c = 0 := fun h => ⟨by unfold teB; rw [h]; rfl, by unfold teT; rw [h]; rfl⟩
 generalize deB e b t c = vB at *
 generalize deT e b t c = vT at *
 generalize teB e b t c = p1 at *
 generalize teT e b t c = p2 at *
 generalize raB e b t c = r1 at *
 generalize raT e b t c = r2 at *
 obtain ⟨b1, b2, b3⟩ := hb
 clear hc
 cases hi : isB e b t c
 · obtain ⟨rfl, rfl⟩ := h0 hi
   rw [hi] at hT
   rw [show vB = 0 from by rw [hB.out]; rfl, show vT = 0 from by rw [hD.out]; rfl]
   clear hB hD hr h0 hi
   go_enter Tryz.func157, Tryz.ntmps157
   go_wp2_with fail
   refine (hT.out _).mono ?_
   rintro e' w1 ⟨rfl, rfl⟩
   go_wp2_with fail
   go_ret2
   exact ⟨rfl, rfl⟩
 · obtain ⟨rfl, rfl⟩ := hr hi
   rw [hi] at hT
   clear hr h0 hi
   by_cases h : r1 = 4294967296
   · rw [show vB = 0 from by rw [hB.out, if_pos h], show vT = 0 from by rw [hD.out, if_pos h]]
     have hq : (r1 == 4294967296) = true := by simp [h]
     clear hB hD
     replace h := hid h
     go_enter Tryz.func157, Tryz.ntmps157
     go_wp2_with fail
     refine (hT.out _).mono ?_
     rintro e' w1 ⟨rfl, rfl⟩
     go_wp2_with fail
     go_ret2
     exact ⟨rfl, rfl⟩
   · rw [show vB = r1 from by rw [hB.out, if_neg h], show vT = r2 from by rw [hD.out, if_neg h]]
     have hq : (r1 == 4294967296) = false := by simp [h]
     have b4 : r1 < 4294967296 := by omega
     clear hB hD
     replace h := hid h
     go_enter Tryz.func157, Tryz.ntmps157
     go_wp2_with fail
     refine (hT.out _).mono ?_
     rintro e' w1 ⟨rfl, rfl⟩
     go_wp2_with fail
     go_ret2
     exact ⟨rfl, rfl⟩
theorem rkp_eq (e b t c n : Nat) : (isB e b t c && (raB e b t c == raB e b t n && raT e b t c == raT e b t n)) = kp e b t c n := by
 unfold kp
 cases h : isB e b t c
 · simp only [Bool.false_and]
 · have k := of_decide_eq_true h
   have hm : mayP e b t = true := decide_eq_true ⟨k.1, k.2.1, k.2.2.1⟩
   rw [Bool.eq_iff_iff]
   simp [raB, raT, hm]
theorem rKeeps_any (e b t c n : Nat) (w : World) (hc : c < 4294967296) (hn : n < 4294967296) :
   Calls Tryz.prog 154 #[.int .u8 e, .int .u16 b, .int .u16 t, .int .u32 c, .int .u32 n] w fun e' w' => e' = .returned (.bool (kp e b t c n)) ∧ w = w' := by
 have hT := hid (fun w => Tell_any e b t c w hc)
 have hN := hid (fun w => Tell_any e b t n w hn)
 rw [← rkp_eq]
 generalize raB e b t c = p1 at *
 generalize raT e b t c = p2 at *
 generalize raB e b t n = q1 at *
 generalize raT e b t n = q2 at *
 generalize isB e b t c = i1 at *
 generalize isB e b t n = i2 at *
 clear hc hn
 cases i1
 · go_enter Tryz.func154, Tryz.ntmps154
   go_wp2_with fail
   refine (hT.out _).mono ?_
   rintro e' w1 ⟨rfl, rfl⟩
   go_wp2_with fail
   refine (hN.out _).mono ?_
   rintro e' w1 ⟨rfl, rfl⟩
   go_wp2_with fail
   go_ret
   exact ⟨rfl, rfl⟩
 · cases hq : (p1 == q1)
   · go_enter Tryz.func154, Tryz.ntmps154
     go_wp2_with fail
     refine (hT.out _).mono ?_
     rintro e' w1 ⟨rfl, rfl⟩
     go_wp2_with fail
     refine (hN.out _).mono ?_
     rintro e' w1 ⟨rfl, rfl⟩
     go_wp2_with fail
     go_ret
     exact ⟨rfl, rfl⟩
   · go_enter Tryz.func154, Tryz.ntmps154
     go_wp2_with fail
     refine (hT.out _).mono ?_
     rintro e' w1 ⟨rfl, rfl⟩
     go_wp2_with fail
     refine (hN.out _).mono ?_
     rintro e' w1 ⟨rfl, rfl⟩
     go_wp2_with fail
     all_goals go_ret
     all_goals exact ⟨rfl, rfl⟩
theorem rrounded_any (b t e : Nat) (w : World) (he : e ≤ 21) (hb : b < 4294967296) (ht : t ≤ 4294967296) :
   Calls Tryz.prog 220 #[.int .u32 b, .int .u64 t, .int .u8 e] w fun e' w' => e' = .returned (.tuple #[.int .u64 (dn (2 ^ e) b : Nat), .int .u64 (up (2 ^ e) t : Nat)]) ∧ ∃ n, w.drewN n = w' := by
 have hu : IntKind.u64.wrap (2 ^ e) = ((2 ^ e : Nat) : Int) := by rw [cast_pow, IntKind.wrap_u64]; have := pow_le21 he; generalize 2 ^ e = U at *; omega
 have u1 := pow_pos2 e
 have u2 := pow_le21 he
 generalize 2 ^ e = U at *
 have i1 : (e : Int) ≤ 21 := by omega
 have hB : IntKind.u64.wrap (IntKind.u64.wrap ((b : Int) / U) * U) = (dn U b : Nat) := by
   have a := Nat.div_le_self b U
   have c := dn_le U b
   unfold dn at *
   rw [← Int.natCast_ediv, IntKind.wrap_u64, IntKind.wrap_u64]
   generalize b / U = q at *
   rw [show (q : Int) % 18446744073709551616 = (q : Int) from by omega, ← Int.natCast_mul]
   omega
 have hT : IntKind.u64.wrap (((t : Int) + U - 1) / U * U) = (up U t : Nat) := by
   have c := up_lt t u1
   rw [show (t : Int) + U - 1 = ((t + U - 1 : Nat) : Int) from by omega, ← Int.natCast_ediv, ← Int.natCast_mul, IntKind.wrap_u64]
   unfold up at *
   omega
 replace hB := hid hB
 replace hT := hid hT
 clear he
 go_enter Tryz.func220, Tryz.ntmps220
 go_wp2_with fail
 go_quiet (fail)
 go_wp2
 go_ret2
 refine ⟨?_, _, rfl⟩
 show Ending.returned (.tuple #[.int .u64 (IntKind.u64.wrap (IntKind.u64.wrap ((b : Int) / U) * U)), .int .u64 (IntKind.u64.wrap (((t : Int) + U - 1) / U * U))]) = _
 rw [hB.out, hT.out]
theorem exponent_any (b t : Nat) (w : World) (hb : b ≤ t) (ht : t ≤ 4294967296) (hb2 : b < 4294967296) :
   Calls Tryz.prog 219 #[.int .u32 b, .int .u64 t] w fun e' w' => e' = .returned (.int .u8 (expo b t)) ∧ ∃ n, w.drewN n = w' := by
 have hR := hid (fun e (he : e ≤ 21) w => rrounded_any b t e w he hb2 ht)
 have hL := hid (fun e => expo_is (b := b) (e := e) ht)
 have h21 := hid (ok_last (b := b) ht)
 have hok : ∀ k, k ≤ 21 → decide (IntKind.u64.wrap ((up (2 ^ k) t : Nat) - (dn (2 ^ k) b : Nat) : Int) ≤ IntKind.u64.wrap (2048 * 2 ^ k)) = decide (okE b t k) := by
   intro k hk
   have hU := pow_le21 hk
   have hU1 := pow_pos2 k
   have a1 := dn_le (2 ^ k) b
   have a2 := up_ge t hU1
   have a3 := up_lt t hU1
   rw [cast_pow, IntKind.wrap_u64, IntKind.wrap_u64, decide_eq_decide]
   unfold okE
   generalize 2 ^ k = U at *
   omega
 replace hok := hid hok
 clear hb ht hb2
 go_enter Tryz.func219, Tryz.ntmps219
 go_wp2_with fail
 go_loopw [5] (fun i wr => ∃ k n : Nat, k ≤ 21 ∧ i = .int .u8 k ∧ (∀ j, j < k → ¬ okE b t j) ∧ w.drewN n = wr) (fun i _ => 22 - (intOf i).toNat)
 case atStart => exact ⟨0, 0, by omega, rfl, fun j h => absurd h (by omega), rfl⟩
 case round =>
   obtain ⟨k, n0, hk, rfl, hno, rfl⟩ := hrel
   replace hno := hid hno
   go_wp2_with fail
   refine (hR.out k hk _).mono ?_
   rintro e' w1 ⟨rfl, n1, rfl⟩
   by_cases ok : okE b t k
   · have hle := of_decide_eq_true ((hok.out k hk).trans (decide_eq_true ok))
     have he := hid (hL.out k ok hno.out)
     clear ok
     go_wp2_with fail
     go_ret
     exact ⟨by rw [he.out]; rfl, _, rfl⟩
   · have hle := of_decide_eq_false ((hok.out k hk).trans (decide_eq_false ok))
     have hk' : k < 21 := by
       rcases Nat.lt_or_ge k 21 with h | h
       · exact h
       · have : k = 21 := by omega
         subst this
         exact absurd h21.out ok
     replace ok := hid ok
     go_wp2_with fail
     go_roundw
     case rel =>
       refine ⟨k + 1, n0 + n1, by omega, by go_num, fun j hj => ?_, rfl⟩
       rcases Nat.lt_or_ge j k with h | h
       · exact hno.out j h
       · have : j = k := by omega
         subst this
         exact ok.out
     case measure => simp [intOf]; omega
theorem rRound_any (b t : Nat) (w : World) (hb : b < 4294967296) (ht : t < 18446744073709551616) :
   Calls Tryz.prog 202 #[.int .u32 b, .int .u64 t] w fun e' w' => e' = .returned (.tuple #[.int .u32 (rdB b t), .int .u64 (rdT b t), .bool (may b t)]) ∧ ∃ n, w.drewN n = w' := by
 cases hm : may b t
 · rw [show rdB b t = 0 from by simp [rdB, hm], show rdT b t = 0 from by simp [rdT, hm]]
   have hn := of_decide_eq_false hm
   clear hm
   by_cases h : (t : Int) < b
   · go_enter Tryz.func202, Tryz.ntmps202
     go_wp2_with fail
     go_ret3
     exact ⟨rfl, 0, rfl⟩
   · have h' : (4294967296 : Int) < t := by omega
     go_enter Tryz.func202, Tryz.ntmps202
     go_wp2_with fail
     go_ret3
     exact ⟨rfl, 0, rfl⟩
 · rw [show rdB b t = dn (2 ^ expo b t) b from by simp [rdB, hm], show rdT b t = up (2 ^ expo b t) t from by simp [rdT, hm]]
   have h := of_decide_eq_true hm
   have hX := hid (fun w => exponent_any b t w h.1 h.2 hb)
   have hR := hid (fun w => rrounded_any b t (expo b t) w (expo_le b h.2) hb h.2)
   have h1 : ¬ (t : Int) < b := by omega
   have h2 : ¬ (4294967296 : Int) < t := by omega
   have b1 : dn (2 ^ expo b t) b < 4294967296 := Nat.lt_of_le_of_lt (dn_le _ _) hb
   have b2 : up (2 ^ expo b t) t ≤ 4294967296 := up_le_of_dvd (pow_pos2 _) (dvd_whole (Nat.le_trans (expo_le b h.2) (by decide))) h.2
   generalize dn (2 ^ expo b t) b = D at *
   generalize up (2 ^ expo b t) t = T at *
   generalize expo b t = k at *
   clear hm h
   go_enter Tryz.func202, Tryz.ntmps202
   go_wp2_with fail
   refine (hX.out _).mono ?_
   rintro e' w1 ⟨rfl, n1, rfl⟩
   go_wp2_with fail
   refine (hR.out _).mono ?_
   rintro e' w1 ⟨rfl, n2, rfl⟩
   go_wp2_with fail
   go_ret3
   exact ⟨rfl, n1 + n2, rfl⟩
theorem rEncode_any (b t : Nat) (w : World) (hb : b < 4294967296) (ht : t < 18446744073709551616) :
   Calls Tryz.prog 201 #[.int .u32 b, .int .u64 t] w fun e' w' => e' = .returned (.tuple #[.int .u8 (enE b t), .int .u16 (enB b t), .int .u16 (enT b t), .bool (enX b t), .bool (may b t)]) ∧ ∃ n, w.drewN n = w' := by
 cases hm : may b t
 · rw [show enE b t = 0 from by simp [enE, hm], show enB b t = 0 from by simp [enB, rdB, hm], show enT b t = 0 from by simp [enT, rdT, hm], show enX b t = false from by simp [enX, hm]]
   have hn := of_decide_eq_false hm
   clear hm
   by_cases h : (t : Int) < b
   · go_enter Tryz.func201, Tryz.ntmps201
     go_wp2_with fail
     exact bodyPost_ret (v := .tuple #[.int .u8 0, .int .u16 0, .int .u16 0, .bool false, .bool false]) (by simp [results, Tryz.results201, go_sem]) rfl ⟨rfl, 0, rfl⟩
   · have h' : (4294967296 : Int) < t := by omega
     go_enter Tryz.func201, Tryz.ntmps201
     go_wp2_with fail
     exact bodyPost_ret (v := .tuple #[.int .u8 0, .int .u16 0, .int .u16 0, .bool false, .bool false]) (by simp [results, Tryz.results201, go_sem]) rfl ⟨rfl, 0, rfl⟩
 · rw [show enX b t = decide (rdB b t = b ∧ rdT b t = t) from by simp [enX, hm]]
   unfold enB enT
   rw [show enE b t = expo b t from by simp [enE, hm], show rdB b t = dn (2 ^ expo b t) b from by simp [rdB, hm], show rdT b t = up (2 ^ expo b t) t from by simp [rdT, hm]]
   have h := of_decide_eq_true hm
   have hX := hid (fun w => exponent_any b t w h.1 h.2 hb)
   have hR := hid (fun w => rrounded_any b t (expo b t) w (expo_le b h.2) hb h.2)
   have h1 : ¬ (t : Int) < b := by omega
   have h2 : ¬ (4294967296 : Int) < t := by omega
   have b1 : dn (2 ^ expo b t) b < 4294967296 := Nat.lt_of_le_of_lt (dn_le _ _) hb
   have b2 : up (2 ^ expo b t) t ≤ 4294967296 := up_le_of_dvd (pow_pos2 _) (dvd_whole (Nat.le_trans (expo_le b h.2) (by decide))) h.2
   have hu : IntKind.u64.wrap (2 ^ expo b t) = ((2 ^ expo b t : Nat) : Int) := by rw [cast_pow, IntKind.wrap_u64]; have := pow_le21 (expo_le b h.2); generalize 2 ^ expo b t = U at *; omega
   have hk := expo_le b h.2
   have u1 := pow_pos2 (expo b t)
   have u2 := pow_le21 (expo_le b h.2)
   generalize dn (2 ^ expo b t) b = D at *
   generalize up (2 ^ expo b t) t = T at *
   generalize expo b t = k at *
   generalize 2 ^ k = U at *
   have d1 : 0 ≤ (D : Int) / U := Int.ediv_nonneg (by omega) (by omega)
   have d2 : (D : Int) / U ≤ 4294967296 := Int.le_trans (Int.ediv_le_self _ (by omega)) (by omega)
   have d3 : 0 ≤ (T : Int) / U := Int.ediv_nonneg (by omega) (by omega)
   have d4 : (T : Int) / U ≤ 4294967296 := Int.le_trans (Int.ediv_le_self _ (by omega)) (by omega)
   have hz : decide (D = b ∧ T = t) = ((((D : Int) == (b : Int)) && ((T : Int) == (t : Int)))) := by
     rw [Bool.eq_iff_iff]; simp; omega
   rw [hz]
   have hx : (D : Int) / U % 4096 = ((D / U % 4096 : Nat) : Int) := by rw [Int.natCast_emod, Int.natCast_ediv]; rfl
   have hy : (T : Int) / U % 4096 = ((T / U % 4096 : Nat) : Int) := by rw [Int.natCast_emod, Int.natCast_ediv]; rfl
   rw [← hx, ← hy]
   clear hm h hz hx hy
   cases hq1 : ((D : Int) == (b : Int))
   · go_enter Tryz.func201, Tryz.ntmps201
     go_wp2_with fail
     refine (hX.out _).mono ?_
     rintro e' w1 ⟨rfl, n1, rfl⟩
     go_wp2_with fail
     refine (hR.out _).mono ?_
     rintro e' w1 ⟨rfl, n2, rfl⟩
     go_wp2_with fail
     go_quiet (fail)
     go_wp2
     exact bodyPost_ret (v := .tuple #[.int .u8 k, .int .u16 ((D : Int) / U % 4096), .int .u16 ((T : Int) / U % 4096), .bool false, .bool true]) (by simp [results, Tryz.results201, go_sem]) rfl ⟨rfl, n1 + n2 + nq, by simp [go_sem]⟩
   · cases hq2 : ((T : Int) == (t : Int))
     · go_enter Tryz.func201, Tryz.ntmps201
       go_wp2_with fail
       refine (hX.out _).mono ?_
       rintro e' w1 ⟨rfl, n1, rfl⟩
       go_wp2_with fail
       refine (hR.out _).mono ?_
       rintro e' w1 ⟨rfl, n2, rfl⟩
       go_wp2_with fail
       go_quiet (fail)
       go_wp2
       exact bodyPost_ret (v := .tuple #[.int .u8 k, .int .u16 ((D : Int) / U % 4096), .int .u16 ((T : Int) / U % 4096), .bool false, .bool true]) (by simp [results, Tryz.results201, go_sem]) rfl ⟨rfl, n1 + n2 + nq, by simp [go_sem]⟩
     · go_enter Tryz.func201, Tryz.ntmps201
       go_wp2_with fail
       refine (hX.out _).mono ?_
       rintro e' w1 ⟨rfl, n1, rfl⟩
       go_wp2_with fail
       refine (hR.out _).mono ?_
       rintro e' w1 ⟨rfl, n2, rfl⟩
       go_wp2_with fail
       go_quiet (fail)
       go_wp2
       exact bodyPost_ret (v := .tuple #[.int .u8 k, .int .u16 ((D : Int) / U % 4096), .int .u16 ((T : Int) / U % 4096), .bool true, .bool true]) (by simp [results, Tryz.results201, go_sem]) rfl ⟨rfl, n1 + n2 + nq, by simp [go_sem]⟩
def nm (l : List UInt8) (a k : Nat) : Nat := le ((l.drop a).take k)
theorem nm_lt (l : List UInt8) (a k : Nat) : nm l a k < 256 ^ k := by
 have h := le_lt ((l.drop a).take k)
 exact Nat.lt_of_lt_of_le h (Nat.pow_le_pow_right (by decide) (by simp; omega))
def isNumP (e b t pm ty rs : Nat) (va : Bool) : Bool := decide (e = 0 ∧ b = 0 ∧ t = 0 ∧ pm = 0 ∧ ty = 0 ∧ rs = 0 ∧ va = false)
theorem rIsNumber_any (cu e b t pm ty rs : Nat) (va : Bool) (W : World) :
   Calls Tryz.prog 109 #[.agg #[.int .u32 cu, .int .u8 e, .int .u16 b, .int .u16 t, .int .u16 pm, .int .u16 ty, .int .u32 rs, .bool va]] W fun e' w' => e' = .returned (.bool (isNumP e b t pm ty rs va)) ∧ Below W.heap.size W w' := by
 obtain ⟨z, hz⟩ : ∃ z, z = isNumP e b t pm ty rs va := ⟨_, rfl⟩
 rw [← hz]
 replace hz := hid hz
 go_enter Tryz.func109, Tryz.ntmps109
 go_wp2
 all_goals go_ret
 all_goals
   refine ⟨ret_bool ?_, by go_grown⟩
   rw [hz.out]
   simp [isNumP, *]
theorem rRange_any (cu e b t pm ty rs : Nat) (va : Bool) (W : World) (l0 : cu < 4294967296) :
   Calls Tryz.prog 100 #[.agg #[.int .u32 cu, .int .u8 e, .int .u16 b, .int .u16 t, .int .u16 pm, .int .u16 ty, .int .u32 rs, .bool va]] W fun e' w' => e' = .returned (.tuple #[.int .u32 (deB e b t cu), .int .u64 (deT e b t cu)]) ∧ Below W.heap.size W w' := by
 have hD := hid (fun w => rDecode_any e b t cu w l0)
 generalize deB e b t cu = x at *
 generalize deT e b t cu = y at *
 go_enter Tryz.func100, Tryz.ntmps100
 go_wp2_with fail
 refine (hD.out _).mono ?_
 rintro e' w1 ⟨rfl, rfl⟩
 go_wp2_with fail
 go_ret2
 exact ⟨rfl, by go_grown⟩
def setRow (b : Nat) : Nat → List Value → World → World
 | _, [], w => w
 | i, v :: vs, w => setRow b (i + 1) vs (w.setCell ⟨b, i, none⟩ v)
theorem setRow_before (b : Nat) : ∀ (vs : List Value) (i k : Nat) (w : World), k < i → (setRow b i vs w).cell? ⟨b, k, none⟩ = w.cell? ⟨b, k, none⟩
 | [], i, k, w, _ => rfl
 | v :: vs, i, k, w, h => by
   rw [setRow, setRow_before b vs (i + 1) k _ (by omega)]
   exact World.cell?_setCell_other _ _ _ _ (by simp <;> omega)
theorem setRow_cell (b : Nat) : ∀ (vs : List Value) (i j : Nat) (u : Value) (w : World), (∀ j, j < vs.length → (w.cell? ⟨b, i + j, none⟩).isSome = true) → vs[j]? = some u → (setRow b i vs w).cell? ⟨b, i + j, none⟩ = some u
 | [], i, j, u, w, _, hu => by simp at hu
 | v :: vs, i, 0, u, w, h, hu => by
   rw [setRow, setRow_before b vs (i + 1) (i + 0) _ (by omega)]
   simp at hu
   subst hu
   exact World.cell?_setCell_same' _ _ _ (h 0 (by simp))
 | v :: vs, i, j + 1, u, w, h, hu => by
   rw [setRow, show i + (j + 1) = i + 1 + j from by omega]
   refine setRow_cell b vs (i + 1) j u _ (fun j' hj' => ?_) (by simpa using hu)
   rw [World.cell?_setCell_other _ _ _ _ (by simp <;> omega), show i + 1 + j' = i + (j' + 1) from by omega]
   exact h (j' + 1) (by simp <;> omega)
theorem rOf_yes (l : List UInt8) (va : Bool) (W : World) (hl : l.length = 16) :
   Calls Tryz.prog 156 #[.string ⟨l.toArray⟩, .bool va] W fun e' w' => e' = .returned (.tuple #[.agg #[.int .u32 (nm l 0 4), .int .u8 (nm l 4 1), .int .u16 (nm l 5 2), .int .u16 (nm l 7 2), .int .u16 (nm l 9 2), .int .u16 (nm l 11 2), .int .u32 (nm l 13 3), .bool (va && sndP (nm l 4 1) (nm l 5 2) (nm l 7 2) (nm l 9 2) (nm l 11 2) (nm l 13 3))], .bool true]) ∧ Below W.heap.size W w' := by
 have hT := hid (fun a k w hk ha => taken_any l a k w hk (by omega) ha)
 have n0 := nm_lt l 0 4
 have n1 := nm_lt l 4 1
 have n2 := nm_lt l 5 2
 have n3 := nm_lt l 7 2
 have n4 := nm_lt l 9 2
 have n5 := nm_lt l 11 2
 have n6 := nm_lt l 13 3
 simp only [Nat.reducePow] at n0 n1 n2 n3 n4 n5 n6
 have h16 : (l.length : Int) = 16 := by omega
 have hc := hid hl
 have t0 := hid (fun w => hT.out 0 4 w (by omega) (by omega))
 have t1 := hid (fun w => hT.out 4 1 w (by omega) (by omega))
 have t2 := hid (fun w => hT.out 5 2 w (by omega) (by omega))
 have t3 := hid (fun w => hT.out 7 2 w (by omega) (by omega))
 have t4 := hid (fun w => hT.out 9 2 w (by omega) (by omega))
 have t5 := hid (fun w => hT.out 11 2 w (by omega) (by omega))
 have t6 := hid (fun w => hT.out 13 3 w (by omega) (by omega))
 rw [show le ((l.drop 0).take 4) = nm l 0 4 from rfl] at t0
 rw [show le ((l.drop 4).take 1) = nm l 4 1 from rfl] at t1
 rw [show le ((l.drop 5).take 2) = nm l 5 2 from rfl] at t2
 rw [show le ((l.drop 7).take 2) = nm l 7 2 from rfl] at t3
 rw [show le ((l.drop 9).take 2) = nm l 9 2 from rfl] at t4
 rw [show le ((l.drop 11).take 2) = nm l 11 2 from rfl] at t5
 rw [show le ((l.drop 13).take 3) = nm l 13 3 from rfl] at t6
 have hS := hid (fun cu va w => rSound_any cu (nm l 4 1) (nm l 5 2) (nm l 7 2) (nm l 9 2) (nm l 11 2) (nm l 13 3) va w)
 generalize sndP (nm l 4 1) (nm l 5 2) (nm l 7 2) (nm l 9 2) (nm l 11 2) (nm l 13 3) = z at *
 generalize nm l 0 4 = m0 at *
 generalize nm l 4 1 = m1 at *
 generalize nm l 5 2 = m2 at *
 generalize nm l 7 2 = m3 at *
 generalize nm l 9 2 = m4 at *
 generalize nm l 11 2 = m5 at *
 generalize nm l 13 3 = m6 at *
 clear hl hT
 cases va
 · go_enter Tryz.func156, Tryz.ntmps156
   go_wp2_with fail
   refine (t0.out _).mono ?_
   rintro e' w1 ⟨rfl, rfl⟩
   go_wp2_with fail
   refine (t1.out _).mono ?_
   rintro e' w1 ⟨rfl, rfl⟩
   go_wp2_with fail
   refine (t2.out _).mono ?_
   rintro e' w1 ⟨rfl, rfl⟩
   go_wp2_with fail
   refine (t3.out _).mono ?_
   rintro e' w1 ⟨rfl, rfl⟩
   go_wp2_with fail
   refine (t4.out _).mono ?_
   rintro e' w1 ⟨rfl, rfl⟩
   go_wp2_with fail
   refine (t5.out _).mono ?_
   rintro e' w1 ⟨rfl, rfl⟩
   go_wp2_with fail
   refine (t6.out _).mono ?_
   rintro e' w1 ⟨rfl, rfl⟩
   go_wp2_with fail
   exact bodyPost_ret (v := .tuple #[.agg #[.int .u32 m0, .int .u8 m1, .int .u16 m2, .int .u16 m3, .int .u16 m4, .int .u16 m5, .int .u32 m6, .bool false], .bool true]) (by simp [results, Tryz.results156, go_sem]) rfl ⟨rfl, by go_grown⟩
 · go_enter Tryz.func156, Tryz.ntmps156
   go_wp2_with fail
   refine (t0.out _).mono ?_
   rintro e' w1 ⟨rfl, rfl⟩
   go_wp2_with fail
   refine (t1.out _).mono ?_
   rintro e' w1 ⟨rfl, rfl⟩
   go_wp2_with fail
   refine (t2.out _).mono ?_
   rintro e' w1 ⟨rfl, rfl⟩
   go_wp2_with fail
   refine (t3.out _).mono ?_
   rintro e' w1 ⟨rfl, rfl⟩
   go_wp2_with fail
   refine (t4.out _).mono ?_
   rintro e' w1 ⟨rfl, rfl⟩
   go_wp2_with fail
   refine (t5.out _).mono ?_
   rintro e' w1 ⟨rfl, rfl⟩
   go_wp2_with fail
   refine (t6.out _).mono ?_
   rintro e' w1 ⟨rfl, rfl⟩
   go_wp2_with fail
   refine (hS.out m0 false _).mono ?_
   rintro e' w2 ⟨rfl, h1⟩
   have p0 : w2.cell? ⟨W.heap.size, 0, none⟩ = some (.int .u32 0) := (h1.cell (by simp; omega)).trans (by simp [go_sem])
   have q0 : w2.cell? ⟨W.heap.size + 1, 0, none⟩ = some (.int .u32 m0) := (h1.cell (by simp)).trans (by simp [go_sem])
   have f0 : w2.frozen? ⟨W.heap.size, 0, none⟩ = false := (h1.frozen (by simp; omega)).trans (by simp [go_sem])
   have p1 : w2.cell? ⟨W.heap.size, 1, none⟩ = some (.int .u8 0) := (h1.cell (by simp; omega)).trans (by simp [go_sem])
   have q1 : w2.cell? ⟨W.heap.size + 1, 1, none⟩ = some (.int .u8 m1) := (h1.cell (by simp)).trans (by simp [go_sem])
   have f1 : w2.frozen? ⟨W.heap.size, 1, none⟩ = false := (h1.frozen (by simp; omega)).trans (by simp [go_sem])
   have p2 : w2.cell? ⟨W.heap.size, 2, none⟩ = some (.int .u16 0) := (h1.cell (by simp; omega)).trans (by simp [go_sem])
   have q2 : w2.cell? ⟨W.heap.size + 1, 2, none⟩ = some (.int .u16 m2) := (h1.cell (by simp)).trans (by simp [go_sem])
   have f2 : w2.frozen? ⟨W.heap.size, 2, none⟩ = false := (h1.frozen (by simp; omega)).trans (by simp [go_sem])
   have p3 : w2.cell? ⟨W.heap.size, 3, none⟩ = some (.int .u16 0) := (h1.cell (by simp; omega)).trans (by simp [go_sem])
   have q3 : w2.cell? ⟨W.heap.size + 1, 3, none⟩ = some (.int .u16 m3) := (h1.cell (by simp)).trans (by simp [go_sem])
   have f3 : w2.frozen? ⟨W.heap.size, 3, none⟩ = false := (h1.frozen (by simp; omega)).trans (by simp [go_sem])
   have p4 : w2.cell? ⟨W.heap.size, 4, none⟩ = some (.int .u16 0) := (h1.cell (by simp; omega)).trans (by simp [go_sem])
   have q4 : w2.cell? ⟨W.heap.size + 1, 4, none⟩ = some (.int .u16 m4) := (h1.cell (by simp)).trans (by simp [go_sem])
   have f4 : w2.frozen? ⟨W.heap.size, 4, none⟩ = false := (h1.frozen (by simp; omega)).trans (by simp [go_sem])
   have p5 : w2.cell? ⟨W.heap.size, 5, none⟩ = some (.int .u16 0) := (h1.cell (by simp; omega)).trans (by simp [go_sem])
   have q5 : w2.cell? ⟨W.heap.size + 1, 5, none⟩ = some (.int .u16 m5) := (h1.cell (by simp)).trans (by simp [go_sem])
   have f5 : w2.frozen? ⟨W.heap.size, 5, none⟩ = false := (h1.frozen (by simp; omega)).trans (by simp [go_sem])
   have p6 : w2.cell? ⟨W.heap.size, 6, none⟩ = some (.int .u32 0) := (h1.cell (by simp; omega)).trans (by simp [go_sem])
   have q6 : w2.cell? ⟨W.heap.size + 1, 6, none⟩ = some (.int .u32 m6) := (h1.cell (by simp)).trans (by simp [go_sem])
   have f6 : w2.frozen? ⟨W.heap.size, 6, none⟩ = false := (h1.frozen (by simp; omega)).trans (by simp [go_sem])
   have p7 : w2.cell? ⟨W.heap.size, 7, none⟩ = some (.bool false) := (h1.cell (by simp; omega)).trans (by simp [go_sem])
   have q7 : w2.cell? ⟨W.heap.size + 1, 7, none⟩ = some (.bool false) := (h1.cell (by simp)).trans (by simp [go_sem])
   have f7 : w2.frozen? ⟨W.heap.size, 7, none⟩ = false := (h1.frozen (by simp; omega)).trans (by simp [go_sem])
   have g7 : w2.frozen? ⟨W.heap.size + 1, 7, none⟩ = false := (h1.frozen (by simp)).trans (by simp [go_sem])
   have hb := hid ((((Below.refl W.heap.size W).alloc (Nat.le_refl _) (.cells #[.int .u32 0, .int .u8 0, .int .u16 0, .int .u16 0, .int .u16 0, .int .u16 0, .int .u32 0, .bool false] 25)).alloc (by simp) (.cells #[.int .u32 m0, .int .u8 m1, .int .u16 m2, .int .u16 m3, .int .u16 m4, .int .u16 m5, .int .u32 m6, .bool false] 25)).trans (h1.mono (by simp; omega)))
   clear h1
   go_wp2_with fail
   obtain ⟨W3, hW3⟩ : ∃ W3, W3 = setRow W.heap.size 0 [.int .u32 m0, .int .u8 m1, .int .u16 m2, .int .u16 m3, .int .u16 m4, .int .u16 m5, .int .u32 m6, .bool z] (w2.setCell ⟨W.heap.size + 1, 7, none⟩ (.bool z)) := ⟨_, rfl⟩
   have ha : ∀ k x, w2.cell? ⟨W.heap.size, k, none⟩ = some x → ((w2.setCell ⟨W.heap.size + 1, 7, none⟩ (.bool z)).cell? ⟨W.heap.size, k, none⟩).isSome = true := fun k x h => by
     rw [World.cell?_setCell_other _ _ _ _ (by simp), h]; rfl
   have hc8 : ∀ j u, [.int .u32 m0, .int .u8 m1, .int .u16 m2, .int .u16 m3, .int .u16 m4, .int .u16 m5, .int .u32 m6, .bool z][j]? = some u → W3.cell? ⟨W.heap.size, j, none⟩ = some u := fun j u hu => by
     rw [hW3]
     have := setRow_cell W.heap.size [.int .u32 m0, .int .u8 m1, .int .u16 m2, .int .u16 m3, .int .u16 m4, .int .u16 m5, .int .u32 m6, .bool z] 0 j u (w2.setCell ⟨W.heap.size + 1, 7, none⟩ (.bool z)) (fun j' hj' => by
       rw [Nat.zero_add]
       have : j' = 0 ∨ j' = 1 ∨ j' = 2 ∨ j' = 3 ∨ j' = 4 ∨ j' = 5 ∨ j' = 6 ∨ j' = 7 := by simp at hj'; omega
       rcases this with rfl | rfl | rfl | rfl | rfl | rfl | rfl | rfl <;> exact ha _ _ (by assumption)) hu
     rwa [Nat.zero_add] at this
   have hb3 : Below W.heap.size W W3 := by
     rw [hW3]
     exact ((((((((hb.out.setCell (by simp) _).setCell (by simp) _).setCell (by simp) _).setCell (by simp) _).setCell (by simp) _).setCell (by simp) _).setCell (by simp) _).setCell (by simp) _).setCell (by simp) _
   change bodyPost _ _ _ _ _ (setRow W.heap.size 0 [.int .u32 m0, .int .u8 m1, .int .u16 m2, .int .u16 m3, .int .u16 m4, .int .u16 m5, .int .u32 m6, .bool z] (w2.setCell ⟨W.heap.size + 1, 7, none⟩ (.bool z)))
   rw [← hW3]
   have r0 := hc8 0 _ rfl
   have r1 := hc8 1 _ rfl
   have r2 := hc8 2 _ rfl
   have r3 := hc8 3 _ rfl
   have r4 := hc8 4 _ rfl
   have r5 := hc8 5 _ rfl
   have r6 := hc8 6 _ rfl
   have r7 := hc8 7 _ rfl
   exact bodyPost_ret (v := .tuple #[.agg #[.int .u32 m0, .int .u8 m1, .int .u16 m2, .int .u16 m3, .int .u16 m4, .int .u16 m5, .int .u32 m6, .bool z], .bool true]) (by simp [results, Tryz.results156, go_sem, r0, r1, r2, r3, r4, r5, r6, r7]) rfl ⟨by rw [Bool.true_and], hb3⟩
end Go.Proofs.YtkmgdfcambdeeaaGreatDoor
