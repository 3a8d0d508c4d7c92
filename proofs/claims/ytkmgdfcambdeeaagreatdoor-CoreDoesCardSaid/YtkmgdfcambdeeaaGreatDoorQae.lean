/- For core. -/
import Derived.Deep.RegionHeld3
import Derived.Test.YtkmgdfcambdeeaaGreatDoorQad
namespace Go.Proofs.YtkmgdfcambdeeaaGreatDoor
open Lib (hid)
open Go.RowKit
set_option linter.unusedVariables false
def hoP (x y : Int) (at_ sz : Nat) : Bool := decide (x ≤ at_ ∧ (at_ : Int) + sz ≤ y)
def wiP (pm pm' : Nat) (x y x' y' : Int) : Bool := decide (pm &&& pm' = pm ∧ (y ≤ x ∨ (x' ≤ x ∧ y ≤ y')))
theorem de_bounds (e b t c : Nat) : 0 ≤ deB e b t c ∧ deB e b t c ≤ 4294967295 ∧ deB e b t c ≤ deT e b t c ∧ deT e b t c ≤ 4294967296 := by
 have h := te_bounds e b t c
 unfold deB deT
 split <;> omega
theorem rHolds_any (cu e b t pm ty rs at_ sz : Nat) (va : Bool) (W : World) (l0 : cu < 4294967296) (la : at_ < 4294967296) (lz : sz < 4294967296) :
   Calls Tryz.prog 87 #[.agg #[.int .u32 cu, .int .u8 e, .int .u16 b, .int .u16 t, .int .u16 pm, .int .u16 ty, .int .u32 rs, .bool va], .agg #[.int .u32 at_, .int .u32 sz]] W fun e' w' => e' = .returned (.bool (hoP (deB e b t cu) (deT e b t cu) at_ sz)) ∧ Below W.heap.size W w' := by
 have hR := hid (fun w => rRange_any cu e b t pm ty rs va w l0)
 have hbd := de_bounds e b t cu
 generalize deB e b t cu = x at *
 generalize deT e b t cu = y at *
 obtain ⟨b1, b2, b3, b4⟩ := hbd
 go_enter Tryz.func87, Tryz.ntmps87
 go_wp2_with fail
 refine (hR.out _).mono ?_
 rintro e' w1 ⟨rfl, h1⟩
 have p0 : w1.cell? ⟨W.heap.size + 1, 0, none⟩ = some (.int .u32 at_) := (h1.cell (by simp)).trans (by simp [go_sem])
 have p1 : w1.cell? ⟨W.heap.size + 1, 1, none⟩ = some (.int .u32 sz) := (h1.cell (by simp)).trans (by simp [go_sem])
 have hb := hid ((((Below.refl W.heap.size W).alloc (Nat.le_refl _) (.cells #[.int .u32 cu, .int .u8 e, .int .u16 b, .int .u16 t, .int .u16 pm, .int .u16 ty, .int .u32 rs, .bool va] 25)).alloc (by simp) (.cells #[.int .u32 at_, .int .u32 sz] 122)).trans (h1.mono (by simp <;> omega)))
 clear h1
 go_wp2_with fail
 all_goals go_ret
 all_goals
   refine ⟨ret_bool ?_, hb.out⟩
   rw [Bool.eq_iff_iff]
   simp only [hoP, decide_eq_true_eq, Bool.false_eq_true, false_iff]
   omega
theorem rWithin_any (cu e b t pm ty rs : Nat) (va : Bool) (cu' e' b' t' pm' ty' rs' : Nat) (va' : Bool) (W : World) (l0 : cu < 4294967296) (l0' : cu' < 4294967296) (l4 : pm < 65536) (l4' : pm' < 65536) :
   Calls Tryz.prog 160 #[.agg #[.int .u32 cu, .int .u8 e, .int .u16 b, .int .u16 t, .int .u16 pm, .int .u16 ty, .int .u32 rs, .bool va], .agg #[.int .u32 cu', .int .u8 e', .int .u16 b', .int .u16 t', .int .u16 pm', .int .u16 ty', .int .u32 rs', .bool va']] W fun ee w' => ee = .returned (.bool (wiP pm pm' (deB e b t cu) (deT e b t cu) (deB e' b' t' cu') (deT e' b' t' cu'))) ∧ Below W.heap.size W w' := by
 have hR := hid (fun w => rRange_any cu e b t pm ty rs va w l0)
 have hR' := hid (fun w => rRange_any cu' e' b' t' pm' ty' rs' va' w l0')
 have hand := u16_and_nat pm pm' l4 l4'
 have hbd := de_bounds e b t cu
 have hbd' := de_bounds e' b' t' cu'
 generalize deB e b t cu = x at *
 generalize deT e b t cu = y at *
 generalize deB e' b' t' cu' = x' at *
 generalize deT e' b' t' cu' = y' at *
 have hw : wiP pm pm' x y x' y' = (decide (pm &&& pm' = pm) && (decide (y ≤ x) || (decide (x' ≤ x) && decide (y ≤ y')))) := by
   rw [Bool.eq_iff_iff]; simp [wiP]
 rw [hw]
 generalize pm &&& pm' = q at *
 obtain ⟨b1, b2, b3, b4⟩ := hbd
 obtain ⟨c1, c2, c3, c4⟩ := hbd'
 go_enter Tryz.func160, Tryz.ntmps160
 go_wp2_with fail
 refine (hR.out _).mono ?_
 rintro ee w1 ⟨rfl, h1⟩
 have p0 : w1.cell? ⟨W.heap.size + 1, 0, none⟩ = some (.int .u32 cu') := (h1.cell (by simp <;> omega)).trans (by simp [go_sem])
 have p1 : w1.cell? ⟨W.heap.size + 1, 1, none⟩ = some (.int .u8 e') := (h1.cell (by simp <;> omega)).trans (by simp [go_sem])
 have p2 : w1.cell? ⟨W.heap.size + 1, 2, none⟩ = some (.int .u16 b') := (h1.cell (by simp <;> omega)).trans (by simp [go_sem])
 have p3 : w1.cell? ⟨W.heap.size + 1, 3, none⟩ = some (.int .u16 t') := (h1.cell (by simp <;> omega)).trans (by simp [go_sem])
 have p4 : w1.cell? ⟨W.heap.size + 1, 4, none⟩ = some (.int .u16 pm') := (h1.cell (by simp <;> omega)).trans (by simp [go_sem])
 have p5 : w1.cell? ⟨W.heap.size + 1, 5, none⟩ = some (.int .u16 ty') := (h1.cell (by simp <;> omega)).trans (by simp [go_sem])
 have p6 : w1.cell? ⟨W.heap.size + 1, 6, none⟩ = some (.int .u32 rs') := (h1.cell (by simp <;> omega)).trans (by simp [go_sem])
 have p7 : w1.cell? ⟨W.heap.size + 1, 7, none⟩ = some (.bool va') := (h1.cell (by simp <;> omega)).trans (by simp [go_sem])
 have r4 : w1.cell? ⟨W.heap.size, 4, none⟩ = some (.int .u16 pm) := (h1.cell (by simp <;> omega)).trans (by simp [go_sem])
 have hs := hid (show W.heap.size + 2 ≤ w1.heap.size from by have := h1.size; simp at this; omega)
 have hb := hid ((((Below.refl W.heap.size W).alloc (Nat.le_refl _) (.cells #[.int .u32 cu, .int .u8 e, .int .u16 b, .int .u16 t, .int .u16 pm, .int .u16 ty, .int .u32 rs, .bool va] 25)).alloc (by simp) (.cells #[.int .u32 cu', .int .u8 e', .int .u16 b', .int .u16 t', .int .u16 pm', .int .u16 ty', .int .u32 rs', .bool va'] 25)).trans (h1.mono (by simp <;> omega)))
 clear h1
 go_wp2_with fail
 refine (hR'.out _).mono ?_
 rintro ee w2 ⟨rfl, h2⟩
 have hs' := hs.out
 replace r4 : w2.cell? ⟨W.heap.size, 4, none⟩ = some (.int .u16 pm) := (h2.cell (by show W.heap.size < _; omega)).trans r4
 replace p4 : w2.cell? ⟨W.heap.size + 1, 4, none⟩ = some (.int .u16 pm') := (h2.cell (by show W.heap.size + 1 < _; omega)).trans p4
 replace hb := hid (hb.out.trans (h2.mono hb.out.size))
 clear h2 p0 p1 p2 p3 p5 p6 p7 hs hs'
 go_wp2_with fail
 all_goals go_ret
 all_goals
   refine ⟨ret_bool ?_, hb.out⟩
   rw [Bool.eq_iff_iff]
   simp
   omega
def mkP (at_ sz pm : Nat) : Bool := decide (pm ≤ 255 ∧ at_ + sz ≤ 4294967296) && enX at_ (at_ + sz)
theorem arr_eq' (d : Nat) (p1 p2 q1 q2 : Int) (w : World) : (Op.equalIn (d + 1 + 1) 212 (.agg #[.int .i64 p1, .int .i64 p2]) (.agg #[.int .i64 q1, .int .i64 q2])).run Tryz.prog w = .ok (decide (p1 = q1 ∧ p2 = q2)) w := by
 have hu : Tryz.prog.underlying 212 = some (.array 2 2) := by kernel_rfl
 have hs : ∀ w, (sizeOf 2).run Tryz.prog w = .ok 1 w := fun w => by kernel_rfl
 have ha : ∀ (x y : Int) w, (part 2 #[.int .i64 x, .int .i64 y] 0).run Tryz.prog w = .ok (.int .i64 x) w := fun x y w => by kernel_rfl
 have hb : ∀ (x y : Int) w, (part 2 #[.int .i64 x, .int .i64 y] 1).run Tryz.prog w = .ok (.int .i64 y) w := fun x y w => by kernel_rfl
 have hi : ∀ (x y : Int) w, (Op.equalIn (d + 1) 2 (.int .i64 x) (.int .i64 y)).run Tryz.prog w = .ok (x == y) w := fun x y w => run_equalIn_int w d 2 .i64 .i64 x y (by kernel_rfl)
 unfold Op.equalIn
 simp only [Sem.run_bind, run_underlying hu, Result.andThen_ok, hs]
 have hr : List.range' 0 2 1 = [0, 1] := by decide
 simp [Std.Legacy.Range.forIn_eq_forIn_range', Std.Legacy.Range.size, hr, Sem.run_bind, ha, hb, hi, Result.andThen_ok, Sem.run_ite]
 by_cases h1 : p1 = q1 <;> by_cases h2 : p2 = q2 <;> simp [h1, h2]
theorem arr_eq (p1 p2 q1 q2 : Int) (w : World) : (Op.equalIn 10000 212 (.agg #[.int .i64 p1, .int .i64 p2]) (.agg #[.int .i64 q1, .int .i64 q2])).run Tryz.prog w = .ok (decide (p1 = q1 ∧ p2 = q2)) w := arr_eq' 9998 p1 p2 q1 q2 w
theorem Decode_any (e b t c : Nat) (w : World) (hc : c < 4294967296) :
   Calls Tryz.prog 166 #[.int .u8 e, .int .u16 b, .int .u16 t, .int .u32 c] w fun e' w' => e' = .returned (.tuple #[.int .u32 (deB e b t c), .int .u64 (deT e b t c)]) ∧ Below w.heap.size w w' := by
 have hT := hid (fun w => tell_any e b t c w hc)
 have hb := te_bounds e b t c
 have hB := hid (show deB e b t c = if teB e b t c = 4294967296 then 0 else teB e b t c from rfl)
 have hD := hid (show deT e b t c = if teB e b t c = 4294967296 then 0 else teT e b t c from rfl)
 generalize deB e b t c = vB at *
 generalize deT e b t c = vT at *
 generalize teB e b t c = p1 at *
 generalize teT e b t c = p2 at *
 obtain ⟨b1, b2, b3⟩ := hb
 clear hc
 by_cases h : p1 = 4294967296
 · rw [show vB = 0 from by rw [hB.out, if_pos h], show vT = 0 from by rw [hD.out, if_pos h]]
   have hq : (p1 == 4294967296) = true := by simp [h]
   clear hB hD
   replace h := hid h
   go_enter Tryz.func166, Tryz.ntmps166
   go_wp2_with fail
   refine (hT.out _).mono ?_
   rintro e' w1 ⟨rfl, h1⟩
   replace h1 := hid h1
   go_wp2_with fail
   go_ret2
   exact ⟨rfl, h1.out.alloc h1.out.size _⟩
 · rw [show vB = p1 from by rw [hB.out, if_neg h], show vT = p2 from by rw [hD.out, if_neg h]]
   have hq : (p1 == 4294967296) = false := by simp [h]
   have b4 : p1 < 4294967296 := by omega
   clear hB hD
   replace h := hid h
   go_enter Tryz.func166, Tryz.ntmps166
   go_wp2_with fail
   refine (hT.out _).mono ?_
   rintro e' w1 ⟨rfl, h1⟩
   replace h1 := hid h1
   go_wp2_with fail
   go_quiet (fail)
   go_wp2
   go_ret2
   exact ⟨rfl, below_drewN (h1.out.alloc h1.out.size _) _⟩
theorem kp_eq (e b t c n : Nat) : (isB e b t c && (isB e b t n && decide (teB e b t c = teB e b t n ∧ teT e b t c = teT e b t n))) = kp e b t c n := by
 unfold kp
 cases h : isB e b t c
 · simp only [Bool.false_and]
 · cases h2 : isB e b t n
   · symm
     simp only [Bool.true_and, Bool.false_and]
     refine decide_eq_false fun k => ?_
     unfold isB at h h2
     rw [← k.1, ← k.2] at h2
     rw [h2] at h
     exact Bool.noConfusion h
   · simp [teB, teT, h, h2]
theorem Keeps_any (e b t c n : Nat) (w : World) (hc : c < 4294967296) (hn : n < 4294967296) :
   Calls Tryz.prog 138 #[.int .u8 e, .int .u16 b, .int .u16 t, .int .u32 c, .int .u32 n] w fun e' w' => e' = .returned (.bool (kp e b t c n)) ∧ Below w.heap.size w w' := by
 have hT := hid (fun w => tell_any e b t c w hc)
 have hN := hid (fun w => tell_any e b t n w hn)
 rw [← kp_eq]
 generalize teB e b t c = p1 at *
 generalize teT e b t c = p2 at *
 generalize teB e b t n = q1 at *
 generalize teT e b t n = q2 at *
 generalize isB e b t c = i1 at *
 generalize isB e b t n = i2 at *
 clear hc hn
 cases i1
 · go_enter Tryz.func138, Tryz.ntmps138
   go_wp2_with fail
   refine (hT.out _).mono ?_
   rintro e' w1 ⟨rfl, h1⟩
   replace h1 := hid h1
   go_wp2_with fail
   refine (hN.out _).mono ?_
   rintro e' w2 ⟨rfl, h2⟩
   have hb := hid ((h1.out.alloc h1.out.size (.cells #[.int .i64 p1, .int .i64 p2] 212)).trans (h2.mono (by have := h1.out.size; simp; omega)))
   clear h1 h2
   go_wp2_with fail
   go_ret
   exact ⟨rfl, hb.out.alloc hb.out.size _⟩
 · cases i2
   · go_enter Tryz.func138, Tryz.ntmps138
     go_wp2_with fail
     refine (hT.out _).mono ?_
     rintro e' w1 ⟨rfl, h1⟩
     replace h1 := hid h1
     go_wp2_with fail
     refine (hN.out _).mono ?_
     rintro e' w2 ⟨rfl, h2⟩
     have hb := hid ((h1.out.alloc h1.out.size (.cells #[.int .i64 p1, .int .i64 p2] 212)).trans (h2.mono (by have := h1.out.size; simp; omega)))
     clear h1 h2
     go_wp2_with fail
     go_ret
     exact ⟨rfl, hb.out.alloc hb.out.size _⟩
   · have hq := fun w => arr_eq p1 p2 q1 q2 w
     generalize decide (p1 = q1 ∧ p2 = q2) = z at *
     go_enter Tryz.func138, Tryz.ntmps138
     go_wp2_with fail
     refine (hT.out _).mono ?_
     rintro e' w1 ⟨rfl, h1⟩
     replace h1 := hid h1
     go_wp2_with fail
     refine (hN.out _).mono ?_
     rintro e' w2 ⟨rfl, h2⟩
     have hb := hid ((h1.out.alloc h1.out.size (.cells #[.int .i64 p1, .int .i64 p2] 212)).trans (h2.mono (by have := h1.out.size; simp; omega)))
     have s2 : w1.heap.size < w2.heap.size := by have := h2.size; simp at this; omega
     have k0 : w2.cell? ⟨w1.heap.size, 0, none⟩ = some (.int .i64 p1) := (h2.cell (by simp)).trans (by simp [go_sem])
     have k1 : w2.cell? ⟨w1.heap.size, 1, none⟩ = some (.int .i64 p2) := (h2.cell (by simp)).trans (by simp [go_sem])
     clear h1 h2
     go_wp2_with fail
     go_ret
     exact ⟨by cases z <;> rfl, hb.out.alloc hb.out.size _⟩
theorem Round_any (b t : Nat) (w : World) (hb : b < 4294967296) (ht : t < 18446744073709551616) :
   Calls Tryz.prog 213 #[.int .u32 b, .int .u64 t] w fun e' w' => e' = .returned (.tuple #[.int .u32 (rdB b t), .int .u64 (rdT b t), .bool (may b t)]) ∧ Below w.heap.size w w' := by
 have hM := hid (fun w => mayBe_any b t w hb)
 cases hm : may b t
 · rw [show rdB b t = 0 from by simp [rdB, hm], show rdT b t = 0 from by simp [rdT, hm]]
   rw [hm] at hM
   replace hm := hid hm
   go_enter Tryz.func213, Tryz.ntmps213
   go_wp2_with fail
   refine (hM.out _).mono ?_
   rintro e' w1 ⟨rfl, rfl⟩
   go_wp2_with fail
   go_ret3
   exact ⟨rfl, Below.refl _ _⟩
 · rw [show rdB b t = dn (2 ^ expo b t) b from by simp [rdB, hm], show rdT b t = up (2 ^ expo b t) t from by simp [rdT, hm]]
   rw [hm] at hM
   have h := of_decide_eq_true hm
   have hF := hid (fun w => fit_any b t w h.1 h.2)
   have b1 : dn (2 ^ expo b t) b < 4294967296 := Nat.lt_of_le_of_lt (dn_le _ _) hb
   have b2 : up (2 ^ expo b t) t ≤ 4294967296 := up_le_of_dvd (pow_pos2 _) (dvd_whole (Nat.le_trans (expo_le b h.2) (by decide))) h.2
   have h2 : t ≤ 4294967296 := h.2
   generalize dn (2 ^ expo b t) b = D at *
   generalize up (2 ^ expo b t) t = T at *
   generalize expo b t = k at *
   clear hm h
   go_enter Tryz.func213, Tryz.ntmps213
   go_wp2_with fail
   refine (hM.out _).mono ?_
   rintro e' w1 ⟨rfl, rfl⟩
   go_wp2_with fail
   refine (hF.out _).mono ?_
   rintro e' w1 ⟨rfl, h1⟩
   go_wp2_with fail
   go_quiet (fail)
   go_wp2
   go_ret3
   exact ⟨rfl, below_drewN (h1.alloc h1.size _) _⟩
theorem Encode_any (b t : Nat) (w : World) (hb : b < 4294967296) (ht : t < 18446744073709551616) :
   Calls Tryz.prog 123 #[.int .u32 b, .int .u64 t] w fun e' w' => e' = .returned (.tuple #[.int .u8 (enE b t), .int .u16 (enB b t), .int .u16 (enT b t), .bool (enX b t), .bool (may b t)]) ∧ Below w.heap.size w w' := by
 have hM := hid (fun w => mayBe_any b t w hb)
 cases hm : may b t
 · rw [show enE b t = 0 from by simp [enE, hm], show enB b t = 0 from by simp [enB, rdB, hm], show enT b t = 0 from by simp [enT, rdT, hm], show enX b t = false from by simp [enX, hm]]
   rw [hm] at hM
   replace hm := hid hm
   go_enter Tryz.func123, Tryz.ntmps123
   go_wp2_with fail
   refine (hM.out _).mono ?_
   rintro e' w1 ⟨rfl, rfl⟩
   go_wp2_with fail
   exact bodyPost_ret (v := .tuple #[.int .u8 0, .int .u16 0, .int .u16 0, .bool false, .bool false]) (by simp [results, Tryz.results123, go_sem]) rfl ⟨rfl, Below.refl _ _⟩
 · rw [show enX b t = decide (rdB b t = b ∧ rdT b t = t) from by simp [enX, hm]]
   unfold enB enT
   rw [show enE b t = expo b t from by simp [enE, hm], show rdB b t = dn (2 ^ expo b t) b from by simp [rdB, hm], show rdT b t = up (2 ^ expo b t) t from by simp [rdT, hm]]
   rw [hm] at hM
   have h := of_decide_eq_true hm
   have hF := hid (fun w => fit_any b t w h.1 h.2)
   have b1 : dn (2 ^ expo b t) b < 4294967296 := Nat.lt_of_le_of_lt (dn_le _ _) hb
   have b2 : up (2 ^ expo b t) t ≤ 4294967296 := up_le_of_dvd (pow_pos2 _) (dvd_whole (Nat.le_trans (expo_le b h.2) (by decide))) h.2
   have h2 : t ≤ 4294967296 := h.2
   have hk := expo_le b h.2
   generalize dn (2 ^ expo b t) b = D at *
   generalize up (2 ^ expo b t) t = T at *
   generalize expo b t = k at *
   clear hm h
   have hq := fun w => arr_eq D T b t w
   have hz : decide ((D : Int) = b ∧ (T : Int) = t) = decide (D = b ∧ T = t) := by rw [decide_eq_decide]; omega
   rw [hz] at hq
   clear hz
   generalize decide (D = b ∧ T = t) = z at *
   go_enter Tryz.func123, Tryz.ntmps123
   go_wp2_with fail
   refine (hM.out _).mono ?_
   rintro e' w1 ⟨rfl, rfl⟩
   go_wp2_with fail
   refine (hF.out _).mono ?_
   rintro e' w1 ⟨rfl, h1⟩
   have hb1 : Below w.heap.size w w1 := ((Below.refl _ _).alloc (Nat.le_refl _) _).trans (h1.mono (by simp))
   have s1 : w.heap.size < w1.heap.size := by have := h1.size; simp at this; omega
   have k0 : w1.cell? ⟨w.heap.size, 0, none⟩ = some (.int .i64 b) := (h1.cell (by simp)).trans (by simp [go_sem])
   have k1 : w1.cell? ⟨w.heap.size, 1, none⟩ = some (.int .i64 t) := (h1.cell (by simp)).trans (by simp [go_sem])
   clear h1
   have hE := hid (fun (x n : Nat) => mantissa_any w1.heap.size k x (((w1.alloc (.cells #[.int .i64 k] 3)).alloc (.cells #[.int .i64 D, .int .i64 T] 212)).drewN n) (by simp [go_sem]) hk)
   replace hb1 := hid hb1
   go_wp2_with fail
   go_quiet ((go_at_call 169; exact Calls.quiet_of_same ((hE.out _ _).mono fun _ _ h => ⟨h.1, h.2.symm⟩)))
   go_wp2
   exact bodyPost_ret (v := .tuple #[.int .u8 k, .int .u16 (D / 2 ^ k % 4096 : Nat), .int .u16 (T / 2 ^ k % 4096 : Nat), .bool z, .bool true]) (by simp [results, Tryz.results123, go_sem]) rfl ⟨rfl, below_drewN ((hb1.out.alloc hb1.out.size _).alloc (by have := hb1.out.size; simp; omega) _) _⟩
theorem pend_any (at_ sz : Nat) (W : World) (la : at_ < 4294967296) (lz : sz < 4294967296) :
   Calls Tryz.prog 124 #[.agg #[.int .u32 at_, .int .u32 sz]] W fun e' w' => e' = .returned (.int .u64 ((at_ + sz : Nat) : Int)) ∧ Below W.heap.size W w' := by
 go_enter Tryz.func124, Tryz.ntmps124
 go_wp2
 go_ret
 exact ⟨ret_int (by omega), by go_grown⟩
theorem pNumber_any (v : Nat) (lv : v < 4294967296) (W : World) : Calls Tryz.prog 28 #[.int .u32 v] W fun ee w' => ee = .returned (.agg #[.int .u32 v, .int .u8 0, .int .u16 0, .int .u16 0, .int .u16 0, .int .u16 0, .int .u32 0, .bool false]) ∧ Below W.heap.size W w' := by
 go_enter Tryz.func28, Tryz.ntmps28
 go_wp2_with fail
 exact bodyPost_ret (v := .agg #[.int .u32 v, .int .u8 0, .int .u16 0, .int .u16 0, .int .u16 0, .int .u16 0, .int .u32 0, .bool false]) (by simp [results, Tryz.results28, go_sem]) rfl ⟨rfl, by go_grown⟩
theorem pRange_any (cu e b t pm ty rs : Nat) (va : Bool) (l0 : cu < 4294967296) (l1 : e < 256) (l2 : b < 65536) (l3 : t < 65536) (l4 : pm < 65536) (l5 : ty < 65536) (l6 : rs < 4294967296) (W : World) : Calls Tryz.prog 122 #[.agg #[.int .u32 cu, .int .u8 e, .int .u16 b, .int .u16 t, .int .u16 pm, .int .u16 ty, .int .u32 rs, .bool va]] W fun ee w' => ee = .returned (.tuple #[.int .u32 (deB e b t cu), .int .u64 (deT e b t cu)]) ∧ Below W.heap.size W w' := by
 have hD := hid (fun w => Decode_any e b t cu w l0)
 generalize deB e b t cu = x at *
 generalize deT e b t cu = y at *
 have hb0 := hid ((Below.refl W.heap.size W).alloc (Nat.le_refl _) (.cells #[.int .u32 cu, .int .u8 e, .int .u16 b, .int .u16 t, .int .u16 pm, .int .u16 ty, .int .u32 rs, .bool va] 25))
 go_enter Tryz.func122, Tryz.ntmps122
 go_wp2_with fail
 refine (hD.out _).mono ?_
 rintro e' w1 ⟨rfl, h1⟩
 replace h1 := hid h1
 go_wp2_with fail
 go_ret2
 exact ⟨rfl, hb0.out.trans (h1.out.mono hb0.out.size)⟩
theorem pSound_any (cu e b t pm ty rs : Nat) (va : Bool) (l0 : cu < 4294967296) (l1 : e < 256) (l2 : b < 65536) (l3 : t < 65536) (l4 : pm < 65536) (l5 : ty < 65536) (l6 : rs < 4294967296) (W : World) : Calls Tryz.prog 61 #[.agg #[.int .u32 cu, .int .u8 e, .int .u16 b, .int .u16 t, .int .u16 pm, .int .u16 ty, .int .u32 rs, .bool va]] W fun ee w' => ee = .returned (.bool (sndP e b t pm ty rs)) ∧ Below W.heap.size W w' := by
 obtain ⟨z, hz⟩ : ∃ z, z = sndP e b t pm ty rs := ⟨_, rfl⟩
 rw [← hz]
 rcases first6 ((e : Int) ≤ 21) ((b : Int) < 4096) ((t : Int) < 4096) ((pm : Int) ≤ 255) ((ty : Int) < 4096) ((rs : Int) < 16777216) with ⟨c1, c2, c3, c4, c5, c6⟩ | c1 | ⟨c1, c2⟩ | ⟨c1, c2, c3⟩ | ⟨c1, c2, c3, c4⟩ | ⟨c1, c2, c3, c4, c5⟩ | ⟨c1, c2, c3, c4, c5, c6⟩
 · rw [show z = true from by rw [hz]; exact decide_eq_true (by omega)]
   clear hz
   go_enter Tryz.func61, Tryz.ntmps61
   go_wp2
   go_ret
   refine ⟨?_, by go_grown⟩
   first | rfl | (show Ending.returned (.bool (decide ((rs : Int) < 16777216))) = _; rw [decide_eq_true c6])
 all_goals
   rw [show z = false from by rw [hz]; exact decide_eq_false (by omega)]
   clear hz
   go_enter Tryz.func61, Tryz.ntmps61
   go_wp2
   go_ret
   refine ⟨?_, by go_grown⟩
   first | rfl | (show Ending.returned (.bool (decide ((rs : Int) < 16777216))) = _; rw [decide_eq_false (by omega)])
def SB1 (W w : World) : Prop := Below W.heap.size W w ∧ W.heap.size < w.heap.size
theorem SB1.drew {W w : World} (h : SB1 W w) : SB1 W w.drew := ⟨h.1.drew, h.2⟩
theorem SB1.below {W w w' : World} (h : SB1 W w) (k : Below w.heap.size w w') : SB1 W w' := ⟨h.1.trans (k.mono (Nat.le_of_lt h.2)), Nat.lt_of_lt_of_le h.2 k.size⟩
def SM (W w : World) : Prop := Below W.heap.size W w ∧ W.heap.size + 1 < w.heap.size ∧ CapAt w (W.heap.size + 1) 0 0 0 0 0 0 0 false ∧ ∀ k, w.frozen? ⟨W.heap.size + 1, k, none⟩ = false
theorem SM.drew {W w : World} (h : SM W w) : SM W w.drew := ⟨h.1.drew, h.2.1, ⟨h.2.2.1.q0, h.2.2.1.q1, h.2.2.1.q2, h.2.2.1.q3, h.2.2.1.q4, h.2.2.1.q5, h.2.2.1.q6, h.2.2.1.q7⟩, h.2.2.2⟩
theorem SM.below {W w w' : World} (h : SM W w) (k : Below w.heap.size w w') : SM W w' := by
 obtain ⟨h1, h2, h3, h4⟩ := h
 exact ⟨h1.trans (k.mono (by omega)), Nat.lt_of_lt_of_le h2 k.size, h3.below k h2, fun j => (k.frozen (p := ⟨W.heap.size + 1, j, none⟩) h2).trans (h4 j)⟩
theorem SM.first (W : World) (at_ sz : Nat) : SM W ((W.alloc (.cells #[.int .u32 at_, .int .u32 sz] 122)).alloc (.cells #[.int .u32 0, .int .u8 0, .int .u16 0, .int .u16 0, .int .u16 0, .int .u16 0, .int .u32 0, .bool false] 25)) :=
 ⟨((Below.refl _ _).alloc (Nat.le_refl _) _).alloc (by simp) _, by simp, ⟨by simp [go_sem], by simp [go_sem], by simp [go_sem], by simp [go_sem], by simp [go_sem], by simp [go_sem], by simp [go_sem], by simp [go_sem]⟩, fun k => by rw [World.frozen?_alloc_at (hn := by simp)]⟩
set_option maxHeartbeats 1000000 in
theorem pMake_no (at_ sz pm : Nat) (la : at_ < 4294967296) (lz : sz < 4294967296) (lp : pm < 65536) (h : mkP at_ sz pm = false) (W : World) : Calls Tryz.prog 68 #[.agg #[.int .u32 at_, .int .u32 sz], .int .u16 pm] W fun ee w' => ee = .returned (.tuple #[.agg #[.int .u32 0, .int .u8 0, .int .u16 0, .int .u16 0, .int .u16 0, .int .u16 0, .int .u32 0, .bool false], .bool false]) ∧ Below W.heap.size W w' := by
 have hE := hid (fun w => pend_any at_ sz w la lz)
 have hC := hid (fun w => Encode_any at_ (at_ + sz) w la (by omega))
 have hm : enX at_ (at_ + sz) = true → at_ + sz ≤ 4294967296 := fun hx => by simp [enX, may] at hx; omega
 have hcase : mkP at_ sz pm = (decide ((pm : Int) ≤ 255) && enX at_ (at_ + sz)) := by
   unfold mkP
   cases hx : enX at_ (at_ + sz)
   · simp
   · have := hm hx; rw [Bool.and_true, Bool.and_true]; exact decide_eq_decide.2 ⟨fun k => by omega, fun k => ⟨by omega, by omega⟩⟩
 rw [hcase] at h
 clear hcase hm
 generalize may at_ (at_ + sz) = mm at *
 generalize enE at_ (at_ + sz) = x at *
 generalize enB at_ (at_ + sz) = y at *
 generalize enT at_ (at_ + sz) = z at *
 generalize enX at_ (at_ + sz) = ex at *
 obtain ⟨n, hn⟩ : ∃ n : Int, n = ((at_ + sz : Nat) : Int) := ⟨_, rfl⟩
 rw [← hn] at hE hC
 clear hn
 have fE : ∀ w, (w.cell? ⟨W.heap.size, 0, none⟩ = some (.int .u32 at_) ∧ w.cell? ⟨W.heap.size, 1, none⟩ = some (.int .u32 sz) ∧ SM W w) → Calls Tryz.prog 124 #[.agg #[.int .u32 at_, .int .u32 sz]] w fun ee w' => ee = .returned (.int .u64 n) ∧ (w'.cell? ⟨W.heap.size, 0, none⟩ = some (.int .u32 at_) ∧ w'.cell? ⟨W.heap.size, 1, none⟩ = some (.int .u32 sz) ∧ SM W w') := fun w h => (hE.out w).mono fun ee w' ⟨h1, h2⟩ => by
   obtain ⟨c0, c1, hb⟩ := h
   exact ⟨h1, (h2.cell (by show W.heap.size < _; have := hb.2.1; omega)).trans c0, (h2.cell (by show W.heap.size < _; have := hb.2.1; omega)).trans c1, hb.below h2⟩
 have fC : ∀ w, (w.cell? ⟨W.heap.size, 0, none⟩ = some (.int .u32 at_) ∧ w.cell? ⟨W.heap.size, 1, none⟩ = some (.int .u32 sz) ∧ SM W w) → Calls Tryz.prog 123 #[.int .u32 at_, .int .u64 n] w fun ee w' => ee = .returned (.tuple #[.int .u8 x, .int .u16 y, .int .u16 z, .bool ex, .bool mm]) ∧ (w'.cell? ⟨W.heap.size, 0, none⟩ = some (.int .u32 at_) ∧ w'.cell? ⟨W.heap.size, 1, none⟩ = some (.int .u32 sz) ∧ SM W w') := fun w h => (hC.out w).mono fun ee w' ⟨h1, h2⟩ => by
   obtain ⟨c0, c1, hb⟩ := h
   exact ⟨h1, (h2.cell (by show W.heap.size < _; have := hb.2.1; omega)).trans c0, (h2.cell (by show W.heap.size < _; have := hb.2.1; omega)).trans c1, hb.below h2⟩
 replace fE := hid fE
 replace fC := hid fC
 clear hE hC
 have h0 : ((W.alloc (.cells #[.int .u32 at_, .int .u32 sz] 122)).alloc (.cells #[.int .u32 0, .int .u8 0, .int .u16 0, .int .u16 0, .int .u16 0, .int .u16 0, .int .u32 0, .bool false] 25)).cell? ⟨W.heap.size, 0, none⟩ = some (.int .u32 at_) ∧ ((W.alloc (.cells #[.int .u32 at_, .int .u32 sz] 122)).alloc (.cells #[.int .u32 0, .int .u8 0, .int .u16 0, .int .u16 0, .int .u16 0, .int .u16 0, .int .u32 0, .bool false] 25)).cell? ⟨W.heap.size, 1, none⟩ = some (.int .u32 sz) ∧ SM W ((W.alloc (.cells #[.int .u32 at_, .int .u32 sz] 122)).alloc (.cells #[.int .u32 0, .int .u8 0, .int .u16 0, .int .u16 0, .int .u16 0, .int .u16 0, .int .u32 0, .bool false] 25)) := ⟨by simp [go_sem], by simp [go_sem], SM.first W at_ sz⟩
 have hq : ¬ (pm : Int) ≤ 255 ∨ ((pm : Int) ≤ 255 ∧ ex = false) := by
   by_cases k : (pm : Int) ≤ 255
   · rw [decide_eq_true k, Bool.true_and] at h; exact .inr ⟨k, h⟩
   · exact .inl k
 clear h
 rcases hq with hq | ⟨hq, rfl⟩
 · go_enter Tryz.func68, Tryz.ntmps68
   go_wp2_with fail
   generalize ((W.alloc (.cells #[.int .u32 at_, .int .u32 sz] 122)).alloc (.cells #[.int .u32 0, .int .u8 0, .int .u16 0, .int .u16 0, .int .u16 0, .int .u16 0, .int .u32 0, .bool false] 25)) = W1 at *
   obtain ⟨c0, c1, hb⟩ := h0
   go_region_held3 (fun w' => w'.cell? ⟨W.heap.size, 0, none⟩ = some (.int .u32 at_) ∧ w'.cell? ⟨W.heap.size, 1, none⟩ = some (.int .u32 sz) ∧ SM W w')
     (first | exact ⟨c0, c1, hb.drew⟩ | exact k1 | go_keep)
     (first | (go_at_call 124; refine (fE.out _ ?_).mono ?_; (first | assumption | simp [*]); rintro ee w1' ⟨rfl, k1⟩) | (go_at_call 123; refine (fC.out _ ?_).mono ?_; (first | assumption | simp [*]); rintro ee X ⟨rfl, k1⟩))
   obtain ⟨c0', c1', hk⟩ := k1
   obtain ⟨p0, p1, p2, p3, p4, p5, p6, p7⟩ := id hk.2.2.1
   have hf := hk.2.2.2
   replace hk := hid hk
   clear hb c0 c1 fE fC
   go_wp2_with fail
   have ha : ∀ j, j < 8 → (X.cell? ⟨W.heap.size + 1, j, none⟩).isSome = true := fun j hj => by
     have : j = 0 ∨ j = 1 ∨ j = 2 ∨ j = 3 ∨ j = 4 ∨ j = 5 ∨ j = 6 ∨ j = 7 := by omega
     rcases this with rfl | rfl | rfl | rfl | rfl | rfl | rfl | rfl <;> simp [p0, p1, p2, p3, p4, p5, p6, p7]
   have hbb := hk.out.1
   change bodyPost _ _ _ _ _ (setRow (W.heap.size + 1) 0 [.int .u32 0, .int .u8 0, .int .u16 0, .int .u16 0, .int .u16 0, .int .u16 0, .int .u32 0, .bool false] X)
   obtain ⟨W3, hW3⟩ : ∃ W3, W3 = setRow (W.heap.size + 1) 0 [.int .u32 0, .int .u8 0, .int .u16 0, .int .u16 0, .int .u16 0, .int .u16 0, .int .u32 0, .bool false] X := ⟨_, rfl⟩
   have hc8 : ∀ j u, [.int .u32 0, .int .u8 0, .int .u16 0, .int .u16 0, .int .u16 0, .int .u16 0, .int .u32 0, .bool false][j]? = some u → W3.cell? ⟨W.heap.size + 1, j, none⟩ = some u := fun j u hu => by
     rw [hW3]
     have := setRow_cell (W.heap.size + 1) [.int .u32 0, .int .u8 0, .int .u16 0, .int .u16 0, .int .u16 0, .int .u16 0, .int .u32 0, .bool false] 0 j u X (fun j' hj' => by rw [Nat.zero_add]; exact ha j' (by simpa using hj')) hu
     rwa [Nat.zero_add] at this
   have hb3 : Below W.heap.size W W3 := by
     rw [hW3]
     exact (((((((hbb.setCell (by simp) _).setCell (by simp) _).setCell (by simp) _).setCell (by simp) _).setCell (by simp) _).setCell (by simp) _).setCell (by simp) _).setCell (by simp) _
   rw [← hW3]
   have r0 := hc8 0 _ rfl
   have r1 := hc8 1 _ rfl
   have r2 := hc8 2 _ rfl
   have r3 := hc8 3 _ rfl
   have r4 := hc8 4 _ rfl
   have r5 := hc8 5 _ rfl
   have r6 := hc8 6 _ rfl
   have r7 := hc8 7 _ rfl
   exact bodyPost_ret (v := .tuple #[.agg #[.int .u32 0, .int .u8 0, .int .u16 0, .int .u16 0, .int .u16 0, .int .u16 0, .int .u32 0, .bool false], .bool false]) (by simp [results, Tryz.results68, go_sem, r0, r1, r2, r3, r4, r5, r6, r7]) rfl ⟨rfl, hb3⟩
 · go_enter Tryz.func68, Tryz.ntmps68
   go_wp2_with fail
   generalize ((W.alloc (.cells #[.int .u32 at_, .int .u32 sz] 122)).alloc (.cells #[.int .u32 0, .int .u8 0, .int .u16 0, .int .u16 0, .int .u16 0, .int .u16 0, .int .u32 0, .bool false] 25)) = W1 at *
   obtain ⟨c0, c1, hb⟩ := h0
   go_region_held3 (fun w' => w'.cell? ⟨W.heap.size, 0, none⟩ = some (.int .u32 at_) ∧ w'.cell? ⟨W.heap.size, 1, none⟩ = some (.int .u32 sz) ∧ SM W w')
     (first | exact ⟨c0, c1, hb.drew⟩ | exact k1 | go_keep)
     (first | (go_at_call 124; refine (fE.out _ ?_).mono ?_; (first | assumption | simp [*]); rintro ee w1' ⟨rfl, k1⟩) | (go_at_call 123; refine (fC.out _ ?_).mono ?_; (first | assumption | simp [*]); rintro ee X ⟨rfl, k1⟩))
   obtain ⟨c0', c1', hk⟩ := k1
   obtain ⟨p0, p1, p2, p3, p4, p5, p6, p7⟩ := id hk.2.2.1
   have hf := hk.2.2.2
   replace hk := hid hk
   clear hb c0 c1 fE fC
   go_wp2_with fail
   have ha : ∀ j, j < 8 → (X.cell? ⟨W.heap.size + 1, j, none⟩).isSome = true := fun j hj => by
     have : j = 0 ∨ j = 1 ∨ j = 2 ∨ j = 3 ∨ j = 4 ∨ j = 5 ∨ j = 6 ∨ j = 7 := by omega
     rcases this with rfl | rfl | rfl | rfl | rfl | rfl | rfl | rfl <;> simp [p0, p1, p2, p3, p4, p5, p6, p7]
   have hbb := hk.out.1
   change bodyPost _ _ _ _ _ (setRow (W.heap.size + 1) 0 [.int .u32 0, .int .u8 0, .int .u16 0, .int .u16 0, .int .u16 0, .int .u16 0, .int .u32 0, .bool false] X)
   obtain ⟨W3, hW3⟩ : ∃ W3, W3 = setRow (W.heap.size + 1) 0 [.int .u32 0, .int .u8 0, .int .u16 0, .int .u16 0, .int .u16 0, .int .u16 0, .int .u32 0, .bool false] X := ⟨_, rfl⟩
   have hc8 : ∀ j u, [.int .u32 0, .int .u8 0, .int .u16 0, .int .u16 0, .int .u16 0, .int .u16 0, .int .u32 0, .bool false][j]? = some u → W3.cell? ⟨W.heap.size + 1, j, none⟩ = some u := fun j u hu => by
     rw [hW3]
     have := setRow_cell (W.heap.size + 1) [.int .u32 0, .int .u8 0, .int .u16 0, .int .u16 0, .int .u16 0, .int .u16 0, .int .u32 0, .bool false] 0 j u X (fun j' hj' => by rw [Nat.zero_add]; exact ha j' (by simpa using hj')) hu
     rwa [Nat.zero_add] at this
   have hb3 : Below W.heap.size W W3 := by
     rw [hW3]
     exact (((((((hbb.setCell (by simp) _).setCell (by simp) _).setCell (by simp) _).setCell (by simp) _).setCell (by simp) _).setCell (by simp) _).setCell (by simp) _).setCell (by simp) _
   rw [← hW3]
   have r0 := hc8 0 _ rfl
   have r1 := hc8 1 _ rfl
   have r2 := hc8 2 _ rfl
   have r3 := hc8 3 _ rfl
   have r4 := hc8 4 _ rfl
   have r5 := hc8 5 _ rfl
   have r6 := hc8 6 _ rfl
   have r7 := hc8 7 _ rfl
   exact bodyPost_ret (v := .tuple #[.agg #[.int .u32 0, .int .u8 0, .int .u16 0, .int .u16 0, .int .u16 0, .int .u16 0, .int .u32 0, .bool false], .bool false]) (by simp [results, Tryz.results68, go_sem, r0, r1, r2, r3, r4, r5, r6, r7]) rfl ⟨rfl, hb3⟩
set_option maxHeartbeats 1000000 in
theorem pMake_yes (at_ sz pm : Nat) (la : at_ < 4294967296) (lz : sz < 4294967296) (lp : pm < 65536) (h : mkP at_ sz pm = true) (W : World) : Calls Tryz.prog 68 #[.agg #[.int .u32 at_, .int .u32 sz], .int .u16 pm] W fun ee w' => ee = .returned (.tuple #[.agg #[.int .u32 at_, .int .u8 (enE at_ (at_ + sz)), .int .u16 (enB at_ (at_ + sz)), .int .u16 (enT at_ (at_ + sz)), .int .u16 pm, .int .u16 0, .int .u32 0, .bool true], .bool true]) ∧ Below W.heap.size W w' := by
 have hE := hid (fun w => pend_any at_ sz w la lz)
 have hC := hid (fun w => Encode_any at_ (at_ + sz) w la (by omega))
 have hm : enX at_ (at_ + sz) = true → at_ + sz ≤ 4294967296 := fun hx => by simp [enX, may] at hx; omega
 have hcase : mkP at_ sz pm = (decide ((pm : Int) ≤ 255) && enX at_ (at_ + sz)) := by
   unfold mkP
   cases hx : enX at_ (at_ + sz)
   · simp
   · have := hm hx; rw [Bool.and_true, Bool.and_true]; exact decide_eq_decide.2 ⟨fun k => by omega, fun k => ⟨by omega, by omega⟩⟩
 rw [hcase] at h
 clear hcase hm
 generalize may at_ (at_ + sz) = mm at *
 generalize enE at_ (at_ + sz) = x at *
 generalize enB at_ (at_ + sz) = y at *
 generalize enT at_ (at_ + sz) = z at *
 generalize enX at_ (at_ + sz) = ex at *
 obtain ⟨n, hn⟩ : ∃ n : Int, n = ((at_ + sz : Nat) : Int) := ⟨_, rfl⟩
 rw [← hn] at hE hC
 clear hn
 have fE : ∀ w, (w.cell? ⟨W.heap.size, 0, none⟩ = some (.int .u32 at_) ∧ w.cell? ⟨W.heap.size, 1, none⟩ = some (.int .u32 sz) ∧ SM W w) → Calls Tryz.prog 124 #[.agg #[.int .u32 at_, .int .u32 sz]] w fun ee w' => ee = .returned (.int .u64 n) ∧ (w'.cell? ⟨W.heap.size, 0, none⟩ = some (.int .u32 at_) ∧ w'.cell? ⟨W.heap.size, 1, none⟩ = some (.int .u32 sz) ∧ SM W w') := fun w h => (hE.out w).mono fun ee w' ⟨h1, h2⟩ => by
   obtain ⟨c0, c1, hb⟩ := h
   exact ⟨h1, (h2.cell (by show W.heap.size < _; have := hb.2.1; omega)).trans c0, (h2.cell (by show W.heap.size < _; have := hb.2.1; omega)).trans c1, hb.below h2⟩
 have fC : ∀ w, (w.cell? ⟨W.heap.size, 0, none⟩ = some (.int .u32 at_) ∧ w.cell? ⟨W.heap.size, 1, none⟩ = some (.int .u32 sz) ∧ SM W w) → Calls Tryz.prog 123 #[.int .u32 at_, .int .u64 n] w fun ee w' => ee = .returned (.tuple #[.int .u8 x, .int .u16 y, .int .u16 z, .bool ex, .bool mm]) ∧ (w'.cell? ⟨W.heap.size, 0, none⟩ = some (.int .u32 at_) ∧ w'.cell? ⟨W.heap.size, 1, none⟩ = some (.int .u32 sz) ∧ SM W w') := fun w h => (hC.out w).mono fun ee w' ⟨h1, h2⟩ => by
   obtain ⟨c0, c1, hb⟩ := h
   exact ⟨h1, (h2.cell (by show W.heap.size < _; have := hb.2.1; omega)).trans c0, (h2.cell (by show W.heap.size < _; have := hb.2.1; omega)).trans c1, hb.below h2⟩
 replace fE := hid fE
 replace fC := hid fC
 clear hE hC
 have h0 : ((W.alloc (.cells #[.int .u32 at_, .int .u32 sz] 122)).alloc (.cells #[.int .u32 0, .int .u8 0, .int .u16 0, .int .u16 0, .int .u16 0, .int .u16 0, .int .u32 0, .bool false] 25)).cell? ⟨W.heap.size, 0, none⟩ = some (.int .u32 at_) ∧ ((W.alloc (.cells #[.int .u32 at_, .int .u32 sz] 122)).alloc (.cells #[.int .u32 0, .int .u8 0, .int .u16 0, .int .u16 0, .int .u16 0, .int .u16 0, .int .u32 0, .bool false] 25)).cell? ⟨W.heap.size, 1, none⟩ = some (.int .u32 sz) ∧ SM W ((W.alloc (.cells #[.int .u32 at_, .int .u32 sz] 122)).alloc (.cells #[.int .u32 0, .int .u8 0, .int .u16 0, .int .u16 0, .int .u16 0, .int .u16 0, .int .u32 0, .bool false] 25)) := ⟨by simp [go_sem], by simp [go_sem], SM.first W at_ sz⟩
 have hq : (pm : Int) ≤ 255 ∧ ex = true := by simpa using h
 clear h
 obtain ⟨hq, rfl⟩ := hq
 go_enter Tryz.func68, Tryz.ntmps68
 go_wp2_with fail
 generalize ((W.alloc (.cells #[.int .u32 at_, .int .u32 sz] 122)).alloc (.cells #[.int .u32 0, .int .u8 0, .int .u16 0, .int .u16 0, .int .u16 0, .int .u16 0, .int .u32 0, .bool false] 25)) = W1 at *
 obtain ⟨c0, c1, hb⟩ := h0
 go_region_held3 (fun w' => w'.cell? ⟨W.heap.size, 0, none⟩ = some (.int .u32 at_) ∧ w'.cell? ⟨W.heap.size, 1, none⟩ = some (.int .u32 sz) ∧ SM W w')
   (first | exact ⟨c0, c1, hb.drew⟩ | exact k1 | go_keep)
   (first | (go_at_call 124; refine (fE.out _ ?_).mono ?_; (first | assumption | simp [*]); rintro ee w1' ⟨rfl, k1⟩) | (go_at_call 123; refine (fC.out _ ?_).mono ?_; (first | assumption | simp [*]); rintro ee X ⟨rfl, k1⟩))
 obtain ⟨c0', c1', hk⟩ := k1
 obtain ⟨p0, p1, p2, p3, p4, p5, p6, p7⟩ := id hk.2.2.1
 have hf := hk.2.2.2
 replace hk := hid hk
 clear hb c0 c1 fE fC
 go_wp2_with fail
 have ha : ∀ j, j < 8 → (X.cell? ⟨W.heap.size + 1, j, none⟩).isSome = true := fun j hj => by
   have : j = 0 ∨ j = 1 ∨ j = 2 ∨ j = 3 ∨ j = 4 ∨ j = 5 ∨ j = 6 ∨ j = 7 := by omega
   rcases this with rfl | rfl | rfl | rfl | rfl | rfl | rfl | rfl <;> simp [p0, p1, p2, p3, p4, p5, p6, p7]
 have hbb := hk.out.1
 change bodyPost _ _ _ _ _ (setRow (W.heap.size + 1) 0 [.int .u32 at_, .int .u8 x, .int .u16 y, .int .u16 z, .int .u16 pm, .int .u16 0, .int .u32 0, .bool true] X)
 obtain ⟨W3, hW3⟩ : ∃ W3, W3 = setRow (W.heap.size + 1) 0 [.int .u32 at_, .int .u8 x, .int .u16 y, .int .u16 z, .int .u16 pm, .int .u16 0, .int .u32 0, .bool true] X := ⟨_, rfl⟩
 have hc8 : ∀ j u, [.int .u32 at_, .int .u8 x, .int .u16 y, .int .u16 z, .int .u16 pm, .int .u16 0, .int .u32 0, .bool true][j]? = some u → W3.cell? ⟨W.heap.size + 1, j, none⟩ = some u := fun j u hu => by
   rw [hW3]
   have := setRow_cell (W.heap.size + 1) [.int .u32 at_, .int .u8 x, .int .u16 y, .int .u16 z, .int .u16 pm, .int .u16 0, .int .u32 0, .bool true] 0 j u X (fun j' hj' => by rw [Nat.zero_add]; exact ha j' (by simpa using hj')) hu
   rwa [Nat.zero_add] at this
 have hb3 : Below W.heap.size W W3 := by
   rw [hW3]
   exact (((((((hbb.setCell (by simp) _).setCell (by simp) _).setCell (by simp) _).setCell (by simp) _).setCell (by simp) _).setCell (by simp) _).setCell (by simp) _).setCell (by simp) _
 rw [← hW3]
 have r0 := hc8 0 _ rfl
 have r1 := hc8 1 _ rfl
 have r2 := hc8 2 _ rfl
 have r3 := hc8 3 _ rfl
 have r4 := hc8 4 _ rfl
 have r5 := hc8 5 _ rfl
 have r6 := hc8 6 _ rfl
 have r7 := hc8 7 _ rfl
 exact bodyPost_ret (v := .tuple #[.agg #[.int .u32 at_, .int .u8 x, .int .u16 y, .int .u16 z, .int .u16 pm, .int .u16 0, .int .u32 0, .bool true], .bool true]) (by simp [results, Tryz.results68, go_sem, r0, r1, r2, r3, r4, r5, r6, r7]) rfl ⟨rfl, hb3⟩
end Go.Proofs.YtkmgdfcambdeeaaGreatDoor
