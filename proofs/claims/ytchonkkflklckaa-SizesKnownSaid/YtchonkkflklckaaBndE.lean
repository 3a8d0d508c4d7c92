/- Contracts of layer bounds: Decode, Keeps, Encode, Round, Pad. No statement is proved here. -/
import Derived.Test.YtchonkkflklckaaBndB
import Derived.Test.YtchonkkflklckaaBndD
namespace Go.Proofs.Ytchonkkflklckaa
open Go.RowKit
set_option linter.unusedVariables false

theorem arr_eq' (d : Nat) (p1 p2 q1 q2 : Int) (w : World) : (Op.equalIn (d + 1 + 1) 49 (.agg #[.int .i64 p1, .int .i64 p2]) (.agg #[.int .i64 q1, .int .i64 q2])).run Try.prog w = .ok (decide (p1 = q1 ∧ p2 = q2)) w := by
  have hu : Try.prog.underlying 49 = some (.array 2 2) := by kernel_rfl
  have hs : ∀ w, (sizeOf 2).run Try.prog w = .ok 1 w := fun w => by kernel_rfl
  have ha : ∀ (x y : Int) w, (part 2 #[.int .i64 x, .int .i64 y] 0).run Try.prog w = .ok (.int .i64 x) w := fun x y w => by kernel_rfl
  have hb : ∀ (x y : Int) w, (part 2 #[.int .i64 x, .int .i64 y] 1).run Try.prog w = .ok (.int .i64 y) w := fun x y w => by kernel_rfl
  have hi : ∀ (x y : Int) w, (Op.equalIn (d + 1) 2 (.int .i64 x) (.int .i64 y)).run Try.prog w = .ok (x == y) w := fun x y w => run_equalIn_int w d 2 .i64 .i64 x y (by kernel_rfl)
  unfold Op.equalIn
  simp only [Sem.run_bind, run_underlying hu, Result.andThen_ok, hs]
  have hr : List.range' 0 2 1 = [0, 1] := by decide
  simp [Std.Legacy.Range.forIn_eq_forIn_range', Std.Legacy.Range.size, hr, Sem.run_bind, ha, hb, hi, Result.andThen_ok, Sem.run_ite]
  by_cases h1 : p1 = q1 <;> by_cases h2 : p2 = q2 <;> simp [h1, h2]
/-- Two arrays are compared. -/
theorem arr_eq (p1 p2 q1 q2 : Int) (w : World) : (Op.equalIn 10000 49 (.agg #[.int .i64 p1, .int .i64 p2]) (.agg #[.int .i64 q1, .int .i64 q2])).run Try.prog w = .ok (decide (p1 = q1 ∧ p2 = q2)) w := arr_eq' 9998 p1 p2 q1 q2 w

theorem kp_eq (e b t c n : Nat) : (isB e b t c && (isB e b t n && decide (teB e b t c = teB e b t n ∧ teT e b t c = teT e b t n))) = kp e b t c n := by
  unfold kp
  cases h : isB e b t c
  · simp only [Bool.false_and]
  · cases h2 : isB e b t n
    · symm
      simp only [Bool.true_and, Bool.false_and]
      refine decide_eq_false fun k => ?_
      unfold isB at h h2
      rw [← k.1, ← k.2] at h2
      rw [h2] at h
      exact Bool.noConfusion h
    · simp [teB, teT, h, h2]



theorem Pad_any (s : Nat) (w : World) (hs : s < 4294967296) :
    Calls Try.prog 23 #[.int .u32 s] w fun e' w' => e' = .returned (.tuple #[.int .u32 (pdP s), .int .u32 (pdA s)]) ∧ Below w.heap.size w w' := by
  have hF := Lib.hid (fun w => fit_any 0 s w (Nat.zero_le _) (by omega))
  have hm : may 0 s = true := decide_eq_true ⟨by omega, by omega⟩
  have b2 : up (2 ^ expo 0 s) s ≤ 4294967296 := up_le_of_dvd (pow_pos2 _) (dvd_whole (Nat.le_trans (expo_le 0 (by omega)) (by decide))) (by omega)
  have hB := Lib.hid (show pdP s = if up (2 ^ expo 0 s) s = 4294967296 then 0 else up (2 ^ expo 0 s) s from by simp [pdP, rdT, hm])
  have hD := Lib.hid (show pdA s = if up (2 ^ expo 0 s) s = 4294967296 then 0 else 2 ^ expo 0 s from by simp [pdA, rdT, enE, hm])
  have hk := expo_le 0 (t := s) (by omega)
  generalize up (2 ^ expo 0 s) s = T at *
  generalize pdP s = vB at *
  generalize pdA s = vT at *
  generalize expo 0 s = k at *
  generalize dn (2 ^ k) 0 = D at *
  clear hm
  by_cases h : T = 4294967296
  · rw [show vB = 0 from by rw [hB.out, if_pos h], show vT = 0 from by rw [hD.out, if_pos h]]
    have hq : ((T : Int) == 4294967296) = true := by simp; omega
    clear hB hD
    replace h := Lib.hid h
    go_enter Try.func23, Try.ntmps23
    go_wp2_with fail
    refine (hF.out _).mono ?_
    rintro e' w1 ⟨rfl, h1⟩
    replace h1 := Lib.hid h1
    go_wp2_with fail
    go_ret2
    exact ⟨rfl, h1.out.alloc h1.out.size _⟩
  · rw [show vB = T from by rw [hB.out, if_neg h], show vT = 2 ^ k from by rw [hD.out, if_neg h]]
    have hq : ((T : Int) == 4294967296) = false := by simp; omega
    have b4 : T < 4294967296 := by omega
    have hu := Lib.hid (show (2 : Int) ^ k % 4294967296 = ((2 ^ k : Nat) : Int) from by have := pow_le21 hk; rw [cast_pow]; generalize 2 ^ k = U at *; omega)
    clear hB hD
    replace h := Lib.hid h
    go_enter Try.func23, Try.ntmps23
    go_wp2_with fail
    refine (hF.out _).mono ?_
    rintro e' w1 ⟨rfl, h1⟩
    replace h1 := Lib.hid h1
    go_wp2_with fail
    go_quiet (fail)
    go_wp2
    go_ret2
    refine ⟨?_, below_drewN (h1.out.alloc h1.out.size _) _⟩
    show Ending.returned (.tuple #[.int .u32 T, .int .u32 (2 ^ k % 4294967296)]) = _
    rw [hu.out]

theorem Encode_any (b t : Nat) (w : World) (hb : b < 4294967296) (ht : t < 18446744073709551616) :
    Calls Try.prog 20 #[.int .u32 b, .int .u64 t] w fun e' w' => e' = .returned (.tuple #[.int .u8 (enE b t), .int .u16 (enB b t), .int .u16 (enT b t), .bool (enX b t), .bool (may b t)]) ∧ Below w.heap.size w w' := by
  have hM := Lib.hid (fun w => mayBe_any b t w hb)
  cases hm : may b t
  · rw [show enE b t = 0 from by simp [enE, hm], show enB b t = 0 from by simp [enB, rdB, hm], show enT b t = 0 from by simp [enT, rdT, hm], show enX b t = false from by simp [enX, hm]]
    rw [hm] at hM
    replace hm := Lib.hid hm
    go_enter Try.func20, Try.ntmps20
    go_wp2_with fail
    refine (hM.out _).mono ?_
    rintro e' w1 ⟨rfl, rfl⟩
    go_wp2_with fail
    exact bodyPost_ret (v := .tuple #[.int .u8 0, .int .u16 0, .int .u16 0, .bool false, .bool false]) (by simp [results, Try.results20, go_sem]) rfl ⟨rfl, Below.refl _ _⟩
  · rw [show enX b t = decide (rdB b t = b ∧ rdT b t = t) from by simp [enX, hm]]
    unfold enB enT
    rw [show enE b t = expo b t from by simp [enE, hm], show rdB b t = dn (2 ^ expo b t) b from by simp [rdB, hm], show rdT b t = up (2 ^ expo b t) t from by simp [rdT, hm]]
    rw [hm] at hM
    have h := of_decide_eq_true hm
    have hF := Lib.hid (fun w => fit_any b t w h.1 h.2)
    have b1 : dn (2 ^ expo b t) b < 4294967296 := Nat.lt_of_le_of_lt (dn_le _ _) hb
    have b2 : up (2 ^ expo b t) t ≤ 4294967296 := up_le_of_dvd (pow_pos2 _) (dvd_whole (Nat.le_trans (expo_le b h.2) (by decide))) h.2
    have h2 : t ≤ 4294967296 := h.2
    have hk := expo_le b h.2
    generalize dn (2 ^ expo b t) b = D at *
    generalize up (2 ^ expo b t) t = T at *
    generalize expo b t = k at *
    clear hm h
    have hq := fun w => arr_eq D T b t w
    have hz : decide ((D : Int) = b ∧ (T : Int) = t) = decide (D = b ∧ T = t) := by rw [decide_eq_decide]; omega
    rw [hz] at hq
    clear hz
    generalize decide (D = b ∧ T = t) = z at *
    go_enter Try.func20, Try.ntmps20
    go_wp2_with fail
    refine (hM.out _).mono ?_
    rintro e' w1 ⟨rfl, rfl⟩
    go_wp2_with fail
    refine (hF.out _).mono ?_
    rintro e' w1 ⟨rfl, h1⟩
    have hb1 : Below w.heap.size w w1 := ((Below.refl _ _).alloc (Nat.le_refl _) _).trans (h1.mono (by simp))
    have s1 : w.heap.size < w1.heap.size := by have := h1.size; simp at this; omega
    have k0 : w1.cell? ⟨w.heap.size, 0, none⟩ = some (.int .i64 b) := (h1.cell (by simp)).trans (by simp [go_sem])
    have k1 : w1.cell? ⟨w.heap.size, 1, none⟩ = some (.int .i64 t) := (h1.cell (by simp)).trans (by simp [go_sem])
    clear h1
    have hE := Lib.hid (fun (x n : Nat) => mantissa_any w1.heap.size k x (((w1.alloc (.cells #[.int .i64 k] 3)).alloc (.cells #[.int .i64 D, .int .i64 T] 49)).drewN n) (by simp [go_sem]) hk)
    replace hb1 := Lib.hid hb1
    go_wp2_with fail
    go_quiet ((go_at_call 27; exact Calls.quiet_of_same ((hE.out _ _).mono fun _ _ h => ⟨h.1, h.2.symm⟩)))
    go_wp2
    exact bodyPost_ret (v := .tuple #[.int .u8 k, .int .u16 (D / 2 ^ k % 4096 : Nat), .int .u16 (T / 2 ^ k % 4096 : Nat), .bool z, .bool true]) (by simp [results, Try.results20, go_sem]) rfl ⟨rfl, below_drewN ((hb1.out.alloc hb1.out.size _).alloc (by have := hb1.out.size; simp; omega) _) _⟩
end Go.Proofs.Ytchonkkflklckaa
