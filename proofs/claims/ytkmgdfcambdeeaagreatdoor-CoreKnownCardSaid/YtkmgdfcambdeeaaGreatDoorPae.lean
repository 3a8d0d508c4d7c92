/- Contracts of layer bounds: Decode, Keeps, Encode, Round, Pad. No statement is proved here. -/
import Derived.Test.YtkmgdfcambdeeaaGreatDoorPac
import Derived.Test.YtkmgdfcambdeeaaGreatDoorPab
namespace Go.Proofs.YtkmgdfcambdeeaaGreatDoor
open Go.RowKit
set_option linter.unusedVariables false

theorem arr_eq' (d : Nat) (p1 p2 q1 q2 : Int) (w : World) : (Op.equalIn (d + 1 + 1) 212 (.agg #[.int .i64 p1, .int .i64 p2]) (.agg #[.int .i64 q1, .int .i64 q2])).run Tryz.prog w = .ok (decide (p1 = q1 ∧ p2 = q2)) w := by
  have hu : Tryz.prog.underlying 212 = some (.array 2 2) := by kernel_rfl
  have hs : ∀ w, (sizeOf 2).run Tryz.prog w = .ok 1 w := fun w => by kernel_rfl
  have ha : ∀ (x y : Int) w, (part 2 #[.int .i64 x, .int .i64 y] 0).run Tryz.prog w = .ok (.int .i64 x) w := fun x y w => by kernel_rfl
  have hb : ∀ (x y : Int) w, (part 2 #[.int .i64 x, .int .i64 y] 1).run Tryz.prog w = .ok (.int .i64 y) w := fun x y w => by kernel_rfl
  have hi : ∀ (x y : Int) w, (Op.equalIn (d + 1) 2 (.int .i64 x) (.int .i64 y)).run Tryz.prog w = .ok (x == y) w := fun x y w => run_equalIn_int w d 2 .i64 .i64 x y (by kernel_rfl)
  unfold Op.equalIn
  simp only [Sem.run_bind, run_underlying hu, Result.andThen_ok, hs]
  have hr : List.range' 0 2 1 = [0, 1] := by decide
  simp [Std.Legacy.Range.forIn_eq_forIn_range', Std.Legacy.Range.size, hr, Sem.run_bind, ha, hb, hi, Result.andThen_ok, Sem.run_ite]
  by_cases h1 : p1 = q1 <;> by_cases h2 : p2 = q2 <;> simp [h1, h2]
/-- Two arrays are compared. -/
theorem arr_eq (p1 p2 q1 q2 : Int) (w : World) : (Op.equalIn 10000 212 (.agg #[.int .i64 p1, .int .i64 p2]) (.agg #[.int .i64 q1, .int .i64 q2])).run Tryz.prog w = .ok (decide (p1 = q1 ∧ p2 = q2)) w := arr_eq' 9998 p1 p2 q1 q2 w

theorem Decode_any (e b t c : Nat) (w : World) (hc : c < 4294967296) :
    Calls Tryz.prog 166 #[.int .u8 e, .int .u16 b, .int .u16 t, .int .u32 c] w fun e' w' => e' = .returned (.tuple #[.int .u32 (deB e b t c), .int .u64 (deT e b t c)]) ∧ Below w.heap.size w w' := by
  have hT := Lib.hid (fun w => tell_any e b t c w hc)
  have hb := te_bounds e b t c
  have hB := Lib.hid (show deB e b t c = if teB e b t c = 4294967296 then 0 else teB e b t c from rfl)
  have hD := Lib.hid (show deT e b t c = if teB e b t c = 4294967296 then 0 else teT e b t c from rfl)
  generalize deB e b t c = vB at *
  generalize deT e b t c = vT at *
  generalize teB e b t c = p1 at *
  generalize teT e b t c = p2 at *
  obtain ⟨b1, b2, b3⟩ := hb
  clear hc
  by_cases h : p1 = 4294967296
  · rw [show vB = 0 from by rw [hB.out, if_pos h], show vT = 0 from by rw [hD.out, if_pos h]]
    have hq : (p1 == 4294967296) = true := by simp [h]
    clear hB hD
    replace h := Lib.hid h
    go_enter Tryz.func166, Tryz.ntmps166
    go_wp2_with fail
    refine (hT.out _).mono ?_
    rintro e' w1 ⟨rfl, h1⟩
    replace h1 := Lib.hid h1
    go_wp2_with fail
    go_ret2
    exact ⟨rfl, h1.out.alloc h1.out.size _⟩
  · rw [show vB = p1 from by rw [hB.out, if_neg h], show vT = p2 from by rw [hD.out, if_neg h]]
    have hq : (p1 == 4294967296) = false := by simp [h]
    have b4 : p1 < 4294967296 := by omega
    clear hB hD
    replace h := Lib.hid h
    go_enter Tryz.func166, Tryz.ntmps166
    go_wp2_with fail
    refine (hT.out _).mono ?_
    rintro e' w1 ⟨rfl, h1⟩
    replace h1 := Lib.hid h1
    go_wp2_with fail
    go_quiet (fail)
    go_wp2
    go_ret2
    exact ⟨rfl, below_drewN (h1.out.alloc h1.out.size _) _⟩

theorem kp_eq (e b t c n : Nat) : (isB e b t c && (isB e b t n && decide (teB e b t c = teB e b t n ∧ teT e b t c = teT e b t n))) = kp e b t c n := by
  unfold kp
  cases h : isB e b t c
  · simp only [Bool.false_and]
  · cases h2 : isB e b t n
    · symm
      simp only [Bool.true_and, Bool.false_and]
      refine decide_eq_false fun k => ?_
      unfold isB at h h2
      rw [← k.1, ← k.2] at h2
      rw [h2] at h
      exact Bool.noConfusion h
    · simp [teB, teT, h, h2]

theorem Keeps_any (e b t c n : Nat) (w : World) (hc : c < 4294967296) (hn : n < 4294967296) :
    Calls Tryz.prog 138 #[.int .u8 e, .int .u16 b, .int .u16 t, .int .u32 c, .int .u32 n] w fun e' w' => e' = .returned (.bool (kp e b t c n)) ∧ Below w.heap.size w w' := by
  have hT := Lib.hid (fun w => tell_any e b t c w hc)
  have hN := Lib.hid (fun w => tell_any e b t n w hn)
  rw [← kp_eq]
  generalize teB e b t c = p1 at *
  generalize teT e b t c = p2 at *
  generalize teB e b t n = q1 at *
  generalize teT e b t n = q2 at *
  generalize isB e b t c = i1 at *
  generalize isB e b t n = i2 at *
  clear hc hn
  cases i1
  · go_enter Tryz.func138, Tryz.ntmps138
    go_wp2_with fail
    refine (hT.out _).mono ?_
    rintro e' w1 ⟨rfl, h1⟩
    replace h1 := Lib.hid h1
    go_wp2_with fail
    refine (hN.out _).mono ?_
    rintro e' w2 ⟨rfl, h2⟩
    have hb := Lib.hid ((h1.out.alloc h1.out.size (.cells #[.int .i64 p1, .int .i64 p2] 212)).trans (h2.mono (by have := h1.out.size; simp; omega)))
    clear h1 h2
    go_wp2_with fail
    go_ret
    exact ⟨rfl, hb.out.alloc hb.out.size _⟩
  · cases i2
    · go_enter Tryz.func138, Tryz.ntmps138
      go_wp2_with fail
      refine (hT.out _).mono ?_
      rintro e' w1 ⟨rfl, h1⟩
      replace h1 := Lib.hid h1
      go_wp2_with fail
      refine (hN.out _).mono ?_
      rintro e' w2 ⟨rfl, h2⟩
      have hb := Lib.hid ((h1.out.alloc h1.out.size (.cells #[.int .i64 p1, .int .i64 p2] 212)).trans (h2.mono (by have := h1.out.size; simp; omega)))
      clear h1 h2
      go_wp2_with fail
      go_ret
      exact ⟨rfl, hb.out.alloc hb.out.size _⟩
    · have hq := fun w => arr_eq p1 p2 q1 q2 w
      generalize decide (p1 = q1 ∧ p2 = q2) = z at *
      go_enter Tryz.func138, Tryz.ntmps138
      go_wp2_with fail
      refine (hT.out _).mono ?_
      rintro e' w1 ⟨rfl, h1⟩
      replace h1 := Lib.hid h1
      go_wp2_with fail
      refine (hN.out _).mono ?_
      rintro e' w2 ⟨rfl, h2⟩
      have hb := Lib.hid ((h1.out.alloc h1.out.size (.cells #[.int .i64 p1, .int .i64 p2] 212)).trans (h2.mono (by have := h1.out.size; simp; omega)))
      have s2 : w1.heap.size < w2.heap.size := by have := h2.size; simp at this; omega
      have k0 : w2.cell? ⟨w1.heap.size, 0, none⟩ = some (.int .i64 p1) := (h2.cell (by simp)).trans (by simp [go_sem])
      have k1 : w2.cell? ⟨w1.heap.size, 1, none⟩ = some (.int .i64 p2) := (h2.cell (by simp)).trans (by simp [go_sem])
      clear h1 h2
      go_wp2_with fail
      go_ret
      exact ⟨by cases z <;> rfl, hb.out.alloc hb.out.size _⟩

theorem Round_any (b t : Nat) (w : World) (hb : b < 4294967296) (ht : t < 18446744073709551616) :
    Calls Tryz.prog 213 #[.int .u32 b, .int .u64 t] w fun e' w' => e' = .returned (.tuple #[.int .u32 (rdB b t), .int .u64 (rdT b t), .bool (may b t)]) ∧ Below w.heap.size w w' := by
  have hM := Lib.hid (fun w => mayBe_any b t w hb)
  cases hm : may b t
  · rw [show rdB b t = 0 from by simp [rdB, hm], show rdT b t = 0 from by simp [rdT, hm]]
    rw [hm] at hM
    replace hm := Lib.hid hm
    go_enter Tryz.func213, Tryz.ntmps213
    go_wp2_with fail
    refine (hM.out _).mono ?_
    rintro e' w1 ⟨rfl, rfl⟩
    go_wp2_with fail
    go_ret3
    exact ⟨rfl, Below.refl _ _⟩
  · rw [show rdB b t = dn (2 ^ expo b t) b from by simp [rdB, hm], show rdT b t = up (2 ^ expo b t) t from by simp [rdT, hm]]
    rw [hm] at hM
    have h := of_decide_eq_true hm
    have hF := Lib.hid (fun w => fit_any b t w h.1 h.2)
    have b1 : dn (2 ^ expo b t) b < 4294967296 := Nat.lt_of_le_of_lt (dn_le _ _) hb
    have b2 : up (2 ^ expo b t) t ≤ 4294967296 := up_le_of_dvd (pow_pos2 _) (dvd_whole (Nat.le_trans (expo_le b h.2) (by decide))) h.2
    have h2 : t ≤ 4294967296 := h.2
    generalize dn (2 ^ expo b t) b = D at *
    generalize up (2 ^ expo b t) t = T at *
    generalize expo b t = k at *
    clear hm h
    go_enter Tryz.func213, Tryz.ntmps213
    go_wp2_with fail
    refine (hM.out _).mono ?_
    rintro e' w1 ⟨rfl, rfl⟩
    go_wp2_with fail
    refine (hF.out _).mono ?_
    rintro e' w1 ⟨rfl, h1⟩
    go_wp2_with fail
    go_quiet (fail)
    go_wp2
    go_ret3
    exact ⟨rfl, below_drewN (h1.alloc h1.size _) _⟩


theorem Encode_any (b t : Nat) (w : World) (hb : b < 4294967296) (ht : t < 18446744073709551616) :
    Calls Tryz.prog 123 #[.int .u32 b, .int .u64 t] w fun e' w' => e' = .returned (.tuple #[.int .u8 (enE b t), .int .u16 (enB b t), .int .u16 (enT b t), .bool (enX b t), .bool (may b t)]) ∧ Below w.heap.size w w' := by
  have hM := Lib.hid (fun w => mayBe_any b t w hb)
  cases hm : may b t
  · rw [show enE b t = 0 from by simp [enE, hm], show enB b t = 0 from by simp [enB, rdB, hm], show enT b t = 0 from by simp [enT, rdT, hm], show enX b t = false from by simp [enX, hm]]
    rw [hm] at hM
    replace hm := Lib.hid hm
    go_enter Tryz.func123, Tryz.ntmps123
    go_wp2_with fail
    refine (hM.out _).mono ?_
    rintro e' w1 ⟨rfl, rfl⟩
    go_wp2_with fail
    exact bodyPost_ret (v := .tuple #[.int .u8 0, .int .u16 0, .int .u16 0, .bool false, .bool false]) (by simp [results, Tryz.results123, go_sem]) rfl ⟨rfl, Below.refl _ _⟩
  · rw [show enX b t = decide (rdB b t = b ∧ rdT b t = t) from by simp [enX, hm]]
    unfold enB enT
    rw [show enE b t = expo b t from by simp [enE, hm], show rdB b t = dn (2 ^ expo b t) b from by simp [rdB, hm], show rdT b t = up (2 ^ expo b t) t from by simp [rdT, hm]]
    rw [hm] at hM
    have h := of_decide_eq_true hm
    have hF := Lib.hid (fun w => fit_any b t w h.1 h.2)
    have b1 : dn (2 ^ expo b t) b < 4294967296 := Nat.lt_of_le_of_lt (dn_le _ _) hb
    have b2 : up (2 ^ expo b t) t ≤ 4294967296 := up_le_of_dvd (pow_pos2 _) (dvd_whole (Nat.le_trans (expo_le b h.2) (by decide))) h.2
    have h2 : t ≤ 4294967296 := h.2
    have hk := expo_le b h.2
    generalize dn (2 ^ expo b t) b = D at *
    generalize up (2 ^ expo b t) t = T at *
    generalize expo b t = k at *
    clear hm h
    have hq := fun w => arr_eq D T b t w
    have hz : decide ((D : Int) = b ∧ (T : Int) = t) = decide (D = b ∧ T = t) := by rw [decide_eq_decide]; omega
    rw [hz] at hq
    clear hz
    generalize decide (D = b ∧ T = t) = z at *
    go_enter Tryz.func123, Tryz.ntmps123
    go_wp2_with fail
    refine (hM.out _).mono ?_
    rintro e' w1 ⟨rfl, rfl⟩
    go_wp2_with fail
    refine (hF.out _).mono ?_
    rintro e' w1 ⟨rfl, h1⟩
    have hb1 : Below w.heap.size w w1 := ((Below.refl _ _).alloc (Nat.le_refl _) _).trans (h1.mono (by simp))
    have s1 : w.heap.size < w1.heap.size := by have := h1.size; simp at this; omega
    have k0 : w1.cell? ⟨w.heap.size, 0, none⟩ = some (.int .i64 b) := (h1.cell (by simp)).trans (by simp [go_sem])
    have k1 : w1.cell? ⟨w.heap.size, 1, none⟩ = some (.int .i64 t) := (h1.cell (by simp)).trans (by simp [go_sem])
    clear h1
    have hE := Lib.hid (fun (x n : Nat) => mantissa_any w1.heap.size k x (((w1.alloc (.cells #[.int .i64 k] 3)).alloc (.cells #[.int .i64 D, .int .i64 T] 212)).drewN n) (by simp [go_sem]) hk)
    replace hb1 := Lib.hid hb1
    go_wp2_with fail
    go_quiet ((go_at_call 169; exact Calls.quiet_of_same ((hE.out _ _).mono fun _ _ h => ⟨h.1, h.2.symm⟩)))
    go_wp2
    exact bodyPost_ret (v := .tuple #[.int .u8 k, .int .u16 (D / 2 ^ k % 4096 : Nat), .int .u16 (T / 2 ^ k % 4096 : Nat), .bool z, .bool true]) (by simp [results, Tryz.results123, go_sem]) rfl ⟨rfl, below_drewN ((hb1.out.alloc hb1.out.size _).alloc (by have := hb1.out.size; simp; omega) _) _⟩
end Go.Proofs.YtkmgdfcambdeeaaGreatDoor
