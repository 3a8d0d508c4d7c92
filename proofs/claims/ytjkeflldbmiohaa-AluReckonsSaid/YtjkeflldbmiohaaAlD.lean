/- The document's bits, of layer alu. No statement is proved here. -/
import Derived.Test.YtjkeflldbmiohaaAlC
import Derived.Test.YtjkeflldbmiohaaCls
namespace Go.Proofs.Ytjkeflldbmiohaa
set_option maxRecDepth 100000
open Go.RowKit
set_option linter.unusedVariables false
/-- What the table says of two bits. -/
def tb (t0 t1 t2 t3 : Nat) (x y : Bool) : Nat := match x, y with
  | false, false => t0
  | false, true => t1
  | true, false => t2
  | true, true => t3
theorem bit_int {a p : Nat} (ha : a < 4294967296) (hp : p < 32) {U : Int} (hU : U = ((2 ^ p : Nat) : Int)) : ((a : Int) / U).tmod 2 = ((a.testBit p).toNat : Nat) := by
  rw [hU, ← Int.natCast_ediv, Nat.testBit_eq_decide_div_mod_eq]
  generalize a / 2 ^ p = q at *
  rw [Int.tmod_eq_emod_of_nonneg (by omega)]
  by_cases h : q % 2 = 1
  · simp [h]; omega
  · simp [h]; omega
theorem mod_succ (N p : Nat) : N % 2 ^ (p + 1) = N % 2 ^ p + (N.testBit p).toNat * 2 ^ p := by
  rw [Nat.mod_pow_succ, Nat.testBit_eq_decide_div_mod_eq, Nat.mul_comm]
  have : N / 2 ^ p % 2 = 0 ∨ N / 2 ^ p % 2 = 1 := by omega
  rcases this with h | h <;> simp [h]
theorem fin_eq {z D Q : Int} (hz : 0 ≤ z) (hD : 0 ≤ D) (h : Q = z + D) (hQ : Q < 4294967296) : (z + D % 4294967296) % 4294967296 = Q := by omega
set_option maxHeartbeats 2000000 in
theorem rbits_any (a b N t0 t1 t2 t3 : Nat) (ha : a < 4294967296) (hb : b < 4294967296) (hN : N < 4294967296) (hbit : ∀ i, (N.testBit i).toNat = tb t0 t1 t2 t3 (a.testBit i) (b.testBit i)) (W : World) : Calls Try.prog 18 #[.int .u32 a, .int .u32 b, .agg #[.int .u32 t0, .int .u32 t1, .int .u32 t2, .int .u32 t3]] W fun e w' => e = .returned (.int .u32 N) ∧ Below W.heap.size W w' := by
  replace hbit := Lib.hid hbit
  have hNb := Lib.hid hN
  obtain ⟨A, hA⟩ : ∃ A : Int, A = (a : Int) := ⟨_, rfl⟩
  obtain ⟨B, hB⟩ : ∃ B : Int, B = (b : Int) := ⟨_, rfl⟩
  obtain ⟨T0, h0⟩ : ∃ T : Int, T = (t0 : Int) := ⟨_, rfl⟩
  obtain ⟨T1, h1⟩ : ∃ T : Int, T = (t1 : Int) := ⟨_, rfl⟩
  obtain ⟨T2, h2⟩ : ∃ T : Int, T = (t2 : Int) := ⟨_, rfl⟩
  obtain ⟨T3, h3⟩ : ∃ T : Int, T = (t3 : Int) := ⟨_, rfl⟩
  obtain ⟨R, hR⟩ : ∃ R : Int, R = (N : Int) := ⟨_, rfl⟩
  have hA1 : 0 ≤ A := by omega
  have hB1 : 0 ≤ B := by omega
  have hA2 : A ≤ 4294967295 := by omega
  have hB2 : B ≤ 4294967295 := by omega
  rw [← hA, ← hB, ← h0, ← h1, ← h2, ← h3, ← hR]
  replace hA := Lib.hid hA
  replace hB := Lib.hid hB
  replace hR := Lib.hid hR
  replace h0 := Lib.hid h0
  replace h1 := Lib.hid h1
  replace h2 := Lib.hid h2
  replace h3 := Lib.hid h3
  replace ha := Lib.hid ha
  replace hb := Lib.hid hb
  clear hN
  go_enter Try.func18, Try.ntmps18
  go_wp2_with fail
  generalize hw1 : W.alloc _ = w1
  have b1 := Lib.hid (show Below W.heap.size W w1 from hw1 ▸ (Below.refl _ _).alloc (Nat.le_refl _) _)
  have s1 := Lib.hid (show W.heap.size < w1.heap.size from by rw [← hw1]; simp)
  have c0 : w1.cell? ⟨W.heap.size, 0, none⟩ = some (.int .u32 T0) := by rw [← hw1]; simp [go_sem]
  have c1 : w1.cell? ⟨W.heap.size, 1, none⟩ = some (.int .u32 T1) := by rw [← hw1]; simp [go_sem]
  have c2 : w1.cell? ⟨W.heap.size, 2, none⟩ = some (.int .u32 T2) := by rw [← hw1]; simp [go_sem]
  have c3 : w1.cell? ⟨W.heap.size, 3, none⟩ = some (.int .u32 T3) := by rw [← hw1]; simp [go_sem]
  clear hw1
  replace c0 := Lib.hid c0
  replace c1 := Lib.hid c1
  replace c2 := Lib.hid c2
  replace c3 := Lib.hid c3
  go_loopw [7, 8] (fun o i wr => ∃ (p : Nat) (z : Int), p ≤ 32 ∧ i = .int .i64 p ∧ o = .int .u32 z ∧ Hid (z = (N % 2 ^ p : Nat)) ∧ Hid (Below w1.heap.size w1 wr)) (fun _ i _ => 32 - (intOf i).toNat)
  case atStart => exact ⟨0, 0, by omega, rfl, rfl, Lib.hid (by simp [Nat.mod_one]), Lib.hid (Below.refl _ _)⟩
  case round =>
    obtain ⟨p, z, hp, rfl, rfl, hz, hb1⟩ := hrel
    by_cases hlt : p < 32
    · have hpw : 2 ^ p ≤ 2147483648 := Nat.le_trans (Nat.pow_le_pow_right (by decide) (show p ≤ 31 by omega)) (by decide)
      have hpp : 0 < 2 ^ p := Nat.two_pow_pos p
      have hpc : ((2 : Int) ^ p) = ((2 ^ p : Nat) : Int) := by simp
      obtain ⟨U, hU0⟩ : ∃ U : Int, U = ((2 ^ p : Nat) : Int) := ⟨_, rfl⟩
      have hU : (2 : Int) ^ p % 4294967296 = U := by rw [hU0, hpc]; omega
      have hU1 : 1 ≤ U := by rw [hU0]; omega
      have hU2 : U ≤ 2147483648 := by rw [hU0]; omega
      have hX : (A / U).tmod 2 = ((a.testBit p).toNat : Nat) := by rw [hA.out]; exact bit_int ha.out hlt hU0
      have hY : (B / U).tmod 2 = ((b.testBit p).toNat : Nat) := by rw [hB.out]; exact bit_int hb.out hlt hU0
      have hz2 : ((N % 2 ^ (p + 1) : Nat) : Int) = z + tb t0 t1 t2 t3 (a.testBit p) (b.testBit p) * U := by
        rw [mod_succ, hbit.out p, hz.out, hU0]
        simp
      have hz3 : N % 2 ^ (p + 1) < 4294967296 := Nat.lt_of_le_of_lt (Nat.mod_le _ _) hNb.out
      have hz4 : N % 2 ^ p < 4294967296 := Nat.lt_of_le_of_lt (Nat.mod_le _ _) hNb.out
      have hz0 := hz.out
      clear hpc hU0 hpp hpw
      generalize a.testBit p = xa at *
      generalize b.testBit p = xb at *
      obtain ⟨S, hS0⟩ : ∃ S : World → Prop, S = Below w1.heap.size w1 := ⟨_, rfl⟩
      have hK : ∀ w, S w → Below w1.heap.size w1 w := fun w h => by rw [← hS0]; exact h
      have hS : ∀ u v, S u → Below u.heap.size u v → S v := fun u v h k => by rw [hS0] at h ⊢; exact h.trans (k.mono h.size)
      have s0 : S wr := by rw [hS0]; exact hb1.out
      clear hS0
      have e0 : ∀ y : Wd S, y.w.cell? ⟨W.heap.size, 0, none⟩ = some (.int .u32 T0) := fun y => ((hK _ y.h).cell (p := ⟨W.heap.size, 0, none⟩) s1.out).trans c0.out
      have e1 : ∀ y : Wd S, y.w.cell? ⟨W.heap.size, 1, none⟩ = some (.int .u32 T1) := fun y => ((hK _ y.h).cell (p := ⟨W.heap.size, 1, none⟩) s1.out).trans c1.out
      have e2 : ∀ y : Wd S, y.w.cell? ⟨W.heap.size, 2, none⟩ = some (.int .u32 T2) := fun y => ((hK _ y.h).cell (p := ⟨W.heap.size, 2, none⟩) s1.out).trans c2.out
      have e3 : ∀ y : Wd S, y.w.cell? ⟨W.heap.size, 3, none⟩ = some (.int .u32 T3) := fun y => ((hK _ y.h).cell (p := ⟨W.heap.size, 3, none⟩) s1.out).trans c3.out
      have HS := Lib.hid hS
      have HK := Lib.hid hK
      replace s0 := Lib.hid s0
      replace hz2 := Lib.hid hz2
      replace hz3 := Lib.hid hz3
      replace hz4 := Lib.hid hz4
      replace hz0 := Lib.hid hz0
      clear hK hS hz
      cases xa <;> cases xb <;> simp only [Bool.toNat_false, Bool.toNat_true, Int.ofNat_zero, Int.ofNat_one] at hX hY
      case false.false =>
        go_wp2_with fail
        refine region_cls S (by kernel_rfl) (by kernel_rfl) (HS.out _ _ s0.out (Below.refl _ _).drew) ?_
        repeat (first
          | go_big_quiet_skip
          | (go_big_quiet_want
             go_big_quiet_op
             first
             | go_big_quiet_on
             | (apply Exists.intro
                refine ⟨fun y => ?_, ?_⟩
                · exact rfl
                go_big_quiet_on)))
        refine wpQuiet_nil ?_
        intro y
        go_wp2_with fail
        have f0 := HS.out _ _ y.h (Below.refl _ _).drew
        refine region_cls S (by kernel_rfl) (by kernel_rfl) f0 ?_
        repeat (first
          | go_big_quiet_skip
          | (go_big_quiet_want
             go_big_quiet_op
             first
             | go_big_quiet_on
             | (apply Exists.intro
                refine ⟨fun y => ?_, ?_⟩
                · exact rfl
                go_big_quiet_on)))
        refine wpQuiet_nil ?_
        intro y2
        go_wp2_with fail
        refine ⟨⟨p + 1, _, by omega, by go_num, rfl, Lib.hid ?_, Lib.hid (HK.out _ y2.h)⟩, by simp [intOf]; omega⟩
        refine fin_eq (by rw [hz0.out]; exact Int.natCast_nonneg _) (Int.mul_nonneg (by rw [h0.out]; exact Int.natCast_nonneg _) (by omega)) (hz2.out.trans (by rw [h0.out]; rfl)) (by have := hz3.out; omega)
      case false.true =>
        go_wp2_with fail
        refine region_cls S (by kernel_rfl) (by kernel_rfl) (HS.out _ _ s0.out (Below.refl _ _).drew) ?_
        repeat (first
          | go_big_quiet_skip
          | (go_big_quiet_want
             go_big_quiet_op
             first
             | go_big_quiet_on
             | (apply Exists.intro
                refine ⟨fun y => ?_, ?_⟩
                · exact rfl
                go_big_quiet_on)))
        refine wpQuiet_nil ?_
        intro y
        go_wp2_with fail
        have f0 := HS.out _ _ y.h (Below.refl _ _).drew
        refine region_cls S (by kernel_rfl) (by kernel_rfl) f0 ?_
        repeat (first
          | go_big_quiet_skip
          | (go_big_quiet_want
             go_big_quiet_op
             first
             | go_big_quiet_on
             | (apply Exists.intro
                refine ⟨fun y => ?_, ?_⟩
                · exact rfl
                go_big_quiet_on)))
        refine wpQuiet_nil ?_
        intro y2
        go_wp2_with fail
        refine ⟨⟨p + 1, _, by omega, by go_num, rfl, Lib.hid ?_, Lib.hid (HK.out _ y2.h)⟩, by simp [intOf]; omega⟩
        refine fin_eq (by rw [hz0.out]; exact Int.natCast_nonneg _) (Int.mul_nonneg (by rw [h1.out]; exact Int.natCast_nonneg _) (by omega)) (hz2.out.trans (by rw [h1.out]; rfl)) (by have := hz3.out; omega)
      case true.false =>
        go_wp2_with fail
        refine region_cls S (by kernel_rfl) (by kernel_rfl) (HS.out _ _ s0.out (Below.refl _ _).drew) ?_
        repeat (first
          | go_big_quiet_skip
          | (go_big_quiet_want
             go_big_quiet_op
             first
             | go_big_quiet_on
             | (apply Exists.intro
                refine ⟨fun y => ?_, ?_⟩
                · exact rfl
                go_big_quiet_on)))
        refine wpQuiet_nil ?_
        intro y
        go_wp2_with fail
        have f0 := HS.out _ _ y.h (Below.refl _ _).drew
        refine region_cls S (by kernel_rfl) (by kernel_rfl) f0 ?_
        repeat (first
          | go_big_quiet_skip
          | (go_big_quiet_want
             go_big_quiet_op
             first
             | go_big_quiet_on
             | (apply Exists.intro
                refine ⟨fun y => ?_, ?_⟩
                · exact rfl
                go_big_quiet_on)))
        refine wpQuiet_nil ?_
        intro y2
        go_wp2_with fail
        refine ⟨⟨p + 1, _, by omega, by go_num, rfl, Lib.hid ?_, Lib.hid (HK.out _ y2.h)⟩, by simp [intOf]; omega⟩
        refine fin_eq (by rw [hz0.out]; exact Int.natCast_nonneg _) (Int.mul_nonneg (by rw [h2.out]; exact Int.natCast_nonneg _) (by omega)) (hz2.out.trans (by rw [h2.out]; rfl)) (by have := hz3.out; omega)
      case true.true =>
        go_wp2_with fail
        refine region_cls S (by kernel_rfl) (by kernel_rfl) (HS.out _ _ s0.out (Below.refl _ _).drew) ?_
        repeat (first
          | go_big_quiet_skip
          | (go_big_quiet_want
             go_big_quiet_op
             first
             | go_big_quiet_on
             | (apply Exists.intro
                refine ⟨fun y => ?_, ?_⟩
                · exact rfl
                go_big_quiet_on)))
        refine wpQuiet_nil ?_
        intro y
        go_wp2_with fail
        have f0 := HS.out _ _ y.h (Below.refl _ _).drew
        refine region_cls S (by kernel_rfl) (by kernel_rfl) f0 ?_
        repeat (first
          | go_big_quiet_skip
          | (go_big_quiet_want
             go_big_quiet_op
             first
             | go_big_quiet_on
             | (apply Exists.intro
                refine ⟨fun y => ?_, ?_⟩
                · exact rfl
                go_big_quiet_on)))
        refine wpQuiet_nil ?_
        intro y2
        go_wp2_with fail
        refine ⟨⟨p + 1, _, by omega, by go_num, rfl, Lib.hid ?_, Lib.hid (HK.out _ y2.h)⟩, by simp [intOf]; omega⟩
        refine fin_eq (by rw [hz0.out]; exact Int.natCast_nonneg _) (Int.mul_nonneg (by rw [h3.out]; exact Int.natCast_nonneg _) (by omega)) (hz2.out.trans (by rw [h3.out]; rfl)) (by have := hz3.out; omega)
    · have hp32 : p = 32 := by omega
      subst hp32
      have hzN : z = R := by
        rw [hz.out, hR.out, Nat.mod_eq_of_lt (show N < 2 ^ 32 from hNb.out)]
      subst hzN
      go_wp2
      go_ret
      exact ⟨rfl, b1.out.trans (hb1.out.mono b1.out.size)⟩
end Go.Proofs.Ytjkeflldbmiohaa
