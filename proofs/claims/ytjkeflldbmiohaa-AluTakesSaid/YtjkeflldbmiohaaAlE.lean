/- The document's Reckon, of layer alu. No statement is proved here. -/
import Derived.Test.YtjkeflldbmiohaaAlD
namespace Go.Proofs.Ytjkeflldbmiohaa
set_option maxRecDepth 100000
open Go.RowKit
set_option linter.unusedVariables false
theorem ret_vti {x V t T : Int} {i I : Bool} (h1 : x = V) (h2 : t = T) (h3 : i = I) : Ending.returned (.tuple #[.int .u32 x, .int .i64 t, .bool i]) = .returned (.tuple #[.int .u32 V, .int .i64 T, .bool I]) := by rw [h1, h2, h3]
theorem tb_and (a b i : Nat) : ((a &&& b).testBit i).toNat = tb 0 0 0 1 (a.testBit i) (b.testBit i) := by
  rw [Nat.testBit_and]; cases a.testBit i <;> cases b.testBit i <;> rfl
theorem tb_or (a b i : Nat) : ((a ||| b).testBit i).toNat = tb 0 1 1 1 (a.testBit i) (b.testBit i) := by
  rw [Nat.testBit_or]; cases a.testBit i <;> cases b.testBit i <;> rfl
theorem tb_xor (a b i : Nat) : ((a ^^^ b).testBit i).toNat = tb 0 1 1 0 (a.testBit i) (b.testBit i) := by
  rw [Nat.testBit_xor]; cases a.testBit i <;> cases b.testBit i <;> rfl
theorem n_div {A B : Int} {a b : Nat} (hA : A = (a : Int)) (hB : B = (b : Int)) (ha : a < 4294967296) : A / B % 4294967296 = ((a / b : Nat) : Int) := by
  have := Nat.div_le_self a b
  rw [hA, hB, ← Int.natCast_ediv]
  generalize a / b = q at *
  omega
theorem n_mod {A B : Int} {a b : Nat} (hA : A = (a : Int)) (hB : B = (b : Int)) (ha : a < 4294967296) : A % B % 4294967296 = ((a % b : Nat) : Int) := by
  have := Nat.mod_le a b
  rw [hA, hB, ← Int.natCast_emod]
  generalize a % b = q at *
  omega
theorem n_shl {A U D : Int} {a u : Nat} (hA : A = (a : Int)) (hU : U = (u : Int)) (hD : A * U = D) : D % 4294967296 = ((a * u % 4294967296 : Nat) : Int) := by
  rw [← hD, hA, hU]
  simp
set_option maxHeartbeats 4000000 in
theorem rreckon_any (op : Int) (a b : Nat) (ha : a < 4294967296) (hb : b < 4294967296) (W : World) :
    Calls Try.prog 11 #[.int .i64 op, .int .u32 a, .int .u32 b] W fun e w' => e = .returned (.tuple #[.int .u32 (valR op a b : Nat), .int .i64 (trapR op b), .bool (isR op)]) ∧ Below W.heap.size W w' := by
  have rA : Hid (∀ w, Calls Try.prog 18 #[.int .u32 a, .int .u32 b, .agg #[.int .u32 0, .int .u32 0, .int .u32 0, .int .u32 1]] w fun e w' => e = .returned (.int .u32 (a &&& b : Nat)) ∧ Below w.heap.size w w') :=
    Lib.hid (fun w => rbits_any a b _ 0 0 0 1 ha hb (Nat.and_lt_two_pow (n := 32) a hb) (tb_and a b) w)
  have rO : Hid (∀ w, Calls Try.prog 18 #[.int .u32 a, .int .u32 b, .agg #[.int .u32 0, .int .u32 1, .int .u32 1, .int .u32 1]] w fun e w' => e = .returned (.int .u32 (a ||| b : Nat)) ∧ Below w.heap.size w w') :=
    Lib.hid (fun w => rbits_any a b _ 0 1 1 1 ha hb (Nat.or_lt_two_pow (n := 32) ha hb) (tb_or a b) w)
  have rX : Hid (∀ w, Calls Try.prog 18 #[.int .u32 a, .int .u32 b, .agg #[.int .u32 0, .int .u32 1, .int .u32 1, .int .u32 0]] w fun e w' => e = .returned (.int .u32 (a ^^^ b : Nat)) ∧ Below w.heap.size w w') :=
    Lib.hid (fun w => rbits_any a b _ 0 1 1 0 ha hb (Nat.xor_lt_two_pow (n := 32) ha hb) (tb_xor a b) w)
  have rS : Hid (∀ w, Calls Try.prog 20 #[.int .u32 a] w fun e w' => e = .returned (.int .i64 (sg a)) ∧ w = w') := Lib.hid (signed_any a ha)
  have rT : Hid (∀ w, Calls Try.prog 20 #[.int .u32 b] w fun e w' => e = .returned (.int .i64 (sg b)) ∧ w = w') := Lib.hid (signed_any b hb)
  obtain ⟨A, hA⟩ : ∃ A : Int, A = (a : Int) := ⟨_, rfl⟩
  obtain ⟨B, hB⟩ : ∃ B : Int, B = (b : Int) := ⟨_, rfl⟩
  obtain ⟨V, hV⟩ : ∃ V : Int, V = (valR op a b : Nat) := ⟨_, rfl⟩
  obtain ⟨T, hT⟩ : ∃ T : Int, T = trapR op b := ⟨_, rfl⟩
  obtain ⟨I, hI⟩ : ∃ I : Bool, I = isR op := ⟨_, rfl⟩
  have hA1 : 0 ≤ A := by omega
  have hB1 : 0 ≤ B := by omega
  have hA2 : A ≤ 4294967295 := by omega
  have hB2 : B ≤ 4294967295 := by omega
  rw [← hA, ← hB] at rA rO rX ⊢
  rw [← hA] at rS
  rw [← hB] at rT
  rw [← hV, ← hT, ← hI]
  replace hA := Lib.hid hA
  replace hB := Lib.hid hB
  replace hV := Lib.hid hV
  replace hT := Lib.hid hT
  replace hI := Lib.hid hI
  replace ha := Lib.hid ha
  replace hb := Lib.hid hb
  by_cases hr : 3 ≤ op ∧ op ≤ 15
  · obtain ⟨m, hm1, hm, hmb⟩ : ∃ m : Nat, B.tmod 32 = (m : Int) ∧ m < 32 ∧ Hid (b % 32 = m) := ⟨b % 32, by rw [hB.out]; rfl, Nat.mod_lt _ (by decide), Lib.hid rfl⟩
    have : op = 3 ∨ op = 4 ∨ op = 5 ∨ op = 6 ∨ op = 7 ∨ op = 8 ∨ op = 9 ∨ op = 10 ∨ op = 11 ∨ op = 12 ∨ op = 13 ∨ op = 14 ∨ op = 15 := by omega
    clear hr
    rcases this with rfl | rfl | rfl | rfl | rfl | rfl | rfl | rfl | rfl | rfl | rfl | rfl | rfl
    · have hv : V = ((a + b) % 4294967296 : Nat) := hV.out.trans rfl
      have h := Lib.hid (show V = (A + B) % 4294967296 from by rw [hv, hA.out, hB.out]; omega)
      clear hv
      go_enter Try.func11, Try.ntmps11
      go_wp2
      go_ret3
      exact ⟨ret_vti h.out.symm (hT.out.trans rfl).symm (hI.out.trans rfl).symm, Below.refl _ _⟩
    · have hv : V = ((a + (4294967296 - b)) % 4294967296 : Nat) := hV.out.trans rfl
      have h := Lib.hid (show V = (A - B) % 4294967296 from by rw [hv, hA.out, hB.out]; have := hb.out; omega)
      clear hv
      go_enter Try.func11, Try.ntmps11
      go_wp2
      go_ret3
      exact ⟨ret_vti (by rw [h.out]; omega) (hT.out.trans rfl).symm (hI.out.trans rfl).symm, Below.refl _ _⟩
    · have hv : V = (a * b % 4294967296 : Nat) := hV.out.trans rfl
      obtain ⟨D, hD⟩ : ∃ D : Int, A * B = D := ⟨_, rfl⟩
      have h := Lib.hid (show V = D % 4294967296 from by rw [hv, ← hD, hA.out, hB.out]; simp)
      have hD1 : 0 ≤ D := hD ▸ Int.mul_nonneg hA1 hB1
      have hD2 : D ≤ 18446744065119617025 := hD ▸ Int.le_trans (Int.mul_le_mul hA2 hB2 hB1 (by omega)) (by decide)
      clear hv
      go_enter Try.func11, Try.ntmps11
      go_wp2
      go_ret3
      exact ⟨ret_vti h.out.symm (hT.out.trans rfl).symm (hI.out.trans rfl).symm, Below.refl _ _⟩
    · by_cases hb0 : b = 0
      · subst hb0
        have hB0 : B = 0 := hB.out
        subst hB0
        have hv : V = 0 := hV.out.trans rfl
        have ht : T = 7 := hT.out.trans rfl
        have hi : I = true := hI.out.trans rfl
        subst hv ht hi
        go_enter Try.func11, Try.ntmps11
        go_wp2
        go_ret3
        exact ⟨rfl, Below.refl _ _⟩
      · have hB0 : ¬ B = 0 := by rw [hB.out]; omega
        have e1 : badR 6 b = false := by simp [badR, hb0]
        have hv := Lib.hid (show V = (a / b : Nat) from by rw [hV.out]; unfold valR; rw [e1]; rfl)
        have ht : T = 0 := by rw [hT.out]; unfold trapR; rw [e1]; rfl
        have hi : I = true := hI.out.trans rfl
        subst ht hi
        clear e1
        go_enter Try.func11, Try.ntmps11
        go_wp2
        go_ret3
        exact ⟨ret_vti (by rw [hv.out]; exact n_div hA.out hB.out ha.out) rfl rfl, Below.refl _ _⟩
    · by_cases hb0 : b = 0
      · subst hb0
        have hB0 : B = 0 := hB.out
        subst hB0
        have hv : V = 0 := hV.out.trans rfl
        have ht : T = 7 := hT.out.trans rfl
        have hi : I = true := hI.out.trans rfl
        subst hv ht hi
        go_enter Try.func11, Try.ntmps11
        go_wp2
        go_ret3
        exact ⟨rfl, Below.refl _ _⟩
      · have hB0 : ¬ B = 0 := by rw [hB.out]; omega
        have e1 : badR 7 b = false := by simp [badR, hb0]
        have hv := Lib.hid (show V = (a % b : Nat) from by rw [hV.out]; unfold valR; rw [e1]; rfl)
        have ht : T = 0 := by rw [hT.out]; unfold trapR; rw [e1]; rfl
        have hi : I = true := hI.out.trans rfl
        subst ht hi
        clear e1
        go_enter Try.func11, Try.ntmps11
        go_wp2
        go_ret3
        exact ⟨ret_vti (by rw [hv.out]; exact n_mod hA.out hB.out ha.out) rfl rfl, Below.refl _ _⟩
    · have h := Lib.hid (hV.out.trans rfl : V = (a &&& b : Nat))
      go_enter Try.func11, Try.ntmps11
      go_wp2_with fail
      refine (rA.out _).mono ?_
      rintro e w1 ⟨rfl, h1⟩
      replace h1 := Lib.hid h1
      go_wp2_with fail
      go_ret3
      exact ⟨ret_vti h.out.symm (hT.out.trans rfl).symm (hI.out.trans rfl).symm, h1.out⟩
    · have h := Lib.hid (hV.out.trans rfl : V = (a ||| b : Nat))
      go_enter Try.func11, Try.ntmps11
      go_wp2_with fail
      refine (rO.out _).mono ?_
      rintro e w1 ⟨rfl, h1⟩
      replace h1 := Lib.hid h1
      go_wp2_with fail
      go_ret3
      exact ⟨ret_vti h.out.symm (hT.out.trans rfl).symm (hI.out.trans rfl).symm, h1.out⟩
    · have h := Lib.hid (hV.out.trans rfl : V = (a ^^^ b : Nat))
      go_enter Try.func11, Try.ntmps11
      go_wp2_with fail
      refine (rX.out _).mono ?_
      rintro e w1 ⟨rfl, h1⟩
      replace h1 := Lib.hid h1
      go_wp2_with fail
      go_ret3
      exact ⟨ret_vti h.out.symm (hT.out.trans rfl).symm (hI.out.trans rfl).symm, h1.out⟩
    · have hv := Lib.hid (show V = (a * 2 ^ (b % 32) % 4294967296 : Nat) from hV.out.trans rfl)
      have hpw : 2 ^ m ≤ 2147483648 := Nat.le_trans (Nat.pow_le_pow_right (by decide) (show m ≤ 31 by omega)) (by decide)
      have hpp : 0 < 2 ^ m := Nat.two_pow_pos m
      have hpc : ((2 : Int) ^ m) = ((2 ^ m : Nat) : Int) := by simp
      obtain ⟨U, hU0⟩ : ∃ U : Int, U = ((2 ^ m : Nat) : Int) := ⟨_, rfl⟩
      have hU : IntKind.u64.wrap ((2 : Int) ^ m) = U := by rw [hU0, hpc, IntKind.wrap_u64]; omega
      have hU1 : 1 ≤ U := by rw [hU0]; omega
      have hU2 : U ≤ 2147483648 := by rw [hU0]; omega
      obtain ⟨D, hD⟩ : ∃ D : Int, A * U = D := ⟨_, rfl⟩
      have hD1 : 0 ≤ D := hD ▸ Int.mul_nonneg hA1 (by omega)
      have hD2 : D ≤ 9223372034707292160 := hD ▸ Int.le_trans (Int.mul_le_mul hA2 hU2 (by omega) (by omega)) (by decide)
      replace hU0 := Lib.hid hU0
      have hDh := Lib.hid hD
      clear hpw hpp hpc
      go_enter Try.func11, Try.ntmps11
      go_wp2
      go_ret3
      exact ⟨ret_vti (by rw [hv.out, hmb.out]; exact n_shl hA.out hU0.out hDh.out) (hT.out.trans rfl).symm (hI.out.trans rfl).symm, Below.refl _ _⟩
    · have hv := Lib.hid (show V = (a / 2 ^ (b % 32) : Nat) from hV.out.trans rfl)
      have hpw : 2 ^ m ≤ 2147483648 := Nat.le_trans (Nat.pow_le_pow_right (by decide) (show m ≤ 31 by omega)) (by decide)
      have hpp : 0 < 2 ^ m := Nat.two_pow_pos m
      have hpc : ((2 : Int) ^ m) = ((2 ^ m : Nat) : Int) := by simp
      obtain ⟨U, hU0⟩ : ∃ U : Int, U = ((2 ^ m : Nat) : Int) := ⟨_, rfl⟩
      have hU : IntKind.u64.wrap ((2 : Int) ^ m) = U := by rw [hU0, hpc, IntKind.wrap_u64]; omega
      have hU1 : 1 ≤ U := by rw [hU0]; omega
      have hU2 : U ≤ 2147483648 := by rw [hU0]; omega
      replace hU0 := Lib.hid hU0
      clear hpw hpp hpc
      go_enter Try.func11, Try.ntmps11
      go_wp2
      go_ret3
      exact ⟨ret_vti (by rw [hv.out, hmb.out]; exact n_div hA.out hU0.out ha.out) (hT.out.trans rfl).symm (hI.out.trans rfl).symm, Below.refl _ _⟩
    · have h := Lib.hid (hV.out.trans rfl : V = (oneN (decide (sg a < sg b)) : Nat))
      go_enter Try.func11, Try.ntmps11
      go_wp2_with fail
      refine (rS.out _).mono ?_
      rintro e w1 ⟨rfl, rfl⟩
      go_wp2_with fail
      refine (rT.out _).mono ?_
      rintro e w1 ⟨rfl, rfl⟩
      go_wp2_with fail
      refine (one_any _ _).mono ?_
      rintro e w1 ⟨rfl, rfl⟩
      go_wp2_with fail
      go_ret3
      exact ⟨ret_vti h.out.symm (hT.out.trans rfl).symm (hI.out.trans rfl).symm, Below.refl _ _⟩
    · have h := Lib.hid (hV.out.trans rfl : V = (oneN (decide (a < b)) : Nat))
      go_enter Try.func11, Try.ntmps11
      go_wp2_with fail
      refine (one_any _ _).mono ?_
      rintro e w1 ⟨rfl, rfl⟩
      go_wp2_with fail
      go_ret3
      exact ⟨ret_vti (by rw [h.out, hA.out, hB.out]; simp) (hT.out.trans rfl).symm (hI.out.trans rfl).symm, Below.refl _ _⟩
    · have h := Lib.hid (hV.out.trans rfl : V = (oneN (decide (a = b)) : Nat))
      go_enter Try.func11, Try.ntmps11
      go_wp2_with fail
      refine (one_any _ _).mono ?_
      rintro e w1 ⟨rfl, rfl⟩
      go_wp2_with fail
      go_ret3
      exact ⟨ret_vti (by rw [h.out, hA.out, hB.out, show (((a : Int) == (b : Int))) = decide (a = b) from by rw [Bool.eq_iff_iff]; simp; omega]) (hT.out.trans rfl).symm (hI.out.trans rfl).symm, Below.refl _ _⟩
  · have e1 : isR op = false := decide_eq_false hr
    have e2 : badR op b = false := decide_eq_false (fun h => hr (by omega))
    have hv : V = 0 := by rw [hV.out]; unfold valR; simp [e1]
    have ht : T = 0 := by rw [hT.out]; unfold trapR; simp [e2]
    have hi : I = false := hI.out.trans e1
    subst hv ht hi
    have n3 : (op == 3) = false := by simp; omega
    have n4 : (op == 4) = false := by simp; omega
    have n5 : (op == 5) = false := by simp; omega
    have n6 : (op == 6) = false := by simp; omega
    have n7 : (op == 7) = false := by simp; omega
    have n8 : (op == 8) = false := by simp; omega
    have n9 : (op == 9) = false := by simp; omega
    have n10 : (op == 10) = false := by simp; omega
    have n11 : (op == 11) = false := by simp; omega
    have n12 : (op == 12) = false := by simp; omega
    have n13 : (op == 13) = false := by simp; omega
    have n14 : (op == 14) = false := by simp; omega
    have n15 : (op == 15) = false := by simp; omega
    clear e1 e2 hr hV hT hI
    go_enter Try.func11, Try.ntmps11
    go_wp2
    go_ret3
    exact ⟨rfl, Below.refl _ _⟩
end Go.Proofs.Ytjkeflldbmiohaa
