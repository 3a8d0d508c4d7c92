/- Plain mathematics of layer tags: the lowest bit of a word; the places that are set, rising. No statement is proved here. -/
import Derived.Test.YtkkjjdnlfdempaaDoorTagM
import Derived.Lib.TrailingZeros
namespace Go.Proofs.YtkkjjdnlfdempaaDoor
open Go
set_option linter.unusedVariables false

theorem low_bit (g : Nat → Bool) (h : wd g 64 ≠ 0) : ∃ k, k < 64 ∧ Lib.ctz 64 (wd g 64) = k ∧ g k = true ∧ (∀ j, j < k → g j = false) ∧ wd g 64 &&& (wd g 64 - 1) = wd (fun j => g j && decide (k < j)) 64 := by
  obtain ⟨m, hm, hk⟩ := Lib.ctzFrom_spec 64 (wd g 64) (by omega) (wd_lt _ _)
  refine ⟨Lib.ctzFrom 64 (wd g 64), hk, by unfold Lib.ctz; rw [if_neg h], ?_⟩
  generalize Lib.ctzFrom 64 (wd g 64) = k at hm hk
  have hx : ∀ j, j < 64 → g j = (decide (k ≤ j) && (2 * m + 1).testBit (j - k)) := fun j hj => by
    have := wd_bit 64 g j
    rw [hm, Nat.mul_comm, Nat.testBit_mul_two_pow] at this
    simpa [hj] using this.symm
  have hp : 0 < 2 ^ k := Nat.two_pow_pos k
  have e : wd g 64 - 1 = 2 ^ (k + 1) * m + (2 ^ k - 1) := by
    rw [hm, Nat.pow_succ, Nat.mul_add, Nat.mul_one, Nat.mul_assoc]
    omega
  refine ⟨?_, fun j hj => ?_, ?_⟩
  · rw [hx k hk]; simp [Nat.testBit_zero]
  · rw [hx j (by omega)]
    have : ¬ k ≤ j := by omega
    simp [this]
  · apply Nat.eq_of_testBit_eq
    intro j
    rw [Nat.testBit_and, wd_bit, wd_bit, e, Nat.testBit_two_pow_mul_add m (by rw [Nat.pow_succ]; omega)]
    by_cases hj : j < 64
    · rw [hx j hj]
      by_cases hkj : k < j
      · have h1 : ¬ j < k + 1 := by omega
        have h2 : k ≤ j := by omega
        obtain ⟨d, rfl⟩ : ∃ d, j = k + 1 + d := ⟨j - k - 1, by omega⟩
        have e2 : k + 1 + d - k = d + 1 := by omega
        have e3 : k + 1 + d - (k + 1) = d := by omega
        rw [if_neg h1, e2, e3, Nat.testBit_succ, show (2 * m + 1) / 2 = m by omega]
        simp [hj, hkj, h2]
      · have h1 : j < k + 1 := by omega
        rw [if_pos h1, Nat.testBit_two_pow_sub_one]
        by_cases hjk : j = k
        · subst hjk; simp
        · have h2 : ¬ k ≤ j := by omega
          simp [h2]
    · simp [hj]

/-- The places below n that are set, rising. -/
def setL (f : Nat → Bool) (n : Nat) : List Nat := (List.range n).filter f
theorem setL_length (f : Nat → Bool) : ∀ n, (setL f n).length = cnt f n
  | 0 => rfl
  | n + 1 => by
    rw [setL, List.range_succ, List.filter_append, List.length_append, cnt]
    have := setL_length f n
    rw [setL] at this
    rw [this]
    cases h : f n <;> simp [h]
theorem setL_le (f : Nat → Bool) (n : Nat) : (setL f n).length ≤ n := by rw [setL_length]; exact cnt_le f n
/-- Nothing is set from a to b. -/
theorem setL_skip {f : Nat → Bool} {a b : Nat} (hab : a ≤ b) (h : ∀ j, a ≤ j → j < b → f j = false) : setL f b = setL f a := by
  obtain ⟨d, rfl⟩ : ∃ d, b = a + d := ⟨b - a, by omega⟩
  clear hab
  induction d with
  | zero => rfl
  | succ d ih =>
    rw [← ih fun j h1 h2 => h j h1 (by omega)]
    rw [setL, setL, show a + (d + 1) = (a + d) + 1 by omega, List.range_succ, List.filter_append]
    simp [h (a + d) (by omega) (by omega)]
theorem setL_snoc {f : Nat → Bool} {a : Nat} (h : f a = true) : setL f (a + 1) = setL f a ++ [a] := by
  rw [setL, setL, List.range_succ, List.filter_append]
  simp [h]
theorem setL_prefix (f : Nat → Bool) {a b : Nat} (h : a ≤ b) : setL f a <+: setL f b := by
  obtain ⟨d, rfl⟩ : ∃ d, b = a + d := ⟨b - a, by omega⟩
  clear h
  induction d with
  | zero => exact List.prefix_refl _
  | succ d ih =>
    refine ih.trans ?_
    rw [setL, setL, show a + (d + 1) = (a + d) + 1 by omega, List.range_succ, List.filter_append]
    exact List.prefix_append _ _
theorem setL_mem {f : Nat → Bool} {n k : Nat} : k ∈ setL f n ↔ k < n ∧ f k = true := by simp [setL]

/-- Rising, above last, and each of them set. -/
def good (f : Nat → Bool) : Int → List Nat → Bool
  | _, [] => true
  | l, x :: r => decide (l < (x : Int)) && (f x && good f x r)
/-- The last of them; l, if there is none. -/
def lastOf : Int → List Nat → Int
  | l, [] => l
  | _, x :: r => lastOf (x : Int) r
theorem lastOf_snoc : ∀ (l : Int) (p : List Nat) (x : Nat), lastOf l (p ++ [x]) = (x : Int)
  | _, [], _ => rfl
  | _, y :: r, x => lastOf_snoc (y : Int) r x
theorem good_snoc (f : Nat → Bool) : ∀ (l : Int) (p : List Nat) (x : Nat), good f l (p ++ [x]) = (good f l p && (decide (lastOf l p < (x : Int)) && f x))
  | l, [], x => by show (decide (l < (x : Int)) && (f x && true)) = (true && (decide (l < (x : Int)) && f x)); simp
  | l, y :: r, x => by
    rw [List.cons_append, good, good_snoc f y r x, good, lastOf]
    simp [Bool.and_assoc]
theorem good_prefix (f : Nat → Bool) : ∀ (l : Int) (p q : List Nat), good f l (p ++ q) = true → good f l p = true
  | _, [], _, _ => rfl
  | l, x :: r, q, h => by
    simp only [List.cons_append, good, Bool.and_eq_true] at h ⊢
    exact ⟨h.1, h.2.1, good_prefix f x r q h.2.2⟩
theorem good_setL (f : Nat → Bool) : ∀ n, good f (-1) (setL f n) = true ∧ lastOf (-1) (setL f n) < (n : Int)
  | 0 => ⟨rfl, by simp [setL, lastOf]⟩
  | n + 1 => by
    obtain ⟨h1, h2⟩ := good_setL f n
    by_cases h : f n = true
    · rw [setL_snoc h, lastOf_snoc, good_snoc, h1, h]
      exact ⟨by simp [h2], by omega⟩
    · have e : setL f (n + 1) = setL f n := setL_skip (by omega) (fun j ha hb => by
        have : j = n := by omega
        rw [this]; simpa using h)
      rw [e]
      exact ⟨h1, by omega⟩
end Go.Proofs.YtkkjjdnlfdempaaDoor
