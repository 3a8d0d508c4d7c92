/- Plain maths: bits of two numbers. No statement is proved here. -/
import Derived.Test.YtjkeflldbmiohaaMem
namespace Go.Proofs.Ytjkeflldbmiohaa

theorem and_half (a b : Nat) : a &&& b = 2 * ((a / 2) &&& (b / 2)) + (a % 2) * (b % 2) := by
  have h1 : (a &&& b) / 2 = a / 2 &&& b / 2 := Nat.and_div_two_pow (a := a) (b := b) (n := 1)
  have h3 := @Nat.and_mod_two_eq_one a b
  generalize a &&& b = X at *
  generalize a / 2 &&& b / 2 = Y at *
  rcases Nat.mod_two_eq_zero_or_one a with ea | ea <;> rcases Nat.mod_two_eq_zero_or_one b with eb | eb <;> rw [ea, eb] at h3 ⊢ <;> omega
theorem or_half (a b : Nat) : a ||| b = 2 * ((a / 2) ||| (b / 2)) + (a % 2 + b % 2 - (a % 2) * (b % 2)) := by
  have h1 : (a ||| b) / 2 = a / 2 ||| b / 2 := Nat.or_div_two_pow (a := a) (b := b) (n := 1)
  have h3 := @Nat.or_mod_two_eq_one a b
  generalize a ||| b = X at *
  generalize a / 2 ||| b / 2 = Y at *
  rcases Nat.mod_two_eq_zero_or_one a with ea | ea <;> rcases Nat.mod_two_eq_zero_or_one b with eb | eb <;> rw [ea, eb] at h3 ⊢ <;> omega
theorem xor_half (a b : Nat) : a ^^^ b = 2 * ((a / 2) ^^^ (b / 2)) + (a % 2 + b % 2) % 2 := by
  have h1 : (a ^^^ b) / 2 = a / 2 ^^^ b / 2 := Nat.xor_div_two_pow (a := a) (b := b) (n := 1)
  have h3 := @Nat.xor_mod_two_eq_one a b
  generalize a ^^^ b = X at *
  generalize a / 2 ^^^ b / 2 = Y at *
  rcases Nat.mod_two_eq_zero_or_one a with ea | ea <;> rcases Nat.mod_two_eq_zero_or_one b with eb | eb <;> rw [ea, eb] at h3 ⊢ <;> omega
theorem and_or (a b : Nat) : (a &&& b) + (a ||| b) = a + b := by
  induction a using Nat.strongRecOn generalizing b with
  | ind a ih =>
    by_cases h : a = 0
    · subst h; simp
    · have := ih (a / 2) (by omega) (b / 2)
      rw [and_half, or_half]
      generalize a / 2 &&& b / 2 = X at *
      generalize a / 2 ||| b / 2 = Y at *
      rcases Nat.mod_two_eq_zero_or_one a with ea | ea <;> rcases Nat.mod_two_eq_zero_or_one b with eb | eb <;> rw [ea, eb] <;> omega
theorem and_xor (a b : Nat) : (a &&& b) + (a ^^^ b) = a ||| b := by
  induction a using Nat.strongRecOn generalizing b with
  | ind a ih =>
    by_cases h : a = 0
    · subst h; simp
    · have := ih (a / 2) (by omega) (b / 2)
      rw [and_half, or_half, xor_half]
      generalize a / 2 &&& b / 2 = X at *
      generalize a / 2 ||| b / 2 = Y at *
      generalize a / 2 ^^^ b / 2 = Z at *
      rcases Nat.mod_two_eq_zero_or_one a with ea | ea <;> rcases Nat.mod_two_eq_zero_or_one b with eb | eb <;> rw [ea, eb] <;> omega
theorem xor_back (a b : Nat) : (a ^^^ b) ^^^ b = a := by rw [Nat.xor_assoc]; simp
end Go.Proofs.Ytjkeflldbmiohaa
