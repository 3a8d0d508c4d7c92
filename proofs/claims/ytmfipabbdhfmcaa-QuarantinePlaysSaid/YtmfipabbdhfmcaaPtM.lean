/- When a region is added, or removed, in plain words. No statement is proved here. -/
import Derived.Test.YtmfipabbdhfmcaaPtD
namespace Go.Proofs.Ytmfipabbdhfmcaa
open Go.RowKit Go.Shelf
set_option linter.unusedVariables false
theorem ok_iff {n a s : Nat} {f : Nat → Bool} {to : Bool} : okT n f a s to = true ↔ (a % 16 = 0 ∧ s % 16 = 0 ∧ 0 < s) ∧ ∀ i, i < s / 16 → a / 16 + i < n ∧ f (a / 16 + i) ≠ to := by
  unfold okT wholeB okR okG
  rw [Bool.and_eq_true, decide_eq_true_eq, List.all_eq_true]
  simp only [List.mem_range, Bool.and_eq_true, decide_eq_true_eq, bne_iff_ne]
theorem ok_no {n a s : Nat} {f : Nat → Bool} {to : Bool} (i : Nat) (hi : i < s / 16) (h : a / 16 + i < n → f (a / 16 + i) = to) : okT n f a s to = false := by
  cases e : okT n f a s to
  · rfl
  · have := (ok_iff.1 e).2 i hi
    exact absurd (h this.1) this.2
theorem cnt_all (f : Nat → Bool) : ∀ n, (∀ k, k < n → f k = true) → cnt f n = n
  | 0, _ => rfl
  | n + 1, h => by
    show cnt f n + (f n).toNat = n + 1
    rw [cnt_all f n (fun k hk => h k (by omega)), h n (by omega)]
    rfl
end Go.Proofs.Ytmfipabbdhfmcaa
