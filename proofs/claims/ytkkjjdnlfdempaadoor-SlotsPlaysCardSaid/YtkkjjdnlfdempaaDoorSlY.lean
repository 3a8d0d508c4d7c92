/- Plain matter for SlotsLeast: pages that are whole, and taken in order. No statement is proved here. -/
import Derived.Test.YtkkjjdnlfdempaaDoorSlX
namespace Go.Proofs.YtkkjjdnlfdempaaDoor
set_option maxRecDepth 100000
open Go.RowKit Go.Shelf
set_option linter.unusedVariables false
/-- Of the pages g, each with n slots, all but the first t are free. -/
def frm (g : Nat → Bool) (n t : Nat) : Nat → Nat → Bool := fun p s => g p && decide (s < n) && decide (t ≤ cnt g p * n + s)
theorem cnt_mono (g : Nat → Bool) {a b : Nat} (h : a ≤ b) : cnt g a ≤ cnt g b := by
  obtain ⟨d, rfl⟩ : ∃ d, b = a + d := ⟨b - a, by omega⟩
  rw [cnt_add]; omega
theorem cnt_step {g : Nat → Bool} {p q : Nat} (hg : g p = true) (h : p < q) : cnt g p + 1 ≤ cnt g q := by
  have : cnt g (p + 1) = cnt g p + 1 := by simp [cnt, hg]
  have := cnt_mono g (show p + 1 ≤ q by omega)
  omega
theorem frm_zero (g : Nat → Bool) (n p s : Nat) : frm g n 0 p s = (g p && decide (s < n)) := by simp [frm]
theorem frm_add {g : Nat → Bool} {n p : Nat} (hp : g p = false) : updP (frm g n 0) p (full n) = frm (upd g p true) n 0 := by
  funext q s
  rw [frm_zero]
  by_cases e : q = p
  · subst e; rw [updP_same, upd_same]; simp [full]
  · rw [updP_ne _ _ e, upd_ne _ _ e, frm_zero]
theorem frm_end {g : Nat → Bool} {n : Nat} (hg : ∀ p, g p = true → p < 1024) (p s : Nat) : frm g n (cnt g 1024 * n) p s = false := by
  unfold frm
  rcases hv : g p with _ | _
  · simp
  · by_cases hs : s < n
    · have h1 := cnt_step hv (hg p hv)
      have h2 : (cnt g p + 1) * n ≤ cnt g 1024 * n := Nat.mul_le_mul_right n h1
      rw [Nat.add_mul, Nat.one_mul] at h2
      have : ¬ cnt g 1024 * n ≤ cnt g p * n + s := by omega
      simp [hs, this]
    · simp [hs]
/-- Where page p is the i-th one, slot k of it is the next. -/
theorem frm_least {g : Nat → Bool} {n p i k : Nat} (hp : g p = true) (hi : cnt g p = i) (hk : k < n) : Least (frm g n (i * n + k)) p k := by
  subst hi
  refine ⟨by simp [frm, hp, hk], fun q t hq => ?_, fun t ht => ?_⟩
  · unfold frm
    rcases hv : g q with _ | _
    · simp
    · by_cases hs : t < n
      · have h1 := cnt_step hv hq
        have h2 : (cnt g q + 1) * n ≤ cnt g p * n := Nat.mul_le_mul_right n h1
        rw [Nat.add_mul, Nat.one_mul] at h2
        have : ¬ cnt g p * n + k ≤ cnt g q * n + t := by omega
        simp [hs, this]
      · simp [hs]
  · unfold frm
    have : ¬ cnt g p * n + k ≤ cnt g p * n + t := by omega
    simp [this]
theorem frm_take {g : Nat → Bool} {n p i k : Nat} (hp : g p = true) (hi : cnt g p = i) (hk : k < n) : upd2 (frm g n (i * n + k)) p k false = frm g n (i * n + (k + 1)) := by
  subst hi
  funext q t
  by_cases e : q = p
  · subst e
    simp only [upd2, if_true]
    by_cases e2 : t = k
    · subst e2
      have : ¬ cnt g q * n + (t + 1) ≤ cnt g q * n + t := by omega
      simp [upd, frm, this]
    · rw [upd_ne _ _ e2]
      unfold frm
      have : decide (cnt g q * n + k ≤ cnt g q * n + t) = decide (cnt g q * n + (k + 1) ≤ cnt g q * n + t) := decide_eq_decide.2 (by omega)
      rw [this]
  · simp only [upd2, e, if_false]
    unfold frm
    rcases hv : g q with _ | _
    · simp
    · by_cases hs : t < n
      · have h3 : cnt g q ≠ cnt g p := by
          rcases Nat.lt_or_ge q p with h | h
          · have := cnt_step hv h; omega
          · have := cnt_step hp (show p < q by omega); omega
        have : decide (cnt g p * n + k ≤ cnt g q * n + t) = decide (cnt g p * n + (k + 1) ≤ cnt g q * n + t) := decide_eq_decide.2 (by
          rcases Nat.lt_or_gt_of_ne h3 with h | h
          · have h2 : (cnt g q + 1) * n ≤ cnt g p * n := Nat.mul_le_mul_right n h
            rw [Nat.add_mul, Nat.one_mul] at h2
            omega
          · have h2 : (cnt g p + 1) * n ≤ cnt g q * n := Nat.mul_le_mul_right n h
            rw [Nat.add_mul, Nat.one_mul] at h2
            omega)
        rw [this]
      · simp [hs]
theorem tot_frm (g : Nat → Bool) {n : Nat} (hn : n ≤ 16) : ∀ m, tot (frm g n 0) m = cnt g m * n
  | 0 => by simp [tot, cnt]
  | m + 1 => by
    have e1 : tot (frm g n 0) (m + 1) = tot (frm g n 0) m + cnt (frm g n 0 m) 16 := rfl
    have e2 : cnt g (m + 1) = cnt g m + (g m).toNat := rfl
    rw [e1, e2, tot_frm g hn m, Nat.add_mul]
    congr 1
    rcases hv : g m with _ | _
    · rw [cnt_zero (fun s _ => by rw [frm_zero, hv]; rfl)]; simp
    · rw [show cnt (frm g n 0 m) 16 = cnt (full n) 16 from cnt_congr fun s _ => by rw [frm_zero, hv]; rfl, cnt_full n hn]; simp
/-- The i-th page of the rising list. -/
theorem setL_at (g : Nat → Bool) : ∀ m i p, (setL g m)[i]? = some p → g p = true ∧ p < m ∧ cnt g p = i
  | 0, i, p, h => by simp [setL] at h
  | m + 1, i, p, h => by
    rcases hv : g m with _ | _
    · rw [setL_skip (a := m) (b := m + 1) (by omega) (fun j h1 h2 => (show j = m by omega) ▸ hv)] at h
      have := setL_at g m i p h
      exact ⟨this.1, by omega, this.2.2⟩
    · rw [setL_snoc hv] at h
      rcases Nat.lt_or_ge i (setL g m).length with hi | hi
      · rw [List.getElem?_append_left hi] at h
        have := setL_at g m i p h
        exact ⟨this.1, by omega, this.2.2⟩
      · rw [List.getElem?_append_right hi] at h
        have h0 : i - (setL g m).length = 0 := by
          rcases Nat.eq_zero_or_pos (i - (setL g m).length) with h0 | h0
          · exact h0
          · rw [List.getElem?_eq_none (by simp; omega)] at h; cases h
        rw [h0] at h
        have : p = m := by simpa using h.symm
        subst this
        rw [setL_length] at hi h0
        exact ⟨hv, by omega, by omega⟩
theorem frm_whole {g : Nat → Bool} {n p i : Nat} (hn : n ≤ 16) (hp : g p = true) (hp2 : p < 1024) (hi : cnt g p = i) : okW n g (frm g n (i * n)) (p : Int) = true := by
  subst hi
  unfold okW isW inP
  rw [Int.toNat_natCast, decide_eq_true (Int.natCast_nonneg p), decide_eq_true (show (p : Int) < 1024 by omega), hp]
  simp only [Bool.true_and, decide_eq_true_eq]
  exact w16_congr fun s _ => by simp [frm, full, hp]
theorem frm_broken {g : Nat → Bool} {n p i k : Nat} (hn : n ≤ 16) (hi : cnt g p = i) (hk : k < n) : okW n g (frm g n (i * n + (k + 1))) (p : Int) = false := by
  subst hi
  unfold okW isW
  rw [Int.toNat_natCast]
  have : ¬ w16 (frm g n (cnt g p * n + (k + 1)) p) = w16 (full n) := fun e => by
    have h := w16_eq e k (by omega)
    have h2 : ¬ cnt g p * n + (k + 1) ≤ cnt g p * n + k := by omega
    simp [frm, full, hk, h2] at h
  simp [this]
end Go.Proofs.YtkkjjdnlfdempaaDoor
