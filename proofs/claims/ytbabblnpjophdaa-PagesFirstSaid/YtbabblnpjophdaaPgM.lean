/- Plain mathematics of layer pages: where a run fits, and which is found. No statement is proved here. -/
import Derived.Test.YtbabblnpjophdaaTagM
namespace Go.Proofs.Ytbabblnpjophdaa
set_option linter.unusedVariables false

/-- Does a run of so many fit at that page? -/
def fitB (f : Nat → Bool) (n : Nat) (run : Int) (a : Nat) : Bool := decide (1 ≤ run) && (decide ((a : Int) + run ≤ n) && (List.range run.toNat).all fun k => f (a + k))
/-- And from a multiple of align on? -/
def goodB (f : Nat → Bool) (n : Nat) (run align : Int) (a : Nat) : Bool := decide (1 ≤ align) && (decide ((a : Int) % align = 0) && fitB f n run a)
theorem fit_iff {f : Nat → Bool} {n : Nat} {run : Int} {a : Nat} : fitB f n run a = true ↔ 1 ≤ run ∧ (a : Int) + run ≤ n ∧ ∀ k : Nat, a ≤ k → (k : Int) < a + run → f k = true := by
  unfold fitB
  rw [Bool.and_eq_true, Bool.and_eq_true, decide_eq_true_eq, decide_eq_true_eq, List.all_eq_true]
  constructor
  · rintro ⟨h1, h2, h3⟩
    refine ⟨h1, h2, fun k hk hl => ?_⟩
    have := h3 (k - a) (List.mem_range.2 (by omega))
    rwa [show a + (k - a) = k by omega] at this
  · rintro ⟨h1, h2, h3⟩
    exact ⟨h1, h2, fun k hk => h3 _ (by omega) (by have := List.mem_range.1 hk; omega)⟩
theorem good_iff {f : Nat → Bool} {n : Nat} {run align : Int} {a : Nat} : goodB f n run align a = true ↔ 1 ≤ align ∧ (a : Int) % align = 0 ∧ fitB f n run a = true := by
  unfold goodB
  rw [Bool.and_eq_true, Bool.and_eq_true, decide_eq_true_eq, decide_eq_true_eq]
theorem fit_lt {f : Nat → Bool} {n : Nat} {run : Int} {a : Nat} (h : fitB f n run a = true) : a < n := by have := fit_iff.1 h; omega
/-- The least one, if there is one. -/
def fnd (f : Nat → Bool) (n : Nat) (run align : Int) : Option Nat := (List.range n).find? (goodB f n run align)
def fndA (f : Nat → Bool) (n : Nat) (run align : Int) : Nat := (fnd f n run align).getD 0
def fndB (f : Nat → Bool) (n : Nat) (run align : Int) : Bool := (fnd f n run align).isSome
theorem fnd_some {f : Nat → Bool} {n : Nat} {run align : Int} {a : Nat} (h : fnd f n run align = some a) : goodB f n run align a = true ∧ ∀ j, j < a → goodB f n run align j = false := by
  unfold fnd at h
  obtain ⟨h1, i, hi, rfl, h2⟩ := List.find?_eq_some_iff_getElem.1 h
  simp only [List.getElem_range] at h1 h2 ⊢
  exact ⟨h1, fun j hj => by simpa using h2 j hj⟩
theorem fnd_none {f : Nat → Bool} {n : Nat} {run align : Int} (h : fnd f n run align = none) (j : Nat) : goodB f n run align j = false := by
  unfold fnd at h
  rw [List.find?_eq_none] at h
  cases hg : goodB f n run align j
  · rfl
  · exact absurd hg (h j (List.mem_range.2 (fit_lt (good_iff.1 hg).2.2)))
theorem fnd_yes {f : Nat → Bool} {n : Nat} {run align : Int} {a : Nat} (h : goodB f n run align a = true) (hl : ∀ j, j < a → goodB f n run align j = false) : fndA f n run align = a ∧ fndB f n run align = true := by
  unfold fndA fndB
  cases e : fnd f n run align with
  | none => exact absurd h (by rw [fnd_none e a]; decide)
  | some b =>
    have hb := fnd_some e
    have : b = a := by
      rcases Nat.lt_trichotomy a b with k | k | k
      · exact absurd h (by rw [hb.2 a k]; decide)
      · exact k.symm
      · exact absurd hb.1 (by rw [hl b k]; decide)
    exact ⟨this, rfl⟩
theorem fnd_no {f : Nat → Bool} {n : Nat} {run align : Int} (h : ∀ j, j < n → goodB f n run align j = false) : fndA f n run align = 0 ∧ fndB f n run align = false := by
  have e : fnd f n run align = none := by
    unfold fnd
    rw [List.find?_eq_none]
    intro j hj
    rw [h j (List.mem_range.1 hj)]
    decide
  unfold fndA fndB
  rw [e]
  exact ⟨rfl, rfl⟩
theorem fnd_is {f : Nat → Bool} {n : Nat} {run align : Int} (h : fndB f n run align = true) : goodB f n run align (fndA f n run align) = true ∧ ∀ j, j < fndA f n run align → goodB f n run align j = false := by
  unfold fndA fndB at *
  cases e : fnd f n run align with
  | none => rw [e] at h; cases h
  | some b => exact fnd_some e
theorem fnd_not {f : Nat → Bool} {n : Nat} {run align : Int} (h : fndB f n run align = false) : fndA f n run align = 0 ∧ ∀ j, goodB f n run align j = false := by
  unfold fndA fndB at *
  cases e : fnd f n run align with
  | none => exact ⟨rfl, fnd_none e⟩
  | some b => rw [e] at h; cases h
theorem fnd_neg {f : Nat → Bool} {n : Nat} {run align : Int} (h : align < 1) : fndA f n run align = 0 ∧ fndB f n run align = false := fnd_no fun j _ => by
  cases hg : goodB f n run align j
  · rfl
  · exact absurd (good_iff.1 hg).1 (by omega)
/-- What Take leaves. -/
def tkF (f : Nat → Bool) (n : Nat) (run align : Int) : Nat → Bool := if fndB f n run align then fun k => f k && !inr (fndA f n run align) (fndA f n run align + run.toNat) k else f
/-- Does Put put? -/
def ptB (f : Nat → Bool) (n : Nat) (a run : Int) : Bool := decide (0 ≤ a) && (decide (1 ≤ run) && (decide (a + run ≤ n) && (List.range run.toNat).all fun k => !f (a.toNat + k)))
theorem pt_iff {f : Nat → Bool} {n : Nat} {a run : Int} : ptB f n a run = true ↔ 0 ≤ a ∧ 1 ≤ run ∧ a + run ≤ n ∧ ∀ k : Nat, a ≤ k → (k : Int) < a + run → f k = false := by
  unfold ptB
  rw [Bool.and_eq_true, Bool.and_eq_true, Bool.and_eq_true, decide_eq_true_eq, decide_eq_true_eq, decide_eq_true_eq, List.all_eq_true]
  constructor
  · rintro ⟨h0, h1, h2, h3⟩
    refine ⟨h0, h1, h2, fun k hk hl => ?_⟩
    have := h3 (k - a.toNat) (List.mem_range.2 (by omega))
    rw [show a.toNat + (k - a.toNat) = k by omega] at this
    simpa using this
  · rintro ⟨h0, h1, h2, h3⟩
    exact ⟨h0, h1, h2, fun k hk => by rw [h3 _ (by omega) (by have := List.mem_range.1 hk; omega)]; rfl⟩
def ptF (f : Nat → Bool) (n : Nat) (a run : Int) : Nat → Bool := if ptB f n a run then fun k => f k || inr a.toNat (a + run).toNat k else f
theorem tk_off {f : Nat → Bool} {n : Nat} {run align : Int} (h : ∀ k, n ≤ k → f k = false) : ∀ k, n ≤ k → tkF f n run align k = false := fun k hk => by
  unfold tkF
  split
  · simp [h k hk]
  · exact h k hk
theorem pt_off {f : Nat → Bool} {n : Nat} {a run : Int} (h : ∀ k, n ≤ k → f k = false) : ∀ k, n ≤ k → ptF f n a run k = false := fun k hk => by
  unfold ptF
  split
  next e =>
    have := pt_iff.1 e
    have : inr a.toNat (a + run).toNat k = false := by unfold inr; simp; omega
    simp [h k hk, this]
  · exact h k hk
/-- Behind a page that is not set, at the next multiple of align: nothing was there meanwhile. -/
theorem good_skip {f : Nat → Bool} {n : Nat} {run align : Int} {a p : Nat} (hal : 1 ≤ align) (ha : (a : Int) % align = 0) (hp : a ≤ p) (hl : (p : Int) < a + run) (hf : f p = false) (h : ∀ j, j < a → goodB f n run align j = false) :
    ∀ j : Nat, (j : Int) < ((p : Int) / align + 1) * align → goodB f n run align j = false := fun j hj => by
  cases hg : goodB f n run align j
  · rfl
  · obtain ⟨h1, h2, h3⟩ := good_iff.1 hg
    obtain ⟨h4, h5, h6⟩ := fit_iff.1 h3
    by_cases hja : j < a
    · exact absurd hg (by rw [h j hja]; decide)
    · by_cases hjp : j ≤ p
      · exact absurd (h6 p hjp (by omega)) (by rw [hf]; decide)
      · -- j lies behind p, below the next multiple, and is one
        obtain ⟨q, hq⟩ := Int.dvd_of_emod_eq_zero h2
        have e := Int.mul_ediv_add_emod (p : Int) align
        have hr := Int.emod_nonneg (p : Int) (show align ≠ 0 by omega)
        have hr2 := Int.emod_lt_of_pos (p : Int) (show 0 < align by omega)
        have hlt : (p : Int) / align < q := by
          apply Int.lt_of_mul_lt_mul_left (a := align) _ (by omega)
          omega
        have hle : ((p : Int) / align + 1) * align ≤ q * align := Int.mul_le_mul_of_nonneg_right (by omega) (by omega)
        rw [Int.mul_comm q] at hle
        omega
theorem next_mul {align : Int} {p : Nat} (hal : 1 ≤ align) : ((p : Int) / align + 1) * align % align = 0 ∧ (p : Int) < ((p : Int) / align + 1) * align ∧ ((p : Int) / align + 1) * align ≤ p + align ∧ ((p : Int) / align + 1) * align ≤ max (2 * (p : Int)) align ∧ 0 ≤ (p : Int) / align ∧ (p : Int) / align ≤ p := by
  have e := Int.mul_ediv_add_emod (p : Int) align
  have hr := Int.emod_nonneg (p : Int) (show align ≠ 0 by omega)
  have hr2 := Int.emod_lt_of_pos (p : Int) (show 0 < align by omega)
  have hq : 0 ≤ (p : Int) / align := Int.ediv_nonneg (by omega) (by omega)
  have hx : ((p : Int) / align + 1) * align = align * ((p : Int) / align) + align := by rw [Int.add_mul, Int.one_mul, Int.mul_comm]
  have hle : (p : Int) / align ≤ p := Int.ediv_le_self _ (by omega)
  refine ⟨Int.mul_emod_left _ _, by omega, by omega, ?_, hq, hle⟩
  by_cases h0 : (p : Int) < align
  · rw [Int.ediv_eq_zero_of_lt (by omega) h0]; omega
  · omega
end Go.Proofs.Ytbabblnpjophdaa
