/- Plain mathematics of layer pages: where a run fits, and which is found. No statement is proved here.; Bounds in few bits: plain lemmas on numbers. No statement is proved here.; Bounds in few bits: what is made tells what was asked for. Plain lemmas; no statement is proved here.; Sizes: plain lemmas on numbers. No statement is proved here.; Plain mathematics of layer heap: regions in pages, what is free, what is of a class. No statement is proved here. -/
import Derived.Test.YticfpnhfhhagpaaDoormf
import Derived.WalkKit
namespace Go.Proofs.YticfpnhfhhagpaaDoor
set_option linter.unusedVariables false

/-- Does a run of so many fit at that page? -/
def fitB (f : Nat → Bool) (n : Nat) (run : Int) (a : Nat) : Bool := decide (1 ≤ run) && (decide ((a : Int) + run ≤ n) && (List.range run.toNat).all fun k => f (a + k))
/-- And from a multiple of align on? -/
def goodB (f : Nat → Bool) (n : Nat) (run align : Int) (a : Nat) : Bool := decide (1 ≤ align) && (decide ((a : Int) % align = 0) && fitB f n run a)
theorem fit_iff {f : Nat → Bool} {n : Nat} {run : Int} {a : Nat} : fitB f n run a = true ↔ 1 ≤ run ∧ (a : Int) + run ≤ n ∧ ∀ k : Nat, a ≤ k → (k : Int) < a + run → f k = true := by
  unfold fitB
  rw [Bool.and_eq_true, Bool.and_eq_true, decide_eq_true_eq, decide_eq_true_eq, List.all_eq_true]
  constructor
  · rintro ⟨h1, h2, h3⟩
    refine ⟨h1, h2, fun k hk hl => ?_⟩
    have := h3 (k - a) (List.mem_range.2 (by omega))
    rwa [show a + (k - a) = k by omega] at this
  · rintro ⟨h1, h2, h3⟩
    exact ⟨h1, h2, fun k hk => h3 _ (by omega) (by have := List.mem_range.1 hk; omega)⟩
theorem good_iff {f : Nat → Bool} {n : Nat} {run align : Int} {a : Nat} : goodB f n run align a = true ↔ 1 ≤ align ∧ (a : Int) % align = 0 ∧ fitB f n run a = true := by
  unfold goodB
  rw [Bool.and_eq_true, Bool.and_eq_true, decide_eq_true_eq, decide_eq_true_eq]
theorem fit_lt {f : Nat → Bool} {n : Nat} {run : Int} {a : Nat} (h : fitB f n run a = true) : a < n := by have := fit_iff.1 h; omega
/-- The least one, if there is one. -/
def fnd (f : Nat → Bool) (n : Nat) (run align : Int) : Option Nat := (List.range n).find? (goodB f n run align)
def fndA (f : Nat → Bool) (n : Nat) (run align : Int) : Nat := (fnd f n run align).getD 0
def fndB (f : Nat → Bool) (n : Nat) (run align : Int) : Bool := (fnd f n run align).isSome
theorem fnd_some {f : Nat → Bool} {n : Nat} {run align : Int} {a : Nat} (h : fnd f n run align = some a) : goodB f n run align a = true ∧ ∀ j, j < a → goodB f n run align j = false := by
  unfold fnd at h
  obtain ⟨h1, i, hi, rfl, h2⟩ := List.find?_eq_some_iff_getElem.1 h
  simp only [List.getElem_range] at h1 h2 ⊢
  exact ⟨h1, fun j hj => by simpa using h2 j hj⟩
theorem fnd_none {f : Nat → Bool} {n : Nat} {run align : Int} (h : fnd f n run align = none) (j : Nat) : goodB f n run align j = false := by
  unfold fnd at h
  rw [List.find?_eq_none] at h
  cases hg : goodB f n run align j
  · rfl
  · exact absurd hg (h j (List.mem_range.2 (fit_lt (good_iff.1 hg).2.2)))
theorem fnd_yes {f : Nat → Bool} {n : Nat} {run align : Int} {a : Nat} (h : goodB f n run align a = true) (hl : ∀ j, j < a → goodB f n run align j = false) : fndA f n run align = a ∧ fndB f n run align = true := by
  unfold fndA fndB
  cases e : fnd f n run align with
  | none => exact absurd h (by rw [fnd_none e a]; decide)
  | some b =>
    have hb := fnd_some e
    have : b = a := by
      rcases Nat.lt_trichotomy a b with k | k | k
      · exact absurd h (by rw [hb.2 a k]; decide)
      · exact k.symm
      · exact absurd hb.1 (by rw [hl b k]; decide)
    exact ⟨this, rfl⟩
theorem fnd_no {f : Nat → Bool} {n : Nat} {run align : Int} (h : ∀ j, j < n → goodB f n run align j = false) : fndA f n run align = 0 ∧ fndB f n run align = false := by
  have e : fnd f n run align = none := by
    unfold fnd
    rw [List.find?_eq_none]
    intro j hj
    rw [h j (List.mem_range.1 hj)]
    decide
  unfold fndA fndB
  rw [e]
  exact ⟨rfl, rfl⟩
theorem fnd_is {f : Nat → Bool} {n : Nat} {run align : Int} (h : fndB f n run align = true) : goodB f n run align (fndA f n run align) = true ∧ ∀ j, j < fndA f n run align → goodB f n run align j = false := by
  unfold fndA fndB at *
  cases e : fnd f n run align with
  | none => rw [e] at h; cases h
  | some b => exact fnd_some e
theorem fnd_not {f : Nat → Bool} {n : Nat} {run align : Int} (h : fndB f n run align = false) : fndA f n run align = 0 ∧ ∀ j, goodB f n run align j = false := by
  unfold fndA fndB at *
  cases e : fnd f n run align with
  | none => exact ⟨rfl, fnd_none e⟩
  | some b => rw [e] at h; cases h
theorem fnd_neg {f : Nat → Bool} {n : Nat} {run align : Int} (h : align < 1) : fndA f n run align = 0 ∧ fndB f n run align = false := fnd_no fun j _ => by
  cases hg : goodB f n run align j
  · rfl
  · exact absurd (good_iff.1 hg).1 (by omega)
/-- What Take leaves. -/
def tkF (f : Nat → Bool) (n : Nat) (run align : Int) : Nat → Bool := if fndB f n run align then fun k => f k && !inr (fndA f n run align) (fndA f n run align + run.toNat) k else f
/-- Does Put put? -/
def ptB (f : Nat → Bool) (n : Nat) (a run : Int) : Bool := decide (0 ≤ a) && (decide (1 ≤ run) && (decide (a + run ≤ n) && (List.range run.toNat).all fun k => !f (a.toNat + k)))
theorem pt_iff {f : Nat → Bool} {n : Nat} {a run : Int} : ptB f n a run = true ↔ 0 ≤ a ∧ 1 ≤ run ∧ a + run ≤ n ∧ ∀ k : Nat, a ≤ k → (k : Int) < a + run → f k = false := by
  unfold ptB
  rw [Bool.and_eq_true, Bool.and_eq_true, Bool.and_eq_true, decide_eq_true_eq, decide_eq_true_eq, decide_eq_true_eq, List.all_eq_true]
  constructor
  · rintro ⟨h0, h1, h2, h3⟩
    refine ⟨h0, h1, h2, fun k hk hl => ?_⟩
    have := h3 (k - a.toNat) (List.mem_range.2 (by omega))
    rw [show a.toNat + (k - a.toNat) = k by omega] at this
    simpa using this
  · rintro ⟨h0, h1, h2, h3⟩
    exact ⟨h0, h1, h2, fun k hk => by rw [h3 _ (by omega) (by have := List.mem_range.1 hk; omega)]; rfl⟩
def ptF (f : Nat → Bool) (n : Nat) (a run : Int) : Nat → Bool := if ptB f n a run then fun k => f k || inr a.toNat (a + run).toNat k else f
theorem tk_off {f : Nat → Bool} {n : Nat} {run align : Int} (h : ∀ k, n ≤ k → f k = false) : ∀ k, n ≤ k → tkF f n run align k = false := fun k hk => by
  unfold tkF
  split
  · simp [h k hk]
  · exact h k hk
theorem pt_off {f : Nat → Bool} {n : Nat} {a run : Int} (h : ∀ k, n ≤ k → f k = false) : ∀ k, n ≤ k → ptF f n a run k = false := fun k hk => by
  unfold ptF
  split
  next e =>
    have := pt_iff.1 e
    have : inr a.toNat (a + run).toNat k = false := by unfold inr; simp; omega
    simp [h k hk, this]
  · exact h k hk
/-- Behind a page that is not set, at the next multiple of align: nothing was there meanwhile. -/
theorem good_skip {f : Nat → Bool} {n : Nat} {run align : Int} {a p : Nat} (hal : 1 ≤ align) (ha : (a : Int) % align = 0) (hp : a ≤ p) (hl : (p : Int) < a + run) (hf : f p = false) (h : ∀ j, j < a → goodB f n run align j = false) :
    ∀ j : Nat, (j : Int) < ((p : Int) / align + 1) * align → goodB f n run align j = false := fun j hj => by
  cases hg : goodB f n run align j
  · rfl
  · obtain ⟨h1, h2, h3⟩ := good_iff.1 hg
    obtain ⟨h4, h5, h6⟩ := fit_iff.1 h3
    by_cases hja : j < a
    · exact absurd hg (by rw [h j hja]; decide)
    · by_cases hjp : j ≤ p
      · exact absurd (h6 p hjp (by omega)) (by rw [hf]; decide)
      · -- j lies behind p, below the next multiple, and is one
        obtain ⟨q, hq⟩ := Int.dvd_of_emod_eq_zero h2
        have e := Int.mul_ediv_add_emod (p : Int) align
        have hr := Int.emod_nonneg (p : Int) (show align ≠ 0 by omega)
        have hr2 := Int.emod_lt_of_pos (p : Int) (show 0 < align by omega)
        have hlt : (p : Int) / align < q := by
          apply Int.lt_of_mul_lt_mul_left (a := align) _ (by omega)
          omega
        have hle : ((p : Int) / align + 1) * align ≤ q * align := Int.mul_le_mul_of_nonneg_right (by omega) (by omega)
        rw [Int.mul_comm q] at hle
        omega
theorem next_mul {align : Int} {p : Nat} (hal : 1 ≤ align) : ((p : Int) / align + 1) * align % align = 0 ∧ (p : Int) < ((p : Int) / align + 1) * align ∧ ((p : Int) / align + 1) * align ≤ p + align ∧ ((p : Int) / align + 1) * align ≤ max (2 * (p : Int)) align ∧ 0 ≤ (p : Int) / align ∧ (p : Int) / align ≤ p := by
  have e := Int.mul_ediv_add_emod (p : Int) align
  have hr := Int.emod_nonneg (p : Int) (show align ≠ 0 by omega)
  have hr2 := Int.emod_lt_of_pos (p : Int) (show 0 < align by omega)
  have hq : 0 ≤ (p : Int) / align := Int.ediv_nonneg (by omega) (by omega)
  have hx : ((p : Int) / align + 1) * align = align * ((p : Int) / align) + align := by rw [Int.add_mul, Int.one_mul, Int.mul_comm]
  have hle : (p : Int) / align ≤ p := Int.ediv_le_self _ (by omega)
  refine ⟨Int.mul_emod_left _ _, by omega, by omega, ?_, hq, hle⟩
  by_cases h0 : (p : Int) < align
  · rw [Int.ediv_eq_zero_of_lt (by omega) h0]; omega
  · omega
end Go.Proofs.YticfpnhfhhagpaaDoor
namespace Go.Proofs.YticfpnhfhhagpaaDoor
open Go.RowKit
set_option linter.unusedVariables false

/-- Rounded down, and up, to a multiple of U. -/
def dn (U x : Nat) : Nat := x / U * U
def up (U x : Nat) : Nat := (x + U - 1) / U * U
def okE (b t e : Nat) : Prop := up (2 ^ e) t - dn (2 ^ e) b ≤ 2048 * 2 ^ e
instance (b t e : Nat) : Decidable (okE b t e) := inferInstanceAs (Decidable (_ ≤ _))
def expoF (b t : Nat) : Nat → Nat → Nat
  | 0, e => e
  | f + 1, e => if okE b t e then e else expoF b t f (e + 1)
/-- The least exponent that goes. -/
def expo (b t : Nat) : Nat := expoF b t 21 0

theorem pow_pos2 (e : Nat) : 1 ≤ 2 ^ e := Nat.one_le_two_pow
theorem dn_le (U x : Nat) : dn U x ≤ x := Nat.div_mul_le_self x U
theorem lt_dn {U : Nat} (x : Nat) (h : 1 ≤ U) : x < dn U x + U := by
  have := Nat.lt_div_mul_add (a := x) (b := U) (by omega)
  exact this
theorem up_ge {U : Nat} (x : Nat) (h : 1 ≤ U) : x ≤ up U x := by
  have := Nat.lt_div_mul_add (a := x + U - 1) (b := U) (by omega)
  unfold up; omega
theorem up_lt {U : Nat} (x : Nat) (h : 1 ≤ U) : up U x < x + U := by
  have := Nat.div_mul_le_self (x + U - 1) U
  unfold up; omega
theorem dn_mono {U x y : Nat} (h : x ≤ y) : dn U x ≤ dn U y := Nat.mul_le_mul_right _ (Nat.div_le_div_right h)
theorem up_mono {U x y : Nat} (h : x ≤ y) : up U x ≤ up U y := Nat.mul_le_mul_right _ (Nat.div_le_div_right (by omega))
theorem dn_dvd (U x : Nat) : U ∣ dn U x := Nat.dvd_mul_left _ _
theorem up_dvd (U x : Nat) : U ∣ up U x := Nat.dvd_mul_left _ _
theorem dn_of_dvd {U x : Nat} (h : U ∣ x) : dn U x = x := Nat.div_mul_cancel h
theorem up_of_dvd {U x : Nat} (h1 : 1 ≤ U) (h : U ∣ x) : up U x = x := by
  obtain ⟨k, rfl⟩ := h
  unfold up
  have : (U * k + U - 1) / U = k := by
    rw [show U * k + U - 1 = (U - 1) + U * k from by omega, Nat.add_mul_div_left _ _ (by omega), Nat.div_eq_of_lt (by omega)]
    omega
  rw [this, Nat.mul_comm]
theorem up_le_of_dvd {U x m : Nat} (h1 : 1 ≤ U) (h : U ∣ m) (hx : x ≤ m) : up U x ≤ m := by
  have := up_mono (U := U) hx
  rwa [up_of_dvd h1 h] at this
theorem dvd_whole {e : Nat} (he : e ≤ 32) : 2 ^ e ∣ 4294967296 := by
  rw [show 4294967296 = 2 ^ 32 from rfl]; exact Nat.pow_dvd_pow 2 he

theorem ok_last {b t : Nat} (ht : t ≤ 4294967296) : okE b t 21 := by
  have := up_le_of_dvd (U := 2 ^ 21) (by decide) (dvd_whole (by decide)) ht
  have e : (2 : Nat) ^ 21 = 2097152 := by decide
  unfold okE
  rw [e] at this ⊢
  omega
theorem expoF_spec (b t : Nat) (ht : t ≤ 4294967296) : ∀ f e, f + e = 21 → (∀ k, k < e → ¬ okE b t k) → okE b t (expoF b t f e) ∧ expoF b t f e ≤ 21 ∧ ∀ k, k < expoF b t f e → ¬ okE b t k
  | 0, e, h, hk => by
    have : e = 21 := by omega
    subst this
    exact ⟨ok_last ht, Nat.le_refl _, hk⟩
  | f + 1, e, h, hk => by
    unfold expoF
    split
    · rename_i ho
      exact ⟨ho, by omega, hk⟩
    · rename_i ho
      refine expoF_spec b t ht f (e + 1) (by omega) fun k hlt => ?_
      rcases Nat.lt_or_ge k e with h' | h'
      · exact hk k h'
      · have : k = e := by omega
        subst this; exact ho
theorem expo_ok (b : Nat) {t : Nat} (ht : t ≤ 4294967296) : okE b t (expo b t) := (expoF_spec b t ht 21 0 rfl (fun _ h => absurd h (by omega))).1
theorem expo_le (b : Nat) {t : Nat} (ht : t ≤ 4294967296) : expo b t ≤ 21 := (expoF_spec b t ht 21 0 rfl (fun _ h => absurd h (by omega))).2.1
theorem expo_least (b : Nat) {t : Nat} (ht : t ≤ 4294967296) : ∀ k, k < expo b t → ¬ okE b t k := (expoF_spec b t ht 21 0 rfl (fun _ h => absurd h (by omega))).2.2
theorem expo_is {b t e : Nat} (ht : t ≤ 4294967296) (h : okE b t e) (hk : ∀ k, k < e → ¬ okE b t k) : expo b t = e := by
  rcases Nat.lt_trichotomy (expo b t) e with h' | h' | h'
  · exact absurd (expo_ok b ht) (hk _ h')
  · exact h'
  · exact absurd h (expo_least b ht _ h')

/-- The turn of a mantissa; what a mantissa tells at a cursor. -/
def trn (x g : Int) : Int := if x < g then 1 else 0
def plc (U b c x : Int) : Int := (c / (U * 4096) + trn x ((b + 3072) % 4096) - trn (c / U % 4096) ((b + 3072) % 4096)) * (U * 4096) + x * U
def isB (e b t c : Nat) : Bool := decide (e ≤ 21 ∧ b < 4096 ∧ t < 4096 ∧ 0 ≤ plc (2 ^ e : Nat) b c b ∧ plc (2 ^ e : Nat) b c b ≤ plc (2 ^ e : Nat) b c t ∧ plc (2 ^ e : Nat) b c t ≤ 4294967296)
def teB (e b t c : Nat) : Int := if isB e b t c then plc (2 ^ e : Nat) b c b else 0
def teT (e b t c : Nat) : Int := if isB e b t c then plc (2 ^ e : Nat) b c t else 0
def deB (e b t c : Nat) : Int := if teB e b t c = 4294967296 then 0 else teB e b t c
def deT (e b t c : Nat) : Int := if teB e b t c = 4294967296 then 0 else teT e b t c
def kp (e b t c n : Nat) : Bool := isB e b t c && decide (plc (2 ^ e : Nat) b c b = plc (2 ^ e : Nat) b n b ∧ plc (2 ^ e : Nat) b c t = plc (2 ^ e : Nat) b n t)

/-- What is asked for may be; the parts that are made. -/
def may (b t : Nat) : Bool := decide (b ≤ t ∧ t ≤ 4294967296)
def rdB (b t : Nat) : Nat := if may b t then dn (2 ^ expo b t) b else 0
def rdT (b t : Nat) : Nat := if may b t then up (2 ^ expo b t) t else 0
def enE (b t : Nat) : Nat := if may b t then expo b t else 0
def enB (b t : Nat) : Nat := rdB b t / 2 ^ enE b t % 4096
def enT (b t : Nat) : Nat := rdT b t / 2 ^ enE b t % 4096
def enX (b t : Nat) : Bool := may b t && decide (rdB b t = b ∧ rdT b t = t)
def pdP (s : Nat) : Nat := if rdT 0 s = 4294967296 then 0 else rdT 0 s
def pdA (s : Nat) : Nat := if rdT 0 s = 4294967296 then 0 else 2 ^ enE 0 s

theorem te_bounds (e b t c : Nat) : 0 ≤ teB e b t c ∧ teB e b t c ≤ teT e b t c ∧ teT e b t c ≤ 4294967296 := by
  unfold teB teT
  cases h : isB e b t c
  · simp
  · have := of_decide_eq_true h
    simp only [if_true]
    exact ⟨this.2.2.2.1, this.2.2.2.2.1, this.2.2.2.2.2⟩

/-- The cursor's place decides the turn: within the window the same number is told. -/
theorem turn_div (x g : Int) (hg : 0 ≤ g) (hg2 : g < 4096) : x / 4096 - trn (x % 4096) g = (x - g) / 4096 := by
  unfold trn
  split <;> omega
theorem told (U : Nat) (hU : 1 ≤ U) (q x c : Int) (h1 : q - 1024 ≤ x) (h2 : x < q + 3072) (h3 : q - 1024 ≤ c / (U : Int)) (h4 : c / (U : Int) < q + 3072) :
    plc U (q % 4096) c (x % 4096) = x * U := by
  have hd : c / ((U : Int) * 4096) = c / (U : Int) / 4096 := (Int.ediv_ediv_of_nonneg (by omega)).symm
  unfold plc
  rw [hd]
  generalize c / (U : Int) = r at *
  have hg0 : 0 ≤ (q % 4096 + 3072) % 4096 := by omega
  have hg1 : (q % 4096 + 3072) % 4096 < 4096 := by omega
  have a := turn_div r _ hg0 hg1
  have b := turn_div x _ hg0 hg1
  have e : (r - (q % 4096 + 3072) % 4096) / 4096 = (x - (q % 4096 + 3072) % 4096) / 4096 := by omega
  have k : r / 4096 + trn (x % 4096) ((q % 4096 + 3072) % 4096) - trn (r % 4096) ((q % 4096 + 3072) % 4096) = x / 4096 := by omega
  rw [k, show x / 4096 * ((U : Int) * 4096) = (x / 4096 * 4096) * U from by rw [Int.mul_comm (U : Int) 4096, ← Int.mul_assoc], ← Int.add_mul]
  congr 1
  omega
end Go.Proofs.YticfpnhfhhagpaaDoor
namespace Go.Proofs.YticfpnhfhhagpaaDoor
open Go.RowKit
set_option linter.unusedVariables false

theorem may_of {b t : Nat} (hb : b ≤ t) (ht : t ≤ 4294967296) : may b t = true := decide_eq_true ⟨hb, ht⟩
theorem enE_of {b t : Nat} (hb : b ≤ t) (ht : t ≤ 4294967296) : enE b t = expo b t := by simp [enE, may_of hb ht]
theorem rdB_of {b t : Nat} (hb : b ≤ t) (ht : t ≤ 4294967296) : rdB b t = dn (2 ^ expo b t) b := by simp [rdB, may_of hb ht]
theorem rdT_of {b t : Nat} (hb : b ≤ t) (ht : t ≤ 4294967296) : rdT b t = up (2 ^ expo b t) t := by simp [rdT, may_of hb ht]
theorem enX_of {b t : Nat} (hb : b ≤ t) (ht : t ≤ 4294967296) : enX b t = decide (rdB b t = b ∧ rdT b t = t) := by simp [enX, may_of hb ht]
theorem enB_of {b t : Nat} (hb : b ≤ t) (ht : t ≤ 4294967296) : enB b t = b / 2 ^ expo b t % 4096 := by
  unfold enB
  rw [rdB_of hb ht, enE_of hb ht]
  unfold dn
  rw [Nat.mul_div_cancel _ (pow_pos2 _)]
theorem enT_of {b t : Nat} (hb : b ≤ t) (ht : t ≤ 4294967296) : enT b t = (t + 2 ^ expo b t - 1) / 2 ^ expo b t % 4096 := by
  unfold enT
  rw [rdT_of hb ht, enE_of hb ht]
  unfold up
  rw [Nat.mul_div_cancel _ (pow_pos2 _)]

/-- The base's and the top's numbers of units are at most 2048 apart. -/
theorem apart {b t : Nat} (hb : b ≤ t) (ht : t ≤ 4294967296) : b / 2 ^ expo b t ≤ (t + 2 ^ expo b t - 1) / 2 ^ expo b t ∧ (t + 2 ^ expo b t - 1) / 2 ^ expo b t ≤ b / 2 ^ expo b t + 2048 := by
  have h := expo_ok b ht
  unfold okE up dn at h
  have h1 := pow_pos2 (expo b t)
  generalize 2 ^ expo b t = U at *
  constructor
  · exact Nat.div_le_div_right (by omega)
  · generalize (t + U - 1) / U = p at *
    generalize b / U = q at *
    have : p * U ≤ (q + 2048) * U := by rw [Nat.add_mul]; omega
    exact Nat.le_of_mul_le_mul_right this (by omega)

theorem window {b t c : Nat} (hb : b ≤ t) (ht : t ≤ 4294967296) (h1 : b / 2 ^ expo b t ≤ c / 2 ^ expo b t + 1024) (h2 : c / 2 ^ expo b t < b / 2 ^ expo b t + 3072) :
    plc (2 ^ expo b t : Nat) (enB b t) c (enB b t) = (dn (2 ^ expo b t) b : Nat) ∧ plc (2 ^ expo b t : Nat) (enB b t) c (enT b t) = (up (2 ^ expo b t) t : Nat) := by
  obtain ⟨a1, a2⟩ := apart hb ht
  have hu := pow_pos2 (expo b t)
  rw [enB_of hb ht, enT_of hb ht]
  unfold dn up
  generalize 2 ^ expo b t = U at *
  have hc : ((c / U : Nat) : Int) = (c : Int) / (U : Int) := Int.natCast_ediv _ _
  generalize hp : (t + U - 1) / U = p at *
  generalize hq : b / U = q at *
  have e1 := told U hu (q : Int) (q : Int) c (by omega) (by omega) (by omega) (by omega)
  have e2 := told U hu (q : Int) (p : Int) c (by omega) (by omega) (by omega) (by omega)
  constructor
  · rw [Int.natCast_mul]
    have : ((q % 4096 : Nat) : Int) = (q : Int) % 4096 := by omega
    rw [this]; exact e1
  · rw [Int.natCast_mul]
    have h3 : ((q % 4096 : Nat) : Int) = (q : Int) % 4096 := by omega
    have h4 : ((p % 4096 : Nat) : Int) = (p : Int) % 4096 := by omega
    rw [h3, h4]; exact e2

theorem window_is {b t c : Nat} (hb : b ≤ t) (ht : t ≤ 4294967296) (h1 : b / 2 ^ expo b t ≤ c / 2 ^ expo b t + 1024) (h2 : c / 2 ^ expo b t < b / 2 ^ expo b t + 3072) :
    isB (enE b t) (enB b t) (enT b t) c = true := by
  have w := window hb ht h1 h2
  have m1 : enB b t < 4096 := Nat.mod_lt _ (by decide)
  have m2 : enT b t < 4096 := Nat.mod_lt _ (by decide)
  have u := up_le_of_dvd (pow_pos2 (expo b t)) (dvd_whole (Nat.le_trans (expo_le b ht) (by decide))) ht
  have d := dn_le (2 ^ expo b t) b
  have g := up_ge t (pow_pos2 (expo b t))
  unfold isB
  rw [enE_of hb ht, w.1, w.2]
  refine decide_eq_true ⟨expo_le b ht, m1, m2, ?_, ?_, ?_⟩
  · omega
  · omega
  · omega

theorem tells {b t c : Nat} (hb : b ≤ t) (ht : t ≤ 4294967296) (hb2 : b < 4294967296) (h1 : b / 2 ^ expo b t ≤ c / 2 ^ expo b t + 1024) (h2 : c / 2 ^ expo b t < b / 2 ^ expo b t + 3072) :
    deB (enE b t) (enB b t) (enT b t) c = (dn (2 ^ expo b t) b : Nat) ∧ deT (enE b t) (enB b t) (enT b t) c = (up (2 ^ expo b t) t : Nat) := by
  have w := window hb ht h1 h2
  have i := window_is hb ht h1 h2
  have d := dn_le (2 ^ expo b t) b
  have e : teB (enE b t) (enB b t) (enT b t) c = (dn (2 ^ expo b t) b : Nat) := by unfold teB; rw [i, if_pos rfl, enE_of hb ht]; exact w.1
  have f : teT (enE b t) (enB b t) (enT b t) c = (up (2 ^ expo b t) t : Nat) := by unfold teT; rw [i, if_pos rfl, enE_of hb ht]; exact w.2
  unfold deB deT
  rw [e, f, if_neg (by omega), if_neg (by omega)]
  exact ⟨rfl, rfl⟩

theorem within {b t c : Nat} (hb : b ≤ t) (ht : t ≤ 4294967296) (h1 : b ≤ c) (h2 : c ≤ t) : b / 2 ^ expo b t ≤ c / 2 ^ expo b t + 1024 ∧ c / 2 ^ expo b t < b / 2 ^ expo b t + 3072 := by
  obtain ⟨a1, a2⟩ := apart hb ht
  have hu := pow_pos2 (expo b t)
  generalize 2 ^ expo b t = U at *
  have := Nat.div_le_div_right (c := U) h1
  have := Nat.div_le_div_right (c := U) (show c ≤ t + U - 1 by omega)
  omega

theorem wanders {b t c : Nat} (hb : b ≤ t) (ht : t ≤ 4294967296) (h1 : dn (2 ^ expo b t) b ≤ c + 1024 * 2 ^ expo b t) (h2 : c < dn (2 ^ expo b t) b + 3072 * 2 ^ expo b t) : b / 2 ^ expo b t ≤ c / 2 ^ expo b t + 1024 ∧ c / 2 ^ expo b t < b / 2 ^ expo b t + 3072 := by
  have hu := pow_pos2 (expo b t)
  unfold dn at *
  generalize 2 ^ expo b t = U at *
  generalize b / U = q at *
  constructor
  · have a : (q - 1024) * U ≤ c := by rw [Nat.sub_mul]; omega
    have := (Nat.le_div_iff_mul_le (by omega)).2 a
    omega
  · rw [Nat.div_lt_iff_lt_mul (by omega), Nat.add_mul]
    exact h2

theorem keeps {b t c n : Nat} (hb : b ≤ t) (ht : t ≤ 4294967296) (h1 : b / 2 ^ expo b t ≤ c / 2 ^ expo b t + 1024) (h2 : c / 2 ^ expo b t < b / 2 ^ expo b t + 3072)
    (k1 : b / 2 ^ expo b t ≤ n / 2 ^ expo b t + 1024) (k2 : n / 2 ^ expo b t < b / 2 ^ expo b t + 3072) : kp (enE b t) (enB b t) (enT b t) c n = true := by
  have w := window hb ht h1 h2
  have v := window hb ht k1 k2
  unfold kp
  rw [window_is hb ht h1 h2, enE_of hb ht, w.1, w.2, v.1, v.2]
  simp

/-- Few bytes are exact. -/
theorem expo_few {b t : Nat} (ht : t ≤ 4294967296) (h : t ≤ b + 2048) : expo b t = 0 := by
  refine expo_is ht ?_ (fun k hk => absurd hk (by omega))
  unfold okE up dn
  simp
  omega

/-- Padded bytes from a multiple on are exact. -/
theorem pad_least {s : Nat} (hs : s ≤ 4294967296) {b p : Nat} (hp : p = up (2 ^ expo 0 s) s) (hb : 2 ^ expo 0 s ∣ b) (hbp : b + p ≤ 4294967296) : expo b (b + p) = expo 0 s := by
  have hd : 2 ^ expo 0 s ∣ p := by rw [hp]; exact up_dvd _ _
  have ok := expo_ok 0 hs
  refine expo_is hbp ?_ (fun k hk h => expo_least 0 hs k hk ?_)
  · unfold okE at *
    rw [up_of_dvd (pow_pos2 _) (Nat.dvd_add hb hd), dn_of_dvd hb]
    have : dn (2 ^ expo 0 s) 0 = 0 := by simp [dn]
    omega
  · have dk : 2 ^ k ∣ 2 ^ expo 0 s := Nat.pow_dvd_pow 2 (Nat.le_of_lt hk)
    unfold okE at *
    rw [up_of_dvd (pow_pos2 _) (Nat.dvd_trans dk (Nat.dvd_add hb hd)), dn_of_dvd (Nat.dvd_trans dk hb)] at h
    have h0 : dn (2 ^ k) 0 = 0 := by simp [dn]
    have h1 : up (2 ^ k) s ≤ p := by
      refine up_le_of_dvd (pow_pos2 _) (Nat.dvd_trans dk hd) ?_
      rw [hp]; exact up_ge s (pow_pos2 _)
    omega
end Go.Proofs.YticfpnhfhhagpaaDoor
namespace Go.Proofs.YticfpnhfhhagpaaDoor
open Go.RowKit
set_option linter.unusedVariables false

/-- A class's slot; the least class; is there one? -/
def sltN (c : Nat) : Nat := if c < 5 then 16 * 2 ^ c else 0
def clsN (s : Nat) : Nat := if s ≤ 16 then 0 else if s ≤ 32 then 1 else if s ≤ 64 then 2 else if s ≤ 128 then 3 else if s ≤ 256 then 4 else 0
def clsB (s : Nat) : Bool := decide (0 < s ∧ s ≤ 256)
/-- What a size is padded to, and of what it is a multiple, whatever the heap is; 0, if it can't be padded. -/
def szP (s : Nat) : Nat := if clsB s then sltN (clsN s) else if 4294967296 ≤ up 256 s then 0 else pdP (up 256 s)
def szA (s : Nat) : Nat := if clsB s then sltN (clsN s) else max (pdA (up 256 s)) 256
def szO (s h : Nat) : Bool := decide (szP s ≠ 0 ∧ szP s ≤ h)
/-- What Padded answers. -/
def padP (s h : Nat) : Nat := if szO s h then szP s else 0
def padA (s h : Nat) : Nat := if szO s h then szA s else 0
def padE (s h : Nat) : Int := if szO s h then 0 else 6

theorem slt_cls {s : Nat} (h : clsB s = true) : sltN (clsN s) = if s ≤ 16 then 16 else if s ≤ 32 then 32 else if s ≤ 64 then 64 else if s ≤ 128 then 128 else 256 := by
  have := of_decide_eq_true h
  unfold clsN
  split
  · rfl
  · split
    · rfl
    · split
      · rfl
      · split
        · rfl
        · rw [if_pos this.2]; rfl
theorem cls_ge {s : Nat} (h : clsB s = true) : s ≤ sltN (clsN s) ∧ sltN (clsN s) ≤ 256 ∧ 16 ≤ sltN (clsN s) ∧ clsN s < 5 := by
  have := of_decide_eq_true h
  rw [slt_cls h]
  refine ⟨?_, ?_, ?_, ?_⟩
  · repeat' split
    all_goals omega
  · repeat' split
    all_goals omega
  · repeat' split
    all_goals omega
  · unfold clsN
    repeat' split
    all_goals omega
theorem cls_16 {s : Nat} (h : clsB s = true) : sltN (clsN s) % 16 = 0 := by
  rw [slt_cls h]
  repeat' split
  all_goals rfl
theorem cls_self {s : Nat} (h : clsB s = true) : clsB (sltN (clsN s)) = true ∧ sltN (clsN (sltN (clsN s))) = sltN (clsN s) := by
  have e := cls_ge h
  have h2 : clsB (sltN (clsN s)) = true := decide_eq_true ⟨by omega, e.2.1⟩
  refine ⟨h2, ?_⟩
  rw [slt_cls h2, slt_cls h]
  repeat' split
  all_goals omega
theorem cls_mono {a b : Nat} (ha : clsB a = true) (hb : clsB b = true) (h : a ≤ b) : sltN (clsN a) ≤ sltN (clsN b) := by
  rw [slt_cls ha, slt_cls hb]
  repeat' split
  all_goals omega
theorem cls_below {s : Nat} (h : clsB s = true) (hc : clsN s ≠ 0) : sltN (clsN s - 1) < s := by
  have := of_decide_eq_true h
  revert hc
  unfold clsN
  repeat' split
  all_goals first | (intro k; exact absurd rfl k) | (intro _; simp [sltN]; omega)

theorem up256 (s : Nat) : up 256 s = (s + 255) / 256 * 256 := by unfold up; rw [show s + 256 - 1 = s + 255 from by omega]
/-- What is no class's. -/
theorem big_of {s : Nat} (h : clsB s = false) (h0 : s ≠ 0) : 256 < s ∧ 512 ≤ up 256 s := by
  have := of_decide_eq_false h
  rw [up256]
  omega
theorem expo_mono {n m : Nat} (h : n ≤ m) (hm : m ≤ 4294967296) : expo 0 n ≤ expo 0 m := by
  rcases Nat.lt_or_ge (expo 0 m) (expo 0 n) with h' | h'
  · refine absurd ?_ (expo_least 0 (Nat.le_trans h hm) _ h')
    have ok := expo_ok 0 hm
    have := up_mono (U := 2 ^ expo 0 m) h
    unfold okE at *
    omega
  · exact h'
theorem rdT_mono {n m : Nat} (h : n ≤ m) (hm : m ≤ 4294967296) : rdT 0 n ≤ rdT 0 m := by
  rw [rdT_of (Nat.zero_le _) (Nat.le_trans h hm), rdT_of (Nat.zero_le _) hm]
  have d : 2 ^ expo 0 n ∣ 2 ^ expo 0 m := Nat.pow_dvd_pow 2 (expo_mono h hm)
  exact up_le_of_dvd (pow_pos2 _) (Nat.dvd_trans d (up_dvd _ _)) (Nat.le_trans h (up_ge m (pow_pos2 _)))
theorem rdT_ge {n : Nat} (h : n ≤ 4294967296) : n ≤ rdT 0 n := by
  rw [rdT_of (Nat.zero_le _) h]; exact up_ge n (pow_pos2 _)
theorem rdT_le {n : Nat} (h : n ≤ 4294967296) : rdT 0 n ≤ 4294967296 := by
  rw [rdT_of (Nat.zero_le _) h]
  exact up_le_of_dvd (pow_pos2 _) (dvd_whole (Nat.le_trans (expo_le 0 h) (by decide))) h
theorem pd_dvd {n : Nat} (h : n ≤ 4294967296) (hp : pdP n ≠ 0) : pdP n = rdT 0 n ∧ pdA n = 2 ^ expo 0 n ∧ 2 ^ expo 0 n ∣ pdP n ∧ n ≤ pdP n ∧ pdP n < 4294967296 := by
  have e : rdT 0 n ≠ 4294967296 := fun k => hp (by unfold pdP; rw [if_pos k])
  have e1 : pdP n = rdT 0 n := by unfold pdP; rw [if_neg e]
  have e2 : pdA n = 2 ^ expo 0 n := by unfold pdA; rw [if_neg e, enE_of (Nat.zero_le _) h]
  refine ⟨e1, e2, ?_, ?_, ?_⟩
  · rw [e1, rdT_of (Nat.zero_le _) h]; exact up_dvd _ _
  · rw [e1]; exact rdT_ge h
  · have := rdT_le h; omega
theorem pow_or (e : Nat) : 2 ^ e ∣ 256 ∨ 256 ∣ 2 ^ e := by
  rcases Nat.le_total e 8 with h | h
  · exact .inl (show 2 ^ e ∣ 2 ^ 8 from Nat.pow_dvd_pow 2 h)
  · exact .inr (show 2 ^ 8 ∣ 2 ^ e from Nat.pow_dvd_pow 2 h)
theorem max_dvd {e x : Nat} (h1 : 2 ^ e ∣ x) (h2 : 256 ∣ x) : max (2 ^ e) 256 ∣ x := by
  rcases Nat.le_total (2 ^ e) 256 with h | h
  · rwa [Nat.max_eq_right h]
  · rwa [Nat.max_eq_left h]
theorem dvd_max (e : Nat) : 2 ^ e ∣ max (2 ^ e) 256 ∧ 256 ∣ max (2 ^ e) 256 := by
  rcases Nat.le_total (2 ^ e) 256 with h | h
  · rw [Nat.max_eq_right h]
    refine ⟨?_, Nat.dvd_refl _⟩
    rcases pow_or e with k | k
    · exact k
    · have := Nat.le_of_dvd (pow_pos2 e) k
      rw [show 2 ^ e = 256 from by omega]
      exact Nat.dvd_refl _
  · rw [Nat.max_eq_left h]
    refine ⟨Nat.dvd_refl _, ?_⟩
    rcases pow_or e with k | k
    · have := Nat.le_of_dvd (by decide) k
      rw [show 2 ^ e = 256 from by omega]
      exact Nat.dvd_refl _
    · exact k
/-- 256 divides what pages are padded to. -/
theorem pd_256 {n : Nat} (h : n ≤ 4294967296) (hd : 256 ∣ n) (hp : pdP n ≠ 0) : 256 ∣ pdP n := by
  obtain ⟨e1, e2, e3, e4, e5⟩ := pd_dvd h hp
  rcases pow_or (expo 0 n) with k | k
  · rw [e1, rdT_of (Nat.zero_le _) h, up_of_dvd (pow_pos2 _) (Nat.dvd_trans k hd)]
    exact hd
  · exact Nat.dvd_trans k e3
/-- What pages are padded to is padded to itself. -/
theorem pd_self {n : Nat} (h : n ≤ 4294967296) (hp : pdP n ≠ 0) : pdP (pdP n) = pdP n ∧ pdA (pdP n) = pdA n := by
  obtain ⟨e1, e2, e3, e4, e5⟩ := pd_dvd h hp
  have hx : expo 0 (pdP n) = expo 0 n := by
    have := pad_least h (p := pdP n) (by rw [e1, rdT_of (Nat.zero_le _) h]) (Nat.dvd_zero (2 ^ expo 0 n)) (by omega)
    rwa [Nat.zero_add] at this
  have hr : rdT 0 (pdP n) = pdP n := by rw [rdT_of (Nat.zero_le _) (by omega), hx, up_of_dvd (pow_pos2 _) e3]
  constructor
  · show (if rdT 0 (pdP n) = 4294967296 then 0 else rdT 0 (pdP n)) = pdP n
    rw [hr, if_neg (by omega)]
  · rw [e2]
    unfold pdA
    rw [hr, if_neg (by omega), enE_of (Nat.zero_le _) (by omega), hx]

theorem up_dvd256 (s : Nat) : 256 ∣ up 256 s := up_dvd _ _
/-- What can be padded: all that is asked of it. -/
theorem sz_facts {s : Nat} (h : szP s ≠ 0) : s ≤ szP s ∧ 16 ≤ szA s ∧ szA s ∣ szP s ∧ szP s % 16 = 0 ∧ szP s < 4294967296 ∧ szA s ≤ 4294967295 := by
  unfold szP at h
  unfold szP szA
  cases hc : clsB s
  · rw [hc] at h
    simp only [Bool.false_eq_true, if_false] at h ⊢
    by_cases hb : 4294967296 ≤ up 256 s
    · rw [if_pos hb] at h; exact absurd rfl h
    · rw [if_neg hb] at h ⊢
      have hn : up 256 s ≤ 4294967296 := by omega
      obtain ⟨e1, e2, e3, e4, e5⟩ := pd_dvd hn h
      have h256 := pd_256 hn (up_dvd256 s) h
      have hu := up_ge (U := 256) s (by decide)
      have hE := expo_le 0 hn
      have hE2 := Nat.pow_le_pow_right (n := 2) (by decide) hE
      have hm := max_dvd e3 h256
      rw [e2]
      refine ⟨by omega, by omega, hm, ?_, e5, ?_⟩
      · obtain ⟨k, hk⟩ := h256; omega
      · have : (2 : Nat) ^ 21 = 2097152 := by decide
        omega
  · simp only [if_true]
    have k := cls_ge hc
    exact ⟨k.1, k.2.2.1, Nat.dvd_refl _, cls_16 hc, by omega, by omega⟩
theorem sz_self {s : Nat} (h : szP s ≠ 0) : szP (szP s) = szP s ∧ szA (szP s) = szA s := by
  have h' := h
  unfold szP at h
  cases hc : clsB s
  · rw [hc] at h
    simp only [Bool.false_eq_true, if_false] at h
    by_cases hb : 4294967296 ≤ up 256 s
    · rw [if_pos hb] at h; exact absurd rfl h
    · rw [if_neg hb] at h
      have hn : up 256 s ≤ 4294967296 := by omega
      have e : szP s = pdP (up 256 s) := by unfold szP; rw [hc]; simp only [Bool.false_eq_true, if_false]; rw [if_neg hb]
      have ea : szA s = max (pdA (up 256 s)) 256 := by unfold szA; rw [hc]; rfl
      obtain ⟨e1, e2, e3, e4, e5⟩ := pd_dvd hn h
      have h256 := pd_256 hn (up_dvd256 s) h
      have hs0 : s ≠ 0 := fun k => by subst k; exact h (by unfold pdP; rw [show up 256 0 = 0 from rfl]; have := rdT_of (b := 0) (t := 0) (Nat.zero_le _) (by decide); rw [this]; unfold up; rw [show (0 + 2 ^ expo 0 0 - 1) / 2 ^ expo 0 0 = 0 from Nat.div_eq_of_lt (by have := pow_pos2 (expo 0 0); omega)]; simp)
      have hb2 := big_of hc hs0
      have hc2 : clsB (pdP (up 256 s)) = false := decide_eq_false (by omega)
      have hu : up 256 (pdP (up 256 s)) = pdP (up 256 s) := up_of_dvd (by decide) h256
      obtain ⟨k1, k2⟩ := pd_self hn h
      rw [e, ea]
      constructor
      · unfold szP; rw [hc2]; simp only [Bool.false_eq_true, if_false]; rw [hu, if_neg (by omega), k1]
      · unfold szA; rw [hc2]; simp only [Bool.false_eq_true, if_false]; rw [hu, k2]
  · have e : szP s = sltN (clsN s) := by unfold szP; rw [hc]; rfl
    have ea : szA s = sltN (clsN s) := by unfold szA; rw [hc]; rfl
    obtain ⟨k1, k2⟩ := cls_self hc
    rw [e, ea]
    constructor
    · unfold szP; rw [k1]; simp only [if_true]; exact k2
    · unfold szA; rw [k1]; simp only [if_true]; exact k2
theorem sz_exact {s b : Nat} (h : szP s ≠ 0) (hd : szA s ∣ b) (hb : b + szP s ≤ 4294967296) : may b (b + szP s) = true ∧ enX b (b + szP s) = true := by
  have a1 : b ≤ b + szP s := Nat.le_add_right _ _
  refine ⟨may_of a1 hb, ?_⟩
  rw [enX_of a1 hb, rdB_of a1 hb, rdT_of a1 hb]
  unfold szP at h
  cases hc : clsB s
  · rw [hc] at h
    simp only [Bool.false_eq_true, if_false] at h
    by_cases hb' : 4294967296 ≤ up 256 s
    · rw [if_pos hb'] at h; exact absurd rfl h
    · rw [if_neg hb'] at h
      have hn : up 256 s ≤ 4294967296 := by omega
      have e : szP s = pdP (up 256 s) := by unfold szP; rw [hc]; simp only [Bool.false_eq_true, if_false]; rw [if_neg hb']
      have ea : szA s = max (pdA (up 256 s)) 256 := by unfold szA; rw [hc]; rfl
      obtain ⟨e1, e2, e3, e4, e5⟩ := pd_dvd hn h
      rw [ea, e2] at hd
      have hd2 := Nat.dvd_trans (dvd_max _).1 hd
      rw [e] at hb ⊢
      have hx := pad_least hn (p := pdP (up 256 s)) (by rw [e1, rdT_of (Nat.zero_le _) hn]) hd2 hb
      rw [hx]
      exact decide_eq_true ⟨dn_of_dvd hd2, up_of_dvd (pow_pos2 _) (Nat.dvd_add hd2 e3)⟩
  · have e : szP s = sltN (clsN s) := by unfold szP; rw [hc]; rfl
    have k := cls_ge hc
    rw [e] at hb ⊢
    rw [expo_few hb (by omega)]
    exact decide_eq_true ⟨by simp [dn], by simp [up]⟩
theorem sz_zero : szP 0 = 0 := by
  unfold szP
  rw [show clsB 0 = false from rfl]
  simp only [Bool.false_eq_true, if_false]
  rw [show up 256 0 = 0 from rfl, if_neg (by decide)]
  unfold pdP
  rw [rdT_of (Nat.zero_le _) (by decide)]
  unfold up
  rw [show (0 + 2 ^ expo 0 0 - 1) / 2 ^ expo 0 0 = 0 from Nat.div_eq_of_lt (by have := pow_pos2 (expo 0 0); omega)]
  simp
theorem sz_mono {a b : Nat} (h0 : 0 < a) (h : a ≤ b) (hb : szP b ≠ 0) : szP a ≠ 0 ∧ szP a ≤ szP b := by
  have fb := sz_facts hb
  cases ca : clsB a
  · cases cb : clsB b
    · have eb : szP b = pdP (up 256 b) := by
        unfold szP at hb ⊢
        rw [cb] at hb ⊢
        simp only [Bool.false_eq_true, if_false] at hb ⊢
        by_cases k : 4294967296 ≤ up 256 b
        · rw [if_pos k] at hb; exact absurd rfl hb
        · rw [if_neg k]
      have kb : ¬ 4294967296 ≤ up 256 b := fun k => hb (by unfold szP; rw [cb]; simp only [Bool.false_eq_true, if_false]; rw [if_pos k])
      have hu := up_mono (U := 256) h
      have ea : szP a = pdP (up 256 a) := by unfold szP; rw [ca]; simp only [Bool.false_eq_true, if_false]; rw [if_neg (by omega)]
      rw [eb] at hb ⊢
      obtain ⟨e1, e2, e3, e4, e5⟩ := pd_dvd (by omega) hb
      have hm := rdT_mono hu (by omega)
      have g := rdT_ge (n := up 256 a) (by omega)
      have g2 := up_ge (U := 256) a (by decide)
      have ep : pdP (up 256 a) = rdT 0 (up 256 a) := by unfold pdP; rw [if_neg (by omega)]
      rw [ea, ep]
      omega
    · have := of_decide_eq_true cb
      have := of_decide_eq_false ca
      omega
  · have ea : szP a = sltN (clsN a) := by unfold szP; rw [ca]; rfl
    have ka := cls_ge ca
    refine ⟨by omega, ?_⟩
    cases cb : clsB b
    · have := of_decide_eq_false cb
      omega
    · have eb : szP b = sltN (clsN b) := by unfold szP; rw [cb]; rfl
      rw [ea, eb]
      exact cls_mono ca cb h
end Go.Proofs.YticfpnhfhhagpaaDoor
namespace Go.Proofs.YticfpnhfhhagpaaDoor
set_option maxRecDepth 100000
set_option linter.unusedVariables false

/-- A region: where it lies, how large it is. -/
abbrev Rg := Nat × Nat
/-- Have two a byte in common? -/
def ovl (r : Rg) (a n : Nat) : Bool := decide (r.1 < a + n) && decide (a < r.1 + r.2)
def hit (X : List Rg) (a n : Nat) : Bool := X.any fun r => ovl r a n
/-- Is the page free? -/
def fre (p0 p1 : Nat) (X : List Rg) (p : Nat) : Bool := decide (p0 ≤ p) && (decide (p < p1) && !hit X (p * 256) 256)
/-- Is the page of the class? -/
def ofC (X : List Rg) (c p : Nat) : Bool := X.any fun r => decide (r.2 = sltN c) && decide (r.1 / 256 = p)
def perN (c : Nat) : Nat := 256 / sltN c
/-- Is the slot of the class free? -/
def slF (X : List Rg) (c p s : Nat) : Bool := ofC X c p && (decide (s < perN c) && !hit X (p * 256 + s * sltN c) (sltN c))

theorem ovl_iff {r : Rg} {a n : Nat} : ovl r a n = true ↔ r.1 < a + n ∧ a < r.1 + r.2 := by simp [ovl]
theorem hit_iff {X : List Rg} {a n : Nat} : hit X a n = true ↔ ∃ r ∈ X, r.1 < a + n ∧ a < r.1 + r.2 := by
  unfold hit
  rw [List.any_eq_true]
  constructor
  · rintro ⟨r, h, k⟩; exact ⟨r, h, ovl_iff.1 k⟩
  · rintro ⟨r, h, k⟩; exact ⟨r, h, ovl_iff.2 k⟩
theorem hit_no {X : List Rg} {a n : Nat} : hit X a n = false ↔ ∀ r ∈ X, ¬ (r.1 < a + n ∧ a < r.1 + r.2) := by
  rw [← Bool.not_eq_true, hit_iff]
  constructor
  · intro h r hr k; exact h ⟨r, hr, k⟩
  · rintro h ⟨r, hr, k⟩; exact h r hr k
theorem ofC_iff {X : List Rg} {c p : Nat} : ofC X c p = true ↔ ∃ r ∈ X, r.2 = sltN c ∧ r.1 / 256 = p := by
  unfold ofC
  rw [List.any_eq_true]
  constructor
  · rintro ⟨r, h, k⟩; exact ⟨r, h, by simpa using k⟩
  · rintro ⟨r, h, k⟩; exact ⟨r, h, by simpa using k⟩
theorem fre_iff {p0 p1 : Nat} {X : List Rg} {p : Nat} : fre p0 p1 X p = true ↔ p0 ≤ p ∧ p < p1 ∧ hit X (p * 256) 256 = false := by simp [fre]
theorem slF_iff {X : List Rg} {c p s : Nat} : slF X c p s = true ↔ ofC X c p = true ∧ s < perN c ∧ hit X (p * 256 + s * sltN c) (sltN c) = false := by simp [slF]
/-- What is asked of a list is told by its members. -/
theorem hit_mem {X Y : List Rg} (h : ∀ r, r ∈ X ↔ r ∈ Y) (a n : Nat) : hit X a n = hit Y a n := by
  rw [Bool.eq_iff_iff, hit_iff, hit_iff]
  constructor
  · rintro ⟨r, k, l⟩; exact ⟨r, (h r).1 k, l⟩
  · rintro ⟨r, k, l⟩; exact ⟨r, (h r).2 k, l⟩
theorem ofC_mem {X Y : List Rg} (h : ∀ r, r ∈ X ↔ r ∈ Y) (c p : Nat) : ofC X c p = ofC Y c p := by
  rw [Bool.eq_iff_iff, ofC_iff, ofC_iff]
  constructor
  · rintro ⟨r, k, l⟩; exact ⟨r, (h r).1 k, l⟩
  · rintro ⟨r, k, l⟩; exact ⟨r, (h r).2 k, l⟩
theorem fre_mem {X Y : List Rg} (h : ∀ r, r ∈ X ↔ r ∈ Y) (p0 p1 : Nat) : fre p0 p1 X = fre p0 p1 Y := funext fun p => by unfold fre; rw [hit_mem h]
theorem ofC_memF {X Y : List Rg} (h : ∀ r, r ∈ X ↔ r ∈ Y) (c : Nat) : ofC X c = ofC Y c := funext fun p => ofC_mem h c p
theorem slF_mem {X Y : List Rg} (h : ∀ r, r ∈ X ↔ r ∈ Y) (c : Nat) : slF X c = slF Y c := funext fun p => funext fun s => by unfold slF; rw [hit_mem h, ofC_mem h]
theorem hit_cons (r : Rg) (X : List Rg) (a n : Nat) : hit (r :: X) a n = (ovl r a n || hit X a n) := rfl
theorem ofC_cons (r : Rg) (X : List Rg) (c p : Nat) : ofC (r :: X) c p = ((decide (r.2 = sltN c) && decide (r.1 / 256 = p)) || ofC X c p) := rfl

theorem slt_five {c : Nat} (h : c < 5) : (c = 0 ∧ sltN c = 16 ∧ perN c = 16) ∨ (c = 1 ∧ sltN c = 32 ∧ perN c = 8) ∨ (c = 2 ∧ sltN c = 64 ∧ perN c = 4) ∨ (c = 3 ∧ sltN c = 128 ∧ perN c = 2) ∨ (c = 4 ∧ sltN c = 256 ∧ perN c = 1) := by
  match c, h with
  | 0, _ => exact .inl ⟨rfl, rfl, rfl⟩
  | 1, _ => exact .inr (.inl ⟨rfl, rfl, rfl⟩)
  | 2, _ => exact .inr (.inr (.inl ⟨rfl, rfl, rfl⟩))
  | 3, _ => exact .inr (.inr (.inr (.inl ⟨rfl, rfl, rfl⟩)))
  | 4, _ => exact .inr (.inr (.inr (.inr ⟨rfl, rfl, rfl⟩)))
theorem slt_inj {c d : Nat} (hc : c < 5) (hd : d < 5) (h : sltN c = sltN d) : c = d := by
  rcases slt_five hc with ⟨a, b, _⟩ | ⟨a, b, _⟩ | ⟨a, b, _⟩ | ⟨a, b, _⟩ | ⟨a, b, _⟩ <;> rcases slt_five hd with ⟨a', b', _⟩ | ⟨a', b', _⟩ | ⟨a', b', _⟩ | ⟨a', b', _⟩ | ⟨a', b', _⟩ <;> omega
theorem per_le {c : Nat} (hc : c < 5) : 1 ≤ perN c ∧ perN c ≤ 16 ∧ 16 ≤ sltN c ∧ sltN c ≤ 256 ∧ perN c * sltN c = 256 := by
  rcases slt_five hc with ⟨a, b, d⟩ | ⟨a, b, d⟩ | ⟨a, b, d⟩ | ⟨a, b, d⟩ | ⟨a, b, d⟩ <;> rw [b, d] <;> omega

/-- A region of a class' slot. -/
def Small (r : Rg) (c : Nat) : Prop := c < 5 ∧ r.2 = sltN c ∧ r.1 % r.2 = 0
/-- One of whole pages. -/
def Large (r : Rg) : Prop := 512 ≤ r.2 ∧ r.2 % 256 = 0 ∧ r.1 % 256 = 0
/-- The regions of a heap. -/
structure Good (p0 p1 : Nat) (X : List Rg) : Prop where
  kind : ∀ r ∈ X, (∃ c, Small r c) ∨ Large r
  lo : ∀ r ∈ X, p0 * 256 ≤ r.1
  hi : ∀ r ∈ X, r.1 + r.2 ≤ p1 * 256
  apart : X.Pairwise fun r q => r.1 + r.2 ≤ q.1 ∨ q.1 + q.2 ≤ r.1
  same : ∀ r ∈ X, ∀ q ∈ X, r.1 / 256 = q.1 / 256 → r.2 ≤ 256 → r.2 = q.2
theorem Good.nil (p0 p1 : Nat) : Good p0 p1 [] := ⟨by simp, by simp, by simp, List.Pairwise.nil, by simp⟩
theorem Good.perm {p0 p1 : Nat} {X Y : List Rg} (h : Good p0 p1 X) (k : X.Perm Y) : Good p0 p1 Y :=
  ⟨fun r hr => h.kind r (k.mem_iff.2 hr), fun r hr => h.lo r (k.mem_iff.2 hr), fun r hr => h.hi r (k.mem_iff.2 hr), (k.pairwise_iff fun h => h.symm).1 h.apart, fun r hr q hq => h.same r (k.mem_iff.2 hr) q (k.mem_iff.2 hq)⟩
theorem Good.pos {p0 p1 : Nat} {X : List Rg} (h : Good p0 p1 X) {r : Rg} (hr : r ∈ X) : 16 ≤ r.2 := by
  rcases h.kind r hr with ⟨c, hc, e, _⟩ | ⟨k, _⟩
  · have := per_le hc; omega
  · omega
theorem Good.tail {p0 p1 : Nat} {X : List Rg} {r : Rg} (h : Good p0 p1 (r :: X)) : Good p0 p1 X :=
  ⟨fun q hq => h.kind q (.tail _ hq), fun q hq => h.lo q (.tail _ hq), fun q hq => h.hi q (.tail _ hq), (List.pairwise_cons.1 h.apart).2, fun q hq s hs => h.same q (.tail _ hq) s (.tail _ hs)⟩
/-- A slot lies in its page. -/
theorem small_at {r : Rg} {c : Nat} (h : Small r c) : ∃ s, s < perN c ∧ r.1 = r.1 / 256 * 256 + s * sltN c ∧ r.1 % 256 / r.2 = s := by
  obtain ⟨hc, h1, h2⟩ := h
  refine ⟨r.1 % 256 / r.2, ?_, ?_, rfl⟩ <;> rcases slt_five hc with ⟨a, b, d⟩ | ⟨a, b, d⟩ | ⟨a, b, d⟩ | ⟨a, b, d⟩ | ⟨a, b, d⟩ <;> rw [b] at h1 <;> rw [h1] at h2 ⊢ <;> (try rw [d]) <;> (try rw [b]) <;> omega
theorem small_div {c p s : Nat} (hc : c < 5) (hs : s < perN c) : (p * 256 + s * sltN c) / 256 = p ∧ (p * 256 + s * sltN c) % sltN c = 0 ∧ (p * 256 + s * sltN c) % 256 / sltN c = s ∧ p * 256 + s * sltN c + sltN c ≤ p * 256 + 256 := by
  rcases slt_five hc with ⟨a, b, d⟩ | ⟨a, b, d⟩ | ⟨a, b, d⟩ | ⟨a, b, d⟩ | ⟨a, b, d⟩ <;> rw [b] <;> rw [d] at hs <;> omega
/-- A region of a class has a byte of its page alone. -/
theorem small_page {r : Rg} {c : Nat} (h : Small r c) (q : Nat) : ovl r (q * 256) 256 = decide (r.1 / 256 = q) := by
  obtain ⟨s, h1, h2, _⟩ := small_at h
  obtain ⟨hc, h3, _⟩ := h
  have := small_div (p := r.1 / 256) hc h1
  have hp := per_le hc
  rw [Bool.eq_iff_iff, ovl_iff, decide_eq_true_eq, h3]
  generalize s * sltN c = m at *
  omega
theorem ofC_hit {X : List Rg} {c p : Nat} (hc : c < 5) (h : ofC X c p = true) : hit X (p * 256) 256 = true := by
  obtain ⟨r, hr, h1, h2⟩ := ofC_iff.1 h
  have := per_le hc
  exact hit_iff.2 ⟨r, hr, by omega, by omega⟩
theorem ofC_free {p0 p1 : Nat} {X : List Rg} {c p : Nat} (hc : c < 5) (h : fre p0 p1 X p = true) : ofC X c p = false := by
  cases e : ofC X c p
  · rfl
  · have := ofC_hit hc e
    rw [(fre_iff.1 h).2.2] at this
    cases this
theorem ofC_other {p0 p1 : Nat} {X : List Rg} (G : Good p0 p1 X) {c d p : Nat} (hc : c < 5) (hd : d < 5) (h : ofC X c p = true) (hn : d ≠ c) : ofC X d p = false := by
  cases e : ofC X d p
  · rfl
  · obtain ⟨r, hr, h1, h2⟩ := ofC_iff.1 h
    obtain ⟨q, hq, h3, h4⟩ := ofC_iff.1 e
    have := per_le hc
    have := G.same r hr q hq (by omega) (by omega)
    exact absurd (slt_inj hd hc (by omega)) hn
/-- Two slots of a page. -/
theorem slot_ovl {c p s t : Nat} (hc : c < 5) (hs : s < perN c) (ht : t < perN c) (q : Nat) : ovl (p * 256 + s * sltN c, sltN c) (q * 256 + t * sltN c) (sltN c) = (decide (q = p) && decide (t = s)) := by
  rw [Bool.eq_iff_iff, ovl_iff, Bool.and_eq_true, decide_eq_true_eq, decide_eq_true_eq]
  show p * 256 + s * sltN c < q * 256 + t * sltN c + sltN c ∧ q * 256 + t * sltN c < p * 256 + s * sltN c + sltN c ↔ _
  rcases slt_five hc with ⟨a, b, d⟩ | ⟨a, b, d⟩ | ⟨a, b, d⟩ | ⟨a, b, d⟩ | ⟨a, b, d⟩ <;> rw [b] <;> rw [d] at hs ht <;> omega

/-! ### What is taken -/
section
variable {p0 p1 : Nat} {X : List Rg} {c p s : Nat}
/-- Nobody has a byte of a free slot; so it may be had. -/
theorem Good.cons (G : Good p0 p1 X) {r : Rg} (hk : (∃ c, Small r c) ∨ Large r) (hl : p0 * 256 ≤ r.1) (hh : r.1 + r.2 ≤ p1 * 256) (hf : hit X r.1 r.2 = false) (hs : ∀ q ∈ X, q.1 / 256 = r.1 / 256 → q.2 ≤ 256 ∨ r.2 ≤ 256 → q.2 = r.2) : Good p0 p1 (r :: X) := by
  refine ⟨?_, ?_, ?_, ?_, ?_⟩
  · intro q hq
    rcases List.mem_cons.1 hq with rfl | hq
    · exact hk
    · exact G.kind q hq
  · intro q hq
    rcases List.mem_cons.1 hq with rfl | hq
    · exact hl
    · exact G.lo q hq
  · intro q hq
    rcases List.mem_cons.1 hq with rfl | hq
    · exact hh
    · exact G.hi q hq
  · refine List.pairwise_cons.2 ⟨fun q hq => ?_, G.apart⟩
    have := hit_no.1 hf q hq
    omega
  · intro q hq t ht e hsz
    rcases List.mem_cons.1 hq with hq1 | hq1
    · rcases List.mem_cons.1 ht with ht1 | ht1
      · rw [hq1, ht1]
      · rw [hq1] at e hsz ⊢
        exact (hs t ht1 e.symm (.inr hsz)).symm
    · rcases List.mem_cons.1 ht with ht1 | ht1
      · rw [ht1] at e ⊢
        exact hs q hq1 e (.inl hsz)
      · exact G.same q hq1 t ht1 e hsz
/-- The region of a slot. -/
def slot (c p s : Nat) : Rg := (p * 256 + s * sltN c, sltN c)
theorem slot_small (hc : c < 5) (hs : s < perN c) : Small (slot c p s) c := ⟨hc, rfl, (small_div hc hs).2.1⟩
theorem slot_page (hc : c < 5) (hs : s < perN c) (q : Nat) : ovl (slot c p s) (q * 256) 256 = decide (p = q) := by
  rw [small_page (slot_small hc hs), show (slot c p s).1 / 256 = p from (small_div hc hs).1]
/-- In a page that is of the class. -/
theorem take_good (G : Good p0 p1 X) (hc : c < 5) (h : slF X c p s = true) : Good p0 p1 (slot c p s :: X) := by
  obtain ⟨h1, h2, h3⟩ := slF_iff.1 h
  obtain ⟨r, hr, h4, h5⟩ := ofC_iff.1 h1
  have hd := small_div (p := p) hc h2
  have hp := per_le hc
  have := G.lo r hr
  have hh := G.hi r hr
  refine G.cons (.inl ⟨c, slot_small hc h2⟩) ?_ ?_ h3 ?_
  · show p0 * 256 ≤ p * 256 + s * sltN c
    omega
  · show p * 256 + s * sltN c + sltN c ≤ p1 * 256
    have h6 : p < p1 := by omega
    have h7 := hd.2.2.2
    clear hd
    generalize s * sltN c = m at *
    omega
  · intro q hq e _
    have := G.same r hr q hq (by rw [h5, e]; exact hd.1.symm) (by omega)
    show q.2 = sltN c
    omega
theorem take_fre (G : Good p0 p1 X) (hc : c < 5) (h : slF X c p s = true) : fre p0 p1 (slot c p s :: X) = fre p0 p1 X := funext fun q => by
  obtain ⟨h1, h2, h3⟩ := slF_iff.1 h
  unfold fre
  rw [hit_cons, slot_page hc h2]
  by_cases e : p = q
  · subst e
    rw [ofC_hit hc h1]
    simp
  · simp [e]
theorem take_ofC (hc : c < 5) (h : slF X c p s = true) {d : Nat} (hd : d < 5) : ofC (slot c p s :: X) d = ofC X d := funext fun q => by
  obtain ⟨h1, h2, h3⟩ := slF_iff.1 h
  rw [ofC_cons]
  by_cases e : sltN c = sltN d ∧ p = q
  · obtain ⟨e1, rfl⟩ := e
    have := slt_inj hc hd e1
    subst this
    rw [h1]; simp
  · have : (decide ((slot c p s).2 = sltN d) && decide ((slot c p s).1 / 256 = q)) = false := by
      show (decide (sltN c = sltN d) && decide ((p * 256 + s * sltN c) / 256 = q)) = false
      rw [(small_div hc h2).1]
      simpa using e
    rw [this, Bool.false_or]
theorem take_slF (hc : c < 5) (h : slF X c p s = true) : slF (slot c p s :: X) c = upd2 (slF X c) p s false := funext fun q => funext fun t => by
  obtain ⟨h1, h2, h3⟩ := slF_iff.1 h
  unfold slF
  rw [take_ofC hc h hc, hit_cons]
  unfold upd2 upd
  by_cases ht : t < perN c
  · rw [show slot c p s = (p * 256 + s * sltN c, sltN c) from rfl, slot_ovl hc h2 ht q]
    by_cases e : q = p
    · subst e
      by_cases e2 : t = s
      · subst e2; simp
      · simp [e2]
    · simp [e]
  · have : ¬ t = s := by omega
    by_cases e : q = p <;> simp [ht, e, this]
theorem take_slF_ne (G : Good p0 p1 X) (hc : c < 5) (h : slF X c p s = true) {d : Nat} (hd : d < 5) (hn : d ≠ c) : slF (slot c p s :: X) d = slF X d := funext fun q => funext fun t => by
  obtain ⟨h1, h2, h3⟩ := slF_iff.1 h
  unfold slF
  rw [take_ofC hc h hd, hit_cons]
  by_cases e : q = p
  · subst e
    rw [ofC_other G hc hd h1 hn]; simp
  · by_cases ht : t < perN d
    · have : ovl (slot c p s) (q * 256 + t * sltN d) (sltN d) = false := by
        rw [← Bool.not_eq_true, ovl_iff]
        show ¬ (p * 256 + s * sltN c < q * 256 + t * sltN d + sltN d ∧ q * 256 + t * sltN d < p * 256 + s * sltN c + sltN c)
        have a1 := (small_div (p := p) hc h2).2.2.2
        have a2 := (small_div (p := q) hd ht).2.2.2
        have := per_le hc
        have := per_le hd
        generalize s * sltN c = m at *
        generalize t * sltN d = n at *
        omega
      rw [this, Bool.false_or]
    · simp [ht]
/-! In a page that is free. -/
theorem new_good (G : Good p0 p1 X) (hc : c < 5) (h : fre p0 p1 X p = true) : Good p0 p1 (slot c p 0 :: X) := by
  obtain ⟨h1, h2, h3⟩ := fre_iff.1 h
  have hp := per_le hc
  have hn := hit_no.1 h3
  have e0 : slot c p 0 = (p * 256, sltN c) := by unfold slot; rw [Nat.zero_mul, Nat.add_zero]
  refine G.cons (.inl ⟨c, slot_small hc (by omega)⟩) ?_ ?_ ?_ ?_ <;> rw [e0]
  · show p0 * 256 ≤ p * 256; omega
  · show p * 256 + sltN c ≤ p1 * 256; omega
  · exact hit_no.2 fun r hr k => hn r hr (by have : r.1 < p * 256 + sltN c := k.1; have : p * 256 < r.1 + r.2 := k.2; omega)
  · intro q hq e _
    exfalso
    have e : q.1 / 256 = p * 256 / 256 := e
    have := G.pos hq
    exact hn q hq ⟨by omega, by omega⟩
theorem new_ofC (hc : c < 5) (h : fre p0 p1 X p = true) : ofC (slot c p 0 :: X) c = upd (ofC X c) p true := funext fun q => by
  have hp := per_le hc
  rw [ofC_cons]
  show ((decide (sltN c = sltN c) && decide ((p * 256 + 0 * sltN c) / 256 = q)) || ofC X c q) = _
  rw [(small_div (p := p) hc (show 0 < perN c by omega)).1]
  unfold upd
  by_cases e : q = p
  · subst e; simp
  · have : ¬ p = q := fun x => e x.symm
    simp [e, this]
theorem new_ofC_ne (hc : c < 5) {d : Nat} (hd : d < 5) (hn : d ≠ c) : ofC (slot c p 0 :: X) d = ofC X d := funext fun q => by
  rw [ofC_cons]
  have : ¬ sltN c = sltN d := fun e => hn (slt_inj hc hd e).symm
  show ((decide (sltN c = sltN d) && _) || ofC X d q) = _
  simp [this]
theorem new_slF (hc : c < 5) (h : fre p0 p1 X p = true) : slF (slot c p 0 :: X) c = upd2 (updP (slF X c) p (full (perN c))) p 0 false := funext fun q => funext fun t => by
  have hp := per_le hc
  have hn := hit_no.1 (fre_iff.1 h).2.2
  unfold slF
  rw [new_ofC hc h, hit_cons]
  unfold upd2 updP upd full
  by_cases ht : t < perN c
  · rw [show slot c p 0 = (p * 256 + 0 * sltN c, sltN c) from rfl, slot_ovl hc (by omega) ht q]
    by_cases e : q = p
    · subst e
      have : hit X (q * 256 + t * sltN c) (sltN c) = false := hit_no.2 fun r hr k => hn r hr (by
        have := (small_div (p := q) hc ht).2.2.2
        generalize t * sltN c = m at *
        omega)
      by_cases e2 : t = 0
      · subst e2; simp
      · simp [e2, ht, this]
    · simp [e]
  · have : ¬ t = 0 := by omega
    by_cases e : q = p <;> simp [ht, e, this]
theorem new_slF_ne (hc : c < 5) (h : fre p0 p1 X p = true) {d : Nat} (hd : d < 5) (hn : d ≠ c) : slF (slot c p 0 :: X) d = slF X d := funext fun q => funext fun t => by
  have hp := per_le hc
  unfold slF
  rw [new_ofC_ne hc hd hn, hit_cons]
  by_cases e : q = p
  · subst e
    rw [ofC_free hd h]; simp
  · by_cases ht : t < perN d
    · have : ovl (slot c p 0) (q * 256 + t * sltN d) (sltN d) = false := by
        rw [← Bool.not_eq_true, ovl_iff]
        show ¬ (p * 256 + 0 * sltN c < q * 256 + t * sltN d + sltN d ∧ q * 256 + t * sltN d < p * 256 + 0 * sltN c + sltN c)
        have a2 := (small_div (p := q) hd ht).2.2.2
        have := per_le hd
        generalize t * sltN d = n at *
        omega
      rw [this, Bool.false_or]
    · simp [ht]
theorem new_fre (hc : c < 5) (h : fre p0 p1 X p = true) (q : Nat) : fre p0 p1 (slot c p 0 :: X) q = (fre p0 p1 X q && !inr p (p + 1) q) := by
  have hp := per_le hc
  unfold fre
  rw [hit_cons, slot_page hc (by omega)]
  by_cases e : p = q
  · subst e
    have : inr p (p + 1) p = true := by unfold inr; simp
    rw [this]; simp
  · have : inr p (p + 1) q = false := by unfold inr; simp; omega
    rw [this]; simp [e]
/-! Whole pages. -/
theorem run_good (G : Good p0 p1 X) {a n : Nat} (hn : 2 ≤ n) (h : ∀ k, a ≤ k → k < a + n → fre p0 p1 X k = true) : Good p0 p1 ((a * 256, n * 256) :: X) := by
  have h0 := (fre_iff.1 (h a (by omega) (by omega))).1
  have h1 := (fre_iff.1 (h (a + n - 1) (by omega) (by omega))).2.1
  refine G.cons (.inr ⟨?_, ?_, ?_⟩) ?_ ?_ (hit_no.2 fun r hr k => ?_) ?_
  · show 512 ≤ n * 256; omega
  · show n * 256 % 256 = 0; omega
  · show a * 256 % 256 = 0; omega
  · show p0 * 256 ≤ a * 256; omega
  · show a * 256 + n * 256 ≤ p1 * 256; omega
  · have k1 : r.1 < a * 256 + n * 256 := k.1
    have k2 : a * 256 < r.1 + r.2 := k.2
    by_cases e : r.1 / 256 < a
    · exact hit_no.1 (fre_iff.1 (h a (by omega) (by omega))).2.2 r hr ⟨by omega, by omega⟩
    · have := G.pos hr
      exact hit_no.1 (fre_iff.1 (h (r.1 / 256) (by omega) (by omega))).2.2 r hr ⟨by omega, by omega⟩
  · intro q hq e _
    exfalso
    have e : q.1 / 256 = a * 256 / 256 := e
    have := G.pos hq
    exact hit_no.1 (fre_iff.1 (h a (by omega) (by omega))).2.2 q hq ⟨by omega, by omega⟩
theorem run_page (a n q : Nat) (hn : 1 ≤ n) : ovl (a * 256, n * 256) (q * 256) 256 = inr a (a + n) q := by
  rw [Bool.eq_iff_iff, ovl_iff]
  unfold inr
  rw [Bool.and_eq_true, decide_eq_true_eq, decide_eq_true_eq]
  show a * 256 < q * 256 + 256 ∧ q * 256 < a * 256 + n * 256 ↔ _
  omega
theorem run_fre {a n : Nat} (hn : 2 ≤ n) (q : Nat) : fre p0 p1 ((a * 256, n * 256) :: X) q = (fre p0 p1 X q && !inr a (a + n) q) := by
  unfold fre
  rw [hit_cons, run_page a n q (by omega)]
  cases inr a (a + n) q <;> simp
theorem run_ofC {a n : Nat} (hn : 2 ≤ n) {d : Nat} (hd : d < 5) : ofC ((a * 256, n * 256) :: X) d = ofC X d := funext fun q => by
  have := per_le hd
  rw [ofC_cons]
  have : ¬ n * 256 = sltN d := by omega
  show ((decide (n * 256 = sltN d) && _) || ofC X d q) = _
  simp [this]
theorem run_slF {a n : Nat} (hn : 2 ≤ n) (h : ∀ k, a ≤ k → k < a + n → fre p0 p1 X k = true) {d : Nat} (hd : d < 5) : slF ((a * 256, n * 256) :: X) d = slF X d := funext fun q => funext fun t => by
  unfold slF
  rw [run_ofC hn hd, hit_cons]
  by_cases e : a ≤ q ∧ q < a + n
  · rw [ofC_free hd (h q e.1 e.2)]; simp
  · by_cases ht : t < perN d
    · have : ovl (a * 256, n * 256) (q * 256 + t * sltN d) (sltN d) = false := by
        rw [← Bool.not_eq_true, ovl_iff]
        show ¬ (a * 256 < q * 256 + t * sltN d + sltN d ∧ q * 256 + t * sltN d < a * 256 + n * 256)
        have a2 := (small_div (p := q) hd ht).2.2.2
        have := per_le hd
        generalize t * sltN d = n at *
        omega
      rw [this, Bool.false_or]
    · simp [ht]
end
end Go.Proofs.YticfpnhfhhagpaaDoor
