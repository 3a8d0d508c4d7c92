/- Bounds in few bits: plain lemmas on numbers. No statement is proved here. -/
import Derived.WalkKit
namespace Go.Proofs.Ytchonkkflklckaa
open Go.RowKit
set_option linter.unusedVariables false

/-- Rounded down, and up, to a multiple of U. -/
def dn (U x : Nat) : Nat := x / U * U
def up (U x : Nat) : Nat := (x + U - 1) / U * U
def okE (b t e : Nat) : Prop := up (2 ^ e) t - dn (2 ^ e) b ≤ 2048 * 2 ^ e
instance (b t e : Nat) : Decidable (okE b t e) := inferInstanceAs (Decidable (_ ≤ _))
def expoF (b t : Nat) : Nat → Nat → Nat
  | 0, e => e
  | f + 1, e => if okE b t e then e else expoF b t f (e + 1)
/-- The least exponent that goes. -/
def expo (b t : Nat) : Nat := expoF b t 21 0

theorem pow_pos2 (e : Nat) : 1 ≤ 2 ^ e := Nat.one_le_two_pow
theorem dn_le (U x : Nat) : dn U x ≤ x := Nat.div_mul_le_self x U
theorem lt_dn {U : Nat} (x : Nat) (h : 1 ≤ U) : x < dn U x + U := by
  have := Nat.lt_div_mul_add (a := x) (b := U) (by omega)
  exact this
theorem up_ge {U : Nat} (x : Nat) (h : 1 ≤ U) : x ≤ up U x := by
  have := Nat.lt_div_mul_add (a := x + U - 1) (b := U) (by omega)
  unfold up; omega
theorem up_lt {U : Nat} (x : Nat) (h : 1 ≤ U) : up U x < x + U := by
  have := Nat.div_mul_le_self (x + U - 1) U
  unfold up; omega
theorem dn_mono {U x y : Nat} (h : x ≤ y) : dn U x ≤ dn U y := Nat.mul_le_mul_right _ (Nat.div_le_div_right h)
theorem up_mono {U x y : Nat} (h : x ≤ y) : up U x ≤ up U y := Nat.mul_le_mul_right _ (Nat.div_le_div_right (by omega))
theorem dn_dvd (U x : Nat) : U ∣ dn U x := Nat.dvd_mul_left _ _
theorem up_dvd (U x : Nat) : U ∣ up U x := Nat.dvd_mul_left _ _
theorem dn_of_dvd {U x : Nat} (h : U ∣ x) : dn U x = x := Nat.div_mul_cancel h
theorem up_of_dvd {U x : Nat} (h1 : 1 ≤ U) (h : U ∣ x) : up U x = x := by
  obtain ⟨k, rfl⟩ := h
  unfold up
  have : (U * k + U - 1) / U = k := by
    rw [show U * k + U - 1 = (U - 1) + U * k from by omega, Nat.add_mul_div_left _ _ (by omega), Nat.div_eq_of_lt (by omega)]
    omega
  rw [this, Nat.mul_comm]
theorem up_le_of_dvd {U x m : Nat} (h1 : 1 ≤ U) (h : U ∣ m) (hx : x ≤ m) : up U x ≤ m := by
  have := up_mono (U := U) hx
  rwa [up_of_dvd h1 h] at this
theorem dvd_whole {e : Nat} (he : e ≤ 32) : 2 ^ e ∣ 4294967296 := by
  rw [show 4294967296 = 2 ^ 32 from rfl]; exact Nat.pow_dvd_pow 2 he

theorem ok_last {b t : Nat} (ht : t ≤ 4294967296) : okE b t 21 := by
  have := up_le_of_dvd (U := 2 ^ 21) (by decide) (dvd_whole (by decide)) ht
  have e : (2 : Nat) ^ 21 = 2097152 := by decide
  unfold okE
  rw [e] at this ⊢
  omega
theorem expoF_spec (b t : Nat) (ht : t ≤ 4294967296) : ∀ f e, f + e = 21 → (∀ k, k < e → ¬ okE b t k) → okE b t (expoF b t f e) ∧ expoF b t f e ≤ 21 ∧ ∀ k, k < expoF b t f e → ¬ okE b t k
  | 0, e, h, hk => by
    have : e = 21 := by omega
    subst this
    exact ⟨ok_last ht, Nat.le_refl _, hk⟩
  | f + 1, e, h, hk => by
    unfold expoF
    split
    · rename_i ho
      exact ⟨ho, by omega, hk⟩
    · rename_i ho
      refine expoF_spec b t ht f (e + 1) (by omega) fun k hlt => ?_
      rcases Nat.lt_or_ge k e with h' | h'
      · exact hk k h'
      · have : k = e := by omega
        subst this; exact ho
theorem expo_ok (b : Nat) {t : Nat} (ht : t ≤ 4294967296) : okE b t (expo b t) := (expoF_spec b t ht 21 0 rfl (fun _ h => absurd h (by omega))).1
theorem expo_le (b : Nat) {t : Nat} (ht : t ≤ 4294967296) : expo b t ≤ 21 := (expoF_spec b t ht 21 0 rfl (fun _ h => absurd h (by omega))).2.1
theorem expo_least (b : Nat) {t : Nat} (ht : t ≤ 4294967296) : ∀ k, k < expo b t → ¬ okE b t k := (expoF_spec b t ht 21 0 rfl (fun _ h => absurd h (by omega))).2.2
theorem expo_is {b t e : Nat} (ht : t ≤ 4294967296) (h : okE b t e) (hk : ∀ k, k < e → ¬ okE b t k) : expo b t = e := by
  rcases Nat.lt_trichotomy (expo b t) e with h' | h' | h'
  · exact absurd (expo_ok b ht) (hk _ h')
  · exact h'
  · exact absurd h (expo_least b ht _ h')

/-- The turn of a mantissa; what a mantissa tells at a cursor. -/
def trn (x g : Int) : Int := if x < g then 1 else 0
def plc (U b c x : Int) : Int := (c / (U * 4096) + trn x ((b + 3072) % 4096) - trn (c / U % 4096) ((b + 3072) % 4096)) * (U * 4096) + x * U
def isB (e b t c : Nat) : Bool := decide (e ≤ 21 ∧ b < 4096 ∧ t < 4096 ∧ 0 ≤ plc (2 ^ e : Nat) b c b ∧ plc (2 ^ e : Nat) b c b ≤ plc (2 ^ e : Nat) b c t ∧ plc (2 ^ e : Nat) b c t ≤ 4294967296)
def teB (e b t c : Nat) : Int := if isB e b t c then plc (2 ^ e : Nat) b c b else 0
def teT (e b t c : Nat) : Int := if isB e b t c then plc (2 ^ e : Nat) b c t else 0
def deB (e b t c : Nat) : Int := if teB e b t c = 4294967296 then 0 else teB e b t c
def deT (e b t c : Nat) : Int := if teB e b t c = 4294967296 then 0 else teT e b t c
def kp (e b t c n : Nat) : Bool := isB e b t c && decide (plc (2 ^ e : Nat) b c b = plc (2 ^ e : Nat) b n b ∧ plc (2 ^ e : Nat) b c t = plc (2 ^ e : Nat) b n t)

/-- What is asked for may be; the parts that are made. -/
def may (b t : Nat) : Bool := decide (b ≤ t ∧ t ≤ 4294967296)
def rdB (b t : Nat) : Nat := if may b t then dn (2 ^ expo b t) b else 0
def rdT (b t : Nat) : Nat := if may b t then up (2 ^ expo b t) t else 0
def enE (b t : Nat) : Nat := if may b t then expo b t else 0
def enB (b t : Nat) : Nat := rdB b t / 2 ^ enE b t % 4096
def enT (b t : Nat) : Nat := rdT b t / 2 ^ enE b t % 4096
def enX (b t : Nat) : Bool := may b t && decide (rdB b t = b ∧ rdT b t = t)
def pdP (s : Nat) : Nat := if rdT 0 s = 4294967296 then 0 else rdT 0 s
def pdA (s : Nat) : Nat := if rdT 0 s = 4294967296 then 0 else 2 ^ enE 0 s

theorem te_bounds (e b t c : Nat) : 0 ≤ teB e b t c ∧ teB e b t c ≤ teT e b t c ∧ teT e b t c ≤ 4294967296 := by
  unfold teB teT
  cases h : isB e b t c
  · simp
  · have := of_decide_eq_true h
    simp only [if_true]
    exact ⟨this.2.2.2.1, this.2.2.2.2.1, this.2.2.2.2.2⟩

/-- The cursor's place decides the turn: within the window the same number is told. -/
theorem turn_div (x g : Int) (hg : 0 ≤ g) (hg2 : g < 4096) : x / 4096 - trn (x % 4096) g = (x - g) / 4096 := by
  unfold trn
  split <;> omega
theorem told (U : Nat) (hU : 1 ≤ U) (q x c : Int) (h1 : q - 1024 ≤ x) (h2 : x < q + 3072) (h3 : q - 1024 ≤ c / (U : Int)) (h4 : c / (U : Int) < q + 3072) :
    plc U (q % 4096) c (x % 4096) = x * U := by
  have hd : c / ((U : Int) * 4096) = c / (U : Int) / 4096 := (Int.ediv_ediv_of_nonneg (by omega)).symm
  unfold plc
  rw [hd]
  generalize c / (U : Int) = r at *
  have hg0 : 0 ≤ (q % 4096 + 3072) % 4096 := by omega
  have hg1 : (q % 4096 + 3072) % 4096 < 4096 := by omega
  have a := turn_div r _ hg0 hg1
  have b := turn_div x _ hg0 hg1
  have e : (r - (q % 4096 + 3072) % 4096) / 4096 = (x - (q % 4096 + 3072) % 4096) / 4096 := by omega
  have k : r / 4096 + trn (x % 4096) ((q % 4096 + 3072) % 4096) - trn (r % 4096) ((q % 4096 + 3072) % 4096) = x / 4096 := by omega
  rw [k, show x / 4096 * ((U : Int) * 4096) = (x / 4096 * 4096) * U from by rw [Int.mul_comm (U : Int) 4096, ← Int.mul_assoc], ← Int.add_mul]
  congr 1
  omega
end Go.Proofs.Ytchonkkflklckaa
