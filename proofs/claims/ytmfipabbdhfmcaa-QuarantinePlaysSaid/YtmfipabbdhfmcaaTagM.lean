/- Plain mathematics of layer tags: how many bits of a word are set, as math/bits reckons it; words of a set of places; counts. No statement is proved here. -/
import Derived.Lib.BitFns
namespace Go.Proofs.Ytmfipabbdhfmcaa
open Go
set_option linter.unusedVariables false

/-- The number of k bytes a. -/
def mB (a : Nat) : Nat → Nat
  | 0 => 0
  | k + 1 => a + 256 * mB a k

theorem mB_succ (a k : Nat) : mB a (k + 1) = a + 256 * mB a k := rfl

theorem land_split (r a q m : Nat) (hr : r < 256) (ha : a < 256) : (r + 256 * q) &&& (a + 256 * m) = (r &&& a) + 256 * (q &&& m) := by
  have hra : r &&& a < 256 := Nat.lt_of_le_of_lt Nat.and_le_left hr
  apply Nat.eq_of_testBit_eq
  intro j
  rw [Nat.testBit_and, Nat.add_comm r, Nat.add_comm a, Nat.add_comm (r &&& a), show 256 = 2 ^ 8 from rfl,
    Nat.testBit_two_pow_mul_add q hr, Nat.testBit_two_pow_mul_add m ha, Nat.testBit_two_pow_mul_add (q &&& m) hra]
  split <;> simp [Nat.testBit_and]

/-- What a byte holds after each of the three steps. -/
def t1 (r : Nat) : Nat := (r / 2 &&& 0x55) + (r &&& 0x55)
def t2 (r : Nat) : Nat := (r / 4 &&& 0x33) + (r &&& 0x33)
def t3 (r : Nat) : Nat := (r / 16 + r) &&& 0x0f

theorem t1_lt : ∀ r, r < 256 → t1 r < 256 := by decide +kernel
theorem t2_lt : ∀ r, r < 256 → t2 (t1 r) < 256 ∧ t2 (t1 r) / 16 ≤ 4 ∧ t2 (t1 r) % 16 ≤ 4 := by decide +kernel
theorem t3_eq : ∀ r, r < 256 → t3 (t2 (t1 r)) = Lib.popAux 8 r ∧ Lib.popAux 8 r ≤ 8 := by decide +kernel
theorem c1 : ∀ r, r < 256 → ∀ c, c < 2 → (r / 2 + 128 * c) &&& 0x55 = r / 2 &&& 0x55 := by decide +kernel
theorem c2 : ∀ r, r < 256 → ∀ c, c < 4 → (r / 4 + 64 * c) &&& 0x33 = r / 4 &&& 0x33 := by decide +kernel
theorem c3 : ∀ r, r < 256 → t2 (t1 r) / 16 + t2 (t1 r) < 256 - 64 ∧ ∀ c, c ≤ 4 → (t2 (t1 r) / 16 + 16 * c + t2 (t1 r)) &&& 0x0f = t3 (t2 (t1 r)) := by decide +kernel

def p1 (k x : Nat) : Nat := (x / 2 &&& mB 0x55 k) + (x &&& mB 0x55 k)
def p2 (k x : Nat) : Nat := (x / 4 &&& mB 0x33 k) + (x &&& mB 0x33 k)
def p3 (k x : Nat) : Nat := (x / 16 + x) &&& mB 0x0f k

theorem p1_succ (k r q : Nat) (hr : r < 256) : p1 (k + 1) (r + 256 * q) = t1 r + 256 * p1 k q := by
  simp only [p1, mB_succ, t1]
  have e : (r + 256 * q) / 2 = (r / 2 + 128 * (q % 2)) + 256 * (q / 2) := by omega
  rw [e, land_split _ _ _ _ (by omega) (by omega), land_split _ _ _ _ hr (by omega), c1 r hr (q % 2) (by omega)]
  omega
theorem p2_succ (k r q : Nat) (hr : r < 256) : p2 (k + 1) (r + 256 * q) = t2 r + 256 * p2 k q := by
  simp only [p2, mB_succ, t2]
  have e : (r + 256 * q) / 4 = (r / 4 + 64 * (q % 4)) + 256 * (q / 4) := by omega
  rw [e, land_split _ _ _ _ (by omega) (by omega), land_split _ _ _ _ hr (by omega), c2 r hr (q % 4) (by omega)]
  omega
theorem p21_low : ∀ (k x : Nat), p2 k (p1 k x) % 16 ≤ 4
  | 0, x => by simp [p2, p1, mB]
  | k + 1, x => by
    have hr : x % 256 < 256 := by omega
    have e : x = x % 256 + 256 * (x / 256) := by omega
    rw [e, p1_succ k _ _ hr, p2_succ k _ _ (t1_lt _ hr)]
    have := (t2_lt _ hr).2.2
    omega
theorem p3_succ (k r y : Nat) (hr : r < 256) (hy : y % 16 ≤ 4) : p3 (k + 1) (t2 (t1 r) + 256 * y) = t3 (t2 (t1 r)) + 256 * p3 k y := by
  simp only [p3, mB_succ]
  have hs := (t2_lt r hr).1
  obtain ⟨h1, h2⟩ := c3 r hr
  have e : (t2 (t1 r) + 256 * y) / 16 + (t2 (t1 r) + 256 * y) = (t2 (t1 r) / 16 + 16 * (y % 16) + t2 (t1 r)) + 256 * (y / 16 + y) := by omega
  rw [e, land_split _ _ _ _ (by omega) (by omega), h2 _ hy]

theorem pop_add : ∀ (a b x : Nat), Lib.popAux (a + b) x = Lib.popAux a x + Lib.popAux b (x / 2 ^ a)
  | 0, b, x => by simp [Lib.popAux]
  | a + 1, b, x => by
    rw [show a + 1 + b = (a + b) + 1 by omega, Lib.popAux, pop_add a b, Lib.popAux, Nat.div_div_eq_div_mul, Nat.pow_succ, Nat.mul_comm 2]
    omega
theorem pop_mod : ∀ (a x : Nat), Lib.popAux a x = Lib.popAux a (x % 2 ^ a)
  | 0, x => rfl
  | a + 1, x => by
    rw [Lib.popAux, Lib.popAux, pop_mod a (x / 2), pop_mod a (x % 2 ^ (a + 1) / 2)]
    have e1 : x % 2 ^ (a + 1) % 2 = x % 2 := by rw [Nat.pow_succ, Nat.mod_mul_left_mod]
    have e2 : x % 2 ^ (a + 1) / 2 % 2 ^ a = x / 2 % 2 ^ a := by
      rw [Nat.pow_succ, Nat.mul_comm, Nat.mod_mul_right_div_self, Nat.mod_mod]
    rw [e1, e2]

/-- The three steps at k bytes: a byte holds how many of its bits are set. -/
theorem steps_succ (k x : Nat) : p3 (k + 1) (p2 (k + 1) (p1 (k + 1) x)) = Lib.popAux 8 (x % 256) + 256 * p3 k (p2 k (p1 k (x / 256))) := by
  have hr : x % 256 < 256 := by omega
  have e : x = x % 256 + 256 * (x / 256) := by omega
  conv => lhs; rw [e]
  rw [p1_succ k _ _ hr, p2_succ k _ _ (t1_lt _ hr), p3_succ k _ _ hr (p21_low k _), (t3_eq _ hr).1]
theorem steps_zero (x : Nat) : p3 0 (p2 0 (p1 0 x)) = 0 := by simp [p3, mB]

theorem sum1 (a0 a1 a2 a3 a4 a5 a6 a7 : Nat) (h0 : a0 ≤ 8) (h1 : a1 ≤ 8) (h2 : a2 ≤ 8) (h3 : a3 ≤ 8) (h4 : a4 ≤ 8) (h5 : a5 ≤ 8) (h6 : a6 ≤ 8) (h7 : a7 ≤ 8) :
    let y := a0 + 256 * (a1 + 256 * (a2 + 256 * (a3 + 256 * (a4 + 256 * (a5 + 256 * (a6 + 256 * a7))))))
    y + y / 256 = (a0 + a1) + 256 * ((a1 + a2) + 256 * ((a2 + a3) + 256 * ((a3 + a4) + 256 * ((a4 + a5) + 256 * ((a5 + a6) + 256 * ((a6 + a7) + 256 * a7)))))) := by
  intro y
  have : y / 256 = a1 + 256 * (a2 + 256 * (a3 + 256 * (a4 + 256 * (a5 + 256 * (a6 + 256 * a7))))) := by simp only [y]; omega
  rw [this]; simp only [y]; omega
theorem sum2 (a0 a1 a2 a3 a4 a5 a6 a7 : Nat) (h0 : a0 ≤ 16) (h1 : a1 ≤ 16) (h2 : a2 ≤ 16) (h3 : a3 ≤ 16) (h4 : a4 ≤ 16) (h5 : a5 ≤ 16) (h6 : a6 ≤ 16) (h7 : a7 ≤ 16) :
    let y := a0 + 256 * (a1 + 256 * (a2 + 256 * (a3 + 256 * (a4 + 256 * (a5 + 256 * (a6 + 256 * a7))))))
    y + y / 65536 = (a0 + a2) + 256 * ((a1 + a3) + 256 * ((a2 + a4) + 256 * ((a3 + a5) + 256 * ((a4 + a6) + 256 * ((a5 + a7) + 256 * (a6 + 256 * a7)))))) := by
  intro y
  have : y / 65536 = a2 + 256 * (a3 + 256 * (a4 + 256 * (a5 + 256 * (a6 + 256 * a7)))) := by simp only [y]; omega
  rw [this]; simp only [y]; omega
theorem sum3 (a0 a1 a2 a3 a4 a5 a6 a7 : Nat) (h0 : a0 ≤ 32) (h1 : a1 ≤ 32) (h2 : a2 ≤ 32) (h3 : a3 ≤ 32) (h4 : a4 ≤ 32) (h5 : a5 ≤ 32) (h6 : a6 ≤ 32) (h7 : a7 ≤ 32) :
    let y := a0 + 256 * (a1 + 256 * (a2 + 256 * (a3 + 256 * (a4 + 256 * (a5 + 256 * (a6 + 256 * a7))))))
    y + y / 4294967296 = (a0 + a4) + 256 * ((a1 + a5) + 256 * ((a2 + a6) + 256 * ((a3 + a7) + 256 * (a4 + 256 * (a5 + 256 * (a6 + 256 * a7)))))) := by
  intro y
  have : y / 4294967296 = a4 + 256 * (a5 + 256 * (a6 + 256 * a7)) := by simp only [y]; omega
  rw [this]; simp only [y]; omega

/-- The steps at eight bytes, and the sums behind them. -/
theorem ones_all (x : Nat) (hx : x < 2 ^ 64) : ∃ y, p3 8 (p2 8 (p1 8 x)) = y ∧ y + y / 256 < 2 ^ 64 ∧ (y + y / 256) + (y + y / 256) / 65536 < 2 ^ 64 ∧
    ((y + y / 256) + (y + y / 256) / 65536) + ((y + y / 256) + (y + y / 256) / 65536) / 4294967296 < 2 ^ 63 ∧
    (((y + y / 256) + (y + y / 256) / 65536) + ((y + y / 256) + (y + y / 256) / 65536) / 4294967296) % 128 = Lib.onesCount x := by
  refine ⟨_, rfl, ?_⟩
  have hp : ∀ z, Lib.popAux 8 (z % 256) ≤ 8 := fun z => (t3_eq _ (by omega)).2
  have hc : Lib.onesCount x = Lib.popAux 8 (x % 256) + (Lib.popAux 8 (x / 256 % 256) + (Lib.popAux 8 (x / 256 / 256 % 256) + (Lib.popAux 8 (x / 256 / 256 / 256 % 256) +
      (Lib.popAux 8 (x / 256 / 256 / 256 / 256 % 256) + (Lib.popAux 8 (x / 256 / 256 / 256 / 256 / 256 % 256) + (Lib.popAux 8 (x / 256 / 256 / 256 / 256 / 256 / 256 % 256) + Lib.popAux 8 (x / 256 / 256 / 256 / 256 / 256 / 256 / 256 % 256))))))) := by
    have h8 : ∀ b z, Lib.popAux (8 + b) z = Lib.popAux 8 (z % 256) + Lib.popAux b (z / 256) := fun b z => by rw [pop_add, pop_mod 8 z]
    unfold Lib.onesCount
    rw [show 64 = 8 + (8 + (8 + (8 + (8 + (8 + (8 + 8)))))) from rfl, h8, h8, h8, h8, h8, h8, h8, pop_mod 8 (x / 256 / 256 / 256 / 256 / 256 / 256 / 256)]
  simp only [steps_succ, steps_zero, hc]
  have b0 := hp x
  have b1 := hp (x / 256)
  have b2 := hp (x / 256 / 256)
  have b3 := hp (x / 256 / 256 / 256)
  have b4 := hp (x / 256 / 256 / 256 / 256)
  have b5 := hp (x / 256 / 256 / 256 / 256 / 256)
  have b6 := hp (x / 256 / 256 / 256 / 256 / 256 / 256)
  have b7 := hp (x / 256 / 256 / 256 / 256 / 256 / 256 / 256)
  clear hc
  generalize Lib.popAux 8 (x % 256) = a0 at *
  generalize Lib.popAux 8 (x / 256 % 256) = a1 at *
  generalize Lib.popAux 8 (x / 256 / 256 % 256) = a2 at *
  generalize Lib.popAux 8 (x / 256 / 256 / 256 % 256) = a3 at *
  generalize Lib.popAux 8 (x / 256 / 256 / 256 / 256 % 256) = a4 at *
  generalize Lib.popAux 8 (x / 256 / 256 / 256 / 256 / 256 % 256) = a5 at *
  generalize Lib.popAux 8 (x / 256 / 256 / 256 / 256 / 256 / 256 % 256) = a6 at *
  generalize Lib.popAux 8 (x / 256 / 256 / 256 / 256 / 256 / 256 / 256 % 256) = a7 at *
  simp only [Nat.mul_zero, Nat.add_zero]
  rw [sum1 a0 a1 a2 a3 a4 a5 a6 a7 b0 b1 b2 b3 b4 b5 b6 b7,
    sum2 (a0 + a1) (a1 + a2) (a2 + a3) (a3 + a4) (a4 + a5) (a5 + a6) (a6 + a7) a7 (by omega) (by omega) (by omega) (by omega) (by omega) (by omega) (by omega) (by omega),
    sum3 (a0 + a1 + (a2 + a3)) (a1 + a2 + (a3 + a4)) (a2 + a3 + (a4 + a5)) (a3 + a4 + (a5 + a6)) (a4 + a5 + (a6 + a7)) (a5 + a6 + a7) (a6 + a7) a7 (by omega) (by omega) (by omega) (by omega) (by omega) (by omega) (by omega) (by omega)]
  omega
/-- How many of the first k places are set. -/
def cnt (g : Nat → Bool) : Nat → Nat
  | 0 => 0
  | k + 1 => cnt g k + (g k).toNat
theorem cnt_front (k : Nat) : ∀ g : Nat → Bool, cnt g (k + 1) = (g 0).toNat + cnt (fun j => g (j + 1)) k := by
  induction k with
  | zero => intro g; simp [cnt]
  | succ k ih => intro g; rw [cnt, ih, cnt]; omega
theorem cnt_le (g : Nat → Bool) : ∀ k, cnt g k ≤ k
  | 0 => Nat.le_refl _
  | k + 1 => by have := cnt_le g k; have := Bool.toNat_le (g k); simp only [cnt]; omega
theorem cnt_congr {g h : Nat → Bool} : ∀ {k : Nat}, (∀ j, j < k → g j = h j) → cnt g k = cnt h k
  | 0, _ => rfl
  | k + 1, e => by rw [cnt, cnt, cnt_congr (fun j hj => e j (by omega)), e k (by omega)]
theorem cnt_add (g : Nat → Bool) (a : Nat) : ∀ b, cnt g (a + b) = cnt g a + cnt (fun j => g (a + j)) b
  | 0 => rfl
  | b + 1 => by rw [← Nat.add_assoc, cnt, cnt_add g a b, cnt]; omega
theorem cnt_zero {g : Nat → Bool} : ∀ {k : Nat}, (∀ j, j < k → g j = false) → cnt g k = 0
  | 0, _ => rfl
  | k + 1, e => by rw [cnt, cnt_zero (fun j hj => e j (by omega)), e k (by omega)]; rfl
theorem cnt_off {g : Nat → Bool} {n : Nat} (h : ∀ j, n ≤ j → g j = false) {m : Nat} (hm : n ≤ m) : cnt g m = cnt g n := by
  obtain ⟨d, rfl⟩ : ∃ d, m = n + d := ⟨m - n, by omega⟩
  rw [cnt_add, cnt_zero (g := fun j => g (n + j)) (fun j _ => h _ (by omega))]
  rfl
theorem cnt_pos {g : Nat → Bool} : ∀ {k : Nat}, 0 < cnt g k → ∃ j, j < k ∧ g j = true
  | 0, h => by simp [cnt] at h
  | k + 1, h => by
    by_cases e : g k = true
    · exact ⟨k, by omega, e⟩
    · obtain ⟨j, hj, hg⟩ := cnt_pos (g := g) (k := k) (by simp [cnt, e] at h; exact h)
      exact ⟨j, by omega, hg⟩
theorem cnt_pos_of {g : Nat → Bool} : ∀ {k j : Nat}, j < k → g j = true → 0 < cnt g k
  | 0, _, h, _ => by omega
  | k + 1, j, h, e => by
    by_cases ej : j = k
    · subst ej; simp [cnt, e]
    · have := cnt_pos_of (g := g) (k := k) (j := j) (by omega) e
      simp only [cnt]; omega

/-- The number whose lowest k bits are g 0, g 1, .. -/
def wd : (Nat → Bool) → Nat → Nat
  | _, 0 => 0
  | g, k + 1 => (g 0).toNat + 2 * wd (fun j => g (j + 1)) k
theorem wd_lt : ∀ (k : Nat) (g : Nat → Bool), wd g k < 2 ^ k
  | 0, _ => by simp [wd]
  | k + 1, g => by have := wd_lt k (fun j => g (j + 1)); have := Bool.toNat_le (g 0); rw [wd, Nat.pow_succ]; omega
theorem wd_bit : ∀ (k : Nat) (g : Nat → Bool) (j : Nat), (wd g k).testBit j = (decide (j < k) && g j)
  | 0, g, j => by simp [wd]
  | k + 1, g, 0 => by
    rw [wd, Nat.testBit_zero]
    cases g 0 <;> simp [Bool.toNat] <;> omega
  | k + 1, g, j + 1 => by
    rw [wd, Nat.testBit_succ, show ((g 0).toNat + 2 * wd (fun j => g (j + 1)) k) / 2 = wd (fun j => g (j + 1)) k by have := Bool.toNat_le (g 0); omega, wd_bit k]
    simp
theorem wd_pop : ∀ (k : Nat) (g : Nat → Bool), Lib.popAux k (wd g k) = cnt g k
  | 0, _ => rfl
  | k + 1, g => by
    rw [Lib.popAux, cnt_front, wd]
    have := Bool.toNat_le (g 0)
    rw [show ((g 0).toNat + 2 * wd (fun j => g (j + 1)) k) / 2 = wd (fun j => g (j + 1)) k by omega, wd_pop k]
    omega
theorem wd_congr {k : Nat} {g h : Nat → Bool} (e : ∀ j, j < k → g j = h j) : wd g k = wd h k := by
  apply Nat.eq_of_testBit_eq
  intro j
  rw [wd_bit, wd_bit]
  by_cases hj : j < k
  · rw [e j hj]
  · simp [hj]
theorem wd_of_bits {k x : Nat} (h : x < 2 ^ k) : x = wd (fun j => x.testBit j) k := by
  apply Nat.eq_of_testBit_eq
  intro j
  rw [wd_bit]
  by_cases hj : j < k
  · simp [hj]
  · simp only [hj, decide_false, Bool.false_and]
    exact Nat.testBit_lt_two_pow (Nat.lt_of_lt_of_le h (Nat.pow_le_pow_right (by decide) (by omega)))
theorem wd_zero {k : Nat} {g : Nat → Bool} : wd g k = 0 ↔ ∀ j, j < k → g j = false := by
  constructor
  · intro h j hj
    have := wd_bit k g j
    rw [h] at this
    simpa [hj] using this.symm
  · intro h
    apply Nat.eq_of_testBit_eq
    intro j
    rw [wd_bit]
    by_cases hj : j < k
    · simp [h j hj]
    · simp [hj]
theorem wd_and (k : Nat) (g h : Nat → Bool) : wd g k &&& wd h k = wd (fun j => g j && h j) k := by
  apply Nat.eq_of_testBit_eq
  intro j
  rw [Nat.testBit_and, wd_bit, wd_bit, wd_bit]
  by_cases hj : j < k <;> simp [hj]
theorem wd_or_bit (g : Nat → Bool) (r : Nat) (hr : r < 64) : wd g 64 ||| 2 ^ r = wd (fun j => g j || j == r) 64 := by
  apply Nat.eq_of_testBit_eq
  intro j
  rw [Nat.testBit_or, wd_bit, wd_bit, Nat.testBit_two_pow]
  by_cases hj : j < 64
  · by_cases e : r = j
    · subst e; simp [hj]
    · have e' : j ≠ r := fun h => e h.symm
      simp [hj, e, e']
  · have e : ¬ r = j := by omega
    simp [hj, e]
theorem wd_one (r : Nat) (hr : r < 64) : 2 ^ r = wd (fun j => j == r) 64 := by
  have := wd_or_bit (fun _ => false) r hr
  rw [wd_zero.2 (fun _ _ => rfl)] at this
  simpa using this
theorem wd_below (k : Nat) (hk : k ≤ 64) : 2 ^ k - 1 = wd (fun j => decide (j < k)) 64 := by
  apply Nat.eq_of_testBit_eq
  intro j
  rw [Nat.testBit_two_pow_sub_one, wd_bit]
  by_cases hj : j < 64
  · simp [hj]
  · have : ¬ j < k := by omega
    simp [hj, this]
theorem ones_wd (g : Nat → Bool) : Lib.onesCount (wd g 64) = cnt g 64 := wd_pop 64 g

/-- Word number i of a set of places. -/
def wdo (f : Nat → Bool) (i : Nat) : Nat := wd (fun j => f (64 * i + j)) 64
theorem wdo_lt (f : Nat → Bool) (i : Nat) : wdo f i < 2 ^ 64 := wd_lt _ _
theorem wdo_congr {f g : Nat → Bool} {i : Nat} (e : ∀ k, k / 64 = i → f k = g k) : wdo f i = wdo g i := wd_congr fun j hj => e _ (by omega)
theorem wdo_none (i : Nat) : wdo (fun _ => false) i = 0 := wd_zero.2 fun _ _ => rfl
/-- One place put. -/
def upd (f : Nat → Bool) (a : Nat) (v : Bool) : Nat → Bool := fun k => if k = a then v else f k
theorem upd_same (f : Nat → Bool) (a : Nat) (v : Bool) : upd f a v a = v := by simp [upd]
theorem upd_ne (f : Nat → Bool) {a k : Nat} (v : Bool) (h : k ≠ a) : upd f a v k = f k := by simp [upd, h]
theorem wdo_upd_ne (f : Nat → Bool) {a i : Nat} (v : Bool) (h : i ≠ a / 64) : wdo (upd f a v) i = wdo f i := wdo_congr fun k hk => upd_ne f v (by omega)
theorem wdo_set (f : Nat → Bool) (a : Nat) : wdo f (a / 64) ||| 2 ^ (a % 64) = wdo (upd f a true) (a / 64) := by
  unfold wdo
  rw [wd_or_bit _ _ (by omega)]
  refine wd_congr fun j hj => ?_
  by_cases e : j = a % 64
  · have : 64 * (a / 64) + j = a := by omega
    simp [upd, e]; omega
  · have : 64 * (a / 64) + j ≠ a := by omega
    simp [upd, e, this]
theorem wdo_get (f : Nat → Bool) (a : Nat) : wdo f (a / 64) &&& 2 ^ (a % 64) = if f a then 2 ^ (a % 64) else 0 := by
  have ha : 64 * (a / 64) + a % 64 = a := by omega
  rw [wd_one _ (by omega : a % 64 < 64)]
  unfold wdo
  rw [wd_and]
  by_cases h : f a = true
  · rw [if_pos h]
    refine wd_congr fun j hj => ?_
    by_cases e : j = a % 64
    · subst e; simp [ha, h]
    · simp [e]
  · rw [if_neg h]
    refine wd_zero.2 fun j hj => ?_
    by_cases e : j = a % 64
    · subst e; simp [ha, h]
    · simp [e]

/-- The places from lo on, below hi. -/
def inr (lo hi : Nat) : Nat → Bool := fun k => decide (lo ≤ k) && decide (k < hi)

/-- Words cleared one behind the other, of the places from lo on below hi: what is left, and how many were set. -/
def cstep (lo hi : Nat) (s : (Nat → Bool) × Nat) (x : Nat) : (Nat → Bool) × Nat :=
  (fun k => s.1 k && !(inr lo hi k && k / 64 == x), s.2 + cnt (fun j => s.1 (64 * x + j) && inr lo hi (64 * x + j)) 64)
def cfold (lo hi : Nat) (f : Nat → Bool) (l : List Nat) : (Nat → Bool) × Nat := l.foldl (cstep lo hi) (f, 0)
theorem cfold_snoc (lo hi : Nat) (f : Nat → Bool) (l : List Nat) (x : Nat) : cfold lo hi f (l ++ [x]) = cstep lo hi (cfold lo hi f l) x := by simp [cfold]
theorem cfold_range (lo hi : Nat) (f : Nat → Bool) : ∀ m, (∀ k, (cfold lo hi f ((List.range m).map (lo / 64 + ·))).1 k = (f k && !(inr lo hi k && decide (k < 64 * (lo / 64 + m))))) ∧
    (cfold lo hi f ((List.range m).map (lo / 64 + ·))).2 = cnt (fun k => f k && inr lo hi k) (64 * (lo / 64 + m))
  | 0 => by
    constructor
    · intro k
      have : (inr lo hi k && decide (k < 64 * (lo / 64 + 0))) = false := by
        simp only [inr, Bool.and_eq_false_iff, decide_eq_false_iff_not]; omega
      rw [this]; simp [cfold]
    · rw [cnt_zero]
      · rfl
      · intro j hj
        have : inr lo hi j = false := by simp only [inr, Bool.and_eq_false_iff, decide_eq_false_iff_not]; omega
        simp [this]
  | m + 1 => by
    obtain ⟨h1, h2⟩ := cfold_range lo hi f m
    rw [List.range_succ, List.map_append, List.map_singleton, cfold_snoc]
    constructor
    · intro k
      simp only [cstep, h1]
      by_cases hk : k / 64 = lo / 64 + m
      · have e1 : decide (k < 64 * (lo / 64 + (m + 1))) = true := by simp; omega
        have e2 : (k / 64 == lo / 64 + m) = true := by simp [hk]
        rw [e1, e2]
        cases f k <;> cases inr lo hi k <;> simp
      · have e2 : (k / 64 == lo / 64 + m) = false := by simp [hk]
        have e1 : decide (k < 64 * (lo / 64 + (m + 1))) = decide (k < 64 * (lo / 64 + m)) := by
          rw [decide_eq_decide]; omega
        rw [e1, e2]
        simp
    · simp only [cstep, h2]
      rw [show 64 * (lo / 64 + (m + 1)) = 64 * (lo / 64 + m) + 64 by omega, cnt_add]
      congr 1
      refine cnt_congr fun j hj => ?_
      rw [h1]
      have : decide (64 * (lo / 64 + m) + j < 64 * (lo / 64 + m)) = false := by simp
      rw [this]; simp
/-- All words that hold places from lo on, below hi. -/
theorem cfold_all (lo hi m n : Nat) (f : Nat → Bool) (hm : hi ≤ 64 * (lo / 64 + m)) (hn : hi ≤ n) :
    (∀ k, (cfold lo hi f ((List.range m).map (lo / 64 + ·))).1 k = (f k && !inr lo hi k)) ∧ (cfold lo hi f ((List.range m).map (lo / 64 + ·))).2 = cnt (fun k => f k && inr lo hi k) n := by
  obtain ⟨h1, h2⟩ := cfold_range lo hi f m
  constructor
  · intro k
    rw [h1]
    by_cases hk : k < 64 * (lo / 64 + m)
    · simp [hk]
    · have : inr lo hi k = false := by simp only [inr, Bool.and_eq_false_iff, decide_eq_false_iff_not]; omega
      simp [this]
  · rw [h2]
    have off : ∀ j, hi ≤ j → (f j && inr lo hi j) = false := fun j hj => by
      have : inr lo hi j = false := by simp only [inr, Bool.and_eq_false_iff, decide_eq_false_iff_not]; omega
      simp [this]
    rw [cnt_off off hm, cnt_off off hn]

/-- How many are set in these words. -/
def csum (f : Nat → Bool) (l : List Nat) : Nat := (l.map fun x => cnt (fun j => f (64 * x + j)) 64).sum
theorem csum_snoc (f : Nat → Bool) (l : List Nat) (x : Nat) : csum f (l ++ [x]) = csum f l + cnt (fun j => f (64 * x + j)) 64 := by simp [csum]
theorem csum_range (f : Nat → Bool) : ∀ m, csum f (List.range m) = cnt f (64 * m)
  | 0 => rfl
  | m + 1 => by rw [List.range_succ, csum_snoc, csum_range f m, show 64 * (m + 1) = 64 * m + 64 by omega, cnt_add]
theorem csum_le (f : Nat → Bool) : ∀ l : List Nat, csum f l ≤ 64 * l.length
  | [] => by simp [csum]
  | x :: l => by have := csum_le f l; have := cnt_le (fun j => f (64 * x + j)) 64; simp only [csum, List.map_cons, List.sum_cons, List.length_cons] at *; omega
theorem cfold_le (lo hi : Nat) (f : Nat → Bool) (l : List Nat) : (cfold lo hi f l).2 ≤ 64 * l.length := by
  have : ∀ (l : List Nat) (s : (Nat → Bool) × Nat), (l.foldl (cstep lo hi) s).2 ≤ s.2 + 64 * l.length := by
    intro l
    induction l with
    | nil => intro s; simp
    | cons x l ih =>
      intro s
      have h1 := ih (cstep lo hi s x)
      have h2 := cnt_le (fun j => s.1 (64 * x + j) && inr lo hi (64 * x + j)) 64
      simp only [cstep, List.foldl_cons, List.length_cons] at *
      omega
  have := this l (f, 0)
  simpa [cfold] using this
/-- What is left of a word, and what is left of the others. -/
theorem cstep_same (lo hi : Nat) (s : (Nat → Bool) × Nat) (x : Nat) : wdo (cstep lo hi s x).1 x = wd (fun j => s.1 (64 * x + j) && !inr lo hi (64 * x + j)) 64 := by
  refine wd_congr fun j hj => ?_
  have : ((64 * x + j) / 64 == x) = true := by simp; omega
  simp [cstep, this]
theorem cstep_ne (lo hi : Nat) (s : (Nat → Bool) × Nat) {x i : Nat} (h : i ≠ x) : wdo (cstep lo hi s x).1 i = wdo s.1 i := by
  refine wdo_congr fun k hk => ?_
  have : (k / 64 == x) = false := by simp; omega
  simp [cstep, this]
theorem cfold_off (lo hi : Nat) (f : Nat → Bool) {k : Nat} (h : f k = false) (l : List Nat) : (cfold lo hi f l).1 k = false := by
  have : ∀ (l : List Nat) (s : (Nat → Bool) × Nat), s.1 k = false → (l.foldl (cstep lo hi) s).1 k = false := by
    intro l
    induction l with
    | nil => intro s hs; exact hs
    | cons x l ih => intro s hs; exact ih _ (by simp [cstep, hs])
  exact this l (f, 0) h
end Go.Proofs.Ytmfipabbdhfmcaa
