/- Bounds in few bits: what is made tells what was asked for. Plain lemmas; no statement is proved here. -/
import Derived.Test.YtchonkkflklckaaBndM
namespace Go.Proofs.Ytchonkkflklckaa
open Go.RowKit
set_option linter.unusedVariables false

theorem may_of {b t : Nat} (hb : b ≤ t) (ht : t ≤ 4294967296) : may b t = true := decide_eq_true ⟨hb, ht⟩
theorem enE_of {b t : Nat} (hb : b ≤ t) (ht : t ≤ 4294967296) : enE b t = expo b t := by simp [enE, may_of hb ht]
theorem rdB_of {b t : Nat} (hb : b ≤ t) (ht : t ≤ 4294967296) : rdB b t = dn (2 ^ expo b t) b := by simp [rdB, may_of hb ht]
theorem rdT_of {b t : Nat} (hb : b ≤ t) (ht : t ≤ 4294967296) : rdT b t = up (2 ^ expo b t) t := by simp [rdT, may_of hb ht]
theorem enX_of {b t : Nat} (hb : b ≤ t) (ht : t ≤ 4294967296) : enX b t = decide (rdB b t = b ∧ rdT b t = t) := by simp [enX, may_of hb ht]
theorem enB_of {b t : Nat} (hb : b ≤ t) (ht : t ≤ 4294967296) : enB b t = b / 2 ^ expo b t % 4096 := by
  unfold enB
  rw [rdB_of hb ht, enE_of hb ht]
  unfold dn
  rw [Nat.mul_div_cancel _ (pow_pos2 _)]
theorem enT_of {b t : Nat} (hb : b ≤ t) (ht : t ≤ 4294967296) : enT b t = (t + 2 ^ expo b t - 1) / 2 ^ expo b t % 4096 := by
  unfold enT
  rw [rdT_of hb ht, enE_of hb ht]
  unfold up
  rw [Nat.mul_div_cancel _ (pow_pos2 _)]

/-- The base's and the top's numbers of units are at most 2048 apart. -/
theorem apart {b t : Nat} (hb : b ≤ t) (ht : t ≤ 4294967296) : b / 2 ^ expo b t ≤ (t + 2 ^ expo b t - 1) / 2 ^ expo b t ∧ (t + 2 ^ expo b t - 1) / 2 ^ expo b t ≤ b / 2 ^ expo b t + 2048 := by
  have h := expo_ok b ht
  unfold okE up dn at h
  have h1 := pow_pos2 (expo b t)
  generalize 2 ^ expo b t = U at *
  constructor
  · exact Nat.div_le_div_right (by omega)
  · generalize (t + U - 1) / U = p at *
    generalize b / U = q at *
    have : p * U ≤ (q + 2048) * U := by rw [Nat.add_mul]; omega
    exact Nat.le_of_mul_le_mul_right this (by omega)

theorem window {b t c : Nat} (hb : b ≤ t) (ht : t ≤ 4294967296) (h1 : b / 2 ^ expo b t ≤ c / 2 ^ expo b t + 1024) (h2 : c / 2 ^ expo b t < b / 2 ^ expo b t + 3072) :
    plc (2 ^ expo b t : Nat) (enB b t) c (enB b t) = (dn (2 ^ expo b t) b : Nat) ∧ plc (2 ^ expo b t : Nat) (enB b t) c (enT b t) = (up (2 ^ expo b t) t : Nat) := by
  obtain ⟨a1, a2⟩ := apart hb ht
  have hu := pow_pos2 (expo b t)
  rw [enB_of hb ht, enT_of hb ht]
  unfold dn up
  generalize 2 ^ expo b t = U at *
  have hc : ((c / U : Nat) : Int) = (c : Int) / (U : Int) := Int.natCast_ediv _ _
  generalize hp : (t + U - 1) / U = p at *
  generalize hq : b / U = q at *
  have e1 := told U hu (q : Int) (q : Int) c (by omega) (by omega) (by omega) (by omega)
  have e2 := told U hu (q : Int) (p : Int) c (by omega) (by omega) (by omega) (by omega)
  constructor
  · rw [Int.natCast_mul]
    have : ((q % 4096 : Nat) : Int) = (q : Int) % 4096 := by omega
    rw [this]; exact e1
  · rw [Int.natCast_mul]
    have h3 : ((q % 4096 : Nat) : Int) = (q : Int) % 4096 := by omega
    have h4 : ((p % 4096 : Nat) : Int) = (p : Int) % 4096 := by omega
    rw [h3, h4]; exact e2

theorem window_is {b t c : Nat} (hb : b ≤ t) (ht : t ≤ 4294967296) (h1 : b / 2 ^ expo b t ≤ c / 2 ^ expo b t + 1024) (h2 : c / 2 ^ expo b t < b / 2 ^ expo b t + 3072) :
    isB (enE b t) (enB b t) (enT b t) c = true := by
  have w := window hb ht h1 h2
  have m1 : enB b t < 4096 := Nat.mod_lt _ (by decide)
  have m2 : enT b t < 4096 := Nat.mod_lt _ (by decide)
  have u := up_le_of_dvd (pow_pos2 (expo b t)) (dvd_whole (Nat.le_trans (expo_le b ht) (by decide))) ht
  have d := dn_le (2 ^ expo b t) b
  have g := up_ge t (pow_pos2 (expo b t))
  unfold isB
  rw [enE_of hb ht, w.1, w.2]
  refine decide_eq_true ⟨expo_le b ht, m1, m2, ?_, ?_, ?_⟩
  · omega
  · omega
  · omega

theorem tells {b t c : Nat} (hb : b ≤ t) (ht : t ≤ 4294967296) (hb2 : b < 4294967296) (h1 : b / 2 ^ expo b t ≤ c / 2 ^ expo b t + 1024) (h2 : c / 2 ^ expo b t < b / 2 ^ expo b t + 3072) :
    deB (enE b t) (enB b t) (enT b t) c = (dn (2 ^ expo b t) b : Nat) ∧ deT (enE b t) (enB b t) (enT b t) c = (up (2 ^ expo b t) t : Nat) := by
  have w := window hb ht h1 h2
  have i := window_is hb ht h1 h2
  have d := dn_le (2 ^ expo b t) b
  have e : teB (enE b t) (enB b t) (enT b t) c = (dn (2 ^ expo b t) b : Nat) := by unfold teB; rw [i, if_pos rfl, enE_of hb ht]; exact w.1
  have f : teT (enE b t) (enB b t) (enT b t) c = (up (2 ^ expo b t) t : Nat) := by unfold teT; rw [i, if_pos rfl, enE_of hb ht]; exact w.2
  unfold deB deT
  rw [e, f, if_neg (by omega), if_neg (by omega)]
  exact ⟨rfl, rfl⟩

theorem within {b t c : Nat} (hb : b ≤ t) (ht : t ≤ 4294967296) (h1 : b ≤ c) (h2 : c ≤ t) : b / 2 ^ expo b t ≤ c / 2 ^ expo b t + 1024 ∧ c / 2 ^ expo b t < b / 2 ^ expo b t + 3072 := by
  obtain ⟨a1, a2⟩ := apart hb ht
  have hu := pow_pos2 (expo b t)
  generalize 2 ^ expo b t = U at *
  have := Nat.div_le_div_right (c := U) h1
  have := Nat.div_le_div_right (c := U) (show c ≤ t + U - 1 by omega)
  omega

theorem wanders {b t c : Nat} (hb : b ≤ t) (ht : t ≤ 4294967296) (h1 : dn (2 ^ expo b t) b ≤ c + 1024 * 2 ^ expo b t) (h2 : c < dn (2 ^ expo b t) b + 3072 * 2 ^ expo b t) : b / 2 ^ expo b t ≤ c / 2 ^ expo b t + 1024 ∧ c / 2 ^ expo b t < b / 2 ^ expo b t + 3072 := by
  have hu := pow_pos2 (expo b t)
  unfold dn at *
  generalize 2 ^ expo b t = U at *
  generalize b / U = q at *
  constructor
  · have a : (q - 1024) * U ≤ c := by rw [Nat.sub_mul]; omega
    have := (Nat.le_div_iff_mul_le (by omega)).2 a
    omega
  · rw [Nat.div_lt_iff_lt_mul (by omega), Nat.add_mul]
    exact h2

theorem keeps {b t c n : Nat} (hb : b ≤ t) (ht : t ≤ 4294967296) (h1 : b / 2 ^ expo b t ≤ c / 2 ^ expo b t + 1024) (h2 : c / 2 ^ expo b t < b / 2 ^ expo b t + 3072)
    (k1 : b / 2 ^ expo b t ≤ n / 2 ^ expo b t + 1024) (k2 : n / 2 ^ expo b t < b / 2 ^ expo b t + 3072) : kp (enE b t) (enB b t) (enT b t) c n = true := by
  have w := window hb ht h1 h2
  have v := window hb ht k1 k2
  unfold kp
  rw [window_is hb ht h1 h2, enE_of hb ht, w.1, w.2, v.1, v.2]
  simp

/-- Few bytes are exact. -/
theorem expo_few {b t : Nat} (ht : t ≤ 4294967296) (h : t ≤ b + 2048) : expo b t = 0 := by
  refine expo_is ht ?_ (fun k hk => absurd hk (by omega))
  unfold okE up dn
  simp
  omega

/-- Padded bytes from a multiple on are exact. -/
theorem pad_least {s : Nat} (hs : s ≤ 4294967296) {b p : Nat} (hp : p = up (2 ^ expo 0 s) s) (hb : 2 ^ expo 0 s ∣ b) (hbp : b + p ≤ 4294967296) : expo b (b + p) = expo 0 s := by
  have hd : 2 ^ expo 0 s ∣ p := by rw [hp]; exact up_dvd _ _
  have ok := expo_ok 0 hs
  refine expo_is hbp ?_ (fun k hk h => expo_least 0 hs k hk ?_)
  · unfold okE at *
    rw [up_of_dvd (pow_pos2 _) (Nat.dvd_add hb hd), dn_of_dvd hb]
    have : dn (2 ^ expo 0 s) 0 = 0 := by simp [dn]
    omega
  · have dk : 2 ^ k ∣ 2 ^ expo 0 s := Nat.pow_dvd_pow 2 (Nat.le_of_lt hk)
    unfold okE at *
    rw [up_of_dvd (pow_pos2 _) (Nat.dvd_trans dk (Nat.dvd_add hb hd)), dn_of_dvd (Nat.dvd_trans dk hb)] at h
    have h0 : dn (2 ^ k) 0 = 0 := by simp [dn]
    have h1 : up (2 ^ k) s ≤ p := by
      refine up_le_of_dvd (pow_pos2 _) (Nat.dvd_trans dk hd) ?_
      rw [hp]; exact up_ge s (pow_pos2 _)
    omega
end Go.Proofs.Ytchonkkflklckaa
