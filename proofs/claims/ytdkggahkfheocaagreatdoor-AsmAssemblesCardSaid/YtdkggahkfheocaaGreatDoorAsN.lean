/- Plain words for layer asm: a numeral of at most ten digits, read digit by digit; names. No statement is proved here. -/
import Derived.Test.YtdkggahkfheocaaGreatDoorAsB
namespace Go.Proofs.YtdkggahkfheocaaGreatDoor
open Go.Lib

/-- A numeral of at most ten digits. -/
def valO (l : List UInt8) : Option Nat := if l.length ≤ 10 ∧ canB l = true then decNat l else none
theorem valO_some {l : List UInt8} {n : Nat} : valO l = some n ↔ decDigits n = l ∧ l.length ≤ 10 := by
  unfold valO
  constructor
  · intro h
    split at h
    · rename_i hc
      obtain ⟨hne, hd⟩ := decNat_some h
      exact ⟨can_back _ l rfl hc.2 n hd, hc.1⟩
    · cases h
  · rintro ⟨rfl, hl⟩
    rw [if_pos ⟨hl, digits_can n⟩, decNat_digits]
def valT (l : List UInt8) (lim : Int) : Bool := match valO l with
  | some n => decide ((n : Int) < lim)
  | none => false
def valN (l : List UInt8) : Int := match valO l with
  | some n => (n : Int)
  | none => 0
theorem val_no {l : List UInt8} (h : ¬ (l.length ≤ 10 ∧ canB l = true)) (lim : Int) : valN l = 0 ∧ valT l lim = false := by
  unfold valN valT valO
  rw [if_neg h]
  exact ⟨rfl, rfl⟩
theorem val_yes {l : List UInt8} {n : Nat} (h : l.length ≤ 10 ∧ canB l = true) (hd : decFrom 0 l = some n) (lim : Int) : valN l = n ∧ valT l lim = decide ((n : Int) < lim) := by
  unfold valN valT valO
  have hne : l.isEmpty = false := by
    cases l with
    | nil => exact absurd h.2 (by decide)
    | cons _ _ => rfl
  have : decNat l = some n := by unfold decNat; rw [hne]; exact hd
  rw [if_pos h, this]
  exact ⟨rfl, rfl⟩
end Go.Proofs.YtdkggahkfheocaaGreatDoor
