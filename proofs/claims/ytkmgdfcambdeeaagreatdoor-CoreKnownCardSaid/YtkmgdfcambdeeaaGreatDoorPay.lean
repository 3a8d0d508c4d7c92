/- The document's memory (layer core), where it loads. No statement is proved here. -/
import Derived.Test.YtkmgdfcambdeeaaGreatDoorPav
import Derived.Test.YtkmgdfcambdeeaaGreatDoorPaw
namespace Go.Proofs.YtkmgdfcambdeeaaGreatDoor
set_option maxRecDepth 100000
open Go.RowKit
set_option linter.unusedVariables false
/-- The address of a way by register B. -/
def atN (F : List Cp) (B : Nat) (m : Int) : Nat := (((((reg F B).cu : Nat) : Int) + m % 4294967296) % 4294967296).toNat
theorem atN_lt (F : List Cp) (B : Nat) (m : Int) : atN F B m < 4294967296 := by unfold atN; omega
/-- The capability that stands in the bytes of an arena. -/
def ldC (l : List UInt8) (f : Nat → Bool) (a : Nat) : Cp := ⟨nm ((l.drop a).take 16) 0 4, nm ((l.drop a).take 16) 4 1, nm ((l.drop a).take 16) 5 2, nm ((l.drop a).take 16) 7 2, nm ((l.drop a).take 16) 9 2, nm ((l.drop a).take 16) 11 2, nm ((l.drop a).take 16) 13 3,
  f (a / 16) && sndP (nm ((l.drop a).take 16) 4 1) (nm ((l.drop a).take 16) 5 2) (nm ((l.drop a).take 16) 7 2) (nm ((l.drop a).take 16) 9 2) (nm ((l.drop a).take 16) 11 2) (nm ((l.drop a).take 16) 13 3)⟩
/-- What a load answers. -/
def ldV (l : List UInt8) (f : Nat → Bool) (b : Cp) (a : Nat) (op : Int) (n : Nat) : Cp := if op = 23 then (if b.pm &&& 8 = 0 then cClear (ldC l f a) else ldC l f a) else numC (getB l a n)
theorem way_open {c : Cp} {a n pm N : Nat} (h : wayT c a n pm N = 0) : a + n ≤ N ∧ a % n = 0 := by
  unfold wayT at h
  by_cases h1 : c.va = false
  · rw [if_pos h1] at h; omega
  rw [if_neg h1] at h
  by_cases h2 : c.ty ≠ 0
  · rw [if_pos h2] at h; omega
  rw [if_neg h2] at h
  by_cases h3 : c.pm &&& pm ≠ pm
  · rw [if_pos h3] at h; omega
  rw [if_neg h3] at h
  by_cases h4 : hoP c.lo c.hi a n = false ∨ N < a + n
  · rw [if_pos h4] at h; omega
  rw [if_neg h4] at h
  by_cases h5 : a % n ≠ 0
  · rw [if_pos h5] at h; omega
  exact ⟨by omega, by omega⟩
section
variable {W : World} {r rb tb N g : Nat} {f : Nat → Bool} {l : List UInt8}
end
end Go.Proofs.YtkmgdfcambdeeaaGreatDoor
