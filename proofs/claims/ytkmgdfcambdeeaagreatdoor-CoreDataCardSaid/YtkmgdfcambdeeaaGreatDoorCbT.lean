/- How many tags are set (layer core's laws): the laws' own tagged. No statement is proved here. -/
import Derived.Test.YtkmgdfcambdeeaaGreatDoorPCAlP
import Derived.Deep.LoopGhost
namespace Go.Proofs.YtkmgdfcambdeeaaGreatDoor
set_option maxRecDepth 100000
open Go.RowKit
set_option linter.unusedVariables false
def tgN (f : Nat → Bool) (j : Nat) : Nat := (tgl f 0 (16 * j)).length
theorem tgN_le (f : Nat → Bool) (j : Nat) : tgN f j ≤ 16 * j := tgl_len f 0 (16 * j)
theorem tgN_step (f : Nat → Bool) (j : Nat) : tgN f (j + 1) = tgN f j + (tgl f (16 * j) 16).length := by
  unfold tgN
  rw [show 16 * (j + 1) = 16 * j + 16 by omega, tgl_add, List.length_append, Nat.zero_add]
theorem tgl_le {f h : Nat → Bool} {a : Nat} : ∀ {k : Nat}, (∀ j, j < k → h (a + j) = true → f (a + j) = true) → (tgl h a k).length ≤ (tgl f a k).length
  | 0, _ => Nat.le_refl _
  | k + 1, e => by
    have i := tgl_le (f := f) (h := h) (a := a) (k := k) (fun j hj => e j (by omega))
    have s := e k (by omega)
    rw [tgl, tgl, List.length_append, List.length_append]
    cases hh : h (a + k)
    · simp; omega
    · rw [s hh]; simp; omega
theorem tgl_one {f h : Nat → Bool} {a x : Nat} : ∀ {k : Nat}, (∀ j, j < k → a + j ≠ x → h (a + j) = true → f (a + j) = true) → (tgl h a k).length ≤ (tgl f a k).length + 1
  | 0, _ => Nat.zero_le _
  | k + 1, e => by
    by_cases hx : a + k = x
    · have i := tgl_le (f := f) (h := h) (a := a) (k := k) (fun j hj => e j (by omega) (by omega))
      rw [tgl, tgl, List.length_append, List.length_append]
      have : (if h (a + k) = true then [16 * (a + k)] else []).length ≤ 1 := by split <;> simp
      omega
    · have i := tgl_one (f := f) (h := h) (a := a) (x := x) (k := k) (fun j hj => e j (by omega))
      have s := e k (by omega) hx
      rw [tgl, tgl, List.length_append, List.length_append]
      cases hh : h (a + k)
      · simp; omega
      · rw [s hh]; simp; omega
set_option maxHeartbeats 4000000 in
theorem tagged_any {w : World} {a mb wb bb c : Nat} {f : Nat → Bool} {l : List UInt8} (H : ArAt w a mb wb bb c 4096 256 f l) :
    Calls Tryz.prog 23 #[.pointer (some ⟨a, 0, none⟩)] w fun e w' => e = .returned (.int .i64 (tgN f 16 : Nat)) ∧ Below w.heap.size w w' := by
  have hA := Lib.hid H
  clear H
  go_enter Tryz.func23, Tryz.ntmps23
  go_wp2_with fail
  go_loopw [3, 4] (fun s p wr => ∃ j : Nat, j ≤ 16 ∧ s = .int .i64 (tgN f j : Nat) ∧ p = .int .i64 (j : Int) ∧ Below w.heap.size w wr) (fun _ p _ => 17 - (intOf p).toNat)
  case atStart => exact ⟨0, by omega, rfl, rfl, Below.refl _ _⟩
  case round =>
    obtain ⟨j, hj, rfl, rfl, hB⟩ := hrel
    have B1 := Lib.hid hB
    clear hB
    go_wp2_with fail
    refine (asize_any (hA.out.below B1.out)).mono ?_
    rintro e w2 ⟨rfl, k⟩
    have B2 := Lib.hid (B1.out.trans (k.mono B1.out.size))
    clear k
    have e16 : ((4096 : Nat) : Int) / 256 = 16 := by decide
    have e17 : (((4096 : Nat) : Int)).tdiv 256 = 16 := by decide
    by_cases hlt : j < 16
    · have jl : (j : Int) < 16 := by omega
      have hN := Lib.hid (tgN_step f j)
      have hle := tgN_le f j
      have hle2 : ((tgN f j : Nat) : Int) ≤ 256 := by omega
      go_wp2_with fail
      refine (atag_any (hA.out.below B2.out) (by decide) (j : Int) (by omega)).mono ?_
      intro e w5 hL
      obtain ⟨vv, rfl, o, kb⟩ := hL
      obtain ⟨Aq, c8, rfl, hc8, hform⟩ := list_form6 o
      have B5 := Lib.hid (B2.out.trans (kb.mono B2.out.size))
      clear kb o hform
      rw [tgP_page (by omega)] at hc8 ⊢
      have hl2 := tgl_len f (16 * j) 16
      have hl3 : ((((tgl f (16 * j) 16).length : Nat)) : Int) ≤ 16 := by omega
      obtain ⟨ln, hln⟩ : ∃ ln, ln = (tgl f (16 * j) 16).length := ⟨_, rfl⟩
      rw [← hln] at hN hc8 hl2 hl3 ⊢
      clear hln
      go_wp2_with fail
      go_roundw
      case rel => exact ⟨j + 1, by omega, by rw [hN.out]; go_num, by go_num, B5.out⟩
      case measure => simp [intOf]; omega
    · obtain rfl : j = 16 := by omega
      go_wp2_with fail
      go_ret
      exact ⟨rfl, B2.out⟩
/-- What is stored, but by OpSc of a valid capability, sets no tag; what OpSc stores sets one. -/
theorem doG_le {F : List Cp} {i : Ins} {N : Nat} {f : Nat → Bool} (h : i.op ≠ 24 ∨ (reg F i.a.toNat).va = false) (y : Nat) (hy : doG F i N f y = true) : f y = true := by
  unfold doG at hy
  split at hy
  · unfold stoF at hy
    split at hy
    · rename_i h24
      have hv : (reg F i.a.toNat).va = false := h.elim (fun q => absurd h24 q) id
      rw [hv, Bool.false_and] at hy
      unfold scF at hy
      split at hy
      · unfold upd at hy
        split at hy
        · cases hy
        · unfold clr at hy
          rw [Bool.and_eq_true] at hy
          exact hy.1
      · exact hy
    · unfold stF at hy
      split at hy
      · unfold clr at hy
        rw [Bool.and_eq_true] at hy
        exact hy.1
      · exact hy
  · exact hy
theorem doG_one {F : List Cp} {i : Ins} {N : Nat} {f : Nat → Bool} : ∃ x, ∀ y, y ≠ x → doG F i N f y = true → f y = true := by
  by_cases h : i.op ≠ 24
  · exact ⟨0, fun y _ hy => doG_le (.inl h) y hy⟩
  refine ⟨atN F i.b.toNat i.m / 16, fun y hx hy => ?_⟩
  have h24 : i.op = 24 := Decidable.not_not.1 h
  unfold doG at hy
  split at hy
  · unfold stoF at hy
    rw [if_pos h24] at hy
    unfold scF at hy
    split at hy
    · unfold upd at hy
      rw [if_neg hx] at hy
      unfold clr at hy
      rw [Bool.and_eq_true] at hy
      exact hy.1
    · exact hy
  · exact hy
theorem tgN_mono {F : List Cp} {i : Ins} {N : Nat} {f : Nat → Bool} (h : i.op ≠ 24 ∨ (reg F i.a.toNat).va = false) : tgN (doG F i N f) 16 ≤ tgN f 16 :=
  tgl_le (fun j _ hj => doG_le h _ hj)
theorem tgN_succ (F : List Cp) (i : Ins) (N : Nat) (f : Nat → Bool) : tgN (doG F i N f) 16 ≤ tgN f 16 + 1 := by
  obtain ⟨x, hx⟩ := doG_one (F := F) (i := i) (N := N) (f := f)
  exact tgl_one (x := x) (fun j _ h1 h2 => hx _ h1 h2)
end Go.Proofs.YtkmgdfcambdeeaaGreatDoor
