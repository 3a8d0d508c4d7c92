/- Contracts of the document's answer for layer isa: Form, Name, Op, has, field, May. No statement is proved here. -/
import Derived.Test.YtdkggahkfheocaaGreatDoorIsC
namespace Go.Proofs.YtdkggahkfheocaaGreatDoor
set_option maxRecDepth 100000
open Go.RowKit
set_option linter.unusedVariables false

theorem form_leaf {op k : Int} {l : List UInt8} (h : (op == k) = true) (e : formAt k = l) : l = formAt op := by
  obtain rfl : op = k := by simpa using h
  exact e.symm
theorem name_leaf {op k : Int} {l : List UInt8} (h : (op == k) = true) (e : nameAt k = l) : l = nameAt op := by
  obtain rfl : op = k := by simpa using h
  exact e.symm
def allOps : List Int := [1, 2, 3, 4, 5, 6, 7, 8, 9, 10, 11, 12, 13, 14, 15, 16, 17, 18, 19, 20, 21, 22, 23, 24, 25, 26, 27, 28, 29, 30, 31, 32, 33, 34, 35, 36, 37, 38, 39, 40, 41, 42, 43, 44, 45, 46, 47, 48, 49, 50, 51, 52, 53]
theorem allOps_mem : ∀ n : Nat, n < 54 → 1 ≤ n → (n : Int) ∈ allOps := by decide
def allF : List Int := [1, 2, 3, 4, 5, 6, 7, 8, 9, 10, 11, 12, 13, 14, 15, 16, 17, 18, 19, 20, 21, 22, 23, 24, 25, 26, 27, 28, 29, 30, 31, 32, 33, 34, 35, 36, 37, 38, 39, 40, 41, 42, 43, 44, 45, 46, 47, 48, 49, 50, 52]
theorem allF_mem : ∀ n : Nat, n < 54 → 1 ≤ n → (n : Int) ∈ allF ∨ formAt (n : Int) = [] := by decide
theorem out_of {op : Int} (h : ∀ k ∈ allOps, (op == k) = false) : ¬ (1 ≤ op ∧ op ≤ 53) := fun ⟨a, b⟩ => by
  obtain ⟨n, rfl⟩ := Int.eq_ofNat_of_zero_le (show 0 ≤ op by omega)
  have := h _ (allOps_mem n (by omega) (by omega))
  simp at this
theorem form_miss {op : Int} (h : ∀ k ∈ allF, (op == k) = false) : [] = formAt op := by
  by_cases hi : 1 ≤ op ∧ op ≤ 53
  · obtain ⟨n, rfl⟩ := Int.eq_ofNat_of_zero_le (show 0 ≤ op by omega)
    rcases allF_mem n (by omega) (by omega) with k | k
    · have := h _ k
      simp at this
    · exact k.symm
  · exact (formAt_out hi).symm
theorem name_miss {op : Int} (h : ∀ k ∈ allOps, (op == k) = false) : [] = nameAt op := (nameAt_out (out_of h)).symm

set_option maxHeartbeats 4000000 in
theorem rForm_any (op : Int) (w : World) : Calls Tryz.prog 34 #[.int .i64 op] w fun e w' => e = .returned (.string ⟨(formAt op).toArray⟩) ∧ w = w' := by
  obtain ⟨s, hs⟩ : ∃ s, s = formAt op := ⟨_, rfl⟩
  rw [← hs]
  replace hs := Lib.hid hs
  go_enter Tryz.func34, Tryz.ntmps34
  go_wp2
  all_goals
    go_ret
    rw [hs.out]
    first
    | exact ⟨ret_str (form_leaf (by assumption) rfl), rfl⟩
    | exact ⟨ret_str (form_miss (by unfold allF; simp only [List.forall_mem_cons]; refine ⟨?_, ?_, ?_, ?_, ?_, ?_, ?_, ?_, ?_, ?_, ?_, ?_, ?_, ?_, ?_, ?_, ?_, ?_, ?_, ?_, ?_, ?_, ?_, ?_, ?_, ?_, ?_, ?_, ?_, ?_, ?_, ?_, ?_, ?_, ?_, ?_, ?_, ?_, ?_, ?_, ?_, ?_, ?_, ?_, ?_, ?_, ?_, ?_, ?_, ?_, ?_, fun _ h => by cases h⟩ <;> assumption)), rfl⟩
set_option maxRecDepth 100000 in
set_option maxHeartbeats 4000000 in
theorem rName_any (op : Int) (w : World) : Calls Tryz.prog 33 #[.int .i64 op] w fun e w' => e = .returned (.string ⟨(nameAt op).toArray⟩) ∧ w = w' := by
  obtain ⟨s, hs⟩ : ∃ s, s = nameAt op := ⟨_, rfl⟩
  rw [← hs]
  replace hs := Lib.hid hs
  go_enter Tryz.func33, Tryz.ntmps33
  go_wp2
  all_goals
    go_ret
    rw [hs.out]
    first
    | exact ⟨ret_str (name_leaf (by assumption) rfl), rfl⟩
    | exact ⟨ret_str (name_miss (by unfold allOps; simp only [List.forall_mem_cons]; refine ⟨?_, ?_, ?_, ?_, ?_, ?_, ?_, ?_, ?_, ?_, ?_, ?_, ?_, ?_, ?_, ?_, ?_, ?_, ?_, ?_, ?_, ?_, ?_, ?_, ?_, ?_, ?_, ?_, ?_, ?_, ?_, ?_, ?_, ?_, ?_, ?_, ?_, ?_, ?_, ?_, ?_, ?_, ?_, ?_, ?_, ?_, ?_, ?_, ?_, ?_, ?_, ?_, ?_, fun _ h => by cases h⟩ <;> assumption)), rfl⟩
end Go.Proofs.YtdkggahkfheocaaGreatDoor
