/- Contracts of layer isa's leaves: isOp, opField, fieldOf, partOf, mask, Name, Form. No statement is proved here. -/
import Derived.Test.YtdkggahkfheocaaGreatDoorChecked
import Derived.Test.YtdkggahkfheocaaGreatDoorIsM
import Derived.Test.YtdkggahkfheocaaGreatDoorRow0
import Derived.WalkSpells
import Derived.WalkLawsBesides
import Derived.Deep.QuietTactic
import Derived.BigQuiet
import Derived.Handy
namespace Go.Proofs.YtdkggahkfheocaaGreatDoor
open Go.RowKit
set_option linter.unusedVariables false

theorem isOp_yes (op : Int) (w : World) (h0 : 1 ≤ op) (h1 : op ≤ 53) : Calls Tryz.prog 67 #[.int .i64 op] w fun e w' => e = .returned (.bool true) ∧ w = w' := by
  have h2 : 0 < op := by omega
  go_enter Tryz.func67, Tryz.ntmps67
  go_wp2
  go_ret
  exact ⟨rfl, rfl⟩
theorem isOp_no (op : Int) (w : World) (h : ¬ (1 ≤ op ∧ op ≤ 53)) : Calls Tryz.prog 67 #[.int .i64 op] w fun e w' => e = .returned (.bool false) ∧ w = w' := by
  by_cases h0 : 0 < op
  · have h1 : ¬ op ≤ 53 := by omega
    clear h
    go_enter Tryz.func67, Tryz.ntmps67
    go_wp2
    go_ret
    exact ⟨rfl, rfl⟩
  · clear h
    go_enter Tryz.func67, Tryz.ntmps67
    go_wp2
    go_ret
    exact ⟨rfl, rfl⟩
theorem isOp_any (op : Int) (w : World) : Calls Tryz.prog 67 #[.int .i64 op] w fun e w' => e = .returned (.bool (decide (1 ≤ op ∧ op ≤ 53))) ∧ w = w' := by
  by_cases h : 1 ≤ op ∧ op ≤ 53
  · rw [decide_eq_true h]; exact isOp_yes op w h.1 h.2
  · rw [decide_eq_false h]; exact isOp_no op w h

theorem opField_any (w : World) : Calls Tryz.prog 64 #[] w fun e w' => e = .returned (.agg #[.int .i64 24, .int .i64 8, .int .i64 0]) ∧ Below w.heap.size w w' := by
  go_enter Tryz.func64, Tryz.ntmps64
  go_wp2
  exact bodyPost_ret (v := .agg #[.int .i64 24, .int .i64 8, .int .i64 0]) (by simp [results, Tryz.results64, go_sem]) rfl ⟨rfl, by go_grown⟩
theorem fieldOf_a (w : World) : Calls Tryz.prog 65 #[.int .i32 97] w fun e w' => e = .returned (.agg #[.int .i64 20, .int .i64 4, .int .i64 0]) ∧ Below w.heap.size w w' := by
  go_enter Tryz.func65, Tryz.ntmps65
  go_wp2
  exact bodyPost_ret (v := .agg #[.int .i64 20, .int .i64 4, .int .i64 0]) (by simp [results, Tryz.results65, go_sem]) rfl ⟨rfl, by go_grown⟩
theorem fieldOf_b (w : World) : Calls Tryz.prog 65 #[.int .i32 98] w fun e w' => e = .returned (.agg #[.int .i64 16, .int .i64 4, .int .i64 0]) ∧ Below w.heap.size w w' := by
  go_enter Tryz.func65, Tryz.ntmps65
  go_wp2
  exact bodyPost_ret (v := .agg #[.int .i64 16, .int .i64 4, .int .i64 0]) (by simp [results, Tryz.results65, go_sem]) rfl ⟨rfl, by go_grown⟩
theorem fieldOf_c (w : World) : Calls Tryz.prog 65 #[.int .i32 99] w fun e w' => e = .returned (.agg #[.int .i64 12, .int .i64 4, .int .i64 0]) ∧ Below w.heap.size w w' := by
  go_enter Tryz.func65, Tryz.ntmps65
  go_wp2
  exact bodyPost_ret (v := .agg #[.int .i64 12, .int .i64 4, .int .i64 0]) (by simp [results, Tryz.results65, go_sem]) rfl ⟨rfl, by go_grown⟩
theorem fieldOf_i (w : World) : Calls Tryz.prog 65 #[.int .i32 105] w fun e w' => e = .returned (.agg #[.int .i64 0, .int .i64 12, .int .i64 (-2048)]) ∧ Below w.heap.size w w' := by
  go_enter Tryz.func65, Tryz.ntmps65
  go_wp2
  exact bodyPost_ret (v := .agg #[.int .i64 0, .int .i64 12, .int .i64 (-2048)]) (by simp [results, Tryz.results65, go_sem]) rfl ⟨rfl, by go_grown⟩
theorem fieldOf_j (w : World) : Calls Tryz.prog 65 #[.int .i32 106] w fun e w' => e = .returned (.agg #[.int .i64 0, .int .i64 20, .int .i64 (-524288)]) ∧ Below w.heap.size w w' := by
  go_enter Tryz.func65, Tryz.ntmps65
  go_wp2
  exact bodyPost_ret (v := .agg #[.int .i64 0, .int .i64 20, .int .i64 (-524288)]) (by simp [results, Tryz.results65, go_sem]) rfl ⟨rfl, by go_grown⟩
theorem partOf_a (g : Nat) (w : World) : Calls Tryz.prog 66 #[.pointer (some ⟨g, 0, none⟩), .int .i32 97] w fun e w' => e = .returned (.pointer (some ⟨g, 1, none⟩)) ∧ w = w' := by
  go_enter Tryz.func66, Tryz.ntmps66
  go_wp2
  go_ret
  exact ⟨rfl, rfl⟩
theorem partOf_b (g : Nat) (w : World) : Calls Tryz.prog 66 #[.pointer (some ⟨g, 0, none⟩), .int .i32 98] w fun e w' => e = .returned (.pointer (some ⟨g, 2, none⟩)) ∧ w = w' := by
  go_enter Tryz.func66, Tryz.ntmps66
  go_wp2
  go_ret
  exact ⟨rfl, rfl⟩
theorem partOf_c (g : Nat) (w : World) : Calls Tryz.prog 66 #[.pointer (some ⟨g, 0, none⟩), .int .i32 99] w fun e w' => e = .returned (.pointer (some ⟨g, 3, none⟩)) ∧ w = w' := by
  go_enter Tryz.func66, Tryz.ntmps66
  go_wp2
  go_ret
  exact ⟨rfl, rfl⟩
theorem partOf_i (g : Nat) (w : World) : Calls Tryz.prog 66 #[.pointer (some ⟨g, 0, none⟩), .int .i32 105] w fun e w' => e = .returned (.pointer (some ⟨g, 4, none⟩)) ∧ w = w' := by
  go_enter Tryz.func66, Tryz.ntmps66
  go_wp2
  go_ret
  exact ⟨rfl, rfl⟩
theorem partOf_j (g : Nat) (w : World) : Calls Tryz.prog 66 #[.pointer (some ⟨g, 0, none⟩), .int .i32 106] w fun e w' => e = .returned (.pointer (some ⟨g, 4, none⟩)) ∧ w = w' := by
  go_enter Tryz.func66, Tryz.ntmps66
  go_wp2
  go_ret
  exact ⟨rfl, rfl⟩
theorem mask_o (w : World) : Calls Tryz.prog 63 #[.agg #[.int .i64 24, .int .i64 8, .int .i64 0]] w fun e w' => e = .returned (.int .u32 255) ∧ Below w.heap.size w w' := by
  go_enter Tryz.func63, Tryz.ntmps63
  go_wp2
  go_ret
  exact ⟨rfl, by go_grown⟩
theorem mask_a (w : World) : Calls Tryz.prog 63 #[.agg #[.int .i64 20, .int .i64 4, .int .i64 0]] w fun e w' => e = .returned (.int .u32 15) ∧ Below w.heap.size w w' := by
  go_enter Tryz.func63, Tryz.ntmps63
  go_wp2
  go_ret
  exact ⟨rfl, by go_grown⟩
theorem mask_b (w : World) : Calls Tryz.prog 63 #[.agg #[.int .i64 16, .int .i64 4, .int .i64 0]] w fun e w' => e = .returned (.int .u32 15) ∧ Below w.heap.size w w' := by
  go_enter Tryz.func63, Tryz.ntmps63
  go_wp2
  go_ret
  exact ⟨rfl, by go_grown⟩
theorem mask_c (w : World) : Calls Tryz.prog 63 #[.agg #[.int .i64 12, .int .i64 4, .int .i64 0]] w fun e w' => e = .returned (.int .u32 15) ∧ Below w.heap.size w w' := by
  go_enter Tryz.func63, Tryz.ntmps63
  go_wp2
  go_ret
  exact ⟨rfl, by go_grown⟩
theorem mask_i (w : World) : Calls Tryz.prog 63 #[.agg #[.int .i64 0, .int .i64 12, .int .i64 (-2048)]] w fun e w' => e = .returned (.int .u32 4095) ∧ Below w.heap.size w w' := by
  go_enter Tryz.func63, Tryz.ntmps63
  go_wp2
  go_ret
  exact ⟨rfl, by go_grown⟩
theorem mask_j (w : World) : Calls Tryz.prog 63 #[.agg #[.int .i64 0, .int .i64 20, .int .i64 (-524288)]] w fun e w' => e = .returned (.int .u32 1048575) ∧ Below w.heap.size w w' := by
  go_enter Tryz.func63, Tryz.ntmps63
  go_wp2
  go_ret
  exact ⟨rfl, by go_grown⟩
end Go.Proofs.YtdkggahkfheocaaGreatDoor
