/- The laws' helpers of layer alu, and the document's answers. No statement is proved here. -/
import Derived.Test.YtjkeflldbmiohaaAlB
namespace Go.Proofs.Ytjkeflldbmiohaa
set_option maxRecDepth 100000
open Go.RowKit
set_option linter.unusedVariables false

theorem valR_lt (op : Int) (a b : Nat) (ha : a < 4294967296) (hb : b < 4294967296) : valR op a b < 4294967296 := by
  unfold valR
  split
  · unfold wayR
    split
    · omega
    · omega
    · omega
    · exact Nat.lt_of_le_of_lt (Nat.div_le_self _ _) ha
    · exact Nat.lt_of_le_of_lt (Nat.mod_le _ _) ha
    · exact Nat.lt_of_le_of_lt Nat.and_le_left ha
    · exact Nat.or_lt_two_pow (n := 32) ha hb
    · exact Nat.xor_lt_two_pow (n := 32) ha hb
    · omega
    · exact Nat.lt_of_le_of_lt (Nat.div_le_self _ _) ha
    · unfold oneN; split <;> omega
    · unfold oneN; split <;> omega
    · unfold oneN; split <;> omega
    · omega
  · omega
/-- What the laws take. -/
def ofR (op : Int) (a b : Nat) : Nat := valR op a b
theorem of_any (op : Int) (a b : Nat) (ha : a < 4294967296) (hb : b < 4294967296) (W : World) :
    Calls Try.prog 15 #[.int .i64 op, .int .u32 a, .int .u32 b] W fun e w' => e = .returned (.int .u32 (valR op a b : Nat)) ∧ Below W.heap.size W w' := by
  have hR := reckon_any op a b ha hb W
  have h0 : isR op = false → valR op a b = 0 := fun h => by unfold valR; rw [if_neg (by simp [h])]
  have h1 : trapR op b ≠ 0 → valR op a b = 0 := fun h => by
    unfold valR trapR at *
    rw [if_neg]
    intro hh
    rw [hh.2] at h
    exact h rfl
  generalize valR op a b = V at *
  generalize trapR op b = T at *
  generalize isR op = I at *
  have hV : V = 0 ∨ (T = 0 ∧ I = true) := by
    cases I
    · exact .inl (h0 rfl)
    · by_cases hT : T = 0
      · exact .inr ⟨hT, rfl⟩
      · exact .inl (h1 hT)
  clear h0 h1
  obtain ⟨Z, hZ⟩ : ∃ Z : Int, Z = (V : Int) := ⟨_, rfl⟩
  rw [← hZ] at hR ⊢
  replace hV : Z = 0 ∨ (T = 0 ∧ I = true) := by
    rcases hV with h | h
    · exact .inl (by omega)
    · exact .inr h
  clear hZ
  replace hR := Lib.hid hR
  rcases hV with rfl | ⟨rfl, rfl⟩
  · go_enter Try.func15, Try.ntmps15
    go_wp2_with fail
    refine hR.out.mono ?_
    rintro e w1 ⟨rfl, hb⟩
    replace hb := Lib.hid hb
    go_wp2
    all_goals go_ret
    all_goals exact ⟨rfl, hb.out⟩
  · go_enter Try.func15, Try.ntmps15
    go_wp2_with fail
    refine hR.out.mono ?_
    rintro e w1 ⟨rfl, hb⟩
    replace hb := Lib.hid hb
    go_wp2
    go_ret
    exact ⟨rfl, hb.out⟩
theorem of_is (op : Int) (a b v : Nat) (ha : a < 4294967296) (hb : b < 4294967296) (h : valR op a b = v) (w : World) :
    Calls Try.prog 15 #[.int .i64 op, .int .u32 a, .int .u32 b] w fun e w' => e = .returned (.int .u32 v) ∧ Below w.heap.size w w' := h ▸ of_any op a b ha hb w
theorem works_any (W : World) : Calls Try.prog 12 #[] W fun e w' => e = .returned (.bool true) ∧ Below W.heap.size W w' := by
  have R1 := Lib.hid (fun w => (reckon_any 6 1 0 (by decide) (by decide) w).mono fun e w' h => (⟨h.1.trans (by kernel_rfl), h.2⟩ : e = .returned (.tuple #[.int .u32 0, .int .i64 7, .bool true]) ∧ Below w.heap.size w w'))
  have O1 := Lib.hid (fun w => (of_any 3 2 3 (by decide) (by decide) w).mono fun e w' h => (⟨h.1.trans (by kernel_rfl), h.2⟩ : e = .returned (.int .u32 5) ∧ Below w.heap.size w w'))
  have O2 := Lib.hid (fun w => (of_any 6 7 2 (by decide) (by decide) w).mono fun e w' h => (⟨h.1.trans (by kernel_rfl), h.2⟩ : e = .returned (.int .u32 3) ∧ Below w.heap.size w w'))
  go_enter Try.func12, Try.ntmps12
  go_wp2_with fail
  refine (R1.out _).mono ?_
  rintro e w1 ⟨rfl, h1⟩
  replace h1 := Lib.hid h1
  go_wp2_with fail
  refine (O1.out _).mono ?_
  rintro e w2 ⟨rfl, h2⟩
  replace h1 := Lib.hid (h1.out.trans (h2.mono h1.out.size))
  clear h2
  go_wp2_with fail
  refine (O2.out _).mono ?_
  rintro e w3 ⟨rfl, h2⟩
  replace h1 := Lib.hid (h1.out.trans (h2.mono h1.out.size))
  clear h2
  go_wp2
  go_ret
  exact ⟨rfl, h1.out⟩

/-! The document's side. -/
theorem one_any (t : Bool) (w : World) : Calls Try.prog 19 #[.bool t] w fun e w' => e = .returned (.int .u32 (oneN t : Nat)) ∧ w = w' := by
  go_enter Try.func19, Try.ntmps19
  cases t <;> go_wp2 <;> go_ret <;> exact ⟨rfl, rfl⟩
theorem signed_any (a : Nat) (ha : a < 4294967296) (w : World) : Calls Try.prog 20 #[.int .u32 a] w fun e w' => e = .returned (.int .i64 (sg a)) ∧ w = w' := by
  obtain ⟨A, hA⟩ : ∃ A : Int, A = (a : Int) := ⟨_, rfl⟩
  have h0 : 0 ≤ A := by omega
  have h1 : A < 4294967296 := by omega
  obtain ⟨S, hS⟩ : ∃ S : Int, S = sg a := ⟨_, rfl⟩
  have h2 : A < 2147483648 → S = A := fun h => by rw [hS, hA]; unfold sg; rw [if_pos (by omega)]
  have h3 : ¬ A < 2147483648 → S = A - 4294967296 := fun h => by rw [hS, hA]; unfold sg; rw [if_neg (by omega)]
  rw [← hA, ← hS]
  clear hA hS ha
  replace h2 := Lib.hid h2
  replace h3 := Lib.hid h3
  go_enter Try.func20, Try.ntmps20
  go_wp2
  · go_ret
    exact ⟨ret_int (h2.out (by omega)).symm, rfl⟩
  · go_ret
    exact ⟨ret_int (h3.out (by omega)).symm, rfl⟩
theorem rtakes_any (op : Int) (a b : Nat) (ha : a < 4294967296) (hb : b < 4294967296) (W : World) :
    Calls Try.prog 14 #[.int .i64 op, .int .u32 a, .int .u32 b] W fun e w' => e = .returned (.tuple #[.bool (takeR op a b), .bool (isT op)]) ∧ W = w' := by
  go_enter Try.func14, Try.ntmps14
  go_wp2_with fail
  all_goals try (refine (signed_any _ ha _).mono ?_; rintro e w1 ⟨rfl, rfl⟩; go_wp2_with fail)
  all_goals try (refine (signed_any _ hb _).mono ?_; rintro e w1 ⟨rfl, rfl⟩; go_wp2_with fail)
  all_goals go_ret2
  all_goals refine ⟨?_, rfl⟩
  all_goals simp only [beq_iff_eq, beq_eq_false_iff_ne, ne_eq] at *
  · refine ret_bb ?_ ?_ <;> simp_all [takeR, isT] <;> first | rfl | (rw [Bool.eq_iff_iff]; simp; done) | (rw [Bool.eq_iff_iff]; simp; omega)
  · refine ret_bb ?_ ?_ <;> simp_all [takeR, isT] <;> first | rfl | (rw [Bool.eq_iff_iff]; simp; done) | (rw [Bool.eq_iff_iff]; simp; omega)
  · refine ret_bb ?_ ?_ <;> simp_all [takeR, isT] <;> first | rfl | (rw [Bool.eq_iff_iff]; simp; done) | (rw [Bool.eq_iff_iff]; simp; omega)
  · refine ret_bb ?_ ?_ <;> simp_all [takeR, isT] <;> first | rfl | (rw [Bool.eq_iff_iff]; simp; done) | (rw [Bool.eq_iff_iff]; simp; omega)
  · refine ret_bb ?_ ?_
    · unfold takeR
      repeat' rw [if_neg (by assumption)]
    · exact (decide_eq_false (by omega)).symm
end Go.Proofs.Ytjkeflldbmiohaa
