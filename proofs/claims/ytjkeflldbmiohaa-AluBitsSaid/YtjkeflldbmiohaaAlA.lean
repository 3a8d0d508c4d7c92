/- Layer alu: the ways, order, oneIf, and the row of an operation. Plain contracts; no statement is proved here. -/
import Derived.Test.YtjkeflldbmiohaaProg
import Derived.Test.YtjkeflldbmiohaaMem
import Derived.ProofKit
import Derived.BigFrame
import Derived.BigQuiet
import Derived.LoopTactic
import Derived.Handy
import Derived.Laws.BitsAllLaws
import Derived.WalkSmall
namespace Go.Proofs.Ytjkeflldbmiohaa
set_option maxRecDepth 100000
open Go.RowKit
set_option linter.unusedVariables false

/-- A signed number. -/
def sg (a : Nat) : Int := if a < 2147483648 then (a : Int) else (a : Int) - 4294967296
theorem wrap_sg {a : Nat} (h : a < 4294967296) : wrap32 (a : Int) = sg a := by
  unfold wrap32 sg
  split <;> omega
/-- 1, if it is so. -/
def oneN (t : Bool) : Nat := if t then 1 else 0

theorem oneIf_any (t : Bool) (w : World) : Calls Try.prog 34 #[.bool t] w fun e w' => e = .returned (.int .u32 (oneN t : Nat)) ∧ w = w' := by
  go_enter Try.func34, Try.ntmps34
  cases t <;> go_wp2 <;> go_ret <;> exact ⟨rfl, rfl⟩
/-- How two stand to one another. -/
def ordI (a b : Int) : Int := if a < b then -1 else if b < a then 1 else 0
theorem orderU_any (a b : Int) (w : World) : Calls Try.prog 21 #[.int .u32 a, .int .u32 b] w fun e w' => e = .returned (.int .i64 (ordI a b)) ∧ w = w' := by
  go_enter Try.func21, Try.ntmps21
  go_wp2
  · go_ret
    exact ⟨ret_int (by unfold ordI; split <;> omega), rfl⟩
  · go_ret
    exact ⟨ret_int (by unfold ordI; repeat' split <;> omega), rfl⟩
  · go_ret
    exact ⟨ret_int (by unfold ordI; repeat' split <;> omega), rfl⟩
theorem orderS_any (a b : Int) (w : World) : Calls Try.prog 22 #[.int .i32 a, .int .i32 b] w fun e w' => e = .returned (.int .i64 (ordI a b)) ∧ w = w' := by
  go_enter Try.func22, Try.ntmps22
  go_wp2
  · go_ret
    exact ⟨ret_int (by unfold ordI; split <;> omega), rfl⟩
  · go_ret
    exact ⟨ret_int (by unfold ordI; repeat' split <;> omega), rfl⟩
  · go_ret
    exact ⟨ret_int (by unfold ordI; repeat' split <;> omega), rfl⟩
theorem ord_lt {a b : Int} : decide (ordI a b < 0) = decide (a < b) := by
  unfold ordI; split
  · simp [*]
  · split <;> simp [*]
theorem ord_eq {a b : Int} : (ordI a b == 0) = decide (a = b) := by
  unfold ordI; split
  · simp; omega
  · split
    · simp; omega
    · simp; omega

theorem add_any (a b : Nat) (ha : a < 4294967296) (hb : b < 4294967296) (w : World) : Calls Try.prog 23 #[.int .u32 a, .int .u32 b] w fun e w' => e = .returned (.int .u32 ((a + b) % 4294967296 : Nat)) ∧ w = w' := by
  go_enter Try.func23, Try.ntmps23
  go_wp2
  go_ret
  exact ⟨ret_int (by omega), rfl⟩
theorem sub_any (a b : Nat) (ha : a < 4294967296) (hb : b < 4294967296) (w : World) : Calls Try.prog 24 #[.int .u32 a, .int .u32 b] w fun e w' => e = .returned (.int .u32 ((a + (4294967296 - b)) % 4294967296 : Nat)) ∧ w = w' := by
  go_enter Try.func24, Try.ntmps24
  go_wp2
  go_ret
  exact ⟨ret_int (by omega), rfl⟩
theorem mul_any (a b : Nat) (ha : a < 4294967296) (hb : b < 4294967296) (w : World) : Calls Try.prog 25 #[.int .u32 a, .int .u32 b] w fun e w' => e = .returned (.int .u32 (a * b % 4294967296 : Nat)) ∧ w = w' := by
  go_enter Try.func25, Try.ntmps25
  go_wp2
  go_ret
  exact ⟨ret_int (by simp), rfl⟩
theorem div_any (a b : Nat) (ha : a < 4294967296) (hb : b < 4294967296) (w : World) (h : b ≠ 0) : Calls Try.prog 26 #[.int .u32 a, .int .u32 b] w fun e w' => e = .returned (.int .u32 (a / b : Nat)) ∧ w = w' := by
  have h0 : ¬ (b : Int) = 0 := by omega
  go_enter Try.func26, Try.ntmps26
  go_wp2
  go_ret
  refine ⟨ret_int ?_, rfl⟩
  have := Nat.div_le_self a b
  have e : ((a : Int) / (b : Int)) = ((a / b : Nat) : Int) := (Int.natCast_ediv a b).symm
  rw [e]
  generalize a / b = q at this ⊢
  omega
theorem rem_any (a b : Nat) (ha : a < 4294967296) (hb : b < 4294967296) (w : World) (h : b ≠ 0) : Calls Try.prog 27 #[.int .u32 a, .int .u32 b] w fun e w' => e = .returned (.int .u32 (a % b : Nat)) ∧ w = w' := by
  have h0 : ¬ (b : Int) = 0 := by omega
  go_enter Try.func27, Try.ntmps27
  go_wp2
  go_ret
  exact ⟨ret_int rfl, rfl⟩
theorem and_any (a b : Nat) (ha : a < 4294967296) (hb : b < 4294967296) (w : World) : Calls Try.prog 28 #[.int .u32 a, .int .u32 b] w fun e w' => e = .returned (.int .u32 (a &&& b : Nat)) ∧ w = w' := by
  go_enter Try.func28, Try.ntmps28
  go_wp2
  go_ret
  exact ⟨ret_int (u32_and_nat a b ha hb), rfl⟩
theorem or_any (a b : Nat) (ha : a < 4294967296) (hb : b < 4294967296) (w : World) : Calls Try.prog 29 #[.int .u32 a, .int .u32 b] w fun e w' => e = .returned (.int .u32 (a ||| b : Nat)) ∧ w = w' := by
  go_enter Try.func29, Try.ntmps29
  go_wp2
  go_ret
  exact ⟨ret_int (u32_or_nat a b ha hb), rfl⟩
theorem xor_any (a b : Nat) (ha : a < 4294967296) (hb : b < 4294967296) (w : World) : Calls Try.prog 30 #[.int .u32 a, .int .u32 b] w fun e w' => e = .returned (.int .u32 (a ^^^ b : Nat)) ∧ w = w' := by
  go_enter Try.func30, Try.ntmps30
  go_wp2
  go_ret
  exact ⟨ret_int (u32_xor_nat a b ha hb), rfl⟩
theorem shl_any (a b : Nat) (ha : a < 4294967296) (hb : b < 4294967296) (w : World) : Calls Try.prog 31 #[.int .u32 a, .int .u32 b] w fun e w' => e = .returned (.int .u32 (a * 2 ^ (b % 32) % 4294967296 : Nat)) ∧ w = w' := by
  obtain ⟨m, hm, h1⟩ : ∃ m : Nat, m = b % 32 ∧ m < 32 := ⟨_, rfl, Nat.mod_lt _ (by decide)⟩
  have e : ((b : Int).tmod 32) = (m : Int) := by rw [hm]; rfl
  rw [← hm]
  go_enter Try.func31, Try.ntmps31
  go_wp2
  go_ret
  refine ⟨ret_int ?_, rfl⟩
  rw [hm]
  simp
theorem shr_any (a b : Nat) (ha : a < 4294967296) (hb : b < 4294967296) (w : World) : Calls Try.prog 32 #[.int .u32 a, .int .u32 b] w fun e w' => e = .returned (.int .u32 (a / 2 ^ (b % 32) : Nat)) ∧ w = w' := by
  obtain ⟨m, hm, h1⟩ : ∃ m : Nat, m = b % 32 ∧ m < 32 := ⟨_, rfl, Nat.mod_lt _ (by decide)⟩
  have e : ((b : Int).tmod 32) = (m : Int) := by rw [hm]; rfl
  rw [← hm]
  go_enter Try.func32, Try.ntmps32
  go_wp2
  go_ret
  refine ⟨ret_int ?_, rfl⟩
  rw [hm]
  simp
theorem lt_any (a b : Nat) (ha : a < 4294967296) (hb : b < 4294967296) (w : World) : Calls Try.prog 33 #[.int .u32 a, .int .u32 b] w fun e w' => e = .returned (.int .u32 (oneN (decide (sg a < sg b)) : Nat)) ∧ w = w' := by
  go_enter Try.func33, Try.ntmps33
  go_wp2_with fail
  refine (orderS_any _ _ _).mono ?_
  rintro e w1 ⟨rfl, rfl⟩
  go_wp2_with fail
  refine (oneIf_any _ _).mono ?_
  rintro e w1 ⟨rfl, rfl⟩
  go_wp2
  go_ret
  rw [ord_lt, wrap_sg ha, wrap_sg hb]
  exact ⟨rfl, rfl⟩
theorem ltu_any (a b : Nat) (ha : a < 4294967296) (hb : b < 4294967296) (w : World) : Calls Try.prog 35 #[.int .u32 a, .int .u32 b] w fun e w' => e = .returned (.int .u32 (oneN (decide (a < b)) : Nat)) ∧ w = w' := by
  go_enter Try.func35, Try.ntmps35
  go_wp2_with fail
  refine (orderU_any _ _ _).mono ?_
  rintro e w1 ⟨rfl, rfl⟩
  go_wp2_with fail
  refine (oneIf_any _ _).mono ?_
  rintro e w1 ⟨rfl, rfl⟩
  go_wp2
  go_ret
  rw [ord_lt]
  exact ⟨by simp, rfl⟩
theorem eq_any (a b : Nat) (ha : a < 4294967296) (hb : b < 4294967296) (w : World) : Calls Try.prog 36 #[.int .u32 a, .int .u32 b] w fun e w' => e = .returned (.int .u32 (oneN (decide (a = b)) : Nat)) ∧ w = w' := by
  go_enter Try.func36, Try.ntmps36
  go_wp2_with fail
  refine (orderU_any _ _ _).mono ?_
  rintro e w1 ⟨rfl, rfl⟩
  go_wp2_with fail
  refine (oneIf_any _ _).mono ?_
  rintro e w1 ⟨rfl, rfl⟩
  go_wp2
  go_ret
  rw [ord_eq]
  refine ⟨?_, rfl⟩
  rw [show (decide ((a : Int) = (b : Int))) = decide (a = b) from decide_eq_decide.2 Int.ofNat_inj]
  rfl
/-- Go's own panic. -/
def divP : List PanicEntry := [{ v := .iface 10 (strVal "integer divide by zero"), recovered := false }]
theorem div_zero (a : Nat) (w : World) : Calls Try.prog 26 #[.int .u32 a, .int .u32 0] w fun e w' => e = .panicked divP ∧ w = w' := by
  go_enter Try.func26, Try.ntmps26
  go_wp2
  exact ⟨rfl, rfl, rfl⟩
theorem rem_zero (a : Nat) (w : World) : Calls Try.prog 27 #[.int .u32 a, .int .u32 0] w fun e w' => e = .panicked divP ∧ w = w' := by
  go_enter Try.func27, Try.ntmps27
  go_wp2
  exact ⟨rfl, rfl, rfl⟩

theorem build_row (n : Int) (f : Nat) (w : World) : Sem.run Try.prog (Instr.build 46 #[(0, Value.int IntKind.i64 n), (1, Value.func (Fn.func f) #[] #[])]) w = .ok (.agg #[.int .i64 n, .func (Fn.func f) #[] #[]]) w := by
  kernel_rfl
/-- The functions of the rows. -/
def wayN (p : Nat) : Nat := [23, 24, 25, 26, 27, 28, 29, 30, 31, 32, 33, 35, 36].getD p 0
/-- The way of an operation. -/
def wayV (op : Int) : Value := if 3 ≤ op ∧ op ≤ 15 then .func (Fn.func (wayN (op - 3).toNat)) #[] #[] else .nilFunc
def wayC : Nat → List Value := fun p => [.int .i64 ((p + 3 : Nat) : Int), .func (Fn.func (wayN p)) #[] #[]]
theorem wayV_at {p : Nat} (h : p < 13) : wayV ((p + 3 : Nat) : Int) = .func (Fn.func (wayN p)) #[] #[] := by
  unfold wayV
  rw [if_pos (by omega), show (((p + 3 : Nat) : Int) - 3).toNat = p from by omega]
theorem wayV_no {op : Int} (h : ∀ j : Nat, j < 13 → ((j + 3 : Nat) : Int) ≠ op) : wayV op = .nilFunc := by
  unfold wayV
  rw [if_neg]
  intro hh
  exact h (op - 3).toNat (by omega) (by omega)
set_option maxHeartbeats 2000000 in
theorem wayOf_any (op : Int) (W : World) : Calls Try.prog 16 #[.int .i64 op] W fun e w' => e = .returned (wayV op) ∧ Below W.heap.size W w' := by
  have hbr := build_row
  go_enter Try.func16, Try.ntmps16
  go_wp2_with fail
  generalize hw1 : W.alloc _ = w1
  have b1 : Below W.heap.size W w1 := hw1 ▸ (Below.refl _ _).alloc (Nat.le_refl _) _
  have c1 : ∀ p, p < 13 → w1.cell? ⟨W.heap.size, p * 2, none⟩ = some (.int .i64 ((p + 3 : Nat) : Int)) ∧ w1.cell? ⟨W.heap.size, p * 2 + 1, none⟩ = some (.func (Fn.func (wayN p)) #[] #[]) := by
    intro p hp
    have : p = 0 ∨ p = 1 ∨ p = 2 ∨ p = 3 ∨ p = 4 ∨ p = 5 ∨ p = 6 ∨ p = 7 ∨ p = 8 ∨ p = 9 ∨ p = 10 ∨ p = 11 ∨ p = 12 := by omega
    rw [← hw1]
    rcases this with rfl | rfl | rfl | rfl | rfl | rfl | rfl | rfl | rfl | rfl | rfl | rfl | rfl <;> simp [go_sem, wayN]
  have s1 : W.heap.size < w1.heap.size := by rw [← hw1]; simp
  clear hw1 hbr
  replace c1 := Lib.hid c1
  replace b1 := Lib.hid b1
  replace s1 := Lib.hid s1
  go_loopw [2, 22] (fun v i wr => ∃ p : Nat, p ≤ 13 ∧ i = .int .i64 p ∧ v = .nilFunc ∧ Hid (∀ j : Nat, j < p → ((j + 3 : Nat) : Int) ≠ op) ∧ Hid (Below w1.heap.size w1 wr)) (fun _ i _ => 13 - (intOf i).toNat)
  case atStart => exact ⟨0, by omega, rfl, rfl, Lib.hid (fun j h => absurd h (by omega)), Lib.hid (Below.refl _ _)⟩
  case round =>
    obtain ⟨p, hp, rfl, rfl, hne, hb⟩ := hrel
    by_cases hlt : p < 13
    · have e0 := (hb.out.cell (p := ⟨W.heap.size, p * 2, none⟩) s1.out).trans (c1.out p hlt).1
      have hsf := fun (a : Addr) (f : Nat) (w : World) => run_store Try.prog w a (.func (.func f) #[] #[]) .plain rfl
      have e1 := (hb.out.cell (p := ⟨W.heap.size, p * 2 + 1, none⟩) s1.out).trans (c1.out p hlt).2
      go_wp2
      · rename_i heq
        have hq : ((p + 3 : Nat) : Int) = op := by
          have := eq_of_beq heq
          omega
        go_ret
        refine ⟨?_, b1.out.trans ((hb.out.alloc hb.out.size _).mono b1.out.size)⟩
        rw [← hq, wayV_at hlt]
        rfl
      · rename_i heq
        have hq : ((p + 3 : Nat) : Int) ≠ op := by
          intro h
          have := ne_of_beq_false heq
          omega
        refine ⟨⟨p + 1, by omega, by go_num, rfl, Lib.hid (fun j hj => ?_), Lib.hid (hb.out.alloc hb.out.size _)⟩, by simp [intOf]; omega⟩
        rcases Nat.lt_or_ge j p with hjp | hjp
        · exact hne.out j hjp
        · rw [show j = p from by omega]
          exact hq
    · have hp13 : p = 13 := by omega
      subst hp13
      go_wp2
      go_ret
      refine ⟨?_, b1.out.trans (hb.out.mono b1.out.size)⟩
      rw [wayV_no hne.out]
      rfl
end Go.Proofs.Ytjkeflldbmiohaa
