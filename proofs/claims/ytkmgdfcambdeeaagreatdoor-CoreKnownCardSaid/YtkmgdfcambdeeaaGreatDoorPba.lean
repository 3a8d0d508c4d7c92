/- The document's Touch (layer core). No statement is proved here.; Layer alu: the ways, order, oneIf, and the row of an operation. Plain contracts; no statement is proved here.; Layer alu: the deferred closure, attempt, Reckon, Takes. Plain contracts; no statement is proved here.; The laws' helpers of layer alu, and the document's answers. No statement is proved here.; What Do answers, and what it makes of memory (layer core), in plain words. No statement is proved here. -/
import Derived.Test.YtkmgdfcambdeeaaGreatDoorProg
import Derived.ProofKit
import Derived.BigFrame
import Derived.BigQuiet
import Derived.LoopTactic
import Derived.Handy
import Derived.Laws.BitsAllLaws
import Derived.WalkSmall
import Derived.Defers
import Derived.Recover
import Derived.Laws.Pointers
import Derived.Test.YtkmgdfcambdeeaaGreatDoorPay
import Derived.Test.YtkmgdfcambdeeaaGreatDoorPaz
import Derived.Test.YtkmgdfcambdeeaaGreatDoorPaa
import Derived.Test.YtkmgdfcambdeeaaGreatDoorPax
namespace Go.Proofs.YtkmgdfcambdeeaaGreatDoor
set_option maxRecDepth 100000
open Go.RowKit
set_option linter.unusedVariables false
theorem fld_in2 {s : List UInt8} {c : UInt8} {v : Int} (h : fldB s c v = true) : 0 ≤ v ∧ v ≤ 15 := by
  unfold fldB at h
  split at h
  · simp only [Bool.and_eq_true, decide_eq_true_eq] at h
    exact h
  · have := of_decide_eq_true h
    omega
theorem may_flds {i : Ins} (h : mayB i = true) : (1 ≤ i.op ∧ i.op ≤ 53) ∧ (0 ≤ i.a ∧ i.a ≤ 15) ∧ (0 ≤ i.b ∧ i.b ≤ 15) ∧ (0 ≤ i.c ∧ i.c ≤ 15) := by
  unfold mayB at h
  simp only [Bool.and_eq_true, decide_eq_true_eq] at h
  obtain ⟨⟨⟨⟨h1, h2⟩, h3⟩, h4⟩, _⟩ := h
  exact ⟨h1, fld_in2 h2, fld_in2 h3, fld_in2 h4⟩
section
variable {W : World} {r rb tb N g : Nat} {f : Nat → Bool} {l : List UInt8}
/-- The page that an instruction will load a capability from. -/
def touT (F : List Cp) (i : Ins) (N : Nat) : Bool := decide (i.op = 23) && mayB i && decide (wayT (reg F i.b.toNat) (atN F i.b.toNat i.m) 16 1 N = 0)
def touP (F : List Cp) (i : Ins) (N : Nat) : Nat := if touT F i N then atN F i.b.toNat i.m / 256 else 0
end
end Go.Proofs.YtkmgdfcambdeeaaGreatDoor
namespace Go.Proofs.YtkmgdfcambdeeaaGreatDoor
set_option maxRecDepth 100000
open Go.RowKit
set_option linter.unusedVariables false

/-- A signed number. -/
def sg (a : Nat) : Int := if a < 2147483648 then (a : Int) else (a : Int) - 4294967296
theorem wrap_sg {a : Nat} (h : a < 4294967296) : wrap32 (a : Int) = sg a := by
  unfold wrap32 sg
  split <;> omega
/-- 1, if it is so. -/
def oneN (t : Bool) : Nat := if t then 1 else 0

theorem oneIf_any (t : Bool) (w : World) : Calls Tryz.prog 187 #[.bool t] w fun e w' => e = .returned (.int .u32 (oneN t : Nat)) ∧ w = w' := by
  go_enter Tryz.func187, Tryz.ntmps187
  cases t <;> go_wp2 <;> go_ret <;> exact ⟨rfl, rfl⟩
/-- How two stand to one another. -/
def ordI (a b : Int) : Int := if a < b then -1 else if b < a then 1 else 0
theorem orderU_any (a b : Int) (w : World) : Calls Tryz.prog 135 #[.int .u32 a, .int .u32 b] w fun e w' => e = .returned (.int .i64 (ordI a b)) ∧ w = w' := by
  go_enter Tryz.func135, Tryz.ntmps135
  go_wp2
  · go_ret
    exact ⟨ret_int (by unfold ordI; split <;> omega), rfl⟩
  · go_ret
    exact ⟨ret_int (by unfold ordI; repeat' split <;> omega), rfl⟩
  · go_ret
    exact ⟨ret_int (by unfold ordI; repeat' split <;> omega), rfl⟩
theorem orderS_any (a b : Int) (w : World) : Calls Tryz.prog 136 #[.int .i32 a, .int .i32 b] w fun e w' => e = .returned (.int .i64 (ordI a b)) ∧ w = w' := by
  go_enter Tryz.func136, Tryz.ntmps136
  go_wp2
  · go_ret
    exact ⟨ret_int (by unfold ordI; split <;> omega), rfl⟩
  · go_ret
    exact ⟨ret_int (by unfold ordI; repeat' split <;> omega), rfl⟩
  · go_ret
    exact ⟨ret_int (by unfold ordI; repeat' split <;> omega), rfl⟩
theorem ord_lt {a b : Int} : decide (ordI a b < 0) = decide (a < b) := by
  unfold ordI; split
  · simp [*]
  · split <;> simp [*]
theorem ord_eq {a b : Int} : (ordI a b == 0) = decide (a = b) := by
  unfold ordI; split
  · simp; omega
  · split
    · simp; omega
    · simp; omega

theorem add_any (a b : Nat) (ha : a < 4294967296) (hb : b < 4294967296) (w : World) : Calls Tryz.prog 176 #[.int .u32 a, .int .u32 b] w fun e w' => e = .returned (.int .u32 ((a + b) % 4294967296 : Nat)) ∧ w = w' := by
  go_enter Tryz.func176, Tryz.ntmps176
  go_wp2
  go_ret
  exact ⟨ret_int (by omega), rfl⟩
theorem sub_any (a b : Nat) (ha : a < 4294967296) (hb : b < 4294967296) (w : World) : Calls Tryz.prog 177 #[.int .u32 a, .int .u32 b] w fun e w' => e = .returned (.int .u32 ((a + (4294967296 - b)) % 4294967296 : Nat)) ∧ w = w' := by
  go_enter Tryz.func177, Tryz.ntmps177
  go_wp2
  go_ret
  exact ⟨ret_int (by omega), rfl⟩
theorem mul_any (a b : Nat) (ha : a < 4294967296) (hb : b < 4294967296) (w : World) : Calls Tryz.prog 178 #[.int .u32 a, .int .u32 b] w fun e w' => e = .returned (.int .u32 (a * b % 4294967296 : Nat)) ∧ w = w' := by
  go_enter Tryz.func178, Tryz.ntmps178
  go_wp2
  go_ret
  exact ⟨ret_int (by simp), rfl⟩
theorem div_any (a b : Nat) (ha : a < 4294967296) (hb : b < 4294967296) (w : World) (h : b ≠ 0) : Calls Tryz.prog 179 #[.int .u32 a, .int .u32 b] w fun e w' => e = .returned (.int .u32 (a / b : Nat)) ∧ w = w' := by
  have h0 : ¬ (b : Int) = 0 := by omega
  go_enter Tryz.func179, Tryz.ntmps179
  go_wp2
  go_ret
  refine ⟨ret_int ?_, rfl⟩
  have := Nat.div_le_self a b
  have e : ((a : Int) / (b : Int)) = ((a / b : Nat) : Int) := (Int.natCast_ediv a b).symm
  rw [e]
  generalize a / b = q at this ⊢
  omega
theorem rem_any (a b : Nat) (ha : a < 4294967296) (hb : b < 4294967296) (w : World) (h : b ≠ 0) : Calls Tryz.prog 180 #[.int .u32 a, .int .u32 b] w fun e w' => e = .returned (.int .u32 (a % b : Nat)) ∧ w = w' := by
  have h0 : ¬ (b : Int) = 0 := by omega
  go_enter Tryz.func180, Tryz.ntmps180
  go_wp2
  go_ret
  exact ⟨ret_int rfl, rfl⟩
theorem and_any (a b : Nat) (ha : a < 4294967296) (hb : b < 4294967296) (w : World) : Calls Tryz.prog 181 #[.int .u32 a, .int .u32 b] w fun e w' => e = .returned (.int .u32 (a &&& b : Nat)) ∧ w = w' := by
  go_enter Tryz.func181, Tryz.ntmps181
  go_wp2
  go_ret
  exact ⟨ret_int (u32_and_nat a b ha hb), rfl⟩
theorem or_any (a b : Nat) (ha : a < 4294967296) (hb : b < 4294967296) (w : World) : Calls Tryz.prog 182 #[.int .u32 a, .int .u32 b] w fun e w' => e = .returned (.int .u32 (a ||| b : Nat)) ∧ w = w' := by
  go_enter Tryz.func182, Tryz.ntmps182
  go_wp2
  go_ret
  exact ⟨ret_int (u32_or_nat a b ha hb), rfl⟩
theorem xor_any (a b : Nat) (ha : a < 4294967296) (hb : b < 4294967296) (w : World) : Calls Tryz.prog 183 #[.int .u32 a, .int .u32 b] w fun e w' => e = .returned (.int .u32 (a ^^^ b : Nat)) ∧ w = w' := by
  go_enter Tryz.func183, Tryz.ntmps183
  go_wp2
  go_ret
  exact ⟨ret_int (u32_xor_nat a b ha hb), rfl⟩
theorem shl_any (a b : Nat) (ha : a < 4294967296) (hb : b < 4294967296) (w : World) : Calls Tryz.prog 184 #[.int .u32 a, .int .u32 b] w fun e w' => e = .returned (.int .u32 (a * 2 ^ (b % 32) % 4294967296 : Nat)) ∧ w = w' := by
  obtain ⟨m, hm, h1⟩ : ∃ m : Nat, m = b % 32 ∧ m < 32 := ⟨_, rfl, Nat.mod_lt _ (by decide)⟩
  have e : ((b : Int).tmod 32) = (m : Int) := by rw [hm]; rfl
  rw [← hm]
  go_enter Tryz.func184, Tryz.ntmps184
  go_wp2
  go_ret
  refine ⟨ret_int ?_, rfl⟩
  rw [hm]
  simp
theorem shr_any (a b : Nat) (ha : a < 4294967296) (hb : b < 4294967296) (w : World) : Calls Tryz.prog 185 #[.int .u32 a, .int .u32 b] w fun e w' => e = .returned (.int .u32 (a / 2 ^ (b % 32) : Nat)) ∧ w = w' := by
  obtain ⟨m, hm, h1⟩ : ∃ m : Nat, m = b % 32 ∧ m < 32 := ⟨_, rfl, Nat.mod_lt _ (by decide)⟩
  have e : ((b : Int).tmod 32) = (m : Int) := by rw [hm]; rfl
  rw [← hm]
  go_enter Tryz.func185, Tryz.ntmps185
  go_wp2
  go_ret
  refine ⟨ret_int ?_, rfl⟩
  rw [hm]
  simp
theorem lt_any (a b : Nat) (ha : a < 4294967296) (hb : b < 4294967296) (w : World) : Calls Tryz.prog 186 #[.int .u32 a, .int .u32 b] w fun e w' => e = .returned (.int .u32 (oneN (decide (sg a < sg b)) : Nat)) ∧ w = w' := by
  go_enter Tryz.func186, Tryz.ntmps186
  go_wp2_with fail
  refine (orderS_any _ _ _).mono ?_
  rintro e w1 ⟨rfl, rfl⟩
  go_wp2_with fail
  refine (oneIf_any _ _).mono ?_
  rintro e w1 ⟨rfl, rfl⟩
  go_wp2
  go_ret
  rw [ord_lt, wrap_sg ha, wrap_sg hb]
  exact ⟨rfl, rfl⟩
theorem ltu_any (a b : Nat) (ha : a < 4294967296) (hb : b < 4294967296) (w : World) : Calls Tryz.prog 188 #[.int .u32 a, .int .u32 b] w fun e w' => e = .returned (.int .u32 (oneN (decide (a < b)) : Nat)) ∧ w = w' := by
  go_enter Tryz.func188, Tryz.ntmps188
  go_wp2_with fail
  refine (orderU_any _ _ _).mono ?_
  rintro e w1 ⟨rfl, rfl⟩
  go_wp2_with fail
  refine (oneIf_any _ _).mono ?_
  rintro e w1 ⟨rfl, rfl⟩
  go_wp2
  go_ret
  rw [ord_lt]
  exact ⟨by simp, rfl⟩
theorem eq_any (a b : Nat) (ha : a < 4294967296) (hb : b < 4294967296) (w : World) : Calls Tryz.prog 189 #[.int .u32 a, .int .u32 b] w fun e w' => e = .returned (.int .u32 (oneN (decide (a = b)) : Nat)) ∧ w = w' := by
  go_enter Tryz.func189, Tryz.ntmps189
  go_wp2_with fail
  refine (orderU_any _ _ _).mono ?_
  rintro e w1 ⟨rfl, rfl⟩
  go_wp2_with fail
  refine (oneIf_any _ _).mono ?_
  rintro e w1 ⟨rfl, rfl⟩
  go_wp2
  go_ret
  rw [ord_eq]
  refine ⟨?_, rfl⟩
  rw [show (decide ((a : Int) = (b : Int))) = decide (a = b) from decide_eq_decide.2 Int.ofNat_inj]
  rfl
/-- Go's own panic. -/
def divP : List PanicEntry := [{ v := .iface 10 (strVal "integer divide by zero"), recovered := false }]
theorem div_zero (a : Nat) (w : World) : Calls Tryz.prog 179 #[.int .u32 a, .int .u32 0] w fun e w' => e = .panicked divP ∧ w = w' := by
  go_enter Tryz.func179, Tryz.ntmps179
  go_wp2
  exact ⟨rfl, rfl, rfl⟩
theorem rem_zero (a : Nat) (w : World) : Calls Tryz.prog 180 #[.int .u32 a, .int .u32 0] w fun e w' => e = .panicked divP ∧ w = w' := by
  go_enter Tryz.func180, Tryz.ntmps180
  go_wp2
  exact ⟨rfl, rfl, rfl⟩

theorem build_row (n : Int) (f : Nat) (w : World) : Sem.run Tryz.prog (Instr.build 226 #[(0, Value.int IntKind.i64 n), (1, Value.func (Fn.func f) #[] #[])]) w = .ok (.agg #[.int .i64 n, .func (Fn.func f) #[] #[]]) w := by
  kernel_rfl
/-- The functions of the rows. -/
def wayN (p : Nat) : Nat := [176, 177, 178, 179, 180, 181, 182, 183, 184, 185, 186, 188, 189].getD p 0
/-- The way of an operation. -/
def wayV (op : Int) : Value := if 3 ≤ op ∧ op ≤ 15 then .func (Fn.func (wayN (op - 3).toNat)) #[] #[] else .nilFunc
theorem wayV_at {p : Nat} (h : p < 13) : wayV ((p + 3 : Nat) : Int) = .func (Fn.func (wayN p)) #[] #[] := by
  unfold wayV
  rw [if_pos (by omega), show (((p + 3 : Nat) : Int) - 3).toNat = p from by omega]
theorem wayV_no {op : Int} (h : ∀ j : Nat, j < 13 → ((j + 3 : Nat) : Int) ≠ op) : wayV op = .nilFunc := by
  unfold wayV
  rw [if_neg]
  intro hh
  exact h (op - 3).toNat (by omega) (by omega)
set_option maxHeartbeats 2000000 in
theorem wayOf_any (op : Int) (W : World) : Calls Tryz.prog 143 #[.int .i64 op] W fun e w' => e = .returned (wayV op) ∧ Below W.heap.size W w' := by
  have hbr := build_row
  go_enter Tryz.func143, Tryz.ntmps143
  go_wp2_with fail
  generalize hw1 : W.alloc _ = w1
  have b1 : Below W.heap.size W w1 := hw1 ▸ (Below.refl _ _).alloc (Nat.le_refl _) _
  have c1 : ∀ p, p < 13 → w1.cell? ⟨W.heap.size, p * 2, none⟩ = some (.int .i64 ((p + 3 : Nat) : Int)) ∧ w1.cell? ⟨W.heap.size, p * 2 + 1, none⟩ = some (.func (Fn.func (wayN p)) #[] #[]) := by
    intro p hp
    have : p = 0 ∨ p = 1 ∨ p = 2 ∨ p = 3 ∨ p = 4 ∨ p = 5 ∨ p = 6 ∨ p = 7 ∨ p = 8 ∨ p = 9 ∨ p = 10 ∨ p = 11 ∨ p = 12 := by omega
    rw [← hw1]
    rcases this with rfl | rfl | rfl | rfl | rfl | rfl | rfl | rfl | rfl | rfl | rfl | rfl | rfl <;> simp [go_sem, wayN]
  have s1 : W.heap.size < w1.heap.size := by rw [← hw1]; simp
  clear hw1 hbr
  replace c1 := Lib.hid c1
  replace b1 := Lib.hid b1
  replace s1 := Lib.hid s1
  go_loopw [2, 22] (fun v i wr => ∃ p : Nat, p ≤ 13 ∧ i = .int .i64 p ∧ v = .nilFunc ∧ Hid (∀ j : Nat, j < p → ((j + 3 : Nat) : Int) ≠ op) ∧ Hid (Below w1.heap.size w1 wr)) (fun _ i _ => 13 - (intOf i).toNat)
  case atStart => exact ⟨0, by omega, rfl, rfl, Lib.hid (fun j h => absurd h (by omega)), Lib.hid (Below.refl _ _)⟩
  case round =>
    obtain ⟨p, hp, rfl, rfl, hne, hb⟩ := hrel
    by_cases hlt : p < 13
    · have e0 := (hb.out.cell (p := ⟨W.heap.size, p * 2, none⟩) s1.out).trans (c1.out p hlt).1
      have hsf := fun (a : Addr) (f : Nat) (w : World) => run_store Tryz.prog w a (.func (.func f) #[] #[]) .plain rfl
      have e1 := (hb.out.cell (p := ⟨W.heap.size, p * 2 + 1, none⟩) s1.out).trans (c1.out p hlt).2
      go_wp2
      · rename_i heq
        have hq : ((p + 3 : Nat) : Int) = op := by
          have := eq_of_beq heq
          omega
        go_ret
        refine ⟨?_, b1.out.trans ((hb.out.alloc hb.out.size _).mono b1.out.size)⟩
        rw [← hq, wayV_at hlt]
        rfl
      · rename_i heq
        have hq : ((p + 3 : Nat) : Int) ≠ op := by
          intro h
          have := ne_of_beq_false heq
          omega
        refine ⟨⟨p + 1, by omega, by go_num, rfl, Lib.hid (fun j hj => ?_), Lib.hid (hb.out.alloc hb.out.size _)⟩, by simp [intOf]; omega⟩
        rcases Nat.lt_or_ge j p with hjp | hjp
        · exact hne.out j hjp
        · rw [show j = p from by omega]
          exact hq
    · have hp13 : p = 13 := by omega
      subst hp13
      go_wp2
      go_ret
      refine ⟨?_, b1.out.trans (hb.out.mono b1.out.size)⟩
      rw [wayV_no hne.out]
      rfl
end Go.Proofs.YtkmgdfcambdeeaaGreatDoor
namespace Go.Proofs.YtkmgdfcambdeeaaGreatDoor
set_option maxRecDepth 100000
open Go.RowKit
set_option linter.unusedVariables false

theorem catch_panicking (p q : Addr) (x y : Int) (u : TypeId) (pv : Value) (older : List PanicEntry) (w : World) (hc : w.cell? p = some (.int .u32 x)) (hz : w.frozen? p = false) (hd : w.cell? q = some (.int .i64 y)) (hy : w.frozen? q = false) (hpq : p ≠ q) :
    CallsD Tryz.prog 190 #[.pointer (some p), .pointer (some q)] (.panicking ({ v := .iface u pv, recovered := false } :: older)) w fun e u' w' =>
      e = .returned (.tuple #[]) ∧ u' = .panicking ({ v := .iface u pv, recovered := true } :: older) ∧ w' = (w.setCell p (.int .u32 0)).setCell q (.int .i64 7) := by
  refine callsD_of_wpS Tryz.func190 rfl fun c₀ cs hu => ?_
  apply wpS_seq
  apply wpS_region
  simp [wpOpsS, go_sem, recoverD, hu, Tryz.ntmps190, Exit.thenS]
  refine wpS_cond (t := true) (by simp [Act.eval, Array.replicate]) ?_
  simp only [if_true]
  apply wpS_region
  have hd' : (w.setCell p (.int .u32 0)).cell? q = some (.int .i64 y) := by rw [World.cell?_setCell_other _ _ _ _ hpq]; exact hd
  have hy' : (w.setCell p (.int .u32 0)).frozen? q = false := by rw [World.frozen?_setCell]; exact hy
  simp [wpOpsS, go_sem, hc, hz, hd', hy', bodyPostS, results, Tryz.results190]

theorem catch_idle (p q : Addr) (w : World) :
    CallsD Tryz.prog 190 #[.pointer (some p), .pointer (some q)] .returning w fun e u' w' => e = .returned (.tuple #[]) ∧ u' = .returning ∧ w' = w := by
  refine callsD_of_wpS Tryz.func190 rfl fun c₀ cs hu => ?_
  apply wpS_seq
  apply wpS_region
  simp [wpOpsS, go_sem, recoverD, hu, Tryz.ntmps190, Exit.thenS]
  refine wpS_cond (t := false) (by simp [Act.eval, Array.replicate]) ?_
  simp only [Bool.false_eq_true, if_false]
  refine wpS_of_wp (wp_skip ?_)
  cases c₀
  simp_all [bodyPostS, results, Tryz.results190]

theorem attempt_ok (f : Nat) (a b v : Nat) (hf : ∀ w, Calls Tryz.prog f #[.int .u32 a, .int .u32 b] w fun e w' => e = .returned (.int .u32 v) ∧ w = w') (hcf : ∀ (args : Array Value) (w : World), Sem.run Tryz.prog (callFunc f args) w = .ok (.enter f args) w) (W : World) :
    Calls Tryz.prog 144 #[.func (Fn.func f) #[] #[], .int .u32 a, .int .u32 b] W fun e w' => e = .returned (.tuple #[.int .u32 v, .int .i64 0]) ∧ Below W.heap.size W w' := by
  have hmf : ∀ (fn : Fn) (first cap : Array Value) (w : World), (Instr.makeFunc fn first cap).run Tryz.prog w = .ok (.func fn first cap) w := fun _ _ _ _ => rfl
  go_enter_defers Tryz.func144, Tryz.ntmps144
  go_wp2_with fail
  refine (hf _).mono ?_
  rintro e w1 ⟨rfl, rfl⟩
  go_wp2_with fail
  refine leaves_cons (f := 190) (args := #[.pointer (some ⟨W.heap.size, 0, none⟩), .pointer (some ⟨W.heap.size + 1, 0, none⟩)]) (by simp) (by simp [go_sem]) ?_
  refine (catch_idle ⟨W.heap.size, 0, none⟩ ⟨W.heap.size + 1, 0, none⟩ _).mono ?_
  rintro e u' w'' ⟨rfl, rfl, rfl⟩
  have hB : Below W.heap.size W ((W.alloc (Obj.cells #[Value.int IntKind.u32 v] 22)).alloc (Obj.cells #[Value.int IntKind.i64 0] 39)) :=
    ((Below.refl _ _).alloc (Nat.le_refl _) _).alloc (by simp) _
  simp [Leaves, settle, results, Tryz.results144, go_sem]
  exact hB
theorem attempt_bad (f : Nat) (a b : Nat) (hf : ∀ w, Calls Tryz.prog f #[.int .u32 a, .int .u32 b] w fun e w' => e = .panicked divP ∧ w = w') (hcf : ∀ (args : Array Value) (w : World), Sem.run Tryz.prog (callFunc f args) w = .ok (.enter f args) w) (W : World) :
    Calls Tryz.prog 144 #[.func (Fn.func f) #[] #[], .int .u32 a, .int .u32 b] W fun e w' => e = .returned (.tuple #[.int .u32 0, .int .i64 7]) ∧ Below W.heap.size W w' := by
  have hmf : ∀ (fn : Fn) (first cap : Array Value) (w : World), (Instr.makeFunc fn first cap).run Tryz.prog w = .ok (.func fn first cap) w := fun _ _ _ _ => rfl
  go_enter_defers Tryz.func144, Tryz.ntmps144
  go_wp2_with fail
  refine (hf _).mono ?_
  rintro e w1 ⟨rfl, rfl⟩
  go_wp2_with fail
  refine leaves_cons (f := 190) (args := #[.pointer (some ⟨W.heap.size, 0, none⟩), .pointer (some ⟨W.heap.size + 1, 0, none⟩)]) (by simp) (by simp [go_sem]) ?_
  refine (catch_panicking ⟨W.heap.size, 0, none⟩ ⟨W.heap.size + 1, 0, none⟩ 0 0 _ _ [] _ ?_ ?_ ?_ ?_ ?_).mono ?_
  · simp [go_sem]
  · simp [go_sem]
  · simp [go_sem]
  · simp [go_sem]
  · simp
  rintro e u' w'' ⟨rfl, rfl, rfl⟩
  simp [Leaves, settle, results, Tryz.results144, go_sem]
  exact ((Below.refl _ _).alloc (Nat.le_refl _) _).alloc (by simp) _

/-- What the ways make. -/
def wayR (p a b : Nat) : Nat := match p with
  | 0 => (a + b) % 4294967296
  | 1 => (a + (4294967296 - b)) % 4294967296
  | 2 => a * b % 4294967296
  | 3 => a / b
  | 4 => a % b
  | 5 => a &&& b
  | 6 => a ||| b
  | 7 => a ^^^ b
  | 8 => a * 2 ^ (b % 32) % 4294967296
  | 9 => a / 2 ^ (b % 32)
  | 10 => oneN (decide (sg a < sg b))
  | 11 => oneN (decide (a < b))
  | 12 => oneN (decide (a = b))
  | _ => 0
/-- Is it an operation that reckons? Is it a trap? What is the number? -/
def isR (op : Int) : Bool := decide (3 ≤ op ∧ op ≤ 15)
def badR (op : Int) (b : Nat) : Bool := decide ((op = 6 ∨ op = 7) ∧ b = 0)
def valR (op : Int) (a b : Nat) : Nat := if isR op = true ∧ badR op b = false then wayR (op - 3).toNat a b else 0
def trapR (op : Int) (b : Nat) : Int := if badR op b then 7 else 0

theorem attempt_any (p a b : Nat) (hp : p < 13) (ha : a < 4294967296) (hb : b < 4294967296) (W : World) :
    Calls Tryz.prog 144 #[.func (Fn.func (wayN p)) #[] #[], .int .u32 a, .int .u32 b] W fun e w' => e = .returned (.tuple #[.int .u32 (valR ((p + 3 : Nat) : Int) a b : Nat), .int .i64 (trapR ((p + 3 : Nat) : Int) b)]) ∧ Below W.heap.size W w' := by
  have : p = 0 ∨ p = 1 ∨ p = 2 ∨ p = 3 ∨ p = 4 ∨ p = 5 ∨ p = 6 ∨ p = 7 ∨ p = 8 ∨ p = 9 ∨ p = 10 ∨ p = 11 ∨ p = 12 := by omega
  rcases this with rfl | rfl | rfl | rfl | rfl | rfl | rfl | rfl | rfl | rfl | rfl | rfl | rfl
  · exact attempt_ok _ a b _ (add_any a b ha hb) (fun _ _ => rfl) W
  · exact attempt_ok _ a b _ (sub_any a b ha hb) (fun _ _ => rfl) W
  · exact attempt_ok _ a b _ (mul_any a b ha hb) (fun _ _ => rfl) W
  · by_cases h : b = 0
    · subst h
      exact attempt_bad _ a 0 (div_zero a) (fun _ _ => rfl) W
    · have e1 : badR ((3 + 3 : Nat) : Int) b = false := by simp [badR, h]
      simp only [valR, trapR, e1]
      exact attempt_ok _ a b _ (fun w => div_any a b ha hb w h) (fun _ _ => rfl) W
  · by_cases h : b = 0
    · subst h
      exact attempt_bad _ a 0 (rem_zero a) (fun _ _ => rfl) W
    · have e1 : badR ((4 + 3 : Nat) : Int) b = false := by simp [badR, h]
      simp only [valR, trapR, e1]
      exact attempt_ok _ a b _ (fun w => rem_any a b ha hb w h) (fun _ _ => rfl) W
  · exact attempt_ok _ a b _ (and_any a b ha hb) (fun _ _ => rfl) W
  · exact attempt_ok _ a b _ (or_any a b ha hb) (fun _ _ => rfl) W
  · exact attempt_ok _ a b _ (xor_any a b ha hb) (fun _ _ => rfl) W
  · exact attempt_ok _ a b _ (shl_any a b ha hb) (fun _ _ => rfl) W
  · exact attempt_ok _ a b _ (shr_any a b ha hb) (fun _ _ => rfl) W
  · exact attempt_ok _ a b _ (lt_any a b ha hb) (fun _ _ => rfl) W
  · exact attempt_ok _ a b _ (ltu_any a b ha hb) (fun _ _ => rfl) W
  · exact attempt_ok _ a b _ (eq_any a b ha hb) (fun _ _ => rfl) W

theorem nil_eq (w : World) : Sem.run Tryz.prog (binOp BinOp.eql 195 Value.nilFunc Value.nilFunc) w = .ok (.bool true) w := by kernel_rfl
theorem fun_eq (f : Nat) (w : World) : Sem.run Tryz.prog (binOp BinOp.eql 195 (Value.func (Fn.func f) #[] #[]) Value.nilFunc) w = .ok (.bool false) w := by kernel_rfl
set_option maxHeartbeats 2000000 in
theorem reckon_any (op : Int) (a b : Nat) (ha : a < 4294967296) (hb : b < 4294967296) (W : World) :
    Calls Tryz.prog 91 #[.int .i64 op, .int .u32 a, .int .u32 b] W fun e w' => e = .returned (.tuple #[.int .u32 (valR op a b : Nat), .int .i64 (trapR op b), .bool (isR op)]) ∧ Below W.heap.size W w' := by
  have hn := nil_eq
  have hf := fun_eq
  by_cases hr : 3 ≤ op ∧ op ≤ 15
  · obtain ⟨p, hp, rfl⟩ : ∃ p : Nat, p < 13 ∧ op = ((p + 3 : Nat) : Int) := ⟨(op - 3).toNat, by omega, by omega⟩
    have hw := wayOf_any ((p + 3 : Nat) : Int) W
    rw [wayV_at hp] at hw
    have hi : isR ((p + 3 : Nat) : Int) = true := decide_eq_true hr
    rw [hi]
    have hA := Lib.hid (fun w => attempt_any p a b hp ha hb w)
    generalize valR ((p + 3 : Nat) : Int) a b = V at hA ⊢
    generalize trapR ((p + 3 : Nat) : Int) b = T at hA ⊢
    generalize ((p + 3 : Nat) : Int) = O at hw ⊢
    replace hw := Lib.hid hw
    go_enter Tryz.func91, Tryz.ntmps91
    go_wp2_with fail
    refine hw.out.mono ?_
    rintro e w1 ⟨rfl, h1⟩
    replace h1 := Lib.hid h1
    go_wp2_with fail
    refine (hA.out _).mono ?_
    rintro e w2 ⟨rfl, h2⟩
    replace h2 := Lib.hid h2
    go_wp2_with fail
    go_ret3
    exact ⟨rfl, h1.out.trans (h2.out.mono h1.out.size)⟩
  · have hw := wayOf_any op W
    have hv : wayV op = .nilFunc := by unfold wayV; rw [if_neg hr]
    have e1 : isR op = false := decide_eq_false hr
    have e2 : badR op b = false := decide_eq_false (fun h => hr (by omega))
    have e3 : valR op a b = 0 := by unfold valR; simp [e1]
    have e4 : trapR op b = 0 := by unfold trapR; simp [e2]
    rw [hv] at hw
    rw [e1, e3, e4]
    replace hw := Lib.hid hw
    clear hr hv e1 e2 e3 e4
    go_enter Tryz.func91, Tryz.ntmps91
    go_wp2_with fail
    refine hw.out.mono ?_
    rintro e w1 ⟨rfl, h1⟩
    replace h1 := Lib.hid h1
    go_wp2_with fail
    go_ret3
    exact ⟨rfl, h1.out⟩

/-- Is it a branch? Is it taken? -/
def isT (op : Int) : Bool := decide (25 ≤ op ∧ op ≤ 28)
def takeR (op : Int) (a b : Nat) : Bool :=
  if op = 25 then decide (a = b) else if op = 26 then !decide (a = b) else if op = 27 then decide (sg a < sg b) else if op = 28 then !decide (sg a < sg b) else false
theorem ret_bb {a b c d : Bool} (h : a = c) (k : b = d) : Ending.returned (.tuple #[.bool a, .bool b]) = .returned (.tuple #[.bool c, .bool d]) := by rw [h, k]
theorem takes_any (op : Int) (a b : Nat) (ha : a < 4294967296) (hb : b < 4294967296) (W : World) :
    Calls Tryz.prog 89 #[.int .i64 op, .int .u32 a, .int .u32 b] W fun e w' => e = .returned (.tuple #[.bool (takeR op a b), .bool (isT op)]) ∧ W = w' := by
  have o1 : ordI (a : Int) (b : Int) = 0 ↔ a = b := by unfold ordI; constructor <;> intro h <;> (repeat' split at h) <;> (try split) <;> omega
  have o2 : ordI (wrap32 (a : Int)) (wrap32 (b : Int)) < 0 ↔ sg a < sg b := by
    rw [wrap_sg ha, wrap_sg hb]
    have := @ord_lt (sg a) (sg b)
    simpa using this
  have o3 : 0 ≤ ordI (wrap32 (a : Int)) (wrap32 (b : Int)) ↔ ¬ sg a < sg b := by rw [← o2]; omega
  go_enter Tryz.func89, Tryz.ntmps89
  go_wp2_with fail
  all_goals try (refine (orderU_any _ _ _).mono ?_; rintro e w1 ⟨rfl, rfl⟩; go_wp2_with fail)
  all_goals try (refine (orderS_any _ _ _).mono ?_; rintro e w1 ⟨rfl, rfl⟩; go_wp2_with fail)
  all_goals go_ret2
  all_goals refine ⟨?_, rfl⟩
  all_goals simp only [beq_iff_eq, beq_eq_false_iff_ne, ne_eq] at *
  · refine ret_bb ?_ ?_ <;> simp_all [takeR, isT] <;> first | rfl | (rw [Bool.eq_iff_iff]; simp [o1]; done) | (rw [Bool.eq_iff_iff]; simp)
  · refine ret_bb ?_ ?_ <;> simp_all [takeR, isT] <;> first | rfl | (rw [Bool.eq_iff_iff]; simp [o1]; done) | (rw [Bool.eq_iff_iff]; simp)
  · refine ret_bb ?_ ?_ <;> simp_all [takeR, isT] <;> first | rfl | (rw [Bool.eq_iff_iff]; simp)
  · refine ret_bb ?_ ?_ <;> simp_all [takeR, isT] <;> first | rfl | (rw [Bool.eq_iff_iff]; simp)
  · refine ret_bb ?_ ?_
    · unfold takeR
      repeat' rw [if_neg (by assumption)]
    · exact (decide_eq_false (by omega)).symm
end Go.Proofs.YtkmgdfcambdeeaaGreatDoor
namespace Go.Proofs.YtkmgdfcambdeeaaGreatDoor
set_option maxRecDepth 100000
open Go.RowKit
set_option linter.unusedVariables false

theorem valR_lt (op : Int) (a b : Nat) (ha : a < 4294967296) (hb : b < 4294967296) : valR op a b < 4294967296 := by
  unfold valR
  split
  · unfold wayR
    split
    · omega
    · omega
    · omega
    · exact Nat.lt_of_le_of_lt (Nat.div_le_self _ _) ha
    · exact Nat.lt_of_le_of_lt (Nat.mod_le _ _) ha
    · exact Nat.lt_of_le_of_lt Nat.and_le_left ha
    · exact Nat.or_lt_two_pow (n := 32) ha hb
    · exact Nat.xor_lt_two_pow (n := 32) ha hb
    · omega
    · exact Nat.lt_of_le_of_lt (Nat.div_le_self _ _) ha
    · unfold oneN; split <;> omega
    · unfold oneN; split <;> omega
    · unfold oneN; split <;> omega
    · omega
  · omega
/-! The document's side. -/
end Go.Proofs.YtkmgdfcambdeeaaGreatDoor
namespace Go.Proofs.YtkmgdfcambdeeaaGreatDoor
set_option maxRecDepth 100000
open Go.RowKit
set_option linter.unusedVariables false
/-- Is it a load, a store, does nothing happen, does it reckon, does it branch? -/
def isL (op : Int) : Bool := decide (op = 17 ∨ op = 18 ∨ op = 19 ∨ op = 23)
def isS (op : Int) : Bool := decide (op = 20 ∨ op = 21 ∨ op = 22 ∨ op = 24)
def isY (op : Int) : Bool := decide (op = 50 ∨ op = 51 ∨ op = 52)
/-- The trap of a load or a store. -/
def memT (F : List Cp) (i : Ins) (N : Nat) : Int := wayT (reg F i.b.toNat) (atN F i.b.toNat i.m) (widI i.op).toNat (needN F i.op i.a.toNat) N
/-- The trap. -/
def doT (F : List Cp) (i : Ins) (N : Nat) : Int :=
  if (mayB i && decide (i.op ≠ 53)) = false then 6
  else if isL i.op || isS i.op then memT F i N
  else if i.op = 30 then jmpT (reg F i.b.toNat)
  else if isR i.op then trapR i.op (reg F i.c.toNat).cu
  else 0
/-- The frame behind it. -/
def doF (F : List Cp) (i : Ins) (N : Nat) (f : Nat → Bool) (l : List UInt8) : List Cp :=
  if doT F i N ≠ 0 then zF
  else if isY i.op then F
  else if i.op = 29 then ((nxt F).set i.a.toNat (fur F 1)).set 16 (fur F i.m)
  else if i.op = 30 then ((nxt F).set i.a.toNat (fur F 1)).set 16 (reg F i.b.toNat)
  else if isL i.op then (nxt F).set i.a.toNat (ldV l f (reg F i.b.toNat) (atN F i.b.toNat i.m) i.op (widI i.op).toNat)
  else if isS i.op then nxt F
  else if isT i.op then (if takeR i.op (reg F i.a.toNat).cu (reg F i.b.toNat).cu then (nxt F).set 16 (fur F i.m) else nxt F)
  else if isR i.op then (nxt F).set i.a.toNat (numC (valR i.op (reg F i.b.toNat).cu (reg F i.c.toNat).cu))
  else (nxt F).set i.a.toNat (dDer F i.op (reg F i.b.toNat) (reg F i.c.toNat) i.m)
/-- The tags and bytes behind it. -/
def doG (F : List Cp) (i : Ins) (N : Nat) (f : Nat → Bool) : Nat → Bool :=
  if doT F i N = 0 ∧ isS i.op = true then stoF N f (reg F i.a.toNat) (atN F i.b.toNat i.m) i.op (widI i.op).toNat else f
def doL (F : List Cp) (i : Ins) (N : Nat) (l : List UInt8) : List UInt8 :=
  if doT F i N = 0 ∧ isS i.op = true then stoL N l (reg F i.a.toNat) (atN F i.b.toNat i.m) i.op (widI i.op).toNat else l
end Go.Proofs.YtkmgdfcambdeeaaGreatDoor
