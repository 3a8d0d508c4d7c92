/- Layer alu: the deferred closure, attempt, Reckon, Takes. Plain contracts; no statement is proved here. -/
import Derived.Test.YtjkeflldbmiohaaAlA
import Derived.Defers
import Derived.Recover
import Derived.Laws.Pointers
namespace Go.Proofs.Ytjkeflldbmiohaa
set_option maxRecDepth 100000
open Go.RowKit
set_option linter.unusedVariables false

theorem catch_panicking (p q : Addr) (x y : Int) (u : TypeId) (pv : Value) (older : List PanicEntry) (w : World) (hc : w.cell? p = some (.int .u32 x)) (hz : w.frozen? p = false) (hd : w.cell? q = some (.int .i64 y)) (hy : w.frozen? q = false) (hpq : p ≠ q) :
    CallsD Try.prog 37 #[.pointer (some p), .pointer (some q)] (.panicking ({ v := .iface u pv, recovered := false } :: older)) w fun e u' w' =>
      e = .returned (.tuple #[]) ∧ u' = .panicking ({ v := .iface u pv, recovered := true } :: older) ∧ w' = (w.setCell p (.int .u32 0)).setCell q (.int .i64 7) := by
  refine callsD_of_wpS Try.func37 rfl fun c₀ cs hu => ?_
  apply wpS_seq
  apply wpS_region
  simp [wpOpsS, go_sem, recoverD, hu, Try.ntmps37, Exit.thenS]
  refine wpS_cond (t := true) (by simp [Act.eval, Array.replicate]) ?_
  simp only [if_true]
  apply wpS_region
  have hd' : (w.setCell p (.int .u32 0)).cell? q = some (.int .i64 y) := by rw [World.cell?_setCell_other _ _ _ _ hpq]; exact hd
  have hy' : (w.setCell p (.int .u32 0)).frozen? q = false := by rw [World.frozen?_setCell]; exact hy
  simp [wpOpsS, go_sem, hc, hz, hd', hy', bodyPostS, results, Try.results37]

theorem catch_idle (p q : Addr) (w : World) :
    CallsD Try.prog 37 #[.pointer (some p), .pointer (some q)] .returning w fun e u' w' => e = .returned (.tuple #[]) ∧ u' = .returning ∧ w' = w := by
  refine callsD_of_wpS Try.func37 rfl fun c₀ cs hu => ?_
  apply wpS_seq
  apply wpS_region
  simp [wpOpsS, go_sem, recoverD, hu, Try.ntmps37, Exit.thenS]
  refine wpS_cond (t := false) (by simp [Act.eval, Array.replicate]) ?_
  simp only [Bool.false_eq_true, if_false]
  refine wpS_of_wp (wp_skip ?_)
  cases c₀
  simp_all [bodyPostS, results, Try.results37]

theorem attempt_ok (f : Nat) (a b v : Nat) (hf : ∀ w, Calls Try.prog f #[.int .u32 a, .int .u32 b] w fun e w' => e = .returned (.int .u32 v) ∧ w = w') (hcf : ∀ (args : Array Value) (w : World), Sem.run Try.prog (callFunc f args) w = .ok (.enter f args) w) (W : World) :
    Calls Try.prog 17 #[.func (Fn.func f) #[] #[], .int .u32 a, .int .u32 b] W fun e w' => e = .returned (.tuple #[.int .u32 v, .int .i64 0]) ∧ Below W.heap.size W w' := by
  have hmf : ∀ (fn : Fn) (first cap : Array Value) (w : World), (Instr.makeFunc fn first cap).run Try.prog w = .ok (.func fn first cap) w := fun _ _ _ _ => rfl
  go_enter_defers Try.func17, Try.ntmps17
  go_wp2_with fail
  refine (hf _).mono ?_
  rintro e w1 ⟨rfl, rfl⟩
  go_wp2_with fail
  refine leaves_cons (f := 37) (args := #[.pointer (some ⟨W.heap.size, 0, none⟩), .pointer (some ⟨W.heap.size + 1, 0, none⟩)]) (by simp) (by simp [go_sem]) ?_
  refine (catch_idle ⟨W.heap.size, 0, none⟩ ⟨W.heap.size + 1, 0, none⟩ _).mono ?_
  rintro e u' w'' ⟨rfl, rfl, rfl⟩
  have hB : Below W.heap.size W ((W.alloc (Obj.cells #[Value.int IntKind.u32 v] 22)).alloc (Obj.cells #[Value.int IntKind.i64 0] 23)) :=
    ((Below.refl _ _).alloc (Nat.le_refl _) _).alloc (by simp) _
  simp [Leaves, settle, results, Try.results17, go_sem]
  exact hB
theorem attempt_bad (f : Nat) (a b : Nat) (hf : ∀ w, Calls Try.prog f #[.int .u32 a, .int .u32 b] w fun e w' => e = .panicked divP ∧ w = w') (hcf : ∀ (args : Array Value) (w : World), Sem.run Try.prog (callFunc f args) w = .ok (.enter f args) w) (W : World) :
    Calls Try.prog 17 #[.func (Fn.func f) #[] #[], .int .u32 a, .int .u32 b] W fun e w' => e = .returned (.tuple #[.int .u32 0, .int .i64 7]) ∧ Below W.heap.size W w' := by
  have hmf : ∀ (fn : Fn) (first cap : Array Value) (w : World), (Instr.makeFunc fn first cap).run Try.prog w = .ok (.func fn first cap) w := fun _ _ _ _ => rfl
  go_enter_defers Try.func17, Try.ntmps17
  go_wp2_with fail
  refine (hf _).mono ?_
  rintro e w1 ⟨rfl, rfl⟩
  go_wp2_with fail
  refine leaves_cons (f := 37) (args := #[.pointer (some ⟨W.heap.size, 0, none⟩), .pointer (some ⟨W.heap.size + 1, 0, none⟩)]) (by simp) (by simp [go_sem]) ?_
  refine (catch_panicking ⟨W.heap.size, 0, none⟩ ⟨W.heap.size + 1, 0, none⟩ 0 0 _ _ [] _ ?_ ?_ ?_ ?_ ?_).mono ?_
  · simp [go_sem]
  · simp [go_sem]
  · simp [go_sem]
  · simp [go_sem]
  · simp
  rintro e u' w'' ⟨rfl, rfl, rfl⟩
  simp [Leaves, settle, results, Try.results17, go_sem]
  exact ((Below.refl _ _).alloc (Nat.le_refl _) _).alloc (by simp) _

/-- What the ways make. -/
def wayR (p a b : Nat) : Nat := match p with
  | 0 => (a + b) % 4294967296
  | 1 => (a + (4294967296 - b)) % 4294967296
  | 2 => a * b % 4294967296
  | 3 => a / b
  | 4 => a % b
  | 5 => a &&& b
  | 6 => a ||| b
  | 7 => a ^^^ b
  | 8 => a * 2 ^ (b % 32) % 4294967296
  | 9 => a / 2 ^ (b % 32)
  | 10 => oneN (decide (sg a < sg b))
  | 11 => oneN (decide (a < b))
  | 12 => oneN (decide (a = b))
  | _ => 0
/-- Is it an operation that reckons? Is it a trap? What is the number? -/
def isR (op : Int) : Bool := decide (3 ≤ op ∧ op ≤ 15)
def badR (op : Int) (b : Nat) : Bool := decide ((op = 6 ∨ op = 7) ∧ b = 0)
def valR (op : Int) (a b : Nat) : Nat := if isR op = true ∧ badR op b = false then wayR (op - 3).toNat a b else 0
def trapR (op : Int) (b : Nat) : Int := if badR op b then 7 else 0

theorem attempt_any (p a b : Nat) (hp : p < 13) (ha : a < 4294967296) (hb : b < 4294967296) (W : World) :
    Calls Try.prog 17 #[.func (Fn.func (wayN p)) #[] #[], .int .u32 a, .int .u32 b] W fun e w' => e = .returned (.tuple #[.int .u32 (valR ((p + 3 : Nat) : Int) a b : Nat), .int .i64 (trapR ((p + 3 : Nat) : Int) b)]) ∧ Below W.heap.size W w' := by
  have : p = 0 ∨ p = 1 ∨ p = 2 ∨ p = 3 ∨ p = 4 ∨ p = 5 ∨ p = 6 ∨ p = 7 ∨ p = 8 ∨ p = 9 ∨ p = 10 ∨ p = 11 ∨ p = 12 := by omega
  rcases this with rfl | rfl | rfl | rfl | rfl | rfl | rfl | rfl | rfl | rfl | rfl | rfl | rfl
  · exact attempt_ok _ a b _ (add_any a b ha hb) (fun _ _ => rfl) W
  · exact attempt_ok _ a b _ (sub_any a b ha hb) (fun _ _ => rfl) W
  · exact attempt_ok _ a b _ (mul_any a b ha hb) (fun _ _ => rfl) W
  · by_cases h : b = 0
    · subst h
      exact attempt_bad _ a 0 (div_zero a) (fun _ _ => rfl) W
    · have e1 : badR ((3 + 3 : Nat) : Int) b = false := by simp [badR, h]
      simp only [valR, trapR, e1]
      exact attempt_ok _ a b _ (fun w => div_any a b ha hb w h) (fun _ _ => rfl) W
  · by_cases h : b = 0
    · subst h
      exact attempt_bad _ a 0 (rem_zero a) (fun _ _ => rfl) W
    · have e1 : badR ((4 + 3 : Nat) : Int) b = false := by simp [badR, h]
      simp only [valR, trapR, e1]
      exact attempt_ok _ a b _ (fun w => rem_any a b ha hb w h) (fun _ _ => rfl) W
  · exact attempt_ok _ a b _ (and_any a b ha hb) (fun _ _ => rfl) W
  · exact attempt_ok _ a b _ (or_any a b ha hb) (fun _ _ => rfl) W
  · exact attempt_ok _ a b _ (xor_any a b ha hb) (fun _ _ => rfl) W
  · exact attempt_ok _ a b _ (shl_any a b ha hb) (fun _ _ => rfl) W
  · exact attempt_ok _ a b _ (shr_any a b ha hb) (fun _ _ => rfl) W
  · exact attempt_ok _ a b _ (lt_any a b ha hb) (fun _ _ => rfl) W
  · exact attempt_ok _ a b _ (ltu_any a b ha hb) (fun _ _ => rfl) W
  · exact attempt_ok _ a b _ (eq_any a b ha hb) (fun _ _ => rfl) W

theorem nil_eq (w : World) : Sem.run Try.prog (binOp BinOp.eql 36 Value.nilFunc Value.nilFunc) w = .ok (.bool true) w := by kernel_rfl
theorem fun_eq (f : Nat) (w : World) : Sem.run Try.prog (binOp BinOp.eql 36 (Value.func (Fn.func f) #[] #[]) Value.nilFunc) w = .ok (.bool false) w := by kernel_rfl
set_option maxHeartbeats 2000000 in
theorem reckon_any (op : Int) (a b : Nat) (ha : a < 4294967296) (hb : b < 4294967296) (W : World) :
    Calls Try.prog 10 #[.int .i64 op, .int .u32 a, .int .u32 b] W fun e w' => e = .returned (.tuple #[.int .u32 (valR op a b : Nat), .int .i64 (trapR op b), .bool (isR op)]) ∧ Below W.heap.size W w' := by
  have hn := nil_eq
  have hf := fun_eq
  by_cases hr : 3 ≤ op ∧ op ≤ 15
  · obtain ⟨p, hp, rfl⟩ : ∃ p : Nat, p < 13 ∧ op = ((p + 3 : Nat) : Int) := ⟨(op - 3).toNat, by omega, by omega⟩
    have hw := wayOf_any ((p + 3 : Nat) : Int) W
    rw [wayV_at hp] at hw
    have hi : isR ((p + 3 : Nat) : Int) = true := decide_eq_true hr
    rw [hi]
    have hA := Lib.hid (fun w => attempt_any p a b hp ha hb w)
    generalize valR ((p + 3 : Nat) : Int) a b = V at hA ⊢
    generalize trapR ((p + 3 : Nat) : Int) b = T at hA ⊢
    generalize ((p + 3 : Nat) : Int) = O at hw ⊢
    replace hw := Lib.hid hw
    go_enter Try.func10, Try.ntmps10
    go_wp2_with fail
    refine hw.out.mono ?_
    rintro e w1 ⟨rfl, h1⟩
    replace h1 := Lib.hid h1
    go_wp2_with fail
    refine (hA.out _).mono ?_
    rintro e w2 ⟨rfl, h2⟩
    replace h2 := Lib.hid h2
    go_wp2_with fail
    go_ret3
    exact ⟨rfl, h1.out.trans (h2.out.mono h1.out.size)⟩
  · have hw := wayOf_any op W
    have hv : wayV op = .nilFunc := by unfold wayV; rw [if_neg hr]
    have e1 : isR op = false := decide_eq_false hr
    have e2 : badR op b = false := decide_eq_false (fun h => hr (by omega))
    have e3 : valR op a b = 0 := by unfold valR; simp [e1]
    have e4 : trapR op b = 0 := by unfold trapR; simp [e2]
    rw [hv] at hw
    rw [e1, e3, e4]
    replace hw := Lib.hid hw
    clear hr hv e1 e2 e3 e4
    go_enter Try.func10, Try.ntmps10
    go_wp2_with fail
    refine hw.out.mono ?_
    rintro e w1 ⟨rfl, h1⟩
    replace h1 := Lib.hid h1
    go_wp2_with fail
    go_ret3
    exact ⟨rfl, h1.out⟩

/-- Is it a branch? Is it taken? -/
def isT (op : Int) : Bool := decide (25 ≤ op ∧ op ≤ 28)
def takeR (op : Int) (a b : Nat) : Bool :=
  if op = 25 then decide (a = b) else if op = 26 then !decide (a = b) else if op = 27 then decide (sg a < sg b) else if op = 28 then !decide (sg a < sg b) else false
theorem ret_bb {a b c d : Bool} (h : a = c) (k : b = d) : Ending.returned (.tuple #[.bool a, .bool b]) = .returned (.tuple #[.bool c, .bool d]) := by rw [h, k]
theorem takes_any (op : Int) (a b : Nat) (ha : a < 4294967296) (hb : b < 4294967296) (W : World) :
    Calls Try.prog 13 #[.int .i64 op, .int .u32 a, .int .u32 b] W fun e w' => e = .returned (.tuple #[.bool (takeR op a b), .bool (isT op)]) ∧ W = w' := by
  have o1 : ordI (a : Int) (b : Int) = 0 ↔ a = b := by unfold ordI; constructor <;> intro h <;> (repeat' split at h) <;> (try split) <;> omega
  have o2 : ordI (wrap32 (a : Int)) (wrap32 (b : Int)) < 0 ↔ sg a < sg b := by
    rw [wrap_sg ha, wrap_sg hb]
    have := @ord_lt (sg a) (sg b)
    simpa using this
  have o3 : 0 ≤ ordI (wrap32 (a : Int)) (wrap32 (b : Int)) ↔ ¬ sg a < sg b := by rw [← o2]; omega
  go_enter Try.func13, Try.ntmps13
  go_wp2_with fail
  all_goals try (refine (orderU_any _ _ _).mono ?_; rintro e w1 ⟨rfl, rfl⟩; go_wp2_with fail)
  all_goals try (refine (orderS_any _ _ _).mono ?_; rintro e w1 ⟨rfl, rfl⟩; go_wp2_with fail)
  all_goals go_ret2
  all_goals refine ⟨?_, rfl⟩
  all_goals simp only [beq_iff_eq, beq_eq_false_iff_ne, ne_eq] at *
  · refine ret_bb ?_ ?_ <;> simp_all [takeR, isT] <;> first | rfl | (rw [Bool.eq_iff_iff]; simp [o1]; done) | (rw [Bool.eq_iff_iff]; simp)
  · refine ret_bb ?_ ?_ <;> simp_all [takeR, isT] <;> first | rfl | (rw [Bool.eq_iff_iff]; simp [o1]; done) | (rw [Bool.eq_iff_iff]; simp)
  · refine ret_bb ?_ ?_ <;> simp_all [takeR, isT] <;> first | rfl | (rw [Bool.eq_iff_iff]; simp)
  · refine ret_bb ?_ ?_ <;> simp_all [takeR, isT] <;> first | rfl | (rw [Bool.eq_iff_iff]; simp)
  · refine ret_bb ?_ ?_
    · unfold takeR
      repeat' rw [if_neg (by assumption)]
    · exact (decide_eq_false (by omega)).symm
end Go.Proofs.Ytjkeflldbmiohaa
