/- For core. -/
import Derived.Test.YtkmgdfcambdeeaaGreatDoorProg
import Derived.WalkSmall
import Derived.Defers
import Derived.Recover
import Derived.Laws.Pointers
import Derived.Test.YtkmgdfcambdeeaaGreatDoorQay
namespace Go.Proofs.YtkmgdfcambdeeaaGreatDoor
open Lib (hid)
set_option maxRecDepth 100000
open Go.RowKit
set_option linter.unusedVariables false
theorem fld_in2 {s : List UInt8} {c : UInt8} {v : Int} (h : fldB s c v = true) : 0 ≤ v ∧ v ≤ 15 := by
 unfold fldB at h
 split at h
 · simp only [Bool.and_eq_true, decide_eq_true_eq] at h
   exact h
 · have := of_decide_eq_true h
   omega
theorem may_flds {i : Ins} (h : mayB i = true) : (1 ≤ i.op ∧ i.op ≤ 53) ∧ (0 ≤ i.a ∧ i.a ≤ 15) ∧ (0 ≤ i.b ∧ i.b ≤ 15) ∧ (0 ≤ i.c ∧ i.c ≤ 15) := by
 unfold mayB at h
 simp only [Bool.and_eq_true, decide_eq_true_eq] at h
 obtain ⟨⟨⟨⟨h1, h2⟩, h3⟩, h4⟩, _⟩ := h
 exact ⟨h1, fld_in2 h2, fld_in2 h3, fld_in2 h4⟩
section
variable {W : World} {r rb tb N g : Nat} {f : Nat → Bool} {l : List UInt8}
def touT (F : List Cp) (i : Ins) (N : Nat) : Bool := decide (i.op = 23) && mayB i && decide (wayT (reg F i.b.toNat) (atN F i.b.toNat i.m) 16 1 N = 0)
def touP (F : List Cp) (i : Ins) (N : Nat) : Nat := if touT F i N then atN F i.b.toNat i.m / 256 else 0
set_option maxHeartbeats 4000000 in
theorem rTouch_any (H : RfAt W r rb tb N g f l) (F : List Cp) (hF : Fit F) (op A B C m : Int) : Calls Tryz.prog 11 #[fV F, .agg #[.int .i64 op, .int .i64 A, .int .i64 B, .int .i64 C, .int .i64 m], .pointer (some ⟨r, 0, none⟩)] W fun e w' => e = .returned (.tuple #[.int .i64 (touP F ⟨op, A, B, C, m⟩ N : Nat), .bool (touT F ⟨op, A, B, C, m⟩ N)]) ∧ Below W.heap.size W w' := by
 have k0 := hid (start_fi F op A B C m W)
 have hM := hid (fun w => iMay_any op A B C m w)
 obtain ⟨T, hT⟩ : ∃ T, T = touT F ⟨op, A, B, C, m⟩ N := ⟨_, rfl⟩
 obtain ⟨P, hP⟩ : ∃ P, P = touP F ⟨op, A, B, C, m⟩ N := ⟨_, rfl⟩
 have hPT : P = if T then atN F B.toNat m / 256 else 0 := by rw [hP, hT]; rfl
 rw [← hT, ← hP]
 unfold touT at hT
 dsimp only at hT
 clear hP
 by_cases h23 : op = 23
 case neg =>
   have hT' : T = false := by rw [hT, decide_eq_false h23]; rfl
   subst hT'
   have hP' : P = 0 := hPT
   subst hP'
   have e23 : (op == 23) = false := by simpa using h23
   have e24 : (op != 23) = true := by simpa using h23
   clear hT hPT h23
   unfold fV
   go_enter Tryz.func11, Tryz.ntmps11
   go_upto_region 1 with (fail)
   generalize ((W.alloc (.cells (fC F).toArray 28)).alloc _) = w1 at k0 ⊢
   have i0 := k0.out.cell (g := W.heap.size + 1) (j := 0) (u := .int .i64 op) (ir op A B C m) (by simp) rfl
   go_wp2_with fail
   go_ret2
   exact ⟨rfl, k0.out.bl⟩
 subst h23
 cases hm : mayB ⟨23, A, B, C, m⟩
 · rw [hm] at hM hT
   subst hT
   have hP' : P = 0 := hPT
   subst hP'
   clear hPT hm
   unfold fV
   go_enter Tryz.func11, Tryz.ntmps11
   go_upto_region 1 with (fail)
   generalize ((W.alloc (.cells (fC F).toArray 28)).alloc _) = w1 at k0 ⊢
   have i0 := k0.out.cell (g := W.heap.size + 1) (j := 0) (u := .int .i64 23) (ir 23 A B C m) (by simp) rfl
   have i1 := k0.out.cell (g := W.heap.size + 1) (j := 1) (u := .int .i64 A) (ir 23 A B C m) (by simp) rfl
   have i2 := k0.out.cell (g := W.heap.size + 1) (j := 2) (u := .int .i64 B) (ir 23 A B C m) (by simp) rfl
   have i3 := k0.out.cell (g := W.heap.size + 1) (j := 3) (u := .int .i64 C) (ir 23 A B C m) (by simp) rfl
   have i4 := k0.out.cell (g := W.heap.size + 1) (j := 4) (u := .int .i64 m) (ir 23 A B C m) (by simp) rfl
   go_wp2_with fail
   refine (hM.out _).mono ?_
   rintro ee w2 ⟨rfl, h2⟩
   have hb := hid ((k0.out.below h2).bl)
   clear h2 k0
   go_wp2_with fail
   go_ret2
   exact ⟨rfl, hb.out⟩
 · rw [hm] at hM hT
   obtain ⟨_, _, ⟨hB0, hB1⟩, _⟩ := may_flds hm
   dsimp only at hB0 hB1
   obtain ⟨B, rfl⟩ := Int.eq_ofNat_of_zero_le hB0
   have hB : B < 16 := by omega
   clear hB0 hB1
   have gb := reg_get (F := F) (i := B) (by rw [hF.len]; omega)
   obtain ⟨b, hb⟩ : ∃ b, b = reg F B := ⟨_, rfl⟩
   have fb : b.fit := hb ▸ hF.reg B
   obtain ⟨at_, hat⟩ : ∃ x, x = atN F B m := ⟨_, rfl⟩
   have lat : at_ < 4294967296 := hat ▸ atN_lt F B m
   have eat : (((b.cu : Nat) : Int) + m % 4294967296) % 4294967296 = ((at_ : Nat) : Int) := by rw [hat, hb]; unfold atN; omega
   have hWy := hid (fun (w : World) (H : RfAt w r rb tb N g f l) => rWay_any H b fb at_ 16 1 lat (by decide) (by decide))
   simp only [Int.toNat_natCast, ← hat, ← hb] at hT hPT
   rw [← hb] at gb
   generalize wayT b at_ 16 1 N = t at *
   replace gb := hid gb
   replace H := hid H
   replace hT := hid hT
   replace hPT := hid hPT
   clear hm hb hat
   unfold fV
   go_enter Tryz.func11, Tryz.ntmps11
   go_upto_region 1 with (fail)
   generalize ((W.alloc (.cells (fC F).toArray 28)).alloc _) = w1 at k0 ⊢
   have i0 := k0.out.cell (g := W.heap.size + 1) (j := 0) (u := .int .i64 23) (ir 23 A B C m) (by simp) rfl
   have i1 := k0.out.cell (g := W.heap.size + 1) (j := 1) (u := .int .i64 A) (ir 23 A B C m) (by simp) rfl
   have i2 := k0.out.cell (g := W.heap.size + 1) (j := 2) (u := .int .i64 B) (ir 23 A B C m) (by simp) rfl
   have i3 := k0.out.cell (g := W.heap.size + 1) (j := 3) (u := .int .i64 C) (ir 23 A B C m) (by simp) rfl
   have i4 := k0.out.cell (g := W.heap.size + 1) (j := 4) (u := .int .i64 m) (ir 23 A B C m) (by simp) rfl
   go_wp2_with fail
   refine (hM.out _).mono ?_
   rintro ee w2 ⟨rfl, h2⟩
   have k2 := hid (k0.out.below h2)
   clear h2 k0 i0 i1 i2 i3 i4 hM
   have i2 := k2.out.cell (g := W.heap.size + 1) (j := 2) (u := .int .i64 B) (ir 23 A B C m) (by simp) rfl
   have i4 := k2.out.cell (g := W.heap.size + 1) (j := 4) (u := .int .i64 m) (ir 23 A B C m) (by simp) rfl
   obtain ⟨a0, a1, a2, a3, a4, a5, a6, a7⟩ := k2.out.reg (g := W.heap.size) (F := F) (by simp) gb.out
   clear i4
   go_upto_region 4 with (fail)
   have k3 := hid (k2.out.push b.C 25)
   clear i2 a0 a1 a2 a3 a4 a5 a6 a7 k2
   change Code.wp _ _ _ _ (w2.alloc (.cells b.C.toArray 25))
   generalize w2.alloc (.cells b.C.toArray 25) = w3 at k3 ⊢
   generalize w2.heap.size = q at k3 ⊢
   obtain ⟨p0, p1, p2, p3, p4, p5, p6, p7⟩ := (k3.out.cap (g := q) (List.mem_cons_self ..) : CapAt _ _ b.cu b.e b.b b.t b.pm b.ty b.rs b.va)
   have i4 := k3.out.cell (g := W.heap.size + 1) (j := 4) (u := .int .i64 m) (ir 23 A B C m) (by simp) rfl
   have H3 := hid (H.out.below k3.out.bl)
   go_wp2_with fail
   refine (hWy.out _ H3.out).mono ?_
   rintro ee w4 ⟨rfl, h4⟩
   have hbl := hid ((k3.out.below h4).bl)
   clear h4 k3 hWy p0 p1 p2 p3 p4 p5 p6 p7 i4 H3
   by_cases ht : t = 0
   · subst ht
     have hTv : T = true := by rw [hT.out]; rfl
     subst hTv
     have hPv := hid (show P = at_ / 256 from by rw [hPT.out]; rfl)
     go_wp2_with fail
     go_ret2
     exact ⟨by rw [hPv.out]; rfl, hbl.out⟩
   · have ht' : (t == 0) = false := by simpa using ht
     have hTv : T = false := by rw [hT.out, decide_eq_false ht]; rfl
     subst hTv
     have hPv : P = 0 := by rw [hPT.out]; rfl
     subst hPv
     clear ht
     go_wp2_with fail
     go_ret2
     exact ⟨rfl, hbl.out⟩
end
def sg (a : Nat) : Int := if a < 2147483648 then (a : Int) else (a : Int) - 4294967296
theorem wrap_sg {a : Nat} (h : a < 4294967296) : wrap32 (a : Int) = sg a := by
 unfold wrap32 sg
 split <;> omega
def oneN (t : Bool) : Nat := if t then 1 else 0
theorem oneIf_any (t : Bool) (w : World) : Calls Tryz.prog 187 #[.bool t] w fun e w' => e = .returned (.int .u32 (oneN t : Nat)) ∧ w = w' := by
 go_enter Tryz.func187, Tryz.ntmps187
 cases t <;> go_wp2 <;> go_ret <;> exact ⟨rfl, rfl⟩
def ordI (a b : Int) : Int := if a < b then -1 else if b < a then 1 else 0
theorem orderU_any (a b : Int) (w : World) : Calls Tryz.prog 135 #[.int .u32 a, .int .u32 b] w fun e w' => e = .returned (.int .i64 (ordI a b)) ∧ w = w' := by
 go_enter Tryz.func135, Tryz.ntmps135
 go_wp2
 · go_ret
   exact ⟨ret_int (by unfold ordI; split <;> omega), rfl⟩
 · go_ret
   exact ⟨ret_int (by unfold ordI; repeat' split <;> omega), rfl⟩
 · go_ret
   exact ⟨ret_int (by unfold ordI; repeat' split <;> omega), rfl⟩
theorem orderS_any (a b : Int) (w : World) : Calls Tryz.prog 136 #[.int .i32 a, .int .i32 b] w fun e w' => e = .returned (.int .i64 (ordI a b)) ∧ w = w' := by
 go_enter Tryz.func136, Tryz.ntmps136
 go_wp2
 · go_ret
   exact ⟨ret_int (by unfold ordI; split <;> omega), rfl⟩
 · go_ret
   exact ⟨ret_int (by unfold ordI; repeat' split <;> omega), rfl⟩
 · go_ret
   exact ⟨ret_int (by unfold ordI; repeat' split <;> omega), rfl⟩
theorem ord_lt {a b : Int} : decide (ordI a b < 0) = decide (a < b) := by
 unfold ordI; split
 · simp [*]
 · split <;> simp [*]
theorem ord_eq {a b : Int} : (ordI a b == 0) = decide (a = b) := by
 unfold ordI; split
 · simp; omega
 · split
   · simp; omega
   · simp; omega
theorem add_any (a b : Nat) (ha : a < 4294967296) (hb : b < 4294967296) (w : World) : Calls Tryz.prog 176 #[.int .u32 a, .int .u32 b] w fun e w' => e = .returned (.int .u32 ((a + b) % 4294967296 : Nat)) ∧ w = w' := by
 go_enter Tryz.func176, Tryz.ntmps176
 go_wp2
 go_ret
 exact ⟨ret_int (by omega), rfl⟩
theorem sub_any (a b : Nat) (ha : a < 4294967296) (hb : b < 4294967296) (w : World) : Calls Tryz.prog 177 #[.int .u32 a, .int .u32 b] w fun e w' => e = .returned (.int .u32 ((a + (4294967296 - b)) % 4294967296 : Nat)) ∧ w = w' := by
 go_enter Tryz.func177, Tryz.ntmps177
 go_wp2
 go_ret
 exact ⟨ret_int (by omega), rfl⟩
theorem mul_any (a b : Nat) (ha : a < 4294967296) (hb : b < 4294967296) (w : World) : Calls Tryz.prog 178 #[.int .u32 a, .int .u32 b] w fun e w' => e = .returned (.int .u32 (a * b % 4294967296 : Nat)) ∧ w = w' := by
 go_enter Tryz.func178, Tryz.ntmps178
 go_wp2
 go_ret
 exact ⟨ret_int (by simp), rfl⟩
theorem div_any (a b : Nat) (ha : a < 4294967296) (hb : b < 4294967296) (w : World) (h : b ≠ 0) : Calls Tryz.prog 179 #[.int .u32 a, .int .u32 b] w fun e w' => e = .returned (.int .u32 (a / b : Nat)) ∧ w = w' := by
 have h0 : ¬ (b : Int) = 0 := by omega
 go_enter Tryz.func179, Tryz.ntmps179
 go_wp2
 go_ret
 refine ⟨ret_int ?_, rfl⟩
 have := Nat.div_le_self a b
 have e : ((a : Int) / (b : Int)) = ((a / b : Nat) : Int) := (Int.natCast_ediv a b).symm
 rw [e]
 generalize a / b = q at this ⊢
 omega
theorem rem_any (a b : Nat) (ha : a < 4294967296) (hb : b < 4294967296) (w : World) (h : b ≠ 0) : Calls Tryz.prog 180 #[.int .u32 a, .int .u32 b] w fun e w' => e = .returned (.int .u32 (a % b : Nat)) ∧ w = w' := by
 have h0 : ¬ (b : Int) = 0 := by omega
 go_enter Tryz.func180, Tryz.ntmps180
 go_wp2
 go_ret
 exact ⟨ret_int rfl, rfl⟩
theorem and_any (a b : Nat) (ha : a < 4294967296) (hb : b < 4294967296) (w : World) : Calls Tryz.prog 181 #[.int .u32 a, .int .u32 b] w fun e w' => e = .returned (.int .u32 (a &&& b : Nat)) ∧ w = w' := by
 go_enter Tryz.func181, Tryz.ntmps181
 go_wp2
 go_ret
 exact ⟨ret_int (u32_and_nat a b ha hb), rfl⟩
theorem or_any (a b : Nat) (ha : a < 4294967296) (hb : b < 4294967296) (w : World) : Calls Tryz.prog 182 #[.int .u32 a, .int .u32 b] w fun e w' => e = .returned (.int .u32 (a ||| b : Nat)) ∧ w = w' := by
 go_enter Tryz.func182, Tryz.ntmps182
 go_wp2
 go_ret
 exact ⟨ret_int (u32_or_nat a b ha hb), rfl⟩
theorem xor_any (a b : Nat) (ha : a < 4294967296) (hb : b < 4294967296) (w : World) : Calls Tryz.prog 183 #[.int .u32 a, .int .u32 b] w fun e w' => e = .returned (.int .u32 (a ^^^ b : Nat)) ∧ w = w' := by
 go_enter Tryz.func183, Tryz.ntmps183
 go_wp2
 go_ret
 exact ⟨ret_int (u32_xor_nat a b ha hb), rfl⟩
theorem shl_any (a b : Nat) (ha : a < 4294967296) (hb : b < 4294967296) (w : World) : Calls Tryz.prog 184 #[.int .u32 a, .int .u32 b] w fun e w' => e = .returned (.int .u32 (a * 2 ^ (b % 32) % 4294967296 : Nat)) ∧ w = w' := by
 obtain ⟨m, hm, h1⟩ : ∃ m : Nat, m = b % 32 ∧ m < 32 := ⟨_, rfl, Nat.mod_lt _ (by decide)⟩
 have e : ((b : Int).tmod 32) = (m : Int) := by rw [hm]; rfl
 rw [← hm]
 go_enter Tryz.func184, Tryz.ntmps184
 go_wp2
 go_ret
 refine ⟨ret_int ?_, rfl⟩
 rw [hm]
 simp
theorem shr_any (a b : Nat) (ha : a < 4294967296) (hb : b < 4294967296) (w : World) : Calls Tryz.prog 185 #[.int .u32 a, .int .u32 b] w fun e w' => e = .returned (.int .u32 (a / 2 ^ (b % 32) : Nat)) ∧ w = w' := by
 obtain ⟨m, hm, h1⟩ : ∃ m : Nat, m = b % 32 ∧ m < 32 := ⟨_, rfl, Nat.mod_lt _ (by decide)⟩
 have e : ((b : Int).tmod 32) = (m : Int) := by rw [hm]; rfl
 rw [← hm]
 go_enter Tryz.func185, Tryz.ntmps185
 go_wp2
 go_ret
 refine ⟨ret_int ?_, rfl⟩
 rw [hm]
 simp
theorem lt_any (a b : Nat) (ha : a < 4294967296) (hb : b < 4294967296) (w : World) : Calls Tryz.prog 186 #[.int .u32 a, .int .u32 b] w fun e w' => e = .returned (.int .u32 (oneN (decide (sg a < sg b)) : Nat)) ∧ w = w' := by
 go_enter Tryz.func186, Tryz.ntmps186
 go_wp2_with fail
 refine (orderS_any _ _ _).mono ?_
 rintro e w1 ⟨rfl, rfl⟩
 go_wp2_with fail
 refine (oneIf_any _ _).mono ?_
 rintro e w1 ⟨rfl, rfl⟩
 go_wp2
 go_ret
 rw [ord_lt, wrap_sg ha, wrap_sg hb]
 exact ⟨rfl, rfl⟩
theorem ltu_any (a b : Nat) (ha : a < 4294967296) (hb : b < 4294967296) (w : World) : Calls Tryz.prog 188 #[.int .u32 a, .int .u32 b] w fun e w' => e = .returned (.int .u32 (oneN (decide (a < b)) : Nat)) ∧ w = w' := by
 go_enter Tryz.func188, Tryz.ntmps188
 go_wp2_with fail
 refine (orderU_any _ _ _).mono ?_
 rintro e w1 ⟨rfl, rfl⟩
 go_wp2_with fail
 refine (oneIf_any _ _).mono ?_
 rintro e w1 ⟨rfl, rfl⟩
 go_wp2
 go_ret
 rw [ord_lt]
 exact ⟨by simp, rfl⟩
theorem eq_any (a b : Nat) (ha : a < 4294967296) (hb : b < 4294967296) (w : World) : Calls Tryz.prog 189 #[.int .u32 a, .int .u32 b] w fun e w' => e = .returned (.int .u32 (oneN (decide (a = b)) : Nat)) ∧ w = w' := by
 go_enter Tryz.func189, Tryz.ntmps189
 go_wp2_with fail
 refine (orderU_any _ _ _).mono ?_
 rintro e w1 ⟨rfl, rfl⟩
 go_wp2_with fail
 refine (oneIf_any _ _).mono ?_
 rintro e w1 ⟨rfl, rfl⟩
 go_wp2
 go_ret
 rw [ord_eq]
 refine ⟨?_, rfl⟩
 rw [show (decide ((a : Int) = (b : Int))) = decide (a = b) from decide_eq_decide.2 Int.ofNat_inj]
 rfl
def divP : List PanicEntry := [{ v := .iface 10 (strVal "integer divide by zero"), recovered := false }]
theorem div_zero (a : Nat) (w : World) : Calls Tryz.prog 179 #[.int .u32 a, .int .u32 0] w fun e w' => e = .panicked divP ∧ w = w' := by
 go_enter Tryz.func179, Tryz.ntmps179
 go_wp2
 exact ⟨rfl, rfl, rfl⟩
theorem rem_zero (a : Nat) (w : World) : Calls Tryz.prog 180 #[.int .u32 a, .int .u32 0] w fun e w' => e = .panicked divP ∧ w = w' := by
 go_enter Tryz.func180, Tryz.ntmps180
 go_wp2
 exact ⟨rfl, rfl, rfl⟩
theorem build_row (n : Int) (f : Nat) (w : World) : Sem.run Tryz.prog (Instr.build 226 #[(0, Value.int IntKind.i64 n), (1, Value.func (Fn.func f) #[] #[])]) w = .ok (.agg #[.int .i64 n, .func (Fn.func f) #[] #[]]) w := by
 kernel_rfl
def wayN (p : Nat) : Nat := [176, 177, 178, 179, 180, 181, 182, 183, 184, 185, 186, 188, 189].getD p 0
def wayV (op : Int) : Value := if 3 ≤ op ∧ op ≤ 15 then .func (Fn.func (wayN (op - 3).toNat)) #[] #[] else .nilFunc
theorem wayV_at {p : Nat} (h : p < 13) : wayV ((p + 3 : Nat) : Int) = .func (Fn.func (wayN p)) #[] #[] := by
 unfold wayV
 rw [if_pos (by omega), show (((p + 3 : Nat) : Int) - 3).toNat = p from by omega]
theorem wayV_no {op : Int} (h : ∀ j : Nat, j < 13 → ((j + 3 : Nat) : Int) ≠ op) : wayV op = .nilFunc := by
 unfold wayV
 rw [if_neg]
 intro hh
 exact h (op - 3).toNat (by omega) (by omega)
set_option maxHeartbeats 2000000 in
theorem wayOf_any (op : Int) (W : World) : Calls Tryz.prog 143 #[.int .i64 op] W fun e w' => e = .returned (wayV op) ∧ Below W.heap.size W w' := by
 have hbr := build_row
 go_enter Tryz.func143, Tryz.ntmps143
 go_wp2_with fail
 generalize hw1 : W.alloc _ = w1
 have b1 : Below W.heap.size W w1 := hw1 ▸ (Below.refl _ _).alloc (Nat.le_refl _) _
 have c1 : ∀ p, p < 13 → w1.cell? ⟨W.heap.size, p * 2, none⟩ = some (.int .i64 ((p + 3 : Nat) : Int)) ∧ w1.cell? ⟨W.heap.size, p * 2 + 1, none⟩ = some (.func (Fn.func (wayN p)) #[] #[]) := by
   intro p hp
   have : p = 0 ∨ p = 1 ∨ p = 2 ∨ p = 3 ∨ p = 4 ∨ p = 5 ∨ p = 6 ∨ p = 7 ∨ p = 8 ∨ p = 9 ∨ p = 10 ∨ p = 11 ∨ p = 12 := by omega
   rw [← hw1]
   rcases this with rfl | rfl | rfl | rfl | rfl | rfl | rfl | rfl | rfl | rfl | rfl | rfl | rfl <;> simp [go_sem, wayN]
 have s1 : W.heap.size < w1.heap.size := by rw [← hw1]; simp
 clear hw1 hbr
 replace c1 := hid c1
 replace b1 := hid b1
 replace s1 := hid s1
 go_loopw [2, 22] (fun v i wr => ∃ p : Nat, p ≤ 13 ∧ i = .int .i64 p ∧ v = .nilFunc ∧ Hid (∀ j : Nat, j < p → ((j + 3 : Nat) : Int) ≠ op) ∧ Hid (Below w1.heap.size w1 wr)) (fun _ i _ => 13 - (intOf i).toNat)
 case atStart => exact ⟨0, by omega, rfl, rfl, hid (fun j h => absurd h (by omega)), hid (Below.refl _ _)⟩
 case round =>
   obtain ⟨p, hp, rfl, rfl, hne, hb⟩ := hrel
   by_cases hlt : p < 13
   · have e0 := (hb.out.cell (p := ⟨W.heap.size, p * 2, none⟩) s1.out).trans (c1.out p hlt).1
     have hsf := fun (a : Addr) (f : Nat) (w : World) => run_store Tryz.prog w a (.func (.func f) #[] #[]) .plain rfl
     have e1 := (hb.out.cell (p := ⟨W.heap.size, p * 2 + 1, none⟩) s1.out).trans (c1.out p hlt).2
     go_wp2
     · rename_i heq
       have hq : ((p + 3 : Nat) : Int) = op := by
         have := eq_of_beq heq
         omega
       go_ret
       refine ⟨?_, b1.out.trans ((hb.out.alloc hb.out.size _).mono b1.out.size)⟩
       rw [← hq, wayV_at hlt]
       rfl
     · rename_i heq
       have hq : ((p + 3 : Nat) : Int) ≠ op := by
         intro h
         have := ne_of_beq_false heq
         omega
       refine ⟨⟨p + 1, by omega, by go_num, rfl, hid (fun j hj => ?_), hid (hb.out.alloc hb.out.size _)⟩, by simp [intOf]; omega⟩
       rcases Nat.lt_or_ge j p with hjp | hjp
       · exact hne.out j hjp
       · rw [show j = p from by omega]
         exact hq
   · have hp13 : p = 13 := by omega
     subst hp13
     go_wp2
     go_ret
     refine ⟨?_, b1.out.trans (hb.out.mono b1.out.size)⟩
     rw [wayV_no hne.out]
     rfl
theorem catch_panicking (p q : Addr) (x y : Int) (u : TypeId) (pv : Value) (older : List PanicEntry) (w : World) (hc : w.cell? p = some (.int .u32 x)) (hz : w.frozen? p = false) (hd : w.cell? q = some (.int .i64 y)) (hy : w.frozen? q = false) (hpq : p ≠ q) :
   CallsD Tryz.prog 190 #[.pointer (some p), .pointer (some q)] (.panicking ({ v := .iface u pv, recovered := false } :: older)) w fun e u' w' =>
     e = .returned (.tuple #[]) ∧ u' = .panicking ({ v := .iface u pv, recovered := true } :: older) ∧ w' = (w.setCell p (.int .u32 0)).setCell q (.int .i64 7) := by
 refine callsD_of_wpS Tryz.func190 rfl fun c₀ cs hu => ?_
 apply wpS_seq
 apply wpS_region
 simp [wpOpsS, go_sem, recoverD, hu, Tryz.ntmps190, Exit.thenS]
 refine wpS_cond (t := true) (by simp [Act.eval, Array.replicate]) ?_
 simp only [if_true]
 apply wpS_region
 have hd' : (w.setCell p (.int .u32 0)).cell? q = some (.int .i64 y) := by rw [World.cell?_setCell_other _ _ _ _ hpq]; exact hd
 have hy' : (w.setCell p (.int .u32 0)).frozen? q = false := by rw [World.frozen?_setCell]; exact hy
 simp [wpOpsS, go_sem, hc, hz, hd', hy', bodyPostS, results, Tryz.results190]
theorem catch_idle (p q : Addr) (w : World) :
   CallsD Tryz.prog 190 #[.pointer (some p), .pointer (some q)] .returning w fun e u' w' => e = .returned (.tuple #[]) ∧ u' = .returning ∧ w' = w := by
 refine callsD_of_wpS Tryz.func190 rfl fun c₀ cs hu => ?_
 apply wpS_seq
 apply wpS_region
 simp [wpOpsS, go_sem, recoverD, hu, Tryz.ntmps190, Exit.thenS]
 refine wpS_cond (t := false) (by simp [Act.eval, Array.replicate]) ?_
 simp only [Bool.false_eq_true, if_false]
 refine wpS_of_wp (wp_skip ?_)
 cases c₀
 simp_all [bodyPostS, results, Tryz.results190]
theorem attempt_ok (f : Nat) (a b v : Nat) (hf : ∀ w, Calls Tryz.prog f #[.int .u32 a, .int .u32 b] w fun e w' => e = .returned (.int .u32 v) ∧ w = w') (hcf : ∀ (args : Array Value) (w : World), Sem.run Tryz.prog (callFunc f args) w = .ok (.enter f args) w) (W : World) :
   Calls Tryz.prog 144 #[.func (Fn.func f) #[] #[], .int .u32 a, .int .u32 b] W fun e w' => e = .returned (.tuple #[.int .u32 v, .int .i64 0]) ∧ Below W.heap.size W w' := by
 have hmf : ∀ (fn : Fn) (first cap : Array Value) (w : World), (Instr.makeFunc fn first cap).run Tryz.prog w = .ok (.func fn first cap) w := fun _ _ _ _ => rfl
 go_enter_defers Tryz.func144, Tryz.ntmps144
 go_wp2_with fail
 refine (hf _).mono ?_
 rintro e w1 ⟨rfl, rfl⟩
 go_wp2_with fail
 refine leaves_cons (f := 190) (args := #[.pointer (some ⟨W.heap.size, 0, none⟩), .pointer (some ⟨W.heap.size + 1, 0, none⟩)]) (by simp) (by simp [go_sem]) ?_
 refine (catch_idle ⟨W.heap.size, 0, none⟩ ⟨W.heap.size + 1, 0, none⟩ _).mono ?_
 rintro e u' w'' ⟨rfl, rfl, rfl⟩
 have hB : Below W.heap.size W ((W.alloc (Obj.cells #[Value.int IntKind.u32 v] 22)).alloc (Obj.cells #[Value.int IntKind.i64 0] 39)) :=
   ((Below.refl _ _).alloc (Nat.le_refl _) _).alloc (by simp) _
 simp [Leaves, settle, results, Tryz.results144, go_sem]
 exact hB
theorem attempt_bad (f : Nat) (a b : Nat) (hf : ∀ w, Calls Tryz.prog f #[.int .u32 a, .int .u32 b] w fun e w' => e = .panicked divP ∧ w = w') (hcf : ∀ (args : Array Value) (w : World), Sem.run Tryz.prog (callFunc f args) w = .ok (.enter f args) w) (W : World) :
   Calls Tryz.prog 144 #[.func (Fn.func f) #[] #[], .int .u32 a, .int .u32 b] W fun e w' => e = .returned (.tuple #[.int .u32 0, .int .i64 7]) ∧ Below W.heap.size W w' := by
 have hmf : ∀ (fn : Fn) (first cap : Array Value) (w : World), (Instr.makeFunc fn first cap).run Tryz.prog w = .ok (.func fn first cap) w := fun _ _ _ _ => rfl
 go_enter_defers Tryz.func144, Tryz.ntmps144
 go_wp2_with fail
 refine (hf _).mono ?_
 rintro e w1 ⟨rfl, rfl⟩
 go_wp2_with fail
 refine leaves_cons (f := 190) (args := #[.pointer (some ⟨W.heap.size, 0, none⟩), .pointer (some ⟨W.heap.size + 1, 0, none⟩)]) (by simp) (by simp [go_sem]) ?_
 refine (catch_panicking ⟨W.heap.size, 0, none⟩ ⟨W.heap.size + 1, 0, none⟩ 0 0 _ _ [] _ ?_ ?_ ?_ ?_ ?_).mono ?_
 · simp [go_sem]
 · simp [go_sem]
 · simp [go_sem]
 · simp [go_sem]
 · simp
 rintro e u' w'' ⟨rfl, rfl, rfl⟩
 simp [Leaves, settle, results, Tryz.results144, go_sem]
 exact ((Below.refl _ _).alloc (Nat.le_refl _) _).alloc (by simp) _
def wayR (p a b : Nat) : Nat := match p with
 | 0 => (a + b) % 4294967296
 | 1 => (a + (4294967296 - b)) % 4294967296
 | 2 => a * b % 4294967296
 | 3 => a / b
 | 4 => a % b
 | 5 => a &&& b
 | 6 => a ||| b
 | 7 => a ^^^ b
 | 8 => a * 2 ^ (b % 32) % 4294967296
 | 9 => a / 2 ^ (b % 32)
 | 10 => oneN (decide (sg a < sg b))
 | 11 => oneN (decide (a < b))
 | 12 => oneN (decide (a = b))
 | _ => 0
def isR (op : Int) : Bool := decide (3 ≤ op ∧ op ≤ 15)
def badR (op : Int) (b : Nat) : Bool := decide ((op = 6 ∨ op = 7) ∧ b = 0)
def valR (op : Int) (a b : Nat) : Nat := if isR op = true ∧ badR op b = false then wayR (op - 3).toNat a b else 0
def trapR (op : Int) (b : Nat) : Int := if badR op b then 7 else 0
theorem attempt_any (p a b : Nat) (hp : p < 13) (ha : a < 4294967296) (hb : b < 4294967296) (W : World) :
   Calls Tryz.prog 144 #[.func (Fn.func (wayN p)) #[] #[], .int .u32 a, .int .u32 b] W fun e w' => e = .returned (.tuple #[.int .u32 (valR ((p + 3 : Nat) : Int) a b : Nat), .int .i64 (trapR ((p + 3 : Nat) : Int) b)]) ∧ Below W.heap.size W w' := by
 have : p = 0 ∨ p = 1 ∨ p = 2 ∨ p = 3 ∨ p = 4 ∨ p = 5 ∨ p = 6 ∨ p = 7 ∨ p = 8 ∨ p = 9 ∨ p = 10 ∨ p = 11 ∨ p = 12 := by omega
 rcases this with rfl | rfl | rfl | rfl | rfl | rfl | rfl | rfl | rfl | rfl | rfl | rfl | rfl
 · exact attempt_ok _ a b _ (add_any a b ha hb) (fun _ _ => rfl) W
 · exact attempt_ok _ a b _ (sub_any a b ha hb) (fun _ _ => rfl) W
 · exact attempt_ok _ a b _ (mul_any a b ha hb) (fun _ _ => rfl) W
 · by_cases h : b = 0
   · subst h
     exact attempt_bad _ a 0 (div_zero a) (fun _ _ => rfl) W
   · have e1 : badR ((3 + 3 : Nat) : Int) b = false := by simp [badR, h]
     simp only [valR, trapR, e1]
     exact attempt_ok _ a b _ (fun w => div_any a b ha hb w h) (fun _ _ => rfl) W
 · by_cases h : b = 0
   · subst h
     exact attempt_bad _ a 0 (rem_zero a) (fun _ _ => rfl) W
   · have e1 : badR ((4 + 3 : Nat) : Int) b = false := by simp [badR, h]
     simp only [valR, trapR, e1]
     exact attempt_ok _ a b _ (fun w => rem_any a b ha hb w h) (fun _ _ => rfl) W
 · exact attempt_ok _ a b _ (and_any a b ha hb) (fun _ _ => rfl) W
 · exact attempt_ok _ a b _ (or_any a b ha hb) (fun _ _ => rfl) W
 · exact attempt_ok _ a b _ (xor_any a b ha hb) (fun _ _ => rfl) W
 · exact attempt_ok _ a b _ (shl_any a b ha hb) (fun _ _ => rfl) W
 · exact attempt_ok _ a b _ (shr_any a b ha hb) (fun _ _ => rfl) W
 · exact attempt_ok _ a b _ (lt_any a b ha hb) (fun _ _ => rfl) W
 · exact attempt_ok _ a b _ (ltu_any a b ha hb) (fun _ _ => rfl) W
 · exact attempt_ok _ a b _ (eq_any a b ha hb) (fun _ _ => rfl) W
theorem nil_eq (w : World) : Sem.run Tryz.prog (binOp BinOp.eql 195 Value.nilFunc Value.nilFunc) w = .ok (.bool true) w := by kernel_rfl
theorem fun_eq (f : Nat) (w : World) : Sem.run Tryz.prog (binOp BinOp.eql 195 (Value.func (Fn.func f) #[] #[]) Value.nilFunc) w = .ok (.bool false) w := by kernel_rfl
set_option maxHeartbeats 2000000 in
theorem reckon_any (op : Int) (a b : Nat) (ha : a < 4294967296) (hb : b < 4294967296) (W : World) :
   Calls Tryz.prog 91 #[.int .i64 op, .int .u32 a, .int .u32 b] W fun e w' => e = .returned (.tuple #[.int .u32 (valR op a b : Nat), .int .i64 (trapR op b), .bool (isR op)]) ∧ Below W.heap.size W w' := by
 have hn := nil_eq
 have hf := fun_eq
 by_cases hr : 3 ≤ op ∧ op ≤ 15
 · obtain ⟨p, hp, rfl⟩ : ∃ p : Nat, p < 13 ∧ op = ((p + 3 : Nat) : Int) := ⟨(op - 3).toNat, by omega, by omega⟩
   have hw := wayOf_any ((p + 3 : Nat) : Int) W
   rw [wayV_at hp] at hw
   have hi : isR ((p + 3 : Nat) : Int) = true := decide_eq_true hr
   rw [hi]
   have hA := hid (fun w => attempt_any p a b hp ha hb w)
   generalize valR ((p + 3 : Nat) : Int) a b = V at hA ⊢
   generalize trapR ((p + 3 : Nat) : Int) b = T at hA ⊢
   generalize ((p + 3 : Nat) : Int) = O at hw ⊢
   replace hw := hid hw
   go_enter Tryz.func91, Tryz.ntmps91
   go_wp2_with fail
   refine hw.out.mono ?_
   rintro e w1 ⟨rfl, h1⟩
   replace h1 := hid h1
   go_wp2_with fail
   refine (hA.out _).mono ?_
   rintro e w2 ⟨rfl, h2⟩
   replace h2 := hid h2
   go_wp2_with fail
   go_ret3
   exact ⟨rfl, h1.out.trans (h2.out.mono h1.out.size)⟩
 · have hw := wayOf_any op W
   have hv : wayV op = .nilFunc := by unfold wayV; rw [if_neg hr]
   have e1 : isR op = false := decide_eq_false hr
   have e2 : badR op b = false := decide_eq_false (fun h => hr (by omega))
   have e3 : valR op a b = 0 := by unfold valR; simp [e1]
   have e4 : trapR op b = 0 := by unfold trapR; simp [e2]
   rw [hv] at hw
   rw [e1, e3, e4]
   replace hw := hid hw
   clear hr hv e1 e2 e3 e4
   go_enter Tryz.func91, Tryz.ntmps91
   go_wp2_with fail
   refine hw.out.mono ?_
   rintro e w1 ⟨rfl, h1⟩
   replace h1 := hid h1
   go_wp2_with fail
   go_ret3
   exact ⟨rfl, h1.out⟩
def isT (op : Int) : Bool := decide (25 ≤ op ∧ op ≤ 28)
def takeR (op : Int) (a b : Nat) : Bool :=
 if op = 25 then decide (a = b) else if op = 26 then !decide (a = b) else if op = 27 then decide (sg a < sg b) else if op = 28 then !decide (sg a < sg b) else false
theorem ret_bb {a b c d : Bool} (h : a = c) (k : b = d) : Ending.returned (.tuple #[.bool a, .bool b]) = .returned (.tuple #[.bool c, .bool d]) := by rw [h, k]
theorem takes_any (op : Int) (a b : Nat) (ha : a < 4294967296) (hb : b < 4294967296) (W : World) :
   Calls Tryz.prog 89 #[.int .i64 op, .int .u32 a, .int .u32 b] W fun e w' => e = .returned (.tuple #[.bool (takeR op a b), .bool (isT op)]) ∧ W = w' := by
 have o1 : ordI (a : Int) (b : Int) = 0 ↔ a = b := by unfold ordI; constructor <;> intro h <;> (repeat' split at h) <;> (try split) <;> omega
 have o2 : ordI (wrap32 (a : Int)) (wrap32 (b : Int)) < 0 ↔ sg a < sg b := by
   rw [wrap_sg ha, wrap_sg hb]
   have := @ord_lt (sg a) (sg b)
   simpa using this
 have o3 : 0 ≤ ordI (wrap32 (a : Int)) (wrap32 (b : Int)) ↔ ¬ sg a < sg b := by rw [← o2]; omega
 go_enter Tryz.func89, Tryz.ntmps89
 go_wp2_with fail
 all_goals try (refine (orderU_any _ _ _).mono ?_; rintro e w1 ⟨rfl, rfl⟩; go_wp2_with fail)
 all_goals try (refine (orderS_any _ _ _).mono ?_; rintro e w1 ⟨rfl, rfl⟩; go_wp2_with fail)
 all_goals go_ret2
 all_goals refine ⟨?_, rfl⟩
 all_goals simp only [beq_iff_eq, beq_eq_false_iff_ne, ne_eq] at *
 · refine ret_bb ?_ ?_ <;> simp_all [takeR, isT] <;> first | rfl | (rw [Bool.eq_iff_iff]; simp [o1]; done) | (rw [Bool.eq_iff_iff]; simp)
 · refine ret_bb ?_ ?_ <;> simp_all [takeR, isT] <;> first | rfl | (rw [Bool.eq_iff_iff]; simp [o1]; done) | (rw [Bool.eq_iff_iff]; simp)
 · refine ret_bb ?_ ?_ <;> simp_all [takeR, isT] <;> first | rfl | (rw [Bool.eq_iff_iff]; simp)
 · refine ret_bb ?_ ?_ <;> simp_all [takeR, isT] <;> first | rfl | (rw [Bool.eq_iff_iff]; simp)
 · refine ret_bb ?_ ?_
   · unfold takeR
     repeat' rw [if_neg (by assumption)]
   · exact (decide_eq_false (by omega)).symm
theorem valR_lt (op : Int) (a b : Nat) (ha : a < 4294967296) (hb : b < 4294967296) : valR op a b < 4294967296 := by
 unfold valR
 split
 · unfold wayR
   split
   · omega
   · omega
   · omega
   · exact Nat.lt_of_le_of_lt (Nat.div_le_self _ _) ha
   · exact Nat.lt_of_le_of_lt (Nat.mod_le _ _) ha
   · exact Nat.lt_of_le_of_lt Nat.and_le_left ha
   · exact Nat.or_lt_two_pow (n := 32) ha hb
   · exact Nat.xor_lt_two_pow (n := 32) ha hb
   · omega
   · exact Nat.lt_of_le_of_lt (Nat.div_le_self _ _) ha
   · unfold oneN; split <;> omega
   · unfold oneN; split <;> omega
   · unfold oneN; split <;> omega
   · omega
 · omega
theorem one_any (t : Bool) (w : World) : Calls Tryz.prog 99 #[.bool t] w fun e w' => e = .returned (.int .u32 (oneN t : Nat)) ∧ w = w' := by
 go_enter Tryz.func99, Tryz.ntmps99
 cases t <;> go_wp2 <;> go_ret <;> exact ⟨rfl, rfl⟩
theorem signed_any (a : Nat) (ha : a < 4294967296) (w : World) : Calls Tryz.prog 97 #[.int .u32 a] w fun e w' => e = .returned (.int .i64 (sg a)) ∧ w = w' := by
 obtain ⟨A, hA⟩ : ∃ A : Int, A = (a : Int) := ⟨_, rfl⟩
 have h0 : 0 ≤ A := by omega
 have h1 : A < 4294967296 := by omega
 obtain ⟨S, hS⟩ : ∃ S : Int, S = sg a := ⟨_, rfl⟩
 have h2 : A < 2147483648 → S = A := fun h => by rw [hS, hA]; unfold sg; rw [if_pos (by omega)]
 have h3 : ¬ A < 2147483648 → S = A - 4294967296 := fun h => by rw [hS, hA]; unfold sg; rw [if_neg (by omega)]
 rw [← hA, ← hS]
 clear hA hS ha
 replace h2 := hid h2
 replace h3 := hid h3
 go_enter Tryz.func97, Tryz.ntmps97
 go_wp2
 · go_ret
   exact ⟨ret_int (h2.out (by omega)).symm, rfl⟩
 · go_ret
   exact ⟨ret_int (h3.out (by omega)).symm, rfl⟩
theorem rtakes_any (op : Int) (a b : Nat) (ha : a < 4294967296) (hb : b < 4294967296) (W : World) :
   Calls Tryz.prog 51 #[.int .i64 op, .int .u32 a, .int .u32 b] W fun e w' => e = .returned (.tuple #[.bool (takeR op a b), .bool (isT op)]) ∧ W = w' := by
 go_enter Tryz.func51, Tryz.ntmps51
 go_wp2_with fail
 all_goals try (refine (signed_any _ ha _).mono ?_; rintro e w1 ⟨rfl, rfl⟩; go_wp2_with fail)
 all_goals try (refine (signed_any _ hb _).mono ?_; rintro e w1 ⟨rfl, rfl⟩; go_wp2_with fail)
 all_goals go_ret2
 all_goals refine ⟨?_, rfl⟩
 all_goals simp only [beq_iff_eq, beq_eq_false_iff_ne, ne_eq] at *
 · refine ret_bb ?_ ?_ <;> simp_all [takeR, isT] <;> first | rfl | (rw [Bool.eq_iff_iff]; simp; done) | (rw [Bool.eq_iff_iff]; simp; omega)
 · refine ret_bb ?_ ?_ <;> simp_all [takeR, isT] <;> first | rfl | (rw [Bool.eq_iff_iff]; simp; done) | (rw [Bool.eq_iff_iff]; simp; omega)
 · refine ret_bb ?_ ?_ <;> simp_all [takeR, isT] <;> first | rfl | (rw [Bool.eq_iff_iff]; simp; done) | (rw [Bool.eq_iff_iff]; simp; omega)
 · refine ret_bb ?_ ?_ <;> simp_all [takeR, isT] <;> first | rfl | (rw [Bool.eq_iff_iff]; simp; done) | (rw [Bool.eq_iff_iff]; simp; omega)
 · refine ret_bb ?_ ?_
   · unfold takeR
     repeat' rw [if_neg (by assumption)]
   · exact (decide_eq_false (by omega)).symm
def isL (op : Int) : Bool := decide (op = 17 ∨ op = 18 ∨ op = 19 ∨ op = 23)
def isS (op : Int) : Bool := decide (op = 20 ∨ op = 21 ∨ op = 22 ∨ op = 24)
def isY (op : Int) : Bool := decide (op = 50 ∨ op = 51 ∨ op = 52)
def memT (F : List Cp) (i : Ins) (N : Nat) : Int := wayT (reg F i.b.toNat) (atN F i.b.toNat i.m) (widI i.op).toNat (needN F i.op i.a.toNat) N
def doT (F : List Cp) (i : Ins) (N : Nat) : Int :=
 if (mayB i && decide (i.op ≠ 53)) = false then 6
 else if isL i.op || isS i.op then memT F i N
 else if i.op = 30 then jmpT (reg F i.b.toNat)
 else if isR i.op then trapR i.op (reg F i.c.toNat).cu
 else 0
def doF (F : List Cp) (i : Ins) (N : Nat) (f : Nat → Bool) (l : List UInt8) : List Cp :=
 if doT F i N ≠ 0 then zF
 else if isY i.op then F
 else if i.op = 29 then ((nxt F).set i.a.toNat (fur F 1)).set 16 (fur F i.m)
 else if i.op = 30 then ((nxt F).set i.a.toNat (fur F 1)).set 16 (reg F i.b.toNat)
 else if isL i.op then (nxt F).set i.a.toNat (ldV l f (reg F i.b.toNat) (atN F i.b.toNat i.m) i.op (widI i.op).toNat)
 else if isS i.op then nxt F
 else if isT i.op then (if takeR i.op (reg F i.a.toNat).cu (reg F i.b.toNat).cu then (nxt F).set 16 (fur F i.m) else nxt F)
 else if isR i.op then (nxt F).set i.a.toNat (numC (valR i.op (reg F i.b.toNat).cu (reg F i.c.toNat).cu))
 else (nxt F).set i.a.toNat (dDer F i.op (reg F i.b.toNat) (reg F i.c.toNat) i.m)
def doG (F : List Cp) (i : Ins) (N : Nat) (f : Nat → Bool) : Nat → Bool :=
 if doT F i N = 0 ∧ isS i.op = true then stoF N f (reg F i.a.toNat) (atN F i.b.toNat i.m) i.op (widI i.op).toNat else f
def doL (F : List Cp) (i : Ins) (N : Nat) (l : List UInt8) : List UInt8 :=
 if doT F i N = 0 ∧ isS i.op = true then stoL N l (reg F i.a.toNat) (atN F i.b.toNat i.m) i.op (widI i.op).toNat else l
def tb (t0 t1 t2 t3 : Nat) (x y : Bool) : Nat := match x, y with
 | false, false => t0
 | false, true => t1
 | true, false => t2
 | true, true => t3
theorem bit_int {a p : Nat} (ha : a < 4294967296) (hp : p < 32) {U : Int} (hU : U = ((2 ^ p : Nat) : Int)) : ((a : Int) / U).tmod 2 = ((a.testBit p).toNat : Nat) := by
 rw [hU, ← Int.natCast_ediv, Nat.testBit_eq_decide_div_mod_eq]
 generalize a / 2 ^ p = q at *
 rw [Int.tmod_eq_emod_of_nonneg (by omega)]
 by_cases h : q % 2 = 1
 · simp [h]; omega
 · simp [h]; omega
theorem mod_succ (N p : Nat) : N % 2 ^ (p + 1) = N % 2 ^ p + (N.testBit p).toNat * 2 ^ p := by
 rw [Nat.mod_pow_succ, Nat.testBit_eq_decide_div_mod_eq, Nat.mul_comm]
 have : N / 2 ^ p % 2 = 0 ∨ N / 2 ^ p % 2 = 1 := by omega
 rcases this with h | h <;> simp [h]
theorem fin_eq {z D Q : Int} (hz : 0 ≤ z) (hD : 0 ≤ D) (h : Q = z + D) (hQ : Q < 4294967296) : (z + D % 4294967296) % 4294967296 = Q := by omega
set_option maxHeartbeats 2000000 in
theorem rbits_any (a b N t0 t1 t2 t3 : Nat) (ha : a < 4294967296) (hb : b < 4294967296) (hN : N < 4294967296) (hbit : ∀ i, (N.testBit i).toNat = tb t0 t1 t2 t3 (a.testBit i) (b.testBit i)) (W : World) : Calls Tryz.prog 98 #[.int .u32 a, .int .u32 b, .agg #[.int .u32 t0, .int .u32 t1, .int .u32 t2, .int .u32 t3]] W fun e w' => e = .returned (.int .u32 N) ∧ Below W.heap.size W w' := by
 replace hbit := hid hbit
 have hNb := hid hN
 obtain ⟨A, hA⟩ : ∃ A : Int, A = (a : Int) := ⟨_, rfl⟩
 obtain ⟨B, hB⟩ : ∃ B : Int, B = (b : Int) := ⟨_, rfl⟩
 obtain ⟨T0, h0⟩ : ∃ T : Int, T = (t0 : Int) := ⟨_, rfl⟩
 obtain ⟨T1, h1⟩ : ∃ T : Int, T = (t1 : Int) := ⟨_, rfl⟩
 obtain ⟨T2, h2⟩ : ∃ T : Int, T = (t2 : Int) := ⟨_, rfl⟩
 obtain ⟨T3, h3⟩ : ∃ T : Int, T = (t3 : Int) := ⟨_, rfl⟩
 obtain ⟨R, hR⟩ : ∃ R : Int, R = (N : Int) := ⟨_, rfl⟩
 have hA1 : 0 ≤ A := by omega
 have hB1 : 0 ≤ B := by omega
 have hA2 : A ≤ 4294967295 := by omega
 have hB2 : B ≤ 4294967295 := by omega
 rw [← hA, ← hB, ← h0, ← h1, ← h2, ← h3, ← hR]
 replace hA := hid hA
 replace hB := hid hB
 replace hR := hid hR
 replace h0 := hid h0
 replace h1 := hid h1
 replace h2 := hid h2
 replace h3 := hid h3
 replace ha := hid ha
 replace hb := hid hb
 clear hN
 go_enter Tryz.func98, Tryz.ntmps98
 go_wp2_with fail
 generalize hw1 : W.alloc _ = w1
 have b1 := hid (show Below W.heap.size W w1 from hw1 ▸ (Below.refl _ _).alloc (Nat.le_refl _) _)
 have s1 := hid (show W.heap.size < w1.heap.size from by rw [← hw1]; simp)
 have c0 : w1.cell? ⟨W.heap.size, 0, none⟩ = some (.int .u32 T0) := by rw [← hw1]; simp [go_sem]
 have c1 : w1.cell? ⟨W.heap.size, 1, none⟩ = some (.int .u32 T1) := by rw [← hw1]; simp [go_sem]
 have c2 : w1.cell? ⟨W.heap.size, 2, none⟩ = some (.int .u32 T2) := by rw [← hw1]; simp [go_sem]
 have c3 : w1.cell? ⟨W.heap.size, 3, none⟩ = some (.int .u32 T3) := by rw [← hw1]; simp [go_sem]
 clear hw1
 replace c0 := hid c0
 replace c1 := hid c1
 replace c2 := hid c2
 replace c3 := hid c3
 go_loopw [7, 8] (fun o i wr => ∃ (p : Nat) (z : Int), p ≤ 32 ∧ i = .int .i64 p ∧ o = .int .u32 z ∧ Hid (z = (N % 2 ^ p : Nat)) ∧ Hid (Below w1.heap.size w1 wr)) (fun _ i _ => 32 - (intOf i).toNat)
 case atStart => exact ⟨0, 0, by omega, rfl, rfl, hid (by simp [Nat.mod_one]), hid (Below.refl _ _)⟩
 case round =>
   obtain ⟨p, z, hp, rfl, rfl, hz, hb1⟩ := hrel
   by_cases hlt : p < 32
   · have hpw : 2 ^ p ≤ 2147483648 := Nat.le_trans (Nat.pow_le_pow_right (by decide) (show p ≤ 31 by omega)) (by decide)
     have hpp : 0 < 2 ^ p := Nat.two_pow_pos p
     have hpc : ((2 : Int) ^ p) = ((2 ^ p : Nat) : Int) := by simp
     obtain ⟨U, hU0⟩ : ∃ U : Int, U = ((2 ^ p : Nat) : Int) := ⟨_, rfl⟩
     have hU : (2 : Int) ^ p % 4294967296 = U := by rw [hU0, hpc]; omega
     have hU1 : 1 ≤ U := by rw [hU0]; omega
     have hU2 : U ≤ 2147483648 := by rw [hU0]; omega
     have hX : (A / U).tmod 2 = ((a.testBit p).toNat : Nat) := by rw [hA.out]; exact bit_int ha.out hlt hU0
     have hY : (B / U).tmod 2 = ((b.testBit p).toNat : Nat) := by rw [hB.out]; exact bit_int hb.out hlt hU0
     have hz2 : ((N % 2 ^ (p + 1) : Nat) : Int) = z + tb t0 t1 t2 t3 (a.testBit p) (b.testBit p) * U := by
       rw [mod_succ, hbit.out p, hz.out, hU0]
       simp
     have hz3 : N % 2 ^ (p + 1) < 4294967296 := Nat.lt_of_le_of_lt (Nat.mod_le _ _) hNb.out
     have hz4 : N % 2 ^ p < 4294967296 := Nat.lt_of_le_of_lt (Nat.mod_le _ _) hNb.out
     have hz0 := hz.out
     clear hpc hU0 hpp hpw
     generalize a.testBit p = xa at *
     generalize b.testBit p = xb at *
     obtain ⟨S, hS0⟩ : ∃ S : World → Prop, S = Below w1.heap.size w1 := ⟨_, rfl⟩
     have hK : ∀ w, S w → Below w1.heap.size w1 w := fun w h => by rw [← hS0]; exact h
     have hS : ∀ u v, S u → Below u.heap.size u v → S v := fun u v h k => by rw [hS0] at h ⊢; exact h.trans (k.mono h.size)
     have s0 : S wr := by rw [hS0]; exact hb1.out
     clear hS0
     have e0 : ∀ y : Wd S, y.w.cell? ⟨W.heap.size, 0, none⟩ = some (.int .u32 T0) := fun y => ((hK _ y.h).cell (p := ⟨W.heap.size, 0, none⟩) s1.out).trans c0.out
     have e1 : ∀ y : Wd S, y.w.cell? ⟨W.heap.size, 1, none⟩ = some (.int .u32 T1) := fun y => ((hK _ y.h).cell (p := ⟨W.heap.size, 1, none⟩) s1.out).trans c1.out
     have e2 : ∀ y : Wd S, y.w.cell? ⟨W.heap.size, 2, none⟩ = some (.int .u32 T2) := fun y => ((hK _ y.h).cell (p := ⟨W.heap.size, 2, none⟩) s1.out).trans c2.out
     have e3 : ∀ y : Wd S, y.w.cell? ⟨W.heap.size, 3, none⟩ = some (.int .u32 T3) := fun y => ((hK _ y.h).cell (p := ⟨W.heap.size, 3, none⟩) s1.out).trans c3.out
     have HS := hid hS
     have HK := hid hK
     replace s0 := hid s0
     replace hz2 := hid hz2
     replace hz3 := hid hz3
     replace hz4 := hid hz4
     replace hz0 := hid hz0
     clear hK hS hz
     cases xa <;> cases xb <;> simp only [Bool.toNat_false, Bool.toNat_true, Int.ofNat_zero, Int.ofNat_one] at hX hY
     case false.false =>
       go_wp2_with fail
       refine region_cls S (by kernel_rfl) (by kernel_rfl) (HS.out _ _ s0.out (Below.refl _ _).drew) ?_
       repeat (first
         | go_big_quiet_skip
         | (go_big_quiet_want
            go_big_quiet_op
            first
            | go_big_quiet_on
            | (apply Exists.intro
               refine ⟨fun y => ?_, ?_⟩
               · exact rfl
               go_big_quiet_on)))
       refine wpQuiet_nil ?_
       intro y
       go_wp2_with fail
       have f0 := HS.out _ _ y.h (Below.refl _ _).drew
       refine region_cls S (by kernel_rfl) (by kernel_rfl) f0 ?_
       repeat (first
         | go_big_quiet_skip
         | (go_big_quiet_want
            go_big_quiet_op
            first
            | go_big_quiet_on
            | (apply Exists.intro
               refine ⟨fun y => ?_, ?_⟩
               · exact rfl
               go_big_quiet_on)))
       refine wpQuiet_nil ?_
       intro y2
       go_wp2_with fail
       refine ⟨⟨p + 1, _, by omega, by go_num, rfl, hid ?_, hid (HK.out _ y2.h)⟩, by simp [intOf]; omega⟩
       refine fin_eq (by rw [hz0.out]; exact Int.natCast_nonneg _) (Int.mul_nonneg (by rw [h0.out]; exact Int.natCast_nonneg _) (by omega)) (hz2.out.trans (by rw [h0.out]; rfl)) (by have := hz3.out; omega)
     case false.true =>
       go_wp2_with fail
       refine region_cls S (by kernel_rfl) (by kernel_rfl) (HS.out _ _ s0.out (Below.refl _ _).drew) ?_
       repeat (first
         | go_big_quiet_skip
         | (go_big_quiet_want
            go_big_quiet_op
            first
            | go_big_quiet_on
            | (apply Exists.intro
               refine ⟨fun y => ?_, ?_⟩
               · exact rfl
               go_big_quiet_on)))
       refine wpQuiet_nil ?_
       intro y
       go_wp2_with fail
       have f0 := HS.out _ _ y.h (Below.refl _ _).drew
       refine region_cls S (by kernel_rfl) (by kernel_rfl) f0 ?_
       repeat (first
         | go_big_quiet_skip
         | (go_big_quiet_want
            go_big_quiet_op
            first
            | go_big_quiet_on
            | (apply Exists.intro
               refine ⟨fun y => ?_, ?_⟩
               · exact rfl
               go_big_quiet_on)))
       refine wpQuiet_nil ?_
       intro y2
       go_wp2_with fail
       refine ⟨⟨p + 1, _, by omega, by go_num, rfl, hid ?_, hid (HK.out _ y2.h)⟩, by simp [intOf]; omega⟩
       refine fin_eq (by rw [hz0.out]; exact Int.natCast_nonneg _) (Int.mul_nonneg (by rw [h1.out]; exact Int.natCast_nonneg _) (by omega)) (hz2.out.trans (by rw [h1.out]; rfl)) (by have := hz3.out; omega)
     case true.false =>
       go_wp2_with fail
       refine region_cls S (by kernel_rfl) (by kernel_rfl) (HS.out _ _ s0.out (Below.refl _ _).drew) ?_
       repeat (first
         | go_big_quiet_skip
         | (go_big_quiet_want
            go_big_quiet_op
            first
            | go_big_quiet_on
            | (apply Exists.intro
               refine ⟨fun y => ?_, ?_⟩
               · exact rfl
               go_big_quiet_on)))
       refine wpQuiet_nil ?_
       intro y
       go_wp2_with fail
       have f0 := HS.out _ _ y.h (Below.refl _ _).drew
       refine region_cls S (by kernel_rfl) (by kernel_rfl) f0 ?_
       repeat (first
         | go_big_quiet_skip
         | (go_big_quiet_want
            go_big_quiet_op
            first
            | go_big_quiet_on
            | (apply Exists.intro
               refine ⟨fun y => ?_, ?_⟩
               · exact rfl
               go_big_quiet_on)))
       refine wpQuiet_nil ?_
       intro y2
       go_wp2_with fail
       refine ⟨⟨p + 1, _, by omega, by go_num, rfl, hid ?_, hid (HK.out _ y2.h)⟩, by simp [intOf]; omega⟩
       refine fin_eq (by rw [hz0.out]; exact Int.natCast_nonneg _) (Int.mul_nonneg (by rw [h2.out]; exact Int.natCast_nonneg _) (by omega)) (hz2.out.trans (by rw [h2.out]; rfl)) (by have := hz3.out; omega)
     case true.true =>
       go_wp2_with fail
       refine region_cls S (by kernel_rfl) (by kernel_rfl) (HS.out _ _ s0.out (Below.refl _ _).drew) ?_
       repeat (first
         | go_big_quiet_skip
         | (go_big_quiet_want
            go_big_quiet_op
            first
            | go_big_quiet_on
            | (apply Exists.intro
               refine ⟨fun y => ?_, ?_⟩
               · exact rfl
               go_big_quiet_on)))
       refine wpQuiet_nil ?_
       intro y
       go_wp2_with fail
       have f0 := HS.out _ _ y.h (Below.refl _ _).drew
       refine region_cls S (by kernel_rfl) (by kernel_rfl) f0 ?_
       repeat (first
         | go_big_quiet_skip
         | (go_big_quiet_want
            go_big_quiet_op
            first
            | go_big_quiet_on
            | (apply Exists.intro
               refine ⟨fun y => ?_, ?_⟩
               · exact rfl
               go_big_quiet_on)))
       refine wpQuiet_nil ?_
       intro y2
       go_wp2_with fail
       refine ⟨⟨p + 1, _, by omega, by go_num, rfl, hid ?_, hid (HK.out _ y2.h)⟩, by simp [intOf]; omega⟩
       refine fin_eq (by rw [hz0.out]; exact Int.natCast_nonneg _) (Int.mul_nonneg (by rw [h3.out]; exact Int.natCast_nonneg _) (by omega)) (hz2.out.trans (by rw [h3.out]; rfl)) (by have := hz3.out; omega)
   · have hp32 : p = 32 := by omega
     subst hp32
     have hzN : z = R := by
       rw [hz.out, hR.out, Nat.mod_eq_of_lt (show N < 2 ^ 32 from hNb.out)]
     subst hzN
     go_wp2
     go_ret
     exact ⟨rfl, b1.out.trans (hb1.out.mono b1.out.size)⟩
theorem ret_vti {x V t T : Int} {i I : Bool} (h1 : x = V) (h2 : t = T) (h3 : i = I) : Ending.returned (.tuple #[.int .u32 x, .int .i64 t, .bool i]) = .returned (.tuple #[.int .u32 V, .int .i64 T, .bool I]) := by rw [h1, h2, h3]
theorem tb_and (a b i : Nat) : ((a &&& b).testBit i).toNat = tb 0 0 0 1 (a.testBit i) (b.testBit i) := by
 rw [Nat.testBit_and]; cases a.testBit i <;> cases b.testBit i <;> rfl
theorem tb_or (a b i : Nat) : ((a ||| b).testBit i).toNat = tb 0 1 1 1 (a.testBit i) (b.testBit i) := by
 rw [Nat.testBit_or]; cases a.testBit i <;> cases b.testBit i <;> rfl
theorem tb_xor (a b i : Nat) : ((a ^^^ b).testBit i).toNat = tb 0 1 1 0 (a.testBit i) (b.testBit i) := by
 rw [Nat.testBit_xor]; cases a.testBit i <;> cases b.testBit i <;> rfl
theorem n_div {A B : Int} {a b : Nat} (hA : A = (a : Int)) (hB : B = (b : Int)) (ha : a < 4294967296) : A / B % 4294967296 = ((a / b : Nat) : Int) := by
 have := Nat.div_le_self a b
 rw [hA, hB, ← Int.natCast_ediv]
 generalize a / b = q at *
 omega
theorem n_mod {A B : Int} {a b : Nat} (hA : A = (a : Int)) (hB : B = (b : Int)) (ha : a < 4294967296) : A % B % 4294967296 = ((a % b : Nat) : Int) := by
 have := Nat.mod_le a b
 rw [hA, hB, ← Int.natCast_emod]
 generalize a % b = q at *
 omega
theorem n_shl {A U D : Int} {a u : Nat} (hA : A = (a : Int)) (hU : U = (u : Int)) (hD : A * U = D) : D % 4294967296 = ((a * u % 4294967296 : Nat) : Int) := by
 rw [← hD, hA, hU]
 simp
set_option maxHeartbeats 4000000 in
theorem rreckon_any (op : Int) (a b : Nat) (ha : a < 4294967296) (hb : b < 4294967296) (W : World) :
   Calls Tryz.prog 52 #[.int .i64 op, .int .u32 a, .int .u32 b] W fun e w' => e = .returned (.tuple #[.int .u32 (valR op a b : Nat), .int .i64 (trapR op b), .bool (isR op)]) ∧ Below W.heap.size W w' := by
 have rA : Hid (∀ w, Calls Tryz.prog 98 #[.int .u32 a, .int .u32 b, .agg #[.int .u32 0, .int .u32 0, .int .u32 0, .int .u32 1]] w fun e w' => e = .returned (.int .u32 (a &&& b : Nat)) ∧ Below w.heap.size w w') :=
   hid (fun w => rbits_any a b _ 0 0 0 1 ha hb (Nat.and_lt_two_pow (n := 32) a hb) (tb_and a b) w)
 have rO : Hid (∀ w, Calls Tryz.prog 98 #[.int .u32 a, .int .u32 b, .agg #[.int .u32 0, .int .u32 1, .int .u32 1, .int .u32 1]] w fun e w' => e = .returned (.int .u32 (a ||| b : Nat)) ∧ Below w.heap.size w w') :=
   hid (fun w => rbits_any a b _ 0 1 1 1 ha hb (Nat.or_lt_two_pow (n := 32) ha hb) (tb_or a b) w)
 have rX : Hid (∀ w, Calls Tryz.prog 98 #[.int .u32 a, .int .u32 b, .agg #[.int .u32 0, .int .u32 1, .int .u32 1, .int .u32 0]] w fun e w' => e = .returned (.int .u32 (a ^^^ b : Nat)) ∧ Below w.heap.size w w') :=
   hid (fun w => rbits_any a b _ 0 1 1 0 ha hb (Nat.xor_lt_two_pow (n := 32) ha hb) (tb_xor a b) w)
 have rS : Hid (∀ w, Calls Tryz.prog 97 #[.int .u32 a] w fun e w' => e = .returned (.int .i64 (sg a)) ∧ w = w') := hid (signed_any a ha)
 have rT : Hid (∀ w, Calls Tryz.prog 97 #[.int .u32 b] w fun e w' => e = .returned (.int .i64 (sg b)) ∧ w = w') := hid (signed_any b hb)
 obtain ⟨A, hA⟩ : ∃ A : Int, A = (a : Int) := ⟨_, rfl⟩
 obtain ⟨B, hB⟩ : ∃ B : Int, B = (b : Int) := ⟨_, rfl⟩
 obtain ⟨V, hV⟩ : ∃ V : Int, V = (valR op a b : Nat) := ⟨_, rfl⟩
 obtain ⟨T, hT⟩ : ∃ T : Int, T = trapR op b := ⟨_, rfl⟩
 obtain ⟨I, hI⟩ : ∃ I : Bool, I = isR op := ⟨_, rfl⟩
 have hA1 : 0 ≤ A := by omega
 have hB1 : 0 ≤ B := by omega
 have hA2 : A ≤ 4294967295 := by omega
 have hB2 : B ≤ 4294967295 := by omega
 rw [← hA, ← hB] at rA rO rX ⊢
 rw [← hA] at rS
 rw [← hB] at rT
 rw [← hV, ← hT, ← hI]
 replace hA := hid hA
 replace hB := hid hB
 replace hV := hid hV
 replace hT := hid hT
 replace hI := hid hI
 replace ha := hid ha
 replace hb := hid hb
 by_cases hr : 3 ≤ op ∧ op ≤ 15
 · obtain ⟨m, hm1, hm, hmb⟩ : ∃ m : Nat, B.tmod 32 = (m : Int) ∧ m < 32 ∧ Hid (b % 32 = m) := ⟨b % 32, by rw [hB.out]; rfl, Nat.mod_lt _ (by decide), hid rfl⟩
   have : op = 3 ∨ op = 4 ∨ op = 5 ∨ op = 6 ∨ op = 7 ∨ op = 8 ∨ op = 9 ∨ op = 10 ∨ op = 11 ∨ op = 12 ∨ op = 13 ∨ op = 14 ∨ op = 15 := by omega
   clear hr
   rcases this with rfl | rfl | rfl | rfl | rfl | rfl | rfl | rfl | rfl | rfl | rfl | rfl | rfl
   · have hv : V = ((a + b) % 4294967296 : Nat) := hV.out.trans rfl
     have h := hid (show V = (A + B) % 4294967296 from by rw [hv, hA.out, hB.out]; omega)
     clear hv
     go_enter Tryz.func52, Tryz.ntmps52
     go_wp2
     go_ret3
     exact ⟨ret_vti h.out.symm (hT.out.trans rfl).symm (hI.out.trans rfl).symm, Below.refl _ _⟩
   · have hv : V = ((a + (4294967296 - b)) % 4294967296 : Nat) := hV.out.trans rfl
     have h := hid (show V = (A - B) % 4294967296 from by rw [hv, hA.out, hB.out]; have := hb.out; omega)
     clear hv
     go_enter Tryz.func52, Tryz.ntmps52
     go_wp2
     go_ret3
     exact ⟨ret_vti (by rw [h.out]; omega) (hT.out.trans rfl).symm (hI.out.trans rfl).symm, Below.refl _ _⟩
   · have hv : V = (a * b % 4294967296 : Nat) := hV.out.trans rfl
     obtain ⟨D, hD⟩ : ∃ D : Int, A * B = D := ⟨_, rfl⟩
     have h := hid (show V = D % 4294967296 from by rw [hv, ← hD, hA.out, hB.out]; simp)
     have hD1 : 0 ≤ D := hD ▸ Int.mul_nonneg hA1 hB1
     have hD2 : D ≤ 18446744065119617025 := hD ▸ Int.le_trans (Int.mul_le_mul hA2 hB2 hB1 (by omega)) (by decide)
     clear hv
     go_enter Tryz.func52, Tryz.ntmps52
     go_wp2
     go_ret3
     exact ⟨ret_vti h.out.symm (hT.out.trans rfl).symm (hI.out.trans rfl).symm, Below.refl _ _⟩
   · by_cases hb0 : b = 0
     · subst hb0
       have hB0 : B = 0 := hB.out
       subst hB0
       have hv : V = 0 := hV.out.trans rfl
       have ht : T = 7 := hT.out.trans rfl
       have hi : I = true := hI.out.trans rfl
       subst hv ht hi
       go_enter Tryz.func52, Tryz.ntmps52
       go_wp2
       go_ret3
       exact ⟨rfl, Below.refl _ _⟩
     · have hB0 : ¬ B = 0 := by rw [hB.out]; omega
       have e1 : badR 6 b = false := by simp [badR, hb0]
       have hv := hid (show V = (a / b : Nat) from by rw [hV.out]; unfold valR; rw [e1]; rfl)
       have ht : T = 0 := by rw [hT.out]; unfold trapR; rw [e1]; rfl
       have hi : I = true := hI.out.trans rfl
       subst ht hi
       clear e1
       go_enter Tryz.func52, Tryz.ntmps52
       go_wp2
       go_ret3
       exact ⟨ret_vti (by rw [hv.out]; exact n_div hA.out hB.out ha.out) rfl rfl, Below.refl _ _⟩
   · by_cases hb0 : b = 0
     · subst hb0
       have hB0 : B = 0 := hB.out
       subst hB0
       have hv : V = 0 := hV.out.trans rfl
       have ht : T = 7 := hT.out.trans rfl
       have hi : I = true := hI.out.trans rfl
       subst hv ht hi
       go_enter Tryz.func52, Tryz.ntmps52
       go_wp2
       go_ret3
       exact ⟨rfl, Below.refl _ _⟩
     · have hB0 : ¬ B = 0 := by rw [hB.out]; omega
       have e1 : badR 7 b = false := by simp [badR, hb0]
       have hv := hid (show V = (a % b : Nat) from by rw [hV.out]; unfold valR; rw [e1]; rfl)
       have ht : T = 0 := by rw [hT.out]; unfold trapR; rw [e1]; rfl
       have hi : I = true := hI.out.trans rfl
       subst ht hi
       clear e1
       go_enter Tryz.func52, Tryz.ntmps52
       go_wp2
       go_ret3
       exact ⟨ret_vti (by rw [hv.out]; exact n_mod hA.out hB.out ha.out) rfl rfl, Below.refl _ _⟩
   · have h := hid (hV.out.trans rfl : V = (a &&& b : Nat))
     go_enter Tryz.func52, Tryz.ntmps52
     go_wp2_with fail
     refine (rA.out _).mono ?_
     rintro e w1 ⟨rfl, h1⟩
     replace h1 := hid h1
     go_wp2_with fail
     go_ret3
     exact ⟨ret_vti h.out.symm (hT.out.trans rfl).symm (hI.out.trans rfl).symm, h1.out⟩
   · have h := hid (hV.out.trans rfl : V = (a ||| b : Nat))
     go_enter Tryz.func52, Tryz.ntmps52
     go_wp2_with fail
     refine (rO.out _).mono ?_
     rintro e w1 ⟨rfl, h1⟩
     replace h1 := hid h1
     go_wp2_with fail
     go_ret3
     exact ⟨ret_vti h.out.symm (hT.out.trans rfl).symm (hI.out.trans rfl).symm, h1.out⟩
   · have h := hid (hV.out.trans rfl : V = (a ^^^ b : Nat))
     go_enter Tryz.func52, Tryz.ntmps52
     go_wp2_with fail
     refine (rX.out _).mono ?_
     rintro e w1 ⟨rfl, h1⟩
     replace h1 := hid h1
     go_wp2_with fail
     go_ret3
     exact ⟨ret_vti h.out.symm (hT.out.trans rfl).symm (hI.out.trans rfl).symm, h1.out⟩
   · have hv := hid (show V = (a * 2 ^ (b % 32) % 4294967296 : Nat) from hV.out.trans rfl)
     have hpw : 2 ^ m ≤ 2147483648 := Nat.le_trans (Nat.pow_le_pow_right (by decide) (show m ≤ 31 by omega)) (by decide)
     have hpp : 0 < 2 ^ m := Nat.two_pow_pos m
     have hpc : ((2 : Int) ^ m) = ((2 ^ m : Nat) : Int) := by simp
     obtain ⟨U, hU0⟩ : ∃ U : Int, U = ((2 ^ m : Nat) : Int) := ⟨_, rfl⟩
     have hU : IntKind.u64.wrap ((2 : Int) ^ m) = U := by rw [hU0, hpc, IntKind.wrap_u64]; omega
     have hU1 : 1 ≤ U := by rw [hU0]; omega
     have hU2 : U ≤ 2147483648 := by rw [hU0]; omega
     obtain ⟨D, hD⟩ : ∃ D : Int, A * U = D := ⟨_, rfl⟩
     have hD1 : 0 ≤ D := hD ▸ Int.mul_nonneg hA1 (by omega)
     have hD2 : D ≤ 9223372034707292160 := hD ▸ Int.le_trans (Int.mul_le_mul hA2 hU2 (by omega) (by omega)) (by decide)
     replace hU0 := hid hU0
     have hDh := hid hD
     clear hpw hpp hpc
     go_enter Tryz.func52, Tryz.ntmps52
     go_wp2
     go_ret3
     exact ⟨ret_vti (by rw [hv.out, hmb.out]; exact n_shl hA.out hU0.out hDh.out) (hT.out.trans rfl).symm (hI.out.trans rfl).symm, Below.refl _ _⟩
   · have hv := hid (show V = (a / 2 ^ (b % 32) : Nat) from hV.out.trans rfl)
     have hpw : 2 ^ m ≤ 2147483648 := Nat.le_trans (Nat.pow_le_pow_right (by decide) (show m ≤ 31 by omega)) (by decide)
     have hpp : 0 < 2 ^ m := Nat.two_pow_pos m
     have hpc : ((2 : Int) ^ m) = ((2 ^ m : Nat) : Int) := by simp
     obtain ⟨U, hU0⟩ : ∃ U : Int, U = ((2 ^ m : Nat) : Int) := ⟨_, rfl⟩
     have hU : IntKind.u64.wrap ((2 : Int) ^ m) = U := by rw [hU0, hpc, IntKind.wrap_u64]; omega
     have hU1 : 1 ≤ U := by rw [hU0]; omega
     have hU2 : U ≤ 2147483648 := by rw [hU0]; omega
     replace hU0 := hid hU0
     clear hpw hpp hpc
     go_enter Tryz.func52, Tryz.ntmps52
     go_wp2
     go_ret3
     exact ⟨ret_vti (by rw [hv.out, hmb.out]; exact n_div hA.out hU0.out ha.out) (hT.out.trans rfl).symm (hI.out.trans rfl).symm, Below.refl _ _⟩
   · have h := hid (hV.out.trans rfl : V = (oneN (decide (sg a < sg b)) : Nat))
     go_enter Tryz.func52, Tryz.ntmps52
     go_wp2_with fail
     refine (rS.out _).mono ?_
     rintro e w1 ⟨rfl, rfl⟩
     go_wp2_with fail
     refine (rT.out _).mono ?_
     rintro e w1 ⟨rfl, rfl⟩
     go_wp2_with fail
     refine (one_any _ _).mono ?_
     rintro e w1 ⟨rfl, rfl⟩
     go_wp2_with fail
     go_ret3
     exact ⟨ret_vti h.out.symm (hT.out.trans rfl).symm (hI.out.trans rfl).symm, Below.refl _ _⟩
   · have h := hid (hV.out.trans rfl : V = (oneN (decide (a < b)) : Nat))
     go_enter Tryz.func52, Tryz.ntmps52
     go_wp2_with fail
     refine (one_any _ _).mono ?_
     rintro e w1 ⟨rfl, rfl⟩
     go_wp2_with fail
     go_ret3
     exact ⟨ret_vti (by rw [h.out, hA.out, hB.out]; simp) (hT.out.trans rfl).symm (hI.out.trans rfl).symm, Below.refl _ _⟩
   · have h := hid (hV.out.trans rfl : V = (oneN (decide (a = b)) : Nat))
     go_enter Tryz.func52, Tryz.ntmps52
     go_wp2_with fail
     refine (one_any _ _).mono ?_
     rintro e w1 ⟨rfl, rfl⟩
     go_wp2_with fail
     go_ret3
     exact ⟨ret_vti (by rw [h.out, hA.out, hB.out, show (((a : Int) == (b : Int))) = decide (a = b) from by rw [Bool.eq_iff_iff]; simp; omega]) (hT.out.trans rfl).symm (hI.out.trans rfl).symm, Below.refl _ _⟩
 · have e1 : isR op = false := decide_eq_false hr
   have e2 : badR op b = false := decide_eq_false (fun h => hr (by omega))
   have hv : V = 0 := by rw [hV.out]; unfold valR; simp [e1]
   have ht : T = 0 := by rw [hT.out]; unfold trapR; simp [e2]
   have hi : I = false := hI.out.trans e1
   subst hv ht hi
   have n3 : (op == 3) = false := by simp; omega
   have n4 : (op == 4) = false := by simp; omega
   have n5 : (op == 5) = false := by simp; omega
   have n6 : (op == 6) = false := by simp; omega
   have n7 : (op == 7) = false := by simp; omega
   have n8 : (op == 8) = false := by simp; omega
   have n9 : (op == 9) = false := by simp; omega
   have n10 : (op == 10) = false := by simp; omega
   have n11 : (op == 11) = false := by simp; omega
   have n12 : (op == 12) = false := by simp; omega
   have n13 : (op == 13) = false := by simp; omega
   have n14 : (op == 14) = false := by simp; omega
   have n15 : (op == 15) = false := by simp; omega
   clear e1 e2 hr hV hT hI
   go_enter Tryz.func52, Tryz.ntmps52
   go_wp2
   go_ret3
   exact ⟨rfl, Below.refl _ _⟩
end Go.Proofs.YtkmgdfcambdeeaaGreatDoor
