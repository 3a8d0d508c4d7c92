/- Plain maths of layer isa: names and forms, words and instructions. No statement is proved here.; Contracts of layer isa's leaves: isOp, opField, fieldOf, partOf, mask, Name, Form. No statement is proved here.; Contracts of the closures that put a field into a word and take one out of it. No statement is proved here. -/
import GoSem.Core.View
import Derived.Laws.BitsLemmas
import Derived.Test.YtkmgdfcambdeeaaGreatDoorChecked
import Derived.WalkSpells
import Derived.WalkLawsBesides
import Derived.Deep.QuietTactic
import Derived.BigQuiet
import Derived.Handy
import Derived.Test.YtkmgdfcambdeeaaGreatDoorPak
namespace Go.Proofs.YtkmgdfcambdeeaaGreatDoor
set_option linter.unusedVariables false

def formL : List (List UInt8) := [[], [97, 105], [97, 106], [97, 98, 99], [97, 98, 99], [97, 98, 99], [97, 98, 99], [97, 98, 99], [97, 98, 99], [97, 98, 99], [97, 98, 99], [97, 98, 99], [97, 98, 99], [97, 98, 99], [97, 98, 99], [97, 98, 99], [97, 98, 105], [97, 98, 105], [97, 98, 105], [97, 98, 105], [97, 98, 105], [97, 98, 105], [97, 98, 105], [97, 98, 105], [97, 98, 105], [97, 98, 105], [97, 98, 105], [97, 98, 105], [97, 98, 105], [97, 106], [97, 98], [97, 98], [97, 98, 99], [97, 98, 105], [97, 98, 99], [97, 98, 99], [97, 98, 99], [97, 98, 99], [97, 98, 99], [97, 98, 99], [97, 98, 99], [97, 98], [97, 98], [97, 98], [97, 98], [97, 98], [97, 98], [97, 98], [97, 98], [97, 106], [97, 98], [], [105], []]
def formAt (op : Int) : List UInt8 := if 1 ≤ op ∧ op ≤ 53 then formL.getD op.toNat [] else []
theorem formAt_out {op : Int} (h : ¬ (1 ≤ op ∧ op ≤ 53)) : formAt op = [] := if_neg h
theorem formAt_in {n : Nat} (h : 1 ≤ n ∧ n ≤ 53) : formAt (n : Int) = formL.getD n [] := by unfold formAt; rw [if_pos (by omega)]; rfl
theorem forms_all : ∀ f, f ∈ formL → f = [] ∨ f = [97, 105] ∨ f = [97, 106] ∨ f = [97, 98, 99] ∨ f = [97, 98, 105] ∨ f = [97, 98] ∨ f = [105] := by decide
theorem form_cases (op : Int) : formAt op = [] ∨ formAt op = [97, 105] ∨ formAt op = [97, 106] ∨ formAt op = [97, 98, 99] ∨ formAt op = [97, 98, 105] ∨ formAt op = [97, 98] ∨ formAt op = [105] := by
  by_cases h : 1 ≤ op ∧ op ≤ 53
  · obtain ⟨n, rfl⟩ := Int.eq_ofNat_of_zero_le (show 0 ≤ op by omega)
    rw [formAt_in (by omega)]
    have hn : n < formL.length := by simp [formL]; omega
    have e : formL.getD n [] = formL[n] := by simp [List.getD, List.getElem?_eq_getElem hn]
    rw [e]
    exact forms_all _ (List.getElem_mem hn)
  · exact .inl (formAt_out h)
/-- An instruction. -/
structure Ins where
  op : Int
  a : Int
  b : Int
  c : Int
  m : Int
deriving DecidableEq
def Ins.zero : Ins := ⟨0, 0, 0, 0, 0⟩
/-- A register that a form has, or has not. -/
def fldB (f : List UInt8) (x : UInt8) (v : Int) : Bool := if f.contains x then decide (0 ≤ v) && decide (v ≤ 15) else decide (v = 0)
def immB (f : List UInt8) (m : Int) : Bool :=
  if f.contains 106 then decide (-524288 ≤ m) && decide (m ≤ 524287) else if f.contains 105 then decide (-2048 ≤ m) && decide (m ≤ 2047) else decide (m = 0)
/-- May it be? -/
def mayB (i : Ins) : Bool := decide (1 ≤ i.op) && decide (i.op ≤ 53) && fldB (formAt i.op) 97 i.a && fldB (formAt i.op) 98 i.b && fldB (formAt i.op) 99 i.c && immB (formAt i.op) i.m
/-- Its word. -/
def immW (f : List UInt8) (m : Int) : Int := if m < 0 then (if f.contains 106 then m + 1048576 else m + 4096) else m
def encW (i : Ins) : Int := i.op * 16777216 + i.a * 1048576 + i.b * 65536 + i.c * 4096 + immW (formAt i.op) i.m
/-- What a word's fields say, of whatever operation. -/
def rdW (w : Int) : Ins :=
  if (formAt (w / 16777216)).contains 106 then ⟨w / 16777216, w / 1048576 % 16, 0, 0, if 524288 ≤ w % 1048576 then w % 1048576 - 1048576 else w % 1048576⟩
  else ⟨w / 16777216, w / 1048576 % 16, w / 65536 % 16, w / 4096 % 16, if 2048 ≤ w % 4096 then w % 4096 - 4096 else w % 4096⟩
/-- The instruction of a word. -/
def decW (w : Int) : Ins := if mayB (rdW w) = true ∧ encW (rdW w) = w then rdW w else Ins.zero

theorem decW_zero_or (w : Int) : decW w = Ins.zero ∨ (mayB (decW w) = true ∧ encW (decW w) = w) := by
  unfold decW
  split
  · exact .inr ‹_›
  · exact .inl rfl
theorem may_parts {i : Ins} (h : mayB i = true) : 1 ≤ i.op ∧ i.op ≤ 53 ∧ fldB (formAt i.op) 97 i.a = true ∧ fldB (formAt i.op) 98 i.b = true ∧ fldB (formAt i.op) 99 i.c = true ∧ immB (formAt i.op) i.m = true := by
  unfold mayB at h
  simp only [Bool.and_eq_true, decide_eq_true_eq] at h
  exact ⟨h.1.1.1.1.1, h.1.1.1.1.2, h.1.1.1.2, h.1.1.2, h.1.2, h.2⟩
theorem imay_of {i : Ins} (h : 1 ≤ i.op ∧ i.op ≤ 53 ∧ fldB (formAt i.op) 97 i.a = true ∧ fldB (formAt i.op) 98 i.b = true ∧ fldB (formAt i.op) 99 i.c = true ∧ immB (formAt i.op) i.m = true) : mayB i = true := by
  unfold mayB
  simp only [Bool.and_eq_true, decide_eq_true_eq]
  exact ⟨⟨⟨⟨⟨h.1, h.2.1⟩, h.2.2.1⟩, h.2.2.2.1⟩, h.2.2.2.2.1⟩, h.2.2.2.2.2⟩
/-- What the parts of an instruction that may be are, form by form. -/
theorem fld_in {f : List UInt8} {x : UInt8} {v : Int} (h : fldB f x v = true) : 0 ≤ v ∧ v ≤ 15 ∧ (f.contains x = false → v = 0) := by
  unfold fldB at h
  split at h
  · rename_i hc
    simp only [Bool.and_eq_true, decide_eq_true_eq] at h
    exact ⟨h.1, h.2, fun k => by rw [hc] at k; cases k⟩
  · have := of_decide_eq_true h
    exact ⟨by omega, by omega, fun _ => this⟩
theorem imm_in {f : List UInt8} {m : Int} (h : immB f m = true) : (f.contains 106 = true → -524288 ≤ m ∧ m ≤ 524287) ∧ (f.contains 106 = false → f.contains 105 = true → -2048 ≤ m ∧ m ≤ 2047) ∧ (f.contains 106 = false → f.contains 105 = false → m = 0) := by
  unfold immB at h
  generalize f.contains 106 = p at *
  generalize f.contains 105 = q at *
  cases p <;> cases q <;> simp at h <;> simp <;> omega
theorem rd_enc {i : Ins} (h : mayB i = true) : rdW (encW i) = i := by
  obtain ⟨h1, h2, ha, hb, hc, hm⟩ := may_parts h
  have a1 := fld_in ha; have b1 := fld_in hb; have c1 := fld_in hc; have m1 := imm_in hm
  obtain ⟨op, a, b, c, m⟩ := i
  simp only at *
  have hop : encW ⟨op, a, b, c, m⟩ / 16777216 = op := by
    unfold encW immW
    rcases form_cases op with e | e | e | e | e | e | e <;> rw [e] at a1 b1 c1 m1 ⊢ <;> simp at a1 b1 c1 m1 ⊢ <;> split <;> omega
  unfold rdW
  rw [hop]
  unfold encW immW
  rcases form_cases op with e | e | e | e | e | e | e <;> simp only [e] at a1 b1 c1 m1 ⊢ <;> simp at a1 b1 c1 m1 ⊢ <;> (split <;> split <;> omega)
theorem dec_enc {i : Ins} (h : mayB i = true) : decW (encW i) = i := by
  unfold decW
  rw [rd_enc h, if_pos ⟨h, rfl⟩]
end Go.Proofs.YtkmgdfcambdeeaaGreatDoor
namespace Go.Proofs.YtkmgdfcambdeeaaGreatDoor
open Go.RowKit
set_option linter.unusedVariables false

theorem isOp_yes (op : Int) (w : World) (h0 : 1 ≤ op) (h1 : op ≤ 53) : Calls Tryz.prog 119 #[.int .i64 op] w fun e w' => e = .returned (.bool true) ∧ w = w' := by
  have h2 : 0 < op := by omega
  go_enter Tryz.func119, Tryz.ntmps119
  go_wp2
  go_ret
  exact ⟨rfl, rfl⟩
theorem isOp_no (op : Int) (w : World) (h : ¬ (1 ≤ op ∧ op ≤ 53)) : Calls Tryz.prog 119 #[.int .i64 op] w fun e w' => e = .returned (.bool false) ∧ w = w' := by
  by_cases h0 : 0 < op
  · have h1 : ¬ op ≤ 53 := by omega
    clear h
    go_enter Tryz.func119, Tryz.ntmps119
    go_wp2
    go_ret
    exact ⟨rfl, rfl⟩
  · clear h
    go_enter Tryz.func119, Tryz.ntmps119
    go_wp2
    go_ret
    exact ⟨rfl, rfl⟩
theorem isOp_any (op : Int) (w : World) : Calls Tryz.prog 119 #[.int .i64 op] w fun e w' => e = .returned (.bool (decide (1 ≤ op ∧ op ≤ 53))) ∧ w = w' := by
  by_cases h : 1 ≤ op ∧ op ≤ 53
  · rw [decide_eq_true h]; exact isOp_yes op w h.1 h.2
  · rw [decide_eq_false h]; exact isOp_no op w h

theorem opField_any (w : World) : Calls Tryz.prog 115 #[] w fun e w' => e = .returned (.agg #[.int .i64 24, .int .i64 8, .int .i64 0]) ∧ Below w.heap.size w w' := by
  go_enter Tryz.func115, Tryz.ntmps115
  go_wp2
  exact bodyPost_ret (v := .agg #[.int .i64 24, .int .i64 8, .int .i64 0]) (by simp [results, Tryz.results115, go_sem]) rfl ⟨rfl, by go_grown⟩
theorem fieldOf_a (w : World) : Calls Tryz.prog 117 #[.int .i32 97] w fun e w' => e = .returned (.agg #[.int .i64 20, .int .i64 4, .int .i64 0]) ∧ Below w.heap.size w w' := by
  go_enter Tryz.func117, Tryz.ntmps117
  go_wp2
  exact bodyPost_ret (v := .agg #[.int .i64 20, .int .i64 4, .int .i64 0]) (by simp [results, Tryz.results117, go_sem]) rfl ⟨rfl, by go_grown⟩
theorem fieldOf_b (w : World) : Calls Tryz.prog 117 #[.int .i32 98] w fun e w' => e = .returned (.agg #[.int .i64 16, .int .i64 4, .int .i64 0]) ∧ Below w.heap.size w w' := by
  go_enter Tryz.func117, Tryz.ntmps117
  go_wp2
  exact bodyPost_ret (v := .agg #[.int .i64 16, .int .i64 4, .int .i64 0]) (by simp [results, Tryz.results117, go_sem]) rfl ⟨rfl, by go_grown⟩
theorem fieldOf_c (w : World) : Calls Tryz.prog 117 #[.int .i32 99] w fun e w' => e = .returned (.agg #[.int .i64 12, .int .i64 4, .int .i64 0]) ∧ Below w.heap.size w w' := by
  go_enter Tryz.func117, Tryz.ntmps117
  go_wp2
  exact bodyPost_ret (v := .agg #[.int .i64 12, .int .i64 4, .int .i64 0]) (by simp [results, Tryz.results117, go_sem]) rfl ⟨rfl, by go_grown⟩
theorem fieldOf_i (w : World) : Calls Tryz.prog 117 #[.int .i32 105] w fun e w' => e = .returned (.agg #[.int .i64 0, .int .i64 12, .int .i64 (-2048)]) ∧ Below w.heap.size w w' := by
  go_enter Tryz.func117, Tryz.ntmps117
  go_wp2
  exact bodyPost_ret (v := .agg #[.int .i64 0, .int .i64 12, .int .i64 (-2048)]) (by simp [results, Tryz.results117, go_sem]) rfl ⟨rfl, by go_grown⟩
theorem fieldOf_j (w : World) : Calls Tryz.prog 117 #[.int .i32 106] w fun e w' => e = .returned (.agg #[.int .i64 0, .int .i64 20, .int .i64 (-524288)]) ∧ Below w.heap.size w w' := by
  go_enter Tryz.func117, Tryz.ntmps117
  go_wp2
  exact bodyPost_ret (v := .agg #[.int .i64 0, .int .i64 20, .int .i64 (-524288)]) (by simp [results, Tryz.results117, go_sem]) rfl ⟨rfl, by go_grown⟩
theorem partOf_a (g : Nat) (w : World) : Calls Tryz.prog 118 #[.pointer (some ⟨g, 0, none⟩), .int .i32 97] w fun e w' => e = .returned (.pointer (some ⟨g, 1, none⟩)) ∧ w = w' := by
  go_enter Tryz.func118, Tryz.ntmps118
  go_wp2
  go_ret
  exact ⟨rfl, rfl⟩
theorem partOf_b (g : Nat) (w : World) : Calls Tryz.prog 118 #[.pointer (some ⟨g, 0, none⟩), .int .i32 98] w fun e w' => e = .returned (.pointer (some ⟨g, 2, none⟩)) ∧ w = w' := by
  go_enter Tryz.func118, Tryz.ntmps118
  go_wp2
  go_ret
  exact ⟨rfl, rfl⟩
theorem partOf_c (g : Nat) (w : World) : Calls Tryz.prog 118 #[.pointer (some ⟨g, 0, none⟩), .int .i32 99] w fun e w' => e = .returned (.pointer (some ⟨g, 3, none⟩)) ∧ w = w' := by
  go_enter Tryz.func118, Tryz.ntmps118
  go_wp2
  go_ret
  exact ⟨rfl, rfl⟩
theorem partOf_i (g : Nat) (w : World) : Calls Tryz.prog 118 #[.pointer (some ⟨g, 0, none⟩), .int .i32 105] w fun e w' => e = .returned (.pointer (some ⟨g, 4, none⟩)) ∧ w = w' := by
  go_enter Tryz.func118, Tryz.ntmps118
  go_wp2
  go_ret
  exact ⟨rfl, rfl⟩
theorem partOf_j (g : Nat) (w : World) : Calls Tryz.prog 118 #[.pointer (some ⟨g, 0, none⟩), .int .i32 106] w fun e w' => e = .returned (.pointer (some ⟨g, 4, none⟩)) ∧ w = w' := by
  go_enter Tryz.func118, Tryz.ntmps118
  go_wp2
  go_ret
  exact ⟨rfl, rfl⟩
theorem mask_o (w : World) : Calls Tryz.prog 114 #[.agg #[.int .i64 24, .int .i64 8, .int .i64 0]] w fun e w' => e = .returned (.int .u32 255) ∧ Below w.heap.size w w' := by
  go_enter Tryz.func114, Tryz.ntmps114
  go_wp2
  go_ret
  exact ⟨rfl, by go_grown⟩
theorem mask_a (w : World) : Calls Tryz.prog 114 #[.agg #[.int .i64 20, .int .i64 4, .int .i64 0]] w fun e w' => e = .returned (.int .u32 15) ∧ Below w.heap.size w w' := by
  go_enter Tryz.func114, Tryz.ntmps114
  go_wp2
  go_ret
  exact ⟨rfl, by go_grown⟩
theorem mask_b (w : World) : Calls Tryz.prog 114 #[.agg #[.int .i64 16, .int .i64 4, .int .i64 0]] w fun e w' => e = .returned (.int .u32 15) ∧ Below w.heap.size w w' := by
  go_enter Tryz.func114, Tryz.ntmps114
  go_wp2
  go_ret
  exact ⟨rfl, by go_grown⟩
theorem mask_c (w : World) : Calls Tryz.prog 114 #[.agg #[.int .i64 12, .int .i64 4, .int .i64 0]] w fun e w' => e = .returned (.int .u32 15) ∧ Below w.heap.size w w' := by
  go_enter Tryz.func114, Tryz.ntmps114
  go_wp2
  go_ret
  exact ⟨rfl, by go_grown⟩
theorem mask_i (w : World) : Calls Tryz.prog 114 #[.agg #[.int .i64 0, .int .i64 12, .int .i64 (-2048)]] w fun e w' => e = .returned (.int .u32 4095) ∧ Below w.heap.size w w' := by
  go_enter Tryz.func114, Tryz.ntmps114
  go_wp2
  go_ret
  exact ⟨rfl, by go_grown⟩
theorem mask_j (w : World) : Calls Tryz.prog 114 #[.agg #[.int .i64 0, .int .i64 20, .int .i64 (-524288)]] w fun e w' => e = .returned (.int .u32 1048575) ∧ Below w.heap.size w w' := by
  go_enter Tryz.func114, Tryz.ntmps114
  go_wp2
  go_ret
  exact ⟨rfl, by go_grown⟩
end Go.Proofs.YtkmgdfcambdeeaaGreatDoor
namespace Go.Proofs.YtkmgdfcambdeeaaGreatDoor
open Go.RowKit
set_option linter.unusedVariables false

theorem wraps_u32b (n : Int) (h₀ : 0 ≤ n) (h₁ : n < 2 ^ 32) : IntKind.u32.wrap n = n := by rw [IntKind.wrap_u32]; omega
/-- What a call leaves that stores one number into a box of one cell, and writes nothing else that is old. -/
def Sto (w : World) (g : Nat) (u : Value) (w' : World) : Prop := ∃ w1, Below w.heap.size w w1 ∧ Below w1.heap.size (w1.setCell ⟨g, 0, none⟩ u) w'
theorem KR.sto {W w w' : World} {L : List Rw} {g : Nat} {x u : Value} (h : KR W (⟨g, [x]⟩ :: L) w) (hg : W.heap.size ≤ g) (hn : ∀ x, x ∈ L → x.g ≠ g) (k : Sto w g u w') : KR W (⟨g, [u]⟩ :: L) w' :=
  let ⟨w1, k1, k2⟩ := k
  ((h.below k1).set hg hn 0 u (by simp)).below (by rw [World.size_setCell]; exact k2)
theorem Rw.one {w : World} {g : Nat} {x : Value} (hg : g < w.heap.size) (hf : ∀ j, w.frozen? ⟨g, j, none⟩ = false) (hc : w.cell? ⟨g, 0, none⟩ = some x) : (⟨g, [x]⟩ : Rw).at w :=
  ⟨hg, hf, fun j u hu => by
    have hj : j < 1 := (List.getElem?_eq_some_iff.1 hu).1
    obtain rfl : j = 0 := by omega
    simp only [List.getElem?_cons_zero, Option.some.injEq] at hu
    subst hu
    exact hc⟩
def PutPost (w : World) (g : Nat) (u : Value) (e : Ending) (w' : World) : Prop := e = .returned (.tuple #[]) ∧ Sto w g u w'
def TakePost (w : World) (g : Nat) (u : Value) (r : Int) (e : Ending) (w' : World) : Prop := e = .returned (.int .i64 r) ∧ Sto w g u w'

set_option maxHeartbeats 1000000 in
theorem put_o (x v : Int) (g : Nat) (W : World) (hc : W.cell? ⟨g, 0, none⟩ = some (.int .u32 x)) (hf : ∀ j, W.frozen? ⟨g, j, none⟩ = false) (hg : g < W.heap.size) :
    Calls Tryz.prog 132 #[.agg #[.int .i64 24, .int .i64 8, .int .i64 0], .int .i64 v, .pointer (some ⟨g, 0, none⟩)] W (PutPost W g (.int .u32 (bits .or .u32 x (v % 256 * 16777216)))) := by
  have K : KR W [⟨W.heap.size, [.int .i64 24, .int .i64 8, .int .i64 0]⟩, ⟨g, [.int .u32 x]⟩] (W.alloc (.cells #[.int .i64 24, .int .i64 8, .int .i64 0] 159)) :=
    (KR.mk (Below.refl _ _) (fun y hy => by simp at hy; subst hy; exact Rw.one hg hf hc) : KR W [⟨g, [.int .u32 x]⟩] W).push [.int .i64 24, .int .i64 8, .int .i64 0] 159
  obtain ⟨S, hS0⟩ : ∃ S, S = KR W [⟨W.heap.size, [.int .i64 24, .int .i64 8, .int .i64 0]⟩, ⟨g, [.int .u32 x]⟩] := ⟨_, rfl⟩
  have hK : ∀ w, S w → KR W [⟨W.heap.size, [.int .i64 24, .int .i64 8, .int .i64 0]⟩, ⟨g, [.int .u32 x]⟩] w := fun w h => by rw [← hS0]; exact h
  have hS : ∀ w w', S w → Below w.heap.size w w' → S w' := fun w w' h k => by rw [hS0] at h ⊢; exact h.below k
  replace K : S (W.alloc (.cells #[.int .i64 24, .int .i64 8, .int .i64 0] 159)) := by rw [hS0]; exact K
  clear hS0
  have cM := Lib.hid (cls_bel hS (fun w => mask_o w))
  have a0 : ∀ y : Wd S, y.w.cell? ⟨W.heap.size, 0, none⟩ = some (.int .i64 24) := fun y => (hK _ y.h).cell _ (List.mem_cons_self ..) rfl
  have a1 : ∀ y : Wd S, y.w.cell? ⟨W.heap.size, 1, none⟩ = some (.int .i64 8) := fun y => (hK _ y.h).cell _ (List.mem_cons_self ..) rfl
  have a2 : ∀ y : Wd S, y.w.cell? ⟨W.heap.size, 2, none⟩ = some (.int .i64 0) := fun y => (hK _ y.h).cell _ (List.mem_cons_self ..) rfl
  have a3 : ∀ y : Wd S, y.w.cell? ⟨g, 0, none⟩ = some (.int .u32 x) := fun y => (hK _ y.h).cell _ (List.mem_cons_of_mem _ (List.mem_cons_self ..)) rfl
  have a4 : ∀ y : Wd S, y.w.frozen? ⟨g, 0, none⟩ = false := fun y => (hK _ y.h).soft (List.mem_cons_of_mem _ (List.mem_cons_self ..)) 0
  have HV := Lib.hid (show bits .and .u32 (v % 4294967296) 255 * 16777216 % 4294967296 = v % 256 * 16777216 from by
    have := bits_mask .u32 32 (by decide) wraps_u32b 8 (by decide) (v % 4294967296) (by omega) (by omega)
    rw [show ((2 : Int) ^ 8 - 1) = 255 from rfl, show ((2 : Int) ^ 8) = 256 from rfl] at this
    rw [this]
    omega)
  have HS := Lib.hid hS
  have HK := Lib.hid hK
  replace K := Lib.hid K
  clear hc hf hS hK
  go_enter Tryz.func132, Tryz.ntmps132
  go_wp2_with fail
  generalize (W.alloc (.cells #[.int .i64 24, .int .i64 8, .int .i64 0] 159)) = W1 at *
  refine region_cls_tail S 10 (by kernel_rfl) (by kernel_rfl) (HS.out _ _ K.out (Below.refl _ _).drew) ?_
  simp only [List.take_succ_cons, List.take_zero, List.drop_succ_cons, List.drop_zero]
  repeat (first
    | go_big_quiet_skip
    | (go_big_quiet_want
       go_big_quiet_op
       first
       | go_big_quiet_on
       | (apply Exists.intro
          refine ⟨fun y => ?_, ?_⟩
          · first | exact rfl | with_reducible exact cM.out y
          go_big_quiet_on)))
  refine wpQuiet_nil ?_
  intro y
  have hk := Lib.hid (HK.out _ y.h).bl
  go_wp2
  go_end0
  refine ⟨rfl, y.w, hk.out, ?_⟩
  rw [HV.out]
  exact Below.refl _ _

set_option maxHeartbeats 1000000 in
theorem put_a (x v : Int) (g : Nat) (W : World) (hc : W.cell? ⟨g, 0, none⟩ = some (.int .u32 x)) (hf : ∀ j, W.frozen? ⟨g, j, none⟩ = false) (hg : g < W.heap.size) :
    Calls Tryz.prog 132 #[.agg #[.int .i64 20, .int .i64 4, .int .i64 0], .int .i64 v, .pointer (some ⟨g, 0, none⟩)] W (PutPost W g (.int .u32 (bits .or .u32 x (v % 16 * 1048576)))) := by
  have K : KR W [⟨W.heap.size, [.int .i64 20, .int .i64 4, .int .i64 0]⟩, ⟨g, [.int .u32 x]⟩] (W.alloc (.cells #[.int .i64 20, .int .i64 4, .int .i64 0] 159)) :=
    (KR.mk (Below.refl _ _) (fun y hy => by simp at hy; subst hy; exact Rw.one hg hf hc) : KR W [⟨g, [.int .u32 x]⟩] W).push [.int .i64 20, .int .i64 4, .int .i64 0] 159
  obtain ⟨S, hS0⟩ : ∃ S, S = KR W [⟨W.heap.size, [.int .i64 20, .int .i64 4, .int .i64 0]⟩, ⟨g, [.int .u32 x]⟩] := ⟨_, rfl⟩
  have hK : ∀ w, S w → KR W [⟨W.heap.size, [.int .i64 20, .int .i64 4, .int .i64 0]⟩, ⟨g, [.int .u32 x]⟩] w := fun w h => by rw [← hS0]; exact h
  have hS : ∀ w w', S w → Below w.heap.size w w' → S w' := fun w w' h k => by rw [hS0] at h ⊢; exact h.below k
  replace K : S (W.alloc (.cells #[.int .i64 20, .int .i64 4, .int .i64 0] 159)) := by rw [hS0]; exact K
  clear hS0
  have cM := Lib.hid (cls_bel hS (fun w => mask_a w))
  have a0 : ∀ y : Wd S, y.w.cell? ⟨W.heap.size, 0, none⟩ = some (.int .i64 20) := fun y => (hK _ y.h).cell _ (List.mem_cons_self ..) rfl
  have a1 : ∀ y : Wd S, y.w.cell? ⟨W.heap.size, 1, none⟩ = some (.int .i64 4) := fun y => (hK _ y.h).cell _ (List.mem_cons_self ..) rfl
  have a2 : ∀ y : Wd S, y.w.cell? ⟨W.heap.size, 2, none⟩ = some (.int .i64 0) := fun y => (hK _ y.h).cell _ (List.mem_cons_self ..) rfl
  have a3 : ∀ y : Wd S, y.w.cell? ⟨g, 0, none⟩ = some (.int .u32 x) := fun y => (hK _ y.h).cell _ (List.mem_cons_of_mem _ (List.mem_cons_self ..)) rfl
  have a4 : ∀ y : Wd S, y.w.frozen? ⟨g, 0, none⟩ = false := fun y => (hK _ y.h).soft (List.mem_cons_of_mem _ (List.mem_cons_self ..)) 0
  have HV := Lib.hid (show bits .and .u32 (v % 4294967296) 15 * 1048576 % 4294967296 = v % 16 * 1048576 from by
    have := bits_mask .u32 32 (by decide) wraps_u32b 4 (by decide) (v % 4294967296) (by omega) (by omega)
    rw [show ((2 : Int) ^ 4 - 1) = 15 from rfl, show ((2 : Int) ^ 4) = 16 from rfl] at this
    rw [this]
    omega)
  have HS := Lib.hid hS
  have HK := Lib.hid hK
  replace K := Lib.hid K
  clear hc hf hS hK
  go_enter Tryz.func132, Tryz.ntmps132
  go_wp2_with fail
  generalize (W.alloc (.cells #[.int .i64 20, .int .i64 4, .int .i64 0] 159)) = W1 at *
  refine region_cls_tail S 10 (by kernel_rfl) (by kernel_rfl) (HS.out _ _ K.out (Below.refl _ _).drew) ?_
  simp only [List.take_succ_cons, List.take_zero, List.drop_succ_cons, List.drop_zero]
  repeat (first
    | go_big_quiet_skip
    | (go_big_quiet_want
       go_big_quiet_op
       first
       | go_big_quiet_on
       | (apply Exists.intro
          refine ⟨fun y => ?_, ?_⟩
          · first | exact rfl | with_reducible exact cM.out y
          go_big_quiet_on)))
  refine wpQuiet_nil ?_
  intro y
  have hk := Lib.hid (HK.out _ y.h).bl
  go_wp2
  go_end0
  refine ⟨rfl, y.w, hk.out, ?_⟩
  rw [HV.out]
  exact Below.refl _ _

set_option maxHeartbeats 1000000 in
theorem put_b (x v : Int) (g : Nat) (W : World) (hc : W.cell? ⟨g, 0, none⟩ = some (.int .u32 x)) (hf : ∀ j, W.frozen? ⟨g, j, none⟩ = false) (hg : g < W.heap.size) :
    Calls Tryz.prog 132 #[.agg #[.int .i64 16, .int .i64 4, .int .i64 0], .int .i64 v, .pointer (some ⟨g, 0, none⟩)] W (PutPost W g (.int .u32 (bits .or .u32 x (v % 16 * 65536)))) := by
  have K : KR W [⟨W.heap.size, [.int .i64 16, .int .i64 4, .int .i64 0]⟩, ⟨g, [.int .u32 x]⟩] (W.alloc (.cells #[.int .i64 16, .int .i64 4, .int .i64 0] 159)) :=
    (KR.mk (Below.refl _ _) (fun y hy => by simp at hy; subst hy; exact Rw.one hg hf hc) : KR W [⟨g, [.int .u32 x]⟩] W).push [.int .i64 16, .int .i64 4, .int .i64 0] 159
  obtain ⟨S, hS0⟩ : ∃ S, S = KR W [⟨W.heap.size, [.int .i64 16, .int .i64 4, .int .i64 0]⟩, ⟨g, [.int .u32 x]⟩] := ⟨_, rfl⟩
  have hK : ∀ w, S w → KR W [⟨W.heap.size, [.int .i64 16, .int .i64 4, .int .i64 0]⟩, ⟨g, [.int .u32 x]⟩] w := fun w h => by rw [← hS0]; exact h
  have hS : ∀ w w', S w → Below w.heap.size w w' → S w' := fun w w' h k => by rw [hS0] at h ⊢; exact h.below k
  replace K : S (W.alloc (.cells #[.int .i64 16, .int .i64 4, .int .i64 0] 159)) := by rw [hS0]; exact K
  clear hS0
  have cM := Lib.hid (cls_bel hS (fun w => mask_b w))
  have a0 : ∀ y : Wd S, y.w.cell? ⟨W.heap.size, 0, none⟩ = some (.int .i64 16) := fun y => (hK _ y.h).cell _ (List.mem_cons_self ..) rfl
  have a1 : ∀ y : Wd S, y.w.cell? ⟨W.heap.size, 1, none⟩ = some (.int .i64 4) := fun y => (hK _ y.h).cell _ (List.mem_cons_self ..) rfl
  have a2 : ∀ y : Wd S, y.w.cell? ⟨W.heap.size, 2, none⟩ = some (.int .i64 0) := fun y => (hK _ y.h).cell _ (List.mem_cons_self ..) rfl
  have a3 : ∀ y : Wd S, y.w.cell? ⟨g, 0, none⟩ = some (.int .u32 x) := fun y => (hK _ y.h).cell _ (List.mem_cons_of_mem _ (List.mem_cons_self ..)) rfl
  have a4 : ∀ y : Wd S, y.w.frozen? ⟨g, 0, none⟩ = false := fun y => (hK _ y.h).soft (List.mem_cons_of_mem _ (List.mem_cons_self ..)) 0
  have HV := Lib.hid (show bits .and .u32 (v % 4294967296) 15 * 65536 % 4294967296 = v % 16 * 65536 from by
    have := bits_mask .u32 32 (by decide) wraps_u32b 4 (by decide) (v % 4294967296) (by omega) (by omega)
    rw [show ((2 : Int) ^ 4 - 1) = 15 from rfl, show ((2 : Int) ^ 4) = 16 from rfl] at this
    rw [this]
    omega)
  have HS := Lib.hid hS
  have HK := Lib.hid hK
  replace K := Lib.hid K
  clear hc hf hS hK
  go_enter Tryz.func132, Tryz.ntmps132
  go_wp2_with fail
  generalize (W.alloc (.cells #[.int .i64 16, .int .i64 4, .int .i64 0] 159)) = W1 at *
  refine region_cls_tail S 10 (by kernel_rfl) (by kernel_rfl) (HS.out _ _ K.out (Below.refl _ _).drew) ?_
  simp only [List.take_succ_cons, List.take_zero, List.drop_succ_cons, List.drop_zero]
  repeat (first
    | go_big_quiet_skip
    | (go_big_quiet_want
       go_big_quiet_op
       first
       | go_big_quiet_on
       | (apply Exists.intro
          refine ⟨fun y => ?_, ?_⟩
          · first | exact rfl | with_reducible exact cM.out y
          go_big_quiet_on)))
  refine wpQuiet_nil ?_
  intro y
  have hk := Lib.hid (HK.out _ y.h).bl
  go_wp2
  go_end0
  refine ⟨rfl, y.w, hk.out, ?_⟩
  rw [HV.out]
  exact Below.refl _ _

set_option maxHeartbeats 1000000 in
theorem put_c (x v : Int) (g : Nat) (W : World) (hc : W.cell? ⟨g, 0, none⟩ = some (.int .u32 x)) (hf : ∀ j, W.frozen? ⟨g, j, none⟩ = false) (hg : g < W.heap.size) :
    Calls Tryz.prog 132 #[.agg #[.int .i64 12, .int .i64 4, .int .i64 0], .int .i64 v, .pointer (some ⟨g, 0, none⟩)] W (PutPost W g (.int .u32 (bits .or .u32 x (v % 16 * 4096)))) := by
  have K : KR W [⟨W.heap.size, [.int .i64 12, .int .i64 4, .int .i64 0]⟩, ⟨g, [.int .u32 x]⟩] (W.alloc (.cells #[.int .i64 12, .int .i64 4, .int .i64 0] 159)) :=
    (KR.mk (Below.refl _ _) (fun y hy => by simp at hy; subst hy; exact Rw.one hg hf hc) : KR W [⟨g, [.int .u32 x]⟩] W).push [.int .i64 12, .int .i64 4, .int .i64 0] 159
  obtain ⟨S, hS0⟩ : ∃ S, S = KR W [⟨W.heap.size, [.int .i64 12, .int .i64 4, .int .i64 0]⟩, ⟨g, [.int .u32 x]⟩] := ⟨_, rfl⟩
  have hK : ∀ w, S w → KR W [⟨W.heap.size, [.int .i64 12, .int .i64 4, .int .i64 0]⟩, ⟨g, [.int .u32 x]⟩] w := fun w h => by rw [← hS0]; exact h
  have hS : ∀ w w', S w → Below w.heap.size w w' → S w' := fun w w' h k => by rw [hS0] at h ⊢; exact h.below k
  replace K : S (W.alloc (.cells #[.int .i64 12, .int .i64 4, .int .i64 0] 159)) := by rw [hS0]; exact K
  clear hS0
  have cM := Lib.hid (cls_bel hS (fun w => mask_c w))
  have a0 : ∀ y : Wd S, y.w.cell? ⟨W.heap.size, 0, none⟩ = some (.int .i64 12) := fun y => (hK _ y.h).cell _ (List.mem_cons_self ..) rfl
  have a1 : ∀ y : Wd S, y.w.cell? ⟨W.heap.size, 1, none⟩ = some (.int .i64 4) := fun y => (hK _ y.h).cell _ (List.mem_cons_self ..) rfl
  have a2 : ∀ y : Wd S, y.w.cell? ⟨W.heap.size, 2, none⟩ = some (.int .i64 0) := fun y => (hK _ y.h).cell _ (List.mem_cons_self ..) rfl
  have a3 : ∀ y : Wd S, y.w.cell? ⟨g, 0, none⟩ = some (.int .u32 x) := fun y => (hK _ y.h).cell _ (List.mem_cons_of_mem _ (List.mem_cons_self ..)) rfl
  have a4 : ∀ y : Wd S, y.w.frozen? ⟨g, 0, none⟩ = false := fun y => (hK _ y.h).soft (List.mem_cons_of_mem _ (List.mem_cons_self ..)) 0
  have HV := Lib.hid (show bits .and .u32 (v % 4294967296) 15 * 4096 % 4294967296 = v % 16 * 4096 from by
    have := bits_mask .u32 32 (by decide) wraps_u32b 4 (by decide) (v % 4294967296) (by omega) (by omega)
    rw [show ((2 : Int) ^ 4 - 1) = 15 from rfl, show ((2 : Int) ^ 4) = 16 from rfl] at this
    rw [this]
    omega)
  have HS := Lib.hid hS
  have HK := Lib.hid hK
  replace K := Lib.hid K
  clear hc hf hS hK
  go_enter Tryz.func132, Tryz.ntmps132
  go_wp2_with fail
  generalize (W.alloc (.cells #[.int .i64 12, .int .i64 4, .int .i64 0] 159)) = W1 at *
  refine region_cls_tail S 10 (by kernel_rfl) (by kernel_rfl) (HS.out _ _ K.out (Below.refl _ _).drew) ?_
  simp only [List.take_succ_cons, List.take_zero, List.drop_succ_cons, List.drop_zero]
  repeat (first
    | go_big_quiet_skip
    | (go_big_quiet_want
       go_big_quiet_op
       first
       | go_big_quiet_on
       | (apply Exists.intro
          refine ⟨fun y => ?_, ?_⟩
          · first | exact rfl | with_reducible exact cM.out y
          go_big_quiet_on)))
  refine wpQuiet_nil ?_
  intro y
  have hk := Lib.hid (HK.out _ y.h).bl
  go_wp2
  go_end0
  refine ⟨rfl, y.w, hk.out, ?_⟩
  rw [HV.out]
  exact Below.refl _ _

set_option maxHeartbeats 1000000 in
theorem put_i (x v : Int) (g : Nat) (W : World) (hc : W.cell? ⟨g, 0, none⟩ = some (.int .u32 x)) (hf : ∀ j, W.frozen? ⟨g, j, none⟩ = false) (hg : g < W.heap.size) :
    Calls Tryz.prog 132 #[.agg #[.int .i64 0, .int .i64 12, .int .i64 (-2048)], .int .i64 v, .pointer (some ⟨g, 0, none⟩)] W (PutPost W g (.int .u32 (bits .or .u32 x (v % 4096)))) := by
  have K : KR W [⟨W.heap.size, [.int .i64 0, .int .i64 12, .int .i64 (-2048)]⟩, ⟨g, [.int .u32 x]⟩] (W.alloc (.cells #[.int .i64 0, .int .i64 12, .int .i64 (-2048)] 159)) :=
    (KR.mk (Below.refl _ _) (fun y hy => by simp at hy; subst hy; exact Rw.one hg hf hc) : KR W [⟨g, [.int .u32 x]⟩] W).push [.int .i64 0, .int .i64 12, .int .i64 (-2048)] 159
  obtain ⟨S, hS0⟩ : ∃ S, S = KR W [⟨W.heap.size, [.int .i64 0, .int .i64 12, .int .i64 (-2048)]⟩, ⟨g, [.int .u32 x]⟩] := ⟨_, rfl⟩
  have hK : ∀ w, S w → KR W [⟨W.heap.size, [.int .i64 0, .int .i64 12, .int .i64 (-2048)]⟩, ⟨g, [.int .u32 x]⟩] w := fun w h => by rw [← hS0]; exact h
  have hS : ∀ w w', S w → Below w.heap.size w w' → S w' := fun w w' h k => by rw [hS0] at h ⊢; exact h.below k
  replace K : S (W.alloc (.cells #[.int .i64 0, .int .i64 12, .int .i64 (-2048)] 159)) := by rw [hS0]; exact K
  clear hS0
  have cM := Lib.hid (cls_bel hS (fun w => mask_i w))
  have a0 : ∀ y : Wd S, y.w.cell? ⟨W.heap.size, 0, none⟩ = some (.int .i64 0) := fun y => (hK _ y.h).cell _ (List.mem_cons_self ..) rfl
  have a1 : ∀ y : Wd S, y.w.cell? ⟨W.heap.size, 1, none⟩ = some (.int .i64 12) := fun y => (hK _ y.h).cell _ (List.mem_cons_self ..) rfl
  have a2 : ∀ y : Wd S, y.w.cell? ⟨W.heap.size, 2, none⟩ = some (.int .i64 (-2048)) := fun y => (hK _ y.h).cell _ (List.mem_cons_self ..) rfl
  have a3 : ∀ y : Wd S, y.w.cell? ⟨g, 0, none⟩ = some (.int .u32 x) := fun y => (hK _ y.h).cell _ (List.mem_cons_of_mem _ (List.mem_cons_self ..)) rfl
  have a4 : ∀ y : Wd S, y.w.frozen? ⟨g, 0, none⟩ = false := fun y => (hK _ y.h).soft (List.mem_cons_of_mem _ (List.mem_cons_self ..)) 0
  have HV := Lib.hid (show bits .and .u32 (v % 4294967296) 4095 % 4294967296 = v % 4096 from by
    have := bits_mask .u32 32 (by decide) wraps_u32b 12 (by decide) (v % 4294967296) (by omega) (by omega)
    rw [show ((2 : Int) ^ 12 - 1) = 4095 from rfl, show ((2 : Int) ^ 12) = 4096 from rfl] at this
    rw [this]
    omega)
  have HS := Lib.hid hS
  have HK := Lib.hid hK
  replace K := Lib.hid K
  clear hc hf hS hK
  go_enter Tryz.func132, Tryz.ntmps132
  go_wp2_with fail
  generalize (W.alloc (.cells #[.int .i64 0, .int .i64 12, .int .i64 (-2048)] 159)) = W1 at *
  refine region_cls_tail S 10 (by kernel_rfl) (by kernel_rfl) (HS.out _ _ K.out (Below.refl _ _).drew) ?_
  simp only [List.take_succ_cons, List.take_zero, List.drop_succ_cons, List.drop_zero]
  repeat (first
    | go_big_quiet_skip
    | (go_big_quiet_want
       go_big_quiet_op
       first
       | go_big_quiet_on
       | (apply Exists.intro
          refine ⟨fun y => ?_, ?_⟩
          · first | exact rfl | with_reducible exact cM.out y
          go_big_quiet_on)))
  refine wpQuiet_nil ?_
  intro y
  have hk := Lib.hid (HK.out _ y.h).bl
  go_wp2
  go_end0
  refine ⟨rfl, y.w, hk.out, ?_⟩
  rw [HV.out]
  exact Below.refl _ _

set_option maxHeartbeats 1000000 in
theorem put_j (x v : Int) (g : Nat) (W : World) (hc : W.cell? ⟨g, 0, none⟩ = some (.int .u32 x)) (hf : ∀ j, W.frozen? ⟨g, j, none⟩ = false) (hg : g < W.heap.size) :
    Calls Tryz.prog 132 #[.agg #[.int .i64 0, .int .i64 20, .int .i64 (-524288)], .int .i64 v, .pointer (some ⟨g, 0, none⟩)] W (PutPost W g (.int .u32 (bits .or .u32 x (v % 1048576)))) := by
  have K : KR W [⟨W.heap.size, [.int .i64 0, .int .i64 20, .int .i64 (-524288)]⟩, ⟨g, [.int .u32 x]⟩] (W.alloc (.cells #[.int .i64 0, .int .i64 20, .int .i64 (-524288)] 159)) :=
    (KR.mk (Below.refl _ _) (fun y hy => by simp at hy; subst hy; exact Rw.one hg hf hc) : KR W [⟨g, [.int .u32 x]⟩] W).push [.int .i64 0, .int .i64 20, .int .i64 (-524288)] 159
  obtain ⟨S, hS0⟩ : ∃ S, S = KR W [⟨W.heap.size, [.int .i64 0, .int .i64 20, .int .i64 (-524288)]⟩, ⟨g, [.int .u32 x]⟩] := ⟨_, rfl⟩
  have hK : ∀ w, S w → KR W [⟨W.heap.size, [.int .i64 0, .int .i64 20, .int .i64 (-524288)]⟩, ⟨g, [.int .u32 x]⟩] w := fun w h => by rw [← hS0]; exact h
  have hS : ∀ w w', S w → Below w.heap.size w w' → S w' := fun w w' h k => by rw [hS0] at h ⊢; exact h.below k
  replace K : S (W.alloc (.cells #[.int .i64 0, .int .i64 20, .int .i64 (-524288)] 159)) := by rw [hS0]; exact K
  clear hS0
  have cM := Lib.hid (cls_bel hS (fun w => mask_j w))
  have a0 : ∀ y : Wd S, y.w.cell? ⟨W.heap.size, 0, none⟩ = some (.int .i64 0) := fun y => (hK _ y.h).cell _ (List.mem_cons_self ..) rfl
  have a1 : ∀ y : Wd S, y.w.cell? ⟨W.heap.size, 1, none⟩ = some (.int .i64 20) := fun y => (hK _ y.h).cell _ (List.mem_cons_self ..) rfl
  have a2 : ∀ y : Wd S, y.w.cell? ⟨W.heap.size, 2, none⟩ = some (.int .i64 (-524288)) := fun y => (hK _ y.h).cell _ (List.mem_cons_self ..) rfl
  have a3 : ∀ y : Wd S, y.w.cell? ⟨g, 0, none⟩ = some (.int .u32 x) := fun y => (hK _ y.h).cell _ (List.mem_cons_of_mem _ (List.mem_cons_self ..)) rfl
  have a4 : ∀ y : Wd S, y.w.frozen? ⟨g, 0, none⟩ = false := fun y => (hK _ y.h).soft (List.mem_cons_of_mem _ (List.mem_cons_self ..)) 0
  have HV := Lib.hid (show bits .and .u32 (v % 4294967296) 1048575 % 4294967296 = v % 1048576 from by
    have := bits_mask .u32 32 (by decide) wraps_u32b 20 (by decide) (v % 4294967296) (by omega) (by omega)
    rw [show ((2 : Int) ^ 20 - 1) = 1048575 from rfl, show ((2 : Int) ^ 20) = 1048576 from rfl] at this
    rw [this]
    omega)
  have HS := Lib.hid hS
  have HK := Lib.hid hK
  replace K := Lib.hid K
  clear hc hf hS hK
  go_enter Tryz.func132, Tryz.ntmps132
  go_wp2_with fail
  generalize (W.alloc (.cells #[.int .i64 0, .int .i64 20, .int .i64 (-524288)] 159)) = W1 at *
  refine region_cls_tail S 10 (by kernel_rfl) (by kernel_rfl) (HS.out _ _ K.out (Below.refl _ _).drew) ?_
  simp only [List.take_succ_cons, List.take_zero, List.drop_succ_cons, List.drop_zero]
  repeat (first
    | go_big_quiet_skip
    | (go_big_quiet_want
       go_big_quiet_op
       first
       | go_big_quiet_on
       | (apply Exists.intro
          refine ⟨fun y => ?_, ?_⟩
          · first | exact rfl | with_reducible exact cM.out y
          go_big_quiet_on)))
  refine wpQuiet_nil ?_
  intro y
  have hk := Lib.hid (HK.out _ y.h).bl
  go_wp2
  go_end0
  refine ⟨rfl, y.w, hk.out, ?_⟩
  rw [HV.out]
  exact Below.refl _ _

theorem Rw.put {w : World} {g : Nat} {x : Value} (h : (⟨g, [x]⟩ : Rw).at w) (u : Value) : (⟨g, [u]⟩ : Rw).at (w.setCell ⟨g, 0, none⟩ u) :=
  ⟨by rw [World.size_setCell]; exact h.1, fun j => by rw [World.frozen?_setCell]; exact h.2.1 j, fun j v hv => by
    have hj : j < 1 := (List.getElem?_eq_some_iff.1 hv).1
    obtain rfl : j = 0 := by omega
    simp only [List.getElem?_cons_zero, Option.some.injEq] at hv
    subst hv
    have hB := h.2.2 0 x rfl
    exact World.cell?_setCell_same' _ _ _ (by simp only at hB; rw [hB]; rfl)⟩
theorem Rw.off {w : World} {g : Nat} {r : Rw} (h : r.at w) (hn : r.g ≠ g) (u : Value) : r.at (w.setCell ⟨g, 0, none⟩ u) :=
  ⟨by rw [World.size_setCell]; exact h.1, fun j => by rw [World.frozen?_setCell]; exact h.2.1 j, fun j v hv => by
    rw [World.cell?_setCell_other _ _ _ _ (fun e => hn (by injection e with e _; exact e.symm))]
    exact h.2.2 j v hv⟩

/-- A number of so many bits, as one below 0 or not. -/
def sx (M H z : Int) : Int := if H ≤ z then z - M else z

set_option maxHeartbeats 1000000 in
theorem take_o' (x Q : Int) (h0 : 0 ≤ x) (h1 : x < 4294967296) (hQ : bits .and .u32 (x / 16777216) 255 = Q) (q0 : 0 ≤ Q) (q1 : Q < 256) (qx : Q * 16777216 ≤ x) (g : Nat) (W : World) (hc : W.cell? ⟨g, 0, none⟩ = some (.int .u32 x)) (hf : ∀ j, W.frozen? ⟨g, j, none⟩ = false) (hg : g < W.heap.size) :
    Calls Tryz.prog 113 #[.agg #[.int .i64 24, .int .i64 8, .int .i64 0], .pointer (some ⟨g, 0, none⟩)] W (TakePost W g (.int .u32 (x - Q * 16777216)) (Q)) := by
  have R0 : (⟨g, [.int .u32 x]⟩ : Rw).at W := Rw.one hg hf hc
  have K : KR W [⟨W.heap.size, [.int .i64 24, .int .i64 8, .int .i64 0]⟩, ⟨g, [.int .u32 x]⟩] (W.alloc (.cells #[.int .i64 24, .int .i64 8, .int .i64 0] 159)) :=
    (KR.mk (Below.refl _ _) (fun y hy => by simp at hy; subst hy; exact R0) : KR W [⟨g, [.int .u32 x]⟩] W).push [.int .i64 24, .int .i64 8, .int .i64 0] 159
  obtain ⟨S, hS0⟩ : ∃ S, S = KR W [⟨W.heap.size, [.int .i64 24, .int .i64 8, .int .i64 0]⟩, ⟨g, [.int .u32 x]⟩] := ⟨_, rfl⟩
  have hK : ∀ w, S w → KR W [⟨W.heap.size, [.int .i64 24, .int .i64 8, .int .i64 0]⟩, ⟨g, [.int .u32 x]⟩] w := fun w h => by rw [← hS0]; exact h
  have hS : ∀ w w', S w → Below w.heap.size w w' → S w' := fun w w' h k => by rw [hS0] at h ⊢; exact h.below k
  replace K : S (W.alloc (.cells #[.int .i64 24, .int .i64 8, .int .i64 0] 159)) := by rw [hS0]; exact K
  clear hS0 R0
  have cM := Lib.hid (cls_bel hS (fun w => mask_o w))
  have a0 : ∀ y : Wd S, y.w.cell? ⟨W.heap.size, 0, none⟩ = some (.int .i64 24) := fun y => (hK _ y.h).cell _ (List.mem_cons_self ..) rfl
  have a1 : ∀ y : Wd S, y.w.cell? ⟨W.heap.size, 1, none⟩ = some (.int .i64 8) := fun y => (hK _ y.h).cell _ (List.mem_cons_self ..) rfl
  have a2 : ∀ y : Wd S, y.w.cell? ⟨W.heap.size, 2, none⟩ = some (.int .i64 0) := fun y => (hK _ y.h).cell _ (List.mem_cons_self ..) rfl
  have a3 : ∀ y : Wd S, y.w.cell? ⟨g, 0, none⟩ = some (.int .u32 x) := fun y => (hK _ y.h).cell _ (List.mem_cons_of_mem _ (List.mem_cons_self ..)) rfl
  have a4 : ∀ y : Wd S, y.w.frozen? ⟨g, 0, none⟩ = false := fun y => (hK _ y.h).soft (List.mem_cons_of_mem _ (List.mem_cons_self ..)) 0
  have hu : (x - Q * 16777216) % 4294967296 = x - Q * 16777216 := by omega
  have hu' : (x - Q * 16777216 % 4294967296) % 4294967296 = x - Q * 16777216 := by omega
  have HU := Lib.hid (And.intro hu hu')
  clear hu hu'
  have HV := Lib.hid (show bits .and .u32 Q 255 = Q from by
    have := bits_mask .u32 32 (by decide) wraps_u32b 8 (by decide) Q (by omega) (by omega)
    rw [show ((2 : Int) ^ 8 - 1) = 255 from rfl, show ((2 : Int) ^ 8) = 256 from rfl] at this
    rw [this]
    omega)
  have HR := Lib.hid (show 0 + Q = Q from by first | (unfold sx; split <;> omega) | omega)
  have HS := Lib.hid hS
  have HK := Lib.hid hK
  have H0 := Lib.hid (And.intro h0 h1)
  have HQ := Lib.hid (And.intro q0 q1)
  have HG := Lib.hid hg
  replace K := Lib.hid K
  clear hc hf hS hK h0 h1 qx q0 q1 hg
  go_enter Tryz.func113, Tryz.ntmps113
  go_wp2_with fail
  generalize (W.alloc (.cells #[.int .i64 24, .int .i64 8, .int .i64 0] 159)) = W1 at *
  refine region_cls S (by kernel_rfl) (by kernel_rfl) (HS.out _ _ K.out (Below.refl _ _).drew) ?_
  repeat (first
    | go_big_quiet_skip
    | (go_big_quiet_want
       go_big_quiet_op
       first
       | go_big_quiet_on
       | (apply Exists.intro
          refine ⟨fun y => ?_, ?_⟩
          · first | exact rfl | with_reducible exact cM.out y
          go_big_quiet_on)))
  refine wpQuiet_nil ?_
  intro y
  go_wp2_with fail
  refine region_cls_tail S 6 (by kernel_rfl) (by kernel_rfl) (HS.out _ _ y.h (Below.refl _ _).drew) ?_
  simp only [List.take_succ_cons, List.take_zero, List.drop_succ_cons, List.drop_zero]
  repeat (first
    | go_big_quiet_skip
    | (go_big_quiet_want
       go_big_quiet_op
       first
       | go_big_quiet_on
       | (apply Exists.intro
          refine ⟨fun y => ?_, ?_⟩
          · first | exact rfl
          go_big_quiet_on)))
  refine wpQuiet_nil ?_
  intro z
  have KZ := HK.out _ z.h
  have rB : (⟨W.heap.size, [.int .i64 24, .int .i64 8, .int .i64 0]⟩ : Rw).at (z.w.setCell ⟨g, 0, none⟩ (.int .u32 ((x - Q * 16777216) % 4294967296))) := Rw.off (KZ.al _ (List.mem_cons_self ..)) (Nat.ne_of_gt HG.out) _
  have rG : (⟨g, [.int .u32 ((x - Q * 16777216) % 4294967296)]⟩ : Rw).at (z.w.setCell ⟨g, 0, none⟩ (.int .u32 ((x - Q * 16777216) % 4294967296))) := Rw.put (KZ.al ⟨g, [.int .u32 x]⟩ (List.mem_cons_of_mem _ (List.mem_cons_self ..))) _
  have bZ := Lib.hid KZ.bl
  have RR := Lib.hid (And.intro rB rG)
  clear KZ rB rG a0 a1 a2 cM
  go_wp2_with fail
  clear a3 a4 hQ
  generalize hW2 : z.w.setCell ⟨g, 0, none⟩ (.int .u32 ((x - Q * 16777216) % 4294967296)) = W2 at *
  replace hW2 := Lib.hid hW2
  obtain ⟨S2, hS0⟩ : ∃ S2, S2 = KR W2 [⟨W.heap.size, [.int .i64 24, .int .i64 8, .int .i64 0]⟩] := ⟨_, rfl⟩
  have K2 : S2 W2 := by rw [hS0]; exact ⟨Below.refl _ _, fun y hy => by simp at hy; subst hy; exact RR.out.1⟩
  have hK : ∀ w, S2 w → KR W2 [⟨W.heap.size, [.int .i64 24, .int .i64 8, .int .i64 0]⟩] w := fun w h => by rw [← hS0]; exact h
  have hS : ∀ w w', S2 w → Below w.heap.size w w' → S2 w' := fun w w' h k => by rw [hS0] at h ⊢; exact h.below k
  clear hS0
  have cM := Lib.hid (cls_bel hS (fun w => mask_o w))
  have a0 : ∀ y : Wd S2, y.w.cell? ⟨W.heap.size, 0, none⟩ = some (.int .i64 24) := fun y => (hK _ y.h).cell _ (List.mem_cons_self ..) rfl
  have a1 : ∀ y : Wd S2, y.w.cell? ⟨W.heap.size, 1, none⟩ = some (.int .i64 8) := fun y => (hK _ y.h).cell _ (List.mem_cons_self ..) rfl
  have a2 : ∀ y : Wd S2, y.w.cell? ⟨W.heap.size, 2, none⟩ = some (.int .i64 0) := fun y => (hK _ y.h).cell _ (List.mem_cons_self ..) rfl
  have HS2 := Lib.hid hS
  have HK2 := Lib.hid hK
  replace K2 := Lib.hid K2
  obtain ⟨q0, q1⟩ := HQ.out
  clear hS hK
  refine region_cls S2 (by kernel_rfl) (by kernel_rfl) (HS2.out _ _ K2.out (Below.refl _ _).drew) ?_
  repeat (first
    | go_big_quiet_skip
    | (go_big_quiet_want
       go_big_quiet_op
       first
       | go_big_quiet_on
       | (apply Exists.intro
          refine ⟨fun y => ?_, ?_⟩
          · first | exact rfl | with_reducible exact cM.out y
          go_big_quiet_on)))
  refine wpQuiet_nil ?_
  intro v
  have hv := Lib.hid (HK2.out _ v.h).bl
  go_wp2
  go_ret
  refine ⟨ret_int ?_, z.w, bZ.out, ?_⟩
  · rw [HV.out, ← HR.out]
    simp only [wrap64]
    omega
  · have hx := hv.out
    rw [← hW2.out, World.size_setCell, HU.out.1] at hx
    exact hx
theorem take_o (x : Int) (h0 : 0 ≤ x) (h1 : x < 4294967296) (g : Nat) (W : World) (hc : W.cell? ⟨g, 0, none⟩ = some (.int .u32 x)) (hf : ∀ j, W.frozen? ⟨g, j, none⟩ = false) (hg : g < W.heap.size) :
    Calls Tryz.prog 113 #[.agg #[.int .i64 24, .int .i64 8, .int .i64 0], .pointer (some ⟨g, 0, none⟩)] W (TakePost W g (.int .u32 (x - (x / 16777216 % 256) * 16777216)) ((x / 16777216 % 256))) :=
  take_o' x (x / 16777216 % 256) h0 h1 (by
    have := bits_mask .u32 32 (by decide) wraps_u32b 8 (by decide) (x / 16777216) (by omega) (by omega)
    rw [show ((2 : Int) ^ 8 - 1) = 255 from rfl, show ((2 : Int) ^ 8) = 256 from rfl] at this
    exact this) (by omega) (by omega) (by omega) g W hc hf hg

set_option maxHeartbeats 1000000 in
theorem take_a' (x Q : Int) (h0 : 0 ≤ x) (h1 : x < 4294967296) (hQ : bits .and .u32 (x / 1048576) 15 = Q) (q0 : 0 ≤ Q) (q1 : Q < 16) (qx : Q * 1048576 ≤ x) (g : Nat) (W : World) (hc : W.cell? ⟨g, 0, none⟩ = some (.int .u32 x)) (hf : ∀ j, W.frozen? ⟨g, j, none⟩ = false) (hg : g < W.heap.size) :
    Calls Tryz.prog 113 #[.agg #[.int .i64 20, .int .i64 4, .int .i64 0], .pointer (some ⟨g, 0, none⟩)] W (TakePost W g (.int .u32 (x - Q * 1048576)) (Q)) := by
  have R0 : (⟨g, [.int .u32 x]⟩ : Rw).at W := Rw.one hg hf hc
  have K : KR W [⟨W.heap.size, [.int .i64 20, .int .i64 4, .int .i64 0]⟩, ⟨g, [.int .u32 x]⟩] (W.alloc (.cells #[.int .i64 20, .int .i64 4, .int .i64 0] 159)) :=
    (KR.mk (Below.refl _ _) (fun y hy => by simp at hy; subst hy; exact R0) : KR W [⟨g, [.int .u32 x]⟩] W).push [.int .i64 20, .int .i64 4, .int .i64 0] 159
  obtain ⟨S, hS0⟩ : ∃ S, S = KR W [⟨W.heap.size, [.int .i64 20, .int .i64 4, .int .i64 0]⟩, ⟨g, [.int .u32 x]⟩] := ⟨_, rfl⟩
  have hK : ∀ w, S w → KR W [⟨W.heap.size, [.int .i64 20, .int .i64 4, .int .i64 0]⟩, ⟨g, [.int .u32 x]⟩] w := fun w h => by rw [← hS0]; exact h
  have hS : ∀ w w', S w → Below w.heap.size w w' → S w' := fun w w' h k => by rw [hS0] at h ⊢; exact h.below k
  replace K : S (W.alloc (.cells #[.int .i64 20, .int .i64 4, .int .i64 0] 159)) := by rw [hS0]; exact K
  clear hS0 R0
  have cM := Lib.hid (cls_bel hS (fun w => mask_a w))
  have a0 : ∀ y : Wd S, y.w.cell? ⟨W.heap.size, 0, none⟩ = some (.int .i64 20) := fun y => (hK _ y.h).cell _ (List.mem_cons_self ..) rfl
  have a1 : ∀ y : Wd S, y.w.cell? ⟨W.heap.size, 1, none⟩ = some (.int .i64 4) := fun y => (hK _ y.h).cell _ (List.mem_cons_self ..) rfl
  have a2 : ∀ y : Wd S, y.w.cell? ⟨W.heap.size, 2, none⟩ = some (.int .i64 0) := fun y => (hK _ y.h).cell _ (List.mem_cons_self ..) rfl
  have a3 : ∀ y : Wd S, y.w.cell? ⟨g, 0, none⟩ = some (.int .u32 x) := fun y => (hK _ y.h).cell _ (List.mem_cons_of_mem _ (List.mem_cons_self ..)) rfl
  have a4 : ∀ y : Wd S, y.w.frozen? ⟨g, 0, none⟩ = false := fun y => (hK _ y.h).soft (List.mem_cons_of_mem _ (List.mem_cons_self ..)) 0
  have hu : (x - Q * 1048576) % 4294967296 = x - Q * 1048576 := by omega
  have hu' : (x - Q * 1048576 % 4294967296) % 4294967296 = x - Q * 1048576 := by omega
  have HU := Lib.hid (And.intro hu hu')
  clear hu hu'
  have HV := Lib.hid (show bits .and .u32 Q 15 = Q from by
    have := bits_mask .u32 32 (by decide) wraps_u32b 4 (by decide) Q (by omega) (by omega)
    rw [show ((2 : Int) ^ 4 - 1) = 15 from rfl, show ((2 : Int) ^ 4) = 16 from rfl] at this
    rw [this]
    omega)
  have HR := Lib.hid (show 0 + Q = Q from by first | (unfold sx; split <;> omega) | omega)
  have HS := Lib.hid hS
  have HK := Lib.hid hK
  have H0 := Lib.hid (And.intro h0 h1)
  have HQ := Lib.hid (And.intro q0 q1)
  have HG := Lib.hid hg
  replace K := Lib.hid K
  clear hc hf hS hK h0 h1 qx q0 q1 hg
  go_enter Tryz.func113, Tryz.ntmps113
  go_wp2_with fail
  generalize (W.alloc (.cells #[.int .i64 20, .int .i64 4, .int .i64 0] 159)) = W1 at *
  refine region_cls S (by kernel_rfl) (by kernel_rfl) (HS.out _ _ K.out (Below.refl _ _).drew) ?_
  repeat (first
    | go_big_quiet_skip
    | (go_big_quiet_want
       go_big_quiet_op
       first
       | go_big_quiet_on
       | (apply Exists.intro
          refine ⟨fun y => ?_, ?_⟩
          · first | exact rfl | with_reducible exact cM.out y
          go_big_quiet_on)))
  refine wpQuiet_nil ?_
  intro y
  go_wp2_with fail
  refine region_cls_tail S 6 (by kernel_rfl) (by kernel_rfl) (HS.out _ _ y.h (Below.refl _ _).drew) ?_
  simp only [List.take_succ_cons, List.take_zero, List.drop_succ_cons, List.drop_zero]
  repeat (first
    | go_big_quiet_skip
    | (go_big_quiet_want
       go_big_quiet_op
       first
       | go_big_quiet_on
       | (apply Exists.intro
          refine ⟨fun y => ?_, ?_⟩
          · first | exact rfl
          go_big_quiet_on)))
  refine wpQuiet_nil ?_
  intro z
  have KZ := HK.out _ z.h
  have rB : (⟨W.heap.size, [.int .i64 20, .int .i64 4, .int .i64 0]⟩ : Rw).at (z.w.setCell ⟨g, 0, none⟩ (.int .u32 ((x - Q * 1048576) % 4294967296))) := Rw.off (KZ.al _ (List.mem_cons_self ..)) (Nat.ne_of_gt HG.out) _
  have rG : (⟨g, [.int .u32 ((x - Q * 1048576) % 4294967296)]⟩ : Rw).at (z.w.setCell ⟨g, 0, none⟩ (.int .u32 ((x - Q * 1048576) % 4294967296))) := Rw.put (KZ.al ⟨g, [.int .u32 x]⟩ (List.mem_cons_of_mem _ (List.mem_cons_self ..))) _
  have bZ := Lib.hid KZ.bl
  have RR := Lib.hid (And.intro rB rG)
  clear KZ rB rG a0 a1 a2 cM
  go_wp2_with fail
  clear a3 a4 hQ
  generalize hW2 : z.w.setCell ⟨g, 0, none⟩ (.int .u32 ((x - Q * 1048576) % 4294967296)) = W2 at *
  replace hW2 := Lib.hid hW2
  obtain ⟨S2, hS0⟩ : ∃ S2, S2 = KR W2 [⟨W.heap.size, [.int .i64 20, .int .i64 4, .int .i64 0]⟩] := ⟨_, rfl⟩
  have K2 : S2 W2 := by rw [hS0]; exact ⟨Below.refl _ _, fun y hy => by simp at hy; subst hy; exact RR.out.1⟩
  have hK : ∀ w, S2 w → KR W2 [⟨W.heap.size, [.int .i64 20, .int .i64 4, .int .i64 0]⟩] w := fun w h => by rw [← hS0]; exact h
  have hS : ∀ w w', S2 w → Below w.heap.size w w' → S2 w' := fun w w' h k => by rw [hS0] at h ⊢; exact h.below k
  clear hS0
  have cM := Lib.hid (cls_bel hS (fun w => mask_a w))
  have a0 : ∀ y : Wd S2, y.w.cell? ⟨W.heap.size, 0, none⟩ = some (.int .i64 20) := fun y => (hK _ y.h).cell _ (List.mem_cons_self ..) rfl
  have a1 : ∀ y : Wd S2, y.w.cell? ⟨W.heap.size, 1, none⟩ = some (.int .i64 4) := fun y => (hK _ y.h).cell _ (List.mem_cons_self ..) rfl
  have a2 : ∀ y : Wd S2, y.w.cell? ⟨W.heap.size, 2, none⟩ = some (.int .i64 0) := fun y => (hK _ y.h).cell _ (List.mem_cons_self ..) rfl
  have HS2 := Lib.hid hS
  have HK2 := Lib.hid hK
  replace K2 := Lib.hid K2
  obtain ⟨q0, q1⟩ := HQ.out
  clear hS hK
  refine region_cls S2 (by kernel_rfl) (by kernel_rfl) (HS2.out _ _ K2.out (Below.refl _ _).drew) ?_
  repeat (first
    | go_big_quiet_skip
    | (go_big_quiet_want
       go_big_quiet_op
       first
       | go_big_quiet_on
       | (apply Exists.intro
          refine ⟨fun y => ?_, ?_⟩
          · first | exact rfl | with_reducible exact cM.out y
          go_big_quiet_on)))
  refine wpQuiet_nil ?_
  intro v
  have hv := Lib.hid (HK2.out _ v.h).bl
  go_wp2
  go_ret
  refine ⟨ret_int ?_, z.w, bZ.out, ?_⟩
  · rw [HV.out, ← HR.out]
    simp only [wrap64]
    omega
  · have hx := hv.out
    rw [← hW2.out, World.size_setCell, HU.out.1] at hx
    exact hx
theorem take_a (x : Int) (h0 : 0 ≤ x) (h1 : x < 4294967296) (g : Nat) (W : World) (hc : W.cell? ⟨g, 0, none⟩ = some (.int .u32 x)) (hf : ∀ j, W.frozen? ⟨g, j, none⟩ = false) (hg : g < W.heap.size) :
    Calls Tryz.prog 113 #[.agg #[.int .i64 20, .int .i64 4, .int .i64 0], .pointer (some ⟨g, 0, none⟩)] W (TakePost W g (.int .u32 (x - (x / 1048576 % 16) * 1048576)) ((x / 1048576 % 16))) :=
  take_a' x (x / 1048576 % 16) h0 h1 (by
    have := bits_mask .u32 32 (by decide) wraps_u32b 4 (by decide) (x / 1048576) (by omega) (by omega)
    rw [show ((2 : Int) ^ 4 - 1) = 15 from rfl, show ((2 : Int) ^ 4) = 16 from rfl] at this
    exact this) (by omega) (by omega) (by omega) g W hc hf hg

set_option maxHeartbeats 1000000 in
theorem take_b' (x Q : Int) (h0 : 0 ≤ x) (h1 : x < 4294967296) (hQ : bits .and .u32 (x / 65536) 15 = Q) (q0 : 0 ≤ Q) (q1 : Q < 16) (qx : Q * 65536 ≤ x) (g : Nat) (W : World) (hc : W.cell? ⟨g, 0, none⟩ = some (.int .u32 x)) (hf : ∀ j, W.frozen? ⟨g, j, none⟩ = false) (hg : g < W.heap.size) :
    Calls Tryz.prog 113 #[.agg #[.int .i64 16, .int .i64 4, .int .i64 0], .pointer (some ⟨g, 0, none⟩)] W (TakePost W g (.int .u32 (x - Q * 65536)) (Q)) := by
  have R0 : (⟨g, [.int .u32 x]⟩ : Rw).at W := Rw.one hg hf hc
  have K : KR W [⟨W.heap.size, [.int .i64 16, .int .i64 4, .int .i64 0]⟩, ⟨g, [.int .u32 x]⟩] (W.alloc (.cells #[.int .i64 16, .int .i64 4, .int .i64 0] 159)) :=
    (KR.mk (Below.refl _ _) (fun y hy => by simp at hy; subst hy; exact R0) : KR W [⟨g, [.int .u32 x]⟩] W).push [.int .i64 16, .int .i64 4, .int .i64 0] 159
  obtain ⟨S, hS0⟩ : ∃ S, S = KR W [⟨W.heap.size, [.int .i64 16, .int .i64 4, .int .i64 0]⟩, ⟨g, [.int .u32 x]⟩] := ⟨_, rfl⟩
  have hK : ∀ w, S w → KR W [⟨W.heap.size, [.int .i64 16, .int .i64 4, .int .i64 0]⟩, ⟨g, [.int .u32 x]⟩] w := fun w h => by rw [← hS0]; exact h
  have hS : ∀ w w', S w → Below w.heap.size w w' → S w' := fun w w' h k => by rw [hS0] at h ⊢; exact h.below k
  replace K : S (W.alloc (.cells #[.int .i64 16, .int .i64 4, .int .i64 0] 159)) := by rw [hS0]; exact K
  clear hS0 R0
  have cM := Lib.hid (cls_bel hS (fun w => mask_b w))
  have a0 : ∀ y : Wd S, y.w.cell? ⟨W.heap.size, 0, none⟩ = some (.int .i64 16) := fun y => (hK _ y.h).cell _ (List.mem_cons_self ..) rfl
  have a1 : ∀ y : Wd S, y.w.cell? ⟨W.heap.size, 1, none⟩ = some (.int .i64 4) := fun y => (hK _ y.h).cell _ (List.mem_cons_self ..) rfl
  have a2 : ∀ y : Wd S, y.w.cell? ⟨W.heap.size, 2, none⟩ = some (.int .i64 0) := fun y => (hK _ y.h).cell _ (List.mem_cons_self ..) rfl
  have a3 : ∀ y : Wd S, y.w.cell? ⟨g, 0, none⟩ = some (.int .u32 x) := fun y => (hK _ y.h).cell _ (List.mem_cons_of_mem _ (List.mem_cons_self ..)) rfl
  have a4 : ∀ y : Wd S, y.w.frozen? ⟨g, 0, none⟩ = false := fun y => (hK _ y.h).soft (List.mem_cons_of_mem _ (List.mem_cons_self ..)) 0
  have hu : (x - Q * 65536) % 4294967296 = x - Q * 65536 := by omega
  have hu' : (x - Q * 65536 % 4294967296) % 4294967296 = x - Q * 65536 := by omega
  have HU := Lib.hid (And.intro hu hu')
  clear hu hu'
  have HV := Lib.hid (show bits .and .u32 Q 15 = Q from by
    have := bits_mask .u32 32 (by decide) wraps_u32b 4 (by decide) Q (by omega) (by omega)
    rw [show ((2 : Int) ^ 4 - 1) = 15 from rfl, show ((2 : Int) ^ 4) = 16 from rfl] at this
    rw [this]
    omega)
  have HR := Lib.hid (show 0 + Q = Q from by first | (unfold sx; split <;> omega) | omega)
  have HS := Lib.hid hS
  have HK := Lib.hid hK
  have H0 := Lib.hid (And.intro h0 h1)
  have HQ := Lib.hid (And.intro q0 q1)
  have HG := Lib.hid hg
  replace K := Lib.hid K
  clear hc hf hS hK h0 h1 qx q0 q1 hg
  go_enter Tryz.func113, Tryz.ntmps113
  go_wp2_with fail
  generalize (W.alloc (.cells #[.int .i64 16, .int .i64 4, .int .i64 0] 159)) = W1 at *
  refine region_cls S (by kernel_rfl) (by kernel_rfl) (HS.out _ _ K.out (Below.refl _ _).drew) ?_
  repeat (first
    | go_big_quiet_skip
    | (go_big_quiet_want
       go_big_quiet_op
       first
       | go_big_quiet_on
       | (apply Exists.intro
          refine ⟨fun y => ?_, ?_⟩
          · first | exact rfl | with_reducible exact cM.out y
          go_big_quiet_on)))
  refine wpQuiet_nil ?_
  intro y
  go_wp2_with fail
  refine region_cls_tail S 6 (by kernel_rfl) (by kernel_rfl) (HS.out _ _ y.h (Below.refl _ _).drew) ?_
  simp only [List.take_succ_cons, List.take_zero, List.drop_succ_cons, List.drop_zero]
  repeat (first
    | go_big_quiet_skip
    | (go_big_quiet_want
       go_big_quiet_op
       first
       | go_big_quiet_on
       | (apply Exists.intro
          refine ⟨fun y => ?_, ?_⟩
          · first | exact rfl
          go_big_quiet_on)))
  refine wpQuiet_nil ?_
  intro z
  have KZ := HK.out _ z.h
  have rB : (⟨W.heap.size, [.int .i64 16, .int .i64 4, .int .i64 0]⟩ : Rw).at (z.w.setCell ⟨g, 0, none⟩ (.int .u32 ((x - Q * 65536) % 4294967296))) := Rw.off (KZ.al _ (List.mem_cons_self ..)) (Nat.ne_of_gt HG.out) _
  have rG : (⟨g, [.int .u32 ((x - Q * 65536) % 4294967296)]⟩ : Rw).at (z.w.setCell ⟨g, 0, none⟩ (.int .u32 ((x - Q * 65536) % 4294967296))) := Rw.put (KZ.al ⟨g, [.int .u32 x]⟩ (List.mem_cons_of_mem _ (List.mem_cons_self ..))) _
  have bZ := Lib.hid KZ.bl
  have RR := Lib.hid (And.intro rB rG)
  clear KZ rB rG a0 a1 a2 cM
  go_wp2_with fail
  clear a3 a4 hQ
  generalize hW2 : z.w.setCell ⟨g, 0, none⟩ (.int .u32 ((x - Q * 65536) % 4294967296)) = W2 at *
  replace hW2 := Lib.hid hW2
  obtain ⟨S2, hS0⟩ : ∃ S2, S2 = KR W2 [⟨W.heap.size, [.int .i64 16, .int .i64 4, .int .i64 0]⟩] := ⟨_, rfl⟩
  have K2 : S2 W2 := by rw [hS0]; exact ⟨Below.refl _ _, fun y hy => by simp at hy; subst hy; exact RR.out.1⟩
  have hK : ∀ w, S2 w → KR W2 [⟨W.heap.size, [.int .i64 16, .int .i64 4, .int .i64 0]⟩] w := fun w h => by rw [← hS0]; exact h
  have hS : ∀ w w', S2 w → Below w.heap.size w w' → S2 w' := fun w w' h k => by rw [hS0] at h ⊢; exact h.below k
  clear hS0
  have cM := Lib.hid (cls_bel hS (fun w => mask_b w))
  have a0 : ∀ y : Wd S2, y.w.cell? ⟨W.heap.size, 0, none⟩ = some (.int .i64 16) := fun y => (hK _ y.h).cell _ (List.mem_cons_self ..) rfl
  have a1 : ∀ y : Wd S2, y.w.cell? ⟨W.heap.size, 1, none⟩ = some (.int .i64 4) := fun y => (hK _ y.h).cell _ (List.mem_cons_self ..) rfl
  have a2 : ∀ y : Wd S2, y.w.cell? ⟨W.heap.size, 2, none⟩ = some (.int .i64 0) := fun y => (hK _ y.h).cell _ (List.mem_cons_self ..) rfl
  have HS2 := Lib.hid hS
  have HK2 := Lib.hid hK
  replace K2 := Lib.hid K2
  obtain ⟨q0, q1⟩ := HQ.out
  clear hS hK
  refine region_cls S2 (by kernel_rfl) (by kernel_rfl) (HS2.out _ _ K2.out (Below.refl _ _).drew) ?_
  repeat (first
    | go_big_quiet_skip
    | (go_big_quiet_want
       go_big_quiet_op
       first
       | go_big_quiet_on
       | (apply Exists.intro
          refine ⟨fun y => ?_, ?_⟩
          · first | exact rfl | with_reducible exact cM.out y
          go_big_quiet_on)))
  refine wpQuiet_nil ?_
  intro v
  have hv := Lib.hid (HK2.out _ v.h).bl
  go_wp2
  go_ret
  refine ⟨ret_int ?_, z.w, bZ.out, ?_⟩
  · rw [HV.out, ← HR.out]
    simp only [wrap64]
    omega
  · have hx := hv.out
    rw [← hW2.out, World.size_setCell, HU.out.1] at hx
    exact hx
theorem take_b (x : Int) (h0 : 0 ≤ x) (h1 : x < 4294967296) (g : Nat) (W : World) (hc : W.cell? ⟨g, 0, none⟩ = some (.int .u32 x)) (hf : ∀ j, W.frozen? ⟨g, j, none⟩ = false) (hg : g < W.heap.size) :
    Calls Tryz.prog 113 #[.agg #[.int .i64 16, .int .i64 4, .int .i64 0], .pointer (some ⟨g, 0, none⟩)] W (TakePost W g (.int .u32 (x - (x / 65536 % 16) * 65536)) ((x / 65536 % 16))) :=
  take_b' x (x / 65536 % 16) h0 h1 (by
    have := bits_mask .u32 32 (by decide) wraps_u32b 4 (by decide) (x / 65536) (by omega) (by omega)
    rw [show ((2 : Int) ^ 4 - 1) = 15 from rfl, show ((2 : Int) ^ 4) = 16 from rfl] at this
    exact this) (by omega) (by omega) (by omega) g W hc hf hg

set_option maxHeartbeats 1000000 in
theorem take_c' (x Q : Int) (h0 : 0 ≤ x) (h1 : x < 4294967296) (hQ : bits .and .u32 (x / 4096) 15 = Q) (q0 : 0 ≤ Q) (q1 : Q < 16) (qx : Q * 4096 ≤ x) (g : Nat) (W : World) (hc : W.cell? ⟨g, 0, none⟩ = some (.int .u32 x)) (hf : ∀ j, W.frozen? ⟨g, j, none⟩ = false) (hg : g < W.heap.size) :
    Calls Tryz.prog 113 #[.agg #[.int .i64 12, .int .i64 4, .int .i64 0], .pointer (some ⟨g, 0, none⟩)] W (TakePost W g (.int .u32 (x - Q * 4096)) (Q)) := by
  have R0 : (⟨g, [.int .u32 x]⟩ : Rw).at W := Rw.one hg hf hc
  have K : KR W [⟨W.heap.size, [.int .i64 12, .int .i64 4, .int .i64 0]⟩, ⟨g, [.int .u32 x]⟩] (W.alloc (.cells #[.int .i64 12, .int .i64 4, .int .i64 0] 159)) :=
    (KR.mk (Below.refl _ _) (fun y hy => by simp at hy; subst hy; exact R0) : KR W [⟨g, [.int .u32 x]⟩] W).push [.int .i64 12, .int .i64 4, .int .i64 0] 159
  obtain ⟨S, hS0⟩ : ∃ S, S = KR W [⟨W.heap.size, [.int .i64 12, .int .i64 4, .int .i64 0]⟩, ⟨g, [.int .u32 x]⟩] := ⟨_, rfl⟩
  have hK : ∀ w, S w → KR W [⟨W.heap.size, [.int .i64 12, .int .i64 4, .int .i64 0]⟩, ⟨g, [.int .u32 x]⟩] w := fun w h => by rw [← hS0]; exact h
  have hS : ∀ w w', S w → Below w.heap.size w w' → S w' := fun w w' h k => by rw [hS0] at h ⊢; exact h.below k
  replace K : S (W.alloc (.cells #[.int .i64 12, .int .i64 4, .int .i64 0] 159)) := by rw [hS0]; exact K
  clear hS0 R0
  have cM := Lib.hid (cls_bel hS (fun w => mask_c w))
  have a0 : ∀ y : Wd S, y.w.cell? ⟨W.heap.size, 0, none⟩ = some (.int .i64 12) := fun y => (hK _ y.h).cell _ (List.mem_cons_self ..) rfl
  have a1 : ∀ y : Wd S, y.w.cell? ⟨W.heap.size, 1, none⟩ = some (.int .i64 4) := fun y => (hK _ y.h).cell _ (List.mem_cons_self ..) rfl
  have a2 : ∀ y : Wd S, y.w.cell? ⟨W.heap.size, 2, none⟩ = some (.int .i64 0) := fun y => (hK _ y.h).cell _ (List.mem_cons_self ..) rfl
  have a3 : ∀ y : Wd S, y.w.cell? ⟨g, 0, none⟩ = some (.int .u32 x) := fun y => (hK _ y.h).cell _ (List.mem_cons_of_mem _ (List.mem_cons_self ..)) rfl
  have a4 : ∀ y : Wd S, y.w.frozen? ⟨g, 0, none⟩ = false := fun y => (hK _ y.h).soft (List.mem_cons_of_mem _ (List.mem_cons_self ..)) 0
  have hu : (x - Q * 4096) % 4294967296 = x - Q * 4096 := by omega
  have hu' : (x - Q * 4096 % 4294967296) % 4294967296 = x - Q * 4096 := by omega
  have HU := Lib.hid (And.intro hu hu')
  clear hu hu'
  have HV := Lib.hid (show bits .and .u32 Q 15 = Q from by
    have := bits_mask .u32 32 (by decide) wraps_u32b 4 (by decide) Q (by omega) (by omega)
    rw [show ((2 : Int) ^ 4 - 1) = 15 from rfl, show ((2 : Int) ^ 4) = 16 from rfl] at this
    rw [this]
    omega)
  have HR := Lib.hid (show 0 + Q = Q from by first | (unfold sx; split <;> omega) | omega)
  have HS := Lib.hid hS
  have HK := Lib.hid hK
  have H0 := Lib.hid (And.intro h0 h1)
  have HQ := Lib.hid (And.intro q0 q1)
  have HG := Lib.hid hg
  replace K := Lib.hid K
  clear hc hf hS hK h0 h1 qx q0 q1 hg
  go_enter Tryz.func113, Tryz.ntmps113
  go_wp2_with fail
  generalize (W.alloc (.cells #[.int .i64 12, .int .i64 4, .int .i64 0] 159)) = W1 at *
  refine region_cls S (by kernel_rfl) (by kernel_rfl) (HS.out _ _ K.out (Below.refl _ _).drew) ?_
  repeat (first
    | go_big_quiet_skip
    | (go_big_quiet_want
       go_big_quiet_op
       first
       | go_big_quiet_on
       | (apply Exists.intro
          refine ⟨fun y => ?_, ?_⟩
          · first | exact rfl | with_reducible exact cM.out y
          go_big_quiet_on)))
  refine wpQuiet_nil ?_
  intro y
  go_wp2_with fail
  refine region_cls_tail S 6 (by kernel_rfl) (by kernel_rfl) (HS.out _ _ y.h (Below.refl _ _).drew) ?_
  simp only [List.take_succ_cons, List.take_zero, List.drop_succ_cons, List.drop_zero]
  repeat (first
    | go_big_quiet_skip
    | (go_big_quiet_want
       go_big_quiet_op
       first
       | go_big_quiet_on
       | (apply Exists.intro
          refine ⟨fun y => ?_, ?_⟩
          · first | exact rfl
          go_big_quiet_on)))
  refine wpQuiet_nil ?_
  intro z
  have KZ := HK.out _ z.h
  have rB : (⟨W.heap.size, [.int .i64 12, .int .i64 4, .int .i64 0]⟩ : Rw).at (z.w.setCell ⟨g, 0, none⟩ (.int .u32 ((x - Q * 4096) % 4294967296))) := Rw.off (KZ.al _ (List.mem_cons_self ..)) (Nat.ne_of_gt HG.out) _
  have rG : (⟨g, [.int .u32 ((x - Q * 4096) % 4294967296)]⟩ : Rw).at (z.w.setCell ⟨g, 0, none⟩ (.int .u32 ((x - Q * 4096) % 4294967296))) := Rw.put (KZ.al ⟨g, [.int .u32 x]⟩ (List.mem_cons_of_mem _ (List.mem_cons_self ..))) _
  have bZ := Lib.hid KZ.bl
  have RR := Lib.hid (And.intro rB rG)
  clear KZ rB rG a0 a1 a2 cM
  go_wp2_with fail
  clear a3 a4 hQ
  generalize hW2 : z.w.setCell ⟨g, 0, none⟩ (.int .u32 ((x - Q * 4096) % 4294967296)) = W2 at *
  replace hW2 := Lib.hid hW2
  obtain ⟨S2, hS0⟩ : ∃ S2, S2 = KR W2 [⟨W.heap.size, [.int .i64 12, .int .i64 4, .int .i64 0]⟩] := ⟨_, rfl⟩
  have K2 : S2 W2 := by rw [hS0]; exact ⟨Below.refl _ _, fun y hy => by simp at hy; subst hy; exact RR.out.1⟩
  have hK : ∀ w, S2 w → KR W2 [⟨W.heap.size, [.int .i64 12, .int .i64 4, .int .i64 0]⟩] w := fun w h => by rw [← hS0]; exact h
  have hS : ∀ w w', S2 w → Below w.heap.size w w' → S2 w' := fun w w' h k => by rw [hS0] at h ⊢; exact h.below k
  clear hS0
  have cM := Lib.hid (cls_bel hS (fun w => mask_c w))
  have a0 : ∀ y : Wd S2, y.w.cell? ⟨W.heap.size, 0, none⟩ = some (.int .i64 12) := fun y => (hK _ y.h).cell _ (List.mem_cons_self ..) rfl
  have a1 : ∀ y : Wd S2, y.w.cell? ⟨W.heap.size, 1, none⟩ = some (.int .i64 4) := fun y => (hK _ y.h).cell _ (List.mem_cons_self ..) rfl
  have a2 : ∀ y : Wd S2, y.w.cell? ⟨W.heap.size, 2, none⟩ = some (.int .i64 0) := fun y => (hK _ y.h).cell _ (List.mem_cons_self ..) rfl
  have HS2 := Lib.hid hS
  have HK2 := Lib.hid hK
  replace K2 := Lib.hid K2
  obtain ⟨q0, q1⟩ := HQ.out
  clear hS hK
  refine region_cls S2 (by kernel_rfl) (by kernel_rfl) (HS2.out _ _ K2.out (Below.refl _ _).drew) ?_
  repeat (first
    | go_big_quiet_skip
    | (go_big_quiet_want
       go_big_quiet_op
       first
       | go_big_quiet_on
       | (apply Exists.intro
          refine ⟨fun y => ?_, ?_⟩
          · first | exact rfl | with_reducible exact cM.out y
          go_big_quiet_on)))
  refine wpQuiet_nil ?_
  intro v
  have hv := Lib.hid (HK2.out _ v.h).bl
  go_wp2
  go_ret
  refine ⟨ret_int ?_, z.w, bZ.out, ?_⟩
  · rw [HV.out, ← HR.out]
    simp only [wrap64]
    omega
  · have hx := hv.out
    rw [← hW2.out, World.size_setCell, HU.out.1] at hx
    exact hx
theorem take_c (x : Int) (h0 : 0 ≤ x) (h1 : x < 4294967296) (g : Nat) (W : World) (hc : W.cell? ⟨g, 0, none⟩ = some (.int .u32 x)) (hf : ∀ j, W.frozen? ⟨g, j, none⟩ = false) (hg : g < W.heap.size) :
    Calls Tryz.prog 113 #[.agg #[.int .i64 12, .int .i64 4, .int .i64 0], .pointer (some ⟨g, 0, none⟩)] W (TakePost W g (.int .u32 (x - (x / 4096 % 16) * 4096)) ((x / 4096 % 16))) :=
  take_c' x (x / 4096 % 16) h0 h1 (by
    have := bits_mask .u32 32 (by decide) wraps_u32b 4 (by decide) (x / 4096) (by omega) (by omega)
    rw [show ((2 : Int) ^ 4 - 1) = 15 from rfl, show ((2 : Int) ^ 4) = 16 from rfl] at this
    exact this) (by omega) (by omega) (by omega) g W hc hf hg

set_option maxHeartbeats 1000000 in
theorem take_i' (x Q : Int) (h0 : 0 ≤ x) (h1 : x < 4294967296) (hQ : bits .and .u32 (x) 4095 = Q) (q0 : 0 ≤ Q) (q1 : Q < 4096) (qx : Q ≤ x) (g : Nat) (W : World) (hc : W.cell? ⟨g, 0, none⟩ = some (.int .u32 x)) (hf : ∀ j, W.frozen? ⟨g, j, none⟩ = false) (hg : g < W.heap.size) :
    Calls Tryz.prog 113 #[.agg #[.int .i64 0, .int .i64 12, .int .i64 (-2048)], .pointer (some ⟨g, 0, none⟩)] W (TakePost W g (.int .u32 (x - Q)) (sx 4096 2048 Q)) := by
  have R0 : (⟨g, [.int .u32 x]⟩ : Rw).at W := Rw.one hg hf hc
  have K : KR W [⟨W.heap.size, [.int .i64 0, .int .i64 12, .int .i64 (-2048)]⟩, ⟨g, [.int .u32 x]⟩] (W.alloc (.cells #[.int .i64 0, .int .i64 12, .int .i64 (-2048)] 159)) :=
    (KR.mk (Below.refl _ _) (fun y hy => by simp at hy; subst hy; exact R0) : KR W [⟨g, [.int .u32 x]⟩] W).push [.int .i64 0, .int .i64 12, .int .i64 (-2048)] 159
  obtain ⟨S, hS0⟩ : ∃ S, S = KR W [⟨W.heap.size, [.int .i64 0, .int .i64 12, .int .i64 (-2048)]⟩, ⟨g, [.int .u32 x]⟩] := ⟨_, rfl⟩
  have hK : ∀ w, S w → KR W [⟨W.heap.size, [.int .i64 0, .int .i64 12, .int .i64 (-2048)]⟩, ⟨g, [.int .u32 x]⟩] w := fun w h => by rw [← hS0]; exact h
  have hS : ∀ w w', S w → Below w.heap.size w w' → S w' := fun w w' h k => by rw [hS0] at h ⊢; exact h.below k
  replace K : S (W.alloc (.cells #[.int .i64 0, .int .i64 12, .int .i64 (-2048)] 159)) := by rw [hS0]; exact K
  clear hS0 R0
  have cM := Lib.hid (cls_bel hS (fun w => mask_i w))
  have a0 : ∀ y : Wd S, y.w.cell? ⟨W.heap.size, 0, none⟩ = some (.int .i64 0) := fun y => (hK _ y.h).cell _ (List.mem_cons_self ..) rfl
  have a1 : ∀ y : Wd S, y.w.cell? ⟨W.heap.size, 1, none⟩ = some (.int .i64 12) := fun y => (hK _ y.h).cell _ (List.mem_cons_self ..) rfl
  have a2 : ∀ y : Wd S, y.w.cell? ⟨W.heap.size, 2, none⟩ = some (.int .i64 (-2048)) := fun y => (hK _ y.h).cell _ (List.mem_cons_self ..) rfl
  have a3 : ∀ y : Wd S, y.w.cell? ⟨g, 0, none⟩ = some (.int .u32 x) := fun y => (hK _ y.h).cell _ (List.mem_cons_of_mem _ (List.mem_cons_self ..)) rfl
  have a4 : ∀ y : Wd S, y.w.frozen? ⟨g, 0, none⟩ = false := fun y => (hK _ y.h).soft (List.mem_cons_of_mem _ (List.mem_cons_self ..)) 0
  have hu : (x - Q) % 4294967296 = x - Q := by omega
  have hu' : (x - Q % 4294967296) % 4294967296 = x - Q := by omega
  have HU := Lib.hid (And.intro hu hu')
  clear hu hu'
  have HV := Lib.hid (show bits .and .u32 ((Q - 4294965248) % 4294967296) 4095 = (Q + 2048) % 4096 from by
    have := bits_mask .u32 32 (by decide) wraps_u32b 12 (by decide) ((Q - 4294965248) % 4294967296) (by omega) (by omega)
    rw [show ((2 : Int) ^ 12 - 1) = 4095 from rfl, show ((2 : Int) ^ 12) = 4096 from rfl] at this
    rw [this]
    omega)
  have HR := Lib.hid (show (-2048) + (Q + 2048) % 4096 = sx 4096 2048 Q from by first | (unfold sx; split <;> omega) | omega)
  have HS := Lib.hid hS
  have HK := Lib.hid hK
  have H0 := Lib.hid (And.intro h0 h1)
  have HQ := Lib.hid (And.intro q0 q1)
  have HG := Lib.hid hg
  replace K := Lib.hid K
  clear hc hf hS hK h0 h1 qx q0 q1 hg
  go_enter Tryz.func113, Tryz.ntmps113
  go_wp2_with fail
  generalize (W.alloc (.cells #[.int .i64 0, .int .i64 12, .int .i64 (-2048)] 159)) = W1 at *
  refine region_cls S (by kernel_rfl) (by kernel_rfl) (HS.out _ _ K.out (Below.refl _ _).drew) ?_
  repeat (first
    | go_big_quiet_skip
    | (go_big_quiet_want
       go_big_quiet_op
       first
       | go_big_quiet_on
       | (apply Exists.intro
          refine ⟨fun y => ?_, ?_⟩
          · first | exact rfl | with_reducible exact cM.out y
          go_big_quiet_on)))
  refine wpQuiet_nil ?_
  intro y
  go_wp2_with fail
  refine region_cls_tail S 6 (by kernel_rfl) (by kernel_rfl) (HS.out _ _ y.h (Below.refl _ _).drew) ?_
  simp only [List.take_succ_cons, List.take_zero, List.drop_succ_cons, List.drop_zero]
  repeat (first
    | go_big_quiet_skip
    | (go_big_quiet_want
       go_big_quiet_op
       first
       | go_big_quiet_on
       | (apply Exists.intro
          refine ⟨fun y => ?_, ?_⟩
          · first | exact rfl
          go_big_quiet_on)))
  refine wpQuiet_nil ?_
  intro z
  have KZ := HK.out _ z.h
  have rB : (⟨W.heap.size, [.int .i64 0, .int .i64 12, .int .i64 (-2048)]⟩ : Rw).at (z.w.setCell ⟨g, 0, none⟩ (.int .u32 ((x - Q) % 4294967296))) := Rw.off (KZ.al _ (List.mem_cons_self ..)) (Nat.ne_of_gt HG.out) _
  have rG : (⟨g, [.int .u32 ((x - Q) % 4294967296)]⟩ : Rw).at (z.w.setCell ⟨g, 0, none⟩ (.int .u32 ((x - Q) % 4294967296))) := Rw.put (KZ.al ⟨g, [.int .u32 x]⟩ (List.mem_cons_of_mem _ (List.mem_cons_self ..))) _
  have bZ := Lib.hid KZ.bl
  have RR := Lib.hid (And.intro rB rG)
  clear KZ rB rG a0 a1 a2 cM
  go_wp2_with fail
  clear a3 a4 hQ
  generalize hW2 : z.w.setCell ⟨g, 0, none⟩ (.int .u32 ((x - Q) % 4294967296)) = W2 at *
  replace hW2 := Lib.hid hW2
  obtain ⟨S2, hS0⟩ : ∃ S2, S2 = KR W2 [⟨W.heap.size, [.int .i64 0, .int .i64 12, .int .i64 (-2048)]⟩] := ⟨_, rfl⟩
  have K2 : S2 W2 := by rw [hS0]; exact ⟨Below.refl _ _, fun y hy => by simp at hy; subst hy; exact RR.out.1⟩
  have hK : ∀ w, S2 w → KR W2 [⟨W.heap.size, [.int .i64 0, .int .i64 12, .int .i64 (-2048)]⟩] w := fun w h => by rw [← hS0]; exact h
  have hS : ∀ w w', S2 w → Below w.heap.size w w' → S2 w' := fun w w' h k => by rw [hS0] at h ⊢; exact h.below k
  clear hS0
  have cM := Lib.hid (cls_bel hS (fun w => mask_i w))
  have a0 : ∀ y : Wd S2, y.w.cell? ⟨W.heap.size, 0, none⟩ = some (.int .i64 0) := fun y => (hK _ y.h).cell _ (List.mem_cons_self ..) rfl
  have a1 : ∀ y : Wd S2, y.w.cell? ⟨W.heap.size, 1, none⟩ = some (.int .i64 12) := fun y => (hK _ y.h).cell _ (List.mem_cons_self ..) rfl
  have a2 : ∀ y : Wd S2, y.w.cell? ⟨W.heap.size, 2, none⟩ = some (.int .i64 (-2048)) := fun y => (hK _ y.h).cell _ (List.mem_cons_self ..) rfl
  have HS2 := Lib.hid hS
  have HK2 := Lib.hid hK
  replace K2 := Lib.hid K2
  obtain ⟨q0, q1⟩ := HQ.out
  clear hS hK
  refine region_cls S2 (by kernel_rfl) (by kernel_rfl) (HS2.out _ _ K2.out (Below.refl _ _).drew) ?_
  repeat (first
    | go_big_quiet_skip
    | (go_big_quiet_want
       go_big_quiet_op
       first
       | go_big_quiet_on
       | (apply Exists.intro
          refine ⟨fun y => ?_, ?_⟩
          · first | exact rfl | with_reducible exact cM.out y
          go_big_quiet_on)))
  refine wpQuiet_nil ?_
  intro v
  have hv := Lib.hid (HK2.out _ v.h).bl
  go_wp2
  go_ret
  refine ⟨ret_int ?_, z.w, bZ.out, ?_⟩
  · rw [HV.out, ← HR.out]
    simp only [wrap64]
    omega
  · have hx := hv.out
    rw [← hW2.out, World.size_setCell, HU.out.1] at hx
    exact hx
theorem take_i (x : Int) (h0 : 0 ≤ x) (h1 : x < 4294967296) (g : Nat) (W : World) (hc : W.cell? ⟨g, 0, none⟩ = some (.int .u32 x)) (hf : ∀ j, W.frozen? ⟨g, j, none⟩ = false) (hg : g < W.heap.size) :
    Calls Tryz.prog 113 #[.agg #[.int .i64 0, .int .i64 12, .int .i64 (-2048)], .pointer (some ⟨g, 0, none⟩)] W (TakePost W g (.int .u32 (x - (x % 4096))) (sx 4096 2048 (x % 4096))) :=
  take_i' x (x % 4096) h0 h1 (by
    have := bits_mask .u32 32 (by decide) wraps_u32b 12 (by decide) (x) (by omega) (by omega)
    rw [show ((2 : Int) ^ 12 - 1) = 4095 from rfl, show ((2 : Int) ^ 12) = 4096 from rfl] at this
    exact this) (by omega) (by omega) (by omega) g W hc hf hg

set_option maxHeartbeats 1000000 in
theorem take_j' (x Q : Int) (h0 : 0 ≤ x) (h1 : x < 4294967296) (hQ : bits .and .u32 (x) 1048575 = Q) (q0 : 0 ≤ Q) (q1 : Q < 1048576) (qx : Q ≤ x) (g : Nat) (W : World) (hc : W.cell? ⟨g, 0, none⟩ = some (.int .u32 x)) (hf : ∀ j, W.frozen? ⟨g, j, none⟩ = false) (hg : g < W.heap.size) :
    Calls Tryz.prog 113 #[.agg #[.int .i64 0, .int .i64 20, .int .i64 (-524288)], .pointer (some ⟨g, 0, none⟩)] W (TakePost W g (.int .u32 (x - Q)) (sx 1048576 524288 Q)) := by
  have R0 : (⟨g, [.int .u32 x]⟩ : Rw).at W := Rw.one hg hf hc
  have K : KR W [⟨W.heap.size, [.int .i64 0, .int .i64 20, .int .i64 (-524288)]⟩, ⟨g, [.int .u32 x]⟩] (W.alloc (.cells #[.int .i64 0, .int .i64 20, .int .i64 (-524288)] 159)) :=
    (KR.mk (Below.refl _ _) (fun y hy => by simp at hy; subst hy; exact R0) : KR W [⟨g, [.int .u32 x]⟩] W).push [.int .i64 0, .int .i64 20, .int .i64 (-524288)] 159
  obtain ⟨S, hS0⟩ : ∃ S, S = KR W [⟨W.heap.size, [.int .i64 0, .int .i64 20, .int .i64 (-524288)]⟩, ⟨g, [.int .u32 x]⟩] := ⟨_, rfl⟩
  have hK : ∀ w, S w → KR W [⟨W.heap.size, [.int .i64 0, .int .i64 20, .int .i64 (-524288)]⟩, ⟨g, [.int .u32 x]⟩] w := fun w h => by rw [← hS0]; exact h
  have hS : ∀ w w', S w → Below w.heap.size w w' → S w' := fun w w' h k => by rw [hS0] at h ⊢; exact h.below k
  replace K : S (W.alloc (.cells #[.int .i64 0, .int .i64 20, .int .i64 (-524288)] 159)) := by rw [hS0]; exact K
  clear hS0 R0
  have cM := Lib.hid (cls_bel hS (fun w => mask_j w))
  have a0 : ∀ y : Wd S, y.w.cell? ⟨W.heap.size, 0, none⟩ = some (.int .i64 0) := fun y => (hK _ y.h).cell _ (List.mem_cons_self ..) rfl
  have a1 : ∀ y : Wd S, y.w.cell? ⟨W.heap.size, 1, none⟩ = some (.int .i64 20) := fun y => (hK _ y.h).cell _ (List.mem_cons_self ..) rfl
  have a2 : ∀ y : Wd S, y.w.cell? ⟨W.heap.size, 2, none⟩ = some (.int .i64 (-524288)) := fun y => (hK _ y.h).cell _ (List.mem_cons_self ..) rfl
  have a3 : ∀ y : Wd S, y.w.cell? ⟨g, 0, none⟩ = some (.int .u32 x) := fun y => (hK _ y.h).cell _ (List.mem_cons_of_mem _ (List.mem_cons_self ..)) rfl
  have a4 : ∀ y : Wd S, y.w.frozen? ⟨g, 0, none⟩ = false := fun y => (hK _ y.h).soft (List.mem_cons_of_mem _ (List.mem_cons_self ..)) 0
  have hu : (x - Q) % 4294967296 = x - Q := by omega
  have hu' : (x - Q % 4294967296) % 4294967296 = x - Q := by omega
  have HU := Lib.hid (And.intro hu hu')
  clear hu hu'
  have HV := Lib.hid (show bits .and .u32 ((Q - 4294443008) % 4294967296) 1048575 = (Q + 524288) % 1048576 from by
    have := bits_mask .u32 32 (by decide) wraps_u32b 20 (by decide) ((Q - 4294443008) % 4294967296) (by omega) (by omega)
    rw [show ((2 : Int) ^ 20 - 1) = 1048575 from rfl, show ((2 : Int) ^ 20) = 1048576 from rfl] at this
    rw [this]
    omega)
  have HR := Lib.hid (show (-524288) + (Q + 524288) % 1048576 = sx 1048576 524288 Q from by first | (unfold sx; split <;> omega) | omega)
  have HS := Lib.hid hS
  have HK := Lib.hid hK
  have H0 := Lib.hid (And.intro h0 h1)
  have HQ := Lib.hid (And.intro q0 q1)
  have HG := Lib.hid hg
  replace K := Lib.hid K
  clear hc hf hS hK h0 h1 qx q0 q1 hg
  go_enter Tryz.func113, Tryz.ntmps113
  go_wp2_with fail
  generalize (W.alloc (.cells #[.int .i64 0, .int .i64 20, .int .i64 (-524288)] 159)) = W1 at *
  refine region_cls S (by kernel_rfl) (by kernel_rfl) (HS.out _ _ K.out (Below.refl _ _).drew) ?_
  repeat (first
    | go_big_quiet_skip
    | (go_big_quiet_want
       go_big_quiet_op
       first
       | go_big_quiet_on
       | (apply Exists.intro
          refine ⟨fun y => ?_, ?_⟩
          · first | exact rfl | with_reducible exact cM.out y
          go_big_quiet_on)))
  refine wpQuiet_nil ?_
  intro y
  go_wp2_with fail
  refine region_cls_tail S 6 (by kernel_rfl) (by kernel_rfl) (HS.out _ _ y.h (Below.refl _ _).drew) ?_
  simp only [List.take_succ_cons, List.take_zero, List.drop_succ_cons, List.drop_zero]
  repeat (first
    | go_big_quiet_skip
    | (go_big_quiet_want
       go_big_quiet_op
       first
       | go_big_quiet_on
       | (apply Exists.intro
          refine ⟨fun y => ?_, ?_⟩
          · first | exact rfl
          go_big_quiet_on)))
  refine wpQuiet_nil ?_
  intro z
  have KZ := HK.out _ z.h
  have rB : (⟨W.heap.size, [.int .i64 0, .int .i64 20, .int .i64 (-524288)]⟩ : Rw).at (z.w.setCell ⟨g, 0, none⟩ (.int .u32 ((x - Q) % 4294967296))) := Rw.off (KZ.al _ (List.mem_cons_self ..)) (Nat.ne_of_gt HG.out) _
  have rG : (⟨g, [.int .u32 ((x - Q) % 4294967296)]⟩ : Rw).at (z.w.setCell ⟨g, 0, none⟩ (.int .u32 ((x - Q) % 4294967296))) := Rw.put (KZ.al ⟨g, [.int .u32 x]⟩ (List.mem_cons_of_mem _ (List.mem_cons_self ..))) _
  have bZ := Lib.hid KZ.bl
  have RR := Lib.hid (And.intro rB rG)
  clear KZ rB rG a0 a1 a2 cM
  go_wp2_with fail
  clear a3 a4 hQ
  generalize hW2 : z.w.setCell ⟨g, 0, none⟩ (.int .u32 ((x - Q) % 4294967296)) = W2 at *
  replace hW2 := Lib.hid hW2
  obtain ⟨S2, hS0⟩ : ∃ S2, S2 = KR W2 [⟨W.heap.size, [.int .i64 0, .int .i64 20, .int .i64 (-524288)]⟩] := ⟨_, rfl⟩
  have K2 : S2 W2 := by rw [hS0]; exact ⟨Below.refl _ _, fun y hy => by simp at hy; subst hy; exact RR.out.1⟩
  have hK : ∀ w, S2 w → KR W2 [⟨W.heap.size, [.int .i64 0, .int .i64 20, .int .i64 (-524288)]⟩] w := fun w h => by rw [← hS0]; exact h
  have hS : ∀ w w', S2 w → Below w.heap.size w w' → S2 w' := fun w w' h k => by rw [hS0] at h ⊢; exact h.below k
  clear hS0
  have cM := Lib.hid (cls_bel hS (fun w => mask_j w))
  have a0 : ∀ y : Wd S2, y.w.cell? ⟨W.heap.size, 0, none⟩ = some (.int .i64 0) := fun y => (hK _ y.h).cell _ (List.mem_cons_self ..) rfl
  have a1 : ∀ y : Wd S2, y.w.cell? ⟨W.heap.size, 1, none⟩ = some (.int .i64 20) := fun y => (hK _ y.h).cell _ (List.mem_cons_self ..) rfl
  have a2 : ∀ y : Wd S2, y.w.cell? ⟨W.heap.size, 2, none⟩ = some (.int .i64 (-524288)) := fun y => (hK _ y.h).cell _ (List.mem_cons_self ..) rfl
  have HS2 := Lib.hid hS
  have HK2 := Lib.hid hK
  replace K2 := Lib.hid K2
  obtain ⟨q0, q1⟩ := HQ.out
  clear hS hK
  refine region_cls S2 (by kernel_rfl) (by kernel_rfl) (HS2.out _ _ K2.out (Below.refl _ _).drew) ?_
  repeat (first
    | go_big_quiet_skip
    | (go_big_quiet_want
       go_big_quiet_op
       first
       | go_big_quiet_on
       | (apply Exists.intro
          refine ⟨fun y => ?_, ?_⟩
          · first | exact rfl | with_reducible exact cM.out y
          go_big_quiet_on)))
  refine wpQuiet_nil ?_
  intro v
  have hv := Lib.hid (HK2.out _ v.h).bl
  go_wp2
  go_ret
  refine ⟨ret_int ?_, z.w, bZ.out, ?_⟩
  · rw [HV.out, ← HR.out]
    simp only [wrap64]
    omega
  · have hx := hv.out
    rw [← hW2.out, World.size_setCell, HU.out.1] at hx
    exact hx
theorem take_j (x : Int) (h0 : 0 ≤ x) (h1 : x < 4294967296) (g : Nat) (W : World) (hc : W.cell? ⟨g, 0, none⟩ = some (.int .u32 x)) (hf : ∀ j, W.frozen? ⟨g, j, none⟩ = false) (hg : g < W.heap.size) :
    Calls Tryz.prog 113 #[.agg #[.int .i64 0, .int .i64 20, .int .i64 (-524288)], .pointer (some ⟨g, 0, none⟩)] W (TakePost W g (.int .u32 (x - (x % 1048576))) (sx 1048576 524288 (x % 1048576))) :=
  take_j' x (x % 1048576) h0 h1 (by
    have := bits_mask .u32 32 (by decide) wraps_u32b 20 (by decide) (x) (by omega) (by omega)
    rw [show ((2 : Int) ^ 20 - 1) = 1048575 from rfl, show ((2 : Int) ^ 20) = 1048576 from rfl] at this
    exact this) (by omega) (by omega) (by omega) g W hc hf hg
end Go.Proofs.YtkmgdfcambdeeaaGreatDoor
