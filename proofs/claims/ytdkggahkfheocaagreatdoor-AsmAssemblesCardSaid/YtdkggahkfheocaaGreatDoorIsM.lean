/- Plain maths of layer isa: names and forms, words and instructions. No statement is proved here. -/
import GoSem.Core.View
import Derived.Laws.BitsLemmas
namespace Go.Proofs.YtdkggahkfheocaaGreatDoor
set_option linter.unusedVariables false

/-- The operations' names and forms, by their numbers. -/
def nameL : List (List UInt8) := [[], [108, 105], [108, 117, 105], [97, 100, 100], [115, 117, 98], [109, 117, 108], [100, 105, 118], [114, 101, 109], [97, 110, 100], [111, 114], [120, 111, 114], [115, 104, 108], [115, 104, 114], [108, 116], [108, 116, 117], [101, 113], [97, 100, 100, 105], [108, 98], [108, 104], [108, 119], [115, 98], [115, 104], [115, 119], [108, 99], [115, 99], [98, 101, 113], [98, 110, 101], [98, 108, 116], [98, 103, 101], [106, 97, 108], [106, 97, 108, 114], [109, 111, 118, 101], [105, 110, 99], [105, 110, 99, 105], [97, 100, 100, 114], [115, 101, 116], [101, 120, 97, 99, 116], [97, 110, 100, 115], [115, 101, 97, 108], [111, 112, 101, 110], [98, 117, 105, 108, 100], [99, 108, 101, 97, 114], [103, 97, 100, 100, 114], [103, 98, 97, 115, 101], [103, 108, 101, 110], [103, 112, 101, 114, 109], [103, 116, 121, 112, 101], [103, 116, 97, 103], [105, 115, 105, 110, 116], [112, 99], [99, 97, 108, 108], [114, 101, 116], [101, 99, 97, 108, 108], [116, 114, 97, 112]]
def formL : List (List UInt8) := [[], [97, 105], [97, 106], [97, 98, 99], [97, 98, 99], [97, 98, 99], [97, 98, 99], [97, 98, 99], [97, 98, 99], [97, 98, 99], [97, 98, 99], [97, 98, 99], [97, 98, 99], [97, 98, 99], [97, 98, 99], [97, 98, 99], [97, 98, 105], [97, 98, 105], [97, 98, 105], [97, 98, 105], [97, 98, 105], [97, 98, 105], [97, 98, 105], [97, 98, 105], [97, 98, 105], [97, 98, 105], [97, 98, 105], [97, 98, 105], [97, 98, 105], [97, 106], [97, 98], [97, 98], [97, 98, 99], [97, 98, 105], [97, 98, 99], [97, 98, 99], [97, 98, 99], [97, 98, 99], [97, 98, 99], [97, 98, 99], [97, 98, 99], [97, 98], [97, 98], [97, 98], [97, 98], [97, 98], [97, 98], [97, 98], [97, 98], [97, 106], [97, 98], [], [105], []]
def nameAt (op : Int) : List UInt8 := if 1 ≤ op ∧ op ≤ 53 then nameL.getD op.toNat [] else []
def formAt (op : Int) : List UInt8 := if 1 ≤ op ∧ op ≤ 53 then formL.getD op.toNat [] else []
theorem nameAt_out {op : Int} (h : ¬ (1 ≤ op ∧ op ≤ 53)) : nameAt op = [] := if_neg h
theorem formAt_out {op : Int} (h : ¬ (1 ≤ op ∧ op ≤ 53)) : formAt op = [] := if_neg h
theorem nameAt_in {n : Nat} (h : 1 ≤ n ∧ n ≤ 53) : nameAt (n : Int) = nameL.getD n [] := by unfold nameAt; rw [if_pos (by omega)]; rfl
theorem formAt_in {n : Nat} (h : 1 ≤ n ∧ n ≤ 53) : formAt (n : Int) = formL.getD n [] := by unfold formAt; rw [if_pos (by omega)]; rfl
theorem forms_all : ∀ f, f ∈ formL → f = [] ∨ f = [97, 105] ∨ f = [97, 106] ∨ f = [97, 98, 99] ∨ f = [97, 98, 105] ∨ f = [97, 98] ∨ f = [105] := by decide
theorem form_cases (op : Int) : formAt op = [] ∨ formAt op = [97, 105] ∨ formAt op = [97, 106] ∨ formAt op = [97, 98, 99] ∨ formAt op = [97, 98, 105] ∨ formAt op = [97, 98] ∨ formAt op = [105] := by
  by_cases h : 1 ≤ op ∧ op ≤ 53
  · obtain ⟨n, rfl⟩ := Int.eq_ofNat_of_zero_le (show 0 ≤ op by omega)
    rw [formAt_in (by omega)]
    have hn : n < formL.length := by simp [formL]; omega
    have e : formL.getD n [] = formL[n] := by simp [List.getD, List.getElem?_eq_getElem hn]
    rw [e]
    exact forms_all _ (List.getElem_mem hn)
  · exact .inl (formAt_out h)
theorem form_short (op : Int) : (formAt op).length ≤ 3 := by
  rcases form_cases op with h | h | h | h | h | h | h <;> rw [h] <;> decide

/-- An instruction. -/
structure Ins where
  op : Int
  a : Int
  b : Int
  c : Int
  m : Int
deriving DecidableEq
def Ins.zero : Ins := ⟨0, 0, 0, 0, 0⟩
/-- A register that a form has, or has not. -/
def fldB (f : List UInt8) (x : UInt8) (v : Int) : Bool := if f.contains x then decide (0 ≤ v) && decide (v ≤ 15) else decide (v = 0)
def immB (f : List UInt8) (m : Int) : Bool :=
  if f.contains 106 then decide (-524288 ≤ m) && decide (m ≤ 524287) else if f.contains 105 then decide (-2048 ≤ m) && decide (m ≤ 2047) else decide (m = 0)
/-- May it be? -/
def mayB (i : Ins) : Bool := decide (1 ≤ i.op) && decide (i.op ≤ 53) && fldB (formAt i.op) 97 i.a && fldB (formAt i.op) 98 i.b && fldB (formAt i.op) 99 i.c && immB (formAt i.op) i.m
/-- Its word. -/
def immW (f : List UInt8) (m : Int) : Int := if m < 0 then (if f.contains 106 then m + 1048576 else m + 4096) else m
def encW (i : Ins) : Int := i.op * 16777216 + i.a * 1048576 + i.b * 65536 + i.c * 4096 + immW (formAt i.op) i.m
/-- What a word's fields say, of whatever operation. -/
def rdW (w : Int) : Ins :=
  if (formAt (w / 16777216)).contains 106 then ⟨w / 16777216, w / 1048576 % 16, 0, 0, if 524288 ≤ w % 1048576 then w % 1048576 - 1048576 else w % 1048576⟩
  else ⟨w / 16777216, w / 1048576 % 16, w / 65536 % 16, w / 4096 % 16, if 2048 ≤ w % 4096 then w % 4096 - 4096 else w % 4096⟩
/-- The instruction of a word. -/
def decW (w : Int) : Ins := if mayB (rdW w) = true ∧ encW (rdW w) = w then rdW w else Ins.zero

theorem decW_zero_or (w : Int) : decW w = Ins.zero ∨ (mayB (decW w) = true ∧ encW (decW w) = w) := by
  unfold decW
  split
  · exact .inr ‹_›
  · exact .inl rfl
theorem may_parts {i : Ins} (h : mayB i = true) : 1 ≤ i.op ∧ i.op ≤ 53 ∧ fldB (formAt i.op) 97 i.a = true ∧ fldB (formAt i.op) 98 i.b = true ∧ fldB (formAt i.op) 99 i.c = true ∧ immB (formAt i.op) i.m = true := by
  unfold mayB at h
  simp only [Bool.and_eq_true, decide_eq_true_eq] at h
  exact ⟨h.1.1.1.1.1, h.1.1.1.1.2, h.1.1.1.2, h.1.1.2, h.1.2, h.2⟩
theorem may_of {i : Ins} (h : 1 ≤ i.op ∧ i.op ≤ 53 ∧ fldB (formAt i.op) 97 i.a = true ∧ fldB (formAt i.op) 98 i.b = true ∧ fldB (formAt i.op) 99 i.c = true ∧ immB (formAt i.op) i.m = true) : mayB i = true := by
  unfold mayB
  simp only [Bool.and_eq_true, decide_eq_true_eq]
  exact ⟨⟨⟨⟨⟨h.1, h.2.1⟩, h.2.2.1⟩, h.2.2.2.1⟩, h.2.2.2.2.1⟩, h.2.2.2.2.2⟩
theorem zero_not : mayB Ins.zero = false := by decide

/-- What the parts of an instruction that may be are, form by form. -/
theorem fld_in {f : List UInt8} {x : UInt8} {v : Int} (h : fldB f x v = true) : 0 ≤ v ∧ v ≤ 15 ∧ (f.contains x = false → v = 0) := by
  unfold fldB at h
  split at h
  · rename_i hc
    simp only [Bool.and_eq_true, decide_eq_true_eq] at h
    exact ⟨h.1, h.2, fun k => by rw [hc] at k; cases k⟩
  · have := of_decide_eq_true h
    exact ⟨by omega, by omega, fun _ => this⟩
theorem fld_of {f : List UInt8} {x : UInt8} {v : Int} (h : 0 ≤ v ∧ v ≤ 15 ∧ (f.contains x = false → v = 0)) : fldB f x v = true := by
  unfold fldB
  split
  · simp only [Bool.and_eq_true, decide_eq_true_eq]; exact ⟨h.1, h.2.1⟩
  · rename_i hc; exact decide_eq_true (h.2.2 (by simpa using hc))
theorem imm_in {f : List UInt8} {m : Int} (h : immB f m = true) : (f.contains 106 = true → -524288 ≤ m ∧ m ≤ 524287) ∧ (f.contains 106 = false → f.contains 105 = true → -2048 ≤ m ∧ m ≤ 2047) ∧ (f.contains 106 = false → f.contains 105 = false → m = 0) := by
  unfold immB at h
  generalize f.contains 106 = p at *
  generalize f.contains 105 = q at *
  cases p <;> cases q <;> simp at h <;> simp <;> omega
theorem imm_of {f : List UInt8} {m : Int} (h : (f.contains 106 = true → -524288 ≤ m ∧ m ≤ 524287) ∧ (f.contains 106 = false → f.contains 105 = true → -2048 ≤ m ∧ m ≤ 2047) ∧ (f.contains 106 = false → f.contains 105 = false → m = 0)) : immB f m = true := by
  unfold immB
  generalize f.contains 106 = p at *
  generalize f.contains 105 = q at *
  cases p <;> cases q <;> simp at h ⊢ <;> omega
/-- The word of what may be is one of 32 bits, and read again. -/
theorem enc_lt {i : Ins} (h : mayB i = true) : 0 ≤ encW i ∧ encW i < 4294967296 := by
  obtain ⟨h1, h2, ha, hb, hc, hm⟩ := may_parts h
  have a1 := fld_in ha; have b1 := fld_in hb; have c1 := fld_in hc; have m1 := imm_in hm
  unfold encW immW
  rcases form_cases i.op with e | e | e | e | e | e | e <;> rw [e] at a1 b1 c1 m1 ⊢ <;> simp at a1 b1 c1 m1 ⊢ <;> split <;> omega
theorem rd_enc {i : Ins} (h : mayB i = true) : rdW (encW i) = i := by
  obtain ⟨h1, h2, ha, hb, hc, hm⟩ := may_parts h
  have a1 := fld_in ha; have b1 := fld_in hb; have c1 := fld_in hc; have m1 := imm_in hm
  obtain ⟨op, a, b, c, m⟩ := i
  simp only at *
  have hop : encW ⟨op, a, b, c, m⟩ / 16777216 = op := by
    unfold encW immW
    rcases form_cases op with e | e | e | e | e | e | e <;> rw [e] at a1 b1 c1 m1 ⊢ <;> simp at a1 b1 c1 m1 ⊢ <;> split <;> omega
  unfold rdW
  rw [hop]
  unfold encW immW
  rcases form_cases op with e | e | e | e | e | e | e <;> simp only [e] at a1 b1 c1 m1 ⊢ <;> simp at a1 b1 c1 m1 ⊢ <;> (split <;> split <;> omega)
theorem dec_enc {i : Ins} (h : mayB i = true) : decW (encW i) = i := by
  unfold decW
  rw [rd_enc h, if_pos ⟨h, rfl⟩]
end Go.Proofs.YtdkggahkfheocaaGreatDoor
