/- Contracts of layer asm's small calls: a text cut at a byte, parts of an instruction, names. No statement is proved here. -/
import Derived.Test.YtdkggahkfheocaaGreatDoorAsA
import Derived.BigQuiet
import Derived.OwnWalk
import Derived.Deep.QuietTactic
import Derived.Lib.IndexLaws
import Derived.Shelf.Strings.SlTrimAscii
namespace Go.Proofs.YtdkggahkfheocaaGreatDoor
set_option maxRecDepth 100000
open Go.RowKit Go.Lib
set_option linter.unusedVariables false

def hasB (l : List UInt8) (c : UInt8) : Bool := l.contains c
def cutA (l : List UInt8) (c : UInt8) : List UInt8 := l.takeWhile (· != c)
def cutB (l : List UInt8) (c : UInt8) : List UInt8 := (l.dropWhile (· != c)).drop 1
theorem span_at : ∀ (l : List UInt8) (c : UInt8) (o : Nat), l[o]? = some c → (∀ k, k < o → l[k]? ≠ some c) → l.takeWhile (· != c) = l.take o ∧ l.dropWhile (· != c) = l.drop o
  | [], c, o, h, _ => by simp at h
  | b :: l, c, 0, h, _ => by
    simp only [List.getElem?_cons_zero, Option.some.injEq] at h
    subst h
    simp
  | b :: l, c, o + 1, h, hn => by
    have hb : b ≠ c := fun e => hn 0 (by omega) (by simp [e])
    obtain ⟨h1, h2⟩ := span_at l c o (by simpa using h) (fun k hk => by have := hn (k + 1) (by omega); simpa using this)
    rw [List.takeWhile_cons_of_pos (by simpa using hb), List.dropWhile_cons_of_pos (by simpa using hb), h1, h2]
    simp
theorem span_none : ∀ (l : List UInt8) (c : UInt8), (∀ k : Nat, l[k]? ≠ some c) → l.takeWhile (· != c) = l ∧ l.dropWhile (· != c) = []
  | [], c, _ => by simp
  | b :: l, c, hn => by
    have hb : b ≠ c := fun e => hn 0 (by simp [e])
    obtain ⟨h1, h2⟩ := span_none l c (fun k => by have := hn (k + 1); simpa using this)
    rw [List.takeWhile_cons_of_pos (by simpa using hb), List.dropWhile_cons_of_pos (by simpa using hb), h1, h2]
    simp
set_option maxHeartbeats 1000000 in
theorem scut1 (s : ByteArray) (c : UInt8) (w : World) (hs : s.size ≤ 9223372036854775807) : Calls Tryz.prog 114 #[.string s, .string ⟨#[c]⟩] w fun e w' => e = .returned (.tuple #[.string ⟨(cutA s.data.toList c).toArray⟩, .string ⟨(cutB s.data.toList c).toArray⟩, .bool (hasB s.data.toList c)]) ∧ Below w.heap.size w w' := by
  have hI := Tryz.stringslite_Index_one s c w
  by_cases hneg : Lib.indexByte s.data.toList c = -1
  · have hno := Lib.indexByte_none hneg
    obtain ⟨h1, h2⟩ := span_none _ _ hno
    have e1 : cutA s.data.toList c = s.data.toList := h1
    have e2 : cutB s.data.toList c = [] := by unfold cutB; rw [h2]; rfl
    have e3 : hasB s.data.toList c = false := by
      rw [Bool.eq_false_iff]
      intro h
      obtain ⟨k, hk, e⟩ := List.getElem_of_mem (List.contains_iff_mem.1 h)
      exact hno k (by rw [List.getElem?_eq_getElem hk, e])
    rw [hneg] at hI
    rw [e1, e2, e3, Lib.mk_data]
    replace hI := Lib.hid hI
    clear e1 e2 e3 h1 h2 hno hneg
    go_enter Tryz.func114, Tryz.ntmps114
    go_wp2_with (refine hI.out.mono ?_; rintro e w' ⟨rfl, rfl⟩)
    go_ret3
    exact ⟨rfl, Below.refl _ _⟩
  · obtain ⟨o, ho⟩ : ∃ o : Nat, Lib.indexByte s.data.toList c = o := ⟨(Lib.indexByte s.data.toList c).toNat, by
      have : -1 ≤ Lib.indexByte s.data.toList c := by
        generalize s.data.toList = l
        induction l with
        | nil => simp [Lib.indexByte]
        | cons b l ih => unfold Lib.indexByte; split <;> (try split) <;> omega
      omega⟩
    obtain ⟨hat, hbf⟩ := Lib.indexByte_some ho
    obtain ⟨h1, h2⟩ := span_at _ _ _ hat hbf
    have hol : o < s.size := by rw [Lib.size_eq]; exact (List.getElem?_eq_some_iff.1 hat).1
    have e1 : (⟨(cutA s.data.toList c).toArray⟩ : ByteArray) = s.extract 0 o := by rw [Lib.extract_upto]; unfold cutA; rw [h1]
    have e2 : (⟨(cutB s.data.toList c).toArray⟩ : ByteArray) = s.extract (o + 1) s.size := by rw [Lib.extract_from]; unfold cutB; rw [h2, List.drop_drop]
    have e3 : hasB s.data.toList c = true := List.contains_iff_mem.2 (List.mem_of_getElem? hat)
    rw [ho] at hI
    rw [e1, e2, e3]
    replace hI := Lib.hid hI
    clear e1 e2 e3 h1 h2 hat hbf ho hneg
    go_enter Tryz.func114, Tryz.ntmps114
    go_wp2_with (refine hI.out.mono ?_; rintro e w' ⟨rfl, rfl⟩)
    go_quiet (fail)
    go_wp2
    go_ret3
    exact ⟨rfl, below_drewN (Below.refl _ _) _⟩
theorem cut1 (s : ByteArray) (c : UInt8) (w : World) (hs : s.size ≤ 9223372036854775807) : Calls Tryz.prog 86 #[.string s, .string ⟨#[c]⟩] w fun e w' => e = .returned (.tuple #[.string ⟨(cutA s.data.toList c).toArray⟩, .string ⟨(cutB s.data.toList c).toArray⟩, .bool (hasB s.data.toList c)]) ∧ Below w.heap.size w w' := by
  have hI := Lib.hid (scut1 s c w hs)
  go_enter Tryz.func86, Tryz.ntmps86
  go_wp2_with (refine hI.out.mono ?_; rintro e w' ⟨rfl, k⟩; replace k := Lib.hid k)
  go_ret3
  exact ⟨rfl, k.out⟩


theorem partOf8_a (g : Nat) (w : World) : Calls Tryz.prog 29 #[.pointer (some ⟨g, 0, none⟩), .int .i32 97] w fun e w' => e = .returned (.tuple #[.pointer (some ⟨g, 1, none⟩), .string ⟨#[99]⟩]) ∧ w = w' := by
  go_enter Tryz.func29, Tryz.ntmps29
  go_wp2
  go_ret2
  exact ⟨rfl, rfl⟩
theorem partOf8_b (g : Nat) (w : World) : Calls Tryz.prog 29 #[.pointer (some ⟨g, 0, none⟩), .int .i32 98] w fun e w' => e = .returned (.tuple #[.pointer (some ⟨g, 2, none⟩), .string ⟨#[99]⟩]) ∧ w = w' := by
  go_enter Tryz.func29, Tryz.ntmps29
  go_wp2
  go_ret2
  exact ⟨rfl, rfl⟩
theorem partOf8_c (g : Nat) (w : World) : Calls Tryz.prog 29 #[.pointer (some ⟨g, 0, none⟩), .int .i32 99] w fun e w' => e = .returned (.tuple #[.pointer (some ⟨g, 3, none⟩), .string ⟨#[99]⟩]) ∧ w = w' := by
  go_enter Tryz.func29, Tryz.ntmps29
  go_wp2
  go_ret2
  exact ⟨rfl, rfl⟩
theorem partOf8_m (g : Nat) (n : Int) (hn : n = 105 ∨ n = 106) (w : World) : Calls Tryz.prog 29 #[.pointer (some ⟨g, 0, none⟩), .int .i32 n] w fun e w' => e = .returned (.tuple #[.pointer (some ⟨g, 4, none⟩), .string ⟨#[]⟩]) ∧ w = w' := by
  rcases hn with rfl | rfl
  · go_enter Tryz.func29, Tryz.ntmps29
    go_wp2
    go_ret2
    exact ⟨rfl, rfl⟩
  · go_enter Tryz.func29, Tryz.ntmps29
    go_wp2
    go_ret2
    exact ⟨rfl, rfl⟩
/-- May a label's name stand for the number? -/
def jmpB (op : Int) : Bool := decide (25 ≤ op) && decide (op ≤ 29)
theorem isJump_any (op : Int) (w : World) : Calls Tryz.prog 111 #[.int .i64 op] w fun e w' => e = .returned (.bool (jmpB op)) ∧ w = w' := by
  by_cases h : 25 ≤ op ∧ op ≤ 29
  · have hj : jmpB op = true := by unfold jmpB; simp [h.1, h.2]
    rw [hj]
    have : op = 25 ∨ op = 26 ∨ op = 27 ∨ op = 28 ∨ op = 29 := by omega
    clear h hj
    rcases this with rfl | rfl | rfl | rfl | rfl
    all_goals
      go_enter Tryz.func111, Tryz.ntmps111
      go_wp2
      go_ret
      exact ⟨rfl, rfl⟩
  · have hj : jmpB op = false := by unfold jmpB; simp; omega
    rw [hj]
    have h1 : (op == 25) = false := by simp; omega
    have h2 : (op == 26) = false := by simp; omega
    have h3 : (op == 27) = false := by simp; omega
    have h4 : (op == 28) = false := by simp; omega
    have h5 : (op == 29) = false := by simp; omega
    clear h hj
    go_enter Tryz.func111, Tryz.ntmps111
    go_wp2
    go_ret
    exact ⟨rfl, rfl⟩
theorem rjumps_any (op : Int) (w : World) : Calls Tryz.prog 82 #[.int .i64 op] w fun e w' => e = .returned (.bool (jmpB op)) ∧ w = w' := by
  by_cases h : 25 ≤ op ∧ op ≤ 29
  · have hj : jmpB op = true := by unfold jmpB; simp [h.1, h.2]
    rw [hj]
    have : op = 25 ∨ op = 26 ∨ op = 27 ∨ op = 28 ∨ op = 29 := by omega
    clear h hj
    rcases this with rfl | rfl | rfl | rfl | rfl
    all_goals
      go_enter Tryz.func82, Tryz.ntmps82
      go_wp2
      go_ret
      exact ⟨rfl, rfl⟩
  · have hj : jmpB op = false := by unfold jmpB; simp; omega
    rw [hj]
    have h1 : (op == 25) = false := by simp; omega
    have h2 : (op == 26) = false := by simp; omega
    have h3 : (op == 27) = false := by simp; omega
    have h4 : (op == 28) = false := by simp; omega
    have h5 : (op == 29) = false := by simp; omega
    clear h hj
    go_enter Tryz.func82, Tryz.ntmps82
    go_wp2
    go_ret
    exact ⟨rfl, rfl⟩
def signsL : List UInt8 := [97, 98, 99, 100, 101, 102, 103, 104, 105, 106, 107, 108, 109, 110, 111, 112, 113, 114, 115, 116, 117, 118, 119, 120, 121, 122, 95, 48, 49, 50, 51, 52, 53, 54, 55, 56, 57]
def signB (c : UInt8) : Bool := (decide (97 ≤ c.toNat) && decide (c.toNat ≤ 122)) || (decide (48 ≤ c.toNat) && decide (c.toNat ≤ 57)) || decide (c.toNat = 95)
/-- May a label be named so? -/
def nameB (s : List UInt8) : Bool := decide (1 ≤ s.length) && decide (s.length ≤ 32) && s.all signB && !digB (s.headD 0)
theorem signs_all : ∀ n : Fin 256, signsL.contains (UInt8.ofNat n.val) = signB (UInt8.ofNat n.val) := by decide +kernel
theorem signs_is (c : UInt8) : signsL.contains c = signB c := by
  have := signs_all ⟨c.toNat, c.toNat_lt⟩
  simpa using this
theorem digs_all : ∀ n : Fin 256, decide (0 ≤ Lib.indexByte [48, 49, 50, 51, 52, 53, 54, 55, 56, 57] (UInt8.ofNat n.val)) = digB (UInt8.ofNat n.val) := by decide +kernel
theorem digs_is (c : UInt8) : decide (0 ≤ Lib.indexByte [48, 49, 50, 51, 52, 53, 54, 55, 56, 57] c) = digB c := by
  have := digs_all ⟨c.toNat, c.toNat_lt⟩
  simpa using this
theorem trimSigns (s : List UInt8) : (Lib.trimLeftS s signsL = []) ↔ s.all signB = true := by
  unfold Lib.trimLeftS
  induction s with
  | nil => simp
  | cons c l ih =>
    by_cases h : signB c = true
    · have hc : (signsL.contains c) = true := by rw [signs_is]; exact h
      rw [List.dropWhile_cons_of_pos hc, ih]
      simp [h]
    · have hc : ¬ (signsL.contains c) = true := by rw [signs_is]; exact h
      rw [List.dropWhile_cons_of_neg hc]
      simp [h]
end Go.Proofs.YtdkggahkfheocaaGreatDoor
