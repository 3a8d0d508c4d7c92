/- Plain words for layer asm: what is printed is read again. No statement is proved here. -/
import Derived.Test.YtdkggahkfheocaaGreatDoorAsQ
import Derived.Test.YtdkggahkfheocaaGreatDoorAsL
import Derived.Test.YtdkggahkfheocaaGreatDoorAsK
namespace Go.Proofs.YtdkggahkfheocaaGreatDoor
set_option maxRecDepth 100000
open Go.RowKit Go.Lib
set_option linter.unusedVariables false

theorem natL_digits (n : Nat) : natL (decDigits n) = some n := natL_some.2 rfl
theorem int_digits (n : Nat) (h : n ≤ 9223372036854775807) : intL (decDigits n) = some (n : Int) := by
  obtain ⟨c, r, hc, h1, h2⟩ := digits_head n
  have hn := natL_digits n
  rw [hc] at hn ⊢
  unfold intL
  have h45 : ¬ c = 45 := fun e => by subst e; exact absurd h1 (by decide)
  simp only [h45, if_false, hn]
  rw [if_pos h]
theorem int_itoa (v : Int) (h0 : -9223372036854775808 ≤ v) (h1 : v ≤ 9223372036854775807) : intL (itoa v) = some v := by
  by_cases hv : v < 0
  · rw [itoa_neg' hv]
    unfold intL
    simp only [if_true, natL_digits]
    rw [if_pos (by omega)]
    congr 1
    omega
  · rw [itoa_nonneg' (by omega), int_digits _ (by omega)]
    congr 1
    omega
theorem itoa_head (v : Int) : ∃ c r, itoa v = c :: r ∧ (digB c = true ∨ c = 45) := by
  by_cases hv : v < 0
  · exact ⟨45, _, itoa_neg' hv, .inr rfl⟩
  · obtain ⟨c, r, hc, h1, h2⟩ := digits_head v.toNat
    exact ⟨c, r, by rw [itoa_nonneg' (by omega), hc], .inl (digB_of ⟨h1, h2⟩)⟩
theorem itoa_noname (v : Int) : nameB (itoa v) = false := by
  obtain ⟨c, r, hc, h⟩ := itoa_head v
  rw [hc]
  unfold nameB
  rcases h with h | rfl
  · simp [h]
  · rw [List.all_cons, show signB 45 = false from by decide]
    simp
theorem part_num (i : Ins) (x : UInt8) (h0 : -9223372036854775808 ≤ val i x) (h1 : val i x ≤ 9223372036854775807) : numP (preB x) (partL i x) = some (val i x) := by
  unfold numP partL preL preB
  by_cases hx : x = 97 ∨ x = 98 ∨ x = 99
  · rw [if_pos (by rcases hx with rfl | rfl | rfl <;> decide), if_pos hx]
    simp only [List.singleton_append]
    exact int_itoa _ h0 h1
  · rw [if_neg (by rw [Bool.or_eq_true, Bool.or_eq_true, beq_iff_eq, beq_iff_eq, beq_iff_eq, or_assoc]; exact hx), if_neg hx, List.nil_append]
    exact int_itoa _ h0 h1
theorem part_noname (i : Ins) (x : UInt8) (op : Int) : ¬ (preB x = false ∧ jmpB op = true ∧ nameB (partL i x) = true) := by
  rintro ⟨h1, -, h2⟩
  have hx : ¬ (x = 97 ∨ x = 98 ∨ x = 99) := fun h => by
    have h3 : preB x = true := by unfold preB; rcases h with rfl | rfl | rfl <;> decide
    rw [h3] at h1; cases h1
  unfold partL preL at h2
  rw [if_neg hx, List.nil_append, itoa_noname] at h2
  cases h2
def setAll (i j : Ins) : List UInt8 → Ins
  | [] => j
  | x :: f => setAll i (setF j x (val i x)) f
theorem args_parts (i : Ins) (h : ∀ x, -9223372036854775808 ≤ val i x ∧ val i x ≤ 9223372036854775807) (op : Int) : ∀ (f : List UInt8) (j : Ins), argsP op f j [] (f.map (partL i)) = some (setAll i j f, [], [])
  | [], j => rfl
  | x :: f, j => by
    rw [List.map_cons, argsP_some (part_noname i x op) (part_num i x (h x).1 (h x).2)]
    exact args_parts i h op f _
theorem may_val {i : Ins} (h : mayB i = true) (x : UInt8) : -9223372036854775808 ≤ val i x ∧ val i x ≤ 9223372036854775807 := by
  obtain ⟨h1, h2, ha, hb, hc, hm⟩ := may_parts h
  have a1 := fld_in ha; have b1 := fld_in hb; have c1 := fld_in hc; have m1 := imm_in hm
  have hmm : -524288 ≤ i.m ∧ i.m ≤ 524287 := by
    rcases Bool.eq_false_or_eq_true ((formAt i.op).contains 106) with e | e
    · exact m1.1 e
    · rcases Bool.eq_false_or_eq_true ((formAt i.op).contains 105) with e' | e'
      · have := m1.2.1 e e'; omega
      · have := m1.2.2 e e'; omega
  unfold val
  split
  · omega
  · split
    · omega
    · split <;> omega
theorem set_all {i : Ins} (h : mayB i = true) : setAll i ⟨i.op, 0, 0, 0, 0⟩ (formAt i.op) = i := by
  obtain ⟨h1, h2, ha, hb, hc, hm⟩ := may_parts h
  have a1 := (fld_in ha).2.2; have b1 := (fld_in hb).2.2; have c1 := (fld_in hc).2.2; have m1 := (imm_in hm).2.2
  obtain ⟨op, a, b, c, m⟩ := i
  simp only at *
  rcases form_cases op with e | e | e | e | e | e | e <;> rw [e] at a1 b1 c1 m1 ⊢ <;> simp [setAll, setF, val] at a1 b1 c1 m1 ⊢ <;> simp [*]
theorem names_back : ∀ n : Fin 54, 1 ≤ n.val → opAt (nameL.getD n.val []) = n.val ∧ nameL.getD n.val [] ≠ wordTx ∧ nameL.getD n.val [] ≠ [] ∧ (nameL.getD n.val []).all (fun c => decide (97 ≤ c.toNat) && decide (c.toNat ≤ 122)) = true ∧ (nameL.getD n.val []).length ≤ 20 := by decide +kernel
theorem name_back {op : Int} (h : 1 ≤ op ∧ op ≤ 53) : opAt (nameAt op) = op ∧ nameAt op ≠ wordTx ∧ nameAt op ≠ [] ∧ (∀ c, c ∈ nameAt op → 97 ≤ c.toNat ∧ c.toNat ≤ 122) ∧ (nameAt op).length ≤ 20 := by
  obtain ⟨n, rfl⟩ := Int.eq_ofNat_of_zero_le (show 0 ≤ op by omega)
  rw [nameAt_in (by omega)]
  obtain ⟨h1, h2, h3, h4, h5⟩ := names_back ⟨n, by omega⟩ (by show 1 ≤ n; omega)
  refine ⟨h1, h2, h3, fun c hc => ?_, h5⟩
  have := List.all_eq_true.1 h4 c hc
  simpa using this
/-- A byte that is printed within a word of a text. -/
def inkB (c : UInt8) : Prop := c = 45 ∨ (48 ≤ c.toNat ∧ c.toNat ≤ 57) ∨ (97 ≤ c.toNat ∧ c.toNat ≤ 122)
theorem ink_not {c : UInt8} (h : inkB c) : c ≠ 32 ∧ c ≠ 10 ∧ c ≠ 59 ∧ c ≠ 58 := by
  refine ⟨?_, ?_, ?_, ?_⟩ <;> rintro rfl <;> revert h <;> unfold inkB <;> decide
theorem itoa_ink (v : Int) : ∀ c, c ∈ itoa v → inkB c := fun c hc => by
  unfold itoa at hc
  split at hc
  · rcases List.mem_cons.1 hc with rfl | hc
    · exact .inl rfl
    · exact .inr (.inl (digits_mem _ _ hc))
  · exact .inr (.inl (digits_mem _ _ hc))
theorem part_ink (i : Ins) (x : UInt8) : partL i x ≠ [] ∧ ∀ c, c ∈ partL i x → inkB c := by
  refine ⟨fun e => ?_, fun c hc => ?_⟩
  · unfold partL at e
    exact itoa_ne _ (List.append_eq_nil_iff.1 e).2
  · unfold partL at hc
    rcases List.mem_append.1 hc with hc | hc
    · unfold preL at hc
      split at hc
      · rw [List.mem_singleton] at hc; subst hc; exact .inr (.inr (by decide))
      · cases hc
    · exact itoa_ink _ c hc
/-- The words of what is printed of a word. -/
def wdsL (w : Int) : List (List UInt8) := if (decW w).op = 0 then [wordTx, decDigits w.toNat] else partsL (decW w)
theorem print_join (w : Int) : printL w = join (wdsL w) [32] := by
  unfold printL wdsL
  split <;> rfl
theorem wds_ink (w : Int) (h0 : 0 ≤ w) (h1 : w < 4294967296) : ∃ x r, wdsL w = x :: r ∧ ∀ y, y ∈ wdsL w → y ≠ [] ∧ (∀ c, c ∈ y → inkB c) ∧ y.length ≤ 22 := by
  unfold wdsL
  by_cases h : (decW w).op = 0
  · rw [if_pos h]
    refine ⟨_, _, rfl, fun y hy => ?_⟩
    rcases List.mem_cons.1 hy with rfl | hy
    · exact ⟨by decide, fun c hc => .inr (.inr (by revert c; decide)), by decide⟩
    · rw [List.mem_singleton] at hy
      subst hy
      refine ⟨decDigits_ne _, fun c hc => .inr (.inl (digits_mem _ _ hc)), ?_⟩
      have := Lib.nDigits_le20 w.toNat (by omega)
      rw [decDigits_length]; omega
  · rw [if_neg h]
    refine ⟨_, _, rfl, fun y hy => ?_⟩
    have hm : mayB (decW w) = true := (decW_zero_or w).elim (fun e => absurd (by rw [e]; rfl) h) (·.1)
    have hp := may_parts hm
    have hn := name_back ⟨hp.1, hp.2.1⟩
    rcases List.mem_cons.1 hy with rfl | hy
    · exact ⟨hn.2.2.1, fun c hc => .inr (.inr (hn.2.2.2.1 c hc)), by omega⟩
    · obtain ⟨x, -, rfl⟩ := List.mem_map.1 hy
      exact ⟨(part_ink _ x).1, (part_ink _ x).2, part_short w x⟩
theorem wds_words (w : Int) (h0 : 0 ≤ w) (h1 : w < 4294967296) : wordsL (printL w) = wdsL w := by
  obtain ⟨x, r, e, h⟩ := wds_ink w h0 h1
  rw [print_join, e]
  rw [e] at h
  exact words_join x r ⟨(h x (List.mem_cons_self ..)).1, fun c hc => (ink_not ((h x (List.mem_cons_self ..)).2.1 c hc)).1⟩ (fun y hy => ⟨(h y (List.mem_cons_of_mem _ hy)).1, fun c hc => (ink_not ((h y (List.mem_cons_of_mem _ hy)).2.1 c hc)).1⟩)
theorem readP_cons (a : List UInt8) (r : List (List UInt8)) : readP (a :: r) = if a = wordTx then rawR (rawW (r.headD [])) r.tail else insR (argsP (opAt a) (formAt (opAt a)) ⟨opAt a, 0, 0, 0, 0⟩ [] r) := rfl
theorem raw_digits (w : Int) (h0 : 0 ≤ w) (h1 : w < 4294967296) : rawW (decDigits w.toNat) = some w := by
  unfold rawW
  rw [int_digits w.toNat (by omega), Int.toNat_of_nonneg h0]
  exact if_pos ⟨h0, h1⟩
/-- WHAT IS PRINTED IS READ AGAIN. -/
theorem read_print (w : Int) (h0 : 0 ≤ w) (h1 : w < 4294967296) : readP (wordsL (printL w)) = some (w, []) := by
  rw [wds_words w h0 h1]
  unfold wdsL
  by_cases h : (decW w).op = 0
  · rw [if_pos h, readP_cons, if_pos rfl]
    show rawR (rawW (decDigits w.toNat)) [] = _
    rw [raw_digits w h0 h1]
    rfl
  · rw [if_neg h]
    have hm := (decW_zero_or w).elim (fun e => absurd (by rw [e]; rfl) h) id
    have hp := may_parts hm.1
    have hn := name_back ⟨hp.1, hp.2.1⟩
    unfold partsL
    rw [readP_cons, if_neg hn.2.1, hn.1, args_parts (decW w) (may_val hm.1), set_all hm.1]
    unfold insR
    simp only
    rw [if_pos ⟨hm.1, trivial⟩, hm.2]
theorem line_print (w : Int) (h0 : 0 ≤ w) (h1 : w < 4294967296) : lineV (printL w) = (w, 0) := by
  unfold lineV
  rw [read_print w h0 h1]
  simp
end Go.Proofs.YtdkggahkfheocaaGreatDoor
