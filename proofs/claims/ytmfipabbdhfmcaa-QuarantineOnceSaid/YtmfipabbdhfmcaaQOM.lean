/- Plain mathematics of QuarantineOnce: rows of regions of one granule, as a state tells. No statement is proved here. -/
import Derived.Test.YtmfipabbdhfmcaaQuM
namespace Go.Proofs.Ytmfipabbdhfmcaa.Qu
set_option maxRecDepth 100000
set_option linter.unusedVariables false
/-- The regions whose state is c. -/
def rowN (st : Nat → Nat) (c : Nat) : List Rg := ((List.range 200).filter fun x => decide (st x = c)).map fun x => (16 * x, 16)
theorem rowN_mem {st : Nat → Nat} {c : Nat} {r : Rg} : r ∈ rowN st c ↔ ∃ x, x < 200 ∧ st x = c ∧ r = (16 * x, 16) := by
  unfold rowN
  simp only [List.mem_map, List.mem_filter, List.mem_range, decide_eq_true_eq]
  constructor
  · rintro ⟨x, ⟨h1, h2⟩, rfl⟩; exact ⟨x, h1, h2, rfl⟩
  · rintro ⟨x, h1, h2, rfl⟩; exact ⟨x, ⟨h1, h2⟩, rfl⟩
theorem rowN_asc (st : Nat → Nat) (c : Nat) : Asc (rowN st c) := by
  unfold rowN Asc
  refine List.pairwise_map.2 ?_
  refine List.Pairwise.filter _ ?_
  refine List.pairwise_lt_range.imp ?_
  intro a b h
  show 16 * a < 16 * b
  omega
theorem asc_ext : ∀ {l m : List Rg}, Asc l → Asc m → (∀ r, r ∈ l ↔ r ∈ m) → l = m
  | [], [], _, _, _ => rfl
  | [], b :: m, _, _, h => by have := (h b).2 (.head _); cases this
  | a :: l, [], _, _, h => by have := (h a).1 (.head _); cases this
  | a :: l, b :: m, hl, hm, h => by
    obtain ⟨l1, l2⟩ := List.pairwise_cons.1 hl
    obtain ⟨m1, m2⟩ := List.pairwise_cons.1 hm
    have hab : a = b := by
      rcases List.mem_cons.1 ((h a).1 (.head _)) with e | e
      · exact e
      · rcases List.mem_cons.1 ((h b).2 (.head _)) with e2 | e2
        · exact e2.symm
        · have := m1 a e; have := l1 b e2; omega
    subst hab
    rw [asc_ext l2 m2 fun r => ⟨fun hr => by
      rcases List.mem_cons.1 ((h r).1 (.tail _ hr)) with e | e
      · have := l1 r hr; rw [e] at this; omega
      · exact e, fun hr => by
      rcases List.mem_cons.1 ((h r).2 (.tail _ hr)) with e | e
      · have := m1 r hr; rw [e] at this; omega
      · exact e⟩]
def updN (st : Nat → Nat) (x c : Nat) (k : Nat) : Nat := if k = x then c else st k
theorem okF_row {st : Nat → Nat} (h2 : ∀ x, st x ≤ 2) {x : Nat} (hx : x < 200) : okF 256 (rowN st 1 ++ rowN st 2) (16 * x, 16) = decide (st x = 0) := by
  rw [Bool.eq_iff_iff, decide_eq_true_eq]
  unfold okF
  rw [Bool.and_eq_true, okA_iff, Bool.not_eq_true']
  dsimp only
  constructor
  · rintro ⟨_, h⟩
    have := h2 x
    rcases Nat.eq_zero_or_pos (st x) with e | e
    · exact e
    · exfalso
      have hm : (16 * x, 16) ∈ rowN st 1 ++ rowN st 2 := by
        rcases (show st x = 1 ∨ st x = 2 by omega) with e1 | e1
        · exact List.mem_append_left _ (rowN_mem.2 ⟨x, hx, e1, rfl⟩)
        · exact List.mem_append_right _ (rowN_mem.2 ⟨x, hx, e1, rfl⟩)
      have := (mt_iff (r := ((16 * x, 16) : Rg))).2 ⟨_, hm, by dsimp only; omega⟩
      rw [this] at h
      cases h
  · intro h0
    refine ⟨⟨by omega, by omega, by omega, by omega⟩, ?_⟩
    cases e : mt (rowN st 1 ++ rowN st 2) (16 * x, 16) with
    | false => rfl
    | true =>
      obtain ⟨q, hq, hc⟩ := mt_iff.1 e
      rcases List.mem_append.1 hq with hq | hq
      · obtain ⟨z, hz, h1, rfl⟩ := rowN_mem.1 hq
        dsimp only at hc
        obtain rfl : z = x := by omega
        omega
      · obtain ⟨z, hz, h1, rfl⟩ := rowN_mem.1 hq
        dsimp only at hc
        obtain rfl : z = x := by omega
        omega
theorem ins_row {st : Nat → Nat} {x : Nat} (hx : x < 200) (h0 : st x = 0) : insR (16 * x, 16) (rowN st 1) = rowN (updN st x 1) 1 ∧ rowN st 2 = rowN (updN st x 1) 2 := by
  constructor
  · refine asc_ext (insR_asc (rowN_asc _ _) fun q hq => ?_) (rowN_asc _ _) fun r => ?_
    · obtain ⟨z, hz, h1, rfl⟩ := rowN_mem.1 hq
      show 16 * z ≠ 16 * x
      intro e
      obtain rfl : z = x := by omega
      omega
    · rw [insR_mem, rowN_mem, rowN_mem]
      constructor
      · rintro (rfl | ⟨z, hz, h1, rfl⟩)
        · exact ⟨x, hx, by unfold updN; rw [if_pos rfl], rfl⟩
        · refine ⟨z, hz, ?_, rfl⟩
          unfold updN
          split
          · rfl
          · exact h1
      · rintro ⟨z, hz, h1, rfl⟩
        unfold updN at h1
        split at h1
        · rename_i e; subst e; exact .inl rfl
        · exact .inr ⟨z, hz, h1, rfl⟩
  · refine asc_ext (rowN_asc _ _) (rowN_asc _ _) fun r => ?_
    rw [rowN_mem, rowN_mem]
    constructor
    · rintro ⟨z, hz, h1, rfl⟩
      refine ⟨z, hz, ?_, rfl⟩
      unfold updN
      rw [if_neg (by rintro rfl; omega)]
      exact h1
    · rintro ⟨z, hz, h1, rfl⟩
      unfold updN at h1
      split at h1
      · omega
      · exact ⟨z, hz, h1, rfl⟩
/-- What a beginning, and an end, make of the first k. -/
def stB (st : Nat → Nat) (k j : Nat) : Nat := if j < k ∧ st j = 1 then 2 else st j
def stE (st : Nat → Nat) (k j : Nat) : Nat := if j < k ∧ st j = 2 then 0 else st j
theorem stB_zero (st : Nat → Nat) : ∀ j, st j = stB st 0 j := fun j => by unfold stB; rw [if_neg (by omega)]
theorem stE_zero (st : Nat → Nat) : ∀ j, st j = stE st 0 j := fun j => by unfold stE; rw [if_neg (by omega)]
theorem stB_at (st : Nat → Nat) (k : Nat) : stB st k k = st k := by unfold stB; rw [if_neg (by omega)]
theorem stE_at (st : Nat → Nat) (k : Nat) : stE st k k = st k := by unfold stE; rw [if_neg (by omega)]
theorem stB_yes {st : Nat → Nat} {k : Nat} (h : st k = 1) (j : Nat) : updN (stB st k) k 2 j = stB st (k + 1) j := by
  unfold updN stB
  by_cases e : j = k
  · subst e; rw [if_pos rfl, if_pos ⟨by omega, h⟩]
  · rw [if_neg e]
    by_cases e2 : j < k ∧ st j = 1
    · rw [if_pos e2, if_pos ⟨by omega, e2.2⟩]
    · rw [if_neg e2, if_neg (fun h => e2 ⟨by omega, h.2⟩)]
theorem stB_not {st : Nat → Nat} {k : Nat} (h : ¬ st k = 1) (j : Nat) : stB st k j = stB st (k + 1) j := by
  unfold stB
  by_cases e2 : j < k ∧ st j = 1
  · rw [if_pos e2, if_pos ⟨by omega, e2.2⟩]
  · rw [if_neg e2, if_neg (fun h3 => e2 ⟨by
      have : j ≠ k := fun e => h (e ▸ h3.2)
      omega, h3.2⟩)]
theorem stE_yes {st : Nat → Nat} {k : Nat} (h : st k = 2) (j : Nat) : updN (stE st k) k 0 j = stE st (k + 1) j := by
  unfold updN stE
  by_cases e : j = k
  · subst e; rw [if_pos rfl, if_pos ⟨by omega, h⟩]
  · rw [if_neg e]
    by_cases e2 : j < k ∧ st j = 2
    · rw [if_pos e2, if_pos ⟨by omega, e2.2⟩]
    · rw [if_neg e2, if_neg (fun h => e2 ⟨by omega, h.2⟩)]
theorem stE_not {st : Nat → Nat} {k : Nat} (h : ¬ st k = 2) (j : Nat) : stE st k j = stE st (k + 1) j := by
  unfold stE
  by_cases e2 : j < k ∧ st j = 2
  · rw [if_pos e2, if_pos ⟨by omega, e2.2⟩]
  · rw [if_neg e2, if_neg (fun h3 => e2 ⟨by
      have : j ≠ k := fun e => h (e ▸ h3.2)
      omega, h3.2⟩)]
theorem row_begin {st : Nat → Nat} (h : rowN st 2 = []) : [] = rowN (stB st 200) 1 ∧ rowN st 1 = rowN (stB st 200) 2 := by
  have hno : ∀ z, z < 200 → st z ≠ 2 := fun z hz e => by
    have := rowN_mem.2 ⟨z, hz, e, rfl⟩
    rw [h] at this
    cases this
  constructor
  · refine asc_ext List.Pairwise.nil (rowN_asc _ _) fun r => ⟨fun hr => (by cases hr), fun hr => ?_⟩
    obtain ⟨z, hz, h1, rfl⟩ := rowN_mem.1 hr
    unfold stB at h1
    split at h1
    · omega
    · rename_i e; exact absurd ⟨hz, h1⟩ e
  · refine asc_ext (rowN_asc _ _) (rowN_asc _ _) fun r => ?_
    rw [rowN_mem, rowN_mem]
    constructor
    · rintro ⟨z, hz, h1, rfl⟩
      exact ⟨z, hz, by unfold stB; rw [if_pos ⟨hz, h1⟩], rfl⟩
    · rintro ⟨z, hz, h1, rfl⟩
      unfold stB at h1
      split at h1
      · rename_i e; exact ⟨z, hz, e.2, rfl⟩
      · exact absurd h1 (hno z hz)
theorem row_end {st : Nat → Nat} : rowN st 1 = rowN (stE st 200) 1 ∧ [] = rowN (stE st 200) 2 := by
  constructor
  · refine asc_ext (rowN_asc _ _) (rowN_asc _ _) fun r => ?_
    rw [rowN_mem, rowN_mem]
    constructor
    · rintro ⟨z, hz, h1, rfl⟩
      exact ⟨z, hz, by unfold stE; rw [if_neg (by omega)]; exact h1, rfl⟩
    · rintro ⟨z, hz, h1, rfl⟩
      unfold stE at h1
      split at h1
      · omega
      · exact ⟨z, hz, h1, rfl⟩
  · refine asc_ext List.Pairwise.nil (rowN_asc _ _) fun r => ⟨fun hr => (by cases hr), fun hr => ?_⟩
    obtain ⟨z, hz, h1, rfl⟩ := rowN_mem.1 hr
    unfold stE at h1
    split at h1
    · omega
    · rename_i e; exact absurd ⟨hz, h1⟩ e
theorem stB_le {st : Nat → Nat} (h : ∀ x, st x ≤ 2) (k j : Nat) : stB st k j ≤ 2 := by
  unfold stB; split
  · omega
  · exact h j
theorem stE_le {st : Nat → Nat} (h : ∀ x, st x ≤ 2) (k j : Nat) : stE st k j ≤ 2 := by
  unfold stE; split
  · omega
  · exact h j
theorem updN_le {st : Nat → Nat} (h : ∀ x, st x ≤ 2) {c : Nat} (hc : c ≤ 2) (k j : Nat) : updN st k c j ≤ 2 := by
  unfold updN; split
  · exact hc
  · exact h j
/-- How many of the first k are of state c. -/
def cntN (st : Nat → Nat) (c k : Nat) : Nat := ((List.range k).filter fun x => decide (st x = c)).length
theorem cntN_all (st : Nat → Nat) (c : Nat) : (rowN st c).length = cntN st c 200 := by unfold rowN cntN; rw [List.length_map]
theorem cntN_yes {st : Nat → Nat} {c k : Nat} (h : st k = c) : cntN st c (k + 1) = cntN st c k + 1 := by
  unfold cntN
  rw [List.range_succ, List.filter_append, List.length_append]
  simp [h]
theorem cntN_not {st : Nat → Nat} {c k : Nat} (h : ¬ st k = c) : cntN st c (k + 1) = cntN st c k := by
  unfold cntN
  rw [List.range_succ, List.filter_append, List.length_append]
  simp [h]
theorem cntN_le (st : Nat → Nat) (c k : Nat) : cntN st c k ≤ k := by
  unfold cntN
  exact Nat.le_trans (List.length_filter_le _ _) (by rw [List.length_range]; exact Nat.le_refl _)
theorem cntN_lt {st : Nat → Nat} {c k : Nat} (hk : k < 200) (h : st k = c) : cntN st c k < (rowN st c).length := by
  rw [cntN_all]
  have : ∀ m, k < m → cntN st c k < cntN st c m := by
    intro m
    induction m with
    | zero => intro h; omega
    | succ m ih =>
      intro hm
      by_cases e : m = k
      · subst e; rw [cntN_yes h]; omega
      · have := ih (by omega)
        by_cases e2 : st m = c
        · rw [cntN_yes e2]; omega
        · rw [cntN_not e2]; exact this
  exact this 200 hk
theorem row_get {st : Nat → Nat} {c k : Nat} (hk : k < 200) (h : st k = c) : (rowN st c)[cntN st c k]'(cntN_lt hk h) = (16 * k, 16) := by
  have hsplit : rowN st c = ((List.range k).filter fun x => decide (st x = c)).map (fun x => (16 * x, 16)) ++ (16 * k, 16) :: (((List.range (200 - k - 1)).map (k + 1 + ·)).filter fun x => decide (st x = c)).map (fun x => (16 * x, 16)) := by
    have hr : List.range 200 = List.range k ++ k :: (List.range (200 - k - 1)).map (k + 1 + ·) := by
      have e1 : List.range 200 = List.range (k + 1) ++ (List.range (200 - k - 1)).map (k + 1 + ·) := by rw [← List.range_add]; congr 1; omega
      rw [e1, List.range_succ, List.append_assoc]
      rfl
    unfold rowN
    rw [hr, List.filter_append, List.map_append, List.filter_cons_of_pos (by simpa using h)]
    rfl
  rw [List.getElem_of_eq hsplit]
  have hl : cntN st c k = (((List.range k).filter fun x => decide (st x = c)).map fun x => ((16 * x, 16) : Rg)).length := by unfold cntN; rw [List.length_map]
  simp only [hl]
  rw [List.getElem_append_right (Nat.le_refl _)]
  simp
end Go.Proofs.Ytmfipabbdhfmcaa.Qu
