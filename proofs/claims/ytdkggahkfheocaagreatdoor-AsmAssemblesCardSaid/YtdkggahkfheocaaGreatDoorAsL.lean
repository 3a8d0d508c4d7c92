/- Plain words for layer asm: a source's lines; what its words are. No statement is proved here. -/
import Derived.Test.YtdkggahkfheocaaGreatDoorAsX
import Derived.Lib.SplitLaws
namespace Go.Proofs.YtdkggahkfheocaaGreatDoor
set_option maxRecDepth 100000
open Go.Lib

def linesF (cur : List UInt8) : List UInt8 → List (List UInt8)
  | [] => [cur]
  | c :: l => if c = 10 then cur :: linesF [] l else linesF (cur ++ [c]) l
/-- What stands between line feeds. -/
def linesL (t : List UInt8) : List (List UInt8) := linesF [] t
/-- The words of a source; or what is wrong, and where. -/
def asmL (t : List UInt8) : Except (Int × Nat) (List Int) :=
  if 32768 < t.length then .error (3, 0)
  else match takeAll ⟨[], []⟩ 0 ((linesL t).map bareL) with
    | .error e => .error e
    | .ok st => linkAll st.labs 0 st.its
theorem linesF_app : ∀ (a cur l : List UInt8), (∀ x, x ∈ a → x ≠ 10) → linesF cur (a ++ l) = linesF (cur ++ a) l
  | [], cur, l, _ => by simp
  | c :: a, cur, l, h => by
    rw [List.cons_append, linesF, if_neg (h c (List.mem_cons_self ..)), linesF_app a _ l (fun x hx => h x (List.mem_cons_of_mem _ hx)), List.append_assoc, List.singleton_append]
theorem lines_none (a : List UInt8) (h : ∀ x, x ∈ a → x ≠ 10) : linesL a = [a] := by
  have := linesF_app a [] [] h
  rw [List.append_nil, List.nil_append] at this
  exact this
theorem lines_cut (a b : List UInt8) (h : ∀ x, x ∈ a → x ≠ 10) : linesL (a ++ 10 :: b) = a :: linesL b := by
  unfold linesL
  rw [linesF_app a [] _ h, List.nil_append, linesF, if_pos rfl]
theorem first_feed (s : List UInt8) (h : 10 ∈ s) : ∃ a b, s = a ++ 10 :: b ∧ ∀ x, x ∈ a → x ≠ 10 := by
  induction s with
  | nil => cases h
  | cons c l ih =>
    by_cases hc : c = 10
    · subst hc; exact ⟨[], l, rfl, fun x hx => by cases hx⟩
    · rcases List.mem_cons.1 h with e | hl
      · exact absurd e.symm hc
      · obtain ⟨a, b, rfl, ha⟩ := ih hl
        exact ⟨c :: a, b, rfl, fun x hx => by
          rcases List.mem_cons.1 hx with rfl | hx
          · exact hc
          · exact ha x hx⟩
theorem index_feed (a b : List UInt8) (ha : ∀ x, x ∈ a → x ≠ 10) : index (a ++ 10 :: b) [10] = (a.length : Int) := by
  refine index_first (by simp) ?_ (fun j hj => ?_)
  · unfold occAt
    rw [List.drop_left]
    simp
  · unfold occAt
    have h1 := ha a[j] (List.getElem_mem hj)
    have h2 : (a ++ 10 :: b).drop j = a[j] :: (a ++ 10 :: b).drop (j + 1) := by
      rw [List.drop_eq_getElem_cons (by simp; omega), List.getElem_append_left hj]
    rw [h2]
    have h3 : ((10 : UInt8) == a[j]) = false := by simpa using Ne.symm h1
    show ((10 : UInt8) == a[j] && _) = false
    rw [h3]; rfl
theorem split_is (k : Nat) : ∀ (s : List UInt8), s.count 10 = k → splitK [10] 0 k s = linesL s := by
  induction k with
  | zero =>
    intro s h
    rw [lines_none s (fun x hx e => by subst e; have := List.count_pos_iff.2 hx; omega)]
    rfl
  | succ k ih =>
    intro s h
    obtain ⟨a, b, rfl, ha⟩ := first_feed s (List.count_pos_iff.1 (by omega))
    have hca : a.count 10 = 0 := List.count_eq_zero.2 (fun hm => ha 10 hm rfl)
    have hcb : b.count 10 = k := by
      rw [List.count_append, hca, List.count_cons_self] at h; omega
    rw [lines_cut a b ha, splitK, index_feed a b ha]
    have hne : ¬ ((a.length : Int) == -1) = true := by simp
    rw [if_neg hne]
    congr 1
    · simp
    · rw [← ih b hcb]
      congr 1
      simp
theorem lines_split (t : List UInt8) : (splitB ⟨#[10]⟩ 0 (countB ⟨t.toArray⟩ ⟨#[10]⟩) ⟨t.toArray⟩) = (linesL t).map fun l => (⟨l.toArray⟩ : ByteArray) := by
  have h := splitB_data ⟨#[10]⟩ 0 (countB ⟨t.toArray⟩ ⟨#[10]⟩) ⟨t.toArray⟩
  have e : countB ⟨t.toArray⟩ ⟨#[10]⟩ = t.count 10 := count_one 10 t
  have h2 : (splitB ⟨#[10]⟩ 0 (countB ⟨t.toArray⟩ ⟨#[10]⟩) ⟨t.toArray⟩).map (·.data.toList) = linesL t := by
    rw [h, e]
    exact split_is _ t rfl
  rw [← h2, List.map_map]
  conv => lhs; rw [← List.map_id (splitB ⟨#[10]⟩ 0 (countB ⟨t.toArray⟩ ⟨#[10]⟩) ⟨t.toArray⟩)]
  exact List.map_congr_left fun x _ => (Lib.mk_data x).symm
theorem lines_len (t : List UInt8) : (linesL t).length = t.count 10 + 1 := by
  have h := splitB_all ⟨#[10]⟩ (by decide) 0 (countB ⟨t.toArray⟩ ⟨#[10]⟩) ⟨t.toArray⟩ rfl
  rw [lines_split, List.length_map] at h
  rw [h]
  congr 1
  exact count_one 10 t
theorem linesF_mem : ∀ (t cur l : List UInt8), l ∈ linesF cur t → l.length ≤ cur.length + t.length
  | [], cur, l, h => by
    simp only [linesF, List.mem_singleton] at h
    subst h; simp
  | c :: t, cur, l, h => by
    simp only [linesF] at h
    split at h
    · rcases List.mem_cons.1 h with rfl | h
      · simp only [List.length_cons]; omega
      · have := linesF_mem t [] l h
        simp only [List.length_nil, List.length_cons] at this ⊢
        omega
    · have := linesF_mem t (cur ++ [c]) l h
      simp only [List.length_append, List.length_cons, List.length_nil] at this ⊢
      omega
theorem lines_mem (t l : List UInt8) (h : l ∈ linesL t) : l.length ≤ t.length := by
  have := linesF_mem t [] l h
  simpa using this
theorem argsP_lab (op : Int) : ∀ (f : List UInt8) (i : Ins) (lab : List UInt8) (ts : List (List UInt8)) (i' : Ins) (lab' : List UInt8) (r : List (List UInt8)), argsP op f i lab ts = some (i', lab', r) → lab' = lab ∨ nameB lab' = true
  | [], i, lab, ts, i', lab', r, h => by
    simp only [argsP, Option.some.injEq, Prod.mk.injEq] at h
    exact .inl h.2.1.symm
  | x :: f, i, lab, ts, i', lab', r, h => by
    simp only [argsP] at h
    split at h
    · rename_i hc
      rcases argsP_lab op f _ _ _ _ _ _ h with e | e
      · exact .inr (by rw [e]; exact hc.2.2)
      · exact .inr e
    · split at h
      · cases h
      · exact argsP_lab op f _ _ _ _ _ _ h
theorem readP_lab {ts : List (List UInt8)} {w : Int} {lab : List UInt8} (h : readP ts = some (w, lab)) : lab = [] ∨ nameB lab = true := by
  unfold readP at h
  split at h
  · unfold rawR at h
    split at h
    · split at h
      · exact .inl (Prod.mk.inj (Option.some.inj h)).2.symm
      · cases h
    · cases h
  · unfold insR at h
    split at h
    · rename_i i lab' r hA
      split at h
      · have e := (Prod.mk.inj (Option.some.inj h)).2
        subst e
        exact argsP_lab _ _ _ _ _ _ _ _ hA
      · cases h
    · cases h
theorem name_len32 {l : List UInt8} (h : nameB l = true) : l.length ≤ 32 := by
  unfold nameB at h
  simp only [Bool.and_eq_true, decide_eq_true_iff] at h
  exact h.1.1.2
/-- What has been read is small. -/
structure AS.Ok (st : AS) (k : Nat) : Prop where
  n : st.its.length ≤ 4096
  l : st.labs.length ≤ k
  i : ∀ x, x ∈ st.its → (0 ≤ x.1 ∧ x.1 < 4294967296) ∧ x.2.1.length ≤ 32 ∧ x.2.2 ≤ 40000
  p : ∀ x, x ∈ st.labs → x.2 ≤ 4096
theorem take_ok {st : AS} {k : Nat} (h : st.Ok k) (hk : k ≤ 40000) (l : List UInt8) : (takeL st k l).2.Ok (k + 1) := by
  have h1 : st.Ok (k + 1) := ⟨h.n, by have := h.l; omega, h.i, h.p⟩
  unfold takeL
  split
  · exact h1
  · split
    · split
      · split
        · exact h1
        · exact ⟨h.n, by have := h.l; simp only [List.length_cons]; omega, h.i, fun x hx => by
            rcases List.mem_cons.1 hx with rfl | hx
            · exact h.n
            · exact h.p x hx⟩
      · exact h1
    · split
      · exact h1
      · rename_i w lab hr
        split
        · exact h1
        · rename_i h4
          refine ⟨?_, by have := h.l; simp only; omega, fun x hx => ?_, h.p⟩
          · simp only [List.length_append, List.length_singleton]
            have := h.n; omega
          · rcases List.mem_append.1 hx with hx | hx
            · exact h.i x hx
            · rw [List.mem_singleton] at hx
              subst hx
              refine ⟨readP_low hr, ?_, hk⟩
              rcases readP_lab hr with e | e
              · rw [e]; simp
              · exact name_len32 e
theorem lab_low {labs : List (List UInt8 × Nat)} (h : ∀ x, x ∈ labs → x.2 ≤ 4096) : ∀ {s p}, labF labs s = some p → p ≤ 4096 := by
  induction labs with
  | nil => intro s p hp; cases hp
  | cons a r ih =>
    intro s p hp
    obtain ⟨n, q⟩ := a
    simp only [labF] at hp
    split at hp
    · cases hp; exact h _ (List.mem_cons_self ..)
    · exact ih (fun x hx => h x (List.mem_cons_of_mem _ hx)) hp
theorem linkOne_low {labs : List (List UInt8 × Nat)} {k : Nat} {w : Int} {lab : List UInt8} {n : Nat} {x : Int} (h : linkOne labs k w lab n = .ok x) : 0 ≤ x ∧ x < 4294967296 := by
  unfold linkOne at h
  split at h
  · cases h
  · split at h
    · rename_i hm
      cases h
      exact enc_lt hm
    · cases h
end Go.Proofs.YtdkggahkfheocaaGreatDoor
