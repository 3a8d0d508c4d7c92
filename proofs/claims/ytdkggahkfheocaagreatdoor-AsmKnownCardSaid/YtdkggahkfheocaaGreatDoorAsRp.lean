/- Plain words for layer asm: all blanks of a text replaced. No statement is proved here. -/
import Derived.Test.YtdkggahkfheocaaGreatDoorAsBr
import Derived.Lib.Replace
import Derived.Lib.Repeat
namespace Go.Proofs.YtdkggahkfheocaaGreatDoor
set_option maxRecDepth 100000
open Go.RowKit Go.Lib
set_option linter.unusedVariables false

theorem first_of (c : UInt8) (s : List UInt8) (h : c ∈ s) : ∃ a b, s = a ++ c :: b ∧ ∀ x, x ∈ a → x ≠ c := by
  induction s with
  | nil => cases h
  | cons d l ih =>
    by_cases hc : d = c
    · subst hc; exact ⟨[], l, rfl, fun x hx => by cases hx⟩
    · rcases List.mem_cons.1 h with e | hl
      · exact absurd e.symm hc
      · obtain ⟨a, b, rfl, ha⟩ := ih hl
        exact ⟨d :: a, b, rfl, fun x hx => by
          rcases List.mem_cons.1 hx with rfl | hx
          · exact hc
          · exact ha x hx⟩
theorem index_of (c : UInt8) (a b : List UInt8) (ha : ∀ x, x ∈ a → x ≠ c) : index (a ++ c :: b) [c] = (a.length : Int) := by
  refine index_first (by simp) ?_ (fun j hj => ?_)
  · unfold occAt
    rw [List.drop_left]
    simp
  · unfold occAt
    have h1 := ha a[j] (List.getElem_mem hj)
    have h2 : (a ++ c :: b).drop j = a[j] :: (a ++ c :: b).drop (j + 1) := by
      rw [List.drop_eq_getElem_cons (by simp; omega), List.getElem_append_left hj]
    rw [h2]
    have h3 : (c == a[j]) = false := by simpa using Ne.symm h1
    show (c == a[j] && _) = false
    rw [h3]; rfl
theorem trip_none (l : List UInt8) (h : ∀ x, x ∈ l → x ≠ 32) : tripL l = l := by
  induction l with
  | nil => rfl
  | cons c l ih =>
    have e : tripL (c :: l) = (if c = 32 then [32, 32, 32] else [c]) ++ tripL l := by simp [tripL]
    rw [e, if_neg (h c (List.mem_cons_self ..)), ih (fun x hx => h x (List.mem_cons_of_mem _ hx))]
    rfl
theorem trip_app (a b : List UInt8) : tripL (a ++ b) = tripL a ++ tripL b := by simp [tripL]
theorem rep_is (k : Nat) : ∀ (s : List UInt8), s.count 32 = k → replaceK [32] [32, 32, 32] k s = tripL s := by
  induction k with
  | zero =>
    intro s h
    rw [trip_none s (fun x hx e => by subst e; have := List.count_pos_iff.2 hx; omega)]
    rfl
  | succ k ih =>
    intro s h
    obtain ⟨a, b, rfl, ha⟩ := first_of 32 s (List.count_pos_iff.1 (by omega))
    have hca : a.count 32 = 0 := List.count_eq_zero.2 (fun hm => ha 32 hm rfl)
    have hcb : b.count 32 = k := by
      rw [List.count_append, hca, List.count_cons_self] at h; omega
    rw [replaceK_hit [32] [32, 32, 32] k _ a.length (index_of 32 a b ha), trip_app, trip_none a ha]
    have e2 : tripL (32 :: b) = [32, 32, 32] ++ tripL b := by simp [tripL]
    rw [e2]
    have e3 : (a ++ 32 :: b).drop (a.length + ([32] : List UInt8).length) = b := by
      rw [show a ++ 32 :: b = (a ++ [32]) ++ b by simp, List.drop_left' (by simp)]
    rw [e3, ih b hcb]
    simp
theorem rep_all (s : List UInt8) : replaceAll s [32] [32, 32, 32] = tripL s := by
  unfold replaceAll replace
  rw [if_neg (by decide)]
  unfold replaceNum
  rw [if_pos (.inl (by decide))]
  rw [show count s [32] = s.count 32 from count_one 32 s]
  exact rep_is _ s rfl
theorem rep_rets (n : Nat) (l : List UInt8) : repeatL l n = (List.replicate n l).flatten := by
  induction n with
  | zero => rfl
  | succ n ih => rw [repeatL, ih, List.replicate_succ, List.flatten_cons]
end Go.Proofs.YtdkggahkfheocaaGreatDoor
