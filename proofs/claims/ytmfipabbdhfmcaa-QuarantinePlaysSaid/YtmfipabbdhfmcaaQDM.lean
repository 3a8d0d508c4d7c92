/- Plain mathematics of QuarantineDrains: a yard's steps, and what was there ahead of a ticket. No statement is proved here. -/
import Derived.Test.YtmfipabbdhfmcaaQuE
namespace Go.Proofs.Ytmfipabbdhfmcaa.Qu
set_option maxRecDepth 100000
set_option linter.unusedVariables false
/-- A yard's state. -/
structure QS where
  W : List Rg
  B : List Rg
  e : Nat
  sw : Bool
/-- One of the law's steps. -/
def stp (x : Nat) (s : QS) : QS :=
  if x < 200 then ⟨if okF 256 (s.W ++ s.B) (16 * x, 16) then insR (16 * x, 16) s.W else s.W, s.B, s.e, s.sw⟩
  else if x < 228 then (if s.sw then s else ⟨[], s.W, s.e + 1, true⟩) else ⟨s.W, [], s.e, false⟩
/-- Regions of one granule. -/
def Un (X : List Rg) : Prop := ∀ o ∈ X, ∃ x, x < 200 ∧ o = (16 * x, 16)
theorem okF_unit {X : List Rg} (h : Un X) {x : Nat} (hx : x < 200) (hn : (16 * x, 16) ∉ X) : okF 256 X (16 * x, 16) = true := by
  unfold okF
  rw [Bool.and_eq_true, okA_iff, Bool.not_eq_true']
  refine ⟨⟨by dsimp only; omega, by dsimp only, by dsimp only; omega, by dsimp only; omega⟩, ?_⟩
  cases e : mt X (16 * x, 16) with
  | false => rfl
  | true =>
    obtain ⟨q, hq, hc⟩ := mt_iff.1 e
    obtain ⟨z, hz, rfl⟩ := h q hq
    dsimp only at hc
    obtain rfl : z = x := by omega
    exact absurd hq hn
/-- What is there: freed behind the ticket, or there ahead of it, and where then. -/
structure DInv (s0 : QS) (P : Rg → Prop) (s : QS) : Prop where
  w : ∀ o ∈ s.W, P o ∨ (o ∈ s0.W ∧ s.e = s0.e)
  b : ∀ o ∈ s.B, P o ∨ (o ∈ s0.B ∧ s.e = s0.e) ∨ (o ∈ s0.W ∧ s.e = s0.e + 1)
  u : Un (s.W ++ s.B)
theorem DInv.start {s0 : QS} (h : Un (s0.W ++ s0.B)) (P : Rg → Prop) : DInv s0 P s0 := ⟨fun o ho => .inr ⟨ho, rfl⟩, fun o ho => .inr (.inl ⟨ho, rfl⟩), h⟩
theorem DInv.step {s0 s : QS} {P Q : Rg → Prop} (H : DInv s0 P s) (x : Nat) (hP : ∀ o, P o → Q o) (hx : x < 200 → Q (16 * x, 16)) (hB : s.sw = false → s.B = []) : DInv s0 Q (stp x s) := by
  obtain ⟨hw, hb, hu⟩ := H
  unfold stp
  split
  · rename_i h1
    have hW : ∀ o ∈ (if okF 256 (s.W ++ s.B) (16 * x, 16) then insR (16 * x, 16) s.W else s.W), o = (16 * x, 16) ∨ o ∈ s.W := by
      intro o ho
      split at ho
      · exact (insR_mem _ _ _).1 ho
      · exact .inr ho
    refine ⟨fun o ho => ?_, fun o ho => (hb o ho).imp (hP o) id, fun o ho => ?_⟩
    · rcases hW o ho with rfl | h
      · exact .inl (hx h1)
      · exact (hw o h).imp (hP o) id
    · rcases List.mem_append.1 ho with h | h
      · rcases hW o h with rfl | h
        · exact ⟨x, h1, rfl⟩
        · exact hu o (List.mem_append_left _ h)
      · exact hu o (List.mem_append_right _ h)
  · split
    · split
      · exact ⟨fun o ho => (hw o ho).imp (hP o) id, fun o ho => (hb o ho).imp (hP o) id, hu⟩
      · refine ⟨fun o ho => (by cases ho), fun o ho => ?_, fun o ho => hu o (List.mem_append_left _ (by simpa using ho))⟩
        rcases hw o ho with h | ⟨h1, h2⟩
        · exact .inl (hP o h)
        · exact .inr (.inr ⟨h1, by dsimp only; omega⟩)
    · exact ⟨fun o ho => (hw o ho).imp (hP o) id, fun o ho => (by cases ho), fun o ho => hu o (List.mem_append_left _ (by simpa using ho))⟩
/-- Once the ticket is done, all that is there was freed behind it. -/
theorem DInv.done {s0 s : QS} {P : Rg → Prop} (H : DInv s0 P s) (h1 : s0.sw = true → 1 ≤ s0.e) (h2 : s0.sw = false → s0.B = []) (h3 : s.sw = false → s.B = []) (h4 : s.sw = true → 1 ≤ s.e) (hd : tickN s0.W s0.B s0.e s0.sw ≤ endN s.e s.sw) : ∀ o ∈ s.W ++ s.B, P o := by
  intro o ho
  rcases List.mem_append.1 ho with ho | ho
  · rcases H.w o ho with h | ⟨h, he⟩
    · exact h
    · exfalso
      have hl : 0 < s0.W.length := List.length_pos_of_mem h
      unfold tickN at hd
      rw [if_pos hl] at hd
      unfold endN at hd
      split at hd <;> omega
  · have hsw : s.sw = true := by
      cases e : s.sw with
      | true => rfl
      | false => rw [h3 e] at ho; cases ho
    rw [hsw] at hd
    have he1 := h4 hsw
    unfold endN at hd
    rw [if_pos rfl] at hd
    rcases H.b o ho with h | ⟨h, he⟩ | ⟨h, he⟩
    · exact h
    · exfalso
      have hl : 0 < s0.B.length := List.length_pos_of_mem h
      unfold tickN at hd
      rw [if_pos hl] at hd
      split at hd <;> omega
    · exfalso
      have hl : 0 < s0.W.length := List.length_pos_of_mem h
      unfold tickN at hd
      rw [if_pos hl] at hd
      omega
/-- How many have ended: one more just if a sweep was under way, and is not. -/
theorem endN_step (x : Nat) (s : QS) (h4 : s.sw = true → 1 ≤ s.e) : endN (stp x s).e (stp x s).sw = endN s.e s.sw + (s.sw && !(stp x s).sw).toNat := by
  obtain ⟨Wt, Bt, e, sw⟩ := s
  dsimp only at h4
  unfold stp endN
  dsimp only
  by_cases hx : x < 200
  · rw [if_pos hx]
    cases sw <;> simp
  · rw [if_neg hx]
    by_cases hx2 : x < 228
    · rw [if_pos hx2]
      cases sw <;> simp
    · rw [if_neg hx2]
      cases sw
      · simp
      · have := h4 rfl
        simp
        omega
theorem tick_le {Wt Bt : List Rg} {e : Nat} {sw : Bool} (h1 : sw = true → 1 ≤ e) (h2 : sw = false → Bt = []) : endN e sw ≤ tickN Wt Bt e sw ∧ tickN Wt Bt e sw ≤ endN e sw + 2 := by
  unfold tickN endN
  cases sw
  · rw [h2 rfl]
    simp only [List.length_nil, Nat.lt_irrefl, if_false, Bool.false_eq_true]
    split <;> omega
  · have := h1 rfl
    simp only [if_true]
    split
    · omega
    · split <;> omega
theorem tick_none {e : Nat} {sw : Bool} : tickN [] [] e sw = endN e sw := rfl
theorem stp_e (x : Nat) (s : QS) : (stp x s).e ≤ s.e + 1 := by
  unfold stp
  split
  · exact Nat.le_succ _
  · split
    · split
      · exact Nat.le_succ _
      · exact Nat.le_refl _
    · exact Nat.le_succ _
end Go.Proofs.Ytmfipabbdhfmcaa.Qu
