/- Contract of the laws' own 'changed', whole. No statement is proved here. -/
import Derived.Test.YthniimefocjamaaDerX
namespace Go.Proofs.Ythniimefocjamaa
open Go.RowKit
set_option linter.unusedVariables false

def Cp.val (c : Cp) : Value := .agg #[.int .u32 c.cu, .int .u8 c.e, .int .u16 c.b, .int .u16 c.t, .int .u16 c.pm, .int .u16 c.ty, .int .u32 c.rs, .bool c.va]
theorem changed_any (wh : Int) (n : Nat) (c y : Cp) (hc : c.fit) (hy : y.fit) (hn : n < 4294967296) (W : World) :
    Calls Try.prog 41 #[.agg #[.int .u32 c.cu, .int .u8 c.e, .int .u16 c.b, .int .u16 c.t, .int .u16 c.pm, .int .u16 c.ty, .int .u32 c.rs, .bool c.va], .agg #[.int .i64 wh, .int .u32 n, .int .u32 y.cu, .int .u8 y.e, .int .u16 y.b, .int .u16 y.t, .int .u16 y.pm, .int .u16 y.ty, .int .u32 y.rs, .bool y.va]] W fun ee w' => ee = .returned (.tuple #[(chg wh n c y).val, c.val]) ∧ Below W.heap.size W w' := by
  obtain ⟨cu, e, b, t, pm, ty, rs, va⟩ := c
  obtain ⟨cu', e', b', t', pm', ty', rs', va'⟩ := y
  obtain ⟨l0, l1, l2, l3, l4, l5, l6⟩ := hc
  obtain ⟨l0', l1', l2', l3', l4', l5', l6'⟩ := hy
  dsimp only at l0 l1 l2 l3 l4 l5 l6 l0' l1' l2' l3' l4' l5' l6'
  unfold chg
  by_cases h0 : wh = 0
  · subst h0
    rw [if_pos rfl]
    exact changed_0 cu e b t pm ty rs va cu' e' b' t' pm' ty' rs' va' n _ _ _ _ _ _ _ _ (fun w => pAddr_any cu e b t pm ty rs va n l0 l1 l2 l3 l4 l5 l6 hn w) W
  by_cases h1 : wh = 1
  · subst h1
    rw [if_neg (by decide), if_pos rfl]
    exact changed_1 cu e b t pm ty rs va cu' e' b' t' pm' ty' rs' va' n _ _ _ _ _ _ _ _ (fun w => pSet_any cu e b t pm ty rs va n l0 l1 l2 l3 l4 l5 l6 hn w) W
  by_cases h2 : wh = 2
  · subst h2
    rw [if_neg (by decide), if_neg (by decide), if_pos rfl]
    exact changed_2 cu e b t pm ty rs va cu' e' b' t' pm' ty' rs' va' n _ _ _ _ _ _ _ _ (fun w => pExact_any cu e b t pm ty rs va n l0 l1 l2 l3 l4 l5 l6 hn w) W
  by_cases h3 : wh = 3
  · subst h3
    rw [if_neg (by decide), if_neg (by decide), if_neg (by decide), if_pos rfl]
    exact changed_3 cu e b t pm ty rs va cu' e' b' t' pm' ty' rs' va' n _ _ _ _ _ _ _ _ (fun w => pAnd_any cu e b t pm ty rs va n l4 w) W
  by_cases h4 : wh = 4
  · subst h4
    rw [if_neg (by decide), if_neg (by decide), if_neg (by decide), if_neg (by decide), if_pos rfl]
    exact changed_4 cu e b t pm ty rs va cu' e' b' t' pm' ty' rs' va' n _ _ _ _ _ _ _ _ (fun w => pSeal_any cu e b t pm ty rs va cu' e' b' t' pm' ty' rs' va' l0' l1' l2' l3' l4' l5' l6' w) W
  by_cases h5 : wh = 5
  · subst h5
    rw [if_neg (by decide), if_neg (by decide), if_neg (by decide), if_neg (by decide), if_neg (by decide), if_pos rfl]
    exact changed_5 cu e b t pm ty rs va cu' e' b' t' pm' ty' rs' va' n _ _ _ _ _ _ _ _ (fun w => pOpens_any cu e b t pm ty rs va cu' e' b' t' pm' ty' rs' va' l5 l0' l1' l2' l3' l4' l5' l6' w) W
  by_cases h6 : wh = 6
  · subst h6
    rw [if_neg (by decide), if_neg (by decide), if_neg (by decide), if_neg (by decide), if_neg (by decide), if_neg (by decide), if_pos rfl]
    exact changed_6 cu e b t pm ty rs va cu' e' b' t' pm' ty' rs' va' n _ _ _ _ _ _ _ _ (fun w => pBuild_any cu' e' b' t' pm' ty' rs' va' cu e b t pm ty rs va l0' l1' l2' l3' l4' l5' l6' l0 l1 l2 l3 l4 l5 l6 w) W
  · rw [if_neg h0, if_neg h1, if_neg h2, if_neg h3, if_neg h4, if_neg h5, if_neg h6]
    exact changed_e cu e b t pm ty rs va cu' e' b' t' pm' ty' rs' va' n _ _ _ _ _ _ _ _ wh (by simpa using h0) (by simpa using h1) (by simpa using h2) (by simpa using h3) (by simpa using h4) (by simpa using h5) (by simpa using h6) (fun w => pClear_any cu e b t pm ty rs va w) W
/-- The contract over names: what comes out is the fields of a capability. -/
theorem changed_to (wh : Int) (n : Nat) (c y : Cp) (hc : c.fit) (hy : y.fit) (hn : n < 4294967296) : ∃ k : Cp, k = chg wh n c y ∧ k.fit ∧ ∀ W : World,
    Calls Try.prog 41 #[.agg #[.int .u32 c.cu, .int .u8 c.e, .int .u16 c.b, .int .u16 c.t, .int .u16 c.pm, .int .u16 c.ty, .int .u32 c.rs, .bool c.va], .agg #[.int .i64 wh, .int .u32 n, .int .u32 y.cu, .int .u8 y.e, .int .u16 y.b, .int .u16 y.t, .int .u16 y.pm, .int .u16 y.ty, .int .u32 y.rs, .bool y.va]] W fun ee w' => ee = .returned (.tuple #[.agg #[.int .u32 k.cu, .int .u8 k.e, .int .u16 k.b, .int .u16 k.t, .int .u16 k.pm, .int .u16 k.ty, .int .u32 k.rs, .bool k.va], .agg #[.int .u32 c.cu, .int .u8 c.e, .int .u16 c.b, .int .u16 c.t, .int .u16 c.pm, .int .u16 c.ty, .int .u32 c.rs, .bool c.va]]) ∧ Below W.heap.size W w' :=
  ⟨_, rfl, chg_fit hc hy hn, fun W => changed_any wh n c y hc hy hn W⟩

/-- Of a sealed capability nothing valid comes but by opening it. -/
theorem chg_sealed {wh : Int} {n : Nat} {c y : Cp} (ht : ¬ c.ty = 0) (hv : (chg wh n c y).va = true) :
    wh = 5 ∧ c.va = true ∧ y.va = true ∧ y.ty = 0 ∧ ¬ y.pm &&& 64 = 0 ∧ y.cu = c.ty ∧ y.lo ≤ (y.cu : Int) ∧ (y.cu : Int) < y.hi ∧ chg wh n c y = ⟨c.cu, c.e, c.b, c.t, c.pm, 0, c.rs, c.va⟩ := by
  unfold chg at hv ⊢
  by_cases h0 : wh = 0
  · simp only [h0, if_true, cAddr, decide_eq_false ht, Bool.and_false, Bool.false_and, Bool.false_eq_true] at hv
  rw [if_neg h0] at hv ⊢
  by_cases h1 : wh = 1
  · simp only [h1, if_true, cSet, decide_eq_false ht, Bool.and_false, Bool.false_and, Bool.false_eq_true] at hv
  rw [if_neg h1] at hv ⊢
  by_cases h2 : wh = 2
  · simp only [h2, if_true, cExact, decide_eq_false ht, Bool.and_false, Bool.false_and, Bool.false_eq_true] at hv
  rw [if_neg h2] at hv ⊢
  by_cases h3 : wh = 3
  · simp only [h3, if_true, cAnd, decide_eq_false ht, Bool.and_false, Bool.false_eq_true] at hv
  rw [if_neg h3] at hv ⊢
  by_cases h4 : wh = 4
  · simp only [h4, if_true, cSeal, decide_eq_false ht, Bool.and_false, Bool.false_and, Bool.false_eq_true] at hv
  rw [if_neg h4] at hv ⊢
  by_cases h5 : wh = 5
  · rw [if_pos h5] at hv ⊢
    simp only [cOpen, Bool.and_eq_true] at hv
    obtain ⟨h1, h2, ⟨h3, h4⟩, h6⟩ := hv
    have h7 := h6
    unfold auP at h7
    simp only [Bool.and_eq_true, decide_eq_true_eq] at h4 h7
    have h8 := of_decide_eq_true h7.2
    refine ⟨h5, h1, h3, h4, h7.1.2.2.2, h7.1.2.2.1, ?_, ?_, ?_⟩
    · show deB y.e y.b y.t y.cu ≤ _; have := h7.1.2.2.1; omega
    · show _ < deT y.e y.b y.t y.cu; have := h7.1.2.2.1; omega
    · unfold cOpen
      rw [h6]
      simp only [h1, h3, h4, decide_eq_false ht, Bool.not_false, decide_true, Bool.and_true, if_true]
  rw [if_neg h5] at hv ⊢
  by_cases h6 : wh = 6
  · simp only [h6, if_true, cBuild, decide_eq_false ht, Bool.and_false, Bool.false_and, Bool.false_eq_true] at hv
  rw [if_neg h6] at hv ⊢
  simp only [cClear, Bool.false_eq_true] at hv
end Go.Proofs.Ythniimefocjamaa
