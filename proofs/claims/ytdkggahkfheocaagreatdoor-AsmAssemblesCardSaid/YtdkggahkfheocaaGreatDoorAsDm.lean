/- Plain words for layer asm, the document's side: what it reads of a line's words is what the program reads. No statement is proved here. -/
import Derived.Test.YtdkggahkfheocaaGreatDoorAsBk
namespace Go.Proofs.YtdkggahkfheocaaGreatDoor
set_option maxRecDepth 100000
open Go.RowKit Go.Lib
set_option linter.unusedVariables false

theorem digits_short (n : Nat) (h : n < 4294967296) : (decDigits n).length ≤ 10 := by
  rcases Nat.lt_or_ge 10 (decDigits n).length with h1 | h1
  · exfalso
    have h3 : ∀ k n, k < (decDigits n).length → 10 ^ k ≤ n ∨ k = 0 := by
      intro k
      induction k with
      | zero => intro n _; exact .inr rfl
      | succ k ih =>
        intro n hk
        by_cases hn : n < 10
        · rw [decDigits_one hn] at hk; simp at hk
        · rw [decDigits_big hn, List.length_append] at hk
          have h4 : k < (decDigits (n / 10)).length := by simp at hk; omega
          left
          rcases ih (n / 10) h4 with h5 | h5
          · rw [Nat.pow_succ]
            have := Nat.div_mul_le_self n 10
            have := Nat.mul_le_mul_right 10 h5
            omega
          · subst h5; simp; omega
    rcases h3 10 n h1 with h4 | h4
    · omega
    · omega
  · exact h1
theorem val_true {l : List UInt8} {lim : Int} (h : valT l lim = true) : ∃ n : Nat, decDigits n = l ∧ (n : Int) < lim ∧ valN l = n := by
  unfold valT at h
  unfold valN
  cases hv : valO l with
  | none => rw [hv] at h; cases h
  | some n =>
    rw [hv] at h
    exact ⟨n, (valO_some.1 hv).1, of_decide_eq_true h, rfl⟩
theorem val_of {n : Nat} {lim : Int} (h : (n : Int) < lim) (hl : n < 4294967296) : valT (decDigits n) lim = true ∧ valN (decDigits n) = n := by
  have hv := valO_some.2 ⟨rfl, digits_short n hl⟩
  unfold valT valN
  rw [hv]
  exact ⟨decide_eq_true h, rfl⟩
theorem reg_yes {t : List UInt8} (h : regT t = true) : numP true t = some (regN t) ∧ 0 ≤ regN t ∧ regN t ≤ 15 := by
  unfold regT at h
  unfold regN numP
  cases t with
  | nil => simp at h
  | cons c d =>
    simp only [List.headD_cons, List.drop_succ_cons, List.drop_zero] at h ⊢
    by_cases hc : c = 99
    · subst hc
      simp only [if_true] at h ⊢
      obtain ⟨n, hn, hl, hv⟩ := val_true h
      rw [hv]
      refine ⟨intL_some.2 ⟨?_, by omega, by omega⟩, by omega, by omega⟩
      rw [itoa_nonneg' (by omega), ← hn]
      rfl
    · rw [if_neg hc] at h; cases h
theorem reg_no {t : List UInt8} (h : regT t = false) {v : Int} (hv : numP true t = some v) : ¬ (0 ≤ v ∧ v ≤ 15) := by
  rintro ⟨h0, h1⟩
  unfold numP at hv
  rw [if_pos rfl] at hv
  split at hv
  · rename_i d
    obtain ⟨e, -, -⟩ := intL_some.1 hv
    rw [itoa_nonneg' h0] at e
    have := (val_of (n := v.toNat) (lim := 16) (by omega) (by omega)).1
    rw [e] at this
    unfold regT at h
    simp only [List.headD_cons, if_true, List.drop_succ_cons, List.drop_zero] at h
    rw [this] at h; cases h
  · cases hv
theorem sgn_yes {t : List UInt8} (h : sgnT t = true) : numP false t = some (sgnN t) ∧ -4294967296 < sgnN t ∧ sgnN t < 4294967296 := by
  unfold sgnT at h
  unfold sgnN numP
  rw [if_neg (by decide)]
  by_cases hc : 1 < t.length ∧ t.headD 0 = 45
  · rw [if_pos hc] at h ⊢
    rw [Bool.and_eq_true, decide_eq_true_iff] at h
    obtain ⟨n, hn, hl, hv⟩ := val_true h.1
    rw [hv] at h ⊢
    have hp := h.2
    cases t with
    | nil => simp at hc
    | cons c d =>
      simp only [List.headD_cons] at hc
      obtain ⟨-, rfl⟩ := hc
      simp only [List.drop_succ_cons, List.drop_zero] at hn
      refine ⟨intL_some.2 ⟨?_, by omega, by omega⟩, by omega, by omega⟩
      rw [itoa_neg' (by omega), show (-(n : Int)).natAbs = n from by omega, hn]
  · rw [if_neg hc] at h ⊢
    obtain ⟨n, hn, hl, hv⟩ := val_true h
    rw [hv]
    refine ⟨intL_some.2 ⟨?_, by omega, by omega⟩, by omega, by omega⟩
    rw [itoa_nonneg' (by omega), ← hn]
    rfl
theorem sgn_no {t : List UInt8} (h : sgnT t = false) {v : Int} (hv : numP false t = some v) : ¬ (-4294967296 < v ∧ v < 4294967296) := by
  rintro ⟨h0, h1⟩
  unfold numP at hv
  rw [if_neg (by decide)] at hv
  obtain ⟨e, -, -⟩ := intL_some.1 hv
  unfold sgnT at h
  by_cases hn : v < 0
  · rw [itoa_neg' hn] at e
    subst e
    have h2 := val_of (n := v.natAbs) (lim := 4294967296) (by omega) (by omega)
    have h3 := decDigits_ne v.natAbs
    have h4 : 1 < (45 :: decDigits v.natAbs : List UInt8).length ∧ (45 :: decDigits v.natAbs : List UInt8).headD 0 = 45 := by
      refine ⟨?_, rfl⟩
      cases hd : decDigits v.natAbs with
      | nil => exact absurd hd h3
      | cons a b => simp
    rw [if_pos h4] at h
    simp only [List.drop_succ_cons, List.drop_zero] at h
    rw [h2.1, h2.2, Bool.true_and] at h
    have := of_decide_eq_false h
    omega
  · rw [itoa_nonneg' (by omega)] at e
    subst e
    obtain ⟨c, r, hc, hc1, hc2⟩ := digits_head v.toNat
    have h2 := val_of (n := v.toNat) (lim := 4294967296) (by omega) (by omega)
    have h4 : ¬ (1 < (decDigits v.toNat).length ∧ (decDigits v.toNat).headD 0 = 45) := by
      rintro ⟨-, h5⟩
      rw [hc] at h5
      simp only [List.headD_cons] at h5
      rw [h5] at hc1
      revert hc1; decide
    rw [if_neg h4, h2.1] at h
    cases h
theorem name_nosgn {t : List UInt8} (h : nameB t = true) : sgnT t = false ∧ sgnN t = 0 := by
  have hs : sgnT t = false := by
    rcases Bool.eq_false_or_eq_true (sgnT t) with e | e
    · have h1 := (sgn_yes e).1
      unfold numP at h1
      rw [if_neg (by decide)] at h1
      have h2 := (intL_some.1 h1).1
      have h3 := itoa_noname (sgnN t)
      rw [h2, h] at h3
      cases h3
    · exact e
  refine ⟨hs, ?_⟩
  have hnc : canB t = false := by
    rcases Bool.eq_false_or_eq_true (canB t) with e | e
    · unfold canB at e
      simp only [Bool.and_eq_true] at e
      unfold nameB at h
      simp only [Bool.and_eq_true, Bool.not_eq_true'] at h
      cases t with
      | nil => simp at e
      | cons c d =>
        have := e.1.2
        rw [List.all_cons, Bool.and_eq_true] at this
        have h9 := h.2
        simp only [List.headD_cons] at h9
        rw [this.1] at h9; cases h9
    · exact e
  have h45 : ¬ (1 < t.length ∧ t.headD 0 = 45) := by
    rintro ⟨h1, h2⟩
    unfold nameB at h
    simp only [Bool.and_eq_true] at h
    cases t with
    | nil => simp at h1
    | cons c d =>
      simp only [List.headD_cons] at h2
      subst h2
      have := h.1.2
      rw [List.all_cons, Bool.and_eq_true] at this
      exact absurd this.1 (by decide)
  unfold sgnN
  rw [if_neg h45]
  exact (val_no (fun k => by rw [hnc] at k; cases k.2) 0).1
/-- What the document reads of the words behind the name. -/
def docA (op : Int) : List UInt8 → Ins → List UInt8 → List (List UInt8) → Option (Ins × List UInt8)
  | [], i, lab, _ => some (i, lab)
  | x :: f, i, lab, ts =>
    if preB x = true then (if regT (ts.headD []) = true then docA op f (setF i x (regN (ts.headD []))) lab ts.tail else none)
    else if sgnT (ts.headD []) = true then docA op f (setF i x (sgnN (ts.headD []))) lab ts.tail
    else if jmpB op = true ∧ nameB (ts.headD []) = true then docA op f (setF i x (sgnN (ts.headD []))) (ts.headD []) ts.tail
    else none
def fldOf (x : UInt8) : Nat := if x = 97 then 0 else if x = 98 then 1 else if x = 99 then 2 else 3
theorem pre_fld (x : UInt8) : (preB x = true ∧ fldOf x < 3) ∨ (preB x = false ∧ fldOf x = 3 ∧ x ≠ 97 ∧ x ≠ 98 ∧ x ≠ 99) := by
  unfold preB fldOf
  by_cases h1 : x = 97
  · exact .inl (by simp [h1])
  by_cases h2 : x = 98
  · exact .inl (by simp [h2])
  by_cases h3 : x = 99
  · exact .inl (by simp [h3])
  · exact .inr (by simp [h1, h2, h3])
theorem val_set (i : Ins) (x z : UInt8) (v : Int) : val (setF i z v) x = if fldOf z = fldOf x then v else val i x := by
  unfold val setF fldOf
  by_cases h1 : z = 97 <;> by_cases h2 : z = 98 <;> by_cases h3 : z = 99 <;> by_cases k1 : x = 97 <;> by_cases k2 : x = 98 <;> by_cases k3 : x = 99 <;> simp_all
theorem args_keep (op : Int) (x : UInt8) : ∀ (f : List UInt8) (i : Ins) (lab : List UInt8) (ts : List (List UInt8)) (i' : Ins) (lab' : List UInt8) (r : List (List UInt8)), (∀ z, z ∈ f → fldOf z ≠ fldOf x) → argsP op f i lab ts = some (i', lab', r) → val i' x = val i x
  | [], i, lab, ts, i', lab', r, _, h => by
    simp only [argsP, Option.some.injEq, Prod.mk.injEq] at h
    rw [h.1]
  | z :: f, i, lab, ts, i', lab', r, hf, h => by
    have hz := hf z (List.mem_cons_self ..)
    have hf' := fun y hy => hf y (List.mem_cons_of_mem z hy)
    simp only [argsP] at h
    split at h
    · exact args_keep op x f _ _ _ _ _ _ hf' h
    · split at h
      · cases h
      · rw [args_keep op x f _ _ _ _ _ _ hf' h, val_set, if_neg hz]
theorem bad_may {i : Ins} {x : UInt8} (h : (preB x = true ∧ ¬ (0 ≤ val i x ∧ val i x ≤ 15)) ∨ (preB x = false ∧ ¬ (-4294967296 < val i x ∧ val i x < 4294967296))) : mayB i = false := by
  rw [Bool.eq_false_iff]
  intro hm
  obtain ⟨h1, h2, ha, hb, hc, hi⟩ := may_parts hm
  have a1 := fld_in ha; have b1 := fld_in hb; have c1 := fld_in hc
  have hmm : -524288 ≤ i.m ∧ i.m ≤ 524287 := by
    have m1 := imm_in hi
    rcases Bool.eq_false_or_eq_true ((formAt i.op).contains 106) with e | e
    · exact m1.1 e
    · rcases Bool.eq_false_or_eq_true ((formAt i.op).contains 105) with e' | e'
      · have := m1.2.1 e e'; omega
      · have := m1.2.2 e e'; omega
  rcases h with ⟨hp, hv⟩ | ⟨hp, hv⟩
  · unfold preB at hp
    simp only [Bool.or_eq_true, beq_iff_eq] at hp
    unfold val at hv
    rcases hp with (rfl | rfl) | rfl
    · simp at hv; omega
    · simp at hv; omega
    · simp at hv; omega
  · rcases pre_fld x with ⟨k, -⟩ | ⟨-, -, e1, e2, e3⟩
    · rw [k] at hp; cases hp
    · unfold val at hv
      rw [if_neg e1, if_neg e2, if_neg e3] at hv
      omega
theorem set_m {i : Ins} {x : UInt8} (hx : preB x = false) (hm : i.m = 0) : setF i x 0 = i := by
  rcases pre_fld x with ⟨k, -⟩ | ⟨-, -, e1, e2, e3⟩
  · rw [k] at hx; cases hx
  · unfold setF
    rw [if_neg e1, if_neg e2, if_neg e3, ← hm]
theorem m_set {i : Ins} {x : UInt8} (v : Int) (hx : preB x = true) : (setF i x v).m = i.m := by
  unfold preB at hx
  simp only [Bool.or_eq_true, beq_iff_eq] at hx
  rcases hx with (rfl | rfl) | rfl <;> rfl
theorem docA_cons (op : Int) (x : UInt8) (f : List UInt8) (i : Ins) (lab t : List UInt8) (ts : List (List UInt8)) : docA op (x :: f) i lab (t :: ts) =
    if preB x = true then (if regT t = true then docA op f (setF i x (regN t)) lab ts else none)
    else if sgnT t = true then docA op f (setF i x (sgnN t)) lab ts
    else if jmpB op = true ∧ nameB t = true then docA op f (setF i x (sgnN t)) t ts
    else none := rfl
theorem argsP_cons (op : Int) (x : UInt8) (f : List UInt8) (i : Ins) (lab t : List UInt8) (ts : List (List UInt8)) : argsP op (x :: f) i lab (t :: ts) =
    if preB x = false ∧ jmpB op = true ∧ nameB t = true then argsP op f i t ts
    else match numP (preB x) t with
      | none => none
      | some v => argsP op f (setF i x v) lab ts := rfl
theorem argsP_nil (op : Int) (x : UInt8) (f : List UInt8) (i : Ins) (lab : List UInt8) : argsP op (x :: f) i lab [] =
    if preB x = false ∧ jmpB op = true ∧ nameB [] = true then argsP op f i [] []
    else match numP (preB x) [] with
      | none => none
      | some v => argsP op f (setF i x v) lab [] := rfl
theorem doc_args (op : Int) : ∀ (f : List UInt8) (i : Ins) (lab : List UInt8) (ts : List (List UInt8)), f.Pairwise (fun a b => fldOf a ≠ fldOf b) → ts.length = f.length → ((∃ x, x ∈ f ∧ preB x = false) → i.m = 0) →
    (∀ i' lab', docA op f i lab ts = some (i', lab') → argsP op f i lab ts = some (i', lab', [])) ∧ (docA op f i lab ts = none → ∀ i' lab' r, argsP op f i lab ts = some (i', lab', r) → mayB i' = false)
  | [], i, lab, ts, _, hl, _ => by
    have : ts = [] := List.eq_nil_of_length_eq_zero hl
    subst this
    refine ⟨fun i' lab' h => ?_, fun h => by cases h⟩
    simp only [docA, Option.some.injEq, Prod.mk.injEq] at h
    rw [argsP, h.1, h.2]
  | x :: f, i, lab, [], _, hl, _ => by simp at hl
  | x :: f, i, lab, t :: ts, hp, hl, hm => by
    obtain ⟨hp1, hp2⟩ := List.pairwise_cons.1 hp
    have hl' : ts.length = f.length := by simpa using hl
    have hk : ∀ z, z ∈ f → fldOf z ≠ fldOf x := fun z hz e => hp1 z hz e.symm
    have hbad : ∀ (v : Int) (i' : Ins) (lab' lab2 : List UInt8) (r : List (List UInt8)), ((preB x = true ∧ ¬ (0 ≤ v ∧ v ≤ 15)) ∨ (preB x = false ∧ ¬ (-4294967296 < v ∧ v < 4294967296))) → argsP op f (setF i x v) lab2 ts = some (i', lab', r) → mayB i' = false := fun v i' lab' lab2 r hv h => by
      have e := args_keep op x f _ _ _ _ _ _ hk h
      rw [val_set, if_pos rfl] at e
      exact bad_may (x := x) (by rw [e]; exact hv)
    rw [docA_cons, argsP_cons]
    rcases pre_fld x with ⟨hx, -⟩ | ⟨hx, hx3, -⟩
    · have hno : ¬ (preB x = false ∧ jmpB op = true ∧ nameB t = true) := fun k => by rw [hx] at k; cases k.1
      rw [if_pos hx, if_neg hno, hx]
      by_cases hr : regT t = true
      · rw [if_pos hr, (reg_yes hr).1]
        exact doc_args op f _ lab ts hp2 hl' (fun hz => by rw [m_set _ hx]; exact hm (hz.elim fun z hz => ⟨z, List.mem_cons_of_mem _ hz.1, hz.2⟩))
      · rw [if_neg hr]
        refine ⟨fun i' lab' h => (by cases h), fun _ i' lab' r h => ?_⟩
        cases hn : numP true t with
        | none => rw [hn] at h; cases h
        | some v => rw [hn] at h; exact hbad v i' lab' lab r (.inl ⟨hx, reg_no (by simpa using hr) hn⟩) h
    · have hm0 := hm ⟨x, List.mem_cons_self .., hx⟩
      have hf3 : ¬ ∃ z, z ∈ f ∧ preB z = false := fun ⟨z, hz, hz2⟩ => by
        rcases pre_fld z with ⟨k, -⟩ | ⟨-, k, -⟩
        · rw [k] at hz2; cases hz2
        · exact hk z hz (k.trans hx3.symm)
      have hxn : ¬ preB x = true := by rw [hx]; decide
      by_cases hj : jmpB op = true ∧ nameB t = true
      · obtain ⟨n1, n2⟩ := name_nosgn hj.2
        have hs0 : ¬ sgnT t = true := by rw [n1]; decide
        have hj3 : preB x = false ∧ jmpB op = true ∧ nameB t = true := ⟨hx, hj⟩
        rw [if_neg hxn, if_neg hs0, if_pos hj, if_pos hj3, n2, set_m hx hm0]
        exact doc_args op f i t ts hp2 hl' (fun hz => absurd hz hf3)
      · have hj3 : ¬ (preB x = false ∧ jmpB op = true ∧ nameB t = true) := fun k => hj k.2
        by_cases hs : sgnT t = true
        · rw [if_neg hxn, if_pos hs, if_neg hj3, hx, (sgn_yes hs).1]
          exact doc_args op f _ lab ts hp2 hl' (fun hz => absurd hz hf3)
        · rw [if_neg hxn, if_neg hs, if_neg hj, if_neg hj3, hx]
          refine ⟨fun i' lab' h => (by cases h), fun _ i' lab' r h => ?_⟩
          cases hn : numP false t with
          | none => rw [hn] at h; cases h
          | some v => rw [hn] at h; exact hbad v i' lab' lab r (.inr ⟨hx, sgn_no (by simpa using hs) hn⟩) h
theorem num_nil (c : Bool) : numP c [] = none := by cases c <;> rfl
theorem args_len (op : Int) : ∀ (f : List UInt8) (i : Ins) (lab : List UInt8) (ts : List (List UInt8)) (i' : Ins) (lab' : List UInt8) (r : List (List UInt8)), argsP op f i lab ts = some (i', lab', r) → f.length ≤ ts.length ∧ r = ts.drop f.length
  | [], i, lab, ts, i', lab', r, h => by
    simp only [argsP, Option.some.injEq, Prod.mk.injEq] at h
    exact ⟨Nat.zero_le _, by rw [← h.2.2]; rfl⟩
  | x :: f, i, lab, [], i', lab', r, h => by
    rw [argsP_nil, if_neg (fun k => absurd k.2.2 (by decide)), num_nil] at h
    cases h
  | x :: f, i, lab, t :: ts, i', lab', r, h => by
    have step : ∀ i2 lab2, argsP op f i2 lab2 ts = some (i', lab', r) → (x :: f).length ≤ (t :: ts).length ∧ r = (t :: ts).drop (x :: f).length := fun i2 lab2 h2 => by
      obtain ⟨h3, h4⟩ := args_len op f _ _ _ _ _ _ h2
      exact ⟨by simp only [List.length_cons]; omega, by rw [h4]; rfl⟩
    rw [argsP_cons] at h
    split at h
    · exact step _ _ h
    · split at h
      · cases h
      · exact step _ _ h
theorem form_apart (op : Int) : (formAt op).Pairwise (fun a b => fldOf a ≠ fldOf b) := by
  rcases form_cases op with h | h | h | h | h | h | h <;> rw [h] <;> decide
/-- What the document reads of a line's words. -/
def docR (ts : List (List UInt8)) : Option (Int × Ins × List UInt8) :=
  if ts.headD [] = wordTx then (if ts.length = 2 ∧ valT (ts.getD 1 []) 4294967296 = true then some (valN (ts.getD 1 []), Ins.zero, []) else none)
  else if opAt (ts.headD []) = 0 ∨ ts.length ≠ 1 + (formAt (opAt (ts.headD []))).length then none
  else match docA (opAt (ts.headD [])) (formAt (opAt (ts.headD []))) ⟨opAt (ts.headD []), 0, 0, 0, 0⟩ [] ts.tail with
    | none => none
    | some (i, lab) => if mayB i = true then some (encW i, i, lab) else none
theorem raw_is (t : List UInt8) : rawW t = if valT t 4294967296 = true then some (valN t) else none := by
  cases h : valT t 4294967296 with
  | true =>
    obtain ⟨n, hn, hl, hv⟩ := val_true h
    rw [if_pos rfl, hv, ← hn]
    unfold rawW
    rw [int_digits n (by omega)]
    exact if_pos ⟨by omega, hl⟩
  | false =>
    rw [if_neg (by decide)]
    unfold rawW
    cases hi : intL t with
    | none => rfl
    | some v =>
      simp only
      rw [if_neg]
      rintro ⟨h0, h1⟩
      have e := (intL_some.1 hi).1
      rw [itoa_nonneg' h0] at e
      have := (val_of (n := v.toNat) (lim := 4294967296) (by omega) (by omega)).1
      rw [e, h] at this
      cases this
theorem zero_ins (m : Int) (a b c : Int) : mayB ⟨0, a, b, c, m⟩ = false := by
  rw [Bool.eq_false_iff]; intro h
  have := (may_parts h).1
  exact absurd (show (1 : Int) ≤ 0 from this) (by decide)
theorem docR_cons (a : List UInt8) (r : List (List UInt8)) : docR (a :: r) =
  if a = wordTx then (if r.length + 1 = 2 ∧ valT (r.getD 0 []) 4294967296 = true then some (valN (r.getD 0 []), Ins.zero, []) else none)
  else if opAt a = 0 ∨ r.length + 1 ≠ 1 + (formAt (opAt a)).length then none
  else match docA (opAt a) (formAt (opAt a)) ⟨opAt a, 0, 0, 0, 0⟩ [] r with
    | none => none
    | some (i, lab) => if mayB i = true then some (encW i, i, lab) else none := rfl
/-- THE DOCUMENT READS WHAT THE PROGRAM READS. -/
theorem doc_read (a : List UInt8) (r : List (List UInt8)) : readP (a :: r) = (docR (a :: r)).map (fun z => (z.1, z.2.2)) := by
  rw [readP_cons, docR_cons]
  by_cases hw : a = wordTx
  · rw [if_pos hw, if_pos hw]
    cases r with
    | nil => decide
    | cons b r =>
      show rawR (rawW b) r = Option.map _ (if r.length + 1 + 1 = 2 ∧ valT b 4294967296 = true then some (valN b, Ins.zero, []) else none)
      rw [raw_is]
      by_cases hv : valT b 4294967296 = true
      · rw [if_pos hv]
        by_cases hr : r = []
        · subst hr
          have h2 : ([] : List (List UInt8)).length + 1 + 1 = 2 ∧ valT b 4294967296 = true := ⟨rfl, hv⟩
          rw [if_pos h2]; rfl
        · have hl : ¬ (r.length + 1 + 1 = 2 ∧ valT b 4294967296 = true) := fun k => hr (List.eq_nil_of_length_eq_zero (by omega))
          rw [if_neg hl]
          simp [rawR, hr]
      · have hl : ¬ (r.length + 1 + 1 = 2 ∧ valT b 4294967296 = true) := fun k => hv k.2
        rw [if_neg hv, if_neg hl]; rfl
  · rw [if_neg hw, if_neg hw]
    generalize opAt a = op
    by_cases h0 : op = 0
    · subst h0
      rw [if_pos (.inl rfl), show formAt 0 = [] from by decide]
      simp only [argsP, insR, zero_ins]
      rfl
    · by_cases hl : r.length + 1 = 1 + (formAt op).length
      · have hno : ¬ (op = 0 ∨ r.length + 1 ≠ 1 + (formAt op).length) := fun k => k.elim h0 (fun k => k hl)
        rw [if_neg hno]
        have hd := doc_args op (formAt op) ⟨op, 0, 0, 0, 0⟩ [] r (form_apart op) (by omega) (fun _ => rfl)
        cases hA : docA op (formAt op) ⟨op, 0, 0, 0, 0⟩ [] r with
        | some z =>
          obtain ⟨i, lab⟩ := z
          rw [hd.1 i lab hA]
          simp only [insR, and_true]
          split <;> rfl
        | none =>
          cases hP : argsP op (formAt op) ⟨op, 0, 0, 0, 0⟩ [] r with
          | none => rfl
          | some z =>
            obtain ⟨i, lab, q⟩ := z
            have := hd.2 hA i lab q hP
            simp only [insR, this]
            rfl
      · rw [if_pos (.inr hl)]
        cases hP : argsP op (formAt op) ⟨op, 0, 0, 0, 0⟩ [] r with
        | none => rfl
        | some z =>
          obtain ⟨i, lab, q⟩ := z
          obtain ⟨h1, h2⟩ := args_len op _ _ _ _ _ _ _ hP
          simp only [insR]
          rw [if_neg]
          · rfl
          · rintro ⟨-, hq⟩
            rw [h2] at hq
            have := List.drop_eq_nil_iff.1 hq
            omega
end Go.Proofs.YtdkggahkfheocaaGreatDoor
