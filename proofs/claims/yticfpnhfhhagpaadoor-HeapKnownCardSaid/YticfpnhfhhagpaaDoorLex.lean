/- A drawn region's lexical order, asked in one go along the list: bits tell which slots were written and which were looked at, so that the kernel has no pairs to go through. Plain lemmas; no statement is proved here. -/
import Derived.Test.YticfpnhfhhagpaaDoormn
import Derived.Deep.Quiet
namespace Go.Proofs.YticfpnhfhhagpaaDoor
set_option linter.unusedVariables false

section
variable {md : Region.Mode} {ops : Array Oper}

/-- Each pair is told apart, or bound; and what binds comes before. -/
structure Lexed (md : Region.Mode) (ops : Array Oper) : Prop where
  p1 : ∀ (j : Nat) (oj : Oper), ops[j]? = some oj → ∀ e ∈ oj.after, Region.binds md e = true → e.on < j
  p2 : ∀ (i j : Nat) (oi oj : Oper), i < j → ops[i]? = some oi → ops[j]? = some oj → (∃ e ∈ oj.after, Region.binds md e = true ∧ e.on = i) ∨ oi.apart ops oj = true

theorem Lexed.from (h : Lexed md ops) : ∀ (n k : Nat) (s : Array Bool), k + n = ops.size → s.size = ops.size → (∀ t, t < ops.size → s[t]? = some (decide (t < k))) → Region.lexFrom md ops n k s = true
  | 0, k, s, hk, hs, ht => by
    rw [Region.lexFrom, List.isEmpty_iff, Region.ready, List.filter_eq_nil_iff]
    intro i hi
    have hi' := List.mem_range.1 hi
    have : s.getD i true = true := by
      rw [Array.getD_eq_getD_getElem?, ht i hi']
      simp
      omega
    simp [this]
  | n + 1, k, s, hk, hs, ht => by
    have hkn : k < ops.size := by omega
    have hg : ∀ t, t < ops.size → ∀ d, s.getD t d = decide (t < k) := fun t h d => by
      rw [Array.getD_eq_getD_getElem?, ht t h]
      rfl
    obtain ⟨o, ho⟩ : ∃ o, ops[k]? = some o := ⟨ops[k], Array.getElem?_eq_getElem hkn⟩
    rw [Region.lexFrom, Bool.and_eq_true, Bool.and_eq_true]
    refine ⟨⟨?_, ?_⟩, ?_⟩
    · rw [List.contains_iff_mem, Region.ready, List.mem_filter]
      refine ⟨List.mem_range.2 hkn, ?_⟩
      rw [hg k hkn]
      simp only [Nat.lt_irrefl, decide_false, Bool.not_false, Bool.true_and, ho, Option.map_some, Option.getD_some]
      rw [Array.all_eq_true_iff_forall_mem]
      intro e he
      by_cases hb : Region.binds md e = true
      · have := h.p1 k o ho e he hb
        rw [hg _ (by omega)]
        simp [this]
      · simp [hb]
    · rw [Region.free]
      simp only [ho]
      rw [List.all_eq_true]
      intro j hj
      have hj' := List.mem_range.1 hj
      obtain ⟨oj, hoj⟩ : ∃ o, ops[j]? = some o := ⟨ops[j], Array.getElem?_eq_getElem hj'⟩
      rw [hg j hj']
      rcases Nat.lt_trichotomy j k with h1 | h1 | h1
      · simp [h1]
      · simp [h1]
      · simp only [hoj, Bool.or_eq_true]
        refine .inr ?_
        rcases h.p2 k j o oj h1 ho hoj with ⟨e, he, hb, hon⟩ | h2
        · refine .inl (Array.any_eq_true'.2 ⟨e, he, ?_⟩)
          simp [hb, hon]
        · exact .inr h2
    · refine h.from n (k + 1) _ (by omega) (by simpa using hs) (fun t htn => ?_)
      rcases Nat.lt_trichotomy t k with h1 | h1 | h1
      · rw [Array.getElem?_setIfInBounds_ne (by omega), ht t htn]
        simp [h1, Nat.lt_succ_of_lt h1]
      · subst h1
        rw [Array.getElem?_setIfInBounds_self_of_lt (by omega)]
        simp
      · rw [Array.getElem?_setIfInBounds_ne (by omega), ht t htn]
        have : ¬ t < k := by omega
        have h3 : ¬ t < k + 1 := by omega
        simp [this, h3]

theorem Lexed.lexB (h : Lexed md ops) (hs : Region.noSelect ops = true) : Region.lexB md ops = true := by
  rw [Region.lexB, hs, Bool.true_and]
  exact h.from ops.size 0 _ (by omega) (by simp) (fun t ht => by simp [ht])

def orBit (m : Nat) : List Nat → Nat
  | [] => m
  | t :: l => orBit (m ||| 1 <<< t) l
theorem orBit_bit : ∀ (l : List Nat) (m t : Nat), (orBit m l).testBit t = (m.testBit t || l.contains t)
  | [], m, t => by simp [orBit]
  | a :: l, m, t => by
    rw [orBit, orBit_bit l, Nat.testBit_or, List.contains_cons, Nat.one_shiftLeft, Nat.testBit_two_pow]
    by_cases h : a = t
    · subst h; simp
    · have h' : (t == a) = false := by simpa using fun e => h e.symm
      simp [h, h']

/-- The check: dm's bits are the slots that were written, lm's those that were looked at. -/
def lexC (md : Region.Mode) (ops : Array Oper) : Nat → Nat → Nat → List Oper → Bool
  | _, _, _, [] => true
  | k, dm, lm, o :: l =>
    o.after.all (fun e => !Region.binds md e || Nat.blt e.on k) &&
    (o.dst.all fun d => !dm.testBit d && !lm.testBit d) &&
    (o.looksAt ops).all (fun t => !dm.testBit t || o.after.any fun e => Region.binds md e && ((ops[e.on]?).bind (·.dst)) == some t) &&
    lexC md ops (k + 1) (orBit dm o.dst.toList) (orBit lm (o.looksAt ops)) l

theorem lexC_spec : ∀ (l : List Oper) (k dm lm : Nat), (∀ j, l[j]? = ops[k + j]?) →
    (∀ i oi d, i < k → ops[i]? = some oi → oi.dst = some d → dm.testBit d = true) → (∀ i oi t, i < k → ops[i]? = some oi → t ∈ oi.looksAt ops → lm.testBit t = true) →
    (∀ i j oi oj d, i < j → j < k → ops[i]? = some oi → ops[j]? = some oj → oi.dst = some d → oj.dst ≠ some d) →
    lexC md ops k dm lm l = true →
    ∀ j, k ≤ j → ∀ oj, ops[j]? = some oj → (∀ e ∈ oj.after, Region.binds md e = true → e.on < j) ∧ ∀ i oi, i < j → ops[i]? = some oi → (∃ e ∈ oj.after, Region.binds md e = true ∧ e.on = i) ∨ oi.apart ops oj = true
  | [], k, dm, lm, hl, _, _, _, _, j, hj, oj, hoj => by
    have := hl (j - k)
    rw [show k + (j - k) = j by omega, hoj] at this
    cases this
  | o :: l, k, dm, lm, hl, hd, hm, hu, h, j, hj, oj, hoj => by
    have h0 : ops[k]? = some o := by simpa using (hl 0).symm
    simp only [lexC, Bool.and_eq_true] at h
    obtain ⟨⟨⟨h1, h2⟩, h3⟩, h4⟩ := h
    have hnew : ∀ i oi d, i < k → ops[i]? = some oi → oi.dst = some d → o.dst ≠ some d := fun i oi d hi hoi hdi he => by
      have := hd i oi d hi hoi hdi
      rw [he] at h2
      simp [this] at h2
    have hu' : ∀ i j oi oj d, i < j → j < k + 1 → ops[i]? = some oi → ops[j]? = some oj → oi.dst = some d → oj.dst ≠ some d := fun i j oi oj d hij hjk hoi hoj hdi => by
      by_cases hjk' : j = k
      · subst hjk'
        obtain rfl : o = oj := Option.some.inj (h0.symm.trans hoj)
        exact hnew i oi d hij hoi hdi
      · exact hu i j oi oj d hij (by omega) hoi hoj hdi
    by_cases hjk : j = k
    · subst hjk
      obtain rfl : o = oj := Option.some.inj (h0.symm.trans hoj)
      refine ⟨fun e he hb => ?_, fun i oi hi hoi => ?_⟩
      · have := (Array.all_eq_true_iff_forall_mem.1 h1) e he
        simpa [hb] using this
      · by_cases hE : ∃ e ∈ o.after, Region.binds md e = true ∧ e.on = i
        · exact .inl hE
        · refine .inr ?_
          rw [Oper.apart, Bool.and_eq_true]
          constructor
          · cases hdi : oi.dst with
            | none => rfl
            | some d =>
              simp only [Bool.and_eq_true, Bool.not_eq_true', bne_iff_ne, ne_eq]
              refine ⟨?_, hnew i oi d hi hoi hdi⟩
              rw [← Bool.not_eq_true, List.contains_iff_mem]
              intro hmem
              have h5 := (List.all_eq_true.1 h3) d hmem
              rw [hd i oi d hi hoi hdi, Bool.not_true, Bool.false_or, Array.any_eq_true'] at h5
              obtain ⟨e, he, hb⟩ := h5
              simp only [Bool.and_eq_true, beq_iff_eq] at hb
              refine hE ⟨e, he, hb.1, ?_⟩
              have hlt : e.on < j := by
                have := (Array.all_eq_true_iff_forall_mem.1 h1) e he
                simpa [hb.1] using this
              obtain ⟨oe, hoe, hde⟩ := Option.bind_eq_some_iff.1 hb.2
              rcases Nat.lt_trichotomy e.on i with h6 | h6 | h6
              · exact absurd hdi (hu _ _ oe oi d h6 hi hoe hoi hde)
              · exact h6
              · exact absurd hde (hu _ _ oi oe d h6 hlt hoi hoe hdi)
          · cases hdo : o.dst with
            | none => rfl
            | some d =>
              rw [hdo] at h2
              simp only [Option.all_some, Bool.and_eq_true, Bool.not_eq_true'] at h2
              simp only [Bool.not_eq_true']
              rw [← Bool.not_eq_true, List.contains_iff_mem]
              intro hmem
              have := hm i oi d hi hoi hmem
              rw [h2.2] at this
              cases this
    · refine lexC_spec l (k + 1) _ _ (fun j => by have := hl (j + 1); simpa [Nat.add_assoc, Nat.add_comm 1 j] using this) (fun i oi d hi hoi hdi => ?_) (fun i oi t hi hoi hti => ?_) hu' h4 j (by omega) oj hoj
      · rw [orBit_bit]
        by_cases hik : i = k
        · subst hik
          obtain rfl : o = oi := Option.some.inj (h0.symm.trans hoi)
          simp [hdi]
        · rw [hd i oi d (by omega) hoi hdi, Bool.true_or]
      · rw [orBit_bit]
        by_cases hik : i = k
        · subst hik
          obtain rfl : o = oi := Option.some.inj (h0.symm.trans hoi)
          rw [List.contains_iff_mem.2 hti, Bool.or_true]
        · rw [hm i oi t (by omega) hoi hti, Bool.true_or]

theorem lexed_of {l : List Oper} (h : lexC md l.toArray 0 0 0 l = true) : Lexed md l.toArray := by
  have := lexC_spec l 0 0 0 (fun j => by simp) (fun i _ _ hi => absurd hi (Nat.not_lt_zero _)) (fun i _ _ hi => absurd hi (Nat.not_lt_zero _)) (fun i j _ _ _ _ hj => absurd hj (Nat.not_lt_zero _)) h
  exact ⟨fun j oj hoj => (this j (Nat.zero_le _) oj hoj).1, fun i j oi oj hij hoi hoj => (this j (Nat.zero_le _) oj hoj).2 i oi hij hoi⟩
end
/-- region_cls, its order asked by lexC. -/
theorem region_cls_lex {P : Program} (S : World → Prop) {id : Nat} {Q : Exit → Act → World → Prop} {a : Act} {w : World} {l : List Oper} (hm : P.follows .mixedOrders = true) (hn : Region.noSelect l.toArray = true) (hB : lexC .any l.toArray 0 0 0 l = true) (h0 : S w.drew)
    (h : wpQuiet P l.toArray (fun w' => ∃ y : Wd S, w' = y.w) (fun a' => ∀ y : Wd S, Q .normal a' y.w) l a) : (Code.region id l.toArray true).wp P Q a w :=
  region_cls S hm ((lexed_of hB).lexB hn) h0 h
end Go.Proofs.YticfpnhfhhagpaaDoor
