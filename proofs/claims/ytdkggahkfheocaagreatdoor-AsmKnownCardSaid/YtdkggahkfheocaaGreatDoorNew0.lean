/- A region that draws its order, whose head only reads and calls what writes nothing old, and lays some new blocks wherever they come; behind them the rest in the order of the text. Plain lemmas; no statement is proved here. -/
import Derived.Test.YtdkggahkfheocaaGreatDoorCls
import Derived.Test.YtdkggahkfheocaaGreatDoorRow0
namespace Go.Proofs.YtdkggahkfheocaaGreatDoor
open Go.RowKit
set_option linter.unusedVariables false

/-- What stays where nothing old is written. -/
def Stay (T : World → Prop) : Prop := ∀ w w', T w → Below w.heap.size w w' → T w'
/-- What an operation leaves in the frame at the end. -/
def slotOf (aF : Act) (o : Oper) : Value := match o.dst with | some d => aF.tmps.getD d undef | none => undef
def ptr (b : Nat) : Value := .pointer (some ⟨b, 0, none⟩)
/-- Each of the first n operations has a slot of its own. -/
def ownB (ops : Array Oper) (n sz : Nat) : Bool :=
  (List.range n).all fun i => match ops[i]? with
    | some o => match o.dst with
      | some d => decide (d < sz) && (List.range n).all fun j => j == i || decide (((ops[j]?).bind (·.dst)) ≠ some d)
      | none => false
    | none => false
theorem ownB_dst {ops : Array Oper} {n sz : Nat} (h : ownB ops n sz = true) {i : Nat} (hi : i < n) : ∃ o d, ops[i]? = some o ∧ o.dst = some d ∧ d < sz ∧ ∀ j oj, j < n → ops[j]? = some oj → j ≠ i → oj.dst ≠ some d := by
  have h1 := List.all_eq_true.1 h i (List.mem_range.2 hi)
  split at h1
  · rename_i o ho
    split at h1
    · rename_i d hd
      simp only [Bool.and_eq_true, decide_eq_true_eq] at h1
      refine ⟨o, d, ho, hd, h1.1, fun j oj hj hoj hji he => ?_⟩
      have h2 := List.all_eq_true.1 h1.2 j (List.mem_range.2 hj)
      simp only [Bool.or_eq_true, beq_iff_eq, decide_eq_true_eq, hji, false_or, hoj, Option.bind_some] at h2
      exact h2 he
    · cases h1
  · cases h1

section
variable {P : Program} {ops : Array Oper} {md : Region.Mode} {S : World → Prop} {aF : Act} {q n : Nat}

/-- In every class that is no wider and stays, the operation leaves v. -/
def YAll (P : Program) (ops : Array Oper) (S : World → Prop) (o : Oper) (v : Value) (a : Act) : Prop :=
  ∀ S' : World → Prop, (∀ w, S' w → S w) → Stay S' → YieldsIn P ops (fun w' => ∃ y : Wd S', w' = y.w) o v a
theorem YAll.put {o oj : Oper} {v u : Value} {a : Act} (h : YAll P ops S o v a) (hs : ∀ cs b, o.op ≠ .select cs b) (h3 : ∀ a' : Act, execOp (a'.put oj.dst u).eval o = execOp a'.eval o) (h4 : ∀ a' : Act, Region.wanted o (yielded ops (a'.put oj.dst u).tmps) = Region.wanted o (yielded ops a'.tmps)) : YAll P ops S o v (a.put oj.dst u) :=
  fun S' h1 h2 => (h S' h1 h2).of_same (h3 a) (h4 a)
theorem YAll.unput {o oj : Oper} {v u : Value} {a : Act} (h : YAll P ops S o v (a.put oj.dst u)) (h3 : ∀ a' : Act, execOp (a'.put oj.dst u).eval o = execOp a'.eval o) (h4 : ∀ a' : Act, Region.wanted o (yielded ops (a'.put oj.dst u).tmps) = Region.wanted o (yielded ops a'.tmps)) : YAll P ops S o v a :=
  fun S' h1 h2 => (h S' h1 h2).of_same (h3 a).symm (h4 a).symm

/-- Which values an operation may leave. -/
def Val (aF : Act) (q i : Nat) (o : Oper) (v : Value) : Prop := (i < q ∧ v = slotOf aF o) ∨ (¬ i < q ∧ ∃ b, v = ptr b)
theorem Val.some (aF : Act) (q i : Nat) (o : Oper) : ∃ v, Val aF q i o v := by
  by_cases h : i < q
  · exact ⟨_, .inl ⟨h, rfl⟩⟩
  · exact ⟨ptr 0, .inr ⟨h, 0, rfl⟩⟩

def anyF (P : Program) (md : Region.Mode) (ops : Array Oper) (S : World → Prop) (aF : Act) (q n : Nat) (L : Array Bool → Act → Prop) : Nat → Array Bool → Act → Prop
  | 0, s, a => L s a
  | f + 1, s, a => Region.ready md ops s ≠ [] ∧ ∀ i ∈ Region.ready md ops s, i < n ∧ ∃ o, ops[i]? = some o ∧ (i < q → YAll P ops S o (slotOf aF o) a) ∧ ∀ v, Val aF q i o v → anyF P md ops S aF q n L f (s.setIfInBounds i true) (a.put o.dst v)

theorem anyF_first {i : Nat} {oi : Oper} {L : Array Bool → Act → Prop} (hi : ops[i]? = some oi) (hsel : ∀ (j : Nat) (o : Oper) cs b, ops[j]? = some o → o.op ≠ .select cs b)
    (hs : Region.sinkB md ops n = true) (hc : Region.chainB md ops n = true) (hn : n < ops.size) (hin : i < n) (hdone : ∀ s a, L s a → ∀ j ∈ Region.ready md ops s, n ≤ j) :
    ∀ (f : Nat) (s : Array Bool) (a : Act), HeadInv md ops n s →
      (∀ j oj, ops[j]? = some oj → j ≠ i → s.getD j true = false → (∀ e ∈ oj.after, Region.binds md e = true → e.on ≠ i) → oi.apart ops oj = true) →
      i ∈ Region.ready md ops s → (i < q → YAll P ops S oi (slotOf aF oi) a) → (∀ v, Val aF q i oi v → anyF P md ops S aF q n L f (s.setIfInBounds i true) (a.put oi.dst v)) → anyF P md ops S aF q n L (f + 1) s a := by
  intro f
  induction f with
  | zero =>
    intro s a inv _ hr hy H
    refine ⟨fun h => (by rw [h] at hr; cases hr), fun j hj => ?_⟩
    have hjn : j < n := Nat.lt_of_not_le fun h => tail_waits hs hc hn inv _ i rfl hin (mem_ready.1 hr).1 j h hj
    by_cases hji : j = i
    · subst hji; exact ⟨hjn, oi, hi, hy, H⟩
    · obtain ⟨v, hv⟩ := Val.some aF q i oi
      have := hdone _ _ (H v hv) j (ready_mono hj hji)
      omega
  | succ f ih =>
    intro s a inv hfree hr hy H
    have hun := (mem_ready.1 hr).1
    refine ⟨fun h => (by rw [h] at hr; cases hr), fun j hj => ?_⟩
    have hjn : j < n := Nat.lt_of_not_le fun h => tail_waits hs hc hn inv _ i rfl hin hun j h hj
    refine ⟨hjn, ?_⟩
    by_cases hji : j = i
    · subst hji; exact ⟨oi, hi, hy, H⟩
    · obtain ⟨hjun, oj, hoj, hall⟩ := mem_ready.1 hj
      have hnot : ∀ e ∈ oj.after, Region.binds md e = true → e.on ≠ i := fun e he hb heq => by
        have h1 := hall e he hb
        rw [heq, getD_both hun] at h1
        cases h1
      obtain ⟨h1, h2, h3⟩ := Oper.apart_spec (hfree j oj hoj hji hjun hnot)
      have hsi := fun cs b => hsel i oi cs b hi
      have hsj := fun cs b => hsel j oj cs b hoj
      obtain ⟨v0, hv0⟩ := Val.some aF q i oi
      obtain ⟨_, o', ho', hok, _⟩ := (H v0 hv0).2 j (ready_mono hj hji)
      obtain rfl : o' = oj := Option.some.inj (ho'.symm.trans hoj)
      refine ⟨o', hoj, fun hjq => (hok hjq).unput (fun a' => execOp_put o' hsj a' oi.dst v0 h1) (fun a' => wanted_put o' a' oi.dst v0 h1), fun u hu => ?_⟩
      refine ih (s.setIfInBounds j true) (a.put o'.dst u) (inv.set hj hjn) (fun k ok hk hki hku hno => hfree k ok hk hki ?_ hno) (ready_mono hr (Ne.symm hji))
        (fun hiq => (hy hiq).put hsi (fun a' => execOp_put oi hsi a' o'.dst u h3) (fun a' => wanted_put oi a' o'.dst u h3)) (fun v hv => ?_)
      · by_cases hjk : j = k
        · subst hjk; exact hjun
        · rw [getD_set_ne true hjk] at hku; exact hku
      · obtain ⟨_, o'', ho'', _, hK⟩ := (H v hv).2 j (ready_mono hj hji)
        obtain rfl : o'' = o' := Option.some.inj (ho''.symm.trans hoj)
        have := hK u hu
        rw [Act.put_comm a v u h2] at this
        rw [Array.setIfInBounds_comm _ _ hji]
        exact this

theorem put_ne {a : Act} {x : Option Tmp} {d : Tmp} (v : Value) (h : x ≠ some d) : (a.put x v).tmps.getD d undef = a.tmps.getD d undef := by
  cases x with
  | none => rfl
  | some e =>
    have hne : e ≠ d := fun k => h (by rw [k])
    simp [Act.put, Array.getElem?_setIfInBounds_ne hne]
theorem put_same {a : Act} {d : Tmp} (v : Value) (h : d < a.tmps.size) : (a.put (some d) v).tmps.getD d undef = v := by
  simp [Act.put, h]
theorem put_size (a : Act) (x : Option Tmp) (v : Value) : (a.put x v).tmps.size = a.tmps.size := by
  cases x <;> simp [Act.put]
theorem quiet_slot {C : World → Prop} {d : Tmp} : ∀ (l : List Oper) (a : Act), (∀ o, o ∈ l → o.dst ≠ some d) → wpQuiet P ops C (fun a' => a' = aF) l a → aF.tmps.getD d undef = a.tmps.getD d undef
  | [], a, _, h => by rw [show a = aF from h]
  | o :: l, a, hl, h => by
    unfold wpQuiet at h
    split at h
    · obtain ⟨v, _, hn⟩ := h
      rw [quiet_slot l _ (fun o' ho' => hl o' (List.mem_cons_of_mem _ ho')) hn, put_ne v (hl o (List.mem_cons_self ..))]
    · rw [quiet_slot l _ (fun o' ho' => hl o' (List.mem_cons_of_mem _ ho')) h, put_ne _ (hl o (List.mem_cons_self ..))]

/-- The new blocks' slots. -/
def putL : Act → List Oper → List Nat → Act
  | a, o :: os, b :: bs => putL (a.put o.dst (ptr b)) os bs
  | a, _, _ => a
theorem putL_ne {d : Tmp} : ∀ (os : List Oper) (bs : List Nat) (a : Act), (∀ o, o ∈ os → o.dst ≠ some d) → (putL a os bs).tmps.getD d undef = a.tmps.getD d undef
  | o :: os, b :: bs, a, h => by
    rw [putL, putL_ne os bs _ fun o' ho' => h o' (List.mem_cons_of_mem _ ho')]
    exact put_ne _ (h o (List.mem_cons_self ..))
  | [], _, a, h => rfl
  | o :: os, [], a, h => rfl
theorem putL_get {sz : Nat} : ∀ (os : List Oper) (bs : List Nat) (a : Act) (k : Nat) (o : Oper) (d : Tmp) (b : Nat), a.tmps.size = sz → d < sz → os[k]? = some o → o.dst = some d → bs[k]? = some b →
    (∀ j oj, os[j]? = some oj → j ≠ k → oj.dst ≠ some d) → (putL a os bs).tmps.getD d undef = ptr b
  | [], _, _, k, o, d, b, _, _, h, _, _, _ => by simp at h
  | o' :: os, [], _, k, o, d, b, _, _, _, _, h, _ => by simp at h
  | o' :: os, b' :: bs, a, 0, o, d, b, hz, hd, h1, h2, h3, h4 => by
    simp at h1 h3
    subst h1 h3
    rw [putL, putL_ne os bs _ fun o1 ho1 => by
      obtain ⟨j, hj⟩ := List.getElem?_of_mem ho1
      exact h4 (j + 1) o1 (by simpa using hj) (by omega), h2]
    exact put_same _ (by rw [hz]; exact hd)
  | o' :: os, b' :: bs, a, k + 1, o, d, b, hz, hd, h1, h2, h3, h4 => by
    rw [putL]
    exact putL_get os bs _ k o d b (by rw [put_size, hz]) hd (by simpa using h1) h2 (by simpa using h3) fun j oj hj hne => h4 (j + 1) oj (by simpa using hj) (by omega)

theorem anyF_news {g : Nat} {news : List Oper} (hsel : Region.noSelect ops = true) (hs : Region.sinkB md ops n = true) (hc : Region.chainB md ops n = true) (hn : n < ops.size) :
    ∀ (l : List Oper) (k : Nat) (s : Array Bool) (a : Act), (∀ j, j < l.length → l[j]? = ops[k + j]?) → q ≤ k → k + l.length = n → HeadInv md ops n s →
    Region.lexHead md ops g l.length k s = true → (∀ cs : List Nat, cs.length = l.length → ∃ bs : List Nat, bs.length = news.length ∧ putL a l cs = putL aF news bs) →
    anyF P md ops S aF q n (fun s' a' => Region.seqB md ops g n s' = true ∧ HeadInv md ops n s' ∧ ∃ bs : List Nat, bs.length = news.length ∧ a' = putL aF news bs) l.length s a
  | [], k, s, a, _, _, hk, inv, hB, hT => by
    obtain rfl : k = n := by simpa using hk
    obtain ⟨bs, h1, h2⟩ := hT [] rfl
    exact ⟨by simpa [Region.lexHead] using hB, inv, bs, h1, h2⟩
  | o :: l, k, s, a, hl, hq, hk, inv, hB, hT => by
    have h0 : ops[k]? = some o := by simpa using (hl 0 (by simp)).symm
    simp only [List.length_cons, Region.lexHead, Bool.and_eq_true] at hB
    simp only [List.length_cons] at hk
    have hr : k ∈ Region.ready md ops s := by simpa using hB.1.1
    refine anyF_first h0 (Region.noSelect_spec hsel) hs hc hn (by omega) (fun s' a' hL => seqB_ready hL.1) l.length s a inv (Region.free_spec h0 hB.1.2) hr (fun h => absurd h (by omega)) (fun v hv => ?_)
    rcases hv with ⟨hv, _⟩ | ⟨_, b, rfl⟩
    · omega
    refine anyF_news hsel hs hc hn l (k + 1) _ _ (fun j hj => by have := hl (j + 1) (by simp; omega); simpa [Nat.add_assoc, Nat.add_comm 1 j] using this) (by omega) (by omega) (inv.set hr (by omega)) hB.2 (fun cs hcs => ?_)
    obtain ⟨bs, h1, h2⟩ := hT (b :: cs) (by simp [hcs])
    exact ⟨bs, h1, by rw [← h2, putL]⟩

theorem anyF_head {g sz : Nat} {news : List Oper} (hsel : Region.noSelect ops = true) (hs : Region.sinkB md ops n = true) (hc : Region.chainB md ops n = true) (hn : n < ops.size) (hown : ownB ops n sz = true) (hqn : q + news.length = n) :
    ∀ (hd : List Oper) (k : Nat) (s : Array Bool) (a : Act), (∀ j, j < (hd ++ news).length → (hd ++ news)[j]? = ops[k + j]?) → k + hd.length = q → HeadInv md ops n s →
    Region.lexHead md ops g (hd ++ news).length k s = true → a.tmps.size = sz →
    (∀ S' : World → Prop, (∀ w, S' w → S w) → Stay S' → wpQuiet P ops (fun w' => ∃ y : Wd S', w' = y.w) (fun a' => a' = aF) hd a) →
    anyF P md ops S aF q n (fun s' a' => Region.seqB md ops g n s' = true ∧ HeadInv md ops n s' ∧ ∃ bs : List Nat, bs.length = news.length ∧ a' = putL aF news bs) (hd ++ news).length s a
  | [], k, s, a, hl, hk, inv, hB, hz, hW => by
    obtain rfl : a = aF := hW (fun _ => False) (fun _ h => h.elim) (fun _ _ h => h.elim)
    exact anyF_news hsel hs hc hn news k s a (by simpa using hl) (by simp at hk; omega) (by simp at hk; omega) inv (by simpa using hB) fun cs hcs => ⟨cs, hcs, rfl⟩
  | o :: hd, k, s, a, hl, hk, inv, hB, hz, hW => by
    have h0 : ops[k]? = some o := by simpa using (hl 0 (by simp)).symm
    simp only [List.cons_append, List.length_cons, Region.lexHead, Bool.and_eq_true] at hB
    simp only [List.length_cons] at hk
    have hr : k ∈ Region.ready md ops s := by simpa using hB.1.1
    have hl' : ∀ j, j < (hd ++ news).length → (hd ++ news)[j]? = ops[k + 1 + j]? := fun j hj => by have := hl (j + 1) (by simp at hj ⊢; omega); simpa [Nat.add_assoc, Nat.add_comm 1 j] using this
    obtain ⟨o', d, ho', hdst, hd1, hd2⟩ := ownB_dst hown (show k < n by omega)
    obtain rfl : o' = o := Option.some.inj (ho'.symm.trans h0)
    have hoth : ∀ o2, o2 ∈ hd → o2.dst ≠ some d := fun o2 ho2 => by
      obtain ⟨j, hj⟩ := List.getElem?_of_mem ho2
      have hjl : j < hd.length := (List.getElem?_eq_some_iff.1 hj).1
      have := hl' j (by simp; omega)
      rw [List.getElem?_append_left hjl, hj] at this
      exact hd2 (k + 1 + j) o2 (by omega) this.symm (by omega)
    have key : ∀ S' : World → Prop, (∀ w, S' w → S w) → Stay S' → YieldsIn P ops (fun w' => ∃ y : Wd S', w' = y.w) o' (slotOf aF o') a ∧ wpQuiet P ops (fun w' => ∃ y : Wd S', w' = y.w) (fun a' => a' = aF) hd (a.put o'.dst (slotOf aF o')) := fun S' h1 h2 => by
      obtain ⟨v, hy, hK⟩ := yieldsIn_of_qOp h0 (show qOp P ops (fun w' => ∃ y : Wd S', w' = y.w) k (wpQuiet P ops (fun w' => ∃ y : Wd S', w' = y.w) (fun a' => a' = aF) hd) a by unfold qOp; simp only [h0]; exact hW S' h1 h2)
      have e := quiet_slot hd _ hoth hK
      rw [hdst, put_same v (by rw [hz]; exact hd1)] at e
      have e2 : slotOf aF o' = v := by unfold slotOf; rw [hdst]; exact e
      rw [e2]
      exact ⟨hy, hK⟩
    refine anyF_first h0 (Region.noSelect_spec hsel) hs hc hn (by omega) (fun s' a' hL => seqB_ready hL.1) (hd ++ news).length s a inv (Region.free_spec h0 hB.1.2) hr (fun _ S' h1 h2 => (key S' h1 h2).1) (fun v hv => ?_)
    rcases hv with ⟨_, rfl⟩ | ⟨hv, _⟩
    · exact anyF_head hsel hs hc hn hown hqn hd (k + 1) _ _ hl' (by omega) (inv.set hr (by omega)) hB.2 (by rw [put_size, hz]) fun S' h1 h2 => (key S' h1 h2).2
    · omega

theorem Rw.below {x : Rw} {w w' : World} (h : x.at w) (k : Below w.heap.size w w') : x.at w' :=
  ((KR.mk (Below.refl _ _) (fun y hy => by obtain rfl := List.mem_singleton.1 hy; exact h) : KR w [x] w).below k).al x (List.mem_singleton.2 rfl)

/-- What holds on the way: the class, and the blocks that have come up. -/
structure Inv (ops : Array Oper) (S : World → Prop) (z : Nat → List Value) (B0 q n sz : Nat) (s : Array Bool) (a : Act) (w : World) : Prop where
  hS : S w
  hB : B0 ≤ w.heap.size
  hz : a.tmps.size = sz
  al : ∀ k o d, ops[q + k]? = some o → q + k < n → s.getD (q + k) false = true → o.dst = some d → ∃ b, a.tmps.getD d undef = ptr b ∧ (⟨b, z k⟩ : Rw).at w ∧ B0 ≤ b
  di : ∀ j k oj ok dj dk, j ≠ k → ops[q + j]? = some oj → ops[q + k]? = some ok → q + j < n → q + k < n → s.getD (q + j) false = true → s.getD (q + k) false = true → oj.dst = some dj → ok.dst = some dk → a.tmps.getD dj undef ≠ a.tmps.getD dk undef
theorem ptr_inj {a b : Nat} (h : ptr a = ptr b) : a = b := by
  unfold ptr at h
  injection h with h
  injection h with h
  injection h

theorem anyF_out {g sz B0 : Nat} {z : Nat → List Value} {L : Array Bool → Act → Prop} {Q : Exit → Act → World → Prop} (hown : ownB ops n sz = true) (hSt : Stay S)
    (hNew : ∀ k o, ops[q + k]? = some o → q + k < n → o.guard = none ∧ ∃ ty, ∀ (a : Act) w, (execOp a.eval o).run P w = .ok (.value (ptr w.heap.size)) (w.alloc (.cells (z k).toArray ty)))
    (hL : ∀ s a w, Inv ops S z B0 q n sz s a w → L s a → wpAny P md ops Q g s a w) :
    ∀ (f : Nat) (s : Array Bool) (a : Act) (w : World), Inv ops S z B0 q n sz s a w → anyF P md ops S aF q n L f s a → wpAny P md ops Q (f + g) s a w
  | 0, s, a, w, hi, h => by rw [Nat.zero_add]; exact hL _ _ _ hi h
  | f + 1, s, a, w, hi, h => by
    rw [show f + 1 + g = (f + g) + 1 by omega]
    refine ⟨fun h0 => absurd h0 h.1, fun i hir => ?_⟩
    obtain ⟨hin, o, ho, hok, hK⟩ := h.2 i hir
    obtain ⟨o', d, ho', hdst, hd1, hd2⟩ := ownB_dst hown hin
    obtain rfl : o' = o := Option.some.inj (ho'.symm.trans ho)
    have hun := (mem_ready.1 hir).1
    by_cases hq : i < q
    · have hcl : ∀ w', (S w' ∧ B0 ≤ w'.heap.size ∧ ∀ k o d b, ops[q + k]? = some o → q + k < n → s.getD (q + k) false = true → o.dst = some d → a.tmps.getD d undef = ptr b → (⟨b, z k⟩ : Rw).at w') →
          Inv ops S z B0 q n sz (s.setIfInBounds i true) (a.put o'.dst (slotOf aF o')) w' := fun w' ⟨g1, g2, g3⟩ => by
        have hs : ∀ k ok dk, ops[q + k]? = some ok → q + k < n → ok.dst = some dk → (a.put o'.dst (slotOf aF o')).tmps.getD dk undef = a.tmps.getD dk undef := fun k ok dk hk hkn hdk =>
          put_ne _ (by rw [hdst]; intro e; rw [Option.some.inj e] at hd2; exact hd2 (q + k) ok hkn hk (by omega) hdk)
        refine ⟨g1, g2, by rw [put_size]; exact hi.hz, fun k ok dk hk hkn hkl hdk => ?_, fun j k oj ok dj dk hjk hj hk hjn hkn hjl hkl hdj hdk => ?_⟩
        · rw [getD_set_ne false (by omega)] at hkl
          obtain ⟨b, e1, e2, e3⟩ := hi.al k ok dk hk hkn hkl hdk
          exact ⟨b, by rw [hs k ok dk hk hkn hdk]; exact e1, g3 k ok dk b hk hkn hkl hdk e1, e3⟩
        · rw [getD_set_ne false (by omega)] at hjl hkl
          rw [hs j oj dj hj hjn hdj, hs k ok dk hk hkn hdk]
          exact hi.di j k oj ok dj dk hjk hj hk hjn hkn hjl hkl hdj hdk
      have hy := hok hq (fun w' => S w' ∧ B0 ≤ w'.heap.size ∧ ∀ k o d b, ops[q + k]? = some o → q + k < n → s.getD (q + k) false = true → o.dst = some d → a.tmps.getD d undef = ptr b → (⟨b, z k⟩ : Rw).at w')
        (fun w' h => h.1) (fun w1 w2 ⟨g1, g2, g3⟩ hb => ⟨hSt _ _ g1 hb, Nat.le_trans g2 hb.size, fun k o d b h1 h2 h3 h4 h5 => Rw.below (g3 k o d b h1 h2 h3 h4 h5) hb⟩)
      have hrow : ∀ k o d b, ops[q + k]? = some o → q + k < n → s.getD (q + k) false = true → o.dst = some d → a.tmps.getD d undef = ptr b → (⟨b, z k⟩ : Rw).at w := fun k o d b h1 h2 h3 h4 h5 => by
        obtain ⟨b', e1, e2, _⟩ := hi.al k o d h1 h2 h3 h4
        rw [h5] at e1
        rw [ptr_inj e1]
        exact e2
      refine wpOp_of_qOp (K := fun a' => a' = a.put o'.dst (slotOf aF o')) ⟨⟨w, hi.hS, hi.hB, hrow⟩, rfl⟩ (fun a' w' hw' ha' => ?_) (hy.qOp ho rfl)
      obtain ⟨y, rfl⟩ := hw'
      subst ha'
      exact anyF_out hown hSt hNew hL f _ _ _ (hcl y.w y.h) (hK _ (.inl ⟨hq, rfl⟩))
    · obtain ⟨k, rfl⟩ : ∃ k, i = q + k := ⟨i - q, by omega⟩
      obtain ⟨hg, ty, hrun⟩ := hNew k o' ho hin
      have hsz : s.size > q + k := by
        refine Nat.lt_of_not_le fun hle => ?_
        simp [Array.getElem?_eq_none hle] at hun
      unfold wpOp
      simp only [ho]
      rw [if_pos (by simp [Region.wanted, hg])]
      refine .inl ?_
      unfold Oper.wp
      rw [hrun a w]
      refine anyF_out hown hSt hNew hL f _ _ _ ?_ (hK _ (.inr ⟨hq, _, rfl⟩))
      have hbl := (Below.refl w.heap.size w).alloc (Nat.le_refl _) (.cells (z k).toArray ty)
      have hs : ∀ j oj dj, j ≠ k → ops[q + j]? = some oj → q + j < n → oj.dst = some dj → (a.put o'.dst (ptr w.heap.size)).tmps.getD dj undef = a.tmps.getD dj undef := fun j oj dj hjk hj hjn hdj =>
        put_ne _ (by rw [hdst]; intro e; rw [Option.some.inj e] at hd2; exact hd2 (q + j) oj hjn hj (by omega) hdj)
      have hme : (a.put o'.dst (ptr w.heap.size)).tmps.getD d undef = ptr w.heap.size := by rw [hdst]; exact put_same _ (by rw [hi.hz]; exact hd1)
      have hfar : ∀ j oj dj, ops[q + j]? = some oj → q + j < n → s.getD (q + j) false = true → oj.dst = some dj → a.tmps.getD dj undef ≠ ptr w.heap.size := fun j oj dj hj hjn hjl hdj e => by
        obtain ⟨b, e1, e2, _⟩ := hi.al j oj dj hj hjn hjl hdj
        rw [e1] at e
        have := e2.1
        rw [ptr_inj e] at this
        exact Nat.lt_irrefl _ this
      refine ⟨hSt _ _ hi.hS hbl, Nat.le_trans hi.hB hbl.size, by rw [put_size]; exact hi.hz, fun j oj dj hj hjn hjl hdj => ?_, fun j1 j2 o1 o2 d1 d2 hne h1 h2 hn1 hn2 hl1 hl2 hd1' hd2' => ?_⟩
      · by_cases hjk : j = k
        · subst hjk
          obtain rfl : oj = o' := Option.some.inj (hj.symm.trans ho)
          obtain rfl : dj = d := Option.some.inj (hdj.symm.trans hdst)
          exact ⟨w.heap.size, hme, Rw.new w (z j) ty, hi.hB⟩
        · rw [getD_set_ne false (by omega)] at hjl
          obtain ⟨b, e1, e2, e3⟩ := hi.al j oj dj hj hjn hjl hdj
          exact ⟨b, by rw [hs j oj dj hjk hj hjn hdj]; exact e1, Rw.below e2 hbl, e3⟩
      · by_cases e1 : j1 = k
        · subst e1
          obtain rfl : o1 = o' := Option.some.inj (h1.symm.trans ho)
          obtain rfl : d1 = d := Option.some.inj (hd1'.symm.trans hdst)
          rw [getD_set_ne false (by omega)] at hl2
          rw [hme, hs j2 o2 d2 (Ne.symm hne) h2 hn2 hd2']
          exact Ne.symm (hfar j2 o2 d2 h2 hn2 hl2 hd2')
        · rw [getD_set_ne false (by omega)] at hl1
          rw [hs j1 o1 d1 e1 h1 hn1 hd1']
          by_cases e2 : j2 = k
          · subst e2
            obtain rfl : o2 = o' := Option.some.inj (h2.symm.trans ho)
            obtain rfl : d2 = d := Option.some.inj (hd2'.symm.trans hdst)
            rw [hme]
            exact hfar j1 o1 d1 h1 hn1 hl1 hd1'
          · rw [getD_set_ne false (by omega)] at hl2
            rw [hs j2 o2 d2 e2 h2 hn2 hd2']
            exact hi.di j1 j2 o1 o2 d1 d2 hne h1 h2 hn1 hn2 hl1 hl2 hd1' hd2'
end

/-- The region: q operations that read or call what writes nothing old; m new blocks; the rest in the order of the text. -/
theorem new_any {P : Program} (S : World → Prop) {Q : Exit → Act → World → Prop} {a aF : Act} {w : World} {l : List Oper} (q m : Nat) (z : Nat → List Value) (B0 : Nat)
    (hB : (Region.lexTailB .any l.toArray (q + m) && ownB l.toArray (q + m) a.tmps.size) = true) (h0 : S w.drew) (hB0 : B0 ≤ w.drew.heap.size) (hSt : Stay S)
    (hNew : ∀ k o, k < m → l[q + k]? = some o → o.guard = none ∧ ∃ ty, ∀ (a : Act) w, (execOp a.eval o).run P w = .ok (.value (ptr w.heap.size)) (w.alloc (.cells (z k).toArray ty)))
    (hW : ∀ S' : World → Prop, (∀ w, S' w → S w) → Stay S' → wpQuiet P l.toArray (fun w' => ∃ y : Wd S', w' = y.w) (fun a' => a' = aF) (l.take q) a)
    (hT : ∀ (bs : List Nat) (w' : World), bs.length = m → S w' → (∀ k b, bs[k]? = some b → (⟨b, z k⟩ : Rw).at w' ∧ B0 ≤ b) → (∀ (j k b c : Nat), j < k → bs[j]? = some b → bs[k]? = some c → b ≠ c) → wpList P l.toArray Q (l.drop (q + m)) (putL aF ((l.drop q).take m) bs) w') :
    wpAny P .any l.toArray Q l.toArray.size (Array.replicate l.toArray.size false) a w.drew := by
  rw [Bool.and_eq_true] at hB
  obtain ⟨hB, hown⟩ := hB
  simp only [Region.lexTailB, Bool.and_eq_true, decide_eq_true_eq] at hB
  obtain ⟨⟨⟨⟨hsel, hn⟩, hs⟩, hc⟩, hlex⟩ := hB
  have hn' : q + m < l.length := by simpa using hn
  have hln : ((l.drop q).take m).length = m := by simp; omega
  have hlq : (l.take q).length = q := by simp; omega
  have happ : l.take q ++ (l.drop q).take m = l.take (q + m) := by rw [List.take_add]
  have htl : (l.take q ++ (l.drop q).take m).length = q + m := by rw [List.length_append, hlq, hln]
  have hdl : (l.drop (q + m)).length = l.toArray.size - (q + m) := by simp
  have inv0 : HeadInv .any l.toArray (q + m) (Array.replicate l.toArray.size false) :=
    ⟨by simp, fun j oj _ hl => (by rw [getD_replicate_false] at hl; cases hl), fun t _ ht => getD_in (by simpa using ht) (getD_replicate_false _ _)⟩
  have H := anyF_head (P := P) (S := S) (aF := aF) (md := .any) (q := q) (g := l.toArray.size - (q + m)) hsel hs hc hn hown (news := (l.drop q).take m) (by rw [hln]) (l.take q) 0 (Array.replicate l.toArray.size false) a (fun j hj => by
    rw [happ]
    have hj' : j < q + m := by rw [htl] at hj; exact hj
    simp [hj']) (by rw [hlq, Nat.zero_add]) inv0 (by rw [htl]; exact hlex) rfl hW
  have nk : ∀ k o, l.toArray[q + k]? = some o → q + k < q + m → ((l.drop q).take m)[k]? = some o := fun k o ho hk => by
    rw [List.getElem?_take_of_lt (by omega), List.getElem?_drop]
    simpa using ho
  have := anyF_out (Q := Q) (g := l.toArray.size - (q + m)) (B0 := B0) (z := z) hown hSt (fun k o ho hk => hNew k o (by omega) (by simpa using ho)) (fun s a' w' hi hL => by
    obtain ⟨hseq, hinv, bs, hbl, rfl⟩ := hL
    have hlist : ∀ i, i < q + m → s.getD i false = true := fun i hi' => by
      cases e : s.getD i false with
      | true => rfl
      | false =>
        have hr : q + m ∈ Region.ready .any l.toArray s := by
          have e : l.toArray.size - (q + m) = (l.toArray.size - (q + m) - 1) + 1 := by omega
          rw [e] at hseq
          simp only [Region.seqB, Bool.and_eq_true, decide_eq_true_eq] at hseq
          rw [hseq.1]; simp
        exact absurd hr (tail_waits hs hc hn hinv _ i rfl hi' (getD_in (by rw [hinv.size]; omega) e) (q + m) (Nat.le_refl _))
    have hget : ∀ k b, bs[k]? = some b → ∃ o d, l.toArray[q + k]? = some o ∧ k < m ∧ o.dst = some d ∧ (putL aF ((l.drop q).take m) bs).tmps.getD d undef = ptr b := fun k b hb => by
      have hk : k < m := by have := (List.getElem?_eq_some_iff.1 hb).1; omega
      obtain ⟨o, d, ho, hdst, hd1, hd2⟩ := ownB_dst hown (show q + k < q + m by omega)
      refine ⟨o, d, ho, hk, hdst, putL_get (sz := a.tmps.size) _ _ _ k o d b ?_ hd1 (nk k o ho (by omega)) hdst hb fun j oj hj hjk => ?_⟩
      · have hh := hi.hz
        have : ∀ (os : List Oper) (bs : List Nat) (x : Act), (putL x os bs).tmps.size = x.tmps.size := fun os => by
          induction os with
          | nil => intro bs x; cases bs <;> rfl
          | cons o os ih => intro bs x; cases bs with
            | nil => rfl
            | cons b bs => rw [putL, ih, put_size]
        rwa [this] at hh
      · have hjm : j < m := by have := (List.getElem?_eq_some_iff.1 hj).1; omega
        rw [List.getElem?_take_of_lt hjm, List.getElem?_drop] at hj
        exact hd2 (q + j) oj (by omega) (by simpa using hj) (by omega)
    have := wpAny_of_seq (md := .any) (Q' := Q) (l.drop (q + m)) (q + m) s _ w' (fun j => by simp [List.getElem?_drop]) (by rw [hdl]; exact hseq) (hT bs w' (by rw [hbl, hln]) hi.hS (fun k b hb => by
      obtain ⟨o, d, ho, hk, hdst, e⟩ := hget k b hb
      obtain ⟨b', e1, e2, e3⟩ := hi.al k o d ho (by omega) (hlist _ (by omega)) hdst
      rw [e] at e1
      rw [ptr_inj e1]
      exact ⟨e2, e3⟩) (fun j k b c hjk hj1 hk1 => by
        obtain ⟨o1, d1, ho1, hm1, hdst1, e1⟩ := hget j _ hj1
        obtain ⟨o2, d2, ho2, hm2, hdst2, e2⟩ := hget k _ hk1
        have hne := hi.di j k o1 o2 d1 d2 (by omega) ho1 ho2 (by omega) (by omega) (hlist _ (by omega)) (hlist _ (by omega)) hdst1 hdst2
        rw [e1, e2] at hne
        intro e
        exact hne (by rw [e])))
    rwa [hdl] at this) _ _ _ w.drew ⟨h0, hB0, rfl, fun k o d _ _ hl => (by rw [getD_replicate_false] at hl; cases hl), fun j k oj ok dj dk _ _ _ _ _ hl => (by rw [getD_replicate_false] at hl; cases hl)⟩ H
  rw [htl, show q + m + (l.toArray.size - (q + m)) = l.toArray.size by omega] at this
  exact this
theorem region_new {P : Program} (S : World → Prop) {id : Nat} {Q : Exit → Act → World → Prop} {a aF : Act} {w : World} {l : List Oper} (q m : Nat) (z : Nat → List Value) (B0 : Nat) (hm : P.follows .mixedOrders = true)
    (hB : (Region.lexTailB .any l.toArray (q + m) && ownB l.toArray (q + m) a.tmps.size) = true) (h0 : S w.drew) (hB0 : B0 ≤ w.drew.heap.size) (hSt : Stay S)
    (hNew : ∀ k o, k < m → l[q + k]? = some o → o.guard = none ∧ ∃ ty, ∀ (a : Act) w, (execOp a.eval o).run P w = .ok (.value (ptr w.heap.size)) (w.alloc (.cells (z k).toArray ty)))
    (hW : ∀ S' : World → Prop, (∀ w, S' w → S w) → Stay S' → wpQuiet P l.toArray (fun w' => ∃ y : Wd S', w' = y.w) (fun a' => a' = aF) (l.take q) a)
    (hT : ∀ (bs : List Nat) (w' : World), bs.length = m → S w' → (∀ k b, bs[k]? = some b → (⟨b, z k⟩ : Rw).at w' ∧ B0 ≤ b) → (∀ (j k b c : Nat), j < k → bs[j]? = some b → bs[k]? = some c → b ≠ c) → wpList P l.toArray Q (l.drop (q + m)) (putL aF ((l.drop q).take m) bs) w') :
    (Code.region id l.toArray true).wp P Q a w := wp_region_any hm (new_any S q m z B0 hB h0 hB0 hSt hNew hW hT)
end Go.Proofs.YtdkggahkfheocaaGreatDoor
