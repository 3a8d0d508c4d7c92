/- A region that draws its order, whose head only reads and calls what writes nothing old, and lays some new blocks wherever they come; behind them the rest in the order of the text. Plain lemmas; no statement is proved here.; Contracts of layer asm, the program's side: a jump gets its way. No statement is proved here.; The program's Assemble. No statement is proved here. -/
import Derived.Test.YtdkggahkfheocaaGreatDoorCls
import Derived.Test.YtdkggahkfheocaaGreatDoorRow0
import Derived.Test.YtdkggahkfheocaaGreatDoorAsX
import Derived.Test.YtdkggahkfheocaaGreatDoorAsL
namespace Go.Proofs.YtdkggahkfheocaaGreatDoor
open Go.RowKit
set_option linter.unusedVariables false

/-- What stays where nothing old is written. -/
def Stay (T : World → Prop) : Prop := ∀ w w', T w → Below w.heap.size w w' → T w'
/-- What an operation leaves in the frame at the end. -/
def slotOf (aF : Act) (o : Oper) : Value := match o.dst with | some d => aF.tmps.getD d undef | none => undef
def ptr (b : Nat) : Value := .pointer (some ⟨b, 0, none⟩)
/-- Each of the first n operations has a slot of its own. -/
def ownB (ops : Array Oper) (n sz : Nat) : Bool :=
  (List.range n).all fun i => match ops[i]? with
    | some o => match o.dst with
      | some d => decide (d < sz) && (List.range n).all fun j => j == i || decide (((ops[j]?).bind (·.dst)) ≠ some d)
      | none => false
    | none => false
theorem ownB_dst {ops : Array Oper} {n sz : Nat} (h : ownB ops n sz = true) {i : Nat} (hi : i < n) : ∃ o d, ops[i]? = some o ∧ o.dst = some d ∧ d < sz ∧ ∀ j oj, j < n → ops[j]? = some oj → j ≠ i → oj.dst ≠ some d := by
  have h1 := List.all_eq_true.1 h i (List.mem_range.2 hi)
  split at h1
  · rename_i o ho
    split at h1
    · rename_i d hd
      simp only [Bool.and_eq_true, decide_eq_true_eq] at h1
      refine ⟨o, d, ho, hd, h1.1, fun j oj hj hoj hji he => ?_⟩
      have h2 := List.all_eq_true.1 h1.2 j (List.mem_range.2 hj)
      simp only [Bool.or_eq_true, beq_iff_eq, decide_eq_true_eq, hji, false_or, hoj, Option.bind_some] at h2
      exact h2 he
    · cases h1
  · cases h1

section
variable {P : Program} {ops : Array Oper} {md : Region.Mode} {S : World → Prop} {aF : Act} {q n : Nat}

/-- In every class that is no wider and stays, the operation leaves v. -/
def YAll (P : Program) (ops : Array Oper) (S : World → Prop) (o : Oper) (v : Value) (a : Act) : Prop :=
  ∀ S' : World → Prop, (∀ w, S' w → S w) → Stay S' → YieldsIn P ops (fun w' => ∃ y : Wd S', w' = y.w) o v a
theorem YAll.put {o oj : Oper} {v u : Value} {a : Act} (h : YAll P ops S o v a) (hs : ∀ cs b, o.op ≠ .select cs b) (h3 : ∀ a' : Act, execOp (a'.put oj.dst u).eval o = execOp a'.eval o) (h4 : ∀ a' : Act, Region.wanted o (yielded ops (a'.put oj.dst u).tmps) = Region.wanted o (yielded ops a'.tmps)) : YAll P ops S o v (a.put oj.dst u) :=
  fun S' h1 h2 => (h S' h1 h2).of_same (h3 a) (h4 a)
theorem YAll.unput {o oj : Oper} {v u : Value} {a : Act} (h : YAll P ops S o v (a.put oj.dst u)) (h3 : ∀ a' : Act, execOp (a'.put oj.dst u).eval o = execOp a'.eval o) (h4 : ∀ a' : Act, Region.wanted o (yielded ops (a'.put oj.dst u).tmps) = Region.wanted o (yielded ops a'.tmps)) : YAll P ops S o v a :=
  fun S' h1 h2 => (h S' h1 h2).of_same (h3 a).symm (h4 a).symm

/-- Which values an operation may leave. -/
def Val (aF : Act) (q i : Nat) (o : Oper) (v : Value) : Prop := (i < q ∧ v = slotOf aF o) ∨ (¬ i < q ∧ ∃ b, v = ptr b)
theorem Val.some (aF : Act) (q i : Nat) (o : Oper) : ∃ v, Val aF q i o v := by
  by_cases h : i < q
  · exact ⟨_, .inl ⟨h, rfl⟩⟩
  · exact ⟨ptr 0, .inr ⟨h, 0, rfl⟩⟩

def anyF (P : Program) (md : Region.Mode) (ops : Array Oper) (S : World → Prop) (aF : Act) (q n : Nat) (L : Array Bool → Act → Prop) : Nat → Array Bool → Act → Prop
  | 0, s, a => L s a
  | f + 1, s, a => Region.ready md ops s ≠ [] ∧ ∀ i ∈ Region.ready md ops s, i < n ∧ ∃ o, ops[i]? = some o ∧ (i < q → YAll P ops S o (slotOf aF o) a) ∧ ∀ v, Val aF q i o v → anyF P md ops S aF q n L f (s.setIfInBounds i true) (a.put o.dst v)

theorem anyF_first {i : Nat} {oi : Oper} {L : Array Bool → Act → Prop} (hi : ops[i]? = some oi) (hsel : ∀ (j : Nat) (o : Oper) cs b, ops[j]? = some o → o.op ≠ .select cs b)
    (hs : Region.sinkB md ops n = true) (hc : Region.chainB md ops n = true) (hn : n < ops.size) (hin : i < n) (hdone : ∀ s a, L s a → ∀ j ∈ Region.ready md ops s, n ≤ j) :
    ∀ (f : Nat) (s : Array Bool) (a : Act), HeadInv md ops n s →
      (∀ j oj, ops[j]? = some oj → j ≠ i → s.getD j true = false → (∀ e ∈ oj.after, Region.binds md e = true → e.on ≠ i) → oi.apart ops oj = true) →
      i ∈ Region.ready md ops s → (i < q → YAll P ops S oi (slotOf aF oi) a) → (∀ v, Val aF q i oi v → anyF P md ops S aF q n L f (s.setIfInBounds i true) (a.put oi.dst v)) → anyF P md ops S aF q n L (f + 1) s a := by
  intro f
  induction f with
  | zero =>
    intro s a inv _ hr hy H
    refine ⟨fun h => (by rw [h] at hr; cases hr), fun j hj => ?_⟩
    have hjn : j < n := Nat.lt_of_not_le fun h => tail_waits hs hc hn inv _ i rfl hin (mem_ready.1 hr).1 j h hj
    by_cases hji : j = i
    · subst hji; exact ⟨hjn, oi, hi, hy, H⟩
    · obtain ⟨v, hv⟩ := Val.some aF q i oi
      have := hdone _ _ (H v hv) j (ready_mono hj hji)
      omega
  | succ f ih =>
    intro s a inv hfree hr hy H
    have hun := (mem_ready.1 hr).1
    refine ⟨fun h => (by rw [h] at hr; cases hr), fun j hj => ?_⟩
    have hjn : j < n := Nat.lt_of_not_le fun h => tail_waits hs hc hn inv _ i rfl hin hun j h hj
    refine ⟨hjn, ?_⟩
    by_cases hji : j = i
    · subst hji; exact ⟨oi, hi, hy, H⟩
    · obtain ⟨hjun, oj, hoj, hall⟩ := mem_ready.1 hj
      have hnot : ∀ e ∈ oj.after, Region.binds md e = true → e.on ≠ i := fun e he hb heq => by
        have h1 := hall e he hb
        rw [heq, getD_both hun] at h1
        cases h1
      obtain ⟨h1, h2, h3⟩ := Oper.apart_spec (hfree j oj hoj hji hjun hnot)
      have hsi := fun cs b => hsel i oi cs b hi
      have hsj := fun cs b => hsel j oj cs b hoj
      obtain ⟨v0, hv0⟩ := Val.some aF q i oi
      obtain ⟨_, o', ho', hok, _⟩ := (H v0 hv0).2 j (ready_mono hj hji)
      obtain rfl : o' = oj := Option.some.inj (ho'.symm.trans hoj)
      refine ⟨o', hoj, fun hjq => (hok hjq).unput (fun a' => execOp_put o' hsj a' oi.dst v0 h1) (fun a' => wanted_put o' a' oi.dst v0 h1), fun u hu => ?_⟩
      refine ih (s.setIfInBounds j true) (a.put o'.dst u) (inv.set hj hjn) (fun k ok hk hki hku hno => hfree k ok hk hki ?_ hno) (ready_mono hr (Ne.symm hji))
        (fun hiq => (hy hiq).put hsi (fun a' => execOp_put oi hsi a' o'.dst u h3) (fun a' => wanted_put oi a' o'.dst u h3)) (fun v hv => ?_)
      · by_cases hjk : j = k
        · subst hjk; exact hjun
        · rw [getD_set_ne true hjk] at hku; exact hku
      · obtain ⟨_, o'', ho'', _, hK⟩ := (H v hv).2 j (ready_mono hj hji)
        obtain rfl : o'' = o' := Option.some.inj (ho''.symm.trans hoj)
        have := hK u hu
        rw [Act.put_comm a v u h2] at this
        rw [Array.setIfInBounds_comm _ _ hji]
        exact this

theorem put_ne {a : Act} {x : Option Tmp} {d : Tmp} (v : Value) (h : x ≠ some d) : (a.put x v).tmps.getD d undef = a.tmps.getD d undef := by
  cases x with
  | none => rfl
  | some e =>
    have hne : e ≠ d := fun k => h (by rw [k])
    simp [Act.put, Array.getElem?_setIfInBounds_ne hne]
theorem put_same {a : Act} {d : Tmp} (v : Value) (h : d < a.tmps.size) : (a.put (some d) v).tmps.getD d undef = v := by
  simp [Act.put, h]
theorem put_size (a : Act) (x : Option Tmp) (v : Value) : (a.put x v).tmps.size = a.tmps.size := by
  cases x <;> simp [Act.put]
theorem quiet_slot {C : World → Prop} {d : Tmp} : ∀ (l : List Oper) (a : Act), (∀ o, o ∈ l → o.dst ≠ some d) → wpQuiet P ops C (fun a' => a' = aF) l a → aF.tmps.getD d undef = a.tmps.getD d undef
  | [], a, _, h => by rw [show a = aF from h]
  | o :: l, a, hl, h => by
    unfold wpQuiet at h
    split at h
    · obtain ⟨v, _, hn⟩ := h
      rw [quiet_slot l _ (fun o' ho' => hl o' (List.mem_cons_of_mem _ ho')) hn, put_ne v (hl o (List.mem_cons_self ..))]
    · rw [quiet_slot l _ (fun o' ho' => hl o' (List.mem_cons_of_mem _ ho')) h, put_ne _ (hl o (List.mem_cons_self ..))]

/-- The new blocks' slots. -/
def putL : Act → List Oper → List Nat → Act
  | a, o :: os, b :: bs => putL (a.put o.dst (ptr b)) os bs
  | a, _, _ => a
theorem putL_ne {d : Tmp} : ∀ (os : List Oper) (bs : List Nat) (a : Act), (∀ o, o ∈ os → o.dst ≠ some d) → (putL a os bs).tmps.getD d undef = a.tmps.getD d undef
  | o :: os, b :: bs, a, h => by
    rw [putL, putL_ne os bs _ fun o' ho' => h o' (List.mem_cons_of_mem _ ho')]
    exact put_ne _ (h o (List.mem_cons_self ..))
  | [], _, a, h => rfl
  | o :: os, [], a, h => rfl
theorem putL_get {sz : Nat} : ∀ (os : List Oper) (bs : List Nat) (a : Act) (k : Nat) (o : Oper) (d : Tmp) (b : Nat), a.tmps.size = sz → d < sz → os[k]? = some o → o.dst = some d → bs[k]? = some b →
    (∀ j oj, os[j]? = some oj → j ≠ k → oj.dst ≠ some d) → (putL a os bs).tmps.getD d undef = ptr b
  | [], _, _, k, o, d, b, _, _, h, _, _, _ => by simp at h
  | o' :: os, [], _, k, o, d, b, _, _, _, _, h, _ => by simp at h
  | o' :: os, b' :: bs, a, 0, o, d, b, hz, hd, h1, h2, h3, h4 => by
    simp at h1 h3
    subst h1 h3
    rw [putL, putL_ne os bs _ fun o1 ho1 => by
      obtain ⟨j, hj⟩ := List.getElem?_of_mem ho1
      exact h4 (j + 1) o1 (by simpa using hj) (by omega), h2]
    exact put_same _ (by rw [hz]; exact hd)
  | o' :: os, b' :: bs, a, k + 1, o, d, b, hz, hd, h1, h2, h3, h4 => by
    rw [putL]
    exact putL_get os bs _ k o d b (by rw [put_size, hz]) hd (by simpa using h1) h2 (by simpa using h3) fun j oj hj hne => h4 (j + 1) oj (by simpa using hj) (by omega)

theorem anyF_news {g : Nat} {news : List Oper} (hsel : Region.noSelect ops = true) (hs : Region.sinkB md ops n = true) (hc : Region.chainB md ops n = true) (hn : n < ops.size) :
    ∀ (l : List Oper) (k : Nat) (s : Array Bool) (a : Act), (∀ j, j < l.length → l[j]? = ops[k + j]?) → q ≤ k → k + l.length = n → HeadInv md ops n s →
    Region.lexHead md ops g l.length k s = true → (∀ cs : List Nat, cs.length = l.length → ∃ bs : List Nat, bs.length = news.length ∧ putL a l cs = putL aF news bs) →
    anyF P md ops S aF q n (fun s' a' => Region.seqB md ops g n s' = true ∧ HeadInv md ops n s' ∧ ∃ bs : List Nat, bs.length = news.length ∧ a' = putL aF news bs) l.length s a
  | [], k, s, a, _, _, hk, inv, hB, hT => by
    obtain rfl : k = n := by simpa using hk
    obtain ⟨bs, h1, h2⟩ := hT [] rfl
    exact ⟨by simpa [Region.lexHead] using hB, inv, bs, h1, h2⟩
  | o :: l, k, s, a, hl, hq, hk, inv, hB, hT => by
    have h0 : ops[k]? = some o := by simpa using (hl 0 (by simp)).symm
    simp only [List.length_cons, Region.lexHead, Bool.and_eq_true] at hB
    simp only [List.length_cons] at hk
    have hr : k ∈ Region.ready md ops s := by simpa using hB.1.1
    refine anyF_first h0 (Region.noSelect_spec hsel) hs hc hn (by omega) (fun s' a' hL => seqB_ready hL.1) l.length s a inv (Region.free_spec h0 hB.1.2) hr (fun h => absurd h (by omega)) (fun v hv => ?_)
    rcases hv with ⟨hv, _⟩ | ⟨_, b, rfl⟩
    · omega
    refine anyF_news hsel hs hc hn l (k + 1) _ _ (fun j hj => by have := hl (j + 1) (by simp; omega); simpa [Nat.add_assoc, Nat.add_comm 1 j] using this) (by omega) (by omega) (inv.set hr (by omega)) hB.2 (fun cs hcs => ?_)
    obtain ⟨bs, h1, h2⟩ := hT (b :: cs) (by simp [hcs])
    exact ⟨bs, h1, by rw [← h2, putL]⟩

theorem anyF_head {g sz : Nat} {news : List Oper} (hsel : Region.noSelect ops = true) (hs : Region.sinkB md ops n = true) (hc : Region.chainB md ops n = true) (hn : n < ops.size) (hown : ownB ops n sz = true) (hqn : q + news.length = n) :
    ∀ (hd : List Oper) (k : Nat) (s : Array Bool) (a : Act), (∀ j, j < (hd ++ news).length → (hd ++ news)[j]? = ops[k + j]?) → k + hd.length = q → HeadInv md ops n s →
    Region.lexHead md ops g (hd ++ news).length k s = true → a.tmps.size = sz →
    (∀ S' : World → Prop, (∀ w, S' w → S w) → Stay S' → wpQuiet P ops (fun w' => ∃ y : Wd S', w' = y.w) (fun a' => a' = aF) hd a) →
    anyF P md ops S aF q n (fun s' a' => Region.seqB md ops g n s' = true ∧ HeadInv md ops n s' ∧ ∃ bs : List Nat, bs.length = news.length ∧ a' = putL aF news bs) (hd ++ news).length s a
  | [], k, s, a, hl, hk, inv, hB, hz, hW => by
    obtain rfl : a = aF := hW (fun _ => False) (fun _ h => h.elim) (fun _ _ h => h.elim)
    exact anyF_news hsel hs hc hn news k s a (by simpa using hl) (by simp at hk; omega) (by simp at hk; omega) inv (by simpa using hB) fun cs hcs => ⟨cs, hcs, rfl⟩
  | o :: hd, k, s, a, hl, hk, inv, hB, hz, hW => by
    have h0 : ops[k]? = some o := by simpa using (hl 0 (by simp)).symm
    simp only [List.cons_append, List.length_cons, Region.lexHead, Bool.and_eq_true] at hB
    simp only [List.length_cons] at hk
    have hr : k ∈ Region.ready md ops s := by simpa using hB.1.1
    have hl' : ∀ j, j < (hd ++ news).length → (hd ++ news)[j]? = ops[k + 1 + j]? := fun j hj => by have := hl (j + 1) (by simp at hj ⊢; omega); simpa [Nat.add_assoc, Nat.add_comm 1 j] using this
    obtain ⟨o', d, ho', hdst, hd1, hd2⟩ := ownB_dst hown (show k < n by omega)
    obtain rfl : o' = o := Option.some.inj (ho'.symm.trans h0)
    have hoth : ∀ o2, o2 ∈ hd → o2.dst ≠ some d := fun o2 ho2 => by
      obtain ⟨j, hj⟩ := List.getElem?_of_mem ho2
      have hjl : j < hd.length := (List.getElem?_eq_some_iff.1 hj).1
      have := hl' j (by simp; omega)
      rw [List.getElem?_append_left hjl, hj] at this
      exact hd2 (k + 1 + j) o2 (by omega) this.symm (by omega)
    have key : ∀ S' : World → Prop, (∀ w, S' w → S w) → Stay S' → YieldsIn P ops (fun w' => ∃ y : Wd S', w' = y.w) o' (slotOf aF o') a ∧ wpQuiet P ops (fun w' => ∃ y : Wd S', w' = y.w) (fun a' => a' = aF) hd (a.put o'.dst (slotOf aF o')) := fun S' h1 h2 => by
      obtain ⟨v, hy, hK⟩ := yieldsIn_of_qOp h0 (show qOp P ops (fun w' => ∃ y : Wd S', w' = y.w) k (wpQuiet P ops (fun w' => ∃ y : Wd S', w' = y.w) (fun a' => a' = aF) hd) a by unfold qOp; simp only [h0]; exact hW S' h1 h2)
      have e := quiet_slot hd _ hoth hK
      rw [hdst, put_same v (by rw [hz]; exact hd1)] at e
      have e2 : slotOf aF o' = v := by unfold slotOf; rw [hdst]; exact e
      rw [e2]
      exact ⟨hy, hK⟩
    refine anyF_first h0 (Region.noSelect_spec hsel) hs hc hn (by omega) (fun s' a' hL => seqB_ready hL.1) (hd ++ news).length s a inv (Region.free_spec h0 hB.1.2) hr (fun _ S' h1 h2 => (key S' h1 h2).1) (fun v hv => ?_)
    rcases hv with ⟨_, rfl⟩ | ⟨hv, _⟩
    · exact anyF_head hsel hs hc hn hown hqn hd (k + 1) _ _ hl' (by omega) (inv.set hr (by omega)) hB.2 (by rw [put_size, hz]) fun S' h1 h2 => (key S' h1 h2).2
    · omega

theorem Rw.below {x : Rw} {w w' : World} (h : x.at w) (k : Below w.heap.size w w') : x.at w' :=
  ((KR.mk (Below.refl _ _) (fun y hy => by obtain rfl := List.mem_singleton.1 hy; exact h) : KR w [x] w).below k).al x (List.mem_singleton.2 rfl)

/-- What holds on the way: the class, and the blocks that have come up. -/
structure Inv (ops : Array Oper) (S : World → Prop) (z : Nat → List Value) (B0 q n sz : Nat) (s : Array Bool) (a : Act) (w : World) : Prop where
  hS : S w
  hB : B0 ≤ w.heap.size
  hz : a.tmps.size = sz
  al : ∀ k o d, ops[q + k]? = some o → q + k < n → s.getD (q + k) false = true → o.dst = some d → ∃ b, a.tmps.getD d undef = ptr b ∧ (⟨b, z k⟩ : Rw).at w ∧ B0 ≤ b
  di : ∀ j k oj ok dj dk, j ≠ k → ops[q + j]? = some oj → ops[q + k]? = some ok → q + j < n → q + k < n → s.getD (q + j) false = true → s.getD (q + k) false = true → oj.dst = some dj → ok.dst = some dk → a.tmps.getD dj undef ≠ a.tmps.getD dk undef
theorem ptr_inj {a b : Nat} (h : ptr a = ptr b) : a = b := by
  unfold ptr at h
  injection h with h
  injection h with h
  injection h

theorem anyF_out {g sz B0 : Nat} {z : Nat → List Value} {L : Array Bool → Act → Prop} {Q : Exit → Act → World → Prop} (hown : ownB ops n sz = true) (hSt : Stay S)
    (hNew : ∀ k o, ops[q + k]? = some o → q + k < n → o.guard = none ∧ ∃ ty, ∀ (a : Act) w, (execOp a.eval o).run P w = .ok (.value (ptr w.heap.size)) (w.alloc (.cells (z k).toArray ty)))
    (hL : ∀ s a w, Inv ops S z B0 q n sz s a w → L s a → wpAny P md ops Q g s a w) :
    ∀ (f : Nat) (s : Array Bool) (a : Act) (w : World), Inv ops S z B0 q n sz s a w → anyF P md ops S aF q n L f s a → wpAny P md ops Q (f + g) s a w
  | 0, s, a, w, hi, h => by rw [Nat.zero_add]; exact hL _ _ _ hi h
  | f + 1, s, a, w, hi, h => by
    rw [show f + 1 + g = (f + g) + 1 by omega]
    refine ⟨fun h0 => absurd h0 h.1, fun i hir => ?_⟩
    obtain ⟨hin, o, ho, hok, hK⟩ := h.2 i hir
    obtain ⟨o', d, ho', hdst, hd1, hd2⟩ := ownB_dst hown hin
    obtain rfl : o' = o := Option.some.inj (ho'.symm.trans ho)
    have hun := (mem_ready.1 hir).1
    by_cases hq : i < q
    · have hcl : ∀ w', (S w' ∧ B0 ≤ w'.heap.size ∧ ∀ k o d b, ops[q + k]? = some o → q + k < n → s.getD (q + k) false = true → o.dst = some d → a.tmps.getD d undef = ptr b → (⟨b, z k⟩ : Rw).at w') →
          Inv ops S z B0 q n sz (s.setIfInBounds i true) (a.put o'.dst (slotOf aF o')) w' := fun w' ⟨g1, g2, g3⟩ => by
        have hs : ∀ k ok dk, ops[q + k]? = some ok → q + k < n → ok.dst = some dk → (a.put o'.dst (slotOf aF o')).tmps.getD dk undef = a.tmps.getD dk undef := fun k ok dk hk hkn hdk =>
          put_ne _ (by rw [hdst]; intro e; rw [Option.some.inj e] at hd2; exact hd2 (q + k) ok hkn hk (by omega) hdk)
        refine ⟨g1, g2, by rw [put_size]; exact hi.hz, fun k ok dk hk hkn hkl hdk => ?_, fun j k oj ok dj dk hjk hj hk hjn hkn hjl hkl hdj hdk => ?_⟩
        · rw [getD_set_ne false (by omega)] at hkl
          obtain ⟨b, e1, e2, e3⟩ := hi.al k ok dk hk hkn hkl hdk
          exact ⟨b, by rw [hs k ok dk hk hkn hdk]; exact e1, g3 k ok dk b hk hkn hkl hdk e1, e3⟩
        · rw [getD_set_ne false (by omega)] at hjl hkl
          rw [hs j oj dj hj hjn hdj, hs k ok dk hk hkn hdk]
          exact hi.di j k oj ok dj dk hjk hj hk hjn hkn hjl hkl hdj hdk
      have hy := hok hq (fun w' => S w' ∧ B0 ≤ w'.heap.size ∧ ∀ k o d b, ops[q + k]? = some o → q + k < n → s.getD (q + k) false = true → o.dst = some d → a.tmps.getD d undef = ptr b → (⟨b, z k⟩ : Rw).at w')
        (fun w' h => h.1) (fun w1 w2 ⟨g1, g2, g3⟩ hb => ⟨hSt _ _ g1 hb, Nat.le_trans g2 hb.size, fun k o d b h1 h2 h3 h4 h5 => Rw.below (g3 k o d b h1 h2 h3 h4 h5) hb⟩)
      have hrow : ∀ k o d b, ops[q + k]? = some o → q + k < n → s.getD (q + k) false = true → o.dst = some d → a.tmps.getD d undef = ptr b → (⟨b, z k⟩ : Rw).at w := fun k o d b h1 h2 h3 h4 h5 => by
        obtain ⟨b', e1, e2, _⟩ := hi.al k o d h1 h2 h3 h4
        rw [h5] at e1
        rw [ptr_inj e1]
        exact e2
      refine wpOp_of_qOp (K := fun a' => a' = a.put o'.dst (slotOf aF o')) ⟨⟨w, hi.hS, hi.hB, hrow⟩, rfl⟩ (fun a' w' hw' ha' => ?_) (hy.qOp ho rfl)
      obtain ⟨y, rfl⟩ := hw'
      subst ha'
      exact anyF_out hown hSt hNew hL f _ _ _ (hcl y.w y.h) (hK _ (.inl ⟨hq, rfl⟩))
    · obtain ⟨k, rfl⟩ : ∃ k, i = q + k := ⟨i - q, by omega⟩
      obtain ⟨hg, ty, hrun⟩ := hNew k o' ho hin
      have hsz : s.size > q + k := by
        refine Nat.lt_of_not_le fun hle => ?_
        simp [Array.getElem?_eq_none hle] at hun
      unfold wpOp
      simp only [ho]
      rw [if_pos (by simp [Region.wanted, hg])]
      refine .inl ?_
      unfold Oper.wp
      rw [hrun a w]
      refine anyF_out hown hSt hNew hL f _ _ _ ?_ (hK _ (.inr ⟨hq, _, rfl⟩))
      have hbl := (Below.refl w.heap.size w).alloc (Nat.le_refl _) (.cells (z k).toArray ty)
      have hs : ∀ j oj dj, j ≠ k → ops[q + j]? = some oj → q + j < n → oj.dst = some dj → (a.put o'.dst (ptr w.heap.size)).tmps.getD dj undef = a.tmps.getD dj undef := fun j oj dj hjk hj hjn hdj =>
        put_ne _ (by rw [hdst]; intro e; rw [Option.some.inj e] at hd2; exact hd2 (q + j) oj hjn hj (by omega) hdj)
      have hme : (a.put o'.dst (ptr w.heap.size)).tmps.getD d undef = ptr w.heap.size := by rw [hdst]; exact put_same _ (by rw [hi.hz]; exact hd1)
      have hfar : ∀ j oj dj, ops[q + j]? = some oj → q + j < n → s.getD (q + j) false = true → oj.dst = some dj → a.tmps.getD dj undef ≠ ptr w.heap.size := fun j oj dj hj hjn hjl hdj e => by
        obtain ⟨b, e1, e2, _⟩ := hi.al j oj dj hj hjn hjl hdj
        rw [e1] at e
        have := e2.1
        rw [ptr_inj e] at this
        exact Nat.lt_irrefl _ this
      refine ⟨hSt _ _ hi.hS hbl, Nat.le_trans hi.hB hbl.size, by rw [put_size]; exact hi.hz, fun j oj dj hj hjn hjl hdj => ?_, fun j1 j2 o1 o2 d1 d2 hne h1 h2 hn1 hn2 hl1 hl2 hd1' hd2' => ?_⟩
      · by_cases hjk : j = k
        · subst hjk
          obtain rfl : oj = o' := Option.some.inj (hj.symm.trans ho)
          obtain rfl : dj = d := Option.some.inj (hdj.symm.trans hdst)
          exact ⟨w.heap.size, hme, Rw.new w (z j) ty, hi.hB⟩
        · rw [getD_set_ne false (by omega)] at hjl
          obtain ⟨b, e1, e2, e3⟩ := hi.al j oj dj hj hjn hjl hdj
          exact ⟨b, by rw [hs j oj dj hjk hj hjn hdj]; exact e1, Rw.below e2 hbl, e3⟩
      · by_cases e1 : j1 = k
        · subst e1
          obtain rfl : o1 = o' := Option.some.inj (h1.symm.trans ho)
          obtain rfl : d1 = d := Option.some.inj (hd1'.symm.trans hdst)
          rw [getD_set_ne false (by omega)] at hl2
          rw [hme, hs j2 o2 d2 (Ne.symm hne) h2 hn2 hd2']
          exact Ne.symm (hfar j2 o2 d2 h2 hn2 hl2 hd2')
        · rw [getD_set_ne false (by omega)] at hl1
          rw [hs j1 o1 d1 e1 h1 hn1 hd1']
          by_cases e2 : j2 = k
          · subst e2
            obtain rfl : o2 = o' := Option.some.inj (h2.symm.trans ho)
            obtain rfl : d2 = d := Option.some.inj (hd2'.symm.trans hdst)
            rw [hme]
            exact hfar j1 o1 d1 h1 hn1 hl1 hd1'
          · rw [getD_set_ne false (by omega)] at hl2
            rw [hs j2 o2 d2 e2 h2 hn2 hd2']
            exact hi.di j1 j2 o1 o2 d1 d2 hne h1 h2 hn1 hn2 hl1 hl2 hd1' hd2'
end

/-- The region: q operations that read or call what writes nothing old; m new blocks; the rest in the order of the text. -/
theorem new_any {P : Program} (S : World → Prop) {Q : Exit → Act → World → Prop} {a aF : Act} {w : World} {l : List Oper} (q m : Nat) (z : Nat → List Value) (B0 : Nat)
    (hB : (Region.lexTailB .any l.toArray (q + m) && ownB l.toArray (q + m) a.tmps.size) = true) (h0 : S w.drew) (hB0 : B0 ≤ w.drew.heap.size) (hSt : Stay S)
    (hNew : ∀ k o, k < m → l[q + k]? = some o → o.guard = none ∧ ∃ ty, ∀ (a : Act) w, (execOp a.eval o).run P w = .ok (.value (ptr w.heap.size)) (w.alloc (.cells (z k).toArray ty)))
    (hW : ∀ S' : World → Prop, (∀ w, S' w → S w) → Stay S' → wpQuiet P l.toArray (fun w' => ∃ y : Wd S', w' = y.w) (fun a' => a' = aF) (l.take q) a)
    (hT : ∀ (bs : List Nat) (w' : World), bs.length = m → S w' → (∀ k b, bs[k]? = some b → (⟨b, z k⟩ : Rw).at w' ∧ B0 ≤ b) → (∀ (j k b c : Nat), j < k → bs[j]? = some b → bs[k]? = some c → b ≠ c) → wpList P l.toArray Q (l.drop (q + m)) (putL aF ((l.drop q).take m) bs) w') :
    wpAny P .any l.toArray Q l.toArray.size (Array.replicate l.toArray.size false) a w.drew := by
  rw [Bool.and_eq_true] at hB
  obtain ⟨hB, hown⟩ := hB
  simp only [Region.lexTailB, Bool.and_eq_true, decide_eq_true_eq] at hB
  obtain ⟨⟨⟨⟨hsel, hn⟩, hs⟩, hc⟩, hlex⟩ := hB
  have hn' : q + m < l.length := by simpa using hn
  have hln : ((l.drop q).take m).length = m := by simp; omega
  have hlq : (l.take q).length = q := by simp; omega
  have happ : l.take q ++ (l.drop q).take m = l.take (q + m) := by rw [List.take_add]
  have htl : (l.take q ++ (l.drop q).take m).length = q + m := by rw [List.length_append, hlq, hln]
  have hdl : (l.drop (q + m)).length = l.toArray.size - (q + m) := by simp
  have inv0 : HeadInv .any l.toArray (q + m) (Array.replicate l.toArray.size false) :=
    ⟨by simp, fun j oj _ hl => (by rw [getD_replicate_false] at hl; cases hl), fun t _ ht => getD_in (by simpa using ht) (getD_replicate_false _ _)⟩
  have H := anyF_head (P := P) (S := S) (aF := aF) (md := .any) (q := q) (g := l.toArray.size - (q + m)) hsel hs hc hn hown (news := (l.drop q).take m) (by rw [hln]) (l.take q) 0 (Array.replicate l.toArray.size false) a (fun j hj => by
    rw [happ]
    have hj' : j < q + m := by rw [htl] at hj; exact hj
    simp [hj']) (by rw [hlq, Nat.zero_add]) inv0 (by rw [htl]; exact hlex) rfl hW
  have nk : ∀ k o, l.toArray[q + k]? = some o → q + k < q + m → ((l.drop q).take m)[k]? = some o := fun k o ho hk => by
    rw [List.getElem?_take_of_lt (by omega), List.getElem?_drop]
    simpa using ho
  have := anyF_out (Q := Q) (g := l.toArray.size - (q + m)) (B0 := B0) (z := z) hown hSt (fun k o ho hk => hNew k o (by omega) (by simpa using ho)) (fun s a' w' hi hL => by
    obtain ⟨hseq, hinv, bs, hbl, rfl⟩ := hL
    have hlist : ∀ i, i < q + m → s.getD i false = true := fun i hi' => by
      cases e : s.getD i false with
      | true => rfl
      | false =>
        have hr : q + m ∈ Region.ready .any l.toArray s := by
          have e : l.toArray.size - (q + m) = (l.toArray.size - (q + m) - 1) + 1 := by omega
          rw [e] at hseq
          simp only [Region.seqB, Bool.and_eq_true, decide_eq_true_eq] at hseq
          rw [hseq.1]; simp
        exact absurd hr (tail_waits hs hc hn hinv _ i rfl hi' (getD_in (by rw [hinv.size]; omega) e) (q + m) (Nat.le_refl _))
    have hget : ∀ k b, bs[k]? = some b → ∃ o d, l.toArray[q + k]? = some o ∧ k < m ∧ o.dst = some d ∧ (putL aF ((l.drop q).take m) bs).tmps.getD d undef = ptr b := fun k b hb => by
      have hk : k < m := by have := (List.getElem?_eq_some_iff.1 hb).1; omega
      obtain ⟨o, d, ho, hdst, hd1, hd2⟩ := ownB_dst hown (show q + k < q + m by omega)
      refine ⟨o, d, ho, hk, hdst, putL_get (sz := a.tmps.size) _ _ _ k o d b ?_ hd1 (nk k o ho (by omega)) hdst hb fun j oj hj hjk => ?_⟩
      · have hh := hi.hz
        have : ∀ (os : List Oper) (bs : List Nat) (x : Act), (putL x os bs).tmps.size = x.tmps.size := fun os => by
          induction os with
          | nil => intro bs x; cases bs <;> rfl
          | cons o os ih => intro bs x; cases bs with
            | nil => rfl
            | cons b bs => rw [putL, ih, put_size]
        rwa [this] at hh
      · have hjm : j < m := by have := (List.getElem?_eq_some_iff.1 hj).1; omega
        rw [List.getElem?_take_of_lt hjm, List.getElem?_drop] at hj
        exact hd2 (q + j) oj (by omega) (by simpa using hj) (by omega)
    have := wpAny_of_seq (md := .any) (Q' := Q) (l.drop (q + m)) (q + m) s _ w' (fun j => by simp [List.getElem?_drop]) (by rw [hdl]; exact hseq) (hT bs w' (by rw [hbl, hln]) hi.hS (fun k b hb => by
      obtain ⟨o, d, ho, hk, hdst, e⟩ := hget k b hb
      obtain ⟨b', e1, e2, e3⟩ := hi.al k o d ho (by omega) (hlist _ (by omega)) hdst
      rw [e] at e1
      rw [ptr_inj e1]
      exact ⟨e2, e3⟩) (fun j k b c hjk hj1 hk1 => by
        obtain ⟨o1, d1, ho1, hm1, hdst1, e1⟩ := hget j _ hj1
        obtain ⟨o2, d2, ho2, hm2, hdst2, e2⟩ := hget k _ hk1
        have hne := hi.di j k o1 o2 d1 d2 (by omega) ho1 ho2 (by omega) (by omega) (hlist _ (by omega)) (hlist _ (by omega)) hdst1 hdst2
        rw [e1, e2] at hne
        intro e
        exact hne (by rw [e])))
    rwa [hdl] at this) _ _ _ w.drew ⟨h0, hB0, rfl, fun k o d _ _ hl => (by rw [getD_replicate_false] at hl; cases hl), fun j k oj ok dj dk _ _ _ _ _ hl => (by rw [getD_replicate_false] at hl; cases hl)⟩ H
  rw [htl, show q + m + (l.toArray.size - (q + m)) = l.toArray.size by omega] at this
  exact this
theorem region_new {P : Program} (S : World → Prop) {id : Nat} {Q : Exit → Act → World → Prop} {a aF : Act} {w : World} {l : List Oper} (q m : Nat) (z : Nat → List Value) (B0 : Nat) (hm : P.follows .mixedOrders = true)
    (hB : (Region.lexTailB .any l.toArray (q + m) && ownB l.toArray (q + m) a.tmps.size) = true) (h0 : S w.drew) (hB0 : B0 ≤ w.drew.heap.size) (hSt : Stay S)
    (hNew : ∀ k o, k < m → l[q + k]? = some o → o.guard = none ∧ ∃ ty, ∀ (a : Act) w, (execOp a.eval o).run P w = .ok (.value (ptr w.heap.size)) (w.alloc (.cells (z k).toArray ty)))
    (hW : ∀ S' : World → Prop, (∀ w, S' w → S w) → Stay S' → wpQuiet P l.toArray (fun w' => ∃ y : Wd S', w' = y.w) (fun a' => a' = aF) (l.take q) a)
    (hT : ∀ (bs : List Nat) (w' : World), bs.length = m → S w' → (∀ k b, bs[k]? = some b → (⟨b, z k⟩ : Rw).at w' ∧ B0 ≤ b) → (∀ (j k b c : Nat), j < k → bs[j]? = some b → bs[k]? = some c → b ≠ c) → wpList P l.toArray Q (l.drop (q + m)) (putL aF ((l.drop q).take m) bs) w') :
    (Code.region id l.toArray true).wp P Q a w := wp_region_any hm (new_any S q m z B0 hB h0 hB0 hSt hNew hW hT)
end Go.Proofs.YtdkggahkfheocaaGreatDoor
namespace Go.Proofs.YtdkggahkfheocaaGreatDoor
set_option maxRecDepth 100000
open Go.RowKit Go.Lib
set_option linter.unusedVariables false

/-- What comes of one jump: what is wrong, or 0, and the words. -/
def linkV (labs : List (List UInt8 × Nat)) (ws : List Int) (k : Nat) (lab : List UInt8) (n : Nat) : Int × List Int := match linkOne labs k (ws.getD k 0) lab n with
  | .error (c, _) => (c, ws)
  | .ok x => (0, ws.set k x)
def LinkPost (W : World) (X : List Rw) (gs mb : Nat) (js : List (Nat × Nat × List UInt8)) (labs : List (List UInt8 × Nat)) (R : Int × List Int) (vw vj : Value) (e : Ending) (w' : World) : Prop :=
  e = .returned (.int .i64 R.1) ∧ PS W X gs mb R.2 js labs vw vj w'
theorem PS.setW {W w : World} {X : List Rw} {gs mb : Nat} {ws : List Int} {js : List (Nat × Nat × List UInt8)} {labs : List (List UInt8 × Nat)} {vj : Value} {g n cap : Nat}
    (h : PS W X gs mb ws js labs (.slice (some ⟨g, 0, none⟩) n cap) vj w) (hn : n = ws.length) (k : Nat) (x : Int) : PS W X gs mb (ws.set k x) js labs (.slice (some ⟨g, 0, none⟩) n cap) vj (w.setCell ⟨g, k, none⟩ (wV x)) := by
  subst hn
  obtain ⟨ho, hgr⟩ := h.ow.stored k (wV x)
  have hd1 : g ≠ gs := fun e => h.d1 (by simp [Value.ownBlock, e])
  refine ⟨h.k.far (h.ow.lt g rfl).1 (fun x hx e => ?_) k _, ?_, h.oj.kept hgr ?_, lm_cell h.m g k _ (fun e => h.d2 (by simp [Value.ownBlock, e])), h.d1, h.d2, h.d3, h.d4, h.d5, h.d6, h.d7, h.hg, h.hm⟩
  · rcases List.mem_cons.1 hx with rfl | hx
    · exact hd1 e.symm
    · exact (h.d6 x hx).1 (by simp [Value.ownBlock, e])
  · rw [List.length_set, List.map_set]
    exact ho
  · cases hv : vj.ownBlock with
    | none => exact .inl rfl
    | some q => exact .inr (fun e => h.d5 g rfl (by rw [hv, e]))
set_option maxHeartbeats 8000000 in
theorem link_any (W w : World) (X : List Rw) (gs mb : Nat) (ws : List Int) (js : List (Nat × Nat × List UInt8)) (labs : List (List UInt8 × Nat)) (vw vj : Value) (h : PS W X gs mb ws js labs vw vj w) (hT : T8 W) (n k : Nat) (lab : List UInt8) (hk : k < ws.length) (hw : ws.length ≤ 4096) (hw32 : W32 ws) (hlab : lab.length ≤ 32768)
    (hp : ∀ p, labF labs lab = some p → p ≤ 4096) (hn : n ≤ 40000) :
    Calls Tryz.prog 48 #[.pointer (some ⟨gs, 0, none⟩), .agg #[.int .i64 n, .int .i64 k, .string ⟨lab.toArray⟩]] w (LinkPost W X gs mb js labs (linkV labs ws k lab n) vw vj) := by
  obtain ⟨D, hD⟩ : ∃ D, D = LinkPost W X gs mb js labs (linkV labs ws k lab n) vw vj := ⟨_, rfl⟩
  rw [← hD]
  replace hD := Lib.hid hD
  obtain ⟨g, cap, rfl, hgb, hgl⟩ := h.ow.form (by omega)
  -- the box of the jump
  have hb0 : Below w.heap.size w (w.alloc (.cells #[.int .i64 n, .int .i64 k, .string ⟨lab.toArray⟩] 89)) := (Below.refl _ _).alloc (Nat.le_refl _) _
  have H1 := h.below hb0
  have KB := h.k.push [.int .i64 n, .int .i64 k, .string ⟨lab.toArray⟩] 89
  obtain ⟨w1, hw1⟩ : ∃ w1, w1 = w.alloc (.cells #[.int .i64 n, .int .i64 k, .string ⟨lab.toArray⟩] 89) := ⟨_, rfl⟩
  have KB1 : KR W (⟨w.heap.size, [.int .i64 n, .int .i64 k, .string ⟨lab.toArray⟩]⟩ :: ⟨gs, [.slice (some ⟨g, 0, none⟩) ws.length cap, .map (some mb), vj]⟩ :: X) w1 := by rw [hw1]; exact KB
  rw [← hw1] at H1
  have hsm : lab.length ≤ maxLen := by unfold maxLen; omega
  have hL := fun (m : Nat) => (H1.below (below_drewN (Below.refl _ _) m)).m.look lab hsm
  obtain ⟨c0, c1, c2, f0, f2⟩ := H1.cells
  have b0 : w1.cell? ⟨w.heap.size, 0, none⟩ = some (.int .i64 n) := KB1.cell _ (List.mem_cons_self ..) rfl
  have b1 : w1.cell? ⟨w.heap.size, 1, none⟩ = some (.int .i64 k) := KB1.cell _ (List.mem_cons_self ..) rfl
  have b2 : w1.cell? ⟨w.heap.size, 2, none⟩ = some (.string ⟨lab.toArray⟩) := KB1.cell _ (List.mem_cons_self ..) rfl
  have hVd : linkV labs ws k lab n = match linkOne labs k (ws.getD k 0) lab n with
    | .error (c, _) => (c, ws)
    | .ok x => (0, ws.set k x) := rfl
  unfold linkOne at hVd
  replace hT := Lib.hid hT
  replace H1 := Lib.hid H1
  replace KB1 := Lib.hid KB1
  clear hb0 KB hsm
  cases hf : labF labs lab with
  | none =>
    rw [hf] at hVd
    simp only [hf, Option.isSome_none, Option.getD_none] at hL
    replace hVd := Lib.hid hVd
    clear hp hf h hk hw hn hlab
    replace hw1 := Lib.hid hw1
    go_enter Tryz.func48, Tryz.ntmps48
    go_wp2_with fail
    rw [← hw1.out]
    clear hw1
    go_quiet (fail)
    go_wp2
    rw [hD.out, hVd.out]
    exact (show _ ∧ _ from ⟨rfl, H1.out.below (below_drewN (Below.refl _ _) _)⟩)
  | some p =>
    have hp4 := hp p hf
    have hgd : ws.getD k 0 = ws[k] := by rw [List.getD_eq_getElem?_getD, List.getElem?_eq_getElem hk]; rfl
    rw [hf, hgd] at hVd
    simp only [hf, Option.isSome_some, Option.getD_some] at hL
    have hbd := hw32 ws[k] (List.getElem_mem hk)
    have hck : ∀ u, PS W X gs mb ws js labs (.slice (some ⟨g, 0, none⟩) ws.length cap) vj u → u.cell? ⟨g, k, none⟩ = some (.int .u32 ws[k]) ∧ u.frozen? ⟨g, k, none⟩ = false := fun u hu => by
      refine ⟨?_, hu.ow.frozenAt k⟩
      rw [hu.ow.cellAt k (by omega), List.getElem?_map, List.getElem?_eq_getElem hk]; rfl
    have hDec := fun u hu => pDecode_any ws[k] hbd.1 hbd.2 u hu
    unfold DecPost at hDec
    generalize ws[k] = x at *
    generalize decW x = i at *
    obtain ⟨op, a, b, c, m⟩ := i
    replace hDec : ∀ u, Tabs u → Calls Tryz.prog 24 #[.int .u32 x] u fun e w' => e = .returned (.agg #[.int .i64 op, .int .i64 a, .int .i64 b, .int .i64 c, .int .i64 m]) ∧ Below u.heap.size u w' := hDec
    have hEnc := fun u hu => pEncode_any op a b c ((p : Int) - (k : Int)) u hu
    replace hVd := Lib.hid hVd
    replace hw1 := Lib.hid hw1
    replace hck := Lib.hid hck
    replace hDec := Lib.hid hDec
    replace hEnc := Lib.hid hEnc
    have hkw : (k : Int) < (ws.length : Int) := by omega
    have hwl : (ws.length : Int) ≤ 4096 := by omega
    have hpi : (p : Int) ≤ 4096 := by omega
    have hkk := Lib.hid hk
    clear hp hf h hw hn hlab hgd hbd hp4 hk
    go_enter Tryz.func48, Tryz.ntmps48
    go_wp2_with fail
    rw [← hw1.out]
    clear hw1
    go_quiet (fail)
    go_wp2_with fail
    generalize hgbe : w.heap.size = gb at *
    obtain ⟨S, hS0⟩ : ∃ S : World → Prop, S = fun u => Below w1.heap.size w1 u := ⟨_, rfl⟩
    have hK : ∀ u, S u → Below w1.heap.size w1 u := fun u hu => by rw [hS0] at hu; exact hu
    have hSt : Stay S := fun u u' hu k => by rw [hS0] at hu ⊢; exact hu.trans (k.mono hu.size)
    have K0 : ∀ m, S (w1.drewN m) := fun m => by rw [hS0]; exact below_drewN (Below.refl _ _) m
    have hgs1 : gs < w1.heap.size := H1.out.k.lt (List.mem_cons_self ..)
    have hg1 : g < w1.heap.size := (H1.out.ow.lt g rfl).2
    have hgb1 : gb < w1.heap.size := KB1.out.lt (List.mem_cons_self ..)
    obtain ⟨e0, e1⟩ := hck.out w1 H1.out
    have K1 : ∀ m, S (w1.drewN m).drew := fun m => by rw [hS0]; exact (below_drewN (Below.refl _ _) m).drew
    clear hS0 hL
    refine region_new (aF := ?aF) S 9 1 (fun _ => [.int .i64 0, .int .i64 0, .int .i64 0, .int .i64 0, .int .i64 0]) w1.heap.size (by kernel_rfl) (by kernel_rfl) (K1 _) (Nat.le_refl _) hSt (fun k o hk ho => ?hN) (fun S' h1 h2 => ?hW) (fun bs w' hb hS hrow hdis => ?hT)
    case hW =>
      have a0 : ∀ y : Wd S', y.w.cell? ⟨gs, 0, none⟩ = some (.slice (some ⟨g, 0, none⟩) ws.length cap) := fun y => ((hK _ (h1 _ y.h)).cell (p := ⟨gs, 0, none⟩) hgs1).trans c0
      have a1 : ∀ y : Wd S', y.w.cell? ⟨gb, 1, none⟩ = some (.int .i64 k) := fun y => ((hK _ (h1 _ y.h)).cell (p := ⟨gb, 1, none⟩) hgb1).trans b1
      have a2 : ∀ y : Wd S', y.w.cell? ⟨g, k, none⟩ = some (.int .u32 x) := fun y => ((hK _ (h1 _ y.h)).cell (p := ⟨g, k, none⟩) hg1).trans e0
      have cD := Lib.hid (cls_call (S := S') fun u hu => (hDec.out u (hT.out.below (H1.out.below (hK _ (h1 _ hu))).k.bl).tabs).mono fun e u' k => (⟨k.1, h2 _ _ hu k.2⟩ : _ ∧ S' u'))
      simp only [List.take_succ_cons, List.take_zero]
      repeat (first
        | go_big_quiet_skip
        | (go_big_quiet_want
           go_big_quiet_op
           first
           | go_big_quiet_on
           | (apply Exists.intro
              refine ⟨fun y => ?_, ?_⟩
              · first | exact rfl | with_reducible exact cD.out y
              go_big_quiet_on)))
      refine wpQuiet_nil ?_
      exact rfl
    case hN =>
      obtain rfl : k = 0 := by omega
      simp only [List.getElem?_cons_succ, List.getElem?_cons_zero, Nat.add_zero, Option.some.injEq] at ho
      subst ho
      exact ⟨rfl, 49, fun a w => by kernel_rfl⟩
    case hT =>
      obtain ⟨b5, rfl⟩ : ∃ b5, bs = [b5] := List.length_eq_one_iff.1 hb
      obtain ⟨r1, r2⟩ := hrow 0 b5 rfl
      have hkr : KR w1 [⟨b5, [.int .i64 0, .int .i64 0, .int .i64 0, .int .i64 0, .int .i64 0]⟩] w' := ⟨hK _ hS, fun x hx => by
        rcases List.mem_cons.1 hx with rfl | hx
        · exact r1
        · cases hx⟩
      clear r1 hS hrow hdis hK hSt K0 K1 e0 e1
      obtain ⟨q0, q1, q2, q3, q4, q5⟩ := hkr.cells5 (g := b5) (List.mem_cons_self ..)
      have hks := hkr.set5 r2 (fun x hx => by cases hx) (.int .i64 op) (.int .i64 a) (.int .i64 b) (.int .i64 c) (.int .i64 m)
      replace hks := Lib.hid hks
      clear hkr
      simp only [List.drop_succ_cons, List.drop_zero, List.take_succ_cons, List.take_zero, putL, ptr]
      go_upto_region 5 with (fail)
      obtain ⟨w5, hw5⟩ : ∃ w5, w5 = (((((w'.setCell ⟨b5, 0, none⟩ (.int .i64 op)).setCell ⟨b5, 1, none⟩ (.int .i64 a)).setCell ⟨b5, 2, none⟩ (.int .i64 b)).setCell ⟨b5, 3, none⟩ (.int .i64 c)).setCell ⟨b5, 4, none⟩ (.int .i64 m)) := ⟨_, rfl⟩
      change Code.wp _ _ _ _ (((((w'.setCell ⟨b5, 0, none⟩ (.int .i64 op)).setCell ⟨b5, 1, none⟩ (.int .i64 a)).setCell ⟨b5, 2, none⟩ (.int .i64 b)).setCell ⟨b5, 3, none⟩ (.int .i64 c)).setCell ⟨b5, 4, none⟩ (.int .i64 m))
      rw [← hw5] at hks
      rw [← hw5]
      clear hw5 q0 q1 q2 q3 q4 q5
      have d1 : w5.cell? ⟨gb, 1, none⟩ = some (.int .i64 k) := (hks.out.bl.cell (p := ⟨gb, 1, none⟩) hgb1).trans b1
      have d4 : w5.cell? ⟨b5, 4, none⟩ = some (.int .i64 m) := hks.out.cell _ (List.mem_cons_self ..) rfl
      have df : w5.frozen? ⟨b5, 4, none⟩ = false := hks.out.soft (List.mem_cons_self ..) _
      have hk6 := hks.out.set r2 (fun x hx => by cases hx) 4 (.int .i64 ((p : Int) - k)) (by simp)
      obtain ⟨w6, hw6⟩ : ∃ w6, w6 = w5.setCell ⟨b5, 4, none⟩ (.int .i64 ((p : Int) - k)) := ⟨_, rfl⟩
      rw [← hw6] at hk6
      replace hk6 : KR w1 [⟨b5, [.int .i64 op, .int .i64 a, .int .i64 b, .int .i64 c, .int .i64 ((p : Int) - k)]⟩] w6 := hk6
      replace hk6 := Lib.hid hk6
      go_upto_region 6 with (fail)
      change Code.wp _ _ _ _ (w5.setCell ⟨b5, 4, none⟩ (.int .i64 ((p : Int) - k)))
      rw [← hw6]
      clear hw6 d1 d4 df hks
      obtain ⟨q0, q1, q2, q3, q4, q5⟩ := hk6.out.cells5 (g := b5) (List.mem_cons_self ..)
      have H6 := H1.out.below hk6.out.bl
      have hE6 := hEnc.out w6 (hT.out.below H6.k.bl).tabs
      cases hm : mayB ⟨op, a, b, c, (p : Int) - k⟩ with
      | false =>
        have hE7 := hE6.mono (R' := fun e u => e = .returned (.tuple #[.int .u32 0, .int .i64 2]) ∧ Below w6.heap.size w6 u) fun e u q => q.at_no hm
        have hVV := Lib.hid (hVd.out.trans (show (_ : Int × List Int) = (3, ws) from by simp only [hm]; rfl))
        replace hE7 := Lib.hid hE7
        replace H6 := Lib.hid H6
        clear hE6 hm
        go_wp2_with (refine hE7.out.mono ?_; rintro e w7 ⟨rfl, k7⟩; have H7 := Lib.hid (H6.out.below k7); clear k7)
        rw [hD.out, hVV.out]
        exact (show _ ∧ _ from ⟨rfl, H7.out⟩)
      | true =>
        have hE7 := hE6.mono (R' := fun e u => e = .returned (.tuple #[.int .u32 (encW ⟨op, a, b, c, (p : Int) - k⟩), .int .i64 0]) ∧ Below w6.heap.size w6 u) fun e u q => q.at_yes hm
        have hVV := Lib.hid (hVd.out.trans (show (_ : Int × List Int) = (0, ws.set k (encW ⟨op, a, b, c, (p : Int) - k⟩)) from by simp only [hm]; rfl))
        generalize encW ⟨op, a, b, c, (p : Int) - k⟩ = z at *
        replace hE7 := Lib.hid hE7
        replace H6 := Lib.hid H6
        clear hE6 hm
        go_wp2_with (refine hE7.out.mono ?_; rintro e w7 ⟨rfl, k7⟩; have H7 := H6.out.below k7; have hb7 := hk6.out.bl.trans (k7.mono hk6.out.bl.size); have s0 : w7.cell? ⟨gs, 0, none⟩ = some (.slice (some ⟨g, 0, none⟩) ws.length cap) := H7.cells.1; have s1 : w7.cell? ⟨gb, 1, none⟩ = some (.int .i64 k) := (hb7.cell (p := ⟨gb, 1, none⟩) hgb1).trans b1; obtain ⟨s2, s3⟩ := hck.out w7 H7; replace H7 := Lib.hid H7; clear k7 hb7)
        go_still_tail 8, (by kernel_rfl)
        change wpList _ _ _ _ _ w7.drew
        have H8 := Lib.hid ((H7.out.below (Below.refl _ _).drew).setW rfl k z)
        go_wp2
        rw [hD.out, hVV.out]
        exact (show _ ∧ _ from ⟨rfl, H8.out⟩)
end Go.Proofs.YtdkggahkfheocaaGreatDoor
namespace Go.Proofs.YtdkggahkfheocaaGreatDoor
set_option maxRecDepth 100000
open Go.RowKit Go.Lib
set_option linter.unusedVariables false

def AsmPost (W : World) (R : Except (Int × Nat) (List Int)) (e : Ending) (w' : World) : Prop := match R with
  | .error (c, n) => ∃ g, e = .returned (.tuple #[.slice none 0 0, .iface 36 (.pointer (some ⟨g, 0, none⟩))]) ∧ w'.heap[g]? = some (.cells #[.int .i64 c, .int .i64 (n : Int)] 54 (0, 0)) ∧ W.heap.size ≤ g ∧ Below W.heap.size W w'
  | .ok ws => ∃ v, e = .returned (.tuple #[v, .nilIface]) ∧ w'.ownsRow W.heap.size 24 1 v ws.length (ws.map wV) ∧ Below W.heap.size W w' ∧ W32 ws ∧ ws.length ≤ 4096
theorem take_fn : ∀ args w, (callFunc 42 args).run Tryz.prog w = .ok (.enter 42 args) w := fun args w => by kernel_rfl
theorem words_ok {st : AS} {k : Nat} (h : st.Ok k) : W32 st.words := fun x hx => by
  obtain ⟨y, hy, rfl⟩ := List.mem_map.1 hx
  exact (h.i y hy).1
theorem jumps_mem : ∀ (l : List (Int × List UInt8 × Nat)) (k : Nat) (x : Nat × Nat × List UInt8), x ∈ jumpsFrom k l → ∃ y, y ∈ l ∧ y.2.2 = x.1 ∧ y.2.1 = x.2.2
  | [], _, _, h => by cases h
  | (w, lab, a) :: r, k, x, h => by
    simp only [jumpsFrom] at h
    split at h
    · obtain ⟨y, hy, e⟩ := jumps_mem r (k + 1) x h
      exact ⟨y, List.mem_cons_of_mem _ hy, e⟩
    · rcases List.mem_cons.1 h with rfl | h
      · exact ⟨_, List.mem_cons_self .., rfl, rfl⟩
      · obtain ⟨y, hy, e⟩ := jumps_mem r (k + 1) x h
        exact ⟨y, List.mem_cons_of_mem _ hy, e⟩
theorem flat3 : ∀ (js : List (Nat × Nat × List UInt8)) (q : Nat) (x : Nat × Nat × List UInt8), js[q]? = some x → (js.flatMap jV)[3 * q]? = some (.int .i64 (x.1 : Int)) ∧ (js.flatMap jV)[3 * q + 1]? = some (.int .i64 (x.2.1 : Int)) ∧ (js.flatMap jV)[3 * q + 2]? = some (.string ⟨x.2.2.toArray⟩)
  | [], q, x, h => by simp at h
  | y :: js, 0, x, h => by
    simp only [List.getElem?_cons_zero, Option.some.injEq] at h
    subst h
    exact ⟨rfl, rfl, rfl⟩
  | y :: js, q + 1, x, h => by
    obtain ⟨t1, t2, t3⟩ := flat3 js q x (by simpa using h)
    have e : ∀ i, ((y :: js).flatMap jV)[3 * (q + 1) + i]? = (js.flatMap jV)[3 * q + i]? := fun i => by
      rw [List.flatMap_cons, List.getElem?_append_right (by simp [jV]; omega)]
      congr 1
      simp [jV]; omega
    exact ⟨(e 0).trans t1, (e 1).trans t2, (e 2).trans t3⟩

section
variable {W w w' : World} {X : List Rw} {gs mb : Nat} {ws : List Int} {js : List (Nat × Nat × List UInt8)} {labs : List (List UInt8 × Nat)} {vw vj : Value}
theorem PS.push (h : PS W X gs mb ws js labs vw vj w) (vs : List Value) (ty : TypeId) : PS W (⟨w.heap.size, vs⟩ :: X) gs mb ws js labs vw vj (w.alloc (.cells vs.toArray ty)) := by
  have hP := h.below ((Below.refl _ _).alloc (Nat.le_refl _) (.cells vs.toArray ty))
  have h1 := h.k.lt (List.mem_cons_self ..)
  have h2 := h.m.lt
  refine ⟨(h.k.push vs ty).swap, hP.ow, hP.oj, hP.m, hP.d1, hP.d2, hP.d3, hP.d4, hP.d5, fun x hx => ?_, hP.d7, hP.hg, hP.hm⟩
  rcases List.mem_cons.1 hx with rfl | hx
  · refine ⟨fun e => ?_, fun e => ?_, by simp only; omega, by simp only; omega⟩
    · have := (h.ow.lt _ e).2; simp at this
    · have := (h.oj.lt _ e).2; simp at this
  · exact hP.d6 x hx
theorem PS.pop {a : Rw} (h : PS W (a :: X) gs mb ws js labs vw vj w) : PS W X gs mb ws js labs vw vj w :=
  ⟨h.k.sub (fun x hx => by
    rcases List.mem_cons.1 hx with rfl | hx
    · exact List.mem_cons_self ..
    · exact List.mem_cons_of_mem _ (List.mem_cons_of_mem _ hx)), h.ow, h.oj, h.m, h.d1, h.d2, h.d3, h.d4, h.d5, fun x hx => h.d6 x (List.mem_cons_of_mem _ hx), h.d7, h.hg, h.hm⟩
end
set_option maxHeartbeats 8000000 in
theorem asm_any (t : List UInt8) (W : World) (hT : T8 W) (ht : t.length ≤ 9223372036854775807) : Calls Tryz.prog 17 #[.string ⟨t.toArray⟩] W (AsmPost W (asmL t)) := by
  obtain ⟨R, hR⟩ : ∃ R, R = asmL t := ⟨_, rfl⟩
  rw [← hR]
  obtain ⟨D, hD⟩ : ∃ D, D = AsmPost W R := ⟨_, rfl⟩
  rw [← hD]
  replace hD := Lib.hid hD
  have hz : (⟨t.toArray⟩ : ByteArray).size = t.length := size_mk t
  unfold asmL at hR
  by_cases hlong : 32768 < t.length
  · rw [if_pos hlong] at hR
    replace hR := Lib.hid hR
    have hl2 : (32768 : Int) < ((⟨t.toArray⟩ : ByteArray).size : Int) := by rw [hz]; omega
    generalize (⟨t.toArray⟩ : ByteArray) = q at *
    clear hT ht hlong hz
    go_enter Tryz.func17, Tryz.ntmps17
    go_wp2
    rw [hD.out, hR.out]
    exact ⟨_, rfl, heap_alloc_new _ _, Nat.le_refl _, (Below.refl _ _).alloc (Nat.le_refl _) _⟩
  rw [if_neg hlong] at hR
  have hl2 : (t.length : Int) ≤ 32768 := by omega
  obtain ⟨mx, hmx⟩ := hT.mx
  have hmm := @run_makeMap Tryz.prog
  have htf := take_fn
  -- the boxes
  have hM0 := LM.made W
  have hb1 : Below W.heap.size W (W.alloc (.map #[] 0)) := (Below.refl _ _).alloc (Nat.le_refl _) _
  have KS := (KR.mk hb1 (fun y hy => by cases hy) : KR W [] (W.alloc (.map #[] 0))).push [.slice none 0 0, .map (some W.heap.size), .slice none 0 0] 81
  have hM1 := hM0.below ((Below.refl _ _).alloc (Nat.le_refl _) (.cells #[.slice none 0 0, .map (some W.heap.size), .slice none 0 0] 81))
  have hsz1 : (W.alloc (.map #[] 0)).heap.size = W.heap.size + 1 := by simp
  rw [hsz1] at KS
  have P0 : PS W [] (W.heap.size + 1) W.heap.size [] [] [] (.slice none 0 0) (.slice none 0 0) ((W.alloc (.map #[] 0)).alloc (.cells #[.slice none 0 0, .map (some W.heap.size), .slice none 0 0] 81)) :=
    ⟨KS, World.ownsRow_nil _ _ _ _, World.ownsRow_nil _ _ _ _, hM1, by simp [Value.ownBlock], by simp [Value.ownBlock], by simp [Value.ownBlock], by simp [Value.ownBlock], by simp [Value.ownBlock], (fun x hx => by cases hx), by omega, by omega, Nat.le_refl _⟩
  obtain ⟨w1, hw1⟩ : ∃ w1, w1 = (W.alloc (.map #[] 0)).alloc (.cells #[.slice none 0 0, .map (some W.heap.size), .slice none 0 0] 81) := ⟨_, rfl⟩
  rw [← hw1] at P0
  have hS := Tryz.strings_Split ⟨t.toArray⟩ ⟨#[10]⟩ mx w1 (by rw [hz]; omega) ((P0.k.bl.cell (p := ⟨3, 0, none⟩) (Nat.lt_of_lt_of_le (by decide) hT.low)).trans hmx) (by decide)
  rw [lines_split] at hS
  have hcn : countB ⟨t.toArray⟩ ⟨#[10]⟩ + 1 = (linesL t).length := by rw [lines_len]; congr 1; exact count_one 10 t
  rw [hcn, List.map_map] at hS
  have hlm := lines_mem t
  have hll : (linesL t).length ≤ 32769 := by
    rw [lines_len]
    have := List.count_le_length (a := (10 : UInt8)) (l := t)
    omega
  generalize linesL t = ls at *
  have hts : ∀ l, l ∈ ls → l.length ≤ 32768 := fun l h => by have := hlm l h; omega
  have P1 : PS W [⟨w1.heap.size, ls.map (Value.string ∘ fun l => (⟨l.toArray⟩ : ByteArray))⟩] (W.heap.size + 1) W.heap.size [] [] [] (.slice none 0 0) (.slice none 0 0) (w1.alloc (.cells (ls.map (Value.string ∘ fun l => (⟨l.toArray⟩ : ByteArray))).toArray 9)) := by
    have hk := P0.k.push (ls.map (Value.string ∘ fun l => (⟨l.toArray⟩ : ByteArray))) 9
    have hP := P0.below ((Below.refl _ _).alloc (Nat.le_refl _) (.cells (ls.map (Value.string ∘ fun l => (⟨l.toArray⟩ : ByteArray))).toArray 9))
    have hs1 := P0.k.lt (List.mem_cons_self ..)
    exact ⟨hk.swap, hP.ow, hP.oj, hP.m, hP.d1, hP.d2, hP.d3, hP.d4, hP.d5, (fun x hx => by
      rw [List.mem_singleton] at hx
      subst hx
      refine ⟨by simp [Value.ownBlock], by simp [Value.ownBlock], ?_, ?_⟩ <;> (simp only; omega)), hP.d7, hP.hg, hP.hm⟩
  generalize hgs : W.heap.size + 1 = gs at *
  replace hS := Lib.hid hS
  replace hR := Lib.hid hR
  replace hw1 := Lib.hid hw1
  replace P1 := Lib.hid P1
  replace hts := Lib.hid hts
  have hT' := Lib.hid hT
  have hl3 : (ls.length : Int) ≤ 32769 := by omega
  have hlll := Lib.hid hll
  clear hM0 hb1 KS hM1 hsz1 P0 hmx hcn hlm hll hT ht hlong hz
  go_enter Tryz.func17, Tryz.ntmps17
  go_wp2_with fail
  rw [← hw1.out]
  refine hS.out.mono ?_
  rintro e w' ⟨rfl, rfl⟩
  clear hw1 hS
  obtain ⟨w2, hw2⟩ : ∃ w2, w2 = w1.alloc (.cells (ls.map (Value.string ∘ fun l => (⟨l.toArray⟩ : ByteArray))).toArray 9) := ⟨_, rfl⟩
  rw [← hw2] at P1
  rw [← hw2]
  clear hw2
  generalize w1.heap.size = gl at *
  obtain ⟨mb, hmb⟩ : ∃ mb, mb = W.heap.size := ⟨_, rfl⟩
  have hmbW := Lib.hid hmb
  have P1' : PS W [⟨gl, ls.map (Value.string ∘ fun l => (⟨l.toArray⟩ : ByteArray))⟩] gs mb [] [] [] (.slice none 0 0) (.slice none 0 0) w2 := by rw [hmb]; exact P1.out
  clear P1
  have hcl : ∀ u (ws js labs vw vj), PS W [⟨gl, ls.map (Value.string ∘ fun l => (⟨l.toArray⟩ : ByteArray))⟩] gs mb ws js labs vw vj u → ∀ k (h : k < ls.length), u.cell? ⟨gl, k, none⟩ = some (.string ⟨ls[k].toArray⟩) := fun u ws js labs vw vj hu k h =>
    hu.k.cell (ls.map (Value.string ∘ fun l => (⟨l.toArray⟩ : ByteArray))) (List.mem_cons_of_mem _ (List.mem_cons_self ..)) (by rw [List.getElem?_map, List.getElem?_eq_getElem h]; rfl)
  replace hcl := Lib.hid hcl
  generalize (ls.map (Value.string ∘ fun l => (⟨l.toArray⟩ : ByteArray))) = lv at *
  have P1 := Lib.hid P1'
  clear P1' hmb
  go_wp2
  go_loopw [24] (fun i wr => ∃ (k : Nat) (st : AS) (vw vj : Value), k ≤ ls.length ∧ i = .int .i64 k ∧ Hid (takeAll ⟨[], []⟩ 0 (ls.map bareL) = takeAll st k ((ls.drop k).map bareL)) ∧ Hid (st.Ok k) ∧ Hid (PS W [⟨gl, lv⟩] gs mb st.words (jumpsFrom 0 st.its) st.labs vw vj wr)) (fun i _ => ls.length - (RowKit.intOf i).toNat)
  case atStart => exact ⟨0, ⟨[], []⟩, _, _, Nat.zero_le _, rfl, Lib.hid (by rw [List.drop_zero]), Lib.hid ⟨by simp, by simp, (fun x hx => by cases hx), (fun x hx => by cases hx)⟩, P1⟩
  case round =>
    obtain ⟨k, st, vw, vj, hk, rfl, hA, hok, HP⟩ := hrel
    by_cases hlt : k < ls.length
    · have hc := hcl.out wr _ _ _ _ _ HP.out k hlt
      have hdr : ls.drop k = ls[k] :: ls.drop (k + 1) := List.drop_eq_getElem_cons hlt
      have hl1 := hts.out ls[k] (List.getElem_mem hlt)
      have hA1 := hA.out
      rw [hdr, List.map_cons, takeAll] at hA1
      have hbl := bare_len ls[k]
      have hB := fun u => bare_any ls[k] u (by omega)
      have hk4 : k ≤ 40000 := by have := hlll.out; omega
      have hTk := fun (u : World) (hu : PS W [⟨gl, lv⟩] gs mb st.words (jumpsFrom 0 st.its) st.labs vw vj u) => take_any W u [⟨gl, lv⟩] gs mb st vw vj hu hT'.out k hk4 (bareL ls[k]) (by omega) hok.out.n (by have := hok.out.l; omega)
      have hok2 := take_ok hok.out hk4 (bareL ls[k])
      generalize bareL ls[k] = bl at *
      generalize ls[k] = l0 at *
      obtain ⟨Q, hQ⟩ : ∃ Q, Q = takeL st k bl := ⟨_, rfl⟩
      rw [← hQ] at hTk hok2 hA1
      obtain ⟨cd, st2⟩ := Q
      unfold TakePost8 at hTk
      have hpp := Lib.hid (And.intro hk hlt)
      have hki : (k : Int) < (ls.length : Int) := by omega
      replace hB := Lib.hid hB
      replace hTk := Lib.hid hTk
      replace hok2 := Lib.hid hok2
      replace hA1 := Lib.hid hA1
      clear hdr hl1 hbl hQ hk hk4
      by_cases h0 : cd = 0
      · subst h0
        have hA2 := Lib.hid (hA1.out.trans (if_pos rfl))
        clear hA1
        go_wp2_with fail
        refine (hB.out _).mono ?_
        rintro e w3 ⟨rfl, k3⟩
        have H3 := HP.out.below k3
        replace H3 := Lib.hid H3
        clear k3 hc
        go_wp2_with fail
        refine (hTk.out _ H3.out).mono ?_
        rintro e w4 ⟨rfl, vw4, vj4, H4⟩
        replace H4 := Lib.hid H4
        go_wp2
        go_roundw
        case rel => exact ⟨k + 1, st2, vw4, vj4, by have := hpp.out; omega, by go_num, hA2, hok2, H4⟩
        case measure => have := hpp.out; simp [RowKit.intOf]; omega
      · have hne : (cd == 0) = false := by simpa using h0
        have hne2 : (cd != 0) = true := by rw [bne, hne]; rfl
        have hA2 := hA1.out.trans (if_neg h0)
        have hRe : R = .error (cd, k) := by rw [hR.out, hA2]
        replace hRe := Lib.hid hRe
        clear hA1 hA2 h0
        go_wp2_with fail
        refine (hB.out _).mono ?_
        rintro e w3 ⟨rfl, k3⟩
        have H3 := HP.out.below k3
        replace H3 := Lib.hid H3
        clear k3 hc
        go_wp2_with fail
        refine (hTk.out _ H3.out).mono ?_
        rintro e w4 ⟨rfl, vw4, vj4, H4⟩
        have hb4 := Lib.hid H4.k.bl
        clear H4
        go_wp2
        rw [hD.out, hRe.out]
        exact ⟨_, rfl, heap_alloc_new _ _, hb4.out.size, hb4.out.alloc hb4.out.size _⟩
    · have hke : k = ls.length := by omega
      have hA1 := hA.out
      rw [hke, List.drop_length] at hA1
      have hRl : R = linkAll st.labs 0 st.its := by rw [hR.out, hA1]; rfl
      have hRj : R = linkJ st.labs st.words (jumpsFrom 0 st.its) := by
        have := link_is st.labs st.its []
        simp only [List.nil_append, List.length_nil] at this
        rw [hRl]
        exact (this.trans (by cases linkAll st.labs 0 st.its <;> rfl)).symm
      replace hRj := Lib.hid hRj
      have hjl := Nat.le_trans (jumps_len st.its 0) hok.out.n
      have hjm := jumps_mem st.its 0
      have hjp := jumps_place st.its 0
      have hwl := words_len st
      have hw32 := words_ok hok.out
      have hits := hok.out.i
      have hlow := fun {s p} (h : labF st.labs s = some p) => lab_low hok.out.p h
      have hn4 := hok.out.n
      have hji : ∀ x, x ∈ jumpsFrom 0 st.its → x.1 ≤ 40000 ∧ x.2.1 < st.words.length ∧ x.2.2.length ≤ 32768 := fun x hx => by
        obtain ⟨y, hy, e1, e2⟩ := hjm x hx
        have h1 := hits y hy
        have h2 := hjp x hx
        rw [hwl]
        refine ⟨by omega, by omega, by rw [← e2]; omega⟩
      clear hRl hA1 hA hits hjm hjp hke
      generalize st.words = ws0 at *
      generalize jumpsFrom 0 st.its = js at *
      generalize st.labs = labs at *
      obtain ⟨Aj, cj, rfl, hcj1, hcj2⟩ := own_slice HP.out.oj
      have hjli : (js.length : Int) ≤ 4096 := by omega
      have c2 : wr.cell? ⟨gs, 2, none⟩ = some (.slice Aj js.length cj) := HP.out.cells.2.2.1
      have hws0 := Lib.hid (And.intro hw32 (show ws0.length ≤ 4096 by omega))
      replace hji := Lib.hid hji
      have hlow' := Lib.hid (fun s p (h : labF labs s = some p) => hlow h)
      have hjl' := Lib.hid hjl
      clear hlow hjl hw32 hwl hn4 hk hok
      go_wp2
      go_loopw [45] (fun i wr => ∃ (q : Nat) (ws : List Int), q ≤ js.length ∧ i = .int .i64 q ∧ Hid (R = linkJ labs ws (js.drop q)) ∧ Hid (W32 ws ∧ ws.length = ws0.length) ∧ Hid (PS W [⟨gl, lv⟩] gs mb ws js labs vw (.slice Aj js.length cj) wr)) (fun i _ => js.length - (RowKit.intOf i).toNat)
      case atStart => exact ⟨0, ws0, Nat.zero_le _, rfl, Lib.hid (by rw [List.drop_zero]; exact hRj.out), Lib.hid ⟨hws0.out.1, rfl⟩, HP⟩
      case round =>
        obtain ⟨q, ws, hq, rfl, hA, hws, HQ⟩ := hrel
        by_cases hlq : q < js.length
        · obtain ⟨gj, cap, hv, hgb, hgl⟩ := HQ.out.oj.form (by omega)
          simp only [Value.slice.injEq, true_and] at hv
          obtain ⟨rfl, rfl⟩ := hv
          have hf3 := flat3 js q js[q] (List.getElem?_eq_getElem hlq)
          have hx := hji.out js[q] (List.getElem_mem hlq)
          have hdr : js.drop q = js[q] :: js.drop (q + 1) := List.drop_eq_getElem_cons hlq
          have hA1 := hA.out
          rw [hdr] at hA1
          generalize js[q] = jx at *
          obtain ⟨jn, jk, jl⟩ := jx
          simp only at hx hf3
          have e0 : wr.cell? ⟨gj, q * 3, none⟩ = some (.int .i64 jn) := by rw [Nat.mul_comm, HQ.out.oj.cellAt (3 * q) (by omega)]; exact hf3.1
          have e1 : wr.cell? ⟨gj, q * 3 + 1, none⟩ = some (.int .i64 jk) := by rw [Nat.mul_comm, HQ.out.oj.cellAt (3 * q + 1) (by omega)]; exact hf3.2.1
          have e2 : wr.cell? ⟨gj, q * 3 + 2, none⟩ = some (.string ⟨jl.toArray⟩) := by rw [Nat.mul_comm, HQ.out.oj.cellAt (3 * q + 2) (by omega)]; exact hf3.2.2
          have HB := HQ.out.push [.int .i64 jn, .int .i64 jk, .string ⟨jl.toArray⟩] 89
          have hLk := link_any W _ (⟨wr.heap.size, [.int .i64 jn, .int .i64 jk, .string ⟨jl.toArray⟩]⟩ :: [⟨gl, lv⟩]) gs mb ws js labs vw _ HB hT'.out jn jk jl (by rw [hws.out.2]; exact hx.2.1) (by rw [hws.out.2]; exact hws0.out.2) hws.out.1 hx.2.2 (fun p hp => hlow'.out jl p hp) hx.1
          have hlj : linkJ labs ws ((jn, jk, jl) :: js.drop (q + 1)) = match linkOne labs jk (ws.getD jk 0) jl jn with
            | .error e => .error e
            | .ok x => linkJ labs (ws.set jk x) (js.drop (q + 1)) := rfl
          rw [hlj] at hA1
          have hlv : linkV labs ws jk jl jn = match linkOne labs jk (ws.getD jk 0) jl jn with
            | .error (c, _) => (c, ws)
            | .ok x => (0, ws.set jk x) := rfl
          have hlo := fun x => linkOne_low (labs := labs) (k := jk) (w := ws.getD jk 0) (lab := jl) (n := jn) (x := x)
          have hqq := Lib.hid (And.intro hq hlq)
          have hqi : (q : Int) < (js.length : Int) := by omega
          have hle : ∀ c m, linkOne labs jk (ws.getD jk 0) jl jn = .error (c, m) → m = jn ∧ ((c : Int) == 0) = false ∧ (c != 0) = true := fun c m he => by
            unfold linkOne at he
            split at he
            · cases he; exact ⟨rfl, by decide, by decide⟩
            · split at he
              · cases he
              · cases he; exact ⟨rfl, by decide, by decide⟩
          generalize linkOne labs jk (ws.getD jk 0) jl jn = O at *
          unfold LinkPost at hLk
          rw [hlv] at hLk
          obtain ⟨u, hu⟩ : ∃ u, u = wr.alloc (.cells #[.int .i64 jn, .int .i64 jk, .string ⟨jl.toArray⟩] 89) := ⟨_, rfl⟩
          replace hLk : Calls Tryz.prog 48 #[.pointer (some ⟨gs, 0, none⟩), .agg #[.int .i64 jn, .int .i64 jk, .string ⟨jl.toArray⟩]] (wr.alloc (.cells #[.int .i64 jn, .int .i64 jk, .string ⟨jl.toArray⟩] 89)) _ := hLk
          clear hf3 hdr hlj hlv hx hu hA hq HB
          cases O with
          | ok x =>
            have hA2 := Lib.hid (show R = linkJ labs (ws.set jk x) (js.drop (q + 1)) from hA1)
            have hxl := hlo x rfl
            have hws2 := Lib.hid (show W32 (ws.set jk x) ∧ (ws.set jk x).length = ws0.length from ⟨fun y hy => by
              rcases List.mem_or_eq_of_mem_set hy with h | h
              · exact hws.out.1 y h
              · rw [h]; exact hxl, by rw [List.length_set]; exact hws.out.2⟩)
            replace hLk := Lib.hid hLk
            clear hA1 hlo hle hxl
            go_wp2_with fail
            refine hLk.out.mono ?_
            rintro e w4 ⟨rfl, H4⟩
            replace H4 := Lib.hid H4.pop
            clear hLk e0 e1 e2
            go_wp2
            go_roundw
            case rel => exact ⟨q + 1, ws.set jk x, by have := hqq.out; omega, by go_num, hA2, hws2, H4⟩
            case measure => have := hqq.out; simp [RowKit.intOf]; omega
          | error z =>
            obtain ⟨c, m⟩ := z
            obtain ⟨rfl, hne, hne2⟩ := hle c m rfl
            have hRe : R = .error (c, m) := hA1
            replace hRe := Lib.hid hRe
            replace hLk := Lib.hid hLk
            clear hA1 hlo hle
            go_wp2_with fail
            refine hLk.out.mono ?_
            rintro e w4 ⟨rfl, H4⟩
            have d0 : w4.cell? ⟨wr.heap.size, 0, none⟩ = some (.int .i64 m) := H4.k.cell [.int .i64 m, .int .i64 jk, .string ⟨jl.toArray⟩] (List.mem_cons_of_mem _ (List.mem_cons_self ..)) rfl
            have hb4 := Lib.hid H4.k.bl
            clear H4 hLk e0 e1 e2
            go_wp2_with fail
            go_region
            all_goals
              go_wp2
              rw [hD.out, hRe.out]
              exact ⟨_, rfl, heap_alloc_new _ _, hb4.out.size, (hb4.out.alloc hb4.out.size _).drew⟩
        · have hqe : q = js.length := by omega
          have hA1 := hA.out
          rw [hqe, List.drop_length] at hA1
          have hRo : R = .ok ws := hA1
          replace hRo := Lib.hid hRo
          have c0 := HQ.out.cells.1
          clear hA1 hA hqe hq
          go_wp2
          rw [hD.out, hRo.out]
          exact ⟨vw, rfl, HQ.out.ow, HQ.out.k.bl, hws.out.1, by rw [hws.out.2]; exact hws0.out.2⟩
end Go.Proofs.YtdkggahkfheocaaGreatDoor
