/- A region where one operation that only takes a part out of a value may come up behind the first store: it may as well come ahead of it. Plain lemmas; no statement is proved here. -/
import Derived.Test.YthniimefocjamaaNew
namespace Go.Proofs.Ythniimefocjamaa
open Go.RowKit
set_option linter.unusedVariables false

section
variable {P : Program} {Q : Exit → Act → World → Prop} {md : Region.Mode}

/-- Taking a part out of a value: it goes in whatever world, or in none. -/
theorem stuck_goes {o : Oper} {a : Act} {why : String} (e : execOp a.eval o = stuck why) (w : World) (K : Act → World → Prop) : ¬ (o.wp P a w K Q ∨ (o.asks P a w ∧ LetsOut Q)) := by
  rintro (h | ⟨h, _⟩)
  · unfold Oper.wp at h
    rw [e, run_stuck] at h
    exact h
  · unfold Oper.asks at h
    rw [e] at h
    have h1 := h.1
    rw [show (stuck why : Sem Next).runT P w #[] = (.halt (.stuck why) w, #[]) from rfl] at h1
    simp at h1
theorem extract_goes {o : Oper} {x : Operand} {k : Nat} (ho : o.op = .extract x k) (a : Act) : (∃ v, ∀ w, (execOp a.eval o).run P w = .ok (.value v) w ∧ ¬ o.asks P a w) ∨ ∀ w K, ¬ (o.wp P a w K Q ∨ (o.asks P a w ∧ LetsOut Q)) := by
  have e : execOp a.eval o = (do pure (.value (← Instr.extract (a.eval x) k))) := by unfold execOp; rw [ho]
  cases hx : a.eval x with
  | tuple vs =>
    cases hk : vs[k]? with
    | some v =>
      refine .inl ⟨v, fun w => ?_⟩
      have e2 : execOp a.eval o = pure (.value v) := by rw [e, hx]; unfold Instr.extract; simp only [hk]; rfl
      refine ⟨by rw [e2]; rfl, fun h => ?_⟩
      unfold Oper.asks at h
      rw [e2] at h
      have h1 := h.1
      rw [show (pure (Next.value v) : Sem Next).runT P w #[] = (.ok (.value v) w, #[]) from rfl] at h1
      simp at h1
    | none => exact .inr fun w K => stuck_goes (why := "Extract: no such component") (by rw [e, hx]; unfold Instr.extract; simp only [hk]; rfl) w K
  | _ => exact .inr fun w K => stuck_goes (why := "Extract: tuple expected") (by rw [e, hx]; rfl) w K

/-- What operation n, that waits for r too, is like. -/
def waitToo (o : Oper) (r : Nat) : Oper := { o with after := o.after.push ⟨r, .data⟩ }
/-- The Bool of it: r takes a part out of a value and has no guard; what it waits for, n waits for; who waits neither for r, nor is waited for by n, is apart from r. -/
def lateB (md : Region.Mode) (ops : Array Oper) (n r : Nat) : Bool :=
  n != r && Region.noSelect ops && match ops[n]?, ops[r]? with
  | some on, some oR => oR.guard.isNone && (match oR.op with | .extract _ _ => true | _ => false) &&
      (oR.after.all fun e => !Region.binds md e || on.after.any fun e' => Region.binds md e' && e'.on == e.on) &&
      (List.range ops.size).all fun j => j == r || (on.after.any fun e => Region.binds md e && e.on == j) || match ops[j]? with
        | some oj => (oj.after.any fun e => Region.binds md e && e.on == r) || oR.apart ops oj
        | none => true
  | _, _ => false

variable {ops : Array Oper} {n r : Nat} {on oR : Oper}
theorem set_get (hn : ops[n]? = some on) (j : Nat) : (ops.setIfInBounds n (waitToo on r))[j]? = if j = n then some (waitToo on r) else ops[j]? := by
  by_cases h : j = n
  · subst h
    have := (Array.getElem?_eq_some_iff.1 hn).1
    simp [this]
  · rw [if_neg h, Array.getElem?_setIfInBounds_ne (Ne.symm h)]
theorem yielded_set (hn : ops[n]? = some on) (t : Array Value) : yielded (ops.setIfInBounds n (waitToo on r)) t = yielded ops t := by
  funext j
  unfold yielded
  rw [set_get hn]
  by_cases h : j = n
  · subst h; rw [if_pos rfl, hn]; rfl
  · rw [if_neg h]
theorem wpOp_set (hn : ops[n]? = some on) (i : Nat) (K : Act → World → Prop) (a : Act) (w : World) : wpOp P (ops.setIfInBounds n (waitToo on r)) Q i K a w = wpOp P ops Q i K a w := by
  unfold wpOp
  rw [set_get hn, yielded_set hn]
  by_cases h : i = n
  · subst h; rw [if_pos rfl, hn]; rfl
  · rw [if_neg h]
/-- Who is ready with the new wait is ready without it; and the other way, but for n, where r has not come up. -/
theorem ready_of (hn : ops[n]? = some on) {s : Array Bool} {i : Nat} (h : i ∈ Region.ready md (ops.setIfInBounds n (waitToo on r)) s) : i ∈ Region.ready md ops s := by
  obtain ⟨h0, o, ho, hall⟩ := mem_ready.1 h
  rw [set_get hn] at ho
  by_cases e : i = n
  · subst e
    rw [if_pos rfl] at ho
    obtain rfl := Option.some.inj ho
    exact mem_ready.2 ⟨h0, on, hn, fun e he hb => hall e (by simp [waitToo, he]) hb⟩
  · rw [if_neg e] at ho
    exact mem_ready.2 ⟨h0, o, ho, hall⟩
theorem ready_to (hn : ops[n]? = some on) {s : Array Bool} {i : Nat} (h : i ∈ Region.ready md ops s) (hi : i = n → s.getD r false = true) : i ∈ Region.ready md (ops.setIfInBounds n (waitToo on r)) s := by
  obtain ⟨h0, o, ho, hall⟩ := mem_ready.1 h
  by_cases e : i = n
  · subst e
    obtain rfl : o = on := Option.some.inj (ho.symm.trans hn)
    refine mem_ready.2 ⟨h0, waitToo o r, by rw [set_get hn, if_pos rfl], fun e he hb => ?_⟩
    simp only [waitToo, Array.mem_push] at he
    rcases he with he | rfl
    · exact hall e he hb
    · exact hi rfl
  · exact mem_ready.2 ⟨h0, o, by rw [set_get hn, if_neg e]; exact ho, hall⟩

theorem wpAny_late (hB : lateB md ops n r = true) (hn : ops[n]? = some on) (hr : ops[r]? = some oR) (hQ : ∀ c a (v : Value) w, Q (.panic c) (a.put oR.dst v) w → Q (.panic c) a w) :
    ∀ (f : Nat) (s : Array Bool) (a : Act) (w : World), s.size = ops.size → wpAny P md (ops.setIfInBounds n (waitToo on r)) Q f s a w → wpAny P md ops Q f s a w := by
  simp only [lateB, hn, hr, Bool.and_eq_true, bne_iff_ne, ne_eq] at hB
  obtain ⟨⟨hne, hsel⟩, ⟨⟨hg, hop⟩, hdep⟩, hap⟩ := hB
  have hg' : oR.guard = none := by simpa using hg
  obtain ⟨x, k, hx⟩ : ∃ x k, oR.op = .extract x k := by
    cases h : oR.op <;> simp only [h, Bool.false_eq_true] at hop
    exact ⟨_, _, rfl⟩
  -- where n may come up and r has not, r may come up
  have key : ∀ s : Array Bool, s.size = ops.size → n ∈ Region.ready md ops s → s.getD r false = false → r ∈ Region.ready md ops s := fun s hs hnr hun => by
    obtain ⟨_, o, ho, hall⟩ := mem_ready.1 hnr
    obtain rfl : o = on := Option.some.inj (ho.symm.trans hn)
    have hrs : r < s.size := by rw [hs]; exact (Array.getElem?_eq_some_iff.1 hr).1
    refine mem_ready.2 ⟨getD_in hrs hun, oR, hr, fun e he hb => ?_⟩
    have h1 := Array.all_eq_true_iff_forall_mem.1 hdep e he
    simp only [hb, Bool.not_true, Bool.false_or] at h1
    obtain ⟨e', he', hb'⟩ := Array.any_eq_true'.1 h1
    simp only [Bool.and_eq_true, beq_iff_eq] at hb'
    rw [← hb'.2]
    exact hall e' he' hb'.1
  intro f
  induction f with
  | zero =>
    intro s a w hs h
    refine ⟨?_, h.2⟩
    have h1 := h.1
    refine List.eq_nil_iff_forall_not_mem.2 fun i hi => ?_
    cases hl : s.getD r false with
    | true => have := ready_to (r := r) hn hi (fun _ => hl); rw [h1] at this; cases this
    | false =>
      by_cases e : i = n
      · subst e
        have := ready_to (r := r) hn (key s hs hi hl) (fun k => absurd k.symm hne)
        rw [h1] at this; cases this
      · have := ready_to (r := r) hn hi (fun k => absurd k e)
        rw [h1] at this; cases this
  | succ f ih =>
    intro s a w hs h
    by_cases hc : n ∈ Region.ready md ops s ∧ s.getD r false = false
    · have hrr := key s hs hc.1 hc.2
      have h2 := h.2 r (ready_to hn hrr (fun k => absurd k.symm hne))
      rw [wpOp_set hn] at h2
      unfold wpOp at h2
      simp only [hr] at h2
      rw [if_pos (by simp [Region.wanted, hg'])] at h2
      rcases extract_goes (P := P) (Q := Q) hx a with ⟨v, hv⟩ | hno
      · have hnext : wpAny P md (ops.setIfInBounds n (waitToo on r)) Q f (s.setIfInBounds r true) (a.put oR.dst v) w := by
          rcases h2 with h2 | ⟨hask, _⟩
          · unfold Oper.wp at h2
            rw [(hv w).1] at h2
            exact h2
          · exact absurd hask (hv w).2
        refine wpAny_first hr (Region.noSelect_spec hsel) (fun c a' w' => hQ c a' v w') f s a w (fun j oj hj hjr hjun hno => ?_) hrr (.inl ⟨by simp [Region.wanted, hg'], fun w => (hv w).1⟩) (ih _ _ _ (by simp [hs]) hnext)
        have h3 := List.all_eq_true.1 hap j (List.mem_range.2 (Array.getElem?_eq_some_iff.1 hj).1)
        simp only [hj, Bool.or_eq_true, beq_iff_eq, hjr, false_or] at h3
        rcases h3 with h3 | h3 | h3
        · obtain ⟨e, he, hb⟩ := Array.any_eq_true'.1 h3
          simp only [Bool.and_eq_true, beq_iff_eq] at hb
          obtain ⟨_, o, ho, hall⟩ := mem_ready.1 hc.1
          obtain rfl : o = on := Option.some.inj (ho.symm.trans hn)
          have := hall e he hb.1
          rw [hb.2, getD_both hjun] at this
          cases this
        · obtain ⟨e, he, hb⟩ := Array.any_eq_true'.1 h3
          simp only [Bool.and_eq_true, beq_iff_eq] at hb
          exact absurd hb.2 (hno e he hb.1)
        · exact h3
      · exact absurd h2 (hno w _)
    · have hto : ∀ i, i ∈ Region.ready md ops s → i ∈ Region.ready md (ops.setIfInBounds n (waitToo on r)) s := fun i hi => ready_to hn hi fun e => by
        subst e
        cases hl : s.getD r false with
        | true => rfl
        | false => exact absurd ⟨hi, hl⟩ hc
      refine ⟨fun h0 => h.1 (List.eq_nil_iff_forall_not_mem.2 fun i hi => by have := ready_of hn hi; rw [h0] at this; cases this), fun i hi => ?_⟩
      have h2 := h.2 i (hto i hi)
      rw [wpOp_set hn] at h2
      exact wpOp_mono (fun a' w' h' => ih _ _ _ (by simp [hs]) h') h2
end
/-- A region with new blocks, one of whose parts (number r) may be taken out behind the first store (number n). -/
theorem region_new_late {P : Program} (S : World → Prop) {id : Nat} {Q : Exit → Act → World → Prop} {a aF : Act} {w : World} {l l' : List Oper} (q m n r : Nat) {on oR : Oper} (z : Nat → List Value) (B0 : Nat) (hm : P.follows .mixedOrders = true)
    (hn : l[n]? = some on) (hr : l[r]? = some oR) (hl : l' = l.set n (waitToo on r)) (hQ : ∀ c a (v : Value) w, Q (.panic c) (a.put oR.dst v) w → Q (.panic c) a w) (hLate : lateB .any l.toArray n r = true)
    (hB : (Region.lexTailB .any l'.toArray (q + m) && ownB l'.toArray (q + m) a.tmps.size) = true) (h0 : S w.drew) (hB0 : B0 ≤ w.drew.heap.size) (hSt : Stay S)
    (hNew : ∀ k o, k < m → l'[q + k]? = some o → o.guard = none ∧ ∃ ty, ∀ (a : Act) w, (execOp a.eval o).run P w = .ok (.value (ptr w.heap.size)) (w.alloc (.cells (z k).toArray ty)))
    (hW : ∀ S' : World → Prop, (∀ w, S' w → S w) → Stay S' → wpQuiet P l'.toArray (fun w' => ∃ y : Wd S', w' = y.w) (fun a' => a' = aF) (l'.take q) a)
    (hT : ∀ (bs : List Nat) (w' : World), bs.length = m → S w' → (∀ k b, bs[k]? = some b → (⟨b, z k⟩ : Rw).at w' ∧ B0 ≤ b) → (∀ (j k b c : Nat), j < k → bs[j]? = some b → bs[k]? = some c → b ≠ c) → wpList P l'.toArray Q (l'.drop (q + m)) (putL aF ((l'.drop q).take m) bs) w') :
    (Code.region id l.toArray true).wp P Q a w := by
  refine wp_region_any hm ?_
  have h := new_any S q m z B0 hB h0 hB0 hSt hNew hW hT
  have e : l'.toArray = l.toArray.setIfInBounds n (waitToo on r) := by rw [hl]; simp
  have hsz : l'.toArray.size = l.toArray.size := by rw [hl]; simp
  rw [hsz, e] at h
  exact wpAny_late hLate (by simpa using hn) (by simpa using hr) hQ _ _ _ _ (by simp) h
end Go.Proofs.Ythniimefocjamaa
