/- Contracts of layer slots: may, whole. No statement is proved here.; A region that draws its order, whose own operations only read and whose callees keep a class of worlds: one walk in the order of the text serves (the library's quiet walk, at a class of one's own). Plain lemmas; no statement is proved here.; Words for structs that are compared field by field. Plain lemmas; no statement is proved here.; Contracts of layer slots: the closures; Add, Put, Drop, Whole. No statement is proved here.; Contracts of layer slots: Whole, New, Copy. No statement is proved here. -/
import Derived.Test.YticfpnhfhhagpaaDoormf
import Derived.Laws.ResultCell
import Derived.Deep.DeepCutAuto
import Derived.Deep.LoopGhost
import Derived.Test.YticfpnhfhhagpaaDoorma
import Derived.BigQuiet
import Derived.StillTail
import Derived.Laws.StructEq
import Derived.WalkKit
import Derived.Deep.WholeRow
import Derived.Laws.Tables
namespace Go.Proofs.YticfpnhfhhagpaaDoor
open Go.RowKit Go.Shelf
set_option linter.unusedVariables false

/-- The cells of a book: of each page whether it is in the book, and its free slots; last, how many slots a page has. -/
def cv (per : Nat) (g : Nat → Bool) (f : Nat → Nat → Bool) (i : Nat) : Value :=
  if i = 2048 then .int .i64 (per : Int) else if i % 2 = 0 then .bool (g (i / 2)) else .int .u16 (w16 (f (i / 2)) : Int)
structure BookAt (W : World) (b per : Nat) (g : Nat → Bool) (f : Nat → Nat → Bool) : Prop where
  cs : ∀ i, i < 2049 → W.cell? ⟨b, i, none⟩ = some (cv per g f i) ∧ W.frozen? ⟨b, i, none⟩ = false
  lo : 1 ≤ per ∧ per ≤ 16
  ok : ∀ p s, f p s = true → g p = true ∧ s < per
  gl : ∀ p, g p = true → p < 1024
  lb : b < W.heap.size
section
variable {W W' w : World} {b per : Nat} {g : Nat → Bool} {f : Nat → Nat → Bool}
theorem BookAt.size (H : BookAt W b per g f) : W.cell? ⟨b, 2048, none⟩ = some (.int .i64 (per : Int)) := (H.cs 2048 (by decide)).1
theorem cv_in (per : Nat) (g : Nat → Bool) (f : Nat → Nat → Bool) {p : Nat} (hp : p < 1024) : cv per g f (p * 2) = .bool (g p) := by
  unfold cv
  rw [if_neg (by omega), if_pos (by omega), show p * 2 / 2 = p by omega]
theorem cv_free (per : Nat) (g : Nat → Bool) (f : Nat → Nat → Bool) {p : Nat} (hp : p < 1024) : cv per g f (p * 2 + 1) = .int .u16 (w16 (f p) : Int) := by
  unfold cv
  rw [if_neg (by omega), if_neg (by omega), show (p * 2 + 1) / 2 = p by omega]
theorem BookAt.inn (H : BookAt W b per g f) {p : Nat} (hp : p < 1024) : W.cell? ⟨b, p * 2, none⟩ = some (.bool (g p)) := by rw [(H.cs (p * 2) (by omega)).1, cv_in per g f hp]
theorem BookAt.free (H : BookAt W b per g f) {p : Nat} (hp : p < 1024) : W.cell? ⟨b, p * 2 + 1, none⟩ = some (.int .u16 (w16 (f p) : Int)) := by rw [(H.cs (p * 2 + 1) (by omega)).1, cv_free per g f hp]
theorem BookAt.keep (H : BookAt W b per g f) (hk : W'.heap[b]? = W.heap[b]?) (hs : W.heap.size ≤ W'.heap.size) : BookAt W' b per g f :=
  ⟨fun i hi => ⟨(World.cell?_of_block hk).trans (H.cs i hi).1, (World.frozen?_of_block hk).trans (H.cs i hi).2⟩, H.lo, H.ok, H.gl, Nat.lt_of_lt_of_le H.lb hs⟩
theorem BookAt.grow (H : BookAt W b per g f) (h : Below W.heap.size W W') : BookAt W' b per g f := H.keep (h.block b H.lb) h.size
theorem BookAt.off {q : Nat} (H : BookAt W b per g f) (h : Off W.heap.size q W W') (hn : b ≠ q) : BookAt W' b per g f := H.keep (h.block b H.lb hn) h.size
theorem may_any (H : BookAt w b per g f) (p : Int) : Calls Tryd.prog 87 #[.pointer (some ⟨b, 0, none⟩), .int .i64 p] w fun e w' => e = .returned (.bool (decide (0 ≤ p) && decide (p < 1024))) ∧ w = w' := by
  have h1 := H.size
  have h2 : (0 : Int) < per := by have := H.lo; omega
  clear H
  go_enter Tryd.func87, Tryd.ntmps87
  go_wp2
  all_goals (go_ret; refine ⟨congrArg Ending.returned (congrArg Value.bool ?_), rfl⟩; rw [Bool.eq_iff_iff]; simp; omega)
theorem res_one {P : Program} {fn : Func} {p : Tmp} {ty : TypeId} (h : fn.results = #[.cell p ty]) {tmps : Array Value} {w : World} {g : Nat} {v : Value} (hp : tmps.getD p undef = .pointer (some ⟨g, 0, none⟩)) (hl : (loadVar ty ⟨g, 0, none⟩).run P w = .ok v w) : (results fn tmps).run P w = .ok v w := by
  have hp' : tmps[p]?.getD undef = .pointer (some ⟨g, 0, none⟩) := by simpa using hp
  simp [results, h, asAddr, hp', hl]
theorem res_two {P : Program} {fn : Func} {p u : Tmp} {ty : TypeId} (h : fn.results = #[.cell p ty, .tmp u]) {tmps : Array Value} {w : World} {g : Nat} {v x : Value} (hp : tmps.getD p undef = .pointer (some ⟨g, 0, none⟩)) (hu : tmps.getD u undef = x) (hl : (loadVar ty ⟨g, 0, none⟩).run P w = .ok v w) : (results fn tmps).run P w = .ok (.tuple #[v, x]) w := by
  rw [results_cell_tmp h, hp, hu]
  simp [asAddr, hl]
theorem load_leaf {w : World} {q o : Nat} {u v : Value} (h0 : w.cell? ⟨q, o, none⟩ = some u) (h1 : w.cell? ⟨q, o + 1, none⟩ = some v) : (loadVar 89 ⟨q, o, none⟩).run Tryd.prog w = .ok (.agg #[u, v]) w := by
  have ia : ∀ w, (isAgg 89).run Tryd.prog w = .ok true w := fun w => by kernel_rfl
  have sz : ∀ w, (sizeOf 89).run Tryd.prog w = .ok 2 w := fun w => by kernel_rfl
  have hl := run_loadCells_list (P := Tryd.prog) w ⟨q, o, none⟩ [u, v] (fun j x hx => by
    match j, hx with
    | 0, hx => simp at hx; subst hx; exact h0
    | 1, hx => simp at hx; subst hx; exact h1)
  simp only [loadVar, Sem.run_bind, ia, sz, Result.andThen, if_true, Sem.run_pure]
  simp only [List.length_cons, List.length_nil] at hl
  rw [hl]
theorem whole_any (H : BookAt w b per g f) : Calls Tryd.prog 74 #[.pointer (some ⟨b, 0, none⟩)] w fun e w' => e = .returned (.agg #[.bool true, .int .u16 (w16 (full per) : Int)]) ∧ Below w.heap.size w w' := by
  have hB : Below w.heap.size w (w.alloc (.cells #[.bool false, .int .u16 0] 89)) := (Below.refl _ _).alloc (Nat.le_refl _) _
  have h1 := H.size
  have h1' : (w.alloc (.cells #[.bool false, .int .u16 0] 89)).cell? ⟨b, 2048, none⟩ = some (.int .i64 (per : Int)) := (hB.cell (p := ⟨b, 2048, none⟩) H.lb).trans h1
  have h2 : (0 : Int) ≤ per := by have := H.lo; omega
  have h3 := Lib.hid (whole16 per H.lo.2)
  have hp6 := Lib.hid H.lo.2
  clear H
  go_enter Tryd.func74, Tryd.ntmps74
  go_wp2
  rw [Nat.min_eq_left hp6.out, h3.out]
  exact bodyPost_ret (res_one Tryd.results74 rfl (load_leaf (by simp) (by simp))) rfl ⟨rfl, (Below.refl _ _).alloc (Nat.le_refl _) _⟩
/-- What a call leaves of a book, and what it answers. -/
def BNext (b per : Nat) (g : Nat → Bool) (f : Nat → Nat → Bool) (w : World) (v : Value) (e : Ending) (w' : World) : Prop := e = .returned v ∧ BookAt w' b per g f ∧ Off w.heap.size b w w'
theorem BNext.of_below {v : Value} {e : Ending} (H : BookAt w b per g f) (he : e = .returned v) (h : Below w.heap.size w W') : BNext b per g f w v e W' := ⟨he, H.grow h, Off.of_below h⟩
theorem BookAt.set (H : BookAt w b per g f) {p : Nat} (hp : p < 1024) (i : Bool) (h : Nat → Bool) (hok : ∀ s, h s = true → i = true ∧ s < per) :
    BookAt ((w.setCell ⟨b, p * 2, none⟩ (.bool i)).setCell ⟨b, p * 2 + 1, none⟩ (.int .u16 (w16 h : Int))) b per (upd g p i) (updP f p h) := by
  refine ⟨fun j hj => ⟨?_, ?_⟩, H.lo, fun q s hs => ?_, fun q hq => ?_, by simpa [World.setCell] using H.lb⟩
  · by_cases e1 : j = p * 2 + 1
    · subst e1
      rw [World.cell?_setCell_same' _ _ _ (by rw [World.cell?_setCell_other _ _ _ _ (fun e => by have := congrArg Addr.off e; simp at this), (H.cs (p * 2 + 1) hj).1]; rfl), cv_free _ _ _ hp, updP_same]
    · rw [World.cell?_setCell_other _ _ _ _ (fun e => e1 (by simpa using (congrArg Addr.off e).symm))]
      by_cases e2 : j = p * 2
      · subst e2
        rw [World.cell?_setCell_same' _ _ _ (by rw [(H.cs (p * 2) hj).1]; rfl), cv_in _ _ _ hp, upd_same]
      · rw [World.cell?_setCell_other _ _ _ _ (fun e => e2 (by simpa using (congrArg Addr.off e).symm)), (H.cs j hj).1]
        unfold cv
        by_cases e3 : j = 2048
        · rw [if_pos e3, if_pos e3]
        · rw [if_neg e3, if_neg e3, upd_ne g i (show j / 2 ≠ p by omega), updP_ne f h (show j / 2 ≠ p by omega)]
  · rw [World.frozen?_setCell, World.frozen?_setCell]; exact (H.cs j hj).2
  · by_cases e : q = p
    · subst e
      rw [updP_same] at hs
      rw [upd_same]
      exact hok s hs
    · rw [updP_ne f h e] at hs
      rw [upd_ne g i e]
      exact H.ok q s hs
  · by_cases e : q = p
    · omega
    · rw [upd_ne g i e] at hq
      exact H.gl q hq
theorem Off.leaf {p : Nat} {u v : Value} : Off w.heap.size b w ((w.setCell ⟨b, p * 2, none⟩ u).setCell ⟨b, p * 2 + 1, none⟩ v) :=
  ((Off.refl w.heap.size b w).setCell (p := ⟨b, p * 2, none⟩) (.inr rfl) u).setCell (p := ⟨b, p * 2 + 1, none⟩) (.inr rfl) v
theorem change_out (H : BookAt w b per g f) (p : Int) (hp : p < 0 ∨ 1024 ≤ p) (v : Value) : Calls Tryd.prog 71 #[.pointer (some ⟨b, 0, none⟩), .int .i64 p, v] w fun e w' => e = .returned (.bool false) ∧ w = w' := by
  have hM := may_any H p
  rw [show (decide (0 ≤ p) && decide (p < 1024)) = false from by rw [Bool.eq_false_iff]; simp; omega] at hM
  have hM := Lib.hid hM
  clear H
  go_enter Tryd.func71, Tryd.ntmps71
  go_wp2_with fail
  refine hM.out.mono ?_
  rintro e w2 ⟨rfl, rfl⟩
  go_wp2
  go_ret
  exact ⟨rfl, rfl⟩
set_option maxRecDepth 100000 in
set_option maxHeartbeats 1000000 in
theorem change_in (H : BookAt w b per g f) (p : Nat) (hp : p < 1024) (F : Nat) (lb : Array Value) (eF : ∀ args w, (callFunc F args).run Tryd.prog w = .ok (.enter F args) w) (i : Bool) (h : Nat → Bool) (ok : Bool)
    (hok : ok = true → ∀ s, h s = true → i = true ∧ s < per)
    (hF : Calls Tryd.prog F (#[.agg #[.bool (g p), .int .u16 (w16 (f p) : Int)]] ++ lb) w fun e w' => e = .returned (.tuple #[.agg #[.bool i, .int .u16 (w16 h : Int)], .bool ok]) ∧ Below w.heap.size w w') :
    Calls Tryd.prog 71 #[.pointer (some ⟨b, 0, none⟩), .int .i64 p, .func (.func F) #[] lb] w
      (BNext b per (if ok then upd g p i else g) (if ok then updP f p h else f) w (.bool ok)) := by
  have hM := may_any H p
  rw [show (decide (0 ≤ (p : Int)) && decide ((p : Int) < 1024)) = true from by simp; omega] at hM
  have hM := Lib.hid hM
  have c0 := H.inn hp
  have c1 := H.free hp
  have hF := Lib.hid hF
  have hp1 : (p : Int) < 1024 := by omega
  have hH := Lib.hid H
  clear H
  go_enter Tryd.func71, Tryd.ntmps71
  go_wp2_with fail
  refine hM.out.mono ?_
  rintro e w2 ⟨rfl, rfl⟩
  go_wp2_with fail
  refine hF.out.mono ?_
  rintro e w3 ⟨rfl, hb⟩
  cases ok
  · have hB := Lib.hid (hb.alloc hb.size (.cells #[.bool i, .int .u16 (w16 h : Int)] 89))
    clear c0 c1 hF hM hb
    go_wp2
    go_ret
    exact BNext.of_below hH.out rfl hB.out
  · have hB := Lib.hid (hb.alloc hb.size (.cells #[.bool i, .int .u16 (w16 h : Int)] 89))
    have hO := Lib.hid (hok rfl)
    clear c0 c1 hF hM hb hok
    go_upto_region 5 with (fail)
    obtain ⟨w4, h4⟩ : ∃ w4, w4 = w3.alloc (.cells #[.bool i, .int .u16 (w16 h : Int)] 89) := ⟨_, rfl⟩
    have n0 : w4.cell? ⟨w3.heap.size, 0, none⟩ = some (.bool i) := by rw [h4]; simp
    have n1 : w4.cell? ⟨w3.heap.size, 1, none⟩ = some (.int .u16 (w16 h : Int)) := by rw [h4]; simp
    rw [← h4] at hB ⊢
    have H4 := Lib.hid (hH.out.grow hB.out)
    have c0 := H4.out.inn hp
    have c1 := H4.out.free hp
    have f0 := (H4.out.cs (p * 2) (by omega)).2
    have f1 := (H4.out.cs (p * 2 + 1) (by omega)).2
    clear h4
    generalize w3.heap.size = q at *
    go_region
    go_wp2
    go_ret
    exact ⟨rfl, (H4.out.set hp i h hO.out).grow (Below.refl _ _).drew, ((Off.of_below hB.out).step Off.leaf).drew⟩
end
end Go.Proofs.YticfpnhfhhagpaaDoor
namespace Go.Proofs.YticfpnhfhhagpaaDoor
open Go.RowKit

/-- A world of the class. -/
structure Wd (S : World → Prop) where
  w : World
  h : S w
theorem region_cls {P : Program} (S : World → Prop) {id : Nat} {Q : Exit → Act → World → Prop} {a : Act} {w : World} {l : List Oper} (hm : P.follows .mixedOrders = true) (hB : Region.lexB .any l.toArray = true) (h0 : S w.drew)
    (h : wpQuiet P l.toArray (fun w' => ∃ y : Wd S, w' = y.w) (fun a' => ∀ y : Wd S, Q .normal a' y.w) l a) : (Code.region id l.toArray true).wp P Q a w :=
  wp_region_quiet (C := fun w' => ∃ y : Wd S, w' = y.w) hm hB ⟨⟨w.drew, h0⟩, rfl⟩ (by
    have e : (fun a' => ∀ y : Wd S, Q .normal a' y.w) = (fun a' => ∀ w', (∃ y : Wd S, w' = y.w) → Q .normal a' w') := by
      funext a'
      exact propext ⟨fun k w' ⟨y, hy⟩ => hy ▸ k y, fun k y => k y.w ⟨y, rfl⟩⟩
    rw [e] at h
    simpa using h)
theorem cls_call {P : Program} {S : World → Prop} {f : FuncId} {args : Array Value} {v : Value} (h : ∀ w, S w → Calls P f args w fun e w' => e = .returned v ∧ S w') (y : Wd S) :
    Calls P f args y.w fun e w' => e = .returned v ∧ ∃ y' : Wd S, w' = y'.w :=
  (h y.w y.h).mono fun _ w' k => ⟨k.1, ⟨w', k.2⟩, rfl⟩

/-! A head of operations of this kind, in whatever order; behind it the others, in the order of the text. -/
section
variable {P : Program} {ops : Array Oper} {md : Region.Mode} {C : World → Prop}

/-- Some operations ahead of number n come up, in whatever order; then L. -/
def anyQL (P : Program) (md : Region.Mode) (ops : Array Oper) (C : World → Prop) (n : Nat) (L : Array Bool → Act → Prop) : Nat → Array Bool → Act → Prop
  | 0, s, a => L s a
  | f + 1, s, a => Region.ready md ops s ≠ [] ∧ ∀ i ∈ Region.ready md ops s, i < n ∧ qOp P ops C i (anyQL P md ops C n L f (s.setIfInBounds i true)) a

theorem anyQL_out {n g : Nat} {L : Array Bool → Act → Prop} {Q : Exit → Act → World → Prop} (hL : ∀ s a w, C w → L s a → wpAny P md ops Q g s a w) :
    ∀ (f : Nat) (s : Array Bool) (a : Act) (w : World), C w → anyQL P md ops C n L f s a → wpAny P md ops Q (f + g) s a w
  | 0, s, a, w, hw, h => by rw [Nat.zero_add]; exact hL _ _ _ hw h
  | f + 1, s, a, w, hw, h => by
    rw [show f + 1 + g = (f + g) + 1 by omega]
    exact ⟨fun h0 => absurd h0 h.1, fun i hi => wpOp_of_qOp hw (fun a' w' hw' h' => anyQL_out hL f _ a' w' hw' h') (h.2 i hi).2⟩

theorem anyQL_first {n i : Nat} {oi : Oper} {v : Value} {L : Array Bool → Act → Prop} (hi : ops[i]? = some oi) (hsel : ∀ (j : Nat) (o : Oper) cs b, ops[j]? = some o → o.op ≠ .select cs b)
    (hs : Region.sinkB md ops n = true) (hc : Region.chainB md ops n = true) (hn : n < ops.size) (hin : i < n) (hdone : ∀ s a, L s a → ∀ j ∈ Region.ready md ops s, n ≤ j) :
    ∀ (f : Nat) (s : Array Bool) (a : Act), HeadInv md ops n s →
      (∀ j oj, ops[j]? = some oj → j ≠ i → s.getD j true = false → (∀ e ∈ oj.after, Region.binds md e = true → e.on ≠ i) → oi.apart ops oj = true) →
      i ∈ Region.ready md ops s → YieldsIn P ops C oi v a → anyQL P md ops C n L f (s.setIfInBounds i true) (a.put oi.dst v) → anyQL P md ops C n L (f + 1) s a := by
  intro f
  induction f with
  | zero =>
    intro s a inv _ hr hy H
    refine ⟨fun h => (by rw [h] at hr; cases hr), fun j hj => ?_⟩
    have hjn : j < n := Nat.lt_of_not_le fun h => tail_waits hs hc hn inv _ i rfl hin (mem_ready.1 hr).1 j h hj
    refine ⟨hjn, ?_⟩
    by_cases hji : j = i
    · subst hji; exact hy.qOp hi H
    · have := hdone _ _ H j (ready_mono hj hji)
      omega
  | succ f ih =>
    intro s a inv hfree hr hy H
    have hun := (mem_ready.1 hr).1
    refine ⟨fun h => (by rw [h] at hr; cases hr), fun j hj => ?_⟩
    have hjn : j < n := Nat.lt_of_not_le fun h => tail_waits hs hc hn inv _ i rfl hin hun j h hj
    refine ⟨hjn, ?_⟩
    by_cases hji : j = i
    · subst hji; exact hy.qOp hi H
    · obtain ⟨hjun, oj, hoj, hall⟩ := mem_ready.1 hj
      have hnot : ∀ e ∈ oj.after, Region.binds md e = true → e.on ≠ i := fun e he hb heq => by
        have h1 := hall e he hb
        rw [heq, getD_both hun] at h1
        cases h1
      refine qOp_mono (fun a' h3 => ih (s.setIfInBounds j true) a' (inv.set hj hjn) (fun k ok hk hki hku hno => hfree k ok hk hki ?_ hno) (ready_mono hr (Ne.symm hji)) h3.1 ?_)
        (qOp_put hoj (hfree j oj hoj hji hjun hnot) (fun cs b => hsel i oi cs b hi) (fun cs b => hsel j oj cs b hoj) hy ((H.2 j (ready_mono hj hji)).2))
      · by_cases hjk : j = k
        · subst hjk; exact hjun
        · rw [getD_set_ne true hjk] at hku; exact hku
      · rw [Array.setIfInBounds_comm _ _ hji]
        exact h3.2

theorem anyQL_lex {n g : Nat} {T : Act → Prop} (hsel : Region.noSelect ops = true) (hs : Region.sinkB md ops n = true) (hc : Region.chainB md ops n = true) (hn : n < ops.size) :
    ∀ (l : List Oper) (k : Nat) (s : Array Bool) (a : Act), (∀ j, j < l.length → l[j]? = ops[k + j]?) → k + l.length = n → HeadInv md ops n s →
    Region.lexHead md ops g l.length k s = true → wpQuiet P ops C T l a → anyQL P md ops C n (fun s' a' => Region.seqB md ops g n s' = true ∧ T a') l.length s a
  | [], k, s, a, _, hk, _, hB, h => by
    obtain rfl : k = n := by simpa using hk
    exact ⟨by simpa [Region.lexHead] using hB, h⟩
  | o :: l, k, s, a, hl, hk, inv, hB, h => by
    have h0 : ops[k]? = some o := by simpa using (hl 0 (by simp)).symm
    simp only [List.length_cons, Region.lexHead, Bool.and_eq_true] at hB
    simp only [List.length_cons] at hk
    have hr : k ∈ Region.ready md ops s := by simpa using hB.1.1
    obtain ⟨v, hy, hK⟩ := yieldsIn_of_qOp h0 (show qOp P ops C k (wpQuiet P ops C T l) a by unfold qOp; simp only [h0]; exact h)
    exact anyQL_first h0 (Region.noSelect_spec hsel) hs hc hn (by omega) (fun s' a' hL => seqB_ready hL.1) l.length s a inv (Region.free_spec h0 hB.1.2) hr hy
      (anyQL_lex hsel hs hc hn l (k + 1) _ _ (fun j hj => by have := hl (j + 1) (by simp; omega); simpa [Nat.add_assoc, Nat.add_comm 1 j] using this) (by omega) (inv.set hr (by omega)) hB.2 hK)
end
/-- Such a region: its first n operations keep the class; the others come behind them, in the order of the text. -/
theorem region_cls_tail {P : Program} (S : World → Prop) {id : Nat} {Q : Exit → Act → World → Prop} {a : Act} {w : World} {l : List Oper} (n : Nat) (hm : P.follows .mixedOrders = true) (hB : Region.lexTailB .any l.toArray n = true) (h0 : S w.drew)
    (h : wpQuiet P l.toArray (fun w' => ∃ y : Wd S, w' = y.w) (fun a' => ∀ y : Wd S, wpList P l.toArray Q (l.drop n) a' y.w) (l.take n) a) : (Code.region id l.toArray true).wp P Q a w := by
  simp only [Region.lexTailB, Bool.and_eq_true, decide_eq_true_eq] at hB
  obtain ⟨⟨⟨⟨hsel, hn⟩, hs⟩, hc⟩, hlex⟩ := hB
  have hn' : n < l.length := by simpa using hn
  have htl : (l.take n).length = n := by simp; omega
  have hdl : (l.drop n).length = l.toArray.size - n := by simp
  have inv0 : HeadInv .any l.toArray n (Array.replicate l.toArray.size false) :=
    ⟨by simp, fun j oj _ hl => (by rw [getD_replicate_false] at hl; cases hl), fun t _ ht => getD_in (by simpa using ht) (getD_replicate_false _ _)⟩
  have H := anyQL_lex (md := .any) (g := l.toArray.size - n) hsel hs hc hn (l.take n) 0 _ a (fun j hj => by
    have hj' : j < n := by rw [htl] at hj; exact hj
    simp [hj']) (by simpa using htl) inv0 (by rw [htl]; exact hlex) h
  refine wp_region_any hm ?_
  have := anyQL_out (Q := Q) (g := l.toArray.size - n) (fun s a' w' hw' hL => by
    obtain ⟨y, rfl⟩ := hw'
    have := wpAny_of_seq (md := .any) (Q' := Q) (l.drop n) n s a' y.w (fun j => by simp [List.getElem?_drop]) (by rw [hdl]; exact hL.1) (hL.2 y)
    rwa [hdl] at this) _ _ _ w.drew ⟨⟨w.drew, h0⟩, rfl⟩ H
  rw [htl, show n + (l.toArray.size - n) = l.toArray.size by omega] at this
  exact this
/-- A callee that writes nothing old keeps a class that asks nothing of new blocks. -/
theorem cls_bel {P : Program} {S : World → Prop} {f : FuncId} {args : Array Value} {v : Value} (hS : ∀ w w', S w → Below w.heap.size w w' → S w')
    (h : ∀ w, Calls P f args w fun e w' => e = .returned v ∧ Below w.heap.size w w') (y : Wd S) : Calls P f args y.w fun e w' => e = .returned v ∧ ∃ y' : Wd S, w' = y'.w :=
  cls_call (fun w hw => (h w).mono fun _ _ k => ⟨k.1, hS _ _ hw k.2⟩) y
end Go.Proofs.YticfpnhfhhagpaaDoor
namespace Go.Proofs.YticfpnhfhhagpaaDoor
open Go.RowKit
theorem eqF_step {P : Program} {d : Nat} {xs ys : Array Value} {f : Field} {fs : List Field} {w : World} {n : String} {ty off : Nat} {x y : Value} {r s : Bool}
    (hf : f.name = n ∧ f.type = ty ∧ f.offset = off) (hn : n ≠ "_") (hx : (part ty xs off).run P w = .ok x w) (hy : (part ty ys off).run P w = .ok y w) (hr : (Op.equalIn d ty x y).run P w = .ok r w)
    (h : (Op.eqFields d xs ys fs).run P w = .ok s w) : (Op.eqFields d xs ys (f :: fs)).run P w = .ok (r && s) w := by
  obtain ⟨rfl, rfl, rfl⟩ := hf
  unfold Op.eqFields
  rw [if_pos hn]
  simp only [Sem.run_bind, hx, hy, hr, Result.andThen_ok, Sem.run_ite]
  cases r
  · simp
  · simpa using h
theorem eqF_nil {P : Program} {d : Nat} {xs ys : Array Value} {w : World} : (Op.eqFields d xs ys []).run P w = .ok true w := rfl
end Go.Proofs.YticfpnhfhhagpaaDoor
namespace Go.Proofs.YticfpnhfhhagpaaDoor
set_option maxRecDepth 100000
open Go.RowKit Go.Shelf
set_option linter.unusedVariables false

theorem leaf_eq (d : Nat) (i j : Bool) (x y : Int) (w : World) :
    (Op.equalIn (d + 1 + 1) 89 (.agg #[.bool i, .int .u16 x]) (.agg #[.bool j, .int .u16 y])).run Tryd.prog w = .ok ((i == j) && ((x == y) && true)) w := by
  rw [run_equalIn_struct w (d + 1) 89 _ _ (by kernel_rfl) (by kernel_rfl)]
  have hf : (Tryd.prog.fieldsOf 89).toList.map (fun f => (f.name, f.type, f.offset)) = [("in", 4, 0), ("free", 35, 1)] := by kernel_rfl
  have i16 : ∀ (x y : Int) w, (Op.equalIn (d + 1) 35 (.int .u16 x) (.int .u16 y)).run Tryd.prog w = .ok (x == y) w := fun x y w => run_equalIn_int w d 35 .u16 .u16 x y (by kernel_rfl)
  have ib : ∀ (x y : Bool) w, (Op.equalIn (d + 1) 4 (.bool x) (.bool y)).run Tryd.prog w = .ok (x == y) w := fun x y w => run_equalIn_bool w d 4 x y (by kernel_rfl)
  generalize (Tryd.prog.fieldsOf 89).toList = fs at *
  obtain ⟨f0, fs, rfl, hf0, hf⟩ := List.map_eq_cons_iff.1 hf
  obtain ⟨f1, fs, rfl, hf1, hf⟩ := List.map_eq_cons_iff.1 hf
  obtain rfl := List.map_eq_nil_iff.1 hf
  simp only [Prod.mk.injEq] at hf0 hf1
  refine eqF_step hf0 (by decide) (by kernel_rfl) (by kernel_rfl) (ib _ _ _) ?_
  exact eqF_step hf1 (by decide) (by kernel_rfl) (by kernel_rfl) (i16 _ _ _) eqF_nil
/-- Is a page's leaf that of a whole page? -/
def isW (i : Bool) (h : Nat → Bool) (per : Nat) : Bool := i && decide (w16 h = w16 (full per))
theorem leaf_whole (i : Bool) (h : Nat → Bool) (per : Nat) (w : World) :
    (Op.equalIn 10000 89 (.agg #[.bool i, .int .u16 (w16 h : Int)]) (.agg #[.bool true, .int .u16 (w16 (full per) : Int)])).run Tryd.prog w = .ok (isW i h per) w := by
  have e := leaf_eq 9998 i true (w16 h : Int) (w16 (full per) : Int) w
  rw [show (10000 : Nat) = 9998 + 1 + 1 from rfl, e]
  congr 1
  unfold isW
  have : ((w16 h : Int) == (w16 (full per) : Int)) = decide (w16 h = w16 (full per)) := by
    rw [Bool.eq_iff_iff]
    simp only [beq_iff_eq, decide_eq_true_eq]
    omega
  rw [this]
  cases i <;> simp
section
variable {W W' w : World} {b per c d : Nat} {g : Nat → Bool} {f : Nat → Nat → Bool} {i : Bool} {h : Nat → Bool}
/-- The box of the closure leads to the book. -/
structure Led (w : World) (c b per : Nat) (g : Nat → Bool) (f : Nat → Nat → Bool) : Prop where
  k : BookAt w b per g f
  cc : w.cell? ⟨c, 0, none⟩ = some (.pointer (some ⟨b, 0, none⟩))
  l : c < w.heap.size
theorem Led.grow (H : Led w c b per g f) (h : Below w.heap.size w W') : Led W' c b per g f := ⟨H.k.grow h, (h.cell (p := ⟨c, 0, none⟩) H.l).trans H.cc, Nat.lt_of_lt_of_le H.l h.size⟩
/-- A leaf in a box, and one to be answered. -/
structure Two (W : World) (c b per : Nat) (g : Nat → Bool) (f : Nat → Nat → Bool) (i : Bool) (h : Nat → Bool) (q : Nat) (w : World) : Prop where
  l : Led w c b per g f
  bl : Below W.heap.size W w
  q0 : w.cell? ⟨q, 0, none⟩ = some (.bool i)
  q1 : w.cell? ⟨q, 1, none⟩ = some (.int .u16 (w16 h : Int))
  r0 : w.cell? ⟨q + 1, 0, none⟩ = some (.bool false) ∧ w.frozen? ⟨q + 1, 0, none⟩ = false
  r1 : w.cell? ⟨q + 1, 1, none⟩ = some (.int .u16 0) ∧ w.frozen? ⟨q + 1, 1, none⟩ = false
  lq : W.heap.size ≤ q ∧ q + 1 < w.heap.size
theorem Two.grow {q : Nat} (H : Two W c b per g f i h q w) (k : Below w.heap.size w W') : Two W c b per g f i h q W' :=
  ⟨H.l.grow k, H.bl.trans (k.mono H.bl.size), (k.cell (p := ⟨q, 0, none⟩) (by have := H.lq; show q < _; omega)).trans H.q0, (k.cell (p := ⟨q, 1, none⟩) (by have := H.lq; show q < _; omega)).trans H.q1,
    ⟨(k.cell (p := ⟨q + 1, 0, none⟩) H.lq.2).trans H.r0.1, (k.frozen (p := ⟨q + 1, 0, none⟩) H.lq.2).trans H.r0.2⟩, ⟨(k.cell (p := ⟨q + 1, 1, none⟩) H.lq.2).trans H.r1.1, (k.frozen (p := ⟨q + 1, 1, none⟩) H.lq.2).trans H.r1.2⟩,
    H.lq.1, Nat.lt_of_lt_of_le H.lq.2 k.size⟩
theorem Two.start (H : Led w c b per g f) (i : Bool) (h : Nat → Bool) : Two w c b per g f i h w.heap.size ((w.alloc (.cells #[.bool i, .int .u16 (w16 h : Int)] 89)).alloc (.cells #[.bool false, .int .u16 0] 89)) := by
  have k1 : Below w.heap.size w (w.alloc (.cells #[.bool i, .int .u16 (w16 h : Int)] 89)) := (Below.refl _ _).alloc (Nat.le_refl _) _
  have hs : (w.alloc (.cells #[.bool i, .int .u16 (w16 h : Int)] 89)).heap.size = w.heap.size + 1 := by simp
  have c0 : (w.alloc (.cells #[.bool i, .int .u16 (w16 h : Int)] 89)).cell? ⟨w.heap.size, 0, none⟩ = some (.bool i) := by simp
  have c1 : (w.alloc (.cells #[.bool i, .int .u16 (w16 h : Int)] 89)).cell? ⟨w.heap.size, 1, none⟩ = some (.int .u16 (w16 h : Int)) := by simp
  generalize (w.alloc (.cells #[.bool i, .int .u16 (w16 h : Int)] 89)) = w1 at *
  have k2 : Below w1.heap.size w1 (w1.alloc (.cells #[.bool false, .int .u16 0] 89)) := (Below.refl _ _).alloc (Nat.le_refl _) _
  refine ⟨(H.grow k1).grow k2, k1.trans (k2.mono (by omega)), (k2.cell (p := ⟨w.heap.size, 0, none⟩) (by show w.heap.size < _; omega)).trans c0, (k2.cell (p := ⟨w.heap.size, 1, none⟩) (by show w.heap.size < _; omega)).trans c1, ?_, ?_, ?_⟩
  · rw [← hs]; exact ⟨by simp, by simp⟩
  · rw [← hs]; exact ⟨by simp, by simp⟩
  · exact ⟨Nat.le_refl _, by simp [hs]⟩
/-- The leaf that is to be answered is laid. -/
theorem Two.store {q : Nat} (H : Two W c b per g f i h q w) (u v : Value) : (loadVar 89 ⟨q + 1, 0, none⟩).run Tryd.prog ((w.setCell ⟨q + 1, 0, none⟩ u).setCell ⟨q + 1, 1, none⟩ v) = .ok (.agg #[u, v]) ((w.setCell ⟨q + 1, 0, none⟩ u).setCell ⟨q + 1, 1, none⟩ v) ∧
    Below W.heap.size W ((w.setCell ⟨q + 1, 0, none⟩ u).setCell ⟨q + 1, 1, none⟩ v) := by
  have h1 := H.lq.1
  refine ⟨load_leaf ?_ ?_, (H.bl.setCell (p := ⟨q + 1, 0, none⟩) (by show W.heap.size ≤ q + 1; omega) u).setCell (p := ⟨q + 1, 1, none⟩) (by show W.heap.size ≤ q + 1; omega) v⟩
  · rw [World.cell?_setCell_other _ _ _ _ (fun e => by have := congrArg Addr.off e; simp at this)]
    exact World.cell?_setCell_same' _ _ _ (by rw [H.r0.1]; rfl)
  · exact World.cell?_setCell_same' _ _ _ (by rw [World.cell?_setCell_other _ _ _ _ (fun e => by have := congrArg Addr.off e; simp at this), H.r1.1]; rfl)
def ClPost (w : World) (i : Bool) (h : Nat → Bool) (ok : Bool) (e : Ending) (w' : World) : Prop := e = .returned (.tuple #[.agg #[.bool i, .int .u16 (w16 h : Int)], .bool ok]) ∧ Below w.heap.size w w'
set_option maxHeartbeats 1000000 in
theorem add1 (H : Led w c b per g f) (i : Bool) (h : Nat → Bool) : Calls Tryd.prog 83 #[.agg #[.bool i, .int .u16 (w16 h : Int)], .pointer (some ⟨c, 0, none⟩)] w (ClPost w true (full per) (!i)) := by
  have hT := (Two.start H i h).grow (Below.refl _ _).drew
  have cM := Lib.hid ((whole_any hT.l.k).mono fun e w' k => (show e = .returned (.agg #[.bool true, .int .u16 (w16 (full per) : Int)]) ∧ Two w c b per g f i h w.heap.size w' from ⟨k.1, hT.grow k.2⟩))
  have hT' := Two.start H i h
  clear hT H
  go_enter Tryd.func83, Tryd.ntmps83
  go_wp2_with fail
  generalize ((w.alloc (.cells #[.bool i, .int .u16 (w16 h : Int)] 89)).alloc (.cells #[.bool false, .int .u16 0] 89)) = W1 at *
  have a0 := hT'.l.cc
  have a1 := hT'.q0
  clear hT'
  go_region_with (go_at_call 74; refine cM.out.mono ?_; rintro e w3 ⟨rfl, k⟩; have hk := Lib.hid k; have a1 := k.q0; have r0 := k.r0.1; have r1 := k.r1.1; have s0 := k.r0.2; have s1 := k.r1.2; clear k)
  all_goals (
    obtain ⟨x1, x2⟩ := hk.out.store (.bool true) (.int .u16 (w16 (full per) : Int))
    have X1 := Lib.hid x1
    have X2 := Lib.hid x2
    clear x1 x2 r0 r1 s0 s1 a1
    go_wp2
    exact bodyPost_ret (res_two Tryd.results83 rfl rfl X1.out) rfl ⟨rfl, X2.out⟩)
set_option maxHeartbeats 1000000 in
theorem drop1 (H : Led w c b per g f) (i : Bool) (h : Nat → Bool) : Calls Tryd.prog 73 #[.agg #[.bool i, .int .u16 (w16 h : Int)], .pointer (some ⟨c, 0, none⟩)] w (ClPost w false (fun _ => false) (isW i h per)) := by
  have hz := Lib.hid (show w16 (fun _ => false) = 0 from w16_zero.2 fun _ _ => rfl)
  have hT := (Two.start H i h).grow (Below.refl _ _).drew
  have cM := Lib.hid ((whole_any hT.l.k).mono fun e w' k => (show e = .returned (.agg #[.bool true, .int .u16 (w16 (full per) : Int)]) ∧ Two w c b per g f i h w.heap.size w' from ⟨k.1, hT.grow k.2⟩))
  have hT' := Two.start H i h
  have hE := leaf_whole i h per
  generalize isW i h per = ok at *
  clear hT H
  go_enter Tryd.func73, Tryd.ntmps73
  go_wp2_with fail
  generalize ((w.alloc (.cells #[.bool i, .int .u16 (w16 h : Int)] 89)).alloc (.cells #[.bool false, .int .u16 0] 89)) = W1 at *
  have a0 := hT'.l.cc
  have a1 := hT'.q0
  have a2 := hT'.q1
  clear hT'
  go_region_with (go_at_call 74; refine cM.out.mono ?_; rintro e w3 ⟨rfl, k⟩; have hk := Lib.hid k; have a1 := k.q0; have a2 := k.q1; have r0 := k.r0.1; have r1 := k.r1.1; have s0 := k.r0.2; have s1 := k.r1.2; clear k)
  all_goals (
    obtain ⟨x1, x2⟩ := hk.out.store (.bool false) (.int .u16 0)
    have X1 := Lib.hid x1
    have X2 := Lib.hid x2
    clear x1 x2 r0 r1 s0 s1 a1 a2
    go_wp2
    refine bodyPost_ret (res_two Tryd.results73 rfl rfl X1.out) rfl ⟨?_, X2.out⟩
    rw [hz.out]; rfl)
/-- The box of the closure holds a slot's number. -/
structure Num (w : World) (d : Nat) (s : Int) : Prop where
  c : w.cell? ⟨d, 0, none⟩ = some (.int .i64 s)
  l : d < w.heap.size
theorem Num.grow {s : Int} (H : Num w d s) (h : Below w.heap.size w W') : Num W' d s := ⟨(h.cell (p := ⟨d, 0, none⟩) H.l).trans H.c, Nat.lt_of_lt_of_le H.l h.size⟩
/-- A leaf in a box, and one to be answered. -/
structure TwoB (W : World) (i : Bool) (h : Nat → Bool) (q : Nat) (w : World) : Prop where
  bl : Below W.heap.size W w
  q0 : w.cell? ⟨q, 0, none⟩ = some (.bool i) ∧ w.frozen? ⟨q, 0, none⟩ = false
  q1 : w.cell? ⟨q, 1, none⟩ = some (.int .u16 (w16 h : Int)) ∧ w.frozen? ⟨q, 1, none⟩ = false
  r0 : w.cell? ⟨q + 1, 0, none⟩ = some (.bool false) ∧ w.frozen? ⟨q + 1, 0, none⟩ = false
  r1 : w.cell? ⟨q + 1, 1, none⟩ = some (.int .u16 0) ∧ w.frozen? ⟨q + 1, 1, none⟩ = false
  lq : W.heap.size ≤ q ∧ q + 1 < w.heap.size
theorem TwoB.start (w : World) (i : Bool) (h : Nat → Bool) : TwoB w i h w.heap.size ((w.alloc (.cells #[.bool i, .int .u16 (w16 h : Int)] 89)).alloc (.cells #[.bool false, .int .u16 0] 89)) := by
  have k1 : Below w.heap.size w (w.alloc (.cells #[.bool i, .int .u16 (w16 h : Int)] 89)) := (Below.refl _ _).alloc (Nat.le_refl _) _
  have hs : (w.alloc (.cells #[.bool i, .int .u16 (w16 h : Int)] 89)).heap.size = w.heap.size + 1 := by simp
  have c0 : (w.alloc (.cells #[.bool i, .int .u16 (w16 h : Int)] 89)).cell? ⟨w.heap.size, 0, none⟩ = some (.bool i) ∧ (w.alloc (.cells #[.bool i, .int .u16 (w16 h : Int)] 89)).frozen? ⟨w.heap.size, 0, none⟩ = false := ⟨by simp, by simp⟩
  have c1 : (w.alloc (.cells #[.bool i, .int .u16 (w16 h : Int)] 89)).cell? ⟨w.heap.size, 1, none⟩ = some (.int .u16 (w16 h : Int)) ∧ (w.alloc (.cells #[.bool i, .int .u16 (w16 h : Int)] 89)).frozen? ⟨w.heap.size, 1, none⟩ = false := ⟨by simp, by simp⟩
  generalize (w.alloc (.cells #[.bool i, .int .u16 (w16 h : Int)] 89)) = w1 at *
  have k2 : Below w1.heap.size w1 (w1.alloc (.cells #[.bool false, .int .u16 0] 89)) := (Below.refl _ _).alloc (Nat.le_refl _) _
  refine ⟨k1.trans (k2.mono (by omega)), ⟨(k2.cell (p := ⟨w.heap.size, 0, none⟩) (by show w.heap.size < _; omega)).trans c0.1, (k2.frozen (p := ⟨w.heap.size, 0, none⟩) (by show w.heap.size < _; omega)).trans c0.2⟩, ⟨(k2.cell (p := ⟨w.heap.size, 1, none⟩) (by show w.heap.size < _; omega)).trans c1.1, (k2.frozen (p := ⟨w.heap.size, 1, none⟩) (by show w.heap.size < _; omega)).trans c1.2⟩, ?_, ?_, ?_⟩
  · rw [← hs]; exact ⟨by simp, by simp⟩
  · rw [← hs]; exact ⟨by simp, by simp⟩
  · exact ⟨Nat.le_refl _, by simp [hs]⟩
/-- The slots turned, and the leaf answered. -/
theorem TwoB.turn {q : Nat} (H : TwoB W i h q w) (x : Value) (u v : Value) :
    (loadVar 89 ⟨q + 1, 0, none⟩).run Tryd.prog (((w.setCell ⟨q, 1, none⟩ x).drew.setCell ⟨q + 1, 0, none⟩ u).setCell ⟨q + 1, 1, none⟩ v) = .ok (.agg #[u, v]) (((w.setCell ⟨q, 1, none⟩ x).drew.setCell ⟨q + 1, 0, none⟩ u).setCell ⟨q + 1, 1, none⟩ v) ∧
    Below W.heap.size W (((w.setCell ⟨q, 1, none⟩ x).drew.setCell ⟨q + 1, 0, none⟩ u).setCell ⟨q + 1, 1, none⟩ v) := by
  have h1 := H.lq.1
  have c0 : (w.setCell ⟨q, 1, none⟩ x).drew.cell? ⟨q + 1, 0, none⟩ = some (.bool false) := by
    show (w.setCell ⟨q, 1, none⟩ x).cell? _ = _
    rw [World.cell?_setCell_other _ _ _ _ (fun e => by have := congrArg Addr.block e; simp at this)]; exact H.r0.1
  have c1 : (w.setCell ⟨q, 1, none⟩ x).drew.cell? ⟨q + 1, 1, none⟩ = some (.int .u16 0) := by
    show (w.setCell ⟨q, 1, none⟩ x).cell? _ = _
    rw [World.cell?_setCell_other _ _ _ _ (fun e => by have := congrArg Addr.block e; simp at this)]; exact H.r1.1
  have b1 : Below W.heap.size W (w.setCell ⟨q, 1, none⟩ x).drew := (H.bl.setCell (p := ⟨q, 1, none⟩) h1 x).drew
  generalize (w.setCell ⟨q, 1, none⟩ x).drew = w2 at *
  refine ⟨load_leaf ?_ ?_, (b1.setCell (p := ⟨q + 1, 0, none⟩) (by show W.heap.size ≤ q + 1; omega) u).setCell (p := ⟨q + 1, 1, none⟩) (by show W.heap.size ≤ q + 1; omega) v⟩
  · rw [World.cell?_setCell_other _ _ _ _ (fun e => by have := congrArg Addr.off e; simp at this)]
    exact World.cell?_setCell_same' _ _ _ (by rw [c0]; rfl)
  · exact World.cell?_setCell_same' _ _ _ (by rw [World.cell?_setCell_other _ _ _ _ (fun e => by have := congrArg Addr.off e; simp at this), c1]; rfl)
set_option maxHeartbeats 1000000 in
theorem take1 (s : Nat) (hs : s < 16) (H : Num w d s) (i : Bool) (h : Nat → Bool) : Calls Tryd.prog 85 #[.agg #[.bool i, .int .u16 (w16 h : Int)], .pointer (some ⟨d, 0, none⟩)] w (ClPost w i (upd h s false) true) := by
  have hT := TwoB.start w i h
  have c0 := (H.grow hT.bl).c
  have e1 := one16 s hs
  have e2 := Lib.hid (show bits .andNot .u16 (w16 h : Int) ((2 : Int) ^ s) = (w16 (upd h s false) : Nat) from by have := w16_clear h s hs; simpa using this)
  have hs' : (s : Int) < 16 := by omega
  clear H
  go_enter Tryd.func85, Tryd.ntmps85
  go_wp2_with fail
  generalize ((w.alloc (.cells #[.bool i, .int .u16 (w16 h : Int)] 89)).alloc (.cells #[.bool false, .int .u16 0] 89)) = W1 at *
  have q0 := hT.q0.1
  have q1 := hT.q1.1
  have p1 := hT.q1.2
  have r0 := hT.r0.1
  have r1 := hT.r1.1
  have s0 := hT.r0.2
  have s1 := hT.r1.2
  have hT := Lib.hid hT
  go_region
  all_goals (
    rw [e2.out]
    obtain ⟨x1, x2⟩ := hT.out.turn (.int .u16 (w16 (upd h s false) : Int)) (.bool i) (.int .u16 (w16 (upd h s false) : Int))
    have X1 := Lib.hid x1
    have X2 := Lib.hid x2
    have q1' : (W1.setCell ⟨w.heap.size, 1, none⟩ (.int .u16 (w16 (upd h s false) : Int))).cell? ⟨w.heap.size, 1, none⟩ = some (.int .u16 (w16 (upd h s false) : Int)) := World.cell?_setCell_same' _ _ _ (by rw [q1]; rfl)
    clear x1 x2 e1
    go_wp2
    exact bodyPost_ret (res_two Tryd.results85 rfl rfl X1.out) rfl ⟨rfl, X2.out⟩)
theorem TwoB.drewN {q : Nat} (H : TwoB W i h q w) (n : Nat) : TwoB W i h q (w.drewN n) := ⟨below_drewN H.bl n, H.q0, H.q1, H.r0, H.r1, H.lq⟩
theorem TwoB.store {q : Nat} (H : TwoB W i h q w) (u v : Value) : (loadVar 89 ⟨q + 1, 0, none⟩).run Tryd.prog ((w.setCell ⟨q + 1, 0, none⟩ u).setCell ⟨q + 1, 1, none⟩ v) = .ok (.agg #[u, v]) ((w.setCell ⟨q + 1, 0, none⟩ u).setCell ⟨q + 1, 1, none⟩ v) ∧
    Below W.heap.size W ((w.setCell ⟨q + 1, 0, none⟩ u).setCell ⟨q + 1, 1, none⟩ v) := by
  have h1 := H.lq.1
  refine ⟨load_leaf ?_ ?_, (H.bl.setCell (p := ⟨q + 1, 0, none⟩) (by show W.heap.size ≤ q + 1; omega) u).setCell (p := ⟨q + 1, 1, none⟩) (by show W.heap.size ≤ q + 1; omega) v⟩
  · rw [World.cell?_setCell_other _ _ _ _ (fun e => by have := congrArg Addr.off e; simp at this)]
    exact World.cell?_setCell_same' _ _ _ (by rw [H.r0.1]; rfl)
  · exact World.cell?_setCell_same' _ _ _ (by rw [World.cell?_setCell_other _ _ _ _ (fun e => by have := congrArg Addr.off e; simp at this), H.r1.1]; rfl)
/-- May this slot be made free? -/
def mayPut (i : Bool) (h : Nat → Bool) (per : Nat) (s : Int) : Bool := i && decide (0 ≤ s) && decide (s < (per : Int)) && !h s.toNat
set_option maxHeartbeats 1000000 in
theorem put1 (s : Int) (H : Led w c b per g f) (N : Num w d s) (i : Bool) (h : Nat → Bool) : Calls Tryd.prog 72 #[.agg #[.bool i, .int .u16 (w16 h : Int)], .pointer (some ⟨d, 0, none⟩), .pointer (some ⟨c, 0, none⟩)] w
    (ClPost w i (if mayPut i h per s then upd h s.toNat true else h) (mayPut i h per s)) := by
  have hT := TwoB.start w i h
  have c0 := (N.grow hT.bl).c
  have H1 := H.grow hT.bl
  have c1 := H1.cc
  have c2 := H1.k.size
  have hp := H.k.lo
  have hp1 : (per : Int) ≤ 16 := by omega
  clear H H1
  cases i
  · rw [show mayPut false h per s = false from rfl]
    simp only [Bool.false_eq_true, if_false]
    clear N hp hp1
    go_enter Tryd.func72, Tryd.ntmps72
    go_wp2_with fail
    generalize ((w.alloc (.cells #[.bool false, .int .u16 (w16 h : Int)] 89)).alloc (.cells #[.bool false, .int .u16 0] 89)) = W1 at *
    have q0 := hT.q0.1
    have q1 := hT.q1.1
    go_quiet (fail)
    have T2 := hT.drewN nq
    have C0 : (W1.drewN nq).cell? ⟨d, 0, none⟩ = some (.int .i64 s) := c0
    generalize W1.drewN nq = W2 at *
    have Q0 := T2.q0.1
    have Q1 := T2.q1.1
    have r0 := T2.r0.1
    have r1 := T2.r1.1
    have s0 := T2.r0.2
    have s1 := T2.r1.2
    obtain ⟨x1, x2⟩ := T2.store (.bool false) (.int .u16 (w16 h : Int))
    have X1 := Lib.hid x1
    have X2 := Lib.hid x2
    clear x1 x2 hT T2 c0 c1 c2 q0 q1
    go_wp2
    exact bodyPost_ret (res_two Tryd.results72 rfl rfl X1.out) rfl ⟨rfl, X2.out⟩
  · rcases Int.lt_or_le s 0 with h0 | h0
    · rw [show mayPut true h per s = false from by unfold mayPut; rw [decide_eq_false (by omega : ¬ 0 ≤ s)]; rfl]
      simp only [Bool.false_eq_true, if_false]
      clear N hp hp1
      go_enter Tryd.func72, Tryd.ntmps72
      go_wp2_with fail
      generalize ((w.alloc (.cells #[.bool true, .int .u16 (w16 h : Int)] 89)).alloc (.cells #[.bool false, .int .u16 0] 89)) = W1 at *
      have q0 := hT.q0.1
      have q1 := hT.q1.1
      go_quiet (fail)
      have T2 := hT.drewN nq
      have C0 : (W1.drewN nq).cell? ⟨d, 0, none⟩ = some (.int .i64 s) := c0
      generalize W1.drewN nq = W2 at *
      have Q0 := T2.q0.1
      have Q1 := T2.q1.1
      have r0 := T2.r0.1
      have r1 := T2.r1.1
      have s0 := T2.r0.2
      have s1 := T2.r1.2
      obtain ⟨x1, x2⟩ := T2.store (.bool true) (.int .u16 (w16 h : Int))
      have X1 := Lib.hid x1
      have X2 := Lib.hid x2
      clear x1 x2 hT T2 c0 c1 c2 q0 q1
      go_wp2
      exact bodyPost_ret (res_two Tryd.results72 rfl rfl X1.out) rfl ⟨rfl, X2.out⟩
    · rcases Int.lt_or_le s (per : Int) with h1 | h1
      · obtain ⟨k, rfl⟩ : ∃ k : Nat, s = (k : Int) := ⟨s.toNat, by omega⟩
        have hk : k < 16 := by omega
        have e1 := one16 k hk
        have e2 := Lib.hid (show bits .or .u16 (w16 h : Int) ((2 : Int) ^ k) = (w16 (upd h k true) : Nat) from by have := w16_set h k hk; simpa using this)
        have e3 := w16_get h k hk
        have hm : mayPut true h per k = !h k := by unfold mayPut; rw [decide_eq_true h0, decide_eq_true h1]; simp
        rw [hm, Int.toNat_natCast]
        have hk' : (k : Int) < 16 := by omega
        have t0 : decide ((k : Int) < 0) = false := by simp
        have t1 : decide (per ≤ k) = false := by simp; omega
        cases hv : h k
        · rw [hv] at e3
          replace e3 : bits .and .u16 ((w16 h : Int) / 2 ^ k) 1 = 0 := e3
          simp only [Bool.not_false, if_true]
          clear N hp hm hv
          go_enter Tryd.func72, Tryd.ntmps72
          go_wp2_with fail
          generalize ((w.alloc (.cells #[.bool true, .int .u16 (w16 h : Int)] 89)).alloc (.cells #[.bool false, .int .u16 0] 89)) = W1 at *
          have q0 := hT.q0.1
          have q1 := hT.q1.1
          go_quiet (fail)
          have T2 := hT.drewN nq
          have C0 : (W1.drewN nq).cell? ⟨d, 0, none⟩ = some (.int .i64 k) := c0
          generalize W1.drewN nq = W2 at *
          have Q0 := T2.q0.1
          have Q1 := T2.q1.1
          have p1 := T2.q1.2
          have r0 := T2.r0.1
          have r1 := T2.r1.1
          have s0 := T2.r0.2
          have s1 := T2.r1.2
          have hT2 := Lib.hid T2
          clear hT T2 c0 c1 c2 q0 q1 e3
          go_wp2_with fail
          go_region
          all_goals (
            rw [e2.out]
            obtain ⟨x1, x2⟩ := hT2.out.turn (.int .u16 (w16 (upd h k true) : Int)) (.bool true) (.int .u16 (w16 (upd h k true) : Int))
            have X1 := Lib.hid x1
            have X2 := Lib.hid x2
            have q1' : (W2.setCell ⟨w.heap.size, 1, none⟩ (.int .u16 (w16 (upd h k true) : Int))).cell? ⟨w.heap.size, 1, none⟩ = some (.int .u16 (w16 (upd h k true) : Int)) := World.cell?_setCell_same' _ _ _ (by rw [Q1]; rfl)
            clear x1 x2 e1
            go_wp2
            exact bodyPost_ret (res_two Tryd.results72 rfl rfl X1.out) rfl ⟨rfl, X2.out⟩)
        · rw [hv] at e3
          replace e3 : bits .and .u16 ((w16 h : Int) / 2 ^ k) 1 = 1 := e3
          simp only [Bool.not_true, Bool.false_eq_true, if_false]
          clear N hp hm hv e1 e2
          go_enter Tryd.func72, Tryd.ntmps72
          go_wp2_with fail
          generalize ((w.alloc (.cells #[.bool true, .int .u16 (w16 h : Int)] 89)).alloc (.cells #[.bool false, .int .u16 0] 89)) = W1 at *
          have q0 := hT.q0.1
          have q1 := hT.q1.1
          go_quiet (fail)
          have T2 := hT.drewN nq
          have C0 : (W1.drewN nq).cell? ⟨d, 0, none⟩ = some (.int .i64 k) := c0
          generalize W1.drewN nq = W2 at *
          have Q0 := T2.q0.1
          have Q1 := T2.q1.1
          have r0 := T2.r0.1
          have r1 := T2.r1.1
          have s0 := T2.r0.2
          have s1 := T2.r1.2
          obtain ⟨x1, x2⟩ := T2.store (.bool true) (.int .u16 (w16 h : Int))
          have X1 := Lib.hid x1
          have X2 := Lib.hid x2
          clear x1 x2 hT T2 c0 c1 c2 q0 q1
          go_wp2
          exact bodyPost_ret (res_two Tryd.results72 rfl rfl X1.out) rfl ⟨rfl, X2.out⟩
      · rw [show mayPut true h per s = false from by unfold mayPut; rw [decide_eq_false (by omega : ¬ s < (per : Int))]; simp]
        simp only [Bool.false_eq_true, if_false]
        have t0 : decide (s < 0) = false := by simp; omega
        clear N hp hp1
        go_enter Tryd.func72, Tryd.ntmps72
        go_wp2_with fail
        generalize ((w.alloc (.cells #[.bool true, .int .u16 (w16 h : Int)] 89)).alloc (.cells #[.bool false, .int .u16 0] 89)) = W1 at *
        have q0 := hT.q0.1
        have q1 := hT.q1.1
        go_quiet (fail)
        have T2 := hT.drewN nq
        have C0 : (W1.drewN nq).cell? ⟨d, 0, none⟩ = some (.int .i64 s) := c0
        generalize W1.drewN nq = W2 at *
        have Q0 := T2.q0.1
        have Q1 := T2.q1.1
        have r0 := T2.r0.1
        have r1 := T2.r1.1
        have s0 := T2.r0.2
        have s1 := T2.r1.2
        obtain ⟨x1, x2⟩ := T2.store (.bool true) (.int .u16 (w16 h : Int))
        have X1 := Lib.hid x1
        have X2 := Lib.hid x2
        clear x1 x2 hT T2 c0 c1 c2 q0 q1
        go_wp2
        exact bodyPost_ret (res_two Tryd.results72 rfl rfl X1.out) rfl ⟨rfl, X2.out⟩
theorem BNext.back {v : Value} {e : Ending} {w1 : World} (hb : Below w.heap.size w w1) (k : BNext b per g f w1 v e W') : BNext b per g f w v e W' := ⟨k.1, k.2.1, (Off.of_below hb).step k.2.2⟩
/-- May that be a page, and is it not in the book? -/
def mayAdd (g : Nat → Bool) (p : Int) : Bool := decide (0 ≤ p) && decide (p < 1024) && !g p.toNat
def inP (p : Int) : Bool := decide (0 ≤ p) && decide (p < 1024)
theorem inP_cases (p : Int) : (inP p = false ∧ (p < 0 ∨ 1024 ≤ p)) ∨ ∃ k : Nat, p = (k : Int) ∧ k < 1024 ∧ inP p = true := by
  unfold inP
  by_cases h : 0 ≤ p ∧ p < 1024
  · exact .inr ⟨p.toNat, by omega, by omega, by simp [h.1, h.2]⟩
  · refine .inl ⟨?_, by omega⟩
    rw [Bool.eq_false_iff]
    simp
    omega
theorem upd_self (g : Nat → Bool) (k : Nat) : upd g k (g k) = g := funext fun j => by unfold upd; by_cases e : j = k <;> simp [e]
theorem full_ok (per : Nat) : ∀ s, full per s = true → true = true ∧ s < per := fun s hs => ⟨rfl, by simpa [full] using hs⟩
set_option maxHeartbeats 1000000 in
theorem add_any (H : BookAt w b per g f) (p : Int) : Calls Tryd.prog 67 #[.pointer (some ⟨b, 0, none⟩), .int .i64 p] w
    (BNext b per (if mayAdd g p then upd g p.toNat true else g) (if mayAdd g p then updP f p.toNat (full per) else f) w (.bool (mayAdd g p))) := by
  have hb : Below w.heap.size w (w.alloc (.cells #[.pointer (some ⟨b, 0, none⟩)] 52)) := (Below.refl _ _).alloc (Nat.le_refl _) _
  have hL : Led (w.alloc (.cells #[.pointer (some ⟨b, 0, none⟩)] 52)) w.heap.size b per g f := ⟨H.grow hb, by simp, by simp⟩
  have hC : Calls Tryd.prog 71 #[.pointer (some ⟨b, 0, none⟩), .int .i64 p, .func (.func 83) #[] #[.pointer (some ⟨w.heap.size, 0, none⟩)]] (w.alloc (.cells #[.pointer (some ⟨b, 0, none⟩)] 52))
      (BNext b per (if mayAdd g p then upd g p.toNat true else g) (if mayAdd g p then updP f p.toNat (full per) else f) w (.bool (mayAdd g p))) := by
    rcases inP_cases p with ⟨e, h⟩ | ⟨k, rfl, hk, e⟩
    · rw [show mayAdd g p = false from by unfold mayAdd; unfold inP at e; rw [e]; rfl]
      simp only [Bool.false_eq_true, if_false]
      exact (change_out hL.k p h _).mono fun e w' k => by obtain ⟨rfl, rfl⟩ := k; exact BNext.of_below H rfl hb
    · rw [show mayAdd g (k : Int) = !g k from by unfold mayAdd; unfold inP at e; rw [e]; rfl, Int.toNat_natCast]
      exact (change_in hL.k k hk 83 #[.pointer (some ⟨w.heap.size, 0, none⟩)] (enters_of Tryd.func83 (by kernel_rfl) rfl) true (full per) (!g k) (fun _ => full_ok per) (add1 hL (g k) (f k))).mono fun e w' k => k.back hb
  replace hC := Lib.hid hC
  clear H hL hb
  obtain ⟨D, hD⟩ : ∃ D, D = BNext b per (if mayAdd g p then upd g p.toNat true else g) (if mayAdd g p then updP f p.toNat (full per) else f) w (.bool (mayAdd g p)) := ⟨_, rfl⟩
  have hD1 := Lib.hid (show ∀ e w', D e w' → e = .returned (.bool (mayAdd g p)) from fun e w' h => by rw [hD] at h; exact h.1)
  rw [← hD] at hC ⊢
  clear hD
  generalize mayAdd g p = ok at *
  go_enter Tryd.func67, Tryd.ntmps67
  go_wp2_with fail
  refine hC.out.mono ?_
  intro e w2 hd
  obtain rfl := hD1.out e w2 hd
  replace hd := Lib.hid hd
  go_wp2
  exact hd.out
set_option maxHeartbeats 1000000 in
theorem drop_any (H : BookAt w b per g f) (p : Int) : Calls Tryd.prog 52 #[.pointer (some ⟨b, 0, none⟩), .int .i64 p] w
    (BNext b per (if inP p && isW (g p.toNat) (f p.toNat) per then upd g p.toNat false else g) (if inP p && isW (g p.toNat) (f p.toNat) per then updP f p.toNat (fun _ => false) else f) w (.bool (inP p && isW (g p.toNat) (f p.toNat) per))) := by
  have hb : Below w.heap.size w (w.alloc (.cells #[.pointer (some ⟨b, 0, none⟩)] 52)) := (Below.refl _ _).alloc (Nat.le_refl _) _
  have hL : Led (w.alloc (.cells #[.pointer (some ⟨b, 0, none⟩)] 52)) w.heap.size b per g f := ⟨H.grow hb, by simp, by simp⟩
  have hC : Calls Tryd.prog 71 #[.pointer (some ⟨b, 0, none⟩), .int .i64 p, .func (.func 73) #[] #[.pointer (some ⟨w.heap.size, 0, none⟩)]] (w.alloc (.cells #[.pointer (some ⟨b, 0, none⟩)] 52))
      (BNext b per (if inP p && isW (g p.toNat) (f p.toNat) per then upd g p.toNat false else g) (if inP p && isW (g p.toNat) (f p.toNat) per then updP f p.toNat (fun _ => false) else f) w (.bool (inP p && isW (g p.toNat) (f p.toNat) per))) := by
    rcases inP_cases p with ⟨e, h⟩ | ⟨k, rfl, hk, e⟩
    · rw [e]
      simp only [Bool.false_and, Bool.false_eq_true, if_false]
      exact (change_out hL.k p h _).mono fun e w' k => by obtain ⟨rfl, rfl⟩ := k; exact BNext.of_below H rfl hb
    · rw [e, Int.toNat_natCast, Bool.true_and]
      exact (change_in hL.k k hk 73 #[.pointer (some ⟨w.heap.size, 0, none⟩)] (enters_of Tryd.func73 (by kernel_rfl) rfl) false (fun _ => false) (isW (g k) (f k) per) (fun _ s hs => by cases hs) (drop1 hL (g k) (f k))).mono fun e w' k => k.back hb
  replace hC := Lib.hid hC
  clear H hL hb
  generalize (inP p && isW (g p.toNat) (f p.toNat) per) = ok at *
  obtain ⟨D, hD⟩ : ∃ D, D = BNext b per (if ok then upd g p.toNat false else g) (if ok then updP f p.toNat (fun _ => false) else f) w (.bool ok) := ⟨_, rfl⟩
  have hD1 := Lib.hid (show ∀ e w', D e w' → e = .returned (.bool ok) from fun e w' h => by rw [hD] at h; exact h.1)
  rw [← hD] at hC ⊢
  clear hD
  go_enter Tryd.func52, Tryd.ntmps52
  go_wp2_with fail
  refine hC.out.mono ?_
  intro e w2 hd
  obtain rfl := hD1.out e w2 hd
  replace hd := Lib.hid hd
  go_wp2
  exact hd.out
/-- Is that slot one that may be made free? -/
def okPut (per : Nat) (g : Nat → Bool) (f : Nat → Nat → Bool) (p s : Int) : Bool := inP p && mayPut (g p.toNat) (f p.toNat) per s
set_option maxHeartbeats 1000000 in
theorem put_any (H : BookAt w b per g f) (p s : Int) : Calls Tryd.prog 51 #[.pointer (some ⟨b, 0, none⟩), .int .i64 p, .int .i64 s] w
    (BNext b per g (if okPut per g f p s then upd2 f p.toNat s.toNat true else f) w (.bool (okPut per g f p s))) := by
  have b1 : Below w.heap.size w (w.alloc (.cells #[.pointer (some ⟨b, 0, none⟩)] 52)) := (Below.refl _ _).alloc (Nat.le_refl _) _
  have hb : Below w.heap.size w ((w.alloc (.cells #[.pointer (some ⟨b, 0, none⟩)] 52)).alloc (.cells #[.int .i64 s] 3)) := b1.alloc b1.size _
  have hL : Led ((w.alloc (.cells #[.pointer (some ⟨b, 0, none⟩)] 52)).alloc (.cells #[.int .i64 s] 3)) w.heap.size b per g f :=
    ⟨H.grow hb, (old_cell (new_cell rfl w.heap.size rfl) (by simp)).1, by simp; omega⟩
  have hN : Num ((w.alloc (.cells #[.pointer (some ⟨b, 0, none⟩)] 52)).alloc (.cells #[.int .i64 s] 3)) (w.heap.size + 1) s := ⟨(new_cell rfl (w.heap.size + 1) (by simp)).1, by simp⟩
  have hC : Calls Tryd.prog 71 #[.pointer (some ⟨b, 0, none⟩), .int .i64 p, .func (.func 72) #[] #[.pointer (some ⟨w.heap.size + 1, 0, none⟩), .pointer (some ⟨w.heap.size, 0, none⟩)]] ((w.alloc (.cells #[.pointer (some ⟨b, 0, none⟩)] 52)).alloc (.cells #[.int .i64 s] 3))
      (BNext b per g (if okPut per g f p s then upd2 f p.toNat s.toNat true else f) w (.bool (okPut per g f p s))) := by
    rcases inP_cases p with ⟨e, h⟩ | ⟨k, rfl, hk, e⟩
    · unfold okPut
      rw [e]
      simp only [Bool.false_and, Bool.false_eq_true, if_false]
      exact (change_out hL.k p h _).mono fun e w' k => by obtain ⟨rfl, rfl⟩ := k; exact BNext.of_below H rfl hb
    · unfold okPut
      rw [e, Int.toNat_natCast, Bool.true_and, upd2_updP]
      have hh : mayPut (g k) (f k) per s = true → g k = true ∧ s.toNat < per := fun h => by
        unfold mayPut at h
        simp only [Bool.and_eq_true, decide_eq_true_eq] at h
        exact ⟨h.1.1.1, by omega⟩
      refine (change_in hL.k k hk 72 #[.pointer (some ⟨w.heap.size + 1, 0, none⟩), .pointer (some ⟨w.heap.size, 0, none⟩)] (enters_of Tryd.func72 (by kernel_rfl) rfl) (g k) (if mayPut (g k) (f k) per s then upd (f k) s.toNat true else f k) (mayPut (g k) (f k) per s)
        (fun hm x hx => ?_) (put1 s hL hN (g k) (f k))).mono fun e w' k => ?_
      · rw [hm, if_pos rfl] at hx
        by_cases ex : x = s.toNat
        · rw [ex]; exact hh hm
        · rw [upd_ne _ _ ex] at hx
          exact H.ok k x hx
      · have k' := k.back hb
        cases hm : mayPut (g _) (f _) per s
        · rw [hm] at k'; exact k'
        · rw [hm] at k'
          simp only [if_true] at k' ⊢
          rw [upd_self] at k'
          exact k'
  replace hC := Lib.hid hC
  clear H hL hN hb b1
  generalize okPut per g f p s = ok at *
  obtain ⟨D, hD⟩ : ∃ D, D = BNext b per g (if ok then upd2 f p.toNat s.toNat true else f) w (.bool ok) := ⟨_, rfl⟩
  have hD1 := Lib.hid (show ∀ e w', D e w' → e = .returned (.bool ok) from fun e w' h => by rw [hD] at h; exact h.1)
  rw [← hD] at hC ⊢
  clear hD
  go_enter Tryd.func51, Tryd.ntmps51
  go_wp2_with fail
  refine hC.out.mono ?_
  intro e w2 hd
  obtain rfl := hD1.out e w2 hd
  replace hd := Lib.hid hd
  go_wp2
  exact hd.out
end
end Go.Proofs.YticfpnhfhhagpaaDoor
namespace Go.Proofs.YticfpnhfhhagpaaDoor
set_option maxRecDepth 100000
open Go.RowKit Go.Shelf
set_option linter.unusedVariables false
section
variable {W W' w : World} {b per c d : Nat} {g : Nat → Bool} {f : Nat → Nat → Bool} {i : Bool} {h : Nat → Bool}
/-- Is that a page that is whole? -/
def okW (per : Nat) (g : Nat → Bool) (f : Nat → Nat → Bool) (p : Int) : Bool := inP p && isW (g p.toNat) (f p.toNat) per
/-- A book's cells in a row. -/
def cells (per : Nat) (g : Nat → Bool) (f : Nat → Nat → Bool) : Array Value := ((List.range 2049).map (cv per g f)).toArray
theorem cells_size (per : Nat) (g : Nat → Bool) (f : Nat → Nat → Bool) : (cells per g f).size = 2049 := by simp [cells]
theorem cells_get (per : Nat) (g : Nat → Bool) (f : Nat → Nat → Bool) {i : Nat} (hi : i < 2049) : (cells per g f)[i]? = some (cv per g f i) := by simp [cells, hi]
theorem cells_one (per : Nat) (g : Nat → Bool) (f : Nat → Nat → Bool) : (cells per g f).all (·.oneCell') = true := by
  rw [Array.all_eq_true]
  intro i hi
  rw [cells_size] at hi
  have := cells_get per g f hi
  rw [Array.getElem?_eq_getElem (by rw [cells_size]; exact hi)] at this
  rw [Option.some.inj this]
  unfold cv
  split
  · rfl
  · split <;> rfl
theorem BookAt.made (W : World) (lo : 1 ≤ per ∧ per ≤ 16) (ok : ∀ p s, f p s = true → g p = true ∧ s < per) (gl : ∀ p, g p = true → p < 1024) : BookAt (W.alloc (.cells (cells per g f) 92)) W.heap.size per g f :=
  ⟨fun i hi => ⟨by rw [World.cell?_alloc_at (hn := rfl)]; exact cells_get per g f hi, by simp⟩, lo, ok, gl, by simp⟩
/-- A new book at block b. -/
def SFresh (per : Nat) (g : Nat → Bool) (f : Nat → Nat → Bool) (w : World) (e : Ending) (w' : World) : Prop := ∃ b, e = .returned (.pointer (some ⟨b, 0, none⟩)) ∧ BookAt w' b per g f ∧ w.heap.size ≤ b ∧ Below w.heap.size w w'
theorem snew_no (n : Int) (w : World) (h : n < 1 ∨ 16 < n) : Calls Tryd.prog 25 #[.int .i64 n] w fun e w' => e = .returned (.pointer none) ∧ w = w' := by
  rcases h with h | h
  · go_enter Tryd.func25, Tryd.ntmps25
    go_wp2
    go_ret
    exact ⟨rfl, rfl⟩
  · have h' : ¬ n < 1 := by omega
    go_enter Tryd.func25, Tryd.ntmps25
    go_wp2
    go_ret
    exact ⟨rfl, rfl⟩
theorem zero_book : (Tryd.prog.info? 92).map (fun i => (i.zero, i.size)) = some (some (.agg (cells 0 (fun _ => false) fun _ _ => false)), 2049) := by kernel_rfl
theorem built_book (n : Nat) : Tryd.prog.built 92 [(1, .int .i64 (n : Int))] = some (cells n (fun _ => false) fun _ _ => false) := by kernel_rfl
theorem wpList_built {P : Program} {w : World} {ops : Array Oper} {rest : List Oper} {o : Oper} {a : Act} {Q : Exit → Act → World → Prop} (hg : o.guard = none) {t : TypeId} {parts : Array (Nat × Operand)} (ho : o.op = .build t parts)
    (cs : Array Value) (hc : P.built t (parts.map fun (i, x) => (i, a.eval x)).toList = some cs) (h : wpList P ops Q rest (a.put o.dst (.agg cs)) w) : wpList P ops Q (o :: rest) a w :=
  wpList_build hg t parts ho (by rw [hc]; rfl) (by rw [hc]; exact h)
theorem wp_moved {P : Program} {w : World} {o : Oper} {a : Act} {K : Act → World → Prop} {Q : Exit → Act → World → Prop} {x : Operand} (ho : o.op = .move x) (h : K (a.put o.dst (a.eval x)) w) : o.wp P a w K Q := by
  unfold Oper.wp execOp
  simp only [ho]
  exact h
theorem wp_loaded {P : Program} {w : World} {o : Oper} {a : Act} {K : Act → World → Prop} {Q : Exit → Act → World → Prop} {ty : TypeId} {x : Operand} (ho : o.op = .load ty x) {ad : Addr} (hx : a.eval x = .pointer (some ad)) {v : Value}
    (hl : (loadVar ty ad).run P w = .ok v w) (h : K (a.put o.dst v) w) : o.wp P a w K Q := by
  unfold Oper.wp execOp
  simp only [ho, hx, Instr.loadAt, Instr.sureAddr, Sem.run_bind, Sem.run_pure, Result.andThen_ok, hl]
  exact h
theorem snew_yes (n : Nat) (w : World) (h : 1 ≤ n ∧ n ≤ 16) : Calls Tryd.prog 25 #[.int .i64 n] w (SFresh n (fun _ => false) (fun _ _ => false) w) := by
  have hB := built_book n
  have hM := Lib.hid (BookAt.made w h (f := fun _ _ => false) (g := fun _ => false) (fun _ _ h => by cases h) (fun _ h => by cases h))
  have h1 : ¬ (n : Int) < 1 := by omega
  have h2 : ¬ 16 < (n : Int) := by omega
  generalize cells n (fun _ => false) (fun _ _ => false) = C at *
  obtain ⟨D, hD⟩ : ∃ D, D = SFresh n (fun _ => false) (fun _ _ => false) w := ⟨_, rfl⟩
  rw [← hD]
  replace hD := Lib.hid hD
  go_enter Tryd.func25, Tryd.ntmps25
  go_upto_region 3 with (fail)
  refine wp_region_lit ?_
  refine wpList_plain rfl fun K1 hK1 => ?_
  refine wp_moved rfl (hK1 _ _ ?_)
  refine wpList_built rfl rfl C (by simpa [go_sem] using hB) ?_
  simp only [go_sem]
  go_wp2
  rw [hD.out]
  exact ⟨_, rfl, hM.out, Nat.le_refl _, (Below.refl _ _).alloc (Nat.le_refl _) _⟩
set_option maxHeartbeats 1000000 in
theorem copy (H : BookAt w b per g f) : Calls Tryd.prog 41 #[.pointer (some ⟨b, 0, none⟩)] w (SFresh per g f w) := by
  have h1 := H.size
  have h2 : (per : Int) ≠ 0 := by have := H.lo; omega
  obtain ⟨zr, hsz⟩ := zero_of_info zero_book
  have hl : (loadCellsFrom ⟨b, 0, none⟩ 0 2049 #[]).run Tryd.prog w = .ok (cells per g f) w :=
    run_loadCells (P := Tryd.prog) w ⟨b, 0, none⟩ 2049 (cv per g f) (fun j hj => by
      have : (⟨b, 0, none⟩ : Addr).add j = ⟨b, j, none⟩ := by unfold Addr.add; split <;> simp_all
      rw [this]; exact (H.cs j hj).1)
  have hV : (loadVar 92 ⟨b, 0, none⟩).run Tryd.prog w = .ok (.agg (cells per g f)) w := by
    have ia : ∀ w, (isAgg 92).run Tryd.prog w = .ok true w := fun w => by kernel_rfl
    have sz : ∀ w, (sizeOf 92).run Tryd.prog w = .ok 2049 w := fun w => by kernel_rfl
    simp only [loadVar, Sem.run_bind, ia, sz, Result.andThen, if_true, Sem.run_pure]
    rw [show (loadCells ⟨b, 0, none⟩ 2049).run Tryd.prog w = _ from hl]
  have hs := fun (w : World) => run_storeCells_new (P := Tryd.prog) w 92 (cells 0 (fun _ => false) fun _ _ => false) (cells per g f) (by rw [hsz, cells_size]) (by rw [cells_size, cells_size]) (cells_one _ _ _)
  have hc : (cells per g f).size = 2049 := cells_size _ _ _
  have hM := Lib.hid (BookAt.made w H.lo H.ok H.gl)
  clear H
  generalize cells per g f = C at *
  generalize cells 0 (fun _ => false) (fun _ _ => false) = Z at *
  obtain ⟨D, hD⟩ : ∃ D, D = SFresh per g f w := ⟨_, rfl⟩
  rw [← hD]
  replace hD := Lib.hid hD
  go_enter Tryd.func41, Tryd.ntmps41
  go_wp2
  refine wp_loaded rfl rfl hV ?_
  go_wp2
  rw [hD.out]
  exact ⟨_, rfl, hM.out, Nat.le_refl _, (Below.refl _ _).alloc (Nat.le_refl _) _⟩
end
end Go.Proofs.YticfpnhfhhagpaaDoor
