/- Contracts of layer slots: may, whole. No statement is proved here. -/
import Derived.Test.YtkkjjdnlfdempaaDoorSlM
import Derived.Laws.ResultCell
import Derived.Deep.DeepCutAuto
import Derived.Deep.LoopGhost
namespace Go.Proofs.YtkkjjdnlfdempaaDoor
open Go.RowKit Go.Shelf
set_option linter.unusedVariables false

/-- The cells of a book: of each page whether it is in the book, and its free slots; last, how many slots a page has. -/
def cv (per : Nat) (g : Nat → Bool) (f : Nat → Nat → Bool) (i : Nat) : Value :=
  if i = 2048 then .int .i64 (per : Int) else if i % 2 = 0 then .bool (g (i / 2)) else .int .u16 (w16 (f (i / 2)) : Int)
structure BookAt (W : World) (b per : Nat) (g : Nat → Bool) (f : Nat → Nat → Bool) : Prop where
  cs : ∀ i, i < 2049 → W.cell? ⟨b, i, none⟩ = some (cv per g f i) ∧ W.frozen? ⟨b, i, none⟩ = false
  lo : 1 ≤ per ∧ per ≤ 16
  ok : ∀ p s, f p s = true → g p = true ∧ s < per
  gl : ∀ p, g p = true → p < 1024
  lb : b < W.heap.size
section
variable {W W' w : World} {b per : Nat} {g : Nat → Bool} {f : Nat → Nat → Bool}
theorem BookAt.size (H : BookAt W b per g f) : W.cell? ⟨b, 2048, none⟩ = some (.int .i64 (per : Int)) := (H.cs 2048 (by decide)).1
theorem cv_in (per : Nat) (g : Nat → Bool) (f : Nat → Nat → Bool) {p : Nat} (hp : p < 1024) : cv per g f (p * 2) = .bool (g p) := by
  unfold cv
  rw [if_neg (by omega), if_pos (by omega), show p * 2 / 2 = p by omega]
theorem cv_free (per : Nat) (g : Nat → Bool) (f : Nat → Nat → Bool) {p : Nat} (hp : p < 1024) : cv per g f (p * 2 + 1) = .int .u16 (w16 (f p) : Int) := by
  unfold cv
  rw [if_neg (by omega), if_neg (by omega), show (p * 2 + 1) / 2 = p by omega]
theorem BookAt.inn (H : BookAt W b per g f) {p : Nat} (hp : p < 1024) : W.cell? ⟨b, p * 2, none⟩ = some (.bool (g p)) := by rw [(H.cs (p * 2) (by omega)).1, cv_in per g f hp]
theorem BookAt.free (H : BookAt W b per g f) {p : Nat} (hp : p < 1024) : W.cell? ⟨b, p * 2 + 1, none⟩ = some (.int .u16 (w16 (f p) : Int)) := by rw [(H.cs (p * 2 + 1) (by omega)).1, cv_free per g f hp]
theorem BookAt.keep (H : BookAt W b per g f) (hk : W'.heap[b]? = W.heap[b]?) (hs : W.heap.size ≤ W'.heap.size) : BookAt W' b per g f :=
  ⟨fun i hi => ⟨(World.cell?_of_block hk).trans (H.cs i hi).1, (World.frozen?_of_block hk).trans (H.cs i hi).2⟩, H.lo, H.ok, H.gl, Nat.lt_of_lt_of_le H.lb hs⟩
theorem BookAt.grow (H : BookAt W b per g f) (h : Below W.heap.size W W') : BookAt W' b per g f := H.keep (h.block b H.lb) h.size
theorem BookAt.off {q : Nat} (H : BookAt W b per g f) (h : Off W.heap.size q W W') (hn : b ≠ q) : BookAt W' b per g f := H.keep (h.block b H.lb hn) h.size
theorem may_any (H : BookAt w b per g f) (p : Int) : Calls Tryd.prog 39 #[.pointer (some ⟨b, 0, none⟩), .int .i64 p] w fun e w' => e = .returned (.bool (decide (0 ≤ p) && decide (p < 1024))) ∧ w = w' := by
  have h1 := H.size
  have h2 : (0 : Int) < per := by have := H.lo; omega
  clear H
  go_enter Tryd.func39, Tryd.ntmps39
  go_wp2
  all_goals (go_ret; refine ⟨congrArg Ending.returned (congrArg Value.bool ?_), rfl⟩; rw [Bool.eq_iff_iff]; simp; omega)
theorem res_one {P : Program} {fn : Func} {p : Tmp} {ty : TypeId} (h : fn.results = #[.cell p ty]) {tmps : Array Value} {w : World} {g : Nat} {v : Value} (hp : tmps.getD p undef = .pointer (some ⟨g, 0, none⟩)) (hl : (loadVar ty ⟨g, 0, none⟩).run P w = .ok v w) : (results fn tmps).run P w = .ok v w := by
  have hp' : tmps[p]?.getD undef = .pointer (some ⟨g, 0, none⟩) := by simpa using hp
  simp [results, h, asAddr, hp', hl]
theorem res_two {P : Program} {fn : Func} {p u : Tmp} {ty : TypeId} (h : fn.results = #[.cell p ty, .tmp u]) {tmps : Array Value} {w : World} {g : Nat} {v x : Value} (hp : tmps.getD p undef = .pointer (some ⟨g, 0, none⟩)) (hu : tmps.getD u undef = x) (hl : (loadVar ty ⟨g, 0, none⟩).run P w = .ok v w) : (results fn tmps).run P w = .ok (.tuple #[v, x]) w := by
  rw [results_cell_tmp h, hp, hu]
  simp [asAddr, hl]
theorem load_leaf {w : World} {q o : Nat} {u v : Value} (h0 : w.cell? ⟨q, o, none⟩ = some u) (h1 : w.cell? ⟨q, o + 1, none⟩ = some v) : (loadVar 59 ⟨q, o, none⟩).run Tryd.prog w = .ok (.agg #[u, v]) w := by
  have ia : ∀ w, (isAgg 59).run Tryd.prog w = .ok true w := fun w => by kernel_rfl
  have sz : ∀ w, (sizeOf 59).run Tryd.prog w = .ok 2 w := fun w => by kernel_rfl
  have hl := run_loadCells_list (P := Tryd.prog) w ⟨q, o, none⟩ [u, v] (fun j x hx => by
    match j, hx with
    | 0, hx => simp at hx; subst hx; exact h0
    | 1, hx => simp at hx; subst hx; exact h1)
  simp only [loadVar, Sem.run_bind, ia, sz, Result.andThen, if_true, Sem.run_pure]
  simp only [List.length_cons, List.length_nil] at hl
  rw [hl]
theorem whole_any (H : BookAt w b per g f) : Calls Tryd.prog 28 #[.pointer (some ⟨b, 0, none⟩)] w fun e w' => e = .returned (.agg #[.bool true, .int .u16 (w16 (full per) : Int)]) ∧ Below w.heap.size w w' := by
  have hB : Below w.heap.size w (w.alloc (.cells #[.bool false, .int .u16 0] 59)) := (Below.refl _ _).alloc (Nat.le_refl _) _
  have h1 := H.size
  have h1' : (w.alloc (.cells #[.bool false, .int .u16 0] 59)).cell? ⟨b, 2048, none⟩ = some (.int .i64 (per : Int)) := (hB.cell (p := ⟨b, 2048, none⟩) H.lb).trans h1
  have h2 : (0 : Int) ≤ per := by have := H.lo; omega
  have h3 := Lib.hid (whole16 per H.lo.2)
  have hp6 := Lib.hid H.lo.2
  clear H
  go_enter Tryd.func28, Tryd.ntmps28
  go_wp2
  rw [Nat.min_eq_left hp6.out, h3.out]
  exact bodyPost_ret (res_one Tryd.results28 rfl (load_leaf (by simp) (by simp))) rfl ⟨rfl, (Below.refl _ _).alloc (Nat.le_refl _) _⟩
/-- What a call leaves of a book, and what it answers. -/
def BNext (b per : Nat) (g : Nat → Bool) (f : Nat → Nat → Bool) (w : World) (v : Value) (e : Ending) (w' : World) : Prop := e = .returned v ∧ BookAt w' b per g f ∧ Off w.heap.size b w w'
theorem BNext.of_below {v : Value} {e : Ending} (H : BookAt w b per g f) (he : e = .returned v) (h : Below w.heap.size w W') : BNext b per g f w v e W' := ⟨he, H.grow h, Off.of_below h⟩
theorem BookAt.set (H : BookAt w b per g f) {p : Nat} (hp : p < 1024) (i : Bool) (h : Nat → Bool) (hok : ∀ s, h s = true → i = true ∧ s < per) :
    BookAt ((w.setCell ⟨b, p * 2, none⟩ (.bool i)).setCell ⟨b, p * 2 + 1, none⟩ (.int .u16 (w16 h : Int))) b per (upd g p i) (updP f p h) := by
  refine ⟨fun j hj => ⟨?_, ?_⟩, H.lo, fun q s hs => ?_, fun q hq => ?_, by simpa [World.setCell] using H.lb⟩
  · by_cases e1 : j = p * 2 + 1
    · subst e1
      rw [World.cell?_setCell_same' _ _ _ (by rw [World.cell?_setCell_other _ _ _ _ (fun e => by have := congrArg Addr.off e; simp at this), (H.cs (p * 2 + 1) hj).1]; rfl), cv_free _ _ _ hp, updP_same]
    · rw [World.cell?_setCell_other _ _ _ _ (fun e => e1 (by simpa using (congrArg Addr.off e).symm))]
      by_cases e2 : j = p * 2
      · subst e2
        rw [World.cell?_setCell_same' _ _ _ (by rw [(H.cs (p * 2) hj).1]; rfl), cv_in _ _ _ hp, upd_same]
      · rw [World.cell?_setCell_other _ _ _ _ (fun e => e2 (by simpa using (congrArg Addr.off e).symm)), (H.cs j hj).1]
        unfold cv
        by_cases e3 : j = 2048
        · rw [if_pos e3, if_pos e3]
        · rw [if_neg e3, if_neg e3, upd_ne g i (show j / 2 ≠ p by omega), updP_ne f h (show j / 2 ≠ p by omega)]
  · rw [World.frozen?_setCell, World.frozen?_setCell]; exact (H.cs j hj).2
  · by_cases e : q = p
    · subst e
      rw [updP_same] at hs
      rw [upd_same]
      exact hok s hs
    · rw [updP_ne f h e] at hs
      rw [upd_ne g i e]
      exact H.ok q s hs
  · by_cases e : q = p
    · omega
    · rw [upd_ne g i e] at hq
      exact H.gl q hq
theorem Off.leaf {p : Nat} {u v : Value} : Off w.heap.size b w ((w.setCell ⟨b, p * 2, none⟩ u).setCell ⟨b, p * 2 + 1, none⟩ v) :=
  ((Off.refl w.heap.size b w).setCell (p := ⟨b, p * 2, none⟩) (.inr rfl) u).setCell (p := ⟨b, p * 2 + 1, none⟩) (.inr rfl) v
theorem change_out (H : BookAt w b per g f) (p : Int) (hp : p < 0 ∨ 1024 ≤ p) (v : Value) : Calls Tryd.prog 26 #[.pointer (some ⟨b, 0, none⟩), .int .i64 p, v] w fun e w' => e = .returned (.bool false) ∧ w = w' := by
  have hM := may_any H p
  rw [show (decide (0 ≤ p) && decide (p < 1024)) = false from by rw [Bool.eq_false_iff]; simp; omega] at hM
  have hM := Lib.hid hM
  clear H
  go_enter Tryd.func26, Tryd.ntmps26
  go_wp2_with fail
  refine hM.out.mono ?_
  rintro e w2 ⟨rfl, rfl⟩
  go_wp2
  go_ret
  exact ⟨rfl, rfl⟩
set_option maxRecDepth 100000 in
set_option maxHeartbeats 1000000 in
theorem change_in (H : BookAt w b per g f) (p : Nat) (hp : p < 1024) (F : Nat) (lb : Array Value) (eF : ∀ args w, (callFunc F args).run Tryd.prog w = .ok (.enter F args) w) (i : Bool) (h : Nat → Bool) (ok : Bool)
    (hok : ok = true → ∀ s, h s = true → i = true ∧ s < per)
    (hF : Calls Tryd.prog F (#[.agg #[.bool (g p), .int .u16 (w16 (f p) : Int)]] ++ lb) w fun e w' => e = .returned (.tuple #[.agg #[.bool i, .int .u16 (w16 h : Int)], .bool ok]) ∧ Below w.heap.size w w') :
    Calls Tryd.prog 26 #[.pointer (some ⟨b, 0, none⟩), .int .i64 p, .func (.func F) #[] lb] w
      (BNext b per (if ok then upd g p i else g) (if ok then updP f p h else f) w (.bool ok)) := by
  have hM := may_any H p
  rw [show (decide (0 ≤ (p : Int)) && decide ((p : Int) < 1024)) = true from by simp; omega] at hM
  have hM := Lib.hid hM
  have c0 := H.inn hp
  have c1 := H.free hp
  have hF := Lib.hid hF
  have hp1 : (p : Int) < 1024 := by omega
  have hH := Lib.hid H
  clear H
  go_enter Tryd.func26, Tryd.ntmps26
  go_wp2_with fail
  refine hM.out.mono ?_
  rintro e w2 ⟨rfl, rfl⟩
  go_wp2_with fail
  refine hF.out.mono ?_
  rintro e w3 ⟨rfl, hb⟩
  cases ok
  · have hB := Lib.hid (hb.alloc hb.size (.cells #[.bool i, .int .u16 (w16 h : Int)] 59))
    clear c0 c1 hF hM hb
    go_wp2
    go_ret
    exact BNext.of_below hH.out rfl hB.out
  · have hB := Lib.hid (hb.alloc hb.size (.cells #[.bool i, .int .u16 (w16 h : Int)] 59))
    have hO := Lib.hid (hok rfl)
    clear c0 c1 hF hM hb hok
    go_upto_region 5 with (fail)
    obtain ⟨w4, h4⟩ : ∃ w4, w4 = w3.alloc (.cells #[.bool i, .int .u16 (w16 h : Int)] 59) := ⟨_, rfl⟩
    have n0 : w4.cell? ⟨w3.heap.size, 0, none⟩ = some (.bool i) := by rw [h4]; simp
    have n1 : w4.cell? ⟨w3.heap.size, 1, none⟩ = some (.int .u16 (w16 h : Int)) := by rw [h4]; simp
    rw [← h4] at hB ⊢
    have H4 := Lib.hid (hH.out.grow hB.out)
    have c0 := H4.out.inn hp
    have c1 := H4.out.free hp
    have f0 := (H4.out.cs (p * 2) (by omega)).2
    have f1 := (H4.out.cs (p * 2 + 1) (by omega)).2
    clear h4
    generalize w3.heap.size = q at *
    go_region
    go_wp2
    go_ret
    exact ⟨rfl, (H4.out.set hp i h hO.out).grow (Below.refl _ _).drew, ((Off.of_below hB.out).step Off.leaf).drew⟩
end
end Go.Proofs.YtkkjjdnlfdempaaDoor
