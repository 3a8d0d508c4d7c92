/- The document's answers for layer slots: with. No statement is proved here. -/
import Derived.Test.YtkkjjdnlfdempaaDoorSlS
namespace Go.Proofs.YtkkjjdnlfdempaaDoor
set_option maxRecDepth 100000
open Go.RowKit Go.Shelf
set_option linter.unusedVariables false
theorem pcs_set (per : Nat) : ∀ (l : List Pg) (i : Nat) (y : Pg), i < l.length → pcs per (l.set i y) = ((pcs per l).set (i * 2) (.int .i64 (y.p : Int))).set (i * 2 + 1) (.slice (some ⟨y.h, 0, none⟩) per y.c)
  | [], i, y, h => by simp at h
  | z :: l, 0, y, h => rfl
  | z :: l, i + 1, y, h => by
    have := pcs_set per l i y (by simpa using h)
    rw [show (i + 1) * 2 = i * 2 + 2 by omega]
    show Pg.cells per z ++ pcs per (l.set i y) = _
    rw [this]
    rfl
section
variable {W w w' : World} {b per : Nat} {g : Nat → Bool} {f : Nat → Nat → Bool} {v : Value} {l : List Pg}
/-- What a call hands back: the document's book. -/
def RefPost (w : World) (b per : Nat) (v0 : Value) (l0 : List Pg) (g : Nat → Bool) (f : Nat → Nat → Bool) (k : Value → Ending) (e : Ending) (w' : World) : Prop :=
  ∃ v l, e = k (.agg #[.int .i64 per, v]) ∧ RefAt w' b v per g f l ∧ Below w.heap.size w w' ∧ ∀ c, c < w.heap.size → (∀ x ∈ l0, x.h ≠ c) → (∀ r, v0.ownBlock = some r → r ≠ c) → (∀ r, v.ownBlock = some r → r ≠ c) ∧ ∀ y ∈ l, y.h ≠ c
theorem ownsRow_zero {B : Nat} {e : TypeId} {size n : Nat} {xs : List Value} (h : w.ownsRow B e size v n xs) : w.ownsRow 0 e size v n xs := by
  refine ⟨h.1, ?_⟩
  rcases h.2 with hn | ⟨q, cap, cur, hv, _, h2⟩
  · exact .inl hn
  · exact .inr ⟨q, cap, cur, hv, Nat.zero_le _, h2⟩
theorem load_book {q : Nat} {u x : Value} (h0 : w.cell? ⟨q, 0, none⟩ = some u) (h1 : w.cell? ⟨q, 1, none⟩ = some x) : (loadVar 27 ⟨q, 0, none⟩).run Tryd.prog w = .ok (.agg #[u, x]) w := by
  have ia : ∀ w, (isAgg 27).run Tryd.prog w = .ok true w := fun w => by kernel_rfl
  have sz : ∀ w, (sizeOf 27).run Tryd.prog w = .ok 2 w := fun w => by kernel_rfl
  have hl := run_loadCells_list (P := Tryd.prog) w ⟨q, 0, none⟩ [u, x] (fun j y hy => by
    match j, hy with
    | 0, hy => simp at hy; subst hy; exact h0
    | 1, hy => simp at hy; subst hy; exact h1)
  simp only [loadVar, Sem.run_bind, ia, sz, Result.andThen, if_true, Sem.run_pure]
  simp only [List.length_cons, List.length_nil] at hl
  rw [hl]
/-- A book is laid into its box. -/
theorem book_laid {q : Nat} {a0 a1 : Value} (h0 : w.cell? ⟨q, 0, none⟩ = some a0) (h1 : w.cell? ⟨q, 1, none⟩ = some a1) (u x : Value) : (loadVar 27 ⟨q, 0, none⟩).run Tryd.prog ((w.setCell ⟨q, 0, none⟩ u).setCell ⟨q, 1, none⟩ x) = .ok (.agg #[u, x]) ((w.setCell ⟨q, 0, none⟩ u).setCell ⟨q, 1, none⟩ x) := by
  refine load_book ?_ ?_
  · rw [World.cell?_setCell_other _ _ _ _ (fun e => by have := congrArg Addr.off e; simp at this)]
    exact World.cell?_setCell_same' _ _ _ (by rw [h0]; rfl)
  · exact World.cell?_setCell_same' _ _ _ (by rw [World.cell?_setCell_other _ _ _ _ (fun e => by have := congrArg Addr.off e; simp at this), h1]; rfl)
theorem Pg.inj (H : RefAt w b v per g f l) {i j : Nat} {x y : Pg} (hi : l[i]? = some x) (hj : l[j]? = some y) (h : x.p = y.p) : i = j := by
  have h1 := (H.page hi).2.2
  have h2 := (H.page hj).2.2
  rw [h] at h1
  omega
theorem own_form {B : Nat} {e : TypeId} {size n : Nat} {xs : List Value} (h : w.ownsRow B e size v n xs) (hn : 0 < n) : ∃ q c, v = .slice (some ⟨q, 0, none⟩) n c ∧ B ≤ q ∧ q < w.heap.size ∧ n ≤ c ∧ c ≤ maxLen := by
  rcases h.2 with ⟨_, e0⟩ | ⟨q, cap, cur, hv, h1, h2, h3, h4, _⟩
  · omega
  · exact ⟨q, cap, hv, h1, (Array.getElem?_eq_some_iff.1 h2).1, h3, h4⟩
set_option maxHeartbeats 4000000 in
theorem rwith (H : RefAt w b v per g f l) (hb : b < w.heap.size) (hk : Ok per g f) {i s : Nat} {x : Pg} (hx : l[i]? = some x) (hs : s < per) (z : Bool) :
    Calls Tryd.prog 34 #[.agg #[.int .i64 per, v], .int .i64 i, .int .i64 s, .bool z] w (RefPost w b per v l g (upd2 f x.p s z) .returned) := by
  obtain ⟨i0, hi, hz0, hz1, hz2⟩ := info_parts infoBool
  obtain ⟨j0, hj, hy0, hy1, hy2⟩ := info_parts infoPage
  obtain ⟨A, cap, hv, hcap, hmx, hA1, hA2⟩ := H.form
  have hil : i < l.length := (List.getElem?_eq_some_iff.1 hx).1
  have hll : l.length ≤ 1024 := by rw [H.len]; exact cnt_le g 1024
  have hl2 : (l.length : Int) ≤ 1024 := by omega
  have hp16 := hk.2.1
  obtain ⟨w1, hw1⟩ : ∃ w1, w1 = (w.alloc (.cells #[.int .i64 per, .slice A l.length cap] 27)).alloc (.cells #[.int .i64 0, .slice none 0 0] 27) := ⟨_, rfl⟩
  have hb1 : Below w.heap.size w w1 := by rw [hw1]; exact ((Below.refl _ _).alloc (Nat.le_refl _) _).alloc (by simp) _
  have hs1 : w1.heap.size = w.heap.size + 2 := by rw [hw1]; simp
  have k0 : w1.cell? ⟨w.heap.size, 0, none⟩ = some (.int .i64 per) ∧ w1.cell? ⟨w.heap.size, 1, none⟩ = some (.slice A l.length cap) := by
    rw [hw1]
    have hbb := (Below.refl (w.alloc (.cells #[.int .i64 per, .slice A l.length cap] 27)).heap.size (w.alloc (.cells #[.int .i64 per, .slice A l.length cap] 27))).alloc (Nat.le_refl _) (.cells #[.int .i64 0, .slice none 0 0] 27)
    exact ⟨(hbb.cell (p := ⟨w.heap.size, 0, none⟩) (by simp)).trans (by simp), (hbb.cell (p := ⟨w.heap.size, 1, none⟩) (by simp)).trans (by simp)⟩
  have r0 : Cel w1 (w.heap.size + 1) (.int .i64 0) ∧ w1.cell? ⟨w.heap.size + 1, 1, none⟩ = some (.slice none 0 0) ∧ w1.frozen? ⟨w.heap.size + 1, 1, none⟩ = false := by
    have e : (w.alloc (.cells #[.int .i64 per, .slice A l.length cap] 27)).heap.size = w.heap.size + 1 := by simp
    rw [hw1, ← e]
    exact ⟨⟨by simp, by simp⟩, by simp, by simp⟩
  have H1 := Lib.hid (H.grow hb1)
  have HH := Lib.hid H
  obtain ⟨q, cap', ev, _, cq, cq2⟩ := H1.out.at hx
  have hrow := (H1.out.rows x (List.mem_of_getElem? hx))
  have c1 := k0.2
  have hsrc : ∀ j u, (pcs per l)[j]? = some u → w1.cell? ((⟨q, 0, none⟩ : Addr).add j) = some u := fun j u hu => by
    have o := H1.out.own
    rw [ev] at o
    have hj := (List.getElem?_eq_some_iff.1 hu).1
    rw [pcs_length] at hj
    have : (⟨q, 0, none⟩ : Addr).add j = ⟨q, j, none⟩ := by unfold Addr.add; split <;> simp_all
    rw [this, World.ownsRow.cellAt o j hj, hu]
  have hB := Lib.hid hb1
  have hv2 := hv
  obtain ⟨D, hD⟩ : ∃ D, D = RefPost w b per v l g (upd2 f x.p s z) .returned := ⟨_, rfl⟩
  rw [← hD]
  rw [hv]
  rw [hv] at ev
  obtain ⟨rfl, rfl⟩ : A = some ⟨q, 0, none⟩ ∧ cap = cap' := by simpa using ev
  replace hD := Lib.hid hD
  have hl3 : (pcs per l).length = l.length * 2 := pcs_length per l
  clear hA1 hA2 ev hb1 hv hv2 H
  go_enter Tryd.func34, Tryd.ntmps34
  go_upto_region 1 with (fail)
  rw [← hw1]
  replace hw1 := Lib.hid hw1
  go_upto_region 4 with (at_builtin; refine wpList_append_more rfl _ _ 25 rfl w1.heap.size 71 j0 (.agg #[.int .i64 0, .slice none 0 0]) 2 32 Tryd.underlying25 hj hy0 hy1 hy2 rfl (by decide) _ _ _ rfl (World.ownsRow_nil _ _ _ _) (some ⟨q, 0, none⟩) l.length cap (pcs per l) rfl hl3 (fun _ => ⟨_, rfl, hsrc⟩) (pcs_one per l) (by unfold maxLen; omega) (by omega) (Nat.le_refl _) ?_; intro v' w2 ho1 hg1; rw [Nat.zero_add, List.nil_append] at ho1; obtain ⟨q9, k9, rfl, g1, g2, g3, g4⟩ := own_form ho1 (by omega))
  have hpx := pcs_at per l i x hx
  have d1 : w2.cell? ⟨q9, i * 2 + 1, none⟩ = some (.slice (some ⟨x.h, 0, none⟩) per x.c) := by rw [World.ownsRow.cellAt ho1 (i * 2 + 1) (by omega), hpx.2]
  have d0 : w2.cell? ⟨q9, i * 2, none⟩ = some (.int .i64 (x.p : Int)) := by rw [World.ownsRow.cellAt ho1 (i * 2) (by omega), hpx.1]
  have hrow2 : ∀ t, t < per → w2.cell? ⟨x.h, t, none⟩ = some (.bool (f x.p t)) := fun t ht => (hg1.cell (p := ⟨x.h, t, none⟩) hrow.1.lt).trans (hrow.1.cs t ht)
  have hlh : x.h < w2.heap.size := Nat.lt_of_lt_of_le hrow.1.lt hg1.size
  have hsrc2 : ∀ j u, ((List.range per).map fun t => Value.bool (f x.p t))[j]? = some u → w2.cell? ((⟨x.h, 0, none⟩ : Addr).add j) = some u := fun j u hu => by
    have hj := (List.getElem?_eq_some_iff.1 hu).1
    simp at hj
    have e : (⟨x.h, 0, none⟩ : Addr).add j = ⟨x.h, j, none⟩ := by unfold Addr.add; split <;> simp_all
    rw [e, hrow2 j hj]
    simpa [hj] using hu
  have ji : (i : Int) < (l.length : Int) := by omega
  have E1 := Lib.hid (And.intro ho1 (And.intro hg1 (And.intro g1 (And.intro g2 (And.intro k0 r0)))))
  have Hx := Lib.hid (And.intro hx hrow)
  clear ho1 hg1 hpx hrow hsrc hrow2 k0 r0 c1 cq cq2
  go_upto_region 5 with (at_builtin; refine wpList_append_more rfl _ _ 68 rfl w2.heap.size 4 i0 (.bool false) 1 1 Tryd.underlying68 hi hz0 hz1 hz2 rfl (by decide) _ _ _ rfl (World.ownsRow_nil _ _ _ _) (some ⟨x.h, 0, none⟩) per x.c ((List.range per).map fun t => Value.bool (f x.p t)) rfl (by simp) (fun _ => ⟨_, rfl, hsrc2⟩) (by simp [Value.oneCell']) (by unfold maxLen; omega) (by omega) (Nat.le_refl _) ?_; intro v' w3 ho2 hg2; rw [Nat.zero_add, List.nil_append] at ho2; obtain ⟨q10, k10, rfl, g5, g6, g7, g8⟩ := own_form ho2 (by omega))
  obtain ⟨u1, u2, u3, u4, k0, r0⟩ := E1.out
  have z1 : w.heap.size + 2 ≤ q9 := by omega
  have z2 : q9 < q10 := by omega
  have t0 : w3.cell? ⟨q10, s, none⟩ = some (.bool (f x.p s)) := by rw [World.ownsRow.cellAt ho2 s (by omega)]; simp [hs]
  have t1 := World.ownsRow.frozenAt ho2 s
  have o9 : w3.ownsRow w1.heap.size 71 2 (.slice (some ⟨q9, 0, none⟩) l.length k9) l.length (pcs per l) := ownsRow_heap u1 fun r hr => by
    have : r = q9 := by simpa [Value.ownBlock] using hr.symm
    subst this
    exact hg2.block _ g2
  have b03 : Below w1.heap.size w1 w3 := u2.trans (hg2.mono u2.size)
  have so := World.ownsRow.stored ho2 s (.bool z)
  obtain ⟨w4, hw4⟩ : ∃ w4, w4 = w3.setCell ⟨q10, s, none⟩ (.bool z) := ⟨_, rfl⟩
  rw [← hw4] at so
  have o9' : w4.ownsRow w1.heap.size 71 2 (.slice (some ⟨q9, 0, none⟩) l.length k9) l.length (pcs per l) := ownsRow_heap o9 fun r hr => by
    have : r = q9 := by simpa [Value.ownBlock] using hr.symm
    subst this
    rw [hw4]
    exact Below.heap_setCell _ _ _ _ (by show r ≠ q10; omega)
  have b04 : Below w1.heap.size w1 w4 := by rw [hw4]; exact b03.setCell (p := ⟨q10, s, none⟩) (by show w1.heap.size ≤ q10; omega) _
  have hpx := pcs_at per l i x Hx.out.1
  have e0 : w4.cell? ⟨q9, i * 2, none⟩ = some (.int .i64 (x.p : Int)) := by rw [World.ownsRow.cellAt o9' (i * 2) (by omega), hpx.1]
  have e1 : w4.cell? ⟨q9, i * 2 + 1, none⟩ = some (.slice (some ⟨x.h, 0, none⟩) per x.c) := by rw [World.ownsRow.cellAt o9' (i * 2 + 1) (by omega), hpx.2]
  have e2 := World.ownsRow.frozenAt o9' (i * 2)
  have e3 := World.ownsRow.frozenAt o9' (i * 2 + 1)
  have st1 := (World.ownsRow.stored o9' (i * 2) (.int .i64 (x.p : Int))).1
  have st2 := (World.ownsRow.stored st1 (i * 2 + 1) (.slice (some ⟨q10, 0, none⟩) per k10)).1
  obtain ⟨w5, hw5⟩ : ∃ w5, w5 = (w4.setCell ⟨q9, i * 2, none⟩ (.int .i64 (x.p : Int))).setCell ⟨q9, i * 2 + 1, none⟩ (.slice (some ⟨q10, 0, none⟩) per k10) := ⟨_, rfl⟩
  rw [← hw5] at st2
  have b05 : Below w1.heap.size w1 w5 := by rw [hw5]; exact (b04.setCell (p := ⟨q9, i * 2, none⟩) g1 _).setCell (p := ⟨q9, i * 2 + 1, none⟩) g1 _
  have o10 : w5.ownsRow w2.heap.size 4 1 (.slice (some ⟨q10, 0, none⟩) per k10) per (((List.range per).map fun t => Value.bool (f x.p t)).set s (.bool z)) := ownsRow_heap so.1 fun r hr => by
    have : r = q10 := by simpa [Value.ownBlock] using hr.symm
    subst this
    rw [hw5]
    exact (Below.heap_setCell _ _ _ _ (by show r ≠ q9; omega)).trans (Below.heap_setCell _ _ _ _ (by show r ≠ q9; omega))
  have y0 : w5.cell? ⟨w.heap.size, 0, none⟩ = some (.int .i64 per) := (b05.cell (p := ⟨w.heap.size, 0, none⟩) (by show w.heap.size < _; omega)).trans k0.1
  have y1 : Cel w5 (w.heap.size + 1) (.int .i64 0) := ⟨(b05.cell (p := ⟨w.heap.size + 1, 0, none⟩) (by show w.heap.size + 1 < _; omega)).trans r0.1.1, (b05.frozen (p := ⟨w.heap.size + 1, 0, none⟩) (by show w.heap.size + 1 < _; omega)).trans r0.1.2⟩
  have y2 : w5.cell? ⟨w.heap.size + 1, 1, none⟩ = some (.slice none 0 0) := (b05.cell (p := ⟨w.heap.size + 1, 1, none⟩) (by show w.heap.size + 1 < _; omega)).trans r0.2.1
  have y3 : w5.frozen? ⟨w.heap.size + 1, 1, none⟩ = false := (b05.frozen (p := ⟨w.heap.size + 1, 1, none⟩) (by show w.heap.size + 1 < _; omega)).trans r0.2.2
  have y1a := y1.1
  have y1b := y1.2
  have E2 := Lib.hid (And.intro st2 (And.intro o10 b05))
  have jsp : (s : Int) < (per : Int) := by omega
  clear so o9' o9 b03 b04 hpx st1 st2 o10 b05 y1 u1 u2 u3 u4 k0 r0 ho2 hg2 d0 d1 hsrc2 E1
  replace hw5 := Lib.hid hw5
  replace hw4 := Lib.hid hw4
  go_upto_region 6 with (fail)
  rw [← hw4.out]
  clear t0 t1
  go_upto_region 7 with (fail)
  rw [← hw5.out]
  clear e0 e1 e2 e3
  go_wp2
  obtain ⟨st2, o10, b05⟩ := E2.out
  have hbk := book_laid y1a y2 (.int .i64 (per : Int)) (.slice (some ⟨q9, 0, none⟩) l.length k9)
  have b06 : Below (w.heap.size + 1) w5 ((w5.setCell ⟨w.heap.size + 1, 0, none⟩ (.int .i64 (per : Int))).setCell ⟨w.heap.size + 1, 1, none⟩ (.slice (some ⟨q9, 0, none⟩) l.length k9)) :=
    ((Below.refl _ _).setCell (p := ⟨w.heap.size + 1, 0, none⟩) (Nat.le_refl _) _).setCell (p := ⟨w.heap.size + 1, 1, none⟩) (Nat.le_refl _) _
  have b06' : Off w5.heap.size (w.heap.size + 1) w5 ((w5.setCell ⟨w.heap.size + 1, 0, none⟩ (.int .i64 (per : Int))).setCell ⟨w.heap.size + 1, 1, none⟩ (.slice (some ⟨q9, 0, none⟩) l.length k9)) :=
    ((Off.refl _ _ _).setCell (p := ⟨w.heap.size + 1, 0, none⟩) (.inr rfl) _).setCell (p := ⟨w.heap.size + 1, 1, none⟩) (.inr rfl) _
  generalize (w5.setCell ⟨w.heap.size + 1, 0, none⟩ (.int .i64 (per : Int))).setCell ⟨w.heap.size + 1, 1, none⟩ (.slice (some ⟨q9, 0, none⟩) l.length k9) = w6 at *
  refine bodyPost_ret (res_one Tryd.results34 rfl hbk) rfl ?_
  rw [hD.out]
  have hq9 : q9 < w5.heap.size := by
    have := World.ownsRow.cellAt st2 0 (by omega)
    rw [List.getElem?_eq_getElem (by have := st2.1; omega)] at this
    exact lt_of_cell' this
  have hq10 : q10 < w5.heap.size := by
    have := World.ownsRow.cellAt o10 0 (by omega)
    rw [List.getElem?_eq_getElem (by have := o10.1; omega)] at this
    exact lt_of_cell' this
  have b56 : Below w.heap.size w w6 := (hB.out.trans (b05.mono hB.out.size)).trans (b06.mono (by omega))
  refine ⟨_, l.set i ⟨x.p, q10, k10⟩, rfl, ⟨?_, ?_, ?_, ?_⟩, b56, fun c hc hl _ => ⟨fun r hr => ?_, fun y hy => ?_⟩⟩
  rotate_left 4
  · have : r = q9 := by simpa [Value.ownBlock] using hr.symm
    omega
  · obtain ⟨j, hj⟩ := List.mem_iff_getElem?.1 hy
    rw [List.getElem?_set] at hj
    by_cases hij : i = j
    · subst hij
      rw [if_pos rfl, if_pos (by omega)] at hj
      obtain rfl := Option.some.inj hj
      show q10 ≠ c
      omega
    · rw [if_neg hij] at hj
      exact hl y (List.mem_of_getElem? hj)
  · rw [List.length_set, pcs_set per l i _ (by omega)]
    exact ownsRow_zero (ownsRow_heap st2 fun r hr => by
      have : r = q9 := by simpa [Value.ownBlock] using hr.symm
      subst this
      exact b06'.block _ hq9 (by omega))
  · rw [List.map_set]
    have : (l.map (·.p)).set i x.p = l.map (·.p) := by
      apply List.ext_getElem?
      intro j
      rw [List.getElem?_set]
      by_cases hij : i = j
      · subst hij
        rw [if_pos rfl, if_pos (by rw [List.length_map]; omega), List.getElem?_map, Hx.out.1]
        rfl
      · rw [if_neg hij]
    rw [this]
    exact H1.out.ps
  · intro y hy
    obtain ⟨j, hj⟩ := List.mem_iff_getElem?.1 hy
    rw [List.getElem?_set] at hj
    by_cases hij : i = j
    · subst hij
      rw [if_pos rfl, if_pos (by omega)] at hj
      obtain rfl := Option.some.inj hj
      refine ⟨⟨fun t ht => ?_, Nat.lt_of_lt_of_le hq10 b06'.size, by show q10 ≠ b; omega⟩, g7, g8⟩
      rw [b06'.cell (p := ⟨q10, t, none⟩) hq10 (by show q10 ≠ _; omega), World.ownsRow.cellAt o10 t (by omega), List.getElem?_set]
      simp only [upd2, if_true]
      by_cases hst : s = t
      · subst hst
        rw [if_pos rfl, if_pos (by simpa using ht), upd_same]
      · rw [if_neg hst, upd_ne _ _ (fun e => hst e.symm)]
        simp [ht]
    · rw [if_neg hij] at hj
      have hr := HH.out.rows y (List.mem_of_getElem? hj)
      have hne : y.p ≠ x.p := fun e => hij (Pg.inj H1.out Hx.out.1 hj e.symm)
      refine ⟨⟨fun t ht => ?_, ?_, hr.1.ne⟩, hr.2⟩
      · rw [upd2_lt (fun e => hne e.symm)]
        exact (b56.cell (p := ⟨y.h, t, none⟩) hr.1.lt).trans (hr.1.cs t ht)
      · exact Nat.lt_of_lt_of_le hr.1.lt b56.size
  · intro r hr
    have : r = q9 := by simpa [Value.ownBlock] using hr.symm
    subst this
    exact ⟨by omega, Nat.lt_of_lt_of_le hq9 b06'.size⟩
end
end Go.Proofs.YtkkjjdnlfdempaaDoor
