/- Contracts of layer slots: Take. No statement is proved here. -/
import Derived.Test.YtkkjjdnlfdempaaDoorSlG
namespace Go.Proofs.YtkkjjdnlfdempaaDoor
set_option maxRecDepth 100000
open Go.RowKit Go.Shelf
set_option linter.unusedVariables false
attribute [local go_sem] Oper.semAt_some
section
variable {W W' w : World} {b per c d n : Nat} {g : Nat → Bool} {f f' : Nat → Nat → Bool}
/-- Take's three answers are laid. -/
def lay3 (q : Nat) (u0 u1 u2 : Value) (W : World) : World := ((W.setCell ⟨q + 1, 0, none⟩ u0).setCell ⟨q + 2, 0, none⟩ u1).setCell ⟨q + 3, 0, none⟩ u2
theorem lay3_own {q : Nat} {x y z : Value} (h : Own4 q b x y z W) (u0 u1 u2 : Value) : Own4 q b u0 u1 u2 (lay3 q u0 u1 u2 W) :=
  ⟨((h.c0.far (by omega) _ _).far (by omega) _ _).far (by omega) _ _, ((h.c1.set _).far (by omega) _ _).far (by omega) _ _, ((h.c2.far (by omega) _ _).set _).far (by omega) _ _, ((h.c3.far (by omega) _ _).far (by omega) _ _).set _⟩
theorem lay3_below {q : Nat} (h : Below q w W) (u0 u1 u2 : Value) : Below q w (lay3 q u0 u1 u2 W) :=
  ((h.setCell (p := ⟨q + 1, 0, none⟩) (by show q ≤ q + 1; omega) u0).setCell (p := ⟨q + 2, 0, none⟩) (by show q ≤ q + 2; omega) u1).setCell (p := ⟨q + 3, 0, none⟩) (by show q ≤ q + 3; omega) u2
theorem lay3_keeps (q : Nat) (u0 u1 u2 : Value) (W : World) : KeepsOthers W (lay3 q u0 u1 u2 W) := ((KeepsOthers.setCell _ _ _).trans (KeepsOthers.setCell _ _ _)).trans (KeepsOthers.setCell _ _ _)
theorem lay3_drew {q : Nat} {x y z : Value} (h : Own4 q b x y z W) : Own4 q b x y z W.drew := ⟨h.c0, h.c1, h.c2, h.c3⟩
/-- The answer, read off its boxes, when the rounds' deferred calls are done with. -/
theorem ans3 {fn : Func} (hr : fn.results = #[.cell 2 3, .cell 3 3, .cell 4 4]) {tmps : Array Value} {q D : Nat} {u0 u1 u2 : Value} (h : Own4 q b u0 u1 u2 W) (hD : W.heap[D]? = some (.deferred (some []))) (o' : Obj)
    (h0 : tmps.getD 2 undef = .pointer (some ⟨q + 1, 0, none⟩)) (h1 : tmps.getD 3 undef = .pointer (some ⟨q + 2, 0, none⟩)) (h2 : tmps.getD 4 undef = .pointer (some ⟨q + 3, 0, none⟩)) :
    (results fn tmps).run Tryd.prog (W.putObj D o') = .ok (.tuple #[u0, u1, u2]) (W.putObj D o') := by
  have k : Own4 q b u0 u1 u2 (W.putObj D o') := h.kept (grownBy_putObj' W D o') (fun r e => by cases e; exact ⟨_, hD, rfl⟩)
  exact res_three hr h0 h1 h2 (load_int k.c1.1) (load_int k.c2.1) (load_bool k.c3.1)
theorem tab_grow {g : Nat} {tab : List Nat} (h : TabAt g tab w) (k : Below w.heap.size w W) : TabAt g tab W := fun j hj => (k.cell (p := ⟨g, j, none⟩) (lt_of_cell' (h j hj))).trans (h j hj)
set_option maxHeartbeats 4000000 in
theorem take_any (H : BookAt w b per g f) (hT : TabAt 0 Lib.deBruijn32tab w) : Calls Tryd.prog 12 #[.pointer (some ⟨b, 0, none⟩)] w (TakePost b per g f w) := by
  refine (callsIn_wide (n := 5)).1 ?_
  obtain ⟨D0, hD0⟩ : ∃ D, D = TakePost b per g f w := ⟨_, rfl⟩
  rw [← hD0]
  obtain ⟨w1, hw1⟩ : ∃ w1, w1 = (((w.alloc (.cells #[.pointer (some ⟨b, 0, none⟩)] 23)).alloc (.cells #[.int .i64 0] 3)).alloc (.cells #[.int .i64 0] 3)).alloc (.cells #[.bool false] 4) := ⟨_, rfl⟩
  have hO1 : Own4 w.heap.size b (.int .i64 0) (.int .i64 0) (.bool false) w1 ∧ Below w.heap.size w w1 ∧ w1.heap.size = w.heap.size + 4 := by
    rw [hw1]
    obtain ⟨x1, hx1⟩ : ∃ x, x = w.alloc (.cells #[.pointer (some ⟨b, 0, none⟩)] 23) := ⟨_, rfl⟩
    obtain ⟨x2, hx2⟩ : ∃ x, x = x1.alloc (.cells #[.int .i64 0] 3) := ⟨_, rfl⟩
    obtain ⟨x3, hx3⟩ : ∃ x, x = x2.alloc (.cells #[.int .i64 0] 3) := ⟨_, rfl⟩
    rw [← hx1, ← hx2, ← hx3]
    have k1 : Below w.heap.size w x1 := by rw [hx1]; exact (Below.refl _ _).alloc (Nat.le_refl _) _
    have k2 : Below x1.heap.size x1 x2 := by rw [hx2]; exact (Below.refl _ _).alloc (Nat.le_refl _) _
    have k3 : Below x2.heap.size x2 x3 := by rw [hx3]; exact (Below.refl _ _).alloc (Nat.le_refl _) _
    have k4 : Below x3.heap.size x3 (x3.alloc (.cells #[.bool false] 4)) := (Below.refl _ _).alloc (Nat.le_refl _) _
    have s1 : x1.heap.size = w.heap.size + 1 := by rw [hx1]; simp
    have s2 : x2.heap.size = w.heap.size + 2 := by rw [hx2, World.size_alloc, s1]
    have s3 : x3.heap.size = w.heap.size + 3 := by rw [hx3, World.size_alloc, s2]
    have c0 : Cel x1 w.heap.size (.pointer (some ⟨b, 0, none⟩)) := by rw [hx1]; exact new_cell rfl _ rfl
    have c1 : Cel x2 (w.heap.size + 1) (.int .i64 0) := by rw [hx2]; exact new_cell rfl _ s1.symm
    have c2 : Cel x3 (w.heap.size + 2) (.int .i64 0) := by rw [hx3]; exact new_cell rfl _ s2.symm
    have c3 : Cel (x3.alloc (.cells #[.bool false] 4)) (w.heap.size + 3) (.bool false) := new_cell rfl _ s3.symm
    exact ⟨⟨((c0.grow k2).grow k3).grow k4, (c1.grow k3).grow k4, c2.grow k4, c3⟩, ((k1.trans (k2.mono (by omega))).trans (k3.mono (by omega))).trans (k4.mono (by omega)), by rw [World.size_alloc, s3]⟩
  obtain ⟨hO1, hb1, hs1⟩ := hO1
  obtain ⟨w2, hw2⟩ : ∃ w2, w2 = w1.alloc (.cells #[.pointer (some ⟨b, 0, none⟩)] 23) := ⟨_, rfl⟩
  have hb2 : Below w1.heap.size w1 w2 := by rw [hw2]; exact (Below.refl _ _).alloc (Nat.le_refl _) _
  have hs2 : w2.heap.size = w.heap.size + 5 := by rw [hw2, World.size_alloc, hs1]
  have hL : Led w2 (w.heap.size + 4) b per g f := ⟨(H.grow hb1).grow hb2, by rw [hw2, ← hs1]; exact (new_cell rfl _ rfl).1, by omega⟩
  have hI : TakeI w w2.heap.size b f [] w2 := ⟨hO1.grow hb2, hb1.trans (hb2.mono (by omega)), fun p hp => (by cases hp), Nat.le_refl _⟩
  have c0 := hO1.c0.1
  have hA := Lib.hid (all_w w1 b)
  have hw1' := Lib.hid hw1
  have hw2' := Lib.hid hw2
  have G := Lib.hid (And.intro hL (And.intro hI (And.intro hs2 H)))
  have st := Lib.hid (all_stops 4 (by omega) (w.heap.size + 4) b per g f w2 hL)
  have hTb := Lib.hid hT
  have hD0' := Lib.hid hD0
  clear H hb1 hb2 hL hO1 hI hw1 hw2 hT hD0
  refine callsIn_of_wp_marks Tryd.func12 rfl trivial ?_ rfl
  simp only [Tryd.ntmps12, List.size_toArray, List.length_cons, List.length_nil, Nat.reduceAdd, Nat.reduceSub, Array.replicate_succ, Array.replicate_zero, List.push_toArray, List.append_toArray, List.nil_append, List.cons_append]
  rw [hw1'.out] at c0
  gi_wp2_with fail
  rw [← hw1'.out]
  refine ⟨trivial, (callsIn_wide.2 hA.out).mono ?_⟩
  rintro e w3 ⟨rfl, rfl⟩
  rw [← hw2'.out, hs1]
  clear hA c0
  gi_wp2_with fail
  simp only [Nat.add_assoc, Nat.reduceAdd]
  refine wpIn_rangeFunc_ownH rfl (by decide) (gf := 40) (lb := #[.pointer (some ⟨w.heap.size + 4, 0, none⟩)]) rfl trivial (enters_of Tryd.func40 (by kernel_rfl) rfl)
    st.out (fun h k => ⟨h.1.trans k.1, Nat.le_trans h.2 k.2⟩) (fun W' l o o' h1 h2 h3 h4 => ⟨KpB.put (w := w2) G.out.1.l G.out.1.k.lb W' l o o' h1 h2 h3 h4, by simp [World.putObj]⟩) (Below.refl _ _) (fun _ => rfl)
    (fun pre W' => TakeI w w2.heap.size b f pre W')
    (fun c xs W' => c = .ret ∧ ∃ pre x s, TakeX w b per g f xs pre x s W')
    (fun s A B row hs hg hr => ⟨hs.o.kept hg (fun r e => (hr r e).2), ownFrom_below (β := Unit) (Nat.le_refl _) (by have := G.out.2.2.1; omega) () A B row hs.bl hg hr, hs.z, Nat.le_trans hs.sz hg.size⟩)
    (fun c s A B row hs hg hr => by
      obtain ⟨e, pre, x, s, h⟩ := hs
      exact ⟨e, pre, x, s, h.e, h.z, h.is, h.sl, h.k.kept hg (fun r e => (hr r e).2), h.off.kept hg hr (by have := G.out.2.2.1; omega) (Nat.le_refl _), h.o.kept hg (fun r e => (hr r e).2)⟩)
    G.out.2.1
    (fun x a' W' => ∃ q, (w2.heap.size ≤ q ∧ a' = { tmps := #[.pointer (some ⟨b, 0, none⟩), .pointer (some ⟨w.heap.size, 0, none⟩), .pointer (some ⟨w.heap.size + 1, 0, none⟩), .pointer (some ⟨w.heap.size + 2, 0, none⟩), .pointer (some ⟨w.heap.size + 3, 0, none⟩), .int .i64 (x : Int), .pointer (some ⟨q, 0, none⟩), .pointer (some ⟨b, 0, none⟩), .func (.func 40) #[] #[.pointer (some ⟨w.heap.size + 4, 0, none⟩)], .int .i64 (x : Int), .agg #[.bool true, .int .u16 (w16 (f x) : Int)], undef, undef, undef, undef, undef, undef, undef, undef, undef, undef, undef, undef], defers := [] }) ∧ LeafAt q x f W')
    (fun x a' => Own.from (fun s A B row hs hg hr => by obtain ⟨q, h1, h2⟩ := hs; exact ⟨q, h1, h2.kept hg hr⟩) _) ?assign ?body ?done ?stop
  case assign =>
    rintro l pre x W K hc hK
    dsimp only [encS]
    have hN := Lib.hid (LeafAt.new W x f)
    gi_wp2
    refine hK _ _ (((KeepsOthers.refl W).trans (KeepsOthers.alloc W _)).from _) ?_ ?_ ?_
    · have hb : Below W.heap.size W (W.alloc (.cells #[.bool true, .int .u16 (w16 (f x) : Int)] 59)) := (Below.refl _ _).alloc (Nat.le_refl _) _
      exact ⟨KpB.of_below hb (by have := hc.sz; have := G.out.1.l; omega) (by have := hc.sz; have := G.out.1.k.lb; omega), hb.size⟩
    · have hb : Below W.heap.size W (W.alloc (.cells #[.bool true, .int .u16 (w16 (f x) : Int)] 59)) := (Below.refl _ _).alloc (Nat.le_refl _) _
      exact ⟨hc.o.grow hb, hc.bl.trans (hb.mono hc.bl.size), hc.z, Nat.le_trans hc.sz hb.size⟩
    · exact ⟨_, ⟨hc.sz, rfl⟩, hN.out⟩
  case body =>
    rintro l pre x a' W hl hr hc ⟨q, ⟨hq, rfl⟩, hF⟩ hlen
    by_cases hz : w16 (f x) = 0
    · have n0 := hF.2
      rw [hz] at n0
      rw [hz]
      have hc' := Lib.hid hc
      have hz' := Lib.hid hz
      clear hc hF hz hr
      gi_wp2
      refine ⟨KeepsFrom.refl _ _, ⟨KpB.refl _ _ _, Nat.le_refl _⟩, hc'.out.o, hc'.out.bl, fun p hp => ?_, hc'.out.sz⟩
      rcases List.mem_append.1 hp with h | h
      · exact hc'.out.z p h
      · rw [List.mem_singleton.1 h]; exact hz'.out
    · obtain ⟨s, hs, h1, h2⟩ := low_exists (f x) hz
      have hgx := (G.out.2.2.2.ok x s h1).1
      have hx := G.out.2.2.2.gl x hgx
      have n0 := hF.2
      have hz0 : ((w16 (f x) : Int) == 0) = false := by simp; omega
      have hTz := Lib.hid (tz16 (f x) s W hs h1 h2 (tab_grow hTb.out hc.bl))
      have c0 := hc.o.c0.1
      have c2 := hc.o.c2.1
      have f2 := hc.o.c2.2
      obtain ⟨W5, hW5⟩ : ∃ W5, W5 = W.setCell ⟨w.heap.size + 2, 0, none⟩ (.int .i64 (s : Int)) := ⟨_, rfl⟩
      have o5 : Own4 w.heap.size b (.int .i64 0) (.int .i64 (s : Int)) (.bool false) W5 := by rw [hW5]; exact ⟨hc.o.c0.far (by omega) _ _, hc.o.c1.far (by omega) _ _, hc.o.c2.set _, hc.o.c3.far (by omega) _ _⟩
      have b5 : Below w.heap.size w W5 := by rw [hW5]; exact hc.bl.setCell (p := ⟨w.heap.size + 2, 0, none⟩) (by show w.heap.size ≤ w.heap.size + 2; omega) _
      have k5 : KeepsOthers W W5 := by rw [hW5]; exact KeepsOthers.setCell _ _ _
      have hC := (change_in (G.out.2.2.2.grow b5) x hx 33 #[.pointer (some ⟨w.heap.size + 2, 0, none⟩)] (enters_of Tryd.func33 (by kernel_rfl) rfl) (g x) (upd (f x) s false) true
        (fun _ t ht => by
          by_cases e : t = s
          · rw [e, upd_same] at ht; cases ht
          · rw [upd_ne _ _ e] at ht; exact G.out.2.2.2.ok x t ht) (take1 s hs ⟨o5.c2.1, o5.c2.lt⟩ (g x) (f x)))
      simp only [if_true, upd_self, ← upd2_updP] at hC
      have hC := Lib.hid hC
      have N := Lib.hid (And.intro o5 (And.intro b5 (And.intro k5 (And.intro hc.z (And.intro h1 h2)))))
      clear hc hF hr h1 h2 hgx b5 k5
      gi_wp2_with fail
      refine ⟨trivial, (CallsIn.inRound l (callsIn_wide.2 hTz.out)).mono ?_⟩
      rintro e w' ⟨rfl, rfl⟩
      have c5 : (W.setCell ⟨w.heap.size + 2, 0, none⟩ (.int .i64 (s : Int))).cell? ⟨w.heap.size, 0, none⟩ = some (.pointer (some ⟨b, 0, none⟩)) := by rw [← hW5]; exact o5.c0.1
      clear hTz n0 c0
      gi_wp2_with fail
      rw [← hW5]
      refine ⟨trivial, (CallsIn.inRound l (callsIn_wide.2 hC.out)).mono ?_⟩
      rintro e w6 ⟨rfl, hK6, hO6⟩
      have o6 := N.out.1.off hO6 G.out.2.2.2.lb
      have q1 := o6.c1.1
      have q2 := o6.c2.1
      have q3 := o6.c3.1
      have p1 := o6.c1.2
      have p2 := o6.c2.2
      have p3 := o6.c3.2
      have E := Lib.hid (And.intro hK6 (And.intro hO6 o6))
      clear hK6 hO6 o6 o5 hC c5 c2 f2
      gi_wp2_with fail
      gi_region
      all_goals (
        clear q1 q2 q3 p1 p2 p3
        gi_wp2
        obtain ⟨k6, oo6, o6⟩ := E.out
        obtain ⟨o5, b5, k5, z5, i5, s5⟩ := N.out
        have b6 : Below w.heap.size w6 (lay3 w.heap.size (.int .i64 (x : Int)) (.int .i64 (s : Int)) (.bool true) w6) := lay3_below (Below.refl _ _) _ _ _
        have hlb := G.out.2.2.2.lb
        refine ⟨((k5.from _).trans (keeps_off oo6 (by omega))).trans (((lay3_keeps w.heap.size (.int .i64 (x : Int)) (.int .i64 (s : Int)) (.bool true) w6).trans (keeps_below (Below.refl _ _).drew)).from _), rfl, pre, x, s, rfl, z5, i5, s5,
          k6.keep (b6.drew.block b hlb) b6.size, ((Off.of_below b5).trans (oo6.mono b5.size)).trans (Off.of_below b6.drew), lay3_drew (lay3_own o6 _ _ _)⟩)
  case done =>
    rintro D ys W hD hS hc hK
    have q1 := hc.o.c1.1
    have q2 := hc.o.c2.1
    have q3 := hc.o.c3.1
    have p1 := hc.o.c1.2
    have p2 := hc.o.c2.2
    have p3 := hc.o.c3.2
    have hZ := Lib.hid (show ∀ p s, f p s = false from fun p s => by
      rcases hv : f p s with _ | _
      · rfl
      · have h1 := G.out.2.2.2.ok p s hv
        have h2 := G.out.2.2.2.gl p h1.1
        have h3 := hc.z p (by rw [hS]; exact setL_mem.2 ⟨h2, h1.1⟩)
        have := w16_zero.1 h3 s (by have := G.out.2.2.2.lo; omega)
        rw [this] at hv; cases hv)
    have hL := lay3_own hc.o (.int .i64 0) (.int .i64 0) (.bool false)
    have hK3 : (lay3 w.heap.size (.int .i64 0) (.int .i64 0) (.bool false) W).heap[D]? = some (.deferred (some [])) := (lay3_keeps w.heap.size (.int .i64 0) (.int .i64 0) (.bool false) W).same D _ hK rfl
    have E := Lib.hid (And.intro hL (And.intro (lay3_below hc.bl (.int .i64 0) (.int .i64 0) (.bool false)) hK3))
    clear hc hK hL hS hK3
    gi_wp2
    refine ⟨by simp, .inl ⟨_, _, rfl, run_takeDeferred E.out.2.2, ?_⟩⟩
    refine ⟨_, ans3 Tryd.results12 E.out.1 E.out.2.2 _ rfl rfl rfl, ?_⟩
    rw [hD0'.out]
    exact .inl ⟨hZ.out, rfl, E.out.2.1.trans (belowK_b (w := w) (Nat.le_refl _) _ D _ _ (by have := G.out.2.2.1; omega) E.out.2.2 rfl rfl)⟩
  case stop =>
    rintro D c xs W hD hp ⟨rfl, pre, x, s, hX⟩ hK
    have hX' := Lib.hid hX
    clear hX
    gi_wp2
    refine ⟨by simp, .inl ⟨_, _, rfl, run_takeDeferred hK, ?_⟩⟩
    refine ⟨_, ans3 Tryd.results12 hX'.out.o hK _ rfl rfl rfl, ?_⟩
    rw [hD0'.out]
    have hlb := G.out.2.2.2.lb
    have kb : Below w.heap.size W (W.putObj D (.deferred none)) := belowK_b (w := w) (Nat.le_refl _) _ D _ _ (by have := G.out.2.2.1; omega) hK rfl rfl
    refine .inr ⟨x, s, ⟨hX'.out.is, fun q t hq => ?_, hX'.out.sl⟩, rfl, hX'.out.k.keep (kb.block b hlb) kb.size, hX'.out.off.trans (Off.of_below kb)⟩
    rcases hv : f q t with _ | _
    · rfl
    · have h1 := G.out.2.2.2.ok q t hv
      have h2 := hX'.out.z q (prefix_below (by rw [← hX'.out.e]; exact hp) h1.1 hq)
      have := w16_zero.1 h2 t (by have := G.out.2.2.2.lo; omega)
      rw [this] at hv; cases hv
end
end Go.Proofs.YtkkjjdnlfdempaaDoor
