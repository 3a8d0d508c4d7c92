/- Contracts of layer slots: Free, Pages. No statement is proved here. -/
import Derived.Test.YtkkjjdnlfdempaaDoorSlD
import Derived.Test.YtkkjjdnlfdempaaDoorWide
import Derived.Test.YtkkjjdnlfdempaaDoorNums
namespace Go.Proofs.YtkkjjdnlfdempaaDoor
set_option maxRecDepth 100000
open Go.RowKit Go.Shelf
set_option linter.unusedVariables false
attribute [local go_sem] Oper.semAt_some
section
variable {W W' w : World} {b per c d : Nat} {g : Nat → Bool} {f : Nat → Nat → Bool}
/-- What a count holds between two rounds. -/
structure CountI (w : World) (N : Nat) (f : Nat → Nat → Bool) (pre : List Nat) (W : World) : Prop where
  c : W.cell? ⟨w.heap.size, 0, none⟩ = some (.int .i64 (tsum f pre : Nat))
  fr : W.frozen? ⟨w.heap.size, 0, none⟩ = false
  sz : N ≤ W.heap.size
/-- A round's leaf in its box. -/
def LeafAt (q : Nat) (x : Nat) (f : Nat → Nat → Bool) (W : World) : Prop := W.cell? ⟨q, 0, none⟩ = some (.bool true) ∧ W.cell? ⟨q, 1, none⟩ = some (.int .u16 (w16 (f x) : Int))
theorem CountI.kept {N : Nat} {pre : List Nat} {row : Option Nat} (h : CountI w N f pre W) (hg : W.grownBy W' row) (hr : ∀ r, row = some r → ∃ o : Obj, W.heap[r]? = some o ∧ o.isCells = false) : CountI w N f pre W' :=
  ⟨cell_kept h.c hg hr, (frozen_kept h.c hg hr).trans h.fr, Nat.le_trans h.sz hg.size⟩
theorem LeafAt.kept {q x : Nat} {row : Option Nat} (h : LeafAt q x f W) (hg : W.grownBy W' row) (hr : ∀ r, row = some r → ∃ o : Obj, W.heap[r]? = some o ∧ o.isCells = false) : LeafAt q x f W' :=
  ⟨cell_kept h.1 hg hr, cell_kept h.2 hg hr⟩
theorem LeafAt.new (W : World) (x : Nat) (f : Nat → Nat → Bool) : LeafAt W.heap.size x f (W.alloc (.cells #[.bool true, .int .u16 (w16 (f x) : Int)] 59)) := ⟨by simp, by simp⟩
theorem keeps_below (h : Below W.heap.size W W') : KeepsOthers W W' := ⟨h.size, fun k o hk _ => (h.block k (Array.getElem?_eq_some_iff.1 hk).1).trans hk⟩
theorem KpB.set (W : World) {p : Addr} (h0 : c ≠ p.block) (h1 : b ≠ p.block) (v : Value) : KpB c b W (W.setCell p v) :=
  fun k hk => Below.heap_setCell _ _ _ _ (by rcases hk with rfl | rfl <;> omega)
/-- What a round of the count holds till its store. -/
structure CountR (w W0 : World) (N q x : Nat) (f : Nat → Nat → Bool) (pre : List Nat) (W : World) : Prop where
  i : CountI w N f pre W
  bl : Below w.heap.size w W
  lf : LeafAt q x f W
  go : Below W0.heap.size W0 W
theorem CountR.grow {W0 : World} {N q x : Nat} {pre : List Nat} (h : CountR w W0 N q x f pre W) (hw : w.heap.size < W.heap.size) (hq : q < W.heap.size) (k : Below W.heap.size W W') : CountR w W0 N q x f pre W' :=
  ⟨⟨(k.cell (p := ⟨w.heap.size, 0, none⟩) hw).trans h.i.c, (k.frozen (p := ⟨w.heap.size, 0, none⟩) hw).trans h.i.fr, Nat.le_trans h.i.sz k.size⟩, h.bl.trans (k.mono h.bl.size),
    ⟨(k.cell (p := ⟨q, 0, none⟩) hq).trans h.lf.1, (k.cell (p := ⟨q, 1, none⟩) hq).trans h.lf.2⟩, h.go.trans (k.mono h.go.size)⟩
theorem CountI.next {N x : Nat} {pre : List Nat} (h : CountI w N f pre W) : CountI w N f (pre ++ [x]) (W.setCell ⟨w.heap.size, 0, none⟩ (.int .i64 ((tsum f pre : Nat) + (cnt (f x) 16 : Nat)))) :=
  ⟨by rw [World.cell?_setCell_same' _ _ _ (by rw [h.c]; rfl), tsum_snoc]; rfl, (World.frozen?_setCell _ _ _ _).trans h.fr, by simpa [World.setCell] using h.sz⟩
set_option maxHeartbeats 2000000 in
theorem free_any (H : BookAt w b per g f) : Calls Tryd.prog 19 #[.pointer (some ⟨b, 0, none⟩)] w fun e w' => e = .returned (.int .i64 (tot f 1024 : Nat)) ∧ Below w.heap.size w w' := by
  refine (callsIn_wide (n := 5)).1 ?_
  obtain ⟨w1, hw1⟩ : ∃ w1, w1 = w.alloc (.cells #[.int .i64 0] 3) := ⟨_, rfl⟩
  have hb1 : Below w.heap.size w w1 := by rw [hw1]; exact (Below.refl _ w).alloc (Nat.le_refl _) _
  have hs1 : w1.heap.size = w.heap.size + 1 := by rw [hw1]; simp
  have q1 : w1.cell? ⟨w.heap.size, 0, none⟩ = some (.int .i64 0) ∧ w1.frozen? ⟨w.heap.size, 0, none⟩ = false := by rw [hw1]; exact new_cell rfl _ rfl
  have hA := Lib.hid (all_any (H.grow hb1))
  have G := Lib.hid (And.intro H (And.intro hs1 (And.intro hb1 q1)))
  have hw1' := Lib.hid hw1
  clear H hs1 hb1 q1 hw1
  refine callsIn_of_wp_marks Tryd.func19 rfl trivial ?_ rfl
  simp only [Tryd.ntmps19, List.size_toArray, List.length_cons, List.length_nil, Nat.reduceAdd, Nat.reduceSub, Array.replicate_succ, Array.replicate_zero, List.push_toArray, List.append_toArray, List.nil_append, List.cons_append]
  gi_wp2_with fail
  rw [← hw1'.out]
  refine ⟨trivial, (callsIn_wide.2 hA.out).mono ?_⟩
  rintro e w2 ⟨rfl, hL, hb2, hs2⟩
  have hL' := Lib.hid hL
  have hB2 := Lib.hid hb2
  have hS2 := Lib.hid hs2
  clear hL hb2 hs2 hA
  gi_wp2_with fail
  have G2 := Lib.hid (show (CountI w w2.heap.size f [] w2 ∧ Below w.heap.size w w2) ∧ w.heap.size + 2 = w2.heap.size ∧ b < w.heap.size ∧ w1.heap.size = w.heap.size + 1 from by
    obtain ⟨x1, x2, x3, x4, x5⟩ := G.out
    have := hS2.out
    exact ⟨⟨⟨(hB2.out.cell (p := ⟨w.heap.size, 0, none⟩) (by show w.heap.size < _; omega)).trans x4, (hB2.out.frozen (p := ⟨w.heap.size, 0, none⟩) (by show w.heap.size < _; omega)).trans x5, Nat.le_refl _⟩, x3.trans (hB2.out.mono x3.size)⟩, by omega, x1.lb, x2⟩)
  have st := Lib.hid (all_stops 4 (by omega) w1.heap.size b per g f w2 hL'.out)
  refine wpIn_rangeFunc_ownH rfl (by decide) (gf := 40) (lb := #[.pointer (some ⟨w1.heap.size, 0, none⟩)]) rfl trivial (enters_of Tryd.func40 (by kernel_rfl) rfl)
    st.out (fun h k => ⟨h.1.trans k.1, Nat.le_trans h.2 k.2⟩) (fun W' l o o' h1 h2 h3 h4 => ⟨KpB.put (w := w2) hL'.out.l hL'.out.k.lb W' l o o' h1 h2 h3 h4, by simp [World.putObj]⟩) (Below.refl _ _) (fun _ => rfl)
    (fun pre W' => CountI w w2.heap.size f pre W' ∧ Below w.heap.size w W')
    (fun _ _ _ => False)
    (OwnFrom.and (Own.from (fun s A B row hs hg hr => hs.kept hg hr) _) (ownFrom_below (Nat.le_refl _) (by have := G2.out.2.1; omega)))
    (fun _ _ _ _ _ hs _ _ => hs)
    G2.out.1
    (fun x a' W' => ∃ q, (w2.heap.size ≤ q ∧ a' = { tmps := #[.pointer (some ⟨b, 0, none⟩), undef, .int .i64 0, .pointer (some ⟨w.heap.size, 0, none⟩), undef, .pointer (some ⟨q, 0, none⟩), .pointer (some ⟨b, 0, none⟩), .func (.func 40) #[] #[.pointer (some ⟨w1.heap.size, 0, none⟩)], .int .i64 (x : Int), .agg #[.bool true, .int .u16 (w16 (f x) : Int)], undef, undef, undef, undef, undef, undef], defers := [] }) ∧ LeafAt q x f W')
    (fun x a' => Own.from (fun s A B row hs hg hr => by obtain ⟨q, h1, h2⟩ := hs; exact ⟨q, h1, h2.kept hg hr⟩) _) ?assign ?body ?done ?stop
  case assign =>
    rintro l pre x W K ⟨hc, hB⟩ hK
    dsimp only [encS]
    have hN := Lib.hid (LeafAt.new W x f)
    gi_wp2
    refine hK _ _ (((KeepsOthers.refl W).trans (KeepsOthers.alloc W _)).from _) ?_ ?_ ?_
    · have hb : Below W.heap.size W (W.alloc (.cells #[.bool true, .int .u16 (w16 (f x) : Int)] 59)) := (Below.refl _ _).alloc (Nat.le_refl _) _
      exact ⟨KpB.of_below hb (by have := hc.sz; have := hL'.out.l; omega) (by have := hc.sz; have := hL'.out.k.lb; omega), hb.size⟩
    · exact ⟨hc.kept (World.grownBy_alloc W _ none) (fun r e => by cases e), hB.alloc hB.size _⟩
    · exact ⟨_, ⟨hc.sz, rfl⟩, hN.out⟩
  case body =>
    rintro l pre x a' W hl hr ⟨hc, hB⟩ ⟨q, ⟨hq, rfl⟩, hF⟩ hlen
    have hw2 := G2.out.2.1
    have hql : q < W.heap.size := lt_of_cell' hF.1
    have R0 : CountR w W w2.heap.size q x f pre W := ⟨hc, hB, hF, Below.refl _ _⟩
    have R1 := R0.grow (by have := hc.sz; omega) hql (Below.refl _ _).drew
    have hO := Lib.hid ((ones (f x) W.drew).mono fun e w' k => (show e = .returned (.int .i64 (cnt (f x) 16 : Nat)) ∧ CountR w W w2.heap.size q x f pre w' from ⟨k.1, R1.grow (by have := hc.sz; show w.heap.size < W.heap.size; omega) hql k.2⟩))
    have q1 := hc.c
    have n0 := hF.2
    have hsum := tsum_le f pre
    have hcw := cnt_le (f x) 16
    obtain ⟨t, ht⟩ : ∃ t, t = tsum f pre := ⟨_, rfl⟩
    obtain ⟨u, hu⟩ : ∃ u, u = cnt (f x) 16 := ⟨_, rfl⟩
    rw [← hu] at hO hcw
    rw [← ht] at q1 hsum
    have s1 : IntKind.i64.wrap ((t : Int) + (u : Int)) = ((t : Nat) : Int) + (u : Nat) := by rw [IntKind.wrap_i64]; omega
    have hZ := Lib.hid (show w1.heap.size < W.heap.size ∧ b < w.heap.size ∧ w1.heap.size = w.heap.size + 1 from ⟨by have := hc.sz; have := hL'.out.l; omega, G2.out.2.2.1, G2.out.2.2.2⟩)
    have ht' := Lib.hid ht
    have hu' := Lib.hid hu
    clear R0 R1 hc hB hF ht hu hsum hcw
    gi_wp2
    gi_region_with (refine ⟨trivial, (CallsIn.inRound l (callsIn_wide.2 hO.out)).mono ?_⟩; rintro e w3 ⟨rfl, k⟩; have hk := Lib.hid k; have q1 := k.i.c; have q2 := k.i.fr; rw [← ht'.out] at q1; clear k)
    all_goals (
      gi_wp2
      have hz := hk.out.go.size
      have hN := (hk.out.i.next (x := x))
      rw [← ht'.out, ← hu'.out] at hN
      have hc' := hZ.out.1
      have hc2 := hZ.out.2.1
      have hc3 := hZ.out.2.2
      refine ⟨((keeps_below hk.out.go).trans (KeepsOthers.setCell _ _ _)).from _, ⟨(KpB.of_below hk.out.go (by omega) (by omega)).trans (KpB.set _ (p := ⟨w.heap.size, 0, none⟩) (by show w1.heap.size ≠ w.heap.size; omega) (by show b ≠ w.heap.size; omega) _), by simpa [World.setCell] using hz⟩,
        hN, hk.out.bl.setCell (p := ⟨w.heap.size, 0, none⟩) (Nat.le_refl _) _⟩)
  case done =>
    rintro D ys W hD hS ⟨hc, hB⟩ hK
    have q1 := hc.c
    rw [hS, tsum_setL f g 1024 (fun p s _ hp => by
      rcases hv : f p s with _ | _
      · rfl
      · rw [(hL'.out.k.ok p s hv).1] at hp; cases hp)] at q1
    have hB' := Lib.hid hB
    clear hS hc hB
    gi_wp2
    refine ⟨by simp, .inl ⟨_, _, rfl, run_takeDeferred hK, ?_⟩⟩
    exact ⟨_, results_tmp rfl _ _ _, rfl, hB'.out.trans (belowK_b (w := w) (Nat.le_refl _) W D _ _ (by have := G2.out.2.1; omega) hK rfl rfl)⟩
  case stop =>
    rintro D c pre W _ _ h _
    exact h.elim
end
end Go.Proofs.YtkkjjdnlfdempaaDoor
