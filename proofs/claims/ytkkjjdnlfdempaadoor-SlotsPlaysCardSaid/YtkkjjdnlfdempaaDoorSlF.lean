/- Contracts of layer slots: Pages. No statement is proved here. -/
import Derived.Test.YtkkjjdnlfdempaaDoorSlE
import Derived.Maps.AppendAt
namespace Go.Proofs.YtkkjjdnlfdempaaDoor
set_option maxRecDepth 100000
open Go.RowKit Go.Shelf
set_option linter.unusedVariables false
attribute [local go_sem] Oper.semAt_some
section
variable {W W' w : World} {b per c d : Nat} {g : Nat → Bool} {f : Nat → Nat → Bool}
def intv (x : Nat) : Value := .int .i64 (x : Int)
/-- A call has handed back a list of numbers, in a row of its own. -/
def ListPost (w : World) (lst : List Nat) (e : Ending) (w' : World) : Prop :=
  ∃ v, e = .returned v ∧ w'.ownsRow w.heap.size 3 1 v lst.length (lst.map intv) ∧ Below w.heap.size w w'
theorem infoInt : (Tryd.prog.info? 3).map (fun i => (i.zero, i.size, i.bytes)) = some (some (.int .i64 0), 1, 8) := by kernel_rfl
theorem all_w (w : World) (b : Nat) : Calls Tryd.prog 31 #[.pointer (some ⟨b, 0, none⟩)] w fun e w' => e = .returned (.func (.func 40) #[] #[.pointer (some ⟨w.heap.size, 0, none⟩)]) ∧
    w' = w.alloc (.cells #[.pointer (some ⟨b, 0, none⟩)] 23) := by
  go_enter Tryd.func31, Tryd.ntmps31
  go_wp2
  go_ret
  exact ⟨rfl, rfl⟩
set_option maxHeartbeats 2000000 in
theorem pages_any (H : BookAt w b per g f) : Calls Tryd.prog 23 #[.pointer (some ⟨b, 0, none⟩)] w (ListPost w (setL g 1024)) := by
  obtain ⟨i0, hi, hz0, hz1, hz2⟩ := info_parts infoInt
  refine (callsIn_wide (n := 5)).1 ?_
  obtain ⟨w1, hw1⟩ : ∃ w1, w1 = w.alloc (.cells #[.slice none 0 0] 45) := ⟨_, rfl⟩
  obtain ⟨w2, hw2⟩ : ∃ w2, w2 = w1.alloc (.cells #[.pointer (some ⟨b, 0, none⟩)] 23) := ⟨_, rfl⟩
  have hs1 : w1.heap.size = w.heap.size + 1 := by rw [hw1]; simp
  have hs2 : w2.heap.size = w.heap.size + 2 := by rw [hw2, World.size_alloc, hs1]
  have bO : Boxed w1 w.heap.size 45 (.slice none 0 0) := by rw [hw1]; exact Boxed.new w _ _
  have bN : Boxed w2 (w.heap.size + 1) 23 (.pointer (some ⟨b, 0, none⟩)) := by rw [hw2, ← hs1]; exact Boxed.new w1 _ _
  have bO2 : Boxed w2 w.heap.size 45 (.slice none 0 0) := by rw [hw2]; exact bO.alloc _
  have hb1 : Below w.heap.size w w1 := by rw [hw1]; exact (Below.refl _ w).alloc (Nat.le_refl _) _
  have hb2 : Below w.heap.size w w2 := by rw [hw2]; exact hb1.alloc hb1.size _
  have hL : Led w2 (w.heap.size + 1) b per g f := ⟨H.grow hb2, bN.cell, by omega⟩
  have hlb := H.lb
  have hA := Lib.hid (all_w w1 b)
  have hw1' := Lib.hid hw1
  have hw2' := Lib.hid hw2
  have G := Lib.hid (And.intro hL (And.intro bN (And.intro bO2 (And.intro hb2 (And.intro hs2 hlb)))))
  have st := Lib.hid (all_stops 4 (by omega) (w.heap.size + 1) b per g f w2 hL)
  clear H hb1 hb2 hL bO bN bO2 hw1 hw2 hlb
  refine callsIn_of_wp_marks Tryd.func23 rfl trivial ?_ rfl
  simp only [Tryd.ntmps23, List.size_toArray, List.length_cons, List.length_nil, Nat.reduceAdd, Nat.reduceSub, Array.replicate_succ, Array.replicate_zero, List.push_toArray, List.append_toArray, List.nil_append, List.cons_append]
  gi_wp2_with fail
  rw [← hw1'.out]
  refine ⟨trivial, (callsIn_wide.2 hA.out).mono ?_⟩
  rintro e w3 ⟨rfl, rfl⟩
  rw [← hw2'.out, hs1]
  clear hA
  gi_wp2_with fail
  refine wpIn_rangeFunc_ownG rfl (by decide) (gf := 40) (lb := #[.pointer (some ⟨w.heap.size + 1, 0, none⟩)]) rfl trivial (enters_of Tryd.func40 (by kernel_rfl) rfl)
    st.out (fun h k => ⟨h.1.trans k.1, Nat.le_trans h.2 k.2⟩) (fun W' l o o' h1 h2 h3 h4 => ⟨KpB.put (w := w2) G.out.1.l G.out.1.k.lb W' l o o' h1 h2 h3 h4, by simp [World.putObj]⟩) (Below.refl _ _) (fun _ => rfl)
    (fun pre W' => (∃ v, Boxed W' w.heap.size 45 v ∧ W'.ownsRow w.heap.size 3 1 v pre.length (pre.map intv) ∧ True) ∧ (∃ _ : Unit, Boxed W' (w.heap.size + 1) 23 (.pointer (some ⟨b, 0, none⟩))) ∧ Below w.heap.size w W')
    (fun _ _ _ => False)
    (OwnFrom.and (Own.from (holdsRow_own w.heap.size w.heap.size 45 3 1 (fun pre : List Nat => pre.length) (fun pre => pre.map intv) (fun _ _ => True)) _)
      (OwnFrom.and (Own.from (fun s A B row hs hg hr => by obtain ⟨_, h⟩ := hs; exact ⟨(), boxed_own (β := Unit) (w.heap.size + 1) 23 (fun _ => .pointer (some ⟨b, 0, none⟩)) () A B row h hg hr⟩) _) (ownFrom_below (Nat.le_refl _) (by have := G.out.2.2.2.2.1; omega))))
    (fun _ _ _ _ _ hs _ _ => hs)
    ⟨⟨_, G.out.2.2.1, World.ownsRow_nil _ _ _ _, trivial⟩, ⟨(), G.out.2.1⟩, G.out.2.2.2.1⟩
    (fun x => { tmps := #[.pointer (some ⟨b, 0, none⟩), undef, .slice none 0 0, .pointer (some ⟨w.heap.size, 0, none⟩), .int .i64 (x : Int), .pointer (some ⟨b, 0, none⟩), .func (.func 40) #[] #[.pointer (some ⟨w.heap.size + 1, 0, none⟩)], .int .i64 (x : Int), .agg #[.bool true, .int .u16 (w16 (f x) : Int)], undef, undef, undef, undef, undef], defers := [] }) ?assign ?body ?done ?stop
  case assign =>
    intro l x W K hK
    dsimp only [encS]
    gi_wp2
    exact hK
  case body =>
    rintro l pre x W ⟨⟨v, hv, hrow, _⟩, ⟨_, hcb⟩, hB⟩ hlt
    have hc := hv.cell
    have hwb : w.heap.size < W.heap.size := hv.lt
    have hcl : w.heap.size + 1 < W.heap.size := hcb.lt
    have hlb := G.out.2.2.2.2.2
    gi_wp2_with (gi_at_builtin; refine wpListIn_append_own _ rfl _ _ 45 rfl w.heap.size 3 i0 (.int .i64 0) 1 8 Tryd.underlying45 hi hz0 hz1 hz2 rfl (by decide) _ _ _ rfl (hrow.alloc _) ⟨W.heap.size, 0, none⟩ 1 1 [.int .i64 (x : Int)] rfl rfl (cell_one_new _ _ _) (by simp [Value.oneCell']) (by unfold maxLen; omega) (by omega) (by have := hB.size; simp; omega) ?_; intro v' w1 hown' hgrow _; obtain ⟨g', cap', rfl⟩ := ownsRow_succ hown'; obtain ⟨hv1, hv2, hr2, hk2, hb2⟩ := hv.appended (by decide) hrow hB.size (Nat.le_refl _) hown' hgrow; have hc1 := hv1.cell; have hf1 := hv1.frozen)
    have hne := hcb.not_row (by decide) hrow
    have hc2 : Boxed w1 (w.heap.size + 1) 23 (.pointer (some ⟨b, 0, none⟩)) := (hcb.alloc _).kept hgrow hne
    have hc3 := hc2.other (B' := w.heap.size) (by omega) (.slice (some ⟨g', 0, none⟩) (pre.length + 1) cap')
    refine ⟨hk2.from _, ⟨fun k hk => ?_, ?_⟩, ⟨_, hv2, by simpa [intv] using hr2, trivial⟩, ⟨(), hc3⟩, hB.trans hb2⟩
    · rcases hk with rfl | rfl
      · exact hc3.trans hcb.symm
      · exact hb2.block _ hlb
    · exact hb2.size
  case done =>
    rintro D ys W hD hS ⟨⟨v, hv, hrow, _⟩, hcb, hB⟩ hK
    have hc := hv.cell
    gi_wp2
    refine ⟨by simp, .inl ⟨_, _, rfl, run_takeDeferred hK, ?_⟩⟩
    rw [hS] at hrow
    exact ⟨_, results_tmp rfl _ _ _, v, rfl, ownsRow_putObj hrow _ hK rfl, hB.trans (belowK_b (w := w) (Nat.le_refl _) W D _ _ (by have := G.out.2.2.2.2.1; omega) hK rfl rfl)⟩
  case stop =>
    rintro D c pre W _ _ h _
    exact h.elim
end
end Go.Proofs.YtkkjjdnlfdempaaDoor
