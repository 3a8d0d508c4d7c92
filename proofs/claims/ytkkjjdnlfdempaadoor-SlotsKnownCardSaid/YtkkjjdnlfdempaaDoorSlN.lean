/- Contracts of layer slots: a book that is none. No statement is proved here. -/
import Derived.Test.YtkkjjdnlfdempaaDoorSlW
namespace Go.Proofs.YtkkjjdnlfdempaaDoor
set_option maxRecDepth 100000
open Go.RowKit Go.Shelf
set_option linter.unusedVariables false
attribute [local go_sem] Oper.semAt_some
section
variable {W W' w : World}
theorem nmay (p : Int) (w : World) : Calls Tryd.prog 39 #[.pointer none, .int .i64 p] w fun e w' => e = .returned (.bool false) ∧ w = w' := by
  go_enter Tryd.func39, Tryd.ntmps39
  go_wp2
  go_ret
  exact ⟨rfl, rfl⟩
theorem nchange (p : Int) (v : Value) (w : World) : Calls Tryd.prog 26 #[.pointer none, .int .i64 p, v] w fun e w' => e = .returned (.bool false) ∧ w = w' := by
  have hM := Lib.hid (nmay p w)
  go_enter Tryd.func26, Tryd.ntmps26
  go_wp2_with fail
  refine hM.out.mono ?_
  rintro e w2 ⟨rfl, rfl⟩
  go_wp2
  go_ret
  exact ⟨rfl, rfl⟩
theorem nadd (p : Int) (w : World) : Calls Tryd.prog 10 #[.pointer none, .int .i64 p] w fun e w' => e = .returned (.bool false) ∧ Below w.heap.size w w' := by
  have hC := Lib.hid (fun v w => nchange p v w)
  go_enter Tryd.func10, Tryd.ntmps10
  go_wp2_with fail
  refine (hC.out _ _).mono ?_
  rintro e w2 ⟨rfl, rfl⟩
  go_wp2
  go_ret
  exact ⟨rfl, (Below.refl _ _).alloc (Nat.le_refl _) _⟩
theorem ndrop (p : Int) (w : World) : Calls Tryd.prog 16 #[.pointer none, .int .i64 p] w fun e w' => e = .returned (.bool false) ∧ Below w.heap.size w w' := by
  have hC := Lib.hid (fun v w => nchange p v w)
  go_enter Tryd.func16, Tryd.ntmps16
  go_wp2_with fail
  refine (hC.out _ _).mono ?_
  rintro e w2 ⟨rfl, rfl⟩
  go_wp2
  go_ret
  exact ⟨rfl, (Below.refl _ _).alloc (Nat.le_refl _) _⟩
theorem nput (p s : Int) (w : World) : Calls Tryd.prog 14 #[.pointer none, .int .i64 p, .int .i64 s] w fun e w' => e = .returned (.bool false) ∧ Below w.heap.size w w' := by
  have hC := Lib.hid (fun v w => nchange p v w)
  go_enter Tryd.func14, Tryd.ntmps14
  go_wp2_with fail
  refine (hC.out _ _).mono ?_
  rintro e w2 ⟨rfl, rfl⟩
  go_wp2
  go_ret
  exact ⟨rfl, ((Below.refl _ _).alloc (Nat.le_refl _) _).alloc (by simp) _⟩
theorem nwhole (p : Int) (w : World) : Calls Tryd.prog 21 #[.pointer none, .int .i64 p] w fun e w' => e = .returned (.bool false) ∧ Below w.heap.size w w' := by
  obtain ⟨S, hS0⟩ : ∃ S, S = fun w1 => Below w.heap.size w w1 := ⟨_, rfl⟩
  have hK : ∀ w1, S w1 → Below w.heap.size w w1 := fun w h => by rw [hS0] at h; exact h
  have K := Lib.hid (show S w.drew from by rw [hS0]; exact (Below.refl _ _).drew)
  have HK := Lib.hid hK
  have cM := Lib.hid (cls_call (S := S) (fun w1 hw => (nmay p w1).mono fun e w' k => ⟨k.1, by obtain ⟨_, rfl⟩ := k; exact hw⟩))
  clear hK hS0
  go_enter Tryd.func21, Tryd.ntmps21
  go_wp2_with fail
  refine region_cls S (by kernel_rfl) (by kernel_rfl) K.out ?_
  repeat (first
    | go_big_quiet_skip
    | (go_big_quiet_want
       go_big_quiet_op
       first
       | go_big_quiet_on
       | (apply Exists.intro
          refine ⟨fun y => ?_, ?_⟩
          · first | exact rfl | with_reducible exact cM.out y
          go_big_quiet_on)))
  refine wpQuiet_nil ?_
  intro y
  have hk := Lib.hid (HK.out _ y.h)
  go_wp2
  go_ret
  exact ⟨rfl, hk.out⟩
theorem ncopy (w : World) : Calls Tryd.prog 18 #[.pointer none] w fun e w' => e = .returned (.pointer none) ∧ w = w' := by
  go_enter Tryd.func18, Tryd.ntmps18
  go_wp2
  go_ret
  exact ⟨rfl, rfl⟩
theorem nall (w : World) : Calls Tryd.prog 31 #[.pointer none] w fun e w' => e = .returned (.func (.func 40) #[] #[.pointer (some ⟨w.heap.size, 0, none⟩)]) ∧
    w' = w.alloc (.cells #[.pointer none] 23) := by
  go_enter Tryd.func31, Tryd.ntmps31
  go_wp2
  go_ret
  exact ⟨rfl, rfl⟩
/-- The iterator of none goes through nothing. -/
theorem nall_stops (n : Nat) (c : Nat) (w : World) (hc : w.cell? ⟨c, 0, none⟩ = some (.pointer none)) (lc : c < w.heap.size) :
    SeqStopsK Fence.wide n Tryd.prog 40 #[.pointer (some ⟨c, 0, none⟩)] (encS fN) (fun W W' => W.heap.size ≤ W'.heap.size)
      (fun xs => xs = []) (fun _ => False) 0 w := fun l J Jx W hW hJ hJx hY h0 => by
  have k1 : W.cell? ⟨c, 0, none⟩ = some (.pointer none) := (hW.cell (p := ⟨c, 0, none⟩) lc).trans hc
  clear hc hY hJ hJx hW
  show CallsIn Fence.wide n Tryd.prog 40 #[.func (.yield l) #[] #[], .pointer (some ⟨c, 0, none⟩)] W _
  refine callsIn_of_wp Tryd.func40 rfl trivial ?_ rfl
  simp only [Tryd.ntmps40, List.size_toArray, List.length_cons, List.length_nil, Nat.reduceAdd, Nat.reduceSub, Array.replicate_succ, Array.replicate_zero, List.push_toArray, List.append_toArray, List.nil_append, List.cons_append]
  gi_wp2
  refine bodyPost_ret (results_none rfl _ _ _) rfl ?_
  exact ⟨⟨_, rfl⟩, .inl ⟨_, rfl, h0⟩⟩
set_option maxHeartbeats 2000000 in
theorem nfree (w : World) : Calls Tryd.prog 19 #[.pointer none] w fun e w' => e = .returned (.int .i64 0) ∧ Below w.heap.size w w' := by
  refine (callsIn_wide (n := 5)).1 ?_
  obtain ⟨w1, hw1⟩ : ∃ w1, w1 = w.alloc (.cells #[.int .i64 0] 3) := ⟨_, rfl⟩
  obtain ⟨w2, hw2⟩ : ∃ w2, w2 = w1.alloc (.cells #[.pointer none] 23) := ⟨_, rfl⟩
  have hs1 : w1.heap.size = w.heap.size + 1 := by rw [hw1]; simp
  have hs2 : w2.heap.size = w.heap.size + 2 := by rw [hw2, World.size_alloc, hs1]
  have bO : Boxed w2 w.heap.size 3 (.int .i64 0) := by rw [hw2, hw1]; exact (Boxed.new w _ _).alloc _
  have bN : Boxed w2 (w.heap.size + 1) 23 (.pointer none) := by rw [hw2, ← hs1]; exact Boxed.new w1 _ _
  have hb1 : Below w.heap.size w w1 := by rw [hw1]; exact (Below.refl _ w).alloc (Nat.le_refl _) _
  have hb2 : Below w.heap.size w w2 := by rw [hw2]; exact hb1.alloc hb1.size _
  have hA := Lib.hid (nall w1)
  have hw1' := Lib.hid hw1
  have hw2' := Lib.hid hw2
  have st := Lib.hid (nall_stops 4 (w.heap.size + 1) w2 bN.cell bN.lt)
  have G := Lib.hid (And.intro bO (And.intro hb2 hs2))
  clear bO bN hb1 hb2 hw1 hw2
  refine callsIn_of_wp_marks Tryd.func19 rfl trivial ?_ rfl
  simp only [Tryd.ntmps19, List.size_toArray, List.length_cons, List.length_nil, Nat.reduceAdd, Nat.reduceSub, Array.replicate_succ, Array.replicate_zero, List.push_toArray, List.append_toArray, List.nil_append, List.cons_append]
  gi_wp2_with fail
  rw [← hw1'.out]
  refine ⟨trivial, (callsIn_wide.2 hA.out).mono ?_⟩
  rintro e w3 ⟨rfl, rfl⟩
  rw [← hw2'.out, hs1]
  clear hA
  gi_wp2_with fail
  refine wpIn_rangeFunc_ownH rfl (by decide) (gf := 40) (lb := #[.pointer (some ⟨w.heap.size + 1, 0, none⟩)]) rfl trivial (enters_of Tryd.func40 (by kernel_rfl) rfl)
    st.out (fun h k => Nat.le_trans h k) (fun W' l o o' h1 h2 h3 h4 => by simp [World.putObj]) (Below.refl _ _) (fun _ => rfl)
    (fun (_ : List Nat) W' => Boxed W' w.heap.size 3 (.int .i64 0) ∧ Below w.heap.size w W')
    (fun _ _ _ => False)
    (OwnFrom.and (Own.from (fun s A B row hs hg hr => boxed_own (β := Unit) w.heap.size 3 (fun _ => .int .i64 0) () A B row hs hg hr) _) (ownFrom_below (Nat.le_refl _) (by have := G.out.2.2; omega)))
    (fun _ _ _ _ _ hs _ _ => hs)
    ⟨G.out.1, G.out.2.1⟩
    (fun _ _ _ => True)
    (fun x a' => Own.from (fun s A B row hs hg hr => trivial) _) ?assign ?body ?done ?stop
  case assign =>
    rintro l pre x W K ⟨hc, hB⟩ hK
    dsimp only [encS]
    gi_wp2
    exact hK _ _ (((KeepsOthers.refl W).trans (KeepsOthers.alloc W _)).from _) (by simp) ⟨hc.alloc _, hB.alloc hB.size _⟩ trivial
  case body =>
    intro l pre x a' W hl hr hi hx hlen
    omega
  case done =>
    rintro D ys W hD hS ⟨hc, hB⟩ hK
    have q1 := hc.cell
    have hB' := Lib.hid hB
    clear hS hc hB
    gi_wp2
    refine ⟨by simp, .inl ⟨_, _, rfl, run_takeDeferred hK, ?_⟩⟩
    exact ⟨_, results_tmp rfl _ _ _, rfl, hB'.out.trans (belowK_b (w := w) (Nat.le_refl _) W D _ _ (by have := G.out.2.2; omega) hK rfl rfl)⟩
  case stop =>
    rintro D c pre W _ _ h _
    exact h.elim
set_option maxHeartbeats 2000000 in
theorem npages (w : World) : Calls Tryd.prog 23 #[.pointer none] w fun e w' => e = .returned (.slice none 0 0) ∧ Below w.heap.size w w' := by
  refine (callsIn_wide (n := 5)).1 ?_
  obtain ⟨w1, hw1⟩ : ∃ w1, w1 = w.alloc (.cells #[.slice none 0 0] 45) := ⟨_, rfl⟩
  obtain ⟨w2, hw2⟩ : ∃ w2, w2 = w1.alloc (.cells #[.pointer none] 23) := ⟨_, rfl⟩
  have hs1 : w1.heap.size = w.heap.size + 1 := by rw [hw1]; simp
  have hs2 : w2.heap.size = w.heap.size + 2 := by rw [hw2, World.size_alloc, hs1]
  have bO : Boxed w2 w.heap.size 45 (.slice none 0 0) := by rw [hw2, hw1]; exact (Boxed.new w _ _).alloc _
  have bN : Boxed w2 (w.heap.size + 1) 23 (.pointer none) := by rw [hw2, ← hs1]; exact Boxed.new w1 _ _
  have hb1 : Below w.heap.size w w1 := by rw [hw1]; exact (Below.refl _ w).alloc (Nat.le_refl _) _
  have hb2 : Below w.heap.size w w2 := by rw [hw2]; exact hb1.alloc hb1.size _
  have hA := Lib.hid (nall w1)
  have hw1' := Lib.hid hw1
  have hw2' := Lib.hid hw2
  have st := Lib.hid (nall_stops 4 (w.heap.size + 1) w2 bN.cell bN.lt)
  have G := Lib.hid (And.intro bO (And.intro hb2 hs2))
  clear bO bN hb1 hb2 hw1 hw2
  refine callsIn_of_wp_marks Tryd.func23 rfl trivial ?_ rfl
  simp only [Tryd.ntmps23, List.size_toArray, List.length_cons, List.length_nil, Nat.reduceAdd, Nat.reduceSub, Array.replicate_succ, Array.replicate_zero, List.push_toArray, List.append_toArray, List.nil_append, List.cons_append]
  gi_wp2_with fail
  rw [← hw1'.out]
  refine ⟨trivial, (callsIn_wide.2 hA.out).mono ?_⟩
  rintro e w3 ⟨rfl, rfl⟩
  rw [← hw2'.out, hs1]
  clear hA
  gi_wp2_with fail
  refine wpIn_rangeFunc_ownH rfl (by decide) (gf := 40) (lb := #[.pointer (some ⟨w.heap.size + 1, 0, none⟩)]) rfl trivial (enters_of Tryd.func40 (by kernel_rfl) rfl)
    st.out (fun h k => Nat.le_trans h k) (fun W' l o o' h1 h2 h3 h4 => by simp [World.putObj]) (Below.refl _ _) (fun _ => rfl)
    (fun (_ : List Nat) W' => Boxed W' w.heap.size 45 (.slice none 0 0) ∧ Below w.heap.size w W')
    (fun _ _ _ => False)
    (OwnFrom.and (Own.from (fun s A B row hs hg hr => boxed_own (β := Unit) w.heap.size 45 (fun _ => .slice none 0 0) () A B row hs hg hr) _) (ownFrom_below (Nat.le_refl _) (by have := G.out.2.2; omega)))
    (fun _ _ _ _ _ hs _ _ => hs)
    ⟨G.out.1, G.out.2.1⟩
    (fun _ _ _ => True)
    (fun x a' => Own.from (fun s A B row hs hg hr => trivial) _) ?assign ?body ?done ?stop
  case assign =>
    rintro l pre x W K ⟨hc, hB⟩ hK
    dsimp only [encS]
    gi_wp2
    exact hK _ _ (KeepsFrom.refl _ _) (Nat.le_refl _) ⟨hc, hB⟩ trivial
  case body =>
    intro l pre x a' W hl hr hi hx hlen
    omega
  case done =>
    rintro D ys W hD hS ⟨hc, hB⟩ hK
    have q1 := hc.cell
    have hB' := Lib.hid hB
    clear hS hc hB
    gi_wp2
    refine ⟨by simp, .inl ⟨_, _, rfl, run_takeDeferred hK, ?_⟩⟩
    exact ⟨_, results_tmp rfl _ _ _, rfl, hB'.out.trans (belowK_b (w := w) (Nat.le_refl _) W D _ _ (by have := G.out.2.2; omega) hK rfl rfl)⟩
  case stop =>
    rintro D c pre W _ _ h _
    exact h.elim
set_option maxHeartbeats 4000000 in
theorem ntake (w : World) : Calls Tryd.prog 12 #[.pointer none] w fun e w' => e = .returned (.tuple #[.int .i64 0, .int .i64 0, .bool false]) ∧ Below w.heap.size w w' := by
  refine (callsIn_wide (n := 5)).1 ?_
  obtain ⟨D0, hD0⟩ : ∃ D : Ending → World → Prop, D = fun e w' => e = .returned (.tuple #[.int .i64 0, .int .i64 0, .bool false]) ∧ Below w.heap.size w w' := ⟨_, rfl⟩
  rw [← hD0]
  obtain ⟨w1, hw1⟩ : ∃ w1, w1 = (((w.alloc (.cells #[.pointer none] 23)).alloc (.cells #[.int .i64 0] 3)).alloc (.cells #[.int .i64 0] 3)).alloc (.cells #[.bool false] 4) := ⟨_, rfl⟩
  have hO1 : (Cel w1 w.heap.size (.pointer none) ∧ Cel w1 (w.heap.size + 1) (.int .i64 0) ∧ Cel w1 (w.heap.size + 2) (.int .i64 0) ∧ Cel w1 (w.heap.size + 3) (.bool false)) ∧ Below w.heap.size w w1 ∧ w1.heap.size = w.heap.size + 4 := by
    rw [hw1]
    obtain ⟨x1, hx1⟩ : ∃ x, x = w.alloc (.cells #[.pointer none] 23) := ⟨_, rfl⟩
    obtain ⟨x2, hx2⟩ : ∃ x, x = x1.alloc (.cells #[.int .i64 0] 3) := ⟨_, rfl⟩
    obtain ⟨x3, hx3⟩ : ∃ x, x = x2.alloc (.cells #[.int .i64 0] 3) := ⟨_, rfl⟩
    rw [← hx1, ← hx2, ← hx3]
    have k1 : Below w.heap.size w x1 := by rw [hx1]; exact (Below.refl _ _).alloc (Nat.le_refl _) _
    have k2 : Below x1.heap.size x1 x2 := by rw [hx2]; exact (Below.refl _ _).alloc (Nat.le_refl _) _
    have k3 : Below x2.heap.size x2 x3 := by rw [hx3]; exact (Below.refl _ _).alloc (Nat.le_refl _) _
    have k4 : Below x3.heap.size x3 (x3.alloc (.cells #[.bool false] 4)) := (Below.refl _ _).alloc (Nat.le_refl _) _
    have s1 : x1.heap.size = w.heap.size + 1 := by rw [hx1]; simp
    have s2 : x2.heap.size = w.heap.size + 2 := by rw [hx2, World.size_alloc, s1]
    have s3 : x3.heap.size = w.heap.size + 3 := by rw [hx3, World.size_alloc, s2]
    have c0 : Cel x1 w.heap.size (.pointer none) := by rw [hx1]; exact new_cell rfl _ rfl
    have c1 : Cel x2 (w.heap.size + 1) (.int .i64 0) := by rw [hx2]; exact new_cell rfl _ s1.symm
    have c2 : Cel x3 (w.heap.size + 2) (.int .i64 0) := by rw [hx3]; exact new_cell rfl _ s2.symm
    have c3 : Cel (x3.alloc (.cells #[.bool false] 4)) (w.heap.size + 3) (.bool false) := new_cell rfl _ s3.symm
    exact ⟨⟨((c0.grow k2).grow k3).grow k4, (c1.grow k3).grow k4, c2.grow k4, c3⟩, ((k1.trans (k2.mono (by omega))).trans (k3.mono (by omega))).trans (k4.mono (by omega)), by rw [World.size_alloc, s3]⟩
  obtain ⟨⟨o0, o1, o2, o3⟩, hb1, hs1⟩ := hO1
  obtain ⟨w2, hw2⟩ : ∃ w2, w2 = w1.alloc (.cells #[.pointer none] 23) := ⟨_, rfl⟩
  have hb2 : Below w1.heap.size w1 w2 := by rw [hw2]; exact (Below.refl _ _).alloc (Nat.le_refl _) _
  have hs2 : w2.heap.size = w.heap.size + 5 := by rw [hw2, World.size_alloc, hs1]
  have hn : w2.cell? ⟨w.heap.size + 4, 0, none⟩ = some (.pointer none) := by rw [hw2, ← hs1]; exact (new_cell rfl _ rfl).1
  have st := Lib.hid (nall_stops 4 (w.heap.size + 4) w2 hn (by omega))
  have c0 := o0.1
  have hA := Lib.hid (nall w1)
  have hw1' := Lib.hid hw1
  have hw2' := Lib.hid hw2
  have G := Lib.hid (show ((Cel w2 (w.heap.size + 1) (.int .i64 0) ∧ Cel w2 (w.heap.size + 2) (.int .i64 0)) ∧ Cel w2 (w.heap.size + 3) (.bool false)) ∧ Below w.heap.size w w2 ∧ w2.heap.size = w.heap.size + 5 from ⟨⟨⟨o1.grow hb2, o2.grow hb2⟩, o3.grow hb2⟩, hb1.trans (hb2.mono (by omega)), hs2⟩)
  have hD0' := Lib.hid hD0
  clear hb1 hb2 o0 o1 o2 o3 hw1 hw2 hn hD0
  refine callsIn_of_wp_marks Tryd.func12 rfl trivial ?_ rfl
  simp only [Tryd.ntmps12, List.size_toArray, List.length_cons, List.length_nil, Nat.reduceAdd, Nat.reduceSub, Array.replicate_succ, Array.replicate_zero, List.push_toArray, List.append_toArray, List.nil_append, List.cons_append]
  rw [hw1'.out] at c0
  gi_wp2_with fail
  rw [← hw1'.out]
  refine ⟨trivial, (callsIn_wide.2 hA.out).mono ?_⟩
  rintro e w3 ⟨rfl, rfl⟩
  rw [← hw2'.out, hs1]
  clear hA c0
  gi_wp2_with fail
  simp only [Nat.add_assoc, Nat.reduceAdd]
  refine wpIn_rangeFunc_ownH rfl (by decide) (gf := 40) (lb := #[.pointer (some ⟨w.heap.size + 4, 0, none⟩)]) rfl trivial (enters_of Tryd.func40 (by kernel_rfl) rfl)
    st.out (fun h k => Nat.le_trans h k) (fun W' l o o' h1 h2 h3 h4 => by simp [World.putObj]) (Below.refl _ _) (fun _ => rfl)
    (fun (_ : List Nat) W' => ((Cel W' (w.heap.size + 1) (.int .i64 0) ∧ Cel W' (w.heap.size + 2) (.int .i64 0)) ∧ Cel W' (w.heap.size + 3) (.bool false)) ∧ Below w.heap.size w W')
    (fun _ _ _ => False)
    (OwnFrom.and (Own.from (fun s A B row hs hg hr => ⟨⟨hs.1.1.kept hg hr, hs.1.2.kept hg hr⟩, hs.2.kept hg hr⟩) _) (ownFrom_below (Nat.le_refl _) (by have := G.out.2.2; omega)))
    (fun _ _ _ _ _ hs _ _ => hs)
    ⟨G.out.1, G.out.2.1⟩
    (fun _ _ _ => True)
    (fun x a' => Own.from (fun s A B row hs hg hr => trivial) _) ?assign ?body ?done ?stop
  case assign =>
    rintro l pre x W K ⟨hc, hB⟩ hK
    dsimp only [encS]
    gi_wp2
    have hb : Below W.heap.size W (W.alloc (.cells #[.bool true, .int .u16 (w16 (fN x) : Int)] 59)) := (Below.refl _ _).alloc (Nat.le_refl _) _
    exact hK _ _ (((KeepsOthers.refl W).trans (KeepsOthers.alloc W _)).from _) hb.size ⟨⟨⟨hc.1.1.grow hb, hc.1.2.grow hb⟩, hc.2.grow hb⟩, hB.alloc hB.size _⟩ trivial
  case body =>
    intro l pre x a' W hl hr hi hx hlen
    omega
  case done =>
    rintro D ys W hD hS ⟨⟨⟨o1, o2⟩, o3⟩, hB⟩ hK
    have q1 := o1.1
    have q2 := o2.1
    have q3 := o3.1
    have p1 := o1.2
    have p2 := o2.2
    have p3 := o3.2
    have hL1 := ((o1.set (.int .i64 0)).far (r := w.heap.size + 2) (by omega) 0 (.int .i64 0)).far (r := w.heap.size + 3) (by omega) 0 (.bool false)
    have hL2 := ((o2.far (r := w.heap.size + 1) (by omega) 0 (.int .i64 0)).set (.int .i64 0)).far (r := w.heap.size + 3) (by omega) 0 (.bool false)
    have hL3 := ((o3.far (r := w.heap.size + 1) (by omega) 0 (.int .i64 0)).far (r := w.heap.size + 2) (by omega) 0 (.int .i64 0)).set (.bool false)
    have hK3 : (lay3 w.heap.size (.int .i64 0) (.int .i64 0) (.bool false) W).heap[D]? = some (.deferred (some [])) := (lay3_keeps w.heap.size (.int .i64 0) (.int .i64 0) (.bool false) W).same D _ hK rfl
    have E := Lib.hid (And.intro hL1 (And.intro hL2 (And.intro hL3 (And.intro (lay3_below hB (.int .i64 0) (.int .i64 0) (.bool false)) hK3))))
    clear hK hL1 hL2 hL3 hS hK3 hB o1 o2 o3
    gi_wp2
    refine ⟨by simp, .inl ⟨_, _, rfl, run_takeDeferred E.out.2.2.2.2, ?_⟩⟩
    have kk : ∀ {q : Nat} {v : Value}, Cel (lay3 w.heap.size (.int .i64 0) (.int .i64 0) (.bool false) W) q v → Cel ((lay3 w.heap.size (.int .i64 0) (.int .i64 0) (.bool false) W).putObj D (.deferred none)) q v := fun h => h.kept (grownBy_putObj' _ D _) (fun r e => by cases e; exact ⟨_, E.out.2.2.2.2, rfl⟩)
    refine ⟨_, res_three Tryd.results12 rfl rfl rfl (load_int (kk E.out.1).1) (load_int (kk E.out.2.1).1) (load_bool (kk E.out.2.2.1).1), ?_⟩
    rw [hD0'.out]
    exact ⟨rfl, E.out.2.2.2.1.trans (belowK_b (w := w) (Nat.le_refl _) _ D _ _ (by have := G.out.2.2; omega) E.out.2.2.2.2 rfl rfl)⟩
  case stop =>
    rintro D c pre W _ _ h _
    exact h.elim
end
end Go.Proofs.YtkkjjdnlfdempaaDoor
