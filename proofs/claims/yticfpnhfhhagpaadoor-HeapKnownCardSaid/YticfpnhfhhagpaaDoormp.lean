/- Contracts of layer slots: Pages. No statement is proved here.; Contracts of layer slots: Take. No statement is proved here.; Contracts of layer slots: Take. No statement is proved here.; Contracts of layer slots: a book of one's own; works. No statement is proved here. -/
import Derived.Test.YticfpnhfhhagpaaDoormo
import Derived.Maps.AppendAt
namespace Go.Proofs.YticfpnhfhhagpaaDoor
set_option maxRecDepth 100000
open Go.RowKit Go.Shelf
set_option linter.unusedVariables false
attribute [local go_sem] Oper.semAt_some
section
variable {W W' w : World} {b per c d : Nat} {g : Nat → Bool} {f : Nat → Nat → Bool}
def intv (x : Nat) : Value := .int .i64 (x : Int)
/-- A call has handed back a list of numbers, in a row of its own. -/
def ListPost (w : World) (lst : List Nat) (e : Ending) (w' : World) : Prop :=
  ∃ v, e = .returned v ∧ w'.ownsRow w.heap.size 3 1 v lst.length (lst.map intv) ∧ Below w.heap.size w w'
theorem infoInt : (Tryd.prog.info? 3).map (fun i => (i.zero, i.size, i.bytes)) = some (some (.int .i64 0), 1, 8) := by kernel_rfl
theorem all_w (w : World) (b : Nat) : Calls Tryd.prog 56 #[.pointer (some ⟨b, 0, none⟩)] w fun e w' => e = .returned (.func (.func 77) #[] #[.pointer (some ⟨w.heap.size, 0, none⟩)]) ∧
    w' = w.alloc (.cells #[.pointer (some ⟨b, 0, none⟩)] 52) := by
  go_enter Tryd.func56, Tryd.ntmps56
  go_wp2
  go_ret
  exact ⟨rfl, rfl⟩
end
end Go.Proofs.YticfpnhfhhagpaaDoor
namespace Go.Proofs.YticfpnhfhhagpaaDoor
set_option maxRecDepth 100000
open Go.RowKit Go.Shelf
set_option linter.unusedVariables false
attribute [local go_sem] Oper.semAt_some
/-- The least slot of the least page that has one. -/
structure Least (f : Nat → Nat → Bool) (p s : Nat) : Prop where
  is : f p s = true
  pg : ∀ q t, q < p → f q t = false
  sl : ∀ t, t < s → f p t = false
theorem pairwise_setL (g : Nat → Bool) (n : Nat) : (setL g n).Pairwise (· < ·) := List.Pairwise.filter _ List.pairwise_lt_range
/-- Of a first part of the rising list: what is set and below its last lies in it. -/
theorem prefix_below {g : Nat → Bool} {n : Nat} {pre : List Nat} {x : Nat} (h : pre ++ [x] <+: setL g n) {q : Nat} (hq : g q = true) (hlt : q < x) : q ∈ pre := by
  obtain ⟨r, hr⟩ := h
  have hp := pairwise_setL g n
  have hx : x ∈ setL g n := by rw [← hr]; simp
  have hm : q ∈ setL g n := setL_mem.2 ⟨by have := (setL_mem.1 hx).1; omega, hq⟩
  rw [← hr] at hm hp
  rw [List.append_assoc] at hm hp
  rcases List.mem_append.1 hm with h1 | h1
  · exact h1
  · have h2 := (List.pairwise_append.1 hp).2.1
    rcases List.mem_cons.1 h1 with rfl | h3
    · omega
    · have := (List.pairwise_cons.1 h2).1 q h3
      omega
theorem low_exists (h : Nat → Bool) (h0 : w16 h ≠ 0) : ∃ s, s < 16 ∧ h s = true ∧ ∀ t, t < s → h t = false := by
  by_cases hn : ∀ k, k ≤ 16 → ∀ t, t < k → h t = false
  · exact absurd (w16_zero.2 fun j hj => hn 16 (Nat.le_refl _) j hj) h0
  · have : ∃ k, k < 16 ∧ h k = true := by
      rcases Classical.em (∃ k, k < 16 ∧ h k = true) with h1 | h1
      · exact h1
      · refine absurd (w16_zero.2 fun j hj => ?_) h0
        rcases hv : h j with _ | _
        · rfl
        · exact absurd ⟨j, hj, hv⟩ h1
    obtain ⟨k, hk, hv⟩ := this
    clear hn h0
    induction k using Nat.strongRecOn with
    | _ k ih =>
      rcases Classical.em (∃ t, t < k ∧ h t = true) with ⟨t, ht, hv'⟩ | hno
      · exact ih t ht (by omega) hv'
      · refine ⟨k, hk, hv, fun t ht => ?_⟩
        rcases hv' : h t with _ | _
        · rfl
        · exact absurd ⟨t, ht, hv'⟩ hno
section
variable {W W' w : World} {b per c d n : Nat} {g : Nat → Bool} {f f' : Nat → Nat → Bool}
theorem Off.kept {B : Nat} {row : Option Nat} (h : Off n b w W) (hg : W.grownBy W' row) (hr : ∀ r, row = some r → B ≤ r ∧ ∃ o : Obj, W.heap[r]? = some o ∧ o.isCells = false) (hB : n ≤ B) (hn : n ≤ w.heap.size) : Off n b w W' :=
  ⟨hg.os.trans h.os, hg.tape.trans h.tape, hg.output.trans h.output, Nat.le_trans h.size hg.size, fun k hk hne => (hg.block k (by have := h.size; omega) (fun e => by have := (hr k e.symm).1; omega)).trans (h.block k hk hne)⟩
theorem BookAt.kept {row : Option Nat} (h : BookAt W b per g f) (hg : W.grownBy W' row) (hr : ∀ r, row = some r → ∃ o : Obj, W.heap[r]? = some o ∧ o.isCells = false) : BookAt W' b per g f :=
  ⟨fun i hi => ⟨cell_kept (h.cs i hi).1 hg hr, (frozen_kept (h.cs i hi).1 hg hr).trans (h.cs i hi).2⟩, h.lo, h.ok, h.gl, Nat.lt_of_lt_of_le h.lb hg.size⟩
theorem keeps_off {B : Nat} (h : Off W.heap.size b W W') (hb : b < B) : KeepsFrom B W W' :=
  ⟨h.size, fun k o hk ho _ => (h.block k (Array.getElem?_eq_some_iff.1 ho).1 (by omega)).trans ho⟩
/-- Cells with what they hold, to be written. -/
def Cel (W : World) (q : Nat) (v : Value) : Prop := W.cell? ⟨q, 0, none⟩ = some v ∧ W.frozen? ⟨q, 0, none⟩ = false
theorem Cel.kept {q : Nat} {v : Value} {row : Option Nat} (h : Cel W q v) (hg : W.grownBy W' row) (hr : ∀ r, row = some r → ∃ o : Obj, W.heap[r]? = some o ∧ o.isCells = false) : Cel W' q v := ⟨cell_kept h.1 hg hr, (frozen_kept h.1 hg hr).trans h.2⟩
theorem Cel.lt {q : Nat} {v : Value} (h : Cel W q v) : q < W.heap.size := lt_of_cell' h.1
theorem Cel.grow {q : Nat} {v : Value} (h : Cel W q v) (k : Below W.heap.size W W') : Cel W' q v := ⟨(k.cell (p := ⟨q, 0, none⟩) h.lt).trans h.1, (k.frozen (p := ⟨q, 0, none⟩) h.lt).trans h.2⟩
theorem Cel.set {q : Nat} {v : Value} (h : Cel W q v) (u : Value) : Cel (W.setCell ⟨q, 0, none⟩ u) q u := ⟨World.cell?_setCell_same' _ _ _ (by rw [h.1]; rfl), (World.frozen?_setCell _ _ _ _).trans h.2⟩
theorem Cel.far {q r : Nat} {v : Value} (h : Cel W q v) (hn : q ≠ r) (j : Nat) (u : Value) : Cel (W.setCell ⟨r, j, none⟩ u) q v :=
  ⟨by rw [World.cell?_setCell_other _ _ _ _ (fun e => hn (by simpa using (congrArg Addr.block e).symm))]; exact h.1, (World.frozen?_setCell _ _ _ _).trans h.2⟩
theorem Cel.off {q r : Nat} {v : Value} (h : Cel W q v) (k : Off W.heap.size r W W') (hn : q ≠ r) : Cel W' q v := ⟨(k.cell (p := ⟨q, 0, none⟩) h.lt hn).trans h.1, (k.frozen (p := ⟨q, 0, none⟩) h.lt hn).trans h.2⟩
/-- Take's own boxes: the book's, the page's, the slot's, whether there is one. -/
structure Own4 (q b : Nat) (x y : Value) (z : Value) (W : World) : Prop where
  c0 : Cel W q (.pointer (some ⟨b, 0, none⟩))
  c1 : Cel W (q + 1) x
  c2 : Cel W (q + 2) y
  c3 : Cel W (q + 3) z
theorem Own4.kept {q : Nat} {x y z : Value} {row : Option Nat} (h : Own4 q b x y z W) (hg : W.grownBy W' row) (hr : ∀ r, row = some r → ∃ o : Obj, W.heap[r]? = some o ∧ o.isCells = false) : Own4 q b x y z W' :=
  ⟨h.c0.kept hg hr, h.c1.kept hg hr, h.c2.kept hg hr, h.c3.kept hg hr⟩
theorem Own4.grow {q : Nat} {x y z : Value} (h : Own4 q b x y z W) (k : Below W.heap.size W W') : Own4 q b x y z W' := ⟨h.c0.grow k, h.c1.grow k, h.c2.grow k, h.c3.grow k⟩
theorem Own4.off {q : Nat} {x y z : Value} (h : Own4 q b x y z W) (k : Off W.heap.size b W W') (hb : b < q) : Own4 q b x y z W' := ⟨h.c0.off k (by omega), h.c1.off k (by omega), h.c2.off k (by omega), h.c3.off k (by omega)⟩
/-- What holds between two rounds of Take's loop. -/
structure TakeI (w : World) (N b : Nat) (f : Nat → Nat → Bool) (pre : List Nat) (W : World) : Prop where
  o : Own4 w.heap.size b (.int .i64 0) (.int .i64 0) (.bool false) W
  bl : Below w.heap.size w W
  z : ∀ p ∈ pre, w16 (f p) = 0
  sz : N ≤ W.heap.size
/-- What holds where Take has found a slot. -/
structure TakeX (w : World) (b per : Nat) (g : Nat → Bool) (f : Nat → Nat → Bool) (xs : List Nat) (pre : List Nat) (x s : Nat) (W : World) : Prop where
  e : xs = pre ++ [x]
  z : ∀ p ∈ pre, w16 (f p) = 0
  is : f x s = true
  sl : ∀ t, t < s → f x t = false
  k : BookAt W b per g (upd2 f x s false)
  off : Off w.heap.size b w W
  o : Own4 w.heap.size b (.int .i64 (x : Int)) (.int .i64 (s : Int)) (.bool true) W
def TakePost (b per : Nat) (g : Nat → Bool) (f : Nat → Nat → Bool) (w : World) (e : Ending) (w' : World) : Prop :=
  ((∀ p s, f p s = false) ∧ e = .returned (.tuple #[.int .i64 0, .int .i64 0, .bool false]) ∧ Below w.heap.size w w') ∨
  ∃ p s, Least f p s ∧ BNext b per g (upd2 f p s false) w (.tuple #[.int .i64 (p : Int), .int .i64 (s : Int), .bool true]) e w'
theorem load_int {q : Nat} {v : Value} (h : W.cell? ⟨q, 0, none⟩ = some v) : (loadVar 3 ⟨q, 0, none⟩).run Tryd.prog W = .ok v W := by
  have ia : ∀ w, (isAgg 3).run Tryd.prog w = .ok false w := fun w => by kernel_rfl
  simp only [loadVar, Sem.run_bind, ia, Result.andThen, Bool.false_eq_true, if_false, run_load, h]
theorem load_bool {q : Nat} {v : Value} (h : W.cell? ⟨q, 0, none⟩ = some v) : (loadVar 4 ⟨q, 0, none⟩).run Tryd.prog W = .ok v W := by
  have ia : ∀ w, (isAgg 4).run Tryd.prog w = .ok false w := fun w => by kernel_rfl
  simp only [loadVar, Sem.run_bind, ia, Result.andThen, Bool.false_eq_true, if_false, run_load, h]
theorem res_three {P : Program} {fn : Func} {p q r : Tmp} {tp tq tr : TypeId} (h : fn.results = #[.cell p tp, .cell q tq, .cell r tr]) {tmps : Array Value} {a0 a1 a2 : Nat} {v0 v1 v2 : Value}
    (h0 : tmps.getD p undef = .pointer (some ⟨a0, 0, none⟩)) (h1 : tmps.getD q undef = .pointer (some ⟨a1, 0, none⟩)) (h2 : tmps.getD r undef = .pointer (some ⟨a2, 0, none⟩))
    (l0 : (loadVar tp ⟨a0, 0, none⟩).run P w = .ok v0 w) (l1 : (loadVar tq ⟨a1, 0, none⟩).run P w = .ok v1 w) (l2 : (loadVar tr ⟨a2, 0, none⟩).run P w = .ok v2 w) : (results fn tmps).run P w = .ok (.tuple #[v0, v1, v2]) w := by
  have h0' : tmps[p]?.getD undef = .pointer (some ⟨a0, 0, none⟩) := by simpa using h0
  have h1' : tmps[q]?.getD undef = .pointer (some ⟨a1, 0, none⟩) := by simpa using h1
  have h2' : tmps[r]?.getD undef = .pointer (some ⟨a2, 0, none⟩) := by simpa using h2
  simp [results, h, asAddr, h0', h1', h2', l0, l1, l2]
end
end Go.Proofs.YticfpnhfhhagpaaDoor
namespace Go.Proofs.YticfpnhfhhagpaaDoor
set_option maxRecDepth 100000
open Go.RowKit Go.Shelf
set_option linter.unusedVariables false
attribute [local go_sem] Oper.semAt_some
section
variable {W W' w : World} {b per c d n : Nat} {g : Nat → Bool} {f f' : Nat → Nat → Bool}
/-- Take's three answers are laid. -/
def lay3 (q : Nat) (u0 u1 u2 : Value) (W : World) : World := ((W.setCell ⟨q + 1, 0, none⟩ u0).setCell ⟨q + 2, 0, none⟩ u1).setCell ⟨q + 3, 0, none⟩ u2
theorem lay3_own {q : Nat} {x y z : Value} (h : Own4 q b x y z W) (u0 u1 u2 : Value) : Own4 q b u0 u1 u2 (lay3 q u0 u1 u2 W) :=
  ⟨((h.c0.far (by omega) _ _).far (by omega) _ _).far (by omega) _ _, ((h.c1.set _).far (by omega) _ _).far (by omega) _ _, ((h.c2.far (by omega) _ _).set _).far (by omega) _ _, ((h.c3.far (by omega) _ _).far (by omega) _ _).set _⟩
theorem lay3_below {q : Nat} (h : Below q w W) (u0 u1 u2 : Value) : Below q w (lay3 q u0 u1 u2 W) :=
  ((h.setCell (p := ⟨q + 1, 0, none⟩) (by show q ≤ q + 1; omega) u0).setCell (p := ⟨q + 2, 0, none⟩) (by show q ≤ q + 2; omega) u1).setCell (p := ⟨q + 3, 0, none⟩) (by show q ≤ q + 3; omega) u2
theorem lay3_keeps (q : Nat) (u0 u1 u2 : Value) (W : World) : KeepsOthers W (lay3 q u0 u1 u2 W) := ((KeepsOthers.setCell _ _ _).trans (KeepsOthers.setCell _ _ _)).trans (KeepsOthers.setCell _ _ _)
theorem lay3_drew {q : Nat} {x y z : Value} (h : Own4 q b x y z W) : Own4 q b x y z W.drew := ⟨h.c0, h.c1, h.c2, h.c3⟩
/-- The answer, read off its boxes, when the rounds' deferred calls are done with. -/
theorem ans3 {fn : Func} (hr : fn.results = #[.cell 2 3, .cell 3 3, .cell 4 4]) {tmps : Array Value} {q D : Nat} {u0 u1 u2 : Value} (h : Own4 q b u0 u1 u2 W) (hD : W.heap[D]? = some (.deferred (some []))) (o' : Obj)
    (h0 : tmps.getD 2 undef = .pointer (some ⟨q + 1, 0, none⟩)) (h1 : tmps.getD 3 undef = .pointer (some ⟨q + 2, 0, none⟩)) (h2 : tmps.getD 4 undef = .pointer (some ⟨q + 3, 0, none⟩)) :
    (results fn tmps).run Tryd.prog (W.putObj D o') = .ok (.tuple #[u0, u1, u2]) (W.putObj D o') := by
  have k : Own4 q b u0 u1 u2 (W.putObj D o') := h.kept (grownBy_putObj' W D o') (fun r e => by cases e; exact ⟨_, hD, rfl⟩)
  exact res_three hr h0 h1 h2 (load_int k.c1.1) (load_int k.c2.1) (load_bool k.c3.1)
theorem tab_grow {g : Nat} {tab : List Nat} (h : TabAt g tab w) (k : Below w.heap.size w W) : TabAt g tab W := fun j hj => (k.cell (p := ⟨g, j, none⟩) (lt_of_cell' (h j hj))).trans (h j hj)
set_option maxHeartbeats 4000000 in
theorem take_any (H : BookAt w b per g f) (hT : TabAt 0 Lib.deBruijn32tab w) : Calls Tryd.prog 68 #[.pointer (some ⟨b, 0, none⟩)] w (TakePost b per g f w) := by
  refine (callsIn_wide (n := 5)).1 ?_
  obtain ⟨D0, hD0⟩ : ∃ D, D = TakePost b per g f w := ⟨_, rfl⟩
  rw [← hD0]
  obtain ⟨w1, hw1⟩ : ∃ w1, w1 = (((w.alloc (.cells #[.pointer (some ⟨b, 0, none⟩)] 52)).alloc (.cells #[.int .i64 0] 3)).alloc (.cells #[.int .i64 0] 3)).alloc (.cells #[.bool false] 4) := ⟨_, rfl⟩
  have hO1 : Own4 w.heap.size b (.int .i64 0) (.int .i64 0) (.bool false) w1 ∧ Below w.heap.size w w1 ∧ w1.heap.size = w.heap.size + 4 := by
    rw [hw1]
    obtain ⟨x1, hx1⟩ : ∃ x, x = w.alloc (.cells #[.pointer (some ⟨b, 0, none⟩)] 52) := ⟨_, rfl⟩
    obtain ⟨x2, hx2⟩ : ∃ x, x = x1.alloc (.cells #[.int .i64 0] 3) := ⟨_, rfl⟩
    obtain ⟨x3, hx3⟩ : ∃ x, x = x2.alloc (.cells #[.int .i64 0] 3) := ⟨_, rfl⟩
    rw [← hx1, ← hx2, ← hx3]
    have k1 : Below w.heap.size w x1 := by rw [hx1]; exact (Below.refl _ _).alloc (Nat.le_refl _) _
    have k2 : Below x1.heap.size x1 x2 := by rw [hx2]; exact (Below.refl _ _).alloc (Nat.le_refl _) _
    have k3 : Below x2.heap.size x2 x3 := by rw [hx3]; exact (Below.refl _ _).alloc (Nat.le_refl _) _
    have k4 : Below x3.heap.size x3 (x3.alloc (.cells #[.bool false] 4)) := (Below.refl _ _).alloc (Nat.le_refl _) _
    have s1 : x1.heap.size = w.heap.size + 1 := by rw [hx1]; simp
    have s2 : x2.heap.size = w.heap.size + 2 := by rw [hx2, World.size_alloc, s1]
    have s3 : x3.heap.size = w.heap.size + 3 := by rw [hx3, World.size_alloc, s2]
    have c0 : Cel x1 w.heap.size (.pointer (some ⟨b, 0, none⟩)) := by rw [hx1]; exact new_cell rfl _ rfl
    have c1 : Cel x2 (w.heap.size + 1) (.int .i64 0) := by rw [hx2]; exact new_cell rfl _ s1.symm
    have c2 : Cel x3 (w.heap.size + 2) (.int .i64 0) := by rw [hx3]; exact new_cell rfl _ s2.symm
    have c3 : Cel (x3.alloc (.cells #[.bool false] 4)) (w.heap.size + 3) (.bool false) := new_cell rfl _ s3.symm
    exact ⟨⟨((c0.grow k2).grow k3).grow k4, (c1.grow k3).grow k4, c2.grow k4, c3⟩, ((k1.trans (k2.mono (by omega))).trans (k3.mono (by omega))).trans (k4.mono (by omega)), by rw [World.size_alloc, s3]⟩
  obtain ⟨hO1, hb1, hs1⟩ := hO1
  obtain ⟨w2, hw2⟩ : ∃ w2, w2 = w1.alloc (.cells #[.pointer (some ⟨b, 0, none⟩)] 52) := ⟨_, rfl⟩
  have hb2 : Below w1.heap.size w1 w2 := by rw [hw2]; exact (Below.refl _ _).alloc (Nat.le_refl _) _
  have hs2 : w2.heap.size = w.heap.size + 5 := by rw [hw2, World.size_alloc, hs1]
  have hL : Led w2 (w.heap.size + 4) b per g f := ⟨(H.grow hb1).grow hb2, by rw [hw2, ← hs1]; exact (new_cell rfl _ rfl).1, by omega⟩
  have hI : TakeI w w2.heap.size b f [] w2 := ⟨hO1.grow hb2, hb1.trans (hb2.mono (by omega)), fun p hp => (by cases hp), Nat.le_refl _⟩
  have c0 := hO1.c0.1
  have hA := Lib.hid (all_w w1 b)
  have hw1' := Lib.hid hw1
  have hw2' := Lib.hid hw2
  have G := Lib.hid (And.intro hL (And.intro hI (And.intro hs2 H)))
  have st := Lib.hid (all_stops 4 (by omega) (w.heap.size + 4) b per g f w2 hL)
  have hTb := Lib.hid hT
  have hD0' := Lib.hid hD0
  clear H hb1 hb2 hL hO1 hI hw1 hw2 hT hD0
  refine callsIn_of_wp_marks Tryd.func68 rfl trivial ?_ rfl
  simp only [Tryd.ntmps68, List.size_toArray, List.length_cons, List.length_nil, Nat.reduceAdd, Nat.reduceSub, Array.replicate_succ, Array.replicate_zero, List.push_toArray, List.append_toArray, List.nil_append, List.cons_append]
  rw [hw1'.out] at c0
  gi_wp2_with fail
  rw [← hw1'.out]
  refine ⟨trivial, (callsIn_wide.2 hA.out).mono ?_⟩
  rintro e w3 ⟨rfl, rfl⟩
  rw [← hw2'.out, hs1]
  clear hA c0
  gi_wp2_with fail
  simp only [Nat.add_assoc, Nat.reduceAdd]
  refine wpIn_rangeFunc_ownH rfl (by decide) (gf := 77) (lb := #[.pointer (some ⟨w.heap.size + 4, 0, none⟩)]) rfl trivial (enters_of Tryd.func77 (by kernel_rfl) rfl)
    st.out (fun h k => ⟨h.1.trans k.1, Nat.le_trans h.2 k.2⟩) (fun W' l o o' h1 h2 h3 h4 => ⟨KpB.put (w := w2) G.out.1.l G.out.1.k.lb W' l o o' h1 h2 h3 h4, by simp [World.putObj]⟩) (Below.refl _ _) (fun _ => rfl)
    (fun pre W' => TakeI w w2.heap.size b f pre W')
    (fun c xs W' => c = .ret ∧ ∃ pre x s, TakeX w b per g f xs pre x s W')
    (fun s A B row hs hg hr => ⟨hs.o.kept hg (fun r e => (hr r e).2), ownFrom_below (β := Unit) (Nat.le_refl _) (by have := G.out.2.2.1; omega) () A B row hs.bl hg hr, hs.z, Nat.le_trans hs.sz hg.size⟩)
    (fun c s A B row hs hg hr => by
      obtain ⟨e, pre, x, s, h⟩ := hs
      exact ⟨e, pre, x, s, h.e, h.z, h.is, h.sl, h.k.kept hg (fun r e => (hr r e).2), h.off.kept hg hr (by have := G.out.2.2.1; omega) (Nat.le_refl _), h.o.kept hg (fun r e => (hr r e).2)⟩)
    G.out.2.1
    (fun x a' W' => ∃ q, (w2.heap.size ≤ q ∧ a' = { tmps := #[.pointer (some ⟨b, 0, none⟩), .pointer (some ⟨w.heap.size, 0, none⟩), .pointer (some ⟨w.heap.size + 1, 0, none⟩), .pointer (some ⟨w.heap.size + 2, 0, none⟩), .pointer (some ⟨w.heap.size + 3, 0, none⟩), .int .i64 (x : Int), .pointer (some ⟨q, 0, none⟩), .pointer (some ⟨b, 0, none⟩), .func (.func 77) #[] #[.pointer (some ⟨w.heap.size + 4, 0, none⟩)], .int .i64 (x : Int), .agg #[.bool true, .int .u16 (w16 (f x) : Int)], undef, undef, undef, undef, undef, undef, undef, undef, undef, undef, undef, undef], defers := [] }) ∧ LeafAt q x f W')
    (fun x a' => Own.from (fun s A B row hs hg hr => by obtain ⟨q, h1, h2⟩ := hs; exact ⟨q, h1, h2.kept hg hr⟩) _) ?assign ?body ?done ?stop
  case assign =>
    rintro l pre x W K hc hK
    dsimp only [encS]
    have hN := Lib.hid (LeafAt.new W x f)
    gi_wp2
    refine hK _ _ (((KeepsOthers.refl W).trans (KeepsOthers.alloc W _)).from _) ?_ ?_ ?_
    · have hb : Below W.heap.size W (W.alloc (.cells #[.bool true, .int .u16 (w16 (f x) : Int)] 89)) := (Below.refl _ _).alloc (Nat.le_refl _) _
      exact ⟨KpB.of_below hb (by have := hc.sz; have := G.out.1.l; omega) (by have := hc.sz; have := G.out.1.k.lb; omega), hb.size⟩
    · have hb : Below W.heap.size W (W.alloc (.cells #[.bool true, .int .u16 (w16 (f x) : Int)] 89)) := (Below.refl _ _).alloc (Nat.le_refl _) _
      exact ⟨hc.o.grow hb, hc.bl.trans (hb.mono hc.bl.size), hc.z, Nat.le_trans hc.sz hb.size⟩
    · exact ⟨_, ⟨hc.sz, rfl⟩, hN.out⟩
  case body =>
    rintro l pre x a' W hl hr hc ⟨q, ⟨hq, rfl⟩, hF⟩ hlen
    by_cases hz : w16 (f x) = 0
    · have n0 := hF.2
      rw [hz] at n0
      rw [hz]
      have hc' := Lib.hid hc
      have hz' := Lib.hid hz
      clear hc hF hz hr
      gi_wp2
      refine ⟨KeepsFrom.refl _ _, ⟨KpB.refl _ _ _, Nat.le_refl _⟩, hc'.out.o, hc'.out.bl, fun p hp => ?_, hc'.out.sz⟩
      rcases List.mem_append.1 hp with h | h
      · exact hc'.out.z p h
      · rw [List.mem_singleton.1 h]; exact hz'.out
    · obtain ⟨s, hs, h1, h2⟩ := low_exists (f x) hz
      have hgx := (G.out.2.2.2.ok x s h1).1
      have hx := G.out.2.2.2.gl x hgx
      have n0 := hF.2
      have hz0 : ((w16 (f x) : Int) == 0) = false := by simp; omega
      have hTz := Lib.hid (tz16 (f x) s W hs h1 h2 (tab_grow hTb.out hc.bl))
      have c0 := hc.o.c0.1
      have c2 := hc.o.c2.1
      have f2 := hc.o.c2.2
      obtain ⟨W5, hW5⟩ : ∃ W5, W5 = W.setCell ⟨w.heap.size + 2, 0, none⟩ (.int .i64 (s : Int)) := ⟨_, rfl⟩
      have o5 : Own4 w.heap.size b (.int .i64 0) (.int .i64 (s : Int)) (.bool false) W5 := by rw [hW5]; exact ⟨hc.o.c0.far (by omega) _ _, hc.o.c1.far (by omega) _ _, hc.o.c2.set _, hc.o.c3.far (by omega) _ _⟩
      have b5 : Below w.heap.size w W5 := by rw [hW5]; exact hc.bl.setCell (p := ⟨w.heap.size + 2, 0, none⟩) (by show w.heap.size ≤ w.heap.size + 2; omega) _
      have k5 : KeepsOthers W W5 := by rw [hW5]; exact KeepsOthers.setCell _ _ _
      have hC := (change_in (G.out.2.2.2.grow b5) x hx 85 #[.pointer (some ⟨w.heap.size + 2, 0, none⟩)] (enters_of Tryd.func85 (by kernel_rfl) rfl) (g x) (upd (f x) s false) true
        (fun _ t ht => by
          by_cases e : t = s
          · rw [e, upd_same] at ht; cases ht
          · rw [upd_ne _ _ e] at ht; exact G.out.2.2.2.ok x t ht) (take1 s hs ⟨o5.c2.1, o5.c2.lt⟩ (g x) (f x)))
      simp only [if_true, upd_self, ← upd2_updP] at hC
      have hC := Lib.hid hC
      have N := Lib.hid (And.intro o5 (And.intro b5 (And.intro k5 (And.intro hc.z (And.intro h1 h2)))))
      clear hc hF hr h1 h2 hgx b5 k5
      gi_wp2_with fail
      refine ⟨trivial, (CallsIn.inRound l (callsIn_wide.2 hTz.out)).mono ?_⟩
      rintro e w' ⟨rfl, rfl⟩
      have c5 : (W.setCell ⟨w.heap.size + 2, 0, none⟩ (.int .i64 (s : Int))).cell? ⟨w.heap.size, 0, none⟩ = some (.pointer (some ⟨b, 0, none⟩)) := by rw [← hW5]; exact o5.c0.1
      clear hTz n0 c0
      gi_wp2_with fail
      rw [← hW5]
      refine ⟨trivial, (CallsIn.inRound l (callsIn_wide.2 hC.out)).mono ?_⟩
      rintro e w6 ⟨rfl, hK6, hO6⟩
      have o6 := N.out.1.off hO6 G.out.2.2.2.lb
      have q1 := o6.c1.1
      have q2 := o6.c2.1
      have q3 := o6.c3.1
      have p1 := o6.c1.2
      have p2 := o6.c2.2
      have p3 := o6.c3.2
      have E := Lib.hid (And.intro hK6 (And.intro hO6 o6))
      clear hK6 hO6 o6 o5 hC c5 c2 f2
      gi_wp2_with fail
      gi_region
      all_goals (
        clear q1 q2 q3 p1 p2 p3
        gi_wp2
        obtain ⟨k6, oo6, o6⟩ := E.out
        obtain ⟨o5, b5, k5, z5, i5, s5⟩ := N.out
        have b6 : Below w.heap.size w6 (lay3 w.heap.size (.int .i64 (x : Int)) (.int .i64 (s : Int)) (.bool true) w6) := lay3_below (Below.refl _ _) _ _ _
        have hlb := G.out.2.2.2.lb
        refine ⟨((k5.from _).trans (keeps_off oo6 (by omega))).trans (((lay3_keeps w.heap.size (.int .i64 (x : Int)) (.int .i64 (s : Int)) (.bool true) w6).trans (keeps_below (Below.refl _ _).drew)).from _), rfl, pre, x, s, rfl, z5, i5, s5,
          k6.keep (b6.drew.block b hlb) b6.size, ((Off.of_below b5).trans (oo6.mono b5.size)).trans (Off.of_below b6.drew), lay3_drew (lay3_own o6 _ _ _)⟩)
  case done =>
    rintro D ys W hD hS hc hK
    have q1 := hc.o.c1.1
    have q2 := hc.o.c2.1
    have q3 := hc.o.c3.1
    have p1 := hc.o.c1.2
    have p2 := hc.o.c2.2
    have p3 := hc.o.c3.2
    have hZ := Lib.hid (show ∀ p s, f p s = false from fun p s => by
      rcases hv : f p s with _ | _
      · rfl
      · have h1 := G.out.2.2.2.ok p s hv
        have h2 := G.out.2.2.2.gl p h1.1
        have h3 := hc.z p (by rw [hS]; exact setL_mem.2 ⟨h2, h1.1⟩)
        have := w16_zero.1 h3 s (by have := G.out.2.2.2.lo; omega)
        rw [this] at hv; cases hv)
    have hL := lay3_own hc.o (.int .i64 0) (.int .i64 0) (.bool false)
    have hK3 : (lay3 w.heap.size (.int .i64 0) (.int .i64 0) (.bool false) W).heap[D]? = some (.deferred (some [])) := (lay3_keeps w.heap.size (.int .i64 0) (.int .i64 0) (.bool false) W).same D _ hK rfl
    have E := Lib.hid (And.intro hL (And.intro (lay3_below hc.bl (.int .i64 0) (.int .i64 0) (.bool false)) hK3))
    clear hc hK hL hS hK3
    gi_wp2
    refine ⟨by simp, .inl ⟨_, _, rfl, run_takeDeferred E.out.2.2, ?_⟩⟩
    refine ⟨_, ans3 Tryd.results68 E.out.1 E.out.2.2 _ rfl rfl rfl, ?_⟩
    rw [hD0'.out]
    exact .inl ⟨hZ.out, rfl, E.out.2.1.trans (belowK_b (w := w) (Nat.le_refl _) _ D _ _ (by have := G.out.2.2.1; omega) E.out.2.2 rfl rfl)⟩
  case stop =>
    rintro D c xs W hD hp ⟨rfl, pre, x, s, hX⟩ hK
    have hX' := Lib.hid hX
    clear hX
    gi_wp2
    refine ⟨by simp, .inl ⟨_, _, rfl, run_takeDeferred hK, ?_⟩⟩
    refine ⟨_, ans3 Tryd.results68 hX'.out.o hK _ rfl rfl rfl, ?_⟩
    rw [hD0'.out]
    have hlb := G.out.2.2.2.lb
    have kb : Below w.heap.size W (W.putObj D (.deferred none)) := belowK_b (w := w) (Nat.le_refl _) _ D _ _ (by have := G.out.2.2.1; omega) hK rfl rfl
    refine .inr ⟨x, s, ⟨hX'.out.is, fun q t hq => ?_, hX'.out.sl⟩, rfl, hX'.out.k.keep (kb.block b hlb) kb.size, hX'.out.off.trans (Off.of_below kb)⟩
    rcases hv : f q t with _ | _
    · rfl
    · have h1 := G.out.2.2.2.ok q t hv
      have h2 := hX'.out.z q (prefix_below (by rw [← hX'.out.e]; exact hp) h1.1 hq)
      have := w16_zero.1 h2 t (by have := G.out.2.2.2.lo; omega)
      rw [this] at hv; cases hv
end
end Go.Proofs.YticfpnhfhhagpaaDoor
namespace Go.Proofs.YticfpnhfhhagpaaDoor
set_option maxRecDepth 100000
open Go.RowKit Go.Shelf
set_option linter.unusedVariables false
theorem Least.one {f : Nat → Nat → Bool} {p s p' s' : Nat} (h : Least f p s) (k : Least f p' s') : p = p' ∧ s = s' := by
  have e : p = p' := by
    rcases Nat.lt_trichotomy p p' with h1 | h1 | h1
    · have := k.pg p s h1; rw [h.is] at this; cases this
    · exact h1
    · have := h.pg p' s' h1; rw [k.is] at this; cases this
  subst e
  refine ⟨rfl, ?_⟩
  rcases Nat.lt_trichotomy s s' with h1 | h1 | h1
  · have := k.sl s h1; rw [h.is] at this; cases this
  · exact h1
  · have := h.sl s' h1; rw [k.is] at this; cases this
section
variable {W W' w w' : World} {b per c d n p s : Nat} {g g' : Nat → Bool} {f f' : Nat → Nat → Bool} {v : Value} {e : Ending}
theorem TakePost.some (h : Least f p s) (k : TakePost b per g f w e w') : BNext b per g (upd2 f p s false) w (.tuple #[.int .i64 (p : Int), .int .i64 (s : Int), .bool true]) e w' := by
  rcases k with ⟨h0, _⟩ | ⟨p', s', h1, k⟩
  · have := h0 p s; rw [h.is] at this; cases this
  · obtain ⟨rfl, rfl⟩ := h.one h1
    exact k
theorem TakePost.none (h : ∀ p s, f p s = false) (k : TakePost b per g f w e w') : e = .returned (.tuple #[.int .i64 0, .int .i64 0, .bool false]) ∧ Below w.heap.size w w' := by
  rcases k with ⟨_, h1⟩ | ⟨p', s', h1, _⟩
  · exact h1
  · have := h1.is; rw [h] at this; cases this
/-- A book of one's own. -/
structure SK (W : World) (b per : Nat) (g : Nat → Bool) (f : Nat → Nat → Bool) (w : World) : Prop where
  k : BookAt w b per g f
  bl : Below W.heap.size W w
  hb : W.heap.size ≤ b
theorem SK.fresh (h : SFresh per g f W e w') : ∃ b, e = .returned (.pointer (some ⟨b, 0, none⟩)) ∧ SK W b per g f w' := by
  obtain ⟨b, rfl, k, hb, bl⟩ := h
  exact ⟨b, rfl, k, bl, hb⟩
theorem SK.grow (S : SK W b per g f w) (k : Below w.heap.size w w') : SK W b per g f w' := ⟨S.k.grow k, S.bl.trans (k.mono S.bl.size), S.hb⟩
theorem SK.drew (S : SK W b per g f w) : SK W b per g f w.drew := S.grow (Below.refl _ _).drew
theorem SK.next (S : SK W b per g f w) (h : BNext b per g' f' w v e w') : e = .returned v ∧ SK W b per g' f' w' :=
  ⟨h.1, h.2.1, S.bl.trans (h.2.2.below S.bl.size S.hb), S.hb⟩
theorem add_yes (H : BookAt w b per g f) (p : Nat) (h : mayAdd g p = true) : Calls Tryd.prog 67 #[.pointer (some ⟨b, 0, none⟩), .int .i64 p] w (BNext b per (upd g p true) (updP f p (full per)) w (.bool true)) := by
  have := add_any H p
  rw [h] at this
  exact this
theorem add_no (H : BookAt w b per g f) (p : Int) (h : mayAdd g p = false) : Calls Tryd.prog 67 #[.pointer (some ⟨b, 0, none⟩), .int .i64 p] w (BNext b per g f w (.bool false)) := by
  have := add_any H p
  rw [h] at this
  exact this
theorem put_yes (H : BookAt w b per g f) (p s : Nat) (h : okPut per g f p s = true) : Calls Tryd.prog 51 #[.pointer (some ⟨b, 0, none⟩), .int .i64 p, .int .i64 s] w (BNext b per g (upd2 f p s true) w (.bool true)) := by
  have := put_any H p s
  rw [h] at this
  exact this
theorem put_no (H : BookAt w b per g f) (p s : Int) (h : okPut per g f p s = false) : Calls Tryd.prog 51 #[.pointer (some ⟨b, 0, none⟩), .int .i64 p, .int .i64 s] w (BNext b per g f w (.bool false)) := by
  have := put_any H p s
  rw [h] at this
  exact this
theorem drop_yes (H : BookAt w b per g f) (p : Nat) (h : okW per g f p = true) : Calls Tryd.prog 52 #[.pointer (some ⟨b, 0, none⟩), .int .i64 p] w (BNext b per (upd g p false) (updP f p (fun _ => false)) w (.bool true)) := by
  have := drop_any H p
  unfold okW at h
  rw [h] at this
  exact this
theorem drop_no (H : BookAt w b per g f) (p : Int) (h : okW per g f p = false) : Calls Tryd.prog 52 #[.pointer (some ⟨b, 0, none⟩), .int .i64 p] w (BNext b per g f w (.bool false)) := by
  have := drop_any H p
  unfold okW at h
  rw [h] at this
  exact this
theorem free_yes (H : BookAt w b per g f) {n : Nat} (h : tot f 1024 = n) : Calls Tryd.prog 38 #[.pointer (some ⟨b, 0, none⟩)] w (BNext b per g f w (.int .i64 (n : Int))) :=
  (free_any H).mono fun e w' k => by subst h; exact BNext.of_below H k.1 k.2
theorem take_yes (H : BookAt w b per g f) (hT : TabAt 0 Lib.deBruijn32tab w) (h : Least f p s) : Calls Tryd.prog 68 #[.pointer (some ⟨b, 0, none⟩)] w (BNext b per g (upd2 f p s false) w (.tuple #[.int .i64 (p : Int), .int .i64 (s : Int), .bool true])) :=
  (take_any H hT).mono fun e w' k => k.some h
theorem take_no (H : BookAt w b per g f) (hT : TabAt 0 Lib.deBruijn32tab w) (h : ∀ p s, f p s = false) : Calls Tryd.prog 68 #[.pointer (some ⟨b, 0, none⟩)] w (BNext b per g f w (.tuple #[.int .i64 0, .int .i64 0, .bool false])) :=
  (take_any H hT).mono fun e w' k => BNext.of_below H (k.none h).1 (k.none h).2
def gN : Nat → Bool := fun _ => false
def fN : Nat → Nat → Bool := fun _ _ => false
theorem upd2_lt {q t : Nat} {x : Bool} (h : p ≠ q) : upd2 f p s x q t = f q t := by unfold upd2; rw [if_neg (fun e => h e.symm)]
end
end Go.Proofs.YticfpnhfhhagpaaDoor
