/- Contracts of layer slots: Take. No statement is proved here. -/
import Derived.Test.YtkkjjdnlfdempaaDoorSlF
namespace Go.Proofs.YtkkjjdnlfdempaaDoor
set_option maxRecDepth 100000
open Go.RowKit Go.Shelf
set_option linter.unusedVariables false
attribute [local go_sem] Oper.semAt_some
/-- The least slot of the least page that has one. -/
structure Least (f : Nat → Nat → Bool) (p s : Nat) : Prop where
  is : f p s = true
  pg : ∀ q t, q < p → f q t = false
  sl : ∀ t, t < s → f p t = false
theorem pairwise_setL (g : Nat → Bool) (n : Nat) : (setL g n).Pairwise (· < ·) := List.Pairwise.filter _ List.pairwise_lt_range
/-- Of a first part of the rising list: what is set and below its last lies in it. -/
theorem prefix_below {g : Nat → Bool} {n : Nat} {pre : List Nat} {x : Nat} (h : pre ++ [x] <+: setL g n) {q : Nat} (hq : g q = true) (hlt : q < x) : q ∈ pre := by
  obtain ⟨r, hr⟩ := h
  have hp := pairwise_setL g n
  have hx : x ∈ setL g n := by rw [← hr]; simp
  have hm : q ∈ setL g n := setL_mem.2 ⟨by have := (setL_mem.1 hx).1; omega, hq⟩
  rw [← hr] at hm hp
  rw [List.append_assoc] at hm hp
  rcases List.mem_append.1 hm with h1 | h1
  · exact h1
  · have h2 := (List.pairwise_append.1 hp).2.1
    rcases List.mem_cons.1 h1 with rfl | h3
    · omega
    · have := (List.pairwise_cons.1 h2).1 q h3
      omega
theorem low_exists (h : Nat → Bool) (h0 : w16 h ≠ 0) : ∃ s, s < 16 ∧ h s = true ∧ ∀ t, t < s → h t = false := by
  by_cases hn : ∀ k, k ≤ 16 → ∀ t, t < k → h t = false
  · exact absurd (w16_zero.2 fun j hj => hn 16 (Nat.le_refl _) j hj) h0
  · have : ∃ k, k < 16 ∧ h k = true := by
      rcases Classical.em (∃ k, k < 16 ∧ h k = true) with h1 | h1
      · exact h1
      · refine absurd (w16_zero.2 fun j hj => ?_) h0
        rcases hv : h j with _ | _
        · rfl
        · exact absurd ⟨j, hj, hv⟩ h1
    obtain ⟨k, hk, hv⟩ := this
    clear hn h0
    induction k using Nat.strongRecOn with
    | _ k ih =>
      rcases Classical.em (∃ t, t < k ∧ h t = true) with ⟨t, ht, hv'⟩ | hno
      · exact ih t ht (by omega) hv'
      · refine ⟨k, hk, hv, fun t ht => ?_⟩
        rcases hv' : h t with _ | _
        · rfl
        · exact absurd ⟨t, ht, hv'⟩ hno
section
variable {W W' w : World} {b per c d n : Nat} {g : Nat → Bool} {f f' : Nat → Nat → Bool}
theorem Off.kept {B : Nat} {row : Option Nat} (h : Off n b w W) (hg : W.grownBy W' row) (hr : ∀ r, row = some r → B ≤ r ∧ ∃ o : Obj, W.heap[r]? = some o ∧ o.isCells = false) (hB : n ≤ B) (hn : n ≤ w.heap.size) : Off n b w W' :=
  ⟨hg.os.trans h.os, hg.tape.trans h.tape, hg.output.trans h.output, Nat.le_trans h.size hg.size, fun k hk hne => (hg.block k (by have := h.size; omega) (fun e => by have := (hr k e.symm).1; omega)).trans (h.block k hk hne)⟩
theorem BookAt.kept {row : Option Nat} (h : BookAt W b per g f) (hg : W.grownBy W' row) (hr : ∀ r, row = some r → ∃ o : Obj, W.heap[r]? = some o ∧ o.isCells = false) : BookAt W' b per g f :=
  ⟨fun i hi => ⟨cell_kept (h.cs i hi).1 hg hr, (frozen_kept (h.cs i hi).1 hg hr).trans (h.cs i hi).2⟩, h.lo, h.ok, h.gl, Nat.lt_of_lt_of_le h.lb hg.size⟩
theorem keeps_off {B : Nat} (h : Off W.heap.size b W W') (hb : b < B) : KeepsFrom B W W' :=
  ⟨h.size, fun k o hk ho _ => (h.block k (Array.getElem?_eq_some_iff.1 ho).1 (by omega)).trans ho⟩
/-- Cells with what they hold, to be written. -/
def Cel (W : World) (q : Nat) (v : Value) : Prop := W.cell? ⟨q, 0, none⟩ = some v ∧ W.frozen? ⟨q, 0, none⟩ = false
theorem Cel.kept {q : Nat} {v : Value} {row : Option Nat} (h : Cel W q v) (hg : W.grownBy W' row) (hr : ∀ r, row = some r → ∃ o : Obj, W.heap[r]? = some o ∧ o.isCells = false) : Cel W' q v := ⟨cell_kept h.1 hg hr, (frozen_kept h.1 hg hr).trans h.2⟩
theorem Cel.lt {q : Nat} {v : Value} (h : Cel W q v) : q < W.heap.size := lt_of_cell' h.1
theorem Cel.grow {q : Nat} {v : Value} (h : Cel W q v) (k : Below W.heap.size W W') : Cel W' q v := ⟨(k.cell (p := ⟨q, 0, none⟩) h.lt).trans h.1, (k.frozen (p := ⟨q, 0, none⟩) h.lt).trans h.2⟩
theorem Cel.set {q : Nat} {v : Value} (h : Cel W q v) (u : Value) : Cel (W.setCell ⟨q, 0, none⟩ u) q u := ⟨World.cell?_setCell_same' _ _ _ (by rw [h.1]; rfl), (World.frozen?_setCell _ _ _ _).trans h.2⟩
theorem Cel.far {q r : Nat} {v : Value} (h : Cel W q v) (hn : q ≠ r) (j : Nat) (u : Value) : Cel (W.setCell ⟨r, j, none⟩ u) q v :=
  ⟨by rw [World.cell?_setCell_other _ _ _ _ (fun e => hn (by simpa using (congrArg Addr.block e).symm))]; exact h.1, (World.frozen?_setCell _ _ _ _).trans h.2⟩
theorem Cel.off {q r : Nat} {v : Value} (h : Cel W q v) (k : Off W.heap.size r W W') (hn : q ≠ r) : Cel W' q v := ⟨(k.cell (p := ⟨q, 0, none⟩) h.lt hn).trans h.1, (k.frozen (p := ⟨q, 0, none⟩) h.lt hn).trans h.2⟩
/-- Take's own boxes: the book's, the page's, the slot's, whether there is one. -/
structure Own4 (q b : Nat) (x y : Value) (z : Value) (W : World) : Prop where
  c0 : Cel W q (.pointer (some ⟨b, 0, none⟩))
  c1 : Cel W (q + 1) x
  c2 : Cel W (q + 2) y
  c3 : Cel W (q + 3) z
theorem Own4.kept {q : Nat} {x y z : Value} {row : Option Nat} (h : Own4 q b x y z W) (hg : W.grownBy W' row) (hr : ∀ r, row = some r → ∃ o : Obj, W.heap[r]? = some o ∧ o.isCells = false) : Own4 q b x y z W' :=
  ⟨h.c0.kept hg hr, h.c1.kept hg hr, h.c2.kept hg hr, h.c3.kept hg hr⟩
theorem Own4.grow {q : Nat} {x y z : Value} (h : Own4 q b x y z W) (k : Below W.heap.size W W') : Own4 q b x y z W' := ⟨h.c0.grow k, h.c1.grow k, h.c2.grow k, h.c3.grow k⟩
theorem Own4.off {q : Nat} {x y z : Value} (h : Own4 q b x y z W) (k : Off W.heap.size b W W') (hb : b < q) : Own4 q b x y z W' := ⟨h.c0.off k (by omega), h.c1.off k (by omega), h.c2.off k (by omega), h.c3.off k (by omega)⟩
/-- What holds between two rounds of Take's loop. -/
structure TakeI (w : World) (N b : Nat) (f : Nat → Nat → Bool) (pre : List Nat) (W : World) : Prop where
  o : Own4 w.heap.size b (.int .i64 0) (.int .i64 0) (.bool false) W
  bl : Below w.heap.size w W
  z : ∀ p ∈ pre, w16 (f p) = 0
  sz : N ≤ W.heap.size
/-- What holds where Take has found a slot. -/
structure TakeX (w : World) (b per : Nat) (g : Nat → Bool) (f : Nat → Nat → Bool) (xs : List Nat) (pre : List Nat) (x s : Nat) (W : World) : Prop where
  e : xs = pre ++ [x]
  z : ∀ p ∈ pre, w16 (f p) = 0
  is : f x s = true
  sl : ∀ t, t < s → f x t = false
  k : BookAt W b per g (upd2 f x s false)
  off : Off w.heap.size b w W
  o : Own4 w.heap.size b (.int .i64 (x : Int)) (.int .i64 (s : Int)) (.bool true) W
def TakePost (b per : Nat) (g : Nat → Bool) (f : Nat → Nat → Bool) (w : World) (e : Ending) (w' : World) : Prop :=
  ((∀ p s, f p s = false) ∧ e = .returned (.tuple #[.int .i64 0, .int .i64 0, .bool false]) ∧ Below w.heap.size w w') ∨
  ∃ p s, Least f p s ∧ BNext b per g (upd2 f p s false) w (.tuple #[.int .i64 (p : Int), .int .i64 (s : Int), .bool true]) e w'
theorem load_int {q : Nat} {v : Value} (h : W.cell? ⟨q, 0, none⟩ = some v) : (loadVar 3 ⟨q, 0, none⟩).run Tryd.prog W = .ok v W := by
  have ia : ∀ w, (isAgg 3).run Tryd.prog w = .ok false w := fun w => by kernel_rfl
  simp only [loadVar, Sem.run_bind, ia, Result.andThen, Bool.false_eq_true, if_false, run_load, h]
theorem load_bool {q : Nat} {v : Value} (h : W.cell? ⟨q, 0, none⟩ = some v) : (loadVar 4 ⟨q, 0, none⟩).run Tryd.prog W = .ok v W := by
  have ia : ∀ w, (isAgg 4).run Tryd.prog w = .ok false w := fun w => by kernel_rfl
  simp only [loadVar, Sem.run_bind, ia, Result.andThen, Bool.false_eq_true, if_false, run_load, h]
theorem res_three {P : Program} {fn : Func} {p q r : Tmp} {tp tq tr : TypeId} (h : fn.results = #[.cell p tp, .cell q tq, .cell r tr]) {tmps : Array Value} {a0 a1 a2 : Nat} {v0 v1 v2 : Value}
    (h0 : tmps.getD p undef = .pointer (some ⟨a0, 0, none⟩)) (h1 : tmps.getD q undef = .pointer (some ⟨a1, 0, none⟩)) (h2 : tmps.getD r undef = .pointer (some ⟨a2, 0, none⟩))
    (l0 : (loadVar tp ⟨a0, 0, none⟩).run P w = .ok v0 w) (l1 : (loadVar tq ⟨a1, 0, none⟩).run P w = .ok v1 w) (l2 : (loadVar tr ⟨a2, 0, none⟩).run P w = .ok v2 w) : (results fn tmps).run P w = .ok (.tuple #[v0, v1, v2]) w := by
  have h0' : tmps[p]?.getD undef = .pointer (some ⟨a0, 0, none⟩) := by simpa using h0
  have h1' : tmps[q]?.getD undef = .pointer (some ⟨a1, 0, none⟩) := by simpa using h1
  have h2' : tmps[r]?.getD undef = .pointer (some ⟨a2, 0, none⟩) := by simpa using h2
  simp [results, h, asAddr, h0', h1', h2', l0, l1, l2]
end
end Go.Proofs.YtkkjjdnlfdempaaDoor
