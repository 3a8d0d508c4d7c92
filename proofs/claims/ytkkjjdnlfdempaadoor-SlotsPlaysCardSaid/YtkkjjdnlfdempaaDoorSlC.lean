/- Contracts of layer slots: Whole, New, Copy. No statement is proved here. -/
import Derived.Test.YtkkjjdnlfdempaaDoorSlB
import Derived.Deep.WholeRow
import Derived.Laws.Tables
namespace Go.Proofs.YtkkjjdnlfdempaaDoor
set_option maxRecDepth 100000
open Go.RowKit Go.Shelf
set_option linter.unusedVariables false
section
variable {W W' w : World} {b per c d : Nat} {g : Nat → Bool} {f : Nat → Nat → Bool} {i : Bool} {h : Nat → Bool}
/-- Is that a page that is whole? -/
def okW (per : Nat) (g : Nat → Bool) (f : Nat → Nat → Bool) (p : Int) : Bool := inP p && isW (g p.toNat) (f p.toNat) per
set_option maxHeartbeats 1000000 in
theorem whole (H : BookAt w b per g f) (p : Int) : Calls Tryd.prog 21 #[.pointer (some ⟨b, 0, none⟩), .int .i64 p] w
    fun e w' => e = .returned (.bool (okW per g f p)) ∧ Below w.heap.size w w' := by
  obtain ⟨S, hS0⟩ : ∃ S, S = fun w1 => BookAt w1 b per g f ∧ Below w.heap.size w w1 := ⟨_, rfl⟩
  have hS : ∀ w w', S w → Below w.heap.size w w' → S w' := fun w w' h k => by rw [hS0] at h ⊢; exact ⟨h.1.grow k, h.2.trans (k.mono h.2.size)⟩
  have hK : ∀ w1, S w1 → BookAt w1 b per g f ∧ Below w.heap.size w w1 := fun w h => by rw [hS0] at h; exact h
  have K := Lib.hid (show S w from by rw [hS0]; exact ⟨H, Below.refl _ _⟩)
  have HS := Lib.hid hS
  have HK := Lib.hid hK
  have cW := Lib.hid (cls_call (S := S) (fun w1 hw => (whole_any (hK w1 hw).1).mono fun e w' k => ⟨k.1, hS _ _ hw k.2⟩))
  rcases inP_cases p with ⟨e, h⟩ | ⟨k, rfl, hk, e⟩
  · have cM := Lib.hid (cls_call (S := S) (fun w1 hw => (may_any (hK w1 hw).1 p).mono fun e w' k => ⟨k.1, by obtain ⟨_, rfl⟩ := k; exact hw⟩))
    have e' : (decide (0 ≤ p) && decide (p < 1024)) = false := e
    rw [e'] at cM
    rw [show okW per g f p = false from by unfold okW; rw [e]; rfl]
    clear hS hK hS0 H
    go_enter Tryd.func21, Tryd.ntmps21
    go_wp2_with fail
    refine region_cls S (by kernel_rfl) (by kernel_rfl) (HS.out _ _ K.out (Below.refl _ _).drew) ?_
    repeat (first
      | go_big_quiet_skip
      | (go_big_quiet_want
         go_big_quiet_op
         first
         | go_big_quiet_on
         | (apply Exists.intro
            refine ⟨fun y => ?_, ?_⟩
            · first | exact rfl | with_reducible exact cM.out y | with_reducible exact cW.out y
            go_big_quiet_on)))
    refine wpQuiet_nil ?_
    intro y
    have hk := Lib.hid (HK.out _ y.h).2
    go_wp2
    go_ret
    exact ⟨rfl, hk.out⟩
  · have cM := Lib.hid (cls_call (S := S) (fun w1 hw => (may_any (hK w1 hw).1 (k : Int)).mono fun e w' k => ⟨k.1, by obtain ⟨_, rfl⟩ := k; exact hw⟩))
    have e' : (decide (0 ≤ (k : Int)) && decide ((k : Int) < 1024)) = true := e
    rw [e'] at cM
    rw [show okW per g f (k : Int) = isW (g k) (f k) per from by unfold okW; rw [e, Int.toNat_natCast, Bool.true_and]]
    have hE := leaf_whole (g k) (f k) per
    generalize isW (g k) (f k) per = ok at *
    have a0 : ∀ y : Wd S, y.w.cell? ⟨b, k * 2, none⟩ = some (.bool (g k)) := fun y => (hK _ y.h).1.inn hk
    have a1 : ∀ y : Wd S, y.w.cell? ⟨b, k * 2 + 1, none⟩ = some (.int .u16 (w16 (f k) : Int)) := fun y => (hK _ y.h).1.free hk
    have hk' : (k : Int) < 1024 := by omega
    clear hS hK hS0 H
    go_enter Tryd.func21, Tryd.ntmps21
    go_wp2_with fail
    refine region_cls S (by kernel_rfl) (by kernel_rfl) (HS.out _ _ K.out (Below.refl _ _).drew) ?_
    repeat (first
      | go_big_quiet_skip
      | (go_big_quiet_want
         go_big_quiet_op
         first
         | go_big_quiet_on
         | (apply Exists.intro
            refine ⟨fun y => ?_, ?_⟩
            · first | exact rfl | with_reducible exact cM.out y | with_reducible exact cW.out y
            go_big_quiet_on)))
    refine wpQuiet_nil ?_
    intro y
    have hk := Lib.hid (HK.out _ y.h).2
    go_wp2
    go_ret
    exact ⟨rfl, hk.out⟩
/-- A book's cells in a row. -/
def cells (per : Nat) (g : Nat → Bool) (f : Nat → Nat → Bool) : Array Value := ((List.range 2049).map (cv per g f)).toArray
theorem cells_size (per : Nat) (g : Nat → Bool) (f : Nat → Nat → Bool) : (cells per g f).size = 2049 := by simp [cells]
theorem cells_get (per : Nat) (g : Nat → Bool) (f : Nat → Nat → Bool) {i : Nat} (hi : i < 2049) : (cells per g f)[i]? = some (cv per g f i) := by simp [cells, hi]
theorem cells_one (per : Nat) (g : Nat → Bool) (f : Nat → Nat → Bool) : (cells per g f).all (·.oneCell') = true := by
  rw [Array.all_eq_true]
  intro i hi
  rw [cells_size] at hi
  have := cells_get per g f hi
  rw [Array.getElem?_eq_getElem (by rw [cells_size]; exact hi)] at this
  rw [Option.some.inj this]
  unfold cv
  split
  · rfl
  · split <;> rfl
theorem BookAt.made (W : World) (lo : 1 ≤ per ∧ per ≤ 16) (ok : ∀ p s, f p s = true → g p = true ∧ s < per) (gl : ∀ p, g p = true → p < 1024) : BookAt (W.alloc (.cells (cells per g f) 62)) W.heap.size per g f :=
  ⟨fun i hi => ⟨by rw [World.cell?_alloc_at (hn := rfl)]; exact cells_get per g f hi, by simp⟩, lo, ok, gl, by simp⟩
/-- A new book at block b. -/
def Fresh (per : Nat) (g : Nat → Bool) (f : Nat → Nat → Bool) (w : World) (e : Ending) (w' : World) : Prop := ∃ b, e = .returned (.pointer (some ⟨b, 0, none⟩)) ∧ BookAt w' b per g f ∧ w.heap.size ≤ b ∧ Below w.heap.size w w'
theorem new_no (n : Int) (w : World) (h : n < 1 ∨ 16 < n) : Calls Tryd.prog 7 #[.int .i64 n] w fun e w' => e = .returned (.pointer none) ∧ w = w' := by
  rcases h with h | h
  · go_enter Tryd.func7, Tryd.ntmps7
    go_wp2
    go_ret
    exact ⟨rfl, rfl⟩
  · have h' : ¬ n < 1 := by omega
    go_enter Tryd.func7, Tryd.ntmps7
    go_wp2
    go_ret
    exact ⟨rfl, rfl⟩
theorem zero_book : (Tryd.prog.info? 62).map (fun i => (i.zero, i.size)) = some (some (.agg (cells 0 (fun _ => false) fun _ _ => false)), 2049) := by kernel_rfl
theorem built_book (n : Nat) : Tryd.prog.built 62 [(1, .int .i64 (n : Int))] = some (cells n (fun _ => false) fun _ _ => false) := by kernel_rfl
theorem wpList_built {P : Program} {w : World} {ops : Array Oper} {rest : List Oper} {o : Oper} {a : Act} {Q : Exit → Act → World → Prop} (hg : o.guard = none) {t : TypeId} {parts : Array (Nat × Operand)} (ho : o.op = .build t parts)
    (cs : Array Value) (hc : P.built t (parts.map fun (i, x) => (i, a.eval x)).toList = some cs) (h : wpList P ops Q rest (a.put o.dst (.agg cs)) w) : wpList P ops Q (o :: rest) a w :=
  wpList_build hg t parts ho (by rw [hc]; rfl) (by rw [hc]; exact h)
theorem wp_moved {P : Program} {w : World} {o : Oper} {a : Act} {K : Act → World → Prop} {Q : Exit → Act → World → Prop} {x : Operand} (ho : o.op = .move x) (h : K (a.put o.dst (a.eval x)) w) : o.wp P a w K Q := by
  unfold Oper.wp execOp
  simp only [ho]
  exact h
theorem wp_loaded {P : Program} {w : World} {o : Oper} {a : Act} {K : Act → World → Prop} {Q : Exit → Act → World → Prop} {ty : TypeId} {x : Operand} (ho : o.op = .load ty x) {ad : Addr} (hx : a.eval x = .pointer (some ad)) {v : Value}
    (hl : (loadVar ty ad).run P w = .ok v w) (h : K (a.put o.dst v) w) : o.wp P a w K Q := by
  unfold Oper.wp execOp
  simp only [ho, hx, Instr.loadAt, Instr.sureAddr, Sem.run_bind, Sem.run_pure, Result.andThen_ok, hl]
  exact h
theorem new_yes (n : Nat) (w : World) (h : 1 ≤ n ∧ n ≤ 16) : Calls Tryd.prog 7 #[.int .i64 n] w (Fresh n (fun _ => false) (fun _ _ => false) w) := by
  have hB := built_book n
  have hM := Lib.hid (BookAt.made w h (f := fun _ _ => false) (g := fun _ => false) (fun _ _ h => by cases h) (fun _ h => by cases h))
  have h1 : ¬ (n : Int) < 1 := by omega
  have h2 : ¬ 16 < (n : Int) := by omega
  generalize cells n (fun _ => false) (fun _ _ => false) = C at *
  obtain ⟨D, hD⟩ : ∃ D, D = Fresh n (fun _ => false) (fun _ _ => false) w := ⟨_, rfl⟩
  rw [← hD]
  replace hD := Lib.hid hD
  go_enter Tryd.func7, Tryd.ntmps7
  go_upto_region 3 with (fail)
  refine wp_region_lit ?_
  refine wpList_plain rfl fun K1 hK1 => ?_
  refine wp_moved rfl (hK1 _ _ ?_)
  refine wpList_built rfl rfl C (by simpa [go_sem] using hB) ?_
  simp only [go_sem]
  go_wp2
  rw [hD.out]
  exact ⟨_, rfl, hM.out, Nat.le_refl _, (Below.refl _ _).alloc (Nat.le_refl _) _⟩
set_option maxHeartbeats 1000000 in
theorem copy (H : BookAt w b per g f) : Calls Tryd.prog 18 #[.pointer (some ⟨b, 0, none⟩)] w (Fresh per g f w) := by
  have h1 := H.size
  have h2 : (per : Int) ≠ 0 := by have := H.lo; omega
  obtain ⟨zr, hsz⟩ := zero_of_info zero_book
  have hl : (loadCellsFrom ⟨b, 0, none⟩ 0 2049 #[]).run Tryd.prog w = .ok (cells per g f) w :=
    run_loadCells (P := Tryd.prog) w ⟨b, 0, none⟩ 2049 (cv per g f) (fun j hj => by
      have : (⟨b, 0, none⟩ : Addr).add j = ⟨b, j, none⟩ := by unfold Addr.add; split <;> simp_all
      rw [this]; exact (H.cs j hj).1)
  have hV : (loadVar 62 ⟨b, 0, none⟩).run Tryd.prog w = .ok (.agg (cells per g f)) w := by
    have ia : ∀ w, (isAgg 62).run Tryd.prog w = .ok true w := fun w => by kernel_rfl
    have sz : ∀ w, (sizeOf 62).run Tryd.prog w = .ok 2049 w := fun w => by kernel_rfl
    simp only [loadVar, Sem.run_bind, ia, sz, Result.andThen, if_true, Sem.run_pure]
    rw [show (loadCells ⟨b, 0, none⟩ 2049).run Tryd.prog w = _ from hl]
  have hs := fun (w : World) => run_storeCells_new (P := Tryd.prog) w 62 (cells 0 (fun _ => false) fun _ _ => false) (cells per g f) (by rw [hsz, cells_size]) (by rw [cells_size, cells_size]) (cells_one _ _ _)
  have hc : (cells per g f).size = 2049 := cells_size _ _ _
  have hM := Lib.hid (BookAt.made w H.lo H.ok H.gl)
  clear H
  generalize cells per g f = C at *
  generalize cells 0 (fun _ => false) (fun _ _ => false) = Z at *
  obtain ⟨D, hD⟩ : ∃ D, D = Fresh per g f w := ⟨_, rfl⟩
  rw [← hD]
  replace hD := Lib.hid hD
  go_enter Tryd.func18, Tryd.ntmps18
  go_wp2
  refine wp_loaded rfl rfl hV ?_
  go_wp2
  rw [hD.out]
  exact ⟨_, rfl, hM.out, Nat.le_refl _, (Below.refl _ _).alloc (Nat.le_refl _) _⟩
end
end Go.Proofs.YtkkjjdnlfdempaaDoor
