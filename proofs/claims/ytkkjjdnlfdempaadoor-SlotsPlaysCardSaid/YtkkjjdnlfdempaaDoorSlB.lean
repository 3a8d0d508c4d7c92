/- Contracts of layer slots: the closures; Add, Put, Drop, Whole. No statement is proved here. -/
import Derived.Test.YtkkjjdnlfdempaaDoorSlA
import Derived.Test.YtkkjjdnlfdempaaDoorCls
import Derived.Test.YtkkjjdnlfdempaaDoorStr
namespace Go.Proofs.YtkkjjdnlfdempaaDoor
set_option maxRecDepth 100000
open Go.RowKit Go.Shelf
set_option linter.unusedVariables false

theorem leaf_eq (d : Nat) (i j : Bool) (x y : Int) (w : World) :
    (Op.equalIn (d + 1 + 1) 59 (.agg #[.bool i, .int .u16 x]) (.agg #[.bool j, .int .u16 y])).run Tryd.prog w = .ok ((i == j) && ((x == y) && true)) w := by
  rw [run_equalIn_struct w (d + 1) 59 _ _ (by kernel_rfl) (by kernel_rfl)]
  have hf : (Tryd.prog.fieldsOf 59).toList.map (fun f => (f.name, f.type, f.offset)) = [("in", 4, 0), ("free", 56, 1)] := by kernel_rfl
  have i16 : ∀ (x y : Int) w, (Op.equalIn (d + 1) 56 (.int .u16 x) (.int .u16 y)).run Tryd.prog w = .ok (x == y) w := fun x y w => run_equalIn_int w d 56 .u16 .u16 x y (by kernel_rfl)
  have ib : ∀ (x y : Bool) w, (Op.equalIn (d + 1) 4 (.bool x) (.bool y)).run Tryd.prog w = .ok (x == y) w := fun x y w => run_equalIn_bool w d 4 x y (by kernel_rfl)
  generalize (Tryd.prog.fieldsOf 59).toList = fs at *
  obtain ⟨f0, fs, rfl, hf0, hf⟩ := List.map_eq_cons_iff.1 hf
  obtain ⟨f1, fs, rfl, hf1, hf⟩ := List.map_eq_cons_iff.1 hf
  obtain rfl := List.map_eq_nil_iff.1 hf
  simp only [Prod.mk.injEq] at hf0 hf1
  refine eqF_step hf0 (by decide) (by kernel_rfl) (by kernel_rfl) (ib _ _ _) ?_
  exact eqF_step hf1 (by decide) (by kernel_rfl) (by kernel_rfl) (i16 _ _ _) eqF_nil
/-- Is a page's leaf that of a whole page? -/
def isW (i : Bool) (h : Nat → Bool) (per : Nat) : Bool := i && decide (w16 h = w16 (full per))
theorem leaf_whole (i : Bool) (h : Nat → Bool) (per : Nat) (w : World) :
    (Op.equalIn 10000 59 (.agg #[.bool i, .int .u16 (w16 h : Int)]) (.agg #[.bool true, .int .u16 (w16 (full per) : Int)])).run Tryd.prog w = .ok (isW i h per) w := by
  have e := leaf_eq 9998 i true (w16 h : Int) (w16 (full per) : Int) w
  rw [show (10000 : Nat) = 9998 + 1 + 1 from rfl, e]
  congr 1
  unfold isW
  have : ((w16 h : Int) == (w16 (full per) : Int)) = decide (w16 h = w16 (full per)) := by
    rw [Bool.eq_iff_iff]
    simp only [beq_iff_eq, decide_eq_true_eq]
    omega
  rw [this]
  cases i <;> simp
section
variable {W W' w : World} {b per c d : Nat} {g : Nat → Bool} {f : Nat → Nat → Bool} {i : Bool} {h : Nat → Bool}
/-- The box of the closure leads to the book. -/
structure Led (w : World) (c b per : Nat) (g : Nat → Bool) (f : Nat → Nat → Bool) : Prop where
  k : BookAt w b per g f
  cc : w.cell? ⟨c, 0, none⟩ = some (.pointer (some ⟨b, 0, none⟩))
  l : c < w.heap.size
theorem Led.grow (H : Led w c b per g f) (h : Below w.heap.size w W') : Led W' c b per g f := ⟨H.k.grow h, (h.cell (p := ⟨c, 0, none⟩) H.l).trans H.cc, Nat.lt_of_lt_of_le H.l h.size⟩
/-- A leaf in a box, and one to be answered. -/
structure Two (W : World) (c b per : Nat) (g : Nat → Bool) (f : Nat → Nat → Bool) (i : Bool) (h : Nat → Bool) (q : Nat) (w : World) : Prop where
  l : Led w c b per g f
  bl : Below W.heap.size W w
  q0 : w.cell? ⟨q, 0, none⟩ = some (.bool i)
  q1 : w.cell? ⟨q, 1, none⟩ = some (.int .u16 (w16 h : Int))
  r0 : w.cell? ⟨q + 1, 0, none⟩ = some (.bool false) ∧ w.frozen? ⟨q + 1, 0, none⟩ = false
  r1 : w.cell? ⟨q + 1, 1, none⟩ = some (.int .u16 0) ∧ w.frozen? ⟨q + 1, 1, none⟩ = false
  lq : W.heap.size ≤ q ∧ q + 1 < w.heap.size
theorem Two.grow {q : Nat} (H : Two W c b per g f i h q w) (k : Below w.heap.size w W') : Two W c b per g f i h q W' :=
  ⟨H.l.grow k, H.bl.trans (k.mono H.bl.size), (k.cell (p := ⟨q, 0, none⟩) (by have := H.lq; show q < _; omega)).trans H.q0, (k.cell (p := ⟨q, 1, none⟩) (by have := H.lq; show q < _; omega)).trans H.q1,
    ⟨(k.cell (p := ⟨q + 1, 0, none⟩) H.lq.2).trans H.r0.1, (k.frozen (p := ⟨q + 1, 0, none⟩) H.lq.2).trans H.r0.2⟩, ⟨(k.cell (p := ⟨q + 1, 1, none⟩) H.lq.2).trans H.r1.1, (k.frozen (p := ⟨q + 1, 1, none⟩) H.lq.2).trans H.r1.2⟩,
    H.lq.1, Nat.lt_of_lt_of_le H.lq.2 k.size⟩
theorem Two.start (H : Led w c b per g f) (i : Bool) (h : Nat → Bool) : Two w c b per g f i h w.heap.size ((w.alloc (.cells #[.bool i, .int .u16 (w16 h : Int)] 59)).alloc (.cells #[.bool false, .int .u16 0] 59)) := by
  have k1 : Below w.heap.size w (w.alloc (.cells #[.bool i, .int .u16 (w16 h : Int)] 59)) := (Below.refl _ _).alloc (Nat.le_refl _) _
  have hs : (w.alloc (.cells #[.bool i, .int .u16 (w16 h : Int)] 59)).heap.size = w.heap.size + 1 := by simp
  have c0 : (w.alloc (.cells #[.bool i, .int .u16 (w16 h : Int)] 59)).cell? ⟨w.heap.size, 0, none⟩ = some (.bool i) := by simp
  have c1 : (w.alloc (.cells #[.bool i, .int .u16 (w16 h : Int)] 59)).cell? ⟨w.heap.size, 1, none⟩ = some (.int .u16 (w16 h : Int)) := by simp
  generalize (w.alloc (.cells #[.bool i, .int .u16 (w16 h : Int)] 59)) = w1 at *
  have k2 : Below w1.heap.size w1 (w1.alloc (.cells #[.bool false, .int .u16 0] 59)) := (Below.refl _ _).alloc (Nat.le_refl _) _
  refine ⟨(H.grow k1).grow k2, k1.trans (k2.mono (by omega)), (k2.cell (p := ⟨w.heap.size, 0, none⟩) (by show w.heap.size < _; omega)).trans c0, (k2.cell (p := ⟨w.heap.size, 1, none⟩) (by show w.heap.size < _; omega)).trans c1, ?_, ?_, ?_⟩
  · rw [← hs]; exact ⟨by simp, by simp⟩
  · rw [← hs]; exact ⟨by simp, by simp⟩
  · exact ⟨Nat.le_refl _, by simp [hs]⟩
/-- The leaf that is to be answered is laid. -/
theorem Two.store {q : Nat} (H : Two W c b per g f i h q w) (u v : Value) : (loadVar 59 ⟨q + 1, 0, none⟩).run Tryd.prog ((w.setCell ⟨q + 1, 0, none⟩ u).setCell ⟨q + 1, 1, none⟩ v) = .ok (.agg #[u, v]) ((w.setCell ⟨q + 1, 0, none⟩ u).setCell ⟨q + 1, 1, none⟩ v) ∧
    Below W.heap.size W ((w.setCell ⟨q + 1, 0, none⟩ u).setCell ⟨q + 1, 1, none⟩ v) := by
  have h1 := H.lq.1
  refine ⟨load_leaf ?_ ?_, (H.bl.setCell (p := ⟨q + 1, 0, none⟩) (by show W.heap.size ≤ q + 1; omega) u).setCell (p := ⟨q + 1, 1, none⟩) (by show W.heap.size ≤ q + 1; omega) v⟩
  · rw [World.cell?_setCell_other _ _ _ _ (fun e => by have := congrArg Addr.off e; simp at this)]
    exact World.cell?_setCell_same' _ _ _ (by rw [H.r0.1]; rfl)
  · exact World.cell?_setCell_same' _ _ _ (by rw [World.cell?_setCell_other _ _ _ _ (fun e => by have := congrArg Addr.off e; simp at this), H.r1.1]; rfl)
def ClPost (w : World) (i : Bool) (h : Nat → Bool) (ok : Bool) (e : Ending) (w' : World) : Prop := e = .returned (.tuple #[.agg #[.bool i, .int .u16 (w16 h : Int)], .bool ok]) ∧ Below w.heap.size w w'
set_option maxHeartbeats 1000000 in
theorem add1 (H : Led w c b per g f) (i : Bool) (h : Nat → Bool) : Calls Tryd.prog 27 #[.agg #[.bool i, .int .u16 (w16 h : Int)], .pointer (some ⟨c, 0, none⟩)] w (ClPost w true (full per) (!i)) := by
  have hT := (Two.start H i h).grow (Below.refl _ _).drew
  have cM := Lib.hid ((whole_any hT.l.k).mono fun e w' k => (show e = .returned (.agg #[.bool true, .int .u16 (w16 (full per) : Int)]) ∧ Two w c b per g f i h w.heap.size w' from ⟨k.1, hT.grow k.2⟩))
  have hT' := Two.start H i h
  clear hT H
  go_enter Tryd.func27, Tryd.ntmps27
  go_wp2_with fail
  generalize ((w.alloc (.cells #[.bool i, .int .u16 (w16 h : Int)] 59)).alloc (.cells #[.bool false, .int .u16 0] 59)) = W1 at *
  have a0 := hT'.l.cc
  have a1 := hT'.q0
  clear hT'
  go_region_with (go_at_call 28; refine cM.out.mono ?_; rintro e w3 ⟨rfl, k⟩; have hk := Lib.hid k; have a1 := k.q0; have r0 := k.r0.1; have r1 := k.r1.1; have s0 := k.r0.2; have s1 := k.r1.2; clear k)
  all_goals (
    obtain ⟨x1, x2⟩ := hk.out.store (.bool true) (.int .u16 (w16 (full per) : Int))
    have X1 := Lib.hid x1
    have X2 := Lib.hid x2
    clear x1 x2 r0 r1 s0 s1 a1
    go_wp2
    exact bodyPost_ret (res_two Tryd.results27 rfl rfl X1.out) rfl ⟨rfl, X2.out⟩)
set_option maxHeartbeats 1000000 in
theorem drop1 (H : Led w c b per g f) (i : Bool) (h : Nat → Bool) : Calls Tryd.prog 36 #[.agg #[.bool i, .int .u16 (w16 h : Int)], .pointer (some ⟨c, 0, none⟩)] w (ClPost w false (fun _ => false) (isW i h per)) := by
  have hz := Lib.hid (show w16 (fun _ => false) = 0 from w16_zero.2 fun _ _ => rfl)
  have hT := (Two.start H i h).grow (Below.refl _ _).drew
  have cM := Lib.hid ((whole_any hT.l.k).mono fun e w' k => (show e = .returned (.agg #[.bool true, .int .u16 (w16 (full per) : Int)]) ∧ Two w c b per g f i h w.heap.size w' from ⟨k.1, hT.grow k.2⟩))
  have hT' := Two.start H i h
  have hE := leaf_whole i h per
  generalize isW i h per = ok at *
  clear hT H
  go_enter Tryd.func36, Tryd.ntmps36
  go_wp2_with fail
  generalize ((w.alloc (.cells #[.bool i, .int .u16 (w16 h : Int)] 59)).alloc (.cells #[.bool false, .int .u16 0] 59)) = W1 at *
  have a0 := hT'.l.cc
  have a1 := hT'.q0
  have a2 := hT'.q1
  clear hT'
  go_region_with (go_at_call 28; refine cM.out.mono ?_; rintro e w3 ⟨rfl, k⟩; have hk := Lib.hid k; have a1 := k.q0; have a2 := k.q1; have r0 := k.r0.1; have r1 := k.r1.1; have s0 := k.r0.2; have s1 := k.r1.2; clear k)
  all_goals (
    obtain ⟨x1, x2⟩ := hk.out.store (.bool false) (.int .u16 0)
    have X1 := Lib.hid x1
    have X2 := Lib.hid x2
    clear x1 x2 r0 r1 s0 s1 a1 a2
    go_wp2
    refine bodyPost_ret (res_two Tryd.results36 rfl rfl X1.out) rfl ⟨?_, X2.out⟩
    rw [hz.out]; rfl)
/-- The box of the closure holds a slot's number. -/
structure Num (w : World) (d : Nat) (s : Int) : Prop where
  c : w.cell? ⟨d, 0, none⟩ = some (.int .i64 s)
  l : d < w.heap.size
theorem Num.grow {s : Int} (H : Num w d s) (h : Below w.heap.size w W') : Num W' d s := ⟨(h.cell (p := ⟨d, 0, none⟩) H.l).trans H.c, Nat.lt_of_lt_of_le H.l h.size⟩
/-- A leaf in a box, and one to be answered. -/
structure TwoB (W : World) (i : Bool) (h : Nat → Bool) (q : Nat) (w : World) : Prop where
  bl : Below W.heap.size W w
  q0 : w.cell? ⟨q, 0, none⟩ = some (.bool i) ∧ w.frozen? ⟨q, 0, none⟩ = false
  q1 : w.cell? ⟨q, 1, none⟩ = some (.int .u16 (w16 h : Int)) ∧ w.frozen? ⟨q, 1, none⟩ = false
  r0 : w.cell? ⟨q + 1, 0, none⟩ = some (.bool false) ∧ w.frozen? ⟨q + 1, 0, none⟩ = false
  r1 : w.cell? ⟨q + 1, 1, none⟩ = some (.int .u16 0) ∧ w.frozen? ⟨q + 1, 1, none⟩ = false
  lq : W.heap.size ≤ q ∧ q + 1 < w.heap.size
theorem TwoB.start (w : World) (i : Bool) (h : Nat → Bool) : TwoB w i h w.heap.size ((w.alloc (.cells #[.bool i, .int .u16 (w16 h : Int)] 59)).alloc (.cells #[.bool false, .int .u16 0] 59)) := by
  have k1 : Below w.heap.size w (w.alloc (.cells #[.bool i, .int .u16 (w16 h : Int)] 59)) := (Below.refl _ _).alloc (Nat.le_refl _) _
  have hs : (w.alloc (.cells #[.bool i, .int .u16 (w16 h : Int)] 59)).heap.size = w.heap.size + 1 := by simp
  have c0 : (w.alloc (.cells #[.bool i, .int .u16 (w16 h : Int)] 59)).cell? ⟨w.heap.size, 0, none⟩ = some (.bool i) ∧ (w.alloc (.cells #[.bool i, .int .u16 (w16 h : Int)] 59)).frozen? ⟨w.heap.size, 0, none⟩ = false := ⟨by simp, by simp⟩
  have c1 : (w.alloc (.cells #[.bool i, .int .u16 (w16 h : Int)] 59)).cell? ⟨w.heap.size, 1, none⟩ = some (.int .u16 (w16 h : Int)) ∧ (w.alloc (.cells #[.bool i, .int .u16 (w16 h : Int)] 59)).frozen? ⟨w.heap.size, 1, none⟩ = false := ⟨by simp, by simp⟩
  generalize (w.alloc (.cells #[.bool i, .int .u16 (w16 h : Int)] 59)) = w1 at *
  have k2 : Below w1.heap.size w1 (w1.alloc (.cells #[.bool false, .int .u16 0] 59)) := (Below.refl _ _).alloc (Nat.le_refl _) _
  refine ⟨k1.trans (k2.mono (by omega)), ⟨(k2.cell (p := ⟨w.heap.size, 0, none⟩) (by show w.heap.size < _; omega)).trans c0.1, (k2.frozen (p := ⟨w.heap.size, 0, none⟩) (by show w.heap.size < _; omega)).trans c0.2⟩, ⟨(k2.cell (p := ⟨w.heap.size, 1, none⟩) (by show w.heap.size < _; omega)).trans c1.1, (k2.frozen (p := ⟨w.heap.size, 1, none⟩) (by show w.heap.size < _; omega)).trans c1.2⟩, ?_, ?_, ?_⟩
  · rw [← hs]; exact ⟨by simp, by simp⟩
  · rw [← hs]; exact ⟨by simp, by simp⟩
  · exact ⟨Nat.le_refl _, by simp [hs]⟩
/-- The slots turned, and the leaf answered. -/
theorem TwoB.turn {q : Nat} (H : TwoB W i h q w) (x : Value) (u v : Value) :
    (loadVar 59 ⟨q + 1, 0, none⟩).run Tryd.prog (((w.setCell ⟨q, 1, none⟩ x).drew.setCell ⟨q + 1, 0, none⟩ u).setCell ⟨q + 1, 1, none⟩ v) = .ok (.agg #[u, v]) (((w.setCell ⟨q, 1, none⟩ x).drew.setCell ⟨q + 1, 0, none⟩ u).setCell ⟨q + 1, 1, none⟩ v) ∧
    Below W.heap.size W (((w.setCell ⟨q, 1, none⟩ x).drew.setCell ⟨q + 1, 0, none⟩ u).setCell ⟨q + 1, 1, none⟩ v) := by
  have h1 := H.lq.1
  have c0 : (w.setCell ⟨q, 1, none⟩ x).drew.cell? ⟨q + 1, 0, none⟩ = some (.bool false) := by
    show (w.setCell ⟨q, 1, none⟩ x).cell? _ = _
    rw [World.cell?_setCell_other _ _ _ _ (fun e => by have := congrArg Addr.block e; simp at this)]; exact H.r0.1
  have c1 : (w.setCell ⟨q, 1, none⟩ x).drew.cell? ⟨q + 1, 1, none⟩ = some (.int .u16 0) := by
    show (w.setCell ⟨q, 1, none⟩ x).cell? _ = _
    rw [World.cell?_setCell_other _ _ _ _ (fun e => by have := congrArg Addr.block e; simp at this)]; exact H.r1.1
  have b1 : Below W.heap.size W (w.setCell ⟨q, 1, none⟩ x).drew := (H.bl.setCell (p := ⟨q, 1, none⟩) h1 x).drew
  generalize (w.setCell ⟨q, 1, none⟩ x).drew = w2 at *
  refine ⟨load_leaf ?_ ?_, (b1.setCell (p := ⟨q + 1, 0, none⟩) (by show W.heap.size ≤ q + 1; omega) u).setCell (p := ⟨q + 1, 1, none⟩) (by show W.heap.size ≤ q + 1; omega) v⟩
  · rw [World.cell?_setCell_other _ _ _ _ (fun e => by have := congrArg Addr.off e; simp at this)]
    exact World.cell?_setCell_same' _ _ _ (by rw [c0]; rfl)
  · exact World.cell?_setCell_same' _ _ _ (by rw [World.cell?_setCell_other _ _ _ _ (fun e => by have := congrArg Addr.off e; simp at this), c1]; rfl)
set_option maxHeartbeats 1000000 in
theorem take1 (s : Nat) (hs : s < 16) (H : Num w d s) (i : Bool) (h : Nat → Bool) : Calls Tryd.prog 33 #[.agg #[.bool i, .int .u16 (w16 h : Int)], .pointer (some ⟨d, 0, none⟩)] w (ClPost w i (upd h s false) true) := by
  have hT := TwoB.start w i h
  have c0 := (H.grow hT.bl).c
  have e1 := one16 s hs
  have e2 := Lib.hid (show bits .andNot .u16 (w16 h : Int) ((2 : Int) ^ s) = (w16 (upd h s false) : Nat) from by have := w16_clear h s hs; simpa using this)
  have hs' : (s : Int) < 16 := by omega
  clear H
  go_enter Tryd.func33, Tryd.ntmps33
  go_wp2_with fail
  generalize ((w.alloc (.cells #[.bool i, .int .u16 (w16 h : Int)] 59)).alloc (.cells #[.bool false, .int .u16 0] 59)) = W1 at *
  have q0 := hT.q0.1
  have q1 := hT.q1.1
  have p1 := hT.q1.2
  have r0 := hT.r0.1
  have r1 := hT.r1.1
  have s0 := hT.r0.2
  have s1 := hT.r1.2
  have hT := Lib.hid hT
  go_region
  all_goals (
    rw [e2.out]
    obtain ⟨x1, x2⟩ := hT.out.turn (.int .u16 (w16 (upd h s false) : Int)) (.bool i) (.int .u16 (w16 (upd h s false) : Int))
    have X1 := Lib.hid x1
    have X2 := Lib.hid x2
    have q1' : (W1.setCell ⟨w.heap.size, 1, none⟩ (.int .u16 (w16 (upd h s false) : Int))).cell? ⟨w.heap.size, 1, none⟩ = some (.int .u16 (w16 (upd h s false) : Int)) := World.cell?_setCell_same' _ _ _ (by rw [q1]; rfl)
    clear x1 x2 e1
    go_wp2
    exact bodyPost_ret (res_two Tryd.results33 rfl rfl X1.out) rfl ⟨rfl, X2.out⟩)
theorem TwoB.drewN {q : Nat} (H : TwoB W i h q w) (n : Nat) : TwoB W i h q (w.drewN n) := ⟨below_drewN H.bl n, H.q0, H.q1, H.r0, H.r1, H.lq⟩
theorem TwoB.store {q : Nat} (H : TwoB W i h q w) (u v : Value) : (loadVar 59 ⟨q + 1, 0, none⟩).run Tryd.prog ((w.setCell ⟨q + 1, 0, none⟩ u).setCell ⟨q + 1, 1, none⟩ v) = .ok (.agg #[u, v]) ((w.setCell ⟨q + 1, 0, none⟩ u).setCell ⟨q + 1, 1, none⟩ v) ∧
    Below W.heap.size W ((w.setCell ⟨q + 1, 0, none⟩ u).setCell ⟨q + 1, 1, none⟩ v) := by
  have h1 := H.lq.1
  refine ⟨load_leaf ?_ ?_, (H.bl.setCell (p := ⟨q + 1, 0, none⟩) (by show W.heap.size ≤ q + 1; omega) u).setCell (p := ⟨q + 1, 1, none⟩) (by show W.heap.size ≤ q + 1; omega) v⟩
  · rw [World.cell?_setCell_other _ _ _ _ (fun e => by have := congrArg Addr.off e; simp at this)]
    exact World.cell?_setCell_same' _ _ _ (by rw [H.r0.1]; rfl)
  · exact World.cell?_setCell_same' _ _ _ (by rw [World.cell?_setCell_other _ _ _ _ (fun e => by have := congrArg Addr.off e; simp at this), H.r1.1]; rfl)
/-- May this slot be made free? -/
def mayPut (i : Bool) (h : Nat → Bool) (per : Nat) (s : Int) : Bool := i && decide (0 ≤ s) && decide (s < (per : Int)) && !h s.toNat
set_option maxHeartbeats 1000000 in
theorem put1 (s : Int) (H : Led w c b per g f) (N : Num w d s) (i : Bool) (h : Nat → Bool) : Calls Tryd.prog 35 #[.agg #[.bool i, .int .u16 (w16 h : Int)], .pointer (some ⟨d, 0, none⟩), .pointer (some ⟨c, 0, none⟩)] w
    (ClPost w i (if mayPut i h per s then upd h s.toNat true else h) (mayPut i h per s)) := by
  have hT := TwoB.start w i h
  have c0 := (N.grow hT.bl).c
  have H1 := H.grow hT.bl
  have c1 := H1.cc
  have c2 := H1.k.size
  have hp := H.k.lo
  have hp1 : (per : Int) ≤ 16 := by omega
  clear H H1
  cases i
  · rw [show mayPut false h per s = false from rfl]
    simp only [Bool.false_eq_true, if_false]
    clear N hp hp1
    go_enter Tryd.func35, Tryd.ntmps35
    go_wp2_with fail
    generalize ((w.alloc (.cells #[.bool false, .int .u16 (w16 h : Int)] 59)).alloc (.cells #[.bool false, .int .u16 0] 59)) = W1 at *
    have q0 := hT.q0.1
    have q1 := hT.q1.1
    go_quiet (fail)
    have T2 := hT.drewN nq
    have C0 : (W1.drewN nq).cell? ⟨d, 0, none⟩ = some (.int .i64 s) := c0
    generalize W1.drewN nq = W2 at *
    have Q0 := T2.q0.1
    have Q1 := T2.q1.1
    have r0 := T2.r0.1
    have r1 := T2.r1.1
    have s0 := T2.r0.2
    have s1 := T2.r1.2
    obtain ⟨x1, x2⟩ := T2.store (.bool false) (.int .u16 (w16 h : Int))
    have X1 := Lib.hid x1
    have X2 := Lib.hid x2
    clear x1 x2 hT T2 c0 c1 c2 q0 q1
    go_wp2
    exact bodyPost_ret (res_two Tryd.results35 rfl rfl X1.out) rfl ⟨rfl, X2.out⟩
  · rcases Int.lt_or_le s 0 with h0 | h0
    · rw [show mayPut true h per s = false from by unfold mayPut; rw [decide_eq_false (by omega : ¬ 0 ≤ s)]; rfl]
      simp only [Bool.false_eq_true, if_false]
      clear N hp hp1
      go_enter Tryd.func35, Tryd.ntmps35
      go_wp2_with fail
      generalize ((w.alloc (.cells #[.bool true, .int .u16 (w16 h : Int)] 59)).alloc (.cells #[.bool false, .int .u16 0] 59)) = W1 at *
      have q0 := hT.q0.1
      have q1 := hT.q1.1
      go_quiet (fail)
      have T2 := hT.drewN nq
      have C0 : (W1.drewN nq).cell? ⟨d, 0, none⟩ = some (.int .i64 s) := c0
      generalize W1.drewN nq = W2 at *
      have Q0 := T2.q0.1
      have Q1 := T2.q1.1
      have r0 := T2.r0.1
      have r1 := T2.r1.1
      have s0 := T2.r0.2
      have s1 := T2.r1.2
      obtain ⟨x1, x2⟩ := T2.store (.bool true) (.int .u16 (w16 h : Int))
      have X1 := Lib.hid x1
      have X2 := Lib.hid x2
      clear x1 x2 hT T2 c0 c1 c2 q0 q1
      go_wp2
      exact bodyPost_ret (res_two Tryd.results35 rfl rfl X1.out) rfl ⟨rfl, X2.out⟩
    · rcases Int.lt_or_le s (per : Int) with h1 | h1
      · obtain ⟨k, rfl⟩ : ∃ k : Nat, s = (k : Int) := ⟨s.toNat, by omega⟩
        have hk : k < 16 := by omega
        have e1 := one16 k hk
        have e2 := Lib.hid (show bits .or .u16 (w16 h : Int) ((2 : Int) ^ k) = (w16 (upd h k true) : Nat) from by have := w16_set h k hk; simpa using this)
        have e3 := w16_get h k hk
        have hm : mayPut true h per k = !h k := by unfold mayPut; rw [decide_eq_true h0, decide_eq_true h1]; simp
        rw [hm, Int.toNat_natCast]
        have hk' : (k : Int) < 16 := by omega
        have t0 : decide ((k : Int) < 0) = false := by simp
        have t1 : decide (per ≤ k) = false := by simp; omega
        cases hv : h k
        · rw [hv] at e3
          replace e3 : bits .and .u16 ((w16 h : Int) / 2 ^ k) 1 = 0 := e3
          simp only [Bool.not_false, if_true]
          clear N hp hm hv
          go_enter Tryd.func35, Tryd.ntmps35
          go_wp2_with fail
          generalize ((w.alloc (.cells #[.bool true, .int .u16 (w16 h : Int)] 59)).alloc (.cells #[.bool false, .int .u16 0] 59)) = W1 at *
          have q0 := hT.q0.1
          have q1 := hT.q1.1
          go_quiet (fail)
          have T2 := hT.drewN nq
          have C0 : (W1.drewN nq).cell? ⟨d, 0, none⟩ = some (.int .i64 k) := c0
          generalize W1.drewN nq = W2 at *
          have Q0 := T2.q0.1
          have Q1 := T2.q1.1
          have p1 := T2.q1.2
          have r0 := T2.r0.1
          have r1 := T2.r1.1
          have s0 := T2.r0.2
          have s1 := T2.r1.2
          have hT2 := Lib.hid T2
          clear hT T2 c0 c1 c2 q0 q1 e3
          go_wp2_with fail
          go_region
          all_goals (
            rw [e2.out]
            obtain ⟨x1, x2⟩ := hT2.out.turn (.int .u16 (w16 (upd h k true) : Int)) (.bool true) (.int .u16 (w16 (upd h k true) : Int))
            have X1 := Lib.hid x1
            have X2 := Lib.hid x2
            have q1' : (W2.setCell ⟨w.heap.size, 1, none⟩ (.int .u16 (w16 (upd h k true) : Int))).cell? ⟨w.heap.size, 1, none⟩ = some (.int .u16 (w16 (upd h k true) : Int)) := World.cell?_setCell_same' _ _ _ (by rw [Q1]; rfl)
            clear x1 x2 e1
            go_wp2
            exact bodyPost_ret (res_two Tryd.results35 rfl rfl X1.out) rfl ⟨rfl, X2.out⟩)
        · rw [hv] at e3
          replace e3 : bits .and .u16 ((w16 h : Int) / 2 ^ k) 1 = 1 := e3
          simp only [Bool.not_true, Bool.false_eq_true, if_false]
          clear N hp hm hv e1 e2
          go_enter Tryd.func35, Tryd.ntmps35
          go_wp2_with fail
          generalize ((w.alloc (.cells #[.bool true, .int .u16 (w16 h : Int)] 59)).alloc (.cells #[.bool false, .int .u16 0] 59)) = W1 at *
          have q0 := hT.q0.1
          have q1 := hT.q1.1
          go_quiet (fail)
          have T2 := hT.drewN nq
          have C0 : (W1.drewN nq).cell? ⟨d, 0, none⟩ = some (.int .i64 k) := c0
          generalize W1.drewN nq = W2 at *
          have Q0 := T2.q0.1
          have Q1 := T2.q1.1
          have r0 := T2.r0.1
          have r1 := T2.r1.1
          have s0 := T2.r0.2
          have s1 := T2.r1.2
          obtain ⟨x1, x2⟩ := T2.store (.bool true) (.int .u16 (w16 h : Int))
          have X1 := Lib.hid x1
          have X2 := Lib.hid x2
          clear x1 x2 hT T2 c0 c1 c2 q0 q1
          go_wp2
          exact bodyPost_ret (res_two Tryd.results35 rfl rfl X1.out) rfl ⟨rfl, X2.out⟩
      · rw [show mayPut true h per s = false from by unfold mayPut; rw [decide_eq_false (by omega : ¬ s < (per : Int))]; simp]
        simp only [Bool.false_eq_true, if_false]
        have t0 : decide (s < 0) = false := by simp; omega
        clear N hp hp1
        go_enter Tryd.func35, Tryd.ntmps35
        go_wp2_with fail
        generalize ((w.alloc (.cells #[.bool true, .int .u16 (w16 h : Int)] 59)).alloc (.cells #[.bool false, .int .u16 0] 59)) = W1 at *
        have q0 := hT.q0.1
        have q1 := hT.q1.1
        go_quiet (fail)
        have T2 := hT.drewN nq
        have C0 : (W1.drewN nq).cell? ⟨d, 0, none⟩ = some (.int .i64 s) := c0
        generalize W1.drewN nq = W2 at *
        have Q0 := T2.q0.1
        have Q1 := T2.q1.1
        have r0 := T2.r0.1
        have r1 := T2.r1.1
        have s0 := T2.r0.2
        have s1 := T2.r1.2
        obtain ⟨x1, x2⟩ := T2.store (.bool true) (.int .u16 (w16 h : Int))
        have X1 := Lib.hid x1
        have X2 := Lib.hid x2
        clear x1 x2 hT T2 c0 c1 c2 q0 q1
        go_wp2
        exact bodyPost_ret (res_two Tryd.results35 rfl rfl X1.out) rfl ⟨rfl, X2.out⟩
theorem BNext.back {v : Value} {e : Ending} {w1 : World} (hb : Below w.heap.size w w1) (k : BNext b per g f w1 v e W') : BNext b per g f w v e W' := ⟨k.1, k.2.1, (Off.of_below hb).step k.2.2⟩
/-- May that be a page, and is it not in the book? -/
def mayAdd (g : Nat → Bool) (p : Int) : Bool := decide (0 ≤ p) && decide (p < 1024) && !g p.toNat
def inP (p : Int) : Bool := decide (0 ≤ p) && decide (p < 1024)
theorem inP_cases (p : Int) : (inP p = false ∧ (p < 0 ∨ 1024 ≤ p)) ∨ ∃ k : Nat, p = (k : Int) ∧ k < 1024 ∧ inP p = true := by
  unfold inP
  by_cases h : 0 ≤ p ∧ p < 1024
  · exact .inr ⟨p.toNat, by omega, by omega, by simp [h.1, h.2]⟩
  · refine .inl ⟨?_, by omega⟩
    rw [Bool.eq_false_iff]
    simp
    omega
theorem upd_self (g : Nat → Bool) (k : Nat) : upd g k (g k) = g := funext fun j => by unfold upd; by_cases e : j = k <;> simp [e]
theorem full_ok (per : Nat) : ∀ s, full per s = true → true = true ∧ s < per := fun s hs => ⟨rfl, by simpa [full] using hs⟩
set_option maxHeartbeats 1000000 in
theorem add_any (H : BookAt w b per g f) (p : Int) : Calls Tryd.prog 10 #[.pointer (some ⟨b, 0, none⟩), .int .i64 p] w
    (BNext b per (if mayAdd g p then upd g p.toNat true else g) (if mayAdd g p then updP f p.toNat (full per) else f) w (.bool (mayAdd g p))) := by
  have hb : Below w.heap.size w (w.alloc (.cells #[.pointer (some ⟨b, 0, none⟩)] 23)) := (Below.refl _ _).alloc (Nat.le_refl _) _
  have hL : Led (w.alloc (.cells #[.pointer (some ⟨b, 0, none⟩)] 23)) w.heap.size b per g f := ⟨H.grow hb, by simp, by simp⟩
  have hC : Calls Tryd.prog 26 #[.pointer (some ⟨b, 0, none⟩), .int .i64 p, .func (.func 27) #[] #[.pointer (some ⟨w.heap.size, 0, none⟩)]] (w.alloc (.cells #[.pointer (some ⟨b, 0, none⟩)] 23))
      (BNext b per (if mayAdd g p then upd g p.toNat true else g) (if mayAdd g p then updP f p.toNat (full per) else f) w (.bool (mayAdd g p))) := by
    rcases inP_cases p with ⟨e, h⟩ | ⟨k, rfl, hk, e⟩
    · rw [show mayAdd g p = false from by unfold mayAdd; unfold inP at e; rw [e]; rfl]
      simp only [Bool.false_eq_true, if_false]
      exact (change_out hL.k p h _).mono fun e w' k => by obtain ⟨rfl, rfl⟩ := k; exact BNext.of_below H rfl hb
    · rw [show mayAdd g (k : Int) = !g k from by unfold mayAdd; unfold inP at e; rw [e]; rfl, Int.toNat_natCast]
      exact (change_in hL.k k hk 27 #[.pointer (some ⟨w.heap.size, 0, none⟩)] (enters_of Tryd.func27 (by kernel_rfl) rfl) true (full per) (!g k) (fun _ => full_ok per) (add1 hL (g k) (f k))).mono fun e w' k => k.back hb
  replace hC := Lib.hid hC
  clear H hL hb
  obtain ⟨D, hD⟩ : ∃ D, D = BNext b per (if mayAdd g p then upd g p.toNat true else g) (if mayAdd g p then updP f p.toNat (full per) else f) w (.bool (mayAdd g p)) := ⟨_, rfl⟩
  have hD1 := Lib.hid (show ∀ e w', D e w' → e = .returned (.bool (mayAdd g p)) from fun e w' h => by rw [hD] at h; exact h.1)
  rw [← hD] at hC ⊢
  clear hD
  generalize mayAdd g p = ok at *
  go_enter Tryd.func10, Tryd.ntmps10
  go_wp2_with fail
  refine hC.out.mono ?_
  intro e w2 hd
  obtain rfl := hD1.out e w2 hd
  replace hd := Lib.hid hd
  go_wp2
  exact hd.out
set_option maxHeartbeats 1000000 in
theorem drop_any (H : BookAt w b per g f) (p : Int) : Calls Tryd.prog 16 #[.pointer (some ⟨b, 0, none⟩), .int .i64 p] w
    (BNext b per (if inP p && isW (g p.toNat) (f p.toNat) per then upd g p.toNat false else g) (if inP p && isW (g p.toNat) (f p.toNat) per then updP f p.toNat (fun _ => false) else f) w (.bool (inP p && isW (g p.toNat) (f p.toNat) per))) := by
  have hb : Below w.heap.size w (w.alloc (.cells #[.pointer (some ⟨b, 0, none⟩)] 23)) := (Below.refl _ _).alloc (Nat.le_refl _) _
  have hL : Led (w.alloc (.cells #[.pointer (some ⟨b, 0, none⟩)] 23)) w.heap.size b per g f := ⟨H.grow hb, by simp, by simp⟩
  have hC : Calls Tryd.prog 26 #[.pointer (some ⟨b, 0, none⟩), .int .i64 p, .func (.func 36) #[] #[.pointer (some ⟨w.heap.size, 0, none⟩)]] (w.alloc (.cells #[.pointer (some ⟨b, 0, none⟩)] 23))
      (BNext b per (if inP p && isW (g p.toNat) (f p.toNat) per then upd g p.toNat false else g) (if inP p && isW (g p.toNat) (f p.toNat) per then updP f p.toNat (fun _ => false) else f) w (.bool (inP p && isW (g p.toNat) (f p.toNat) per))) := by
    rcases inP_cases p with ⟨e, h⟩ | ⟨k, rfl, hk, e⟩
    · rw [e]
      simp only [Bool.false_and, Bool.false_eq_true, if_false]
      exact (change_out hL.k p h _).mono fun e w' k => by obtain ⟨rfl, rfl⟩ := k; exact BNext.of_below H rfl hb
    · rw [e, Int.toNat_natCast, Bool.true_and]
      exact (change_in hL.k k hk 36 #[.pointer (some ⟨w.heap.size, 0, none⟩)] (enters_of Tryd.func36 (by kernel_rfl) rfl) false (fun _ => false) (isW (g k) (f k) per) (fun _ s hs => by cases hs) (drop1 hL (g k) (f k))).mono fun e w' k => k.back hb
  replace hC := Lib.hid hC
  clear H hL hb
  generalize (inP p && isW (g p.toNat) (f p.toNat) per) = ok at *
  obtain ⟨D, hD⟩ : ∃ D, D = BNext b per (if ok then upd g p.toNat false else g) (if ok then updP f p.toNat (fun _ => false) else f) w (.bool ok) := ⟨_, rfl⟩
  have hD1 := Lib.hid (show ∀ e w', D e w' → e = .returned (.bool ok) from fun e w' h => by rw [hD] at h; exact h.1)
  rw [← hD] at hC ⊢
  clear hD
  go_enter Tryd.func16, Tryd.ntmps16
  go_wp2_with fail
  refine hC.out.mono ?_
  intro e w2 hd
  obtain rfl := hD1.out e w2 hd
  replace hd := Lib.hid hd
  go_wp2
  exact hd.out
/-- Is that slot one that may be made free? -/
def okPut (per : Nat) (g : Nat → Bool) (f : Nat → Nat → Bool) (p s : Int) : Bool := inP p && mayPut (g p.toNat) (f p.toNat) per s
set_option maxHeartbeats 1000000 in
theorem put_any (H : BookAt w b per g f) (p s : Int) : Calls Tryd.prog 14 #[.pointer (some ⟨b, 0, none⟩), .int .i64 p, .int .i64 s] w
    (BNext b per g (if okPut per g f p s then upd2 f p.toNat s.toNat true else f) w (.bool (okPut per g f p s))) := by
  have b1 : Below w.heap.size w (w.alloc (.cells #[.pointer (some ⟨b, 0, none⟩)] 23)) := (Below.refl _ _).alloc (Nat.le_refl _) _
  have hb : Below w.heap.size w ((w.alloc (.cells #[.pointer (some ⟨b, 0, none⟩)] 23)).alloc (.cells #[.int .i64 s] 3)) := b1.alloc b1.size _
  have hL : Led ((w.alloc (.cells #[.pointer (some ⟨b, 0, none⟩)] 23)).alloc (.cells #[.int .i64 s] 3)) w.heap.size b per g f :=
    ⟨H.grow hb, (old_cell (new_cell rfl w.heap.size rfl) (by simp)).1, by simp; omega⟩
  have hN : Num ((w.alloc (.cells #[.pointer (some ⟨b, 0, none⟩)] 23)).alloc (.cells #[.int .i64 s] 3)) (w.heap.size + 1) s := ⟨(new_cell rfl (w.heap.size + 1) (by simp)).1, by simp⟩
  have hC : Calls Tryd.prog 26 #[.pointer (some ⟨b, 0, none⟩), .int .i64 p, .func (.func 35) #[] #[.pointer (some ⟨w.heap.size + 1, 0, none⟩), .pointer (some ⟨w.heap.size, 0, none⟩)]] ((w.alloc (.cells #[.pointer (some ⟨b, 0, none⟩)] 23)).alloc (.cells #[.int .i64 s] 3))
      (BNext b per g (if okPut per g f p s then upd2 f p.toNat s.toNat true else f) w (.bool (okPut per g f p s))) := by
    rcases inP_cases p with ⟨e, h⟩ | ⟨k, rfl, hk, e⟩
    · unfold okPut
      rw [e]
      simp only [Bool.false_and, Bool.false_eq_true, if_false]
      exact (change_out hL.k p h _).mono fun e w' k => by obtain ⟨rfl, rfl⟩ := k; exact BNext.of_below H rfl hb
    · unfold okPut
      rw [e, Int.toNat_natCast, Bool.true_and, upd2_updP]
      have hh : mayPut (g k) (f k) per s = true → g k = true ∧ s.toNat < per := fun h => by
        unfold mayPut at h
        simp only [Bool.and_eq_true, decide_eq_true_eq] at h
        exact ⟨h.1.1.1, by omega⟩
      refine (change_in hL.k k hk 35 #[.pointer (some ⟨w.heap.size + 1, 0, none⟩), .pointer (some ⟨w.heap.size, 0, none⟩)] (enters_of Tryd.func35 (by kernel_rfl) rfl) (g k) (if mayPut (g k) (f k) per s then upd (f k) s.toNat true else f k) (mayPut (g k) (f k) per s)
        (fun hm x hx => ?_) (put1 s hL hN (g k) (f k))).mono fun e w' k => ?_
      · rw [hm, if_pos rfl] at hx
        by_cases ex : x = s.toNat
        · rw [ex]; exact hh hm
        · rw [upd_ne _ _ ex] at hx
          exact H.ok k x hx
      · have k' := k.back hb
        cases hm : mayPut (g _) (f _) per s
        · rw [hm] at k'; exact k'
        · rw [hm] at k'
          simp only [if_true] at k' ⊢
          rw [upd_self] at k'
          exact k'
  replace hC := Lib.hid hC
  clear H hL hN hb b1
  generalize okPut per g f p s = ok at *
  obtain ⟨D, hD⟩ : ∃ D, D = BNext b per g (if ok then upd2 f p.toNat s.toNat true else f) w (.bool ok) := ⟨_, rfl⟩
  have hD1 := Lib.hid (show ∀ e w', D e w' → e = .returned (.bool ok) from fun e w' h => by rw [hD] at h; exact h.1)
  rw [← hD] at hC ⊢
  clear hD
  go_enter Tryd.func14, Tryd.ntmps14
  go_wp2_with fail
  refine hC.out.mono ?_
  intro e w2 hd
  obtain rfl := hD1.out e w2 hd
  replace hd := Lib.hid hd
  go_wp2
  exact hd.out
end
end Go.Proofs.YtkkjjdnlfdempaaDoor
