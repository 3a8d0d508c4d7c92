/- Contracts of the document's answers for layer caps: Within, Holds, Meets, Make. No statement is proved here.; Contracts of caps' end, Number, Range, Sound, IsNumber, Holds, Meets, Within. No statement is proved here.; Contracts of caps' Make. No statement is proved here. -/
import Derived.Deep.RegionHeld3
import Derived.Test.YtkmgdfcambdeeaaGreatDoorPad
import Derived.Test.YtkmgdfcambdeeaaGreatDoorPae
namespace Go.Proofs.YtkmgdfcambdeeaaGreatDoor
open Go.RowKit
set_option linter.unusedVariables false

/-- Does a region lie within bounds? -/
def hoP (x y : Int) (at_ sz : Nat) : Bool := decide (x ≤ at_ ∧ (at_ : Int) + sz ≤ y)
def wiP (pm pm' : Nat) (x y x' y' : Int) : Bool := decide (pm &&& pm' = pm ∧ (y ≤ x ∨ (x' ≤ x ∧ y ≤ y')))
theorem de_bounds (e b t c : Nat) : 0 ≤ deB e b t c ∧ deB e b t c ≤ 4294967295 ∧ deB e b t c ≤ deT e b t c ∧ deT e b t c ≤ 4294967296 := by
  have h := te_bounds e b t c
  unfold deB deT
  split <;> omega

/-- Is there a capability of just this region, with these permissions? -/
def mkP (at_ sz pm : Nat) : Bool := decide (pm ≤ 255 ∧ at_ + sz ≤ 4294967296) && enX at_ (at_ + sz)
end Go.Proofs.YtkmgdfcambdeeaaGreatDoor
namespace Go.Proofs.YtkmgdfcambdeeaaGreatDoor
open Go.RowKit
set_option linter.unusedVariables false

theorem pend_any (at_ sz : Nat) (W : World) (la : at_ < 4294967296) (lz : sz < 4294967296) :
    Calls Tryz.prog 124 #[.agg #[.int .u32 at_, .int .u32 sz]] W fun e' w' => e' = .returned (.int .u64 ((at_ + sz : Nat) : Int)) ∧ Below W.heap.size W w' := by
  go_enter Tryz.func124, Tryz.ntmps124
  go_wp2
  go_ret
  exact ⟨ret_int (by omega), by go_grown⟩

theorem pNumber_any (v : Nat) (lv : v < 4294967296) (W : World) : Calls Tryz.prog 28 #[.int .u32 v] W fun ee w' => ee = .returned (.agg #[.int .u32 v, .int .u8 0, .int .u16 0, .int .u16 0, .int .u16 0, .int .u16 0, .int .u32 0, .bool false]) ∧ Below W.heap.size W w' := by
  go_enter Tryz.func28, Tryz.ntmps28
  go_wp2_with fail
  exact bodyPost_ret (v := .agg #[.int .u32 v, .int .u8 0, .int .u16 0, .int .u16 0, .int .u16 0, .int .u16 0, .int .u32 0, .bool false]) (by simp [results, Tryz.results28, go_sem]) rfl ⟨rfl, by go_grown⟩

theorem pRange_any (cu e b t pm ty rs : Nat) (va : Bool) (l0 : cu < 4294967296) (l1 : e < 256) (l2 : b < 65536) (l3 : t < 65536) (l4 : pm < 65536) (l5 : ty < 65536) (l6 : rs < 4294967296) (W : World) : Calls Tryz.prog 122 #[.agg #[.int .u32 cu, .int .u8 e, .int .u16 b, .int .u16 t, .int .u16 pm, .int .u16 ty, .int .u32 rs, .bool va]] W fun ee w' => ee = .returned (.tuple #[.int .u32 (deB e b t cu), .int .u64 (deT e b t cu)]) ∧ Below W.heap.size W w' := by
  have hD := Lib.hid (fun w => Decode_any e b t cu w l0)
  generalize deB e b t cu = x at *
  generalize deT e b t cu = y at *
  have hb0 := Lib.hid ((Below.refl W.heap.size W).alloc (Nat.le_refl _) (.cells #[.int .u32 cu, .int .u8 e, .int .u16 b, .int .u16 t, .int .u16 pm, .int .u16 ty, .int .u32 rs, .bool va] 25))
  go_enter Tryz.func122, Tryz.ntmps122
  go_wp2_with fail
  refine (hD.out _).mono ?_
  rintro e' w1 ⟨rfl, h1⟩
  replace h1 := Lib.hid h1
  go_wp2_with fail
  go_ret2
  exact ⟨rfl, hb0.out.trans (h1.out.mono hb0.out.size)⟩

theorem pSound_any (cu e b t pm ty rs : Nat) (va : Bool) (l0 : cu < 4294967296) (l1 : e < 256) (l2 : b < 65536) (l3 : t < 65536) (l4 : pm < 65536) (l5 : ty < 65536) (l6 : rs < 4294967296) (W : World) : Calls Tryz.prog 61 #[.agg #[.int .u32 cu, .int .u8 e, .int .u16 b, .int .u16 t, .int .u16 pm, .int .u16 ty, .int .u32 rs, .bool va]] W fun ee w' => ee = .returned (.bool (sndP e b t pm ty rs)) ∧ Below W.heap.size W w' := by
  obtain ⟨z, hz⟩ : ∃ z, z = sndP e b t pm ty rs := ⟨_, rfl⟩
  rw [← hz]
  rcases first6 ((e : Int) ≤ 21) ((b : Int) < 4096) ((t : Int) < 4096) ((pm : Int) ≤ 255) ((ty : Int) < 4096) ((rs : Int) < 16777216) with ⟨c1, c2, c3, c4, c5, c6⟩ | c1 | ⟨c1, c2⟩ | ⟨c1, c2, c3⟩ | ⟨c1, c2, c3, c4⟩ | ⟨c1, c2, c3, c4, c5⟩ | ⟨c1, c2, c3, c4, c5, c6⟩
  · rw [show z = true from by rw [hz]; exact decide_eq_true (by omega)]
    clear hz
    go_enter Tryz.func61, Tryz.ntmps61
    go_wp2
    go_ret
    refine ⟨?_, by go_grown⟩
    first | rfl | (show Ending.returned (.bool (decide ((rs : Int) < 16777216))) = _; rw [decide_eq_true c6])
  all_goals
    rw [show z = false from by rw [hz]; exact decide_eq_false (by omega)]
    clear hz
    go_enter Tryz.func61, Tryz.ntmps61
    go_wp2
    go_ret
    refine ⟨?_, by go_grown⟩
    first | rfl | (show Ending.returned (.bool (decide ((rs : Int) < 16777216))) = _; rw [decide_eq_false (by omega)])

/-- What is kept beside the cells. -/
def SB1 (W w : World) : Prop := Below W.heap.size W w ∧ W.heap.size < w.heap.size
theorem SB1.drew {W w : World} (h : SB1 W w) : SB1 W w.drew := ⟨h.1.drew, h.2⟩
theorem SB1.below {W w w' : World} (h : SB1 W w) (k : Below w.heap.size w w') : SB1 W w' := ⟨h.1.trans (k.mono (Nat.le_of_lt h.2)), Nat.lt_of_lt_of_le h.2 k.size⟩

/-- A region in a box. -/
structure RegAt (w : World) (bx : Nat) (at_ sz : Nat) : Prop where
  q0 : w.cell? ⟨bx, 0, none⟩ = some (.int .u32 at_)
  q1 : w.cell? ⟨bx, 1, none⟩ = some (.int .u32 sz)
theorem RegAt.below {w w' : World} {bx B : Nat} {at_ sz : Nat} (h : RegAt w bx at_ sz) (k : Below B w w') (hb : bx < B) : RegAt w' bx at_ sz :=
  ⟨(k.cell hb).trans h.q0, (k.cell hb).trans h.q1⟩
end Go.Proofs.YtkmgdfcambdeeaaGreatDoor
namespace Go.Proofs.YtkmgdfcambdeeaaGreatDoor
open Go.RowKit
set_option linter.unusedVariables false

/-- What Make keeps beside the region's cells. -/
def SM (W w : World) : Prop := Below W.heap.size W w ∧ W.heap.size + 1 < w.heap.size ∧ CapAt w (W.heap.size + 1) 0 0 0 0 0 0 0 false ∧ ∀ k, w.frozen? ⟨W.heap.size + 1, k, none⟩ = false
theorem SM.drew {W w : World} (h : SM W w) : SM W w.drew := ⟨h.1.drew, h.2.1, ⟨h.2.2.1.q0, h.2.2.1.q1, h.2.2.1.q2, h.2.2.1.q3, h.2.2.1.q4, h.2.2.1.q5, h.2.2.1.q6, h.2.2.1.q7⟩, h.2.2.2⟩
theorem SM.below {W w w' : World} (h : SM W w) (k : Below w.heap.size w w') : SM W w' := by
  obtain ⟨h1, h2, h3, h4⟩ := h
  exact ⟨h1.trans (k.mono (by omega)), Nat.lt_of_lt_of_le h2 k.size, h3.below k h2, fun j => (k.frozen (p := ⟨W.heap.size + 1, j, none⟩) h2).trans (h4 j)⟩
theorem SM.first (W : World) (at_ sz : Nat) : SM W ((W.alloc (.cells #[.int .u32 at_, .int .u32 sz] 122)).alloc (.cells #[.int .u32 0, .int .u8 0, .int .u16 0, .int .u16 0, .int .u16 0, .int .u16 0, .int .u32 0, .bool false] 25)) :=
  ⟨((Below.refl _ _).alloc (Nat.le_refl _) _).alloc (by simp) _, by simp, ⟨by simp [go_sem], by simp [go_sem], by simp [go_sem], by simp [go_sem], by simp [go_sem], by simp [go_sem], by simp [go_sem], by simp [go_sem]⟩, fun k => by rw [World.frozen?_alloc_at (hn := by simp)]⟩

set_option maxHeartbeats 1000000 in
theorem pMake_yes (at_ sz pm : Nat) (la : at_ < 4294967296) (lz : sz < 4294967296) (lp : pm < 65536) (h : mkP at_ sz pm = true) (W : World) : Calls Tryz.prog 68 #[.agg #[.int .u32 at_, .int .u32 sz], .int .u16 pm] W fun ee w' => ee = .returned (.tuple #[.agg #[.int .u32 at_, .int .u8 (enE at_ (at_ + sz)), .int .u16 (enB at_ (at_ + sz)), .int .u16 (enT at_ (at_ + sz)), .int .u16 pm, .int .u16 0, .int .u32 0, .bool true], .bool true]) ∧ Below W.heap.size W w' := by
  have hE := Lib.hid (fun w => pend_any at_ sz w la lz)
  have hC := Lib.hid (fun w => Encode_any at_ (at_ + sz) w la (by omega))
  have hm : enX at_ (at_ + sz) = true → at_ + sz ≤ 4294967296 := fun hx => by simp [enX, may] at hx; omega
  have hcase : mkP at_ sz pm = (decide ((pm : Int) ≤ 255) && enX at_ (at_ + sz)) := by
    unfold mkP
    cases hx : enX at_ (at_ + sz)
    · simp
    · have := hm hx; rw [Bool.and_true, Bool.and_true]; exact decide_eq_decide.2 ⟨fun k => by omega, fun k => ⟨by omega, by omega⟩⟩
  rw [hcase] at h
  clear hcase hm
  generalize may at_ (at_ + sz) = mm at *
  generalize enE at_ (at_ + sz) = x at *
  generalize enB at_ (at_ + sz) = y at *
  generalize enT at_ (at_ + sz) = z at *
  generalize enX at_ (at_ + sz) = ex at *
  obtain ⟨n, hn⟩ : ∃ n : Int, n = ((at_ + sz : Nat) : Int) := ⟨_, rfl⟩
  rw [← hn] at hE hC
  clear hn
  have fE : ∀ w, (w.cell? ⟨W.heap.size, 0, none⟩ = some (.int .u32 at_) ∧ w.cell? ⟨W.heap.size, 1, none⟩ = some (.int .u32 sz) ∧ SM W w) → Calls Tryz.prog 124 #[.agg #[.int .u32 at_, .int .u32 sz]] w fun ee w' => ee = .returned (.int .u64 n) ∧ (w'.cell? ⟨W.heap.size, 0, none⟩ = some (.int .u32 at_) ∧ w'.cell? ⟨W.heap.size, 1, none⟩ = some (.int .u32 sz) ∧ SM W w') := fun w h => (hE.out w).mono fun ee w' ⟨h1, h2⟩ => by
    obtain ⟨c0, c1, hb⟩ := h
    exact ⟨h1, (h2.cell (by show W.heap.size < _; have := hb.2.1; omega)).trans c0, (h2.cell (by show W.heap.size < _; have := hb.2.1; omega)).trans c1, hb.below h2⟩
  have fC : ∀ w, (w.cell? ⟨W.heap.size, 0, none⟩ = some (.int .u32 at_) ∧ w.cell? ⟨W.heap.size, 1, none⟩ = some (.int .u32 sz) ∧ SM W w) → Calls Tryz.prog 123 #[.int .u32 at_, .int .u64 n] w fun ee w' => ee = .returned (.tuple #[.int .u8 x, .int .u16 y, .int .u16 z, .bool ex, .bool mm]) ∧ (w'.cell? ⟨W.heap.size, 0, none⟩ = some (.int .u32 at_) ∧ w'.cell? ⟨W.heap.size, 1, none⟩ = some (.int .u32 sz) ∧ SM W w') := fun w h => (hC.out w).mono fun ee w' ⟨h1, h2⟩ => by
    obtain ⟨c0, c1, hb⟩ := h
    exact ⟨h1, (h2.cell (by show W.heap.size < _; have := hb.2.1; omega)).trans c0, (h2.cell (by show W.heap.size < _; have := hb.2.1; omega)).trans c1, hb.below h2⟩
  replace fE := Lib.hid fE
  replace fC := Lib.hid fC
  clear hE hC
  have h0 : ((W.alloc (.cells #[.int .u32 at_, .int .u32 sz] 122)).alloc (.cells #[.int .u32 0, .int .u8 0, .int .u16 0, .int .u16 0, .int .u16 0, .int .u16 0, .int .u32 0, .bool false] 25)).cell? ⟨W.heap.size, 0, none⟩ = some (.int .u32 at_) ∧ ((W.alloc (.cells #[.int .u32 at_, .int .u32 sz] 122)).alloc (.cells #[.int .u32 0, .int .u8 0, .int .u16 0, .int .u16 0, .int .u16 0, .int .u16 0, .int .u32 0, .bool false] 25)).cell? ⟨W.heap.size, 1, none⟩ = some (.int .u32 sz) ∧ SM W ((W.alloc (.cells #[.int .u32 at_, .int .u32 sz] 122)).alloc (.cells #[.int .u32 0, .int .u8 0, .int .u16 0, .int .u16 0, .int .u16 0, .int .u16 0, .int .u32 0, .bool false] 25)) := ⟨by simp [go_sem], by simp [go_sem], SM.first W at_ sz⟩
  have hq : (pm : Int) ≤ 255 ∧ ex = true := by simpa using h
  clear h
  obtain ⟨hq, rfl⟩ := hq
  go_enter Tryz.func68, Tryz.ntmps68
  go_wp2_with fail
  generalize ((W.alloc (.cells #[.int .u32 at_, .int .u32 sz] 122)).alloc (.cells #[.int .u32 0, .int .u8 0, .int .u16 0, .int .u16 0, .int .u16 0, .int .u16 0, .int .u32 0, .bool false] 25)) = W1 at *
  obtain ⟨c0, c1, hb⟩ := h0
  go_region_held3 (fun w' => w'.cell? ⟨W.heap.size, 0, none⟩ = some (.int .u32 at_) ∧ w'.cell? ⟨W.heap.size, 1, none⟩ = some (.int .u32 sz) ∧ SM W w')
    (first | exact ⟨c0, c1, hb.drew⟩ | exact k1 | go_keep)
    (first | (go_at_call 124; refine (fE.out _ ?_).mono ?_; (first | assumption | simp [*]); rintro ee w1' ⟨rfl, k1⟩) | (go_at_call 123; refine (fC.out _ ?_).mono ?_; (first | assumption | simp [*]); rintro ee X ⟨rfl, k1⟩))
  obtain ⟨c0', c1', hk⟩ := k1
  obtain ⟨p0, p1, p2, p3, p4, p5, p6, p7⟩ := id hk.2.2.1
  have hf := hk.2.2.2
  replace hk := Lib.hid hk
  clear hb c0 c1 fE fC
  go_wp2_with fail
  have ha : ∀ j, j < 8 → (X.cell? ⟨W.heap.size + 1, j, none⟩).isSome = true := fun j hj => by
    have : j = 0 ∨ j = 1 ∨ j = 2 ∨ j = 3 ∨ j = 4 ∨ j = 5 ∨ j = 6 ∨ j = 7 := by omega
    rcases this with rfl | rfl | rfl | rfl | rfl | rfl | rfl | rfl <;> simp [p0, p1, p2, p3, p4, p5, p6, p7]
  have hbb := hk.out.1
  change bodyPost _ _ _ _ _ (setRow (W.heap.size + 1) 0 [.int .u32 at_, .int .u8 x, .int .u16 y, .int .u16 z, .int .u16 pm, .int .u16 0, .int .u32 0, .bool true] X)
  obtain ⟨W3, hW3⟩ : ∃ W3, W3 = setRow (W.heap.size + 1) 0 [.int .u32 at_, .int .u8 x, .int .u16 y, .int .u16 z, .int .u16 pm, .int .u16 0, .int .u32 0, .bool true] X := ⟨_, rfl⟩
  have hc8 : ∀ j u, [.int .u32 at_, .int .u8 x, .int .u16 y, .int .u16 z, .int .u16 pm, .int .u16 0, .int .u32 0, .bool true][j]? = some u → W3.cell? ⟨W.heap.size + 1, j, none⟩ = some u := fun j u hu => by
    rw [hW3]
    have := setRow_cell (W.heap.size + 1) [.int .u32 at_, .int .u8 x, .int .u16 y, .int .u16 z, .int .u16 pm, .int .u16 0, .int .u32 0, .bool true] 0 j u X (fun j' hj' => by rw [Nat.zero_add]; exact ha j' (by simpa using hj')) hu
    rwa [Nat.zero_add] at this
  have hb3 : Below W.heap.size W W3 := by
    rw [hW3]
    exact (((((((hbb.setCell (by simp) _).setCell (by simp) _).setCell (by simp) _).setCell (by simp) _).setCell (by simp) _).setCell (by simp) _).setCell (by simp) _).setCell (by simp) _
  rw [← hW3]
  have r0 := hc8 0 _ rfl
  have r1 := hc8 1 _ rfl
  have r2 := hc8 2 _ rfl
  have r3 := hc8 3 _ rfl
  have r4 := hc8 4 _ rfl
  have r5 := hc8 5 _ rfl
  have r6 := hc8 6 _ rfl
  have r7 := hc8 7 _ rfl
  exact bodyPost_ret (v := .tuple #[.agg #[.int .u32 at_, .int .u8 x, .int .u16 y, .int .u16 z, .int .u16 pm, .int .u16 0, .int .u32 0, .bool true], .bool true]) (by simp [results, Tryz.results68, go_sem, r0, r1, r2, r3, r4, r5, r6, r7]) rfl ⟨rfl, hb3⟩

end Go.Proofs.YtkmgdfcambdeeaaGreatDoor
