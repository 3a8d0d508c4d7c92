/- Contracts of the document's answers for layer caps: Within, Holds, Meets, Make. No statement is proved here. -/
import Derived.Test.YtikgeombccoahaaCapS
namespace Go.Proofs.Ytikgeombccoahaa
open Go.RowKit
set_option linter.unusedVariables false

/-- Does a region lie within bounds? -/
def hoP (x y : Int) (at_ sz : Nat) : Bool := decide (x ≤ at_ ∧ (at_ : Int) + sz ≤ y)
def meP (x y : Int) (at_ sz : Nat) : Bool := decide (max x at_ < min y ((at_ : Int) + sz))
def wiP (pm pm' : Nat) (x y x' y' : Int) : Bool := decide (pm &&& pm' = pm ∧ (y ≤ x ∨ (x' ≤ x ∧ y ≤ y')))
theorem de_bounds (e b t c : Nat) : 0 ≤ deB e b t c ∧ deB e b t c ≤ 4294967295 ∧ deB e b t c ≤ deT e b t c ∧ deT e b t c ≤ 4294967296 := by
  have h := te_bounds e b t c
  unfold deB deT
  split <;> omega

theorem may_of' {b t : Nat} (hb : b ≤ t) (ht : t ≤ 4294967296) : may b t = true := decide_eq_true ⟨hb, ht⟩

theorem rHolds_any (cu e b t pm ty rs at_ sz : Nat) (va : Bool) (W : World) (l0 : cu < 4294967296) (la : at_ < 4294967296) (lz : sz < 4294967296) :
    Calls Try.prog 24 #[.agg #[.int .u32 cu, .int .u8 e, .int .u16 b, .int .u16 t, .int .u16 pm, .int .u16 ty, .int .u32 rs, .bool va], .agg #[.int .u32 at_, .int .u32 sz]] W fun e' w' => e' = .returned (.bool (hoP (deB e b t cu) (deT e b t cu) at_ sz)) ∧ Below W.heap.size W w' := by
  have hR := Lib.hid (fun w => rRange_any cu e b t pm ty rs va w l0)
  have hbd := de_bounds e b t cu
  generalize deB e b t cu = x at *
  generalize deT e b t cu = y at *
  obtain ⟨b1, b2, b3, b4⟩ := hbd
  go_enter Try.func24, Try.ntmps24
  go_wp2_with fail
  refine (hR.out _).mono ?_
  rintro e' w1 ⟨rfl, h1⟩
  have p0 : w1.cell? ⟨W.heap.size + 1, 0, none⟩ = some (.int .u32 at_) := (h1.cell (by simp)).trans (by simp [go_sem])
  have p1 : w1.cell? ⟨W.heap.size + 1, 1, none⟩ = some (.int .u32 sz) := (h1.cell (by simp)).trans (by simp [go_sem])
  have hb := Lib.hid ((((Below.refl W.heap.size W).alloc (Nat.le_refl _) (.cells #[.int .u32 cu, .int .u8 e, .int .u16 b, .int .u16 t, .int .u16 pm, .int .u16 ty, .int .u32 rs, .bool va] 25)).alloc (by simp) (.cells #[.int .u32 at_, .int .u32 sz] 33)).trans (h1.mono (by simp <;> omega)))
  clear h1
  go_wp2_with fail
  all_goals go_ret
  all_goals
    refine ⟨ret_bool ?_, hb.out⟩
    rw [Bool.eq_iff_iff]
    simp only [hoP, decide_eq_true_eq, Bool.false_eq_true, false_iff]
    omega

theorem rMeets_any (cu e b t pm ty rs at_ sz : Nat) (va : Bool) (W : World) (l0 : cu < 4294967296) (la : at_ < 4294967296) (lz : sz < 4294967296) :
    Calls Try.prog 26 #[.agg #[.int .u32 cu, .int .u8 e, .int .u16 b, .int .u16 t, .int .u16 pm, .int .u16 ty, .int .u32 rs, .bool va], .agg #[.int .u32 at_, .int .u32 sz]] W fun e' w' => e' = .returned (.bool (meP (deB e b t cu) (deT e b t cu) at_ sz)) ∧ Below W.heap.size W w' := by
  have hR := Lib.hid (fun w => rRange_any cu e b t pm ty rs va w l0)
  have hbd := de_bounds e b t cu
  generalize deB e b t cu = x at *
  generalize deT e b t cu = y at *
  obtain ⟨b1, b2, b3, b4⟩ := hbd
  go_enter Try.func26, Try.ntmps26
  go_wp2_with fail
  refine (hR.out _).mono ?_
  rintro e' w1 ⟨rfl, h1⟩
  have p0 : w1.cell? ⟨W.heap.size + 1, 0, none⟩ = some (.int .u32 at_) := (h1.cell (by simp)).trans (by simp [go_sem])
  have p1 : w1.cell? ⟨W.heap.size + 1, 1, none⟩ = some (.int .u32 sz) := (h1.cell (by simp)).trans (by simp [go_sem])
  have hb := Lib.hid ((((Below.refl W.heap.size W).alloc (Nat.le_refl _) (.cells #[.int .u32 cu, .int .u8 e, .int .u16 b, .int .u16 t, .int .u16 pm, .int .u16 ty, .int .u32 rs, .bool va] 25)).alloc (by simp) (.cells #[.int .u32 at_, .int .u32 sz] 33)).trans (h1.mono (by simp <;> omega)))
  clear h1
  go_wp2_with fail
  all_goals go_ret
  all_goals
    refine ⟨ret_bool ?_, hb.out⟩
    rw [Bool.eq_iff_iff]
    simp only [meP, decide_eq_true_eq]
    omega

theorem rWithin_any (cu e b t pm ty rs : Nat) (va : Bool) (cu' e' b' t' pm' ty' rs' : Nat) (va' : Bool) (W : World) (l0 : cu < 4294967296) (l0' : cu' < 4294967296) (l4 : pm < 65536) (l4' : pm' < 65536) :
    Calls Try.prog 28 #[.agg #[.int .u32 cu, .int .u8 e, .int .u16 b, .int .u16 t, .int .u16 pm, .int .u16 ty, .int .u32 rs, .bool va], .agg #[.int .u32 cu', .int .u8 e', .int .u16 b', .int .u16 t', .int .u16 pm', .int .u16 ty', .int .u32 rs', .bool va']] W fun ee w' => ee = .returned (.bool (wiP pm pm' (deB e b t cu) (deT e b t cu) (deB e' b' t' cu') (deT e' b' t' cu'))) ∧ Below W.heap.size W w' := by
  have hR := Lib.hid (fun w => rRange_any cu e b t pm ty rs va w l0)
  have hR' := Lib.hid (fun w => rRange_any cu' e' b' t' pm' ty' rs' va' w l0')
  have hand := u16_and_nat pm pm' l4 l4'
  have hbd := de_bounds e b t cu
  have hbd' := de_bounds e' b' t' cu'
  generalize deB e b t cu = x at *
  generalize deT e b t cu = y at *
  generalize deB e' b' t' cu' = x' at *
  generalize deT e' b' t' cu' = y' at *
  have hw : wiP pm pm' x y x' y' = (decide (pm &&& pm' = pm) && (decide (y ≤ x) || (decide (x' ≤ x) && decide (y ≤ y')))) := by
    rw [Bool.eq_iff_iff]; simp [wiP]
  rw [hw]
  generalize pm &&& pm' = q at *
  obtain ⟨b1, b2, b3, b4⟩ := hbd
  obtain ⟨c1, c2, c3, c4⟩ := hbd'
  go_enter Try.func28, Try.ntmps28
  go_wp2_with fail
  refine (hR.out _).mono ?_
  rintro ee w1 ⟨rfl, h1⟩
  have p0 : w1.cell? ⟨W.heap.size + 1, 0, none⟩ = some (.int .u32 cu') := (h1.cell (by simp <;> omega)).trans (by simp [go_sem])
  have p1 : w1.cell? ⟨W.heap.size + 1, 1, none⟩ = some (.int .u8 e') := (h1.cell (by simp <;> omega)).trans (by simp [go_sem])
  have p2 : w1.cell? ⟨W.heap.size + 1, 2, none⟩ = some (.int .u16 b') := (h1.cell (by simp <;> omega)).trans (by simp [go_sem])
  have p3 : w1.cell? ⟨W.heap.size + 1, 3, none⟩ = some (.int .u16 t') := (h1.cell (by simp <;> omega)).trans (by simp [go_sem])
  have p4 : w1.cell? ⟨W.heap.size + 1, 4, none⟩ = some (.int .u16 pm') := (h1.cell (by simp <;> omega)).trans (by simp [go_sem])
  have p5 : w1.cell? ⟨W.heap.size + 1, 5, none⟩ = some (.int .u16 ty') := (h1.cell (by simp <;> omega)).trans (by simp [go_sem])
  have p6 : w1.cell? ⟨W.heap.size + 1, 6, none⟩ = some (.int .u32 rs') := (h1.cell (by simp <;> omega)).trans (by simp [go_sem])
  have p7 : w1.cell? ⟨W.heap.size + 1, 7, none⟩ = some (.bool va') := (h1.cell (by simp <;> omega)).trans (by simp [go_sem])
  have r4 : w1.cell? ⟨W.heap.size, 4, none⟩ = some (.int .u16 pm) := (h1.cell (by simp <;> omega)).trans (by simp [go_sem])
  have hs := Lib.hid (show W.heap.size + 2 ≤ w1.heap.size from by have := h1.size; simp at this; omega)
  have hb := Lib.hid ((((Below.refl W.heap.size W).alloc (Nat.le_refl _) (.cells #[.int .u32 cu, .int .u8 e, .int .u16 b, .int .u16 t, .int .u16 pm, .int .u16 ty, .int .u32 rs, .bool va] 25)).alloc (by simp) (.cells #[.int .u32 cu', .int .u8 e', .int .u16 b', .int .u16 t', .int .u16 pm', .int .u16 ty', .int .u32 rs', .bool va'] 25)).trans (h1.mono (by simp <;> omega)))
  clear h1
  go_wp2_with fail
  refine (hR'.out _).mono ?_
  rintro ee w2 ⟨rfl, h2⟩
  have hs' := hs.out
  replace r4 : w2.cell? ⟨W.heap.size, 4, none⟩ = some (.int .u16 pm) := (h2.cell (by show W.heap.size < _; omega)).trans r4
  replace p4 : w2.cell? ⟨W.heap.size + 1, 4, none⟩ = some (.int .u16 pm') := (h2.cell (by show W.heap.size + 1 < _; omega)).trans p4
  replace hb := Lib.hid (hb.out.trans (h2.mono hb.out.size))
  clear h2 p0 p1 p2 p3 p5 p6 p7 hs hs'
  go_wp2_with fail
  all_goals go_ret
  all_goals
    refine ⟨ret_bool ?_, hb.out⟩
    rw [Bool.eq_iff_iff]
    simp
    omega
/-- Is there a capability of just this region, with these permissions? -/
def mkP (at_ sz pm : Nat) : Bool := decide (pm ≤ 255 ∧ at_ + sz ≤ 4294967296) && enX at_ (at_ + sz)
theorem rMake_no (at_ sz pm : Nat) (W : World) (la : at_ < 4294967296) (lz : sz < 4294967296) (h : mkP at_ sz pm = false) :
    Calls Try.prog 30 #[.agg #[.int .u32 at_, .int .u32 sz], .int .u16 pm] W fun ee w' => ee = .returned (.tuple #[.agg #[.int .u32 0, .int .u8 0, .int .u16 0, .int .u16 0, .int .u16 0, .int .u16 0, .int .u32 0, .bool false], .bool false]) ∧ Below W.heap.size W w' := by
  by_cases c1 : (pm : Int) ≤ 255
  · by_cases c2 : (at_ : Int) + sz ≤ 4294967296
    · have hx : enX at_ (at_ + sz) = false := by
        unfold mkP at h
        rwa [decide_eq_true (by omega), Bool.true_and] at h
      have hE := Lib.hid (fun w => rEncode_any at_ (at_ + sz) w la (by omega))
      rw [hx, may_of' (show at_ ≤ at_ + sz by omega) (show at_ + sz ≤ 4294967296 by omega), Int.natCast_add] at hE
      generalize enE at_ (at_ + sz) = x at *
      generalize enB at_ (at_ + sz) = y at *
      generalize enT at_ (at_ + sz) = z at *
      clear h hx
      go_enter Try.func30, Try.ntmps30
      go_wp2_with fail
      refine (hE.out _).mono ?_
      rintro ee w1 ⟨rfl, n1, rfl⟩
      go_wp2_with fail
      obtain ⟨w2, hw2⟩ : ∃ w2, w2 = (((W.alloc (.cells #[.int .u32 at_, .int .u32 sz] 33)).alloc (.cells #[.int .u32 0, .int .u8 0, .int .u16 0, .int .u16 0, .int .u16 0, .int .u16 0, .int .u32 0, .bool false] 25)).drewN n1) := ⟨_, rfl⟩
      change bodyPost _ _ _ _ _ (setRow (W.heap.size + 1) 0 [.int .u32 0, .int .u8 0, .int .u16 0, .int .u16 0, .int .u16 0, .int .u16 0, .int .u32 0, .bool false] (((W.alloc (.cells #[.int .u32 at_, .int .u32 sz] 33)).alloc (.cells #[.int .u32 0, .int .u8 0, .int .u16 0, .int .u16 0, .int .u16 0, .int .u16 0, .int .u32 0, .bool false] 25)).drewN n1))
      have hb2 : Below W.heap.size W w2 := by rw [hw2]; exact below_drewN (((Below.refl _ _).alloc (Nat.le_refl _) _).alloc (by simp) _) _
      have ha : ∀ j, j < 8 → (w2.cell? ⟨W.heap.size + 1, j, none⟩).isSome = true := fun j hj => by
        rw [hw2]
        show (World.cell? ((W.alloc (.cells #[.int .u32 at_, .int .u32 sz] 33)).alloc (.cells #[.int .u32 0, .int .u8 0, .int .u16 0, .int .u16 0, .int .u16 0, .int .u16 0, .int .u32 0, .bool false] 25)) ⟨W.heap.size + 1, j, none⟩).isSome = true
        have : j = 0 ∨ j = 1 ∨ j = 2 ∨ j = 3 ∨ j = 4 ∨ j = 5 ∨ j = 6 ∨ j = 7 := by omega
        rcases this with rfl | rfl | rfl | rfl | rfl | rfl | rfl | rfl <;> simp [go_sem]
      rw [← hw2]
      obtain ⟨W3, hW3⟩ : ∃ W3, W3 = setRow (W.heap.size + 1) 0 [.int .u32 0, .int .u8 0, .int .u16 0, .int .u16 0, .int .u16 0, .int .u16 0, .int .u32 0, .bool false] w2 := ⟨_, rfl⟩
      have hc8 : ∀ j u, [.int .u32 0, .int .u8 0, .int .u16 0, .int .u16 0, .int .u16 0, .int .u16 0, .int .u32 0, .bool false][j]? = some u → W3.cell? ⟨W.heap.size + 1, j, none⟩ = some u := fun j u hu => by
        rw [hW3]
        have := setRow_cell (W.heap.size + 1) [.int .u32 0, .int .u8 0, .int .u16 0, .int .u16 0, .int .u16 0, .int .u16 0, .int .u32 0, .bool false] 0 j u w2 (fun j' hj' => by rw [Nat.zero_add]; exact ha j' (by simpa using hj')) hu
        rwa [Nat.zero_add] at this
      have hb3 : Below W.heap.size W W3 := by
        rw [hW3]
        exact (((((((hb2.setCell (by simp) _).setCell (by simp) _).setCell (by simp) _).setCell (by simp) _).setCell (by simp) _).setCell (by simp) _).setCell (by simp) _).setCell (by simp) _
      rw [← hW3]
      have r0 := hc8 0 _ rfl
      have r1 := hc8 1 _ rfl
      have r2 := hc8 2 _ rfl
      have r3 := hc8 3 _ rfl
      have r4 := hc8 4 _ rfl
      have r5 := hc8 5 _ rfl
      have r6 := hc8 6 _ rfl
      have r7 := hc8 7 _ rfl
      exact bodyPost_ret (v := .tuple #[.agg #[.int .u32 0, .int .u8 0, .int .u16 0, .int .u16 0, .int .u16 0, .int .u16 0, .int .u32 0, .bool false], .bool false]) (by simp [results, Try.results30, go_sem, r0, r1, r2, r3, r4, r5, r6, r7]) rfl ⟨rfl, hb3⟩
    · clear h
      go_enter Try.func30, Try.ntmps30
      go_wp2_with fail
      exact bodyPost_ret (v := .tuple #[.agg #[.int .u32 0, .int .u8 0, .int .u16 0, .int .u16 0, .int .u16 0, .int .u16 0, .int .u32 0, .bool false], .bool false]) (by simp [results, Try.results30, go_sem]) rfl ⟨rfl, by go_grown⟩
  · clear h
    go_enter Try.func30, Try.ntmps30
    go_wp2_with fail
    exact bodyPost_ret (v := .tuple #[.agg #[.int .u32 0, .int .u8 0, .int .u16 0, .int .u16 0, .int .u16 0, .int .u16 0, .int .u32 0, .bool false], .bool false]) (by simp [results, Try.results30, go_sem]) rfl ⟨rfl, by go_grown⟩
theorem rMake_yes (at_ sz pm : Nat) (W : World) (la : at_ < 4294967296) (lz : sz < 4294967296) (h : mkP at_ sz pm = true) :
    Calls Try.prog 30 #[.agg #[.int .u32 at_, .int .u32 sz], .int .u16 pm] W fun ee w' => ee = .returned (.tuple #[.agg #[.int .u32 at_, .int .u8 (enE at_ (at_ + sz)), .int .u16 (enB at_ (at_ + sz)), .int .u16 (enT at_ (at_ + sz)), .int .u16 pm, .int .u16 0, .int .u32 0, .bool true], .bool true]) ∧ Below W.heap.size W w' := by
  unfold mkP at h
  rw [Bool.and_eq_true] at h
  have hd := of_decide_eq_true h.1
  have hx := h.2
  have c1 : (pm : Int) ≤ 255 := by omega
  have c2 : (at_ : Int) + sz ≤ 4294967296 := by omega
  have hE := Lib.hid (fun w => rEncode_any at_ (at_ + sz) w la (by omega))
  rw [hx, may_of' (show at_ ≤ at_ + sz by omega) hd.2, Int.natCast_add] at hE
  generalize enE at_ (at_ + sz) = x at *
  generalize enB at_ (at_ + sz) = y at *
  generalize enT at_ (at_ + sz) = z at *
  clear h hd hx
  go_enter Try.func30, Try.ntmps30
  go_wp2_with fail
  refine (hE.out _).mono ?_
  rintro ee w1 ⟨rfl, n1, rfl⟩
  go_wp2_with fail
  obtain ⟨w2, hw2⟩ : ∃ w2, w2 = (((W.alloc (.cells #[.int .u32 at_, .int .u32 sz] 33)).alloc (.cells #[.int .u32 0, .int .u8 0, .int .u16 0, .int .u16 0, .int .u16 0, .int .u16 0, .int .u32 0, .bool false] 25)).drewN n1) := ⟨_, rfl⟩
  change bodyPost _ _ _ _ _ (setRow (W.heap.size + 1) 0 [.int .u32 at_, .int .u8 x, .int .u16 y, .int .u16 z, .int .u16 pm, .int .u16 0, .int .u32 0, .bool true] (((W.alloc (.cells #[.int .u32 at_, .int .u32 sz] 33)).alloc (.cells #[.int .u32 0, .int .u8 0, .int .u16 0, .int .u16 0, .int .u16 0, .int .u16 0, .int .u32 0, .bool false] 25)).drewN n1))
  have hb2 : Below W.heap.size W w2 := by rw [hw2]; exact below_drewN (((Below.refl _ _).alloc (Nat.le_refl _) _).alloc (by simp) _) _
  have ha : ∀ j, j < 8 → (w2.cell? ⟨W.heap.size + 1, j, none⟩).isSome = true := fun j hj => by
    rw [hw2]
    show (World.cell? ((W.alloc (.cells #[.int .u32 at_, .int .u32 sz] 33)).alloc (.cells #[.int .u32 0, .int .u8 0, .int .u16 0, .int .u16 0, .int .u16 0, .int .u16 0, .int .u32 0, .bool false] 25)) ⟨W.heap.size + 1, j, none⟩).isSome = true
    have : j = 0 ∨ j = 1 ∨ j = 2 ∨ j = 3 ∨ j = 4 ∨ j = 5 ∨ j = 6 ∨ j = 7 := by omega
    rcases this with rfl | rfl | rfl | rfl | rfl | rfl | rfl | rfl <;> simp [go_sem]
  rw [← hw2]
  obtain ⟨W3, hW3⟩ : ∃ W3, W3 = setRow (W.heap.size + 1) 0 [.int .u32 at_, .int .u8 x, .int .u16 y, .int .u16 z, .int .u16 pm, .int .u16 0, .int .u32 0, .bool true] w2 := ⟨_, rfl⟩
  have hc8 : ∀ j u, [.int .u32 at_, .int .u8 x, .int .u16 y, .int .u16 z, .int .u16 pm, .int .u16 0, .int .u32 0, .bool true][j]? = some u → W3.cell? ⟨W.heap.size + 1, j, none⟩ = some u := fun j u hu => by
    rw [hW3]
    have := setRow_cell (W.heap.size + 1) [.int .u32 at_, .int .u8 x, .int .u16 y, .int .u16 z, .int .u16 pm, .int .u16 0, .int .u32 0, .bool true] 0 j u w2 (fun j' hj' => by rw [Nat.zero_add]; exact ha j' (by simpa using hj')) hu
    rwa [Nat.zero_add] at this
  have hb3 : Below W.heap.size W W3 := by
    rw [hW3]
    exact (((((((hb2.setCell (by simp) _).setCell (by simp) _).setCell (by simp) _).setCell (by simp) _).setCell (by simp) _).setCell (by simp) _).setCell (by simp) _).setCell (by simp) _
  rw [← hW3]
  have r0 := hc8 0 _ rfl
  have r1 := hc8 1 _ rfl
  have r2 := hc8 2 _ rfl
  have r3 := hc8 3 _ rfl
  have r4 := hc8 4 _ rfl
  have r5 := hc8 5 _ rfl
  have r6 := hc8 6 _ rfl
  have r7 := hc8 7 _ rfl
  exact bodyPost_ret (v := .tuple #[.agg #[.int .u32 at_, .int .u8 x, .int .u16 y, .int .u16 z, .int .u16 pm, .int .u16 0, .int .u32 0, .bool true], .bool true]) (by simp [results, Try.results30, go_sem, r0, r1, r2, r3, r4, r5, r6, r7]) rfl ⟨rfl, hb3⟩
end Go.Proofs.Ytikgeombccoahaa
