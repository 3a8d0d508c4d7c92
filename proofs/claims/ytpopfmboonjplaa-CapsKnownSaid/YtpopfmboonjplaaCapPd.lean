/- Contracts of caps' IsNumber, Holds, Meets, Within, Make. No statement is proved here. -/
import Derived.Test.YtpopfmboonjplaaCapPa
import Derived.Test.YtpopfmboonjplaaStr
namespace Go.Proofs.Ytpopfmboonjplaa
open Go.RowKit
set_option linter.unusedVariables false

theorem cap_eq' (d : Nat) (cu e b t pm ty rs : Int) (va : Bool) (cu' e' b' t' pm' ty' rs' : Int) (va' : Bool) (w : World) :
    (Op.equalIn (d + 1 + 1) 25 (.agg #[.int .u32 cu, .int .u8 e, .int .u16 b, .int .u16 t, .int .u16 pm, .int .u16 ty, .int .u32 rs, .bool va]) (.agg #[.int .u32 cu', .int .u8 e', .int .u16 b', .int .u16 t', .int .u16 pm', .int .u16 ty', .int .u32 rs', .bool va'])).run Try.prog w = .ok ((cu == cu') && ((e == e') && ((b == b') && ((t == t') && ((pm == pm') && ((ty == ty') && ((rs == rs') && ((va == va') && true)))))))) w := by
  rw [run_equalIn_struct w (d + 1) 25 _ _ (by kernel_rfl) (by kernel_rfl)]
  have hf : (Try.prog.fieldsOf 25).toList.map (fun f => (f.name, f.type, f.offset)) = [("Cursor", 22, 0), ("E", 5, 1), ("B", 23, 2), ("T", 23, 3), ("Perms", 23, 4), ("Type", 23, 5), ("Rest", 22, 6), ("Valid", 4, 7)] := by kernel_rfl
  have i32 : ∀ (x y : Int) w, (Op.equalIn (d + 1) 22 (.int .u32 x) (.int .u32 y)).run Try.prog w = .ok (x == y) w := fun x y w => run_equalIn_int w d 22 .u32 .u32 x y (by kernel_rfl)
  have i8 : ∀ (x y : Int) w, (Op.equalIn (d + 1) 5 (.int .u8 x) (.int .u8 y)).run Try.prog w = .ok (x == y) w := fun x y w => run_equalIn_int w d 5 .u8 .u8 x y (by kernel_rfl)
  have i16 : ∀ (x y : Int) w, (Op.equalIn (d + 1) 23 (.int .u16 x) (.int .u16 y)).run Try.prog w = .ok (x == y) w := fun x y w => run_equalIn_int w d 23 .u16 .u16 x y (by kernel_rfl)
  have ib : ∀ (x y : Bool) w, (Op.equalIn (d + 1) 4 (.bool x) (.bool y)).run Try.prog w = .ok (x == y) w := fun x y w => run_equalIn_bool w d 4 x y (by kernel_rfl)
  generalize (Try.prog.fieldsOf 25).toList = fs at *
  obtain ⟨f0, fs, rfl, hf0, hf⟩ := List.map_eq_cons_iff.1 hf
  obtain ⟨f1, fs, rfl, hf1, hf⟩ := List.map_eq_cons_iff.1 hf
  obtain ⟨f2, fs, rfl, hf2, hf⟩ := List.map_eq_cons_iff.1 hf
  obtain ⟨f3, fs, rfl, hf3, hf⟩ := List.map_eq_cons_iff.1 hf
  obtain ⟨f4, fs, rfl, hf4, hf⟩ := List.map_eq_cons_iff.1 hf
  obtain ⟨f5, fs, rfl, hf5, hf⟩ := List.map_eq_cons_iff.1 hf
  obtain ⟨f6, fs, rfl, hf6, hf⟩ := List.map_eq_cons_iff.1 hf
  obtain ⟨f7, fs, rfl, hf7, hf⟩ := List.map_eq_cons_iff.1 hf
  obtain rfl := List.map_eq_nil_iff.1 hf
  simp only [Prod.mk.injEq] at hf0 hf1 hf2 hf3 hf4 hf5 hf6 hf7
  refine eqF_step hf0 (by decide) (by kernel_rfl) (by kernel_rfl) (i32 _ _ _) ?_
  refine eqF_step hf1 (by decide) (by kernel_rfl) (by kernel_rfl) (i8 _ _ _) ?_
  refine eqF_step hf2 (by decide) (by kernel_rfl) (by kernel_rfl) (i16 _ _ _) ?_
  refine eqF_step hf3 (by decide) (by kernel_rfl) (by kernel_rfl) (i16 _ _ _) ?_
  refine eqF_step hf4 (by decide) (by kernel_rfl) (by kernel_rfl) (i16 _ _ _) ?_
  refine eqF_step hf5 (by decide) (by kernel_rfl) (by kernel_rfl) (i16 _ _ _) ?_
  refine eqF_step hf6 (by decide) (by kernel_rfl) (by kernel_rfl) (i32 _ _ _) ?_
  exact eqF_step hf7 (by decide) (by kernel_rfl) (by kernel_rfl) (ib _ _ _) eqF_nil
/-- Two capabilities are compared. -/
theorem cap_eq (cu e b t pm ty rs : Int) (va : Bool) (cu' e' b' t' pm' ty' rs' : Int) (va' : Bool) (w : World) :
    (Op.equalIn 10000 25 (.agg #[.int .u32 cu, .int .u8 e, .int .u16 b, .int .u16 t, .int .u16 pm, .int .u16 ty, .int .u32 rs, .bool va]) (.agg #[.int .u32 cu', .int .u8 e', .int .u16 b', .int .u16 t', .int .u16 pm', .int .u16 ty', .int .u32 rs', .bool va'])).run Try.prog w = .ok ((cu == cu') && ((e == e') && ((b == b') && ((t == t') && ((pm == pm') && ((ty == ty') && ((rs == rs') && ((va == va') && true)))))))) w := cap_eq' 9998 cu e b t pm ty rs va cu' e' b' t' pm' ty' rs' va' w

theorem pIsNumber_any (cu e b t pm ty rs : Nat) (va : Bool) (l0 : cu < 4294967296) (l1 : e < 256) (l2 : b < 65536) (l3 : t < 65536) (l4 : pm < 65536) (l5 : ty < 65536) (l6 : rs < 4294967296) (W : World) : Calls Try.prog 12 #[.agg #[.int .u32 cu, .int .u8 e, .int .u16 b, .int .u16 t, .int .u16 pm, .int .u16 ty, .int .u32 rs, .bool va]] W fun ee w' => ee = .returned (.bool (isNumP e b t pm ty rs va)) ∧ Below W.heap.size W w' := by
  have hN := Lib.hid (fun w => pNumber_any cu l0 w)
  have fN : ∀ w, (w.cell? ⟨W.heap.size, 0, none⟩ = some (.int .u32 cu) ∧ w.cell? ⟨W.heap.size, 1, none⟩ = some (.int .u8 e) ∧ w.cell? ⟨W.heap.size, 2, none⟩ = some (.int .u16 b) ∧ w.cell? ⟨W.heap.size, 3, none⟩ = some (.int .u16 t) ∧ w.cell? ⟨W.heap.size, 4, none⟩ = some (.int .u16 pm) ∧ w.cell? ⟨W.heap.size, 5, none⟩ = some (.int .u16 ty) ∧ w.cell? ⟨W.heap.size, 6, none⟩ = some (.int .u32 rs) ∧ w.cell? ⟨W.heap.size, 7, none⟩ = some (.bool va) ∧ SB1 W w) → Calls Try.prog 8 #[.int .u32 cu] w fun ee w' => ee = .returned (.agg #[.int .u32 cu, .int .u8 0, .int .u16 0, .int .u16 0, .int .u16 0, .int .u16 0, .int .u32 0, .bool false]) ∧ (w'.cell? ⟨W.heap.size, 0, none⟩ = some (.int .u32 cu) ∧ w'.cell? ⟨W.heap.size, 1, none⟩ = some (.int .u8 e) ∧ w'.cell? ⟨W.heap.size, 2, none⟩ = some (.int .u16 b) ∧ w'.cell? ⟨W.heap.size, 3, none⟩ = some (.int .u16 t) ∧ w'.cell? ⟨W.heap.size, 4, none⟩ = some (.int .u16 pm) ∧ w'.cell? ⟨W.heap.size, 5, none⟩ = some (.int .u16 ty) ∧ w'.cell? ⟨W.heap.size, 6, none⟩ = some (.int .u32 rs) ∧ w'.cell? ⟨W.heap.size, 7, none⟩ = some (.bool va) ∧ SB1 W w') := fun w h => (hN.out w).mono fun ee w' ⟨h1, h2⟩ => by
    obtain ⟨c0, c1, c2, c3, c4, c5, c6, c7, hb⟩ := h
    exact ⟨h1, (h2.cell hb.2).trans c0, (h2.cell hb.2).trans c1, (h2.cell hb.2).trans c2, (h2.cell hb.2).trans c3, (h2.cell hb.2).trans c4, (h2.cell hb.2).trans c5, (h2.cell hb.2).trans c6, (h2.cell hb.2).trans c7, hb.below h2⟩
  have hEq := fun w => cap_eq cu e b t pm ty rs va cu 0 0 0 0 0 0 false w
  have hz : ((cu : Int) == cu && (((e : Int) == 0) && (((b : Int) == 0) && (((t : Int) == 0) && (((pm : Int) == 0) && (((ty : Int) == 0) && (((rs : Int) == 0) && ((va == false) && true)))))))) = isNumP e b t pm ty rs va := by
    rw [Bool.eq_iff_iff]; simp [isNumP]
  rw [hz] at hEq
  clear hz
  generalize isNumP e b t pm ty rs va = z at *
  replace fN := Lib.hid fN
  clear hN
  have h0 : (W.alloc (.cells #[.int .u32 cu, .int .u8 e, .int .u16 b, .int .u16 t, .int .u16 pm, .int .u16 ty, .int .u32 rs, .bool va] 25)).cell? ⟨W.heap.size, 0, none⟩ = some (.int .u32 cu) ∧ (W.alloc (.cells #[.int .u32 cu, .int .u8 e, .int .u16 b, .int .u16 t, .int .u16 pm, .int .u16 ty, .int .u32 rs, .bool va] 25)).cell? ⟨W.heap.size, 1, none⟩ = some (.int .u8 e) ∧ (W.alloc (.cells #[.int .u32 cu, .int .u8 e, .int .u16 b, .int .u16 t, .int .u16 pm, .int .u16 ty, .int .u32 rs, .bool va] 25)).cell? ⟨W.heap.size, 2, none⟩ = some (.int .u16 b) ∧ (W.alloc (.cells #[.int .u32 cu, .int .u8 e, .int .u16 b, .int .u16 t, .int .u16 pm, .int .u16 ty, .int .u32 rs, .bool va] 25)).cell? ⟨W.heap.size, 3, none⟩ = some (.int .u16 t) ∧ (W.alloc (.cells #[.int .u32 cu, .int .u8 e, .int .u16 b, .int .u16 t, .int .u16 pm, .int .u16 ty, .int .u32 rs, .bool va] 25)).cell? ⟨W.heap.size, 4, none⟩ = some (.int .u16 pm) ∧ (W.alloc (.cells #[.int .u32 cu, .int .u8 e, .int .u16 b, .int .u16 t, .int .u16 pm, .int .u16 ty, .int .u32 rs, .bool va] 25)).cell? ⟨W.heap.size, 5, none⟩ = some (.int .u16 ty) ∧ (W.alloc (.cells #[.int .u32 cu, .int .u8 e, .int .u16 b, .int .u16 t, .int .u16 pm, .int .u16 ty, .int .u32 rs, .bool va] 25)).cell? ⟨W.heap.size, 6, none⟩ = some (.int .u32 rs) ∧ (W.alloc (.cells #[.int .u32 cu, .int .u8 e, .int .u16 b, .int .u16 t, .int .u16 pm, .int .u16 ty, .int .u32 rs, .bool va] 25)).cell? ⟨W.heap.size, 7, none⟩ = some (.bool va) ∧ SB1 W (W.alloc (.cells #[.int .u32 cu, .int .u8 e, .int .u16 b, .int .u16 t, .int .u16 pm, .int .u16 ty, .int .u32 rs, .bool va] 25)) := ⟨by simp [go_sem], by simp [go_sem], by simp [go_sem], by simp [go_sem], by simp [go_sem], by simp [go_sem], by simp [go_sem], by simp [go_sem], (Below.refl _ _).alloc (Nat.le_refl _) _, by simp⟩
  go_enter Try.func12, Try.ntmps12
  go_wp2_with fail
  generalize (W.alloc (.cells #[.int .u32 cu, .int .u8 e, .int .u16 b, .int .u16 t, .int .u16 pm, .int .u16 ty, .int .u32 rs, .bool va] 25)) = W1 at *
  obtain ⟨c0, c1, c2, c3, c4, c5, c6, c7, hb⟩ := h0
  go_region_held3 (fun w' => w'.cell? ⟨W.heap.size, 0, none⟩ = some (.int .u32 cu) ∧ w'.cell? ⟨W.heap.size, 1, none⟩ = some (.int .u8 e) ∧ w'.cell? ⟨W.heap.size, 2, none⟩ = some (.int .u16 b) ∧ w'.cell? ⟨W.heap.size, 3, none⟩ = some (.int .u16 t) ∧ w'.cell? ⟨W.heap.size, 4, none⟩ = some (.int .u16 pm) ∧ w'.cell? ⟨W.heap.size, 5, none⟩ = some (.int .u16 ty) ∧ w'.cell? ⟨W.heap.size, 6, none⟩ = some (.int .u32 rs) ∧ w'.cell? ⟨W.heap.size, 7, none⟩ = some (.bool va) ∧ SB1 W w')
    (first | exact ⟨c0, c1, c2, c3, c4, c5, c6, c7, hb.drew⟩ | exact k1 | go_keep)
    (first | (go_at_call 8; refine (fN.out _ ?_).mono ?_; (first | assumption | simp [*]); rintro ee w1' ⟨rfl, k1⟩))
  obtain ⟨_, _, _, _, _, _, _, _, hk⟩ := k1
  replace hk := Lib.hid hk
  go_wp2_with fail
  go_ret
  exact ⟨rfl, hk.out.1⟩
theorem pHolds_any (cu e b t pm ty rs : Nat) (va : Bool) (at_ sz : Nat) (l0 : cu < 4294967296) (l1 : e < 256) (l2 : b < 65536) (l3 : t < 65536) (l4 : pm < 65536) (l5 : ty < 65536) (l6 : rs < 4294967296) (la : at_ < 4294967296) (lz : sz < 4294967296) (W : World) : Calls Try.prog 38 #[.agg #[.int .u32 cu, .int .u8 e, .int .u16 b, .int .u16 t, .int .u16 pm, .int .u16 ty, .int .u32 rs, .bool va], .agg #[.int .u32 at_, .int .u32 sz]] W fun ee w' => ee = .returned (.bool (hoP (deB e b t cu) (deT e b t cu) at_ sz)) ∧ Below W.heap.size W w' := by
  have hR := Lib.hid (fun w => pRange_any cu e b t pm ty rs va l0 l1 l2 l3 l4 l5 l6 w)
  have hbd := de_bounds e b t cu
  have hE := Lib.hid (fun w => pend_any at_ sz w la lz)
  generalize deB e b t cu = x at *
  generalize deT e b t cu = y at *
  obtain ⟨b1, b2, b3, b4⟩ := hbd
  have hb := Lib.hid (((Below.refl W.heap.size W).alloc (Nat.le_refl _) (.cells #[.int .u32 cu, .int .u8 e, .int .u16 b, .int .u16 t, .int .u16 pm, .int .u16 ty, .int .u32 rs, .bool va] 25)).alloc (by simp) (.cells #[.int .u32 at_, .int .u32 sz] 31))
  by_cases hx : x ≤ at_
  · go_enter Try.func38, Try.ntmps38
    go_wp2_with fail
    refine (hR.out _).mono ?_
    rintro e' w1 ⟨rfl, h1⟩
    have p0 : w1.cell? ⟨W.heap.size + 1, 0, none⟩ = some (.int .u32 at_) := (h1.cell (by simp)).trans (by simp [go_sem])
    have p1 : w1.cell? ⟨W.heap.size + 1, 1, none⟩ = some (.int .u32 sz) := (h1.cell (by simp)).trans (by simp [go_sem])
    replace hb := Lib.hid (hb.out.trans (h1.mono hb.out.size))
    clear h1
    go_wp2_with fail
    refine (hE.out _).mono ?_
    rintro e' w2 ⟨rfl, h2⟩
    replace hb := Lib.hid (hb.out.trans (h2.mono hb.out.size))
    clear h2 p0 p1
    go_wp2_with fail
    all_goals go_ret
    all_goals
      refine ⟨ret_bool ?_, hb.out⟩
      rw [Bool.eq_iff_iff]
      simp only [hoP, decide_eq_true_eq]
      omega
  · go_enter Try.func38, Try.ntmps38
    go_wp2_with fail
    refine (hR.out _).mono ?_
    rintro e' w1 ⟨rfl, h1⟩
    have p0 : w1.cell? ⟨W.heap.size + 1, 0, none⟩ = some (.int .u32 at_) := (h1.cell (by simp)).trans (by simp [go_sem])
    have p1 : w1.cell? ⟨W.heap.size + 1, 1, none⟩ = some (.int .u32 sz) := (h1.cell (by simp)).trans (by simp [go_sem])
    replace hb := Lib.hid (hb.out.trans (h1.mono hb.out.size))
    clear h1
    go_wp2_with fail
    all_goals go_ret
    all_goals
      refine ⟨ret_bool ?_, hb.out⟩
      rw [Bool.eq_iff_iff]
      simp only [hoP, decide_eq_true_eq, Bool.false_eq_true, false_iff]
      omega

/-- What is kept beside the cells of a second box. -/
def SB3 (W w : World) : Prop := Below W.heap.size W w ∧ W.heap.size + 1 < w.heap.size
theorem SB3.drew {W w : World} (h : SB3 W w) : SB3 W w.drew := ⟨h.1.drew, h.2⟩
theorem SB3.below {W w w' : World} (h : SB3 W w) (k : Below w.heap.size w w') : SB3 W w' := ⟨h.1.trans (k.mono (by have := h.2; omega)), Nat.lt_of_lt_of_le h.2 k.size⟩

set_option maxHeartbeats 1000000 in
theorem pMeets_any (cu e b t pm ty rs : Nat) (va : Bool) (at_ sz : Nat) (l0 : cu < 4294967296) (l1 : e < 256) (l2 : b < 65536) (l3 : t < 65536) (l4 : pm < 65536) (l5 : ty < 65536) (l6 : rs < 4294967296) (la : at_ < 4294967296) (lz : sz < 4294967296) (W : World) : Calls Try.prog 39 #[.agg #[.int .u32 cu, .int .u8 e, .int .u16 b, .int .u16 t, .int .u16 pm, .int .u16 ty, .int .u32 rs, .bool va], .agg #[.int .u32 at_, .int .u32 sz]] W fun ee w' => ee = .returned (.bool (meP (deB e b t cu) (deT e b t cu) at_ sz)) ∧ Below W.heap.size W w' := by
  have hR := Lib.hid (fun w => pRange_any cu e b t pm ty rs va l0 l1 l2 l3 l4 l5 l6 w)
  have hbd := de_bounds e b t cu
  have hE := Lib.hid (fun w => pend_any at_ sz w la lz)
  obtain ⟨n, hn⟩ : ∃ n : Int, n = ((at_ + sz : Nat) : Int) := ⟨_, rfl⟩
  rw [← hn] at hE
  have fE : ∀ w, (w.cell? ⟨W.heap.size + 1, 0, none⟩ = some (.int .u32 at_) ∧ w.cell? ⟨W.heap.size + 1, 1, none⟩ = some (.int .u32 sz) ∧ SB3 W w) → Calls Try.prog 36 #[.agg #[.int .u32 at_, .int .u32 sz]] w fun ee w' => ee = .returned (.int .u64 n) ∧ (w'.cell? ⟨W.heap.size + 1, 0, none⟩ = some (.int .u32 at_) ∧ w'.cell? ⟨W.heap.size + 1, 1, none⟩ = some (.int .u32 sz) ∧ SB3 W w') := fun w h => (hE.out w).mono fun ee w' ⟨h1, h2⟩ => by
    obtain ⟨c0, c1, hb⟩ := h
    exact ⟨h1, (h2.cell hb.2).trans c0, (h2.cell hb.2).trans c1, hb.below h2⟩
  replace fE := Lib.hid fE
  clear hE
  generalize deB e b t cu = x at *
  generalize deT e b t cu = y at *
  obtain ⟨b1, b2, b3, b4⟩ := hbd
  have hb := Lib.hid (((Below.refl W.heap.size W).alloc (Nat.le_refl _) (.cells #[.int .u32 cu, .int .u8 e, .int .u16 b, .int .u16 t, .int .u16 pm, .int .u16 ty, .int .u32 rs, .bool va] 25)).alloc (by simp) (.cells #[.int .u32 at_, .int .u32 sz] 31))
  have hwx : IntKind.u64.wrap x = x := IntWalk.u64_in _ (by omega)
  have hwa : IntKind.u64.wrap (at_ : Int) = at_ := IntWalk.u64_in _ (by omega)
  rcases Int.lt_trichotomy (at_ : Int) x with hx | hx | hx <;> rcases Int.lt_or_le n y with hy | hy
  · go_enter Try.func39, Try.ntmps39
    go_wp2_with fail
    refine (hR.out _).mono ?_
    rintro e' w1 ⟨rfl, h1⟩
    have p0 : w1.cell? ⟨W.heap.size + 1, 0, none⟩ = some (.int .u32 at_) := (h1.cell (by simp)).trans (by simp [go_sem])
    have p1 : w1.cell? ⟨W.heap.size + 1, 1, none⟩ = some (.int .u32 sz) := (h1.cell (by simp)).trans (by simp [go_sem])
    have hk : SB3 W w1 := ⟨hb.out.trans (h1.mono hb.out.size), by have := h1.size; simp at this; omega⟩
    clear h1 hb
    go_wp2_with fail
    go_region_held3 (fun w' => w'.cell? ⟨W.heap.size + 1, 0, none⟩ = some (.int .u32 at_) ∧ w'.cell? ⟨W.heap.size + 1, 1, none⟩ = some (.int .u32 sz) ∧ SB3 W w')
      (first | exact ⟨p0, p1, hk.drew⟩ | exact k1 | go_keep)
      (first | (go_at_call 36; refine (fE.out _ ?_).mono ?_; (first | assumption | simp [*]); rintro ee w1' ⟨rfl, k1⟩))
    all_goals obtain ⟨_, _, hk2⟩ := k1
    all_goals replace hk2 := Lib.hid hk2
    all_goals go_wp2_with fail
    all_goals go_ret
    all_goals refine ⟨ret_bool ?_, hk2.out.1⟩
    all_goals rw [Bool.eq_iff_iff]
    all_goals simp only [meP, decide_eq_true_eq]
    all_goals omega
  · go_enter Try.func39, Try.ntmps39
    go_wp2_with fail
    refine (hR.out _).mono ?_
    rintro e' w1 ⟨rfl, h1⟩
    have p0 : w1.cell? ⟨W.heap.size + 1, 0, none⟩ = some (.int .u32 at_) := (h1.cell (by simp)).trans (by simp [go_sem])
    have p1 : w1.cell? ⟨W.heap.size + 1, 1, none⟩ = some (.int .u32 sz) := (h1.cell (by simp)).trans (by simp [go_sem])
    have hk : SB3 W w1 := ⟨hb.out.trans (h1.mono hb.out.size), by have := h1.size; simp at this; omega⟩
    clear h1 hb
    go_wp2_with fail
    go_region_held3 (fun w' => w'.cell? ⟨W.heap.size + 1, 0, none⟩ = some (.int .u32 at_) ∧ w'.cell? ⟨W.heap.size + 1, 1, none⟩ = some (.int .u32 sz) ∧ SB3 W w')
      (first | exact ⟨p0, p1, hk.drew⟩ | exact k1 | go_keep)
      (first | (go_at_call 36; refine (fE.out _ ?_).mono ?_; (first | assumption | simp [*]); rintro ee w1' ⟨rfl, k1⟩))
    all_goals obtain ⟨_, _, hk2⟩ := k1
    all_goals replace hk2 := Lib.hid hk2
    all_goals go_wp2_with fail
    all_goals go_ret
    all_goals refine ⟨ret_bool ?_, hk2.out.1⟩
    all_goals rw [Bool.eq_iff_iff]
    all_goals simp only [meP, decide_eq_true_eq]
    all_goals omega
  · subst hx
    go_enter Try.func39, Try.ntmps39
    go_wp2_with fail
    refine (hR.out _).mono ?_
    rintro e' w1 ⟨rfl, h1⟩
    have p0 : w1.cell? ⟨W.heap.size + 1, 0, none⟩ = some (.int .u32 at_) := (h1.cell (by simp)).trans (by simp [go_sem])
    have p1 : w1.cell? ⟨W.heap.size + 1, 1, none⟩ = some (.int .u32 sz) := (h1.cell (by simp)).trans (by simp [go_sem])
    have hk : SB3 W w1 := ⟨hb.out.trans (h1.mono hb.out.size), by have := h1.size; simp at this; omega⟩
    clear h1 hb
    go_wp2_with fail
    go_region_held3 (fun w' => w'.cell? ⟨W.heap.size + 1, 0, none⟩ = some (.int .u32 at_) ∧ w'.cell? ⟨W.heap.size + 1, 1, none⟩ = some (.int .u32 sz) ∧ SB3 W w')
      (first | exact ⟨p0, p1, hk.drew⟩ | exact k1 | go_keep)
      (first | (go_at_call 36; refine (fE.out _ ?_).mono ?_; (first | assumption | simp [*]); rintro ee w1' ⟨rfl, k1⟩))
    all_goals obtain ⟨_, _, hk2⟩ := k1
    all_goals replace hk2 := Lib.hid hk2
    all_goals go_wp2_with fail
    all_goals go_ret
    all_goals refine ⟨ret_bool ?_, hk2.out.1⟩
    all_goals rw [Bool.eq_iff_iff]
    all_goals simp only [meP, decide_eq_true_eq]
    all_goals omega
  · subst hx
    go_enter Try.func39, Try.ntmps39
    go_wp2_with fail
    refine (hR.out _).mono ?_
    rintro e' w1 ⟨rfl, h1⟩
    have p0 : w1.cell? ⟨W.heap.size + 1, 0, none⟩ = some (.int .u32 at_) := (h1.cell (by simp)).trans (by simp [go_sem])
    have p1 : w1.cell? ⟨W.heap.size + 1, 1, none⟩ = some (.int .u32 sz) := (h1.cell (by simp)).trans (by simp [go_sem])
    have hk : SB3 W w1 := ⟨hb.out.trans (h1.mono hb.out.size), by have := h1.size; simp at this; omega⟩
    clear h1 hb
    go_wp2_with fail
    go_region_held3 (fun w' => w'.cell? ⟨W.heap.size + 1, 0, none⟩ = some (.int .u32 at_) ∧ w'.cell? ⟨W.heap.size + 1, 1, none⟩ = some (.int .u32 sz) ∧ SB3 W w')
      (first | exact ⟨p0, p1, hk.drew⟩ | exact k1 | go_keep)
      (first | (go_at_call 36; refine (fE.out _ ?_).mono ?_; (first | assumption | simp [*]); rintro ee w1' ⟨rfl, k1⟩))
    all_goals obtain ⟨_, _, hk2⟩ := k1
    all_goals replace hk2 := Lib.hid hk2
    all_goals go_wp2_with fail
    all_goals go_ret
    all_goals refine ⟨ret_bool ?_, hk2.out.1⟩
    all_goals rw [Bool.eq_iff_iff]
    all_goals simp only [meP, decide_eq_true_eq]
    all_goals omega
  · go_enter Try.func39, Try.ntmps39
    go_wp2_with fail
    refine (hR.out _).mono ?_
    rintro e' w1 ⟨rfl, h1⟩
    have p0 : w1.cell? ⟨W.heap.size + 1, 0, none⟩ = some (.int .u32 at_) := (h1.cell (by simp)).trans (by simp [go_sem])
    have p1 : w1.cell? ⟨W.heap.size + 1, 1, none⟩ = some (.int .u32 sz) := (h1.cell (by simp)).trans (by simp [go_sem])
    have hk : SB3 W w1 := ⟨hb.out.trans (h1.mono hb.out.size), by have := h1.size; simp at this; omega⟩
    clear h1 hb
    go_wp2_with fail
    go_region_held3 (fun w' => w'.cell? ⟨W.heap.size + 1, 0, none⟩ = some (.int .u32 at_) ∧ w'.cell? ⟨W.heap.size + 1, 1, none⟩ = some (.int .u32 sz) ∧ SB3 W w')
      (first | exact ⟨p0, p1, hk.drew⟩ | exact k1 | go_keep)
      (first | (go_at_call 36; refine (fE.out _ ?_).mono ?_; (first | assumption | simp [*]); rintro ee w1' ⟨rfl, k1⟩))
    all_goals obtain ⟨_, _, hk2⟩ := k1
    all_goals replace hk2 := Lib.hid hk2
    all_goals go_wp2_with fail
    all_goals go_ret
    all_goals refine ⟨ret_bool ?_, hk2.out.1⟩
    all_goals rw [Bool.eq_iff_iff]
    all_goals simp only [meP, decide_eq_true_eq]
    all_goals omega
  · go_enter Try.func39, Try.ntmps39
    go_wp2_with fail
    refine (hR.out _).mono ?_
    rintro e' w1 ⟨rfl, h1⟩
    have p0 : w1.cell? ⟨W.heap.size + 1, 0, none⟩ = some (.int .u32 at_) := (h1.cell (by simp)).trans (by simp [go_sem])
    have p1 : w1.cell? ⟨W.heap.size + 1, 1, none⟩ = some (.int .u32 sz) := (h1.cell (by simp)).trans (by simp [go_sem])
    have hk : SB3 W w1 := ⟨hb.out.trans (h1.mono hb.out.size), by have := h1.size; simp at this; omega⟩
    clear h1 hb
    go_wp2_with fail
    go_region_held3 (fun w' => w'.cell? ⟨W.heap.size + 1, 0, none⟩ = some (.int .u32 at_) ∧ w'.cell? ⟨W.heap.size + 1, 1, none⟩ = some (.int .u32 sz) ∧ SB3 W w')
      (first | exact ⟨p0, p1, hk.drew⟩ | exact k1 | go_keep)
      (first | (go_at_call 36; refine (fE.out _ ?_).mono ?_; (first | assumption | simp [*]); rintro ee w1' ⟨rfl, k1⟩))
    all_goals obtain ⟨_, _, hk2⟩ := k1
    all_goals replace hk2 := Lib.hid hk2
    all_goals go_wp2_with fail
    all_goals go_ret
    all_goals refine ⟨ret_bool ?_, hk2.out.1⟩
    all_goals rw [Bool.eq_iff_iff]
    all_goals simp only [meP, decide_eq_true_eq]
    all_goals omega

theorem andn_zero {a b : Nat} (ha : a < 65536) (hb : b < 65536) : a &&& (65535 - b) = 0 ↔ a &&& b = a := by
  have e : ∀ j, (65535 - b).testBit j = (decide (j < 16) && !b.testBit j) := fun j => by
    rw [show 65535 - b = 2 ^ 16 - (b + 1) from by omega]; exact Nat.testBit_two_pow_sub_succ hb j
  have ht : ∀ j, ¬ j < 16 → a.testBit j = false := fun j hj => Nat.testBit_lt_two_pow (Nat.lt_of_lt_of_le ha (show 2 ^ 16 ≤ 2 ^ j from Nat.pow_le_pow_right (by decide) (by omega)))
  constructor
  · intro h
    apply Nat.eq_of_testBit_eq
    intro j
    have := congrArg (fun n => n.testBit j) h
    simp only [Nat.testBit_and, e, Nat.zero_testBit] at this
    rw [Nat.testBit_and]
    by_cases hj : j < 16
    · cases h1 : a.testBit j <;> cases h2 : b.testBit j <;> simp_all
    · simp [ht j hj]
  · intro h
    apply Nat.eq_of_testBit_eq
    intro j
    have := congrArg (fun n => n.testBit j) h
    simp only [Nat.testBit_and] at this
    rw [Nat.testBit_and, e, Nat.zero_testBit]
    cases h1 : a.testBit j <;> cases h2 : b.testBit j <;> simp_all

set_option maxHeartbeats 1000000 in
theorem pWithin_any (cu e b t pm ty rs : Nat) (va : Bool) (cu' e' b' t' pm' ty' rs' : Nat) (va' : Bool) (l0 : cu < 4294967296) (l1 : e < 256) (l2 : b < 65536) (l3 : t < 65536) (l4 : pm < 65536) (l5 : ty < 65536) (l6 : rs < 4294967296) (l0' : cu' < 4294967296) (l1' : e' < 256) (l2' : b' < 65536) (l3' : t' < 65536) (l4' : pm' < 65536) (l5' : ty' < 65536) (l6' : rs' < 4294967296) (W : World) : Calls Try.prog 11 #[.agg #[.int .u32 cu, .int .u8 e, .int .u16 b, .int .u16 t, .int .u16 pm, .int .u16 ty, .int .u32 rs, .bool va], .agg #[.int .u32 cu', .int .u8 e', .int .u16 b', .int .u16 t', .int .u16 pm', .int .u16 ty', .int .u32 rs', .bool va']] W fun ee w' => ee = .returned (.bool (wiP pm pm' (deB e b t cu) (deT e b t cu) (deB e' b' t' cu') (deT e' b' t' cu'))) ∧ Below W.heap.size W w' := by
  have hR := Lib.hid (fun w => pRange_any cu e b t pm ty rs va l0 l1 l2 l3 l4 l5 l6 w)
  have hR' := Lib.hid (fun w => pRange_any cu' e' b' t' pm' ty' rs' va' l0' l1' l2' l3' l4' l5' l6' w)
  have hand := u16_andNot_nat pm pm' l4 l4'
  have hbd := de_bounds e b t cu
  have hbd' := de_bounds e' b' t' cu'
  generalize deB e b t cu = x at *
  generalize deT e b t cu = y at *
  generalize deB e' b' t' cu' = x' at *
  generalize deT e' b' t' cu' = y' at *
  have hw : wiP pm pm' x y x' y' = (decide (pm &&& (65535 - pm') = 0) && (decide (y ≤ x) || (decide (x' ≤ x) && decide (y ≤ y')))) := by
    rw [Bool.eq_iff_iff]; simp [wiP, andn_zero l4 l4']
  rw [hw]
  clear hw
  generalize pm &&& (65535 - pm') = q at *
  obtain ⟨b1, b2, b3, b4⟩ := hbd
  obtain ⟨c1, c2, c3, c4⟩ := hbd'
  have hs0 := Lib.hid (show W.heap.size + 1 < ((W.alloc (.cells #[.int .u32 cu, .int .u8 e, .int .u16 b, .int .u16 t, .int .u16 pm, .int .u16 ty, .int .u32 rs, .bool va] 25)).alloc (.cells #[.int .u32 cu', .int .u8 e', .int .u16 b', .int .u16 t', .int .u16 pm', .int .u16 ty', .int .u32 rs', .bool va'] 25)).heap.size from by simp)
  have hb0 := Lib.hid (((Below.refl W.heap.size W).alloc (Nat.le_refl _) (.cells #[.int .u32 cu, .int .u8 e, .int .u16 b, .int .u16 t, .int .u16 pm, .int .u16 ty, .int .u32 rs, .bool va] 25)).alloc (by simp) (.cells #[.int .u32 cu', .int .u8 e', .int .u16 b', .int .u16 t', .int .u16 pm', .int .u16 ty', .int .u32 rs', .bool va'] 25))
  go_enter Try.func11, Try.ntmps11
  go_wp2_with fail
  refine (hR.out _).mono ?_
  rintro ee w1 ⟨rfl, h1⟩

  have p0 : w1.cell? ⟨W.heap.size + 1, 0, none⟩ = some (.int .u32 cu') := (h1.cell (by simp <;> omega)).trans (by simp [go_sem])
  have p1 : w1.cell? ⟨W.heap.size + 1, 1, none⟩ = some (.int .u8 e') := (h1.cell (by simp <;> omega)).trans (by simp [go_sem])
  have p2 : w1.cell? ⟨W.heap.size + 1, 2, none⟩ = some (.int .u16 b') := (h1.cell (by simp <;> omega)).trans (by simp [go_sem])
  have p3 : w1.cell? ⟨W.heap.size + 1, 3, none⟩ = some (.int .u16 t') := (h1.cell (by simp <;> omega)).trans (by simp [go_sem])
  have p4 : w1.cell? ⟨W.heap.size + 1, 4, none⟩ = some (.int .u16 pm') := (h1.cell (by simp <;> omega)).trans (by simp [go_sem])
  have p5 : w1.cell? ⟨W.heap.size + 1, 5, none⟩ = some (.int .u16 ty') := (h1.cell (by simp <;> omega)).trans (by simp [go_sem])
  have p6 : w1.cell? ⟨W.heap.size + 1, 6, none⟩ = some (.int .u32 rs') := (h1.cell (by simp <;> omega)).trans (by simp [go_sem])
  have p7 : w1.cell? ⟨W.heap.size + 1, 7, none⟩ = some (.bool va') := (h1.cell (by simp <;> omega)).trans (by simp [go_sem])
  have r4 : w1.cell? ⟨W.heap.size, 4, none⟩ = some (.int .u16 pm) := (h1.cell (by simp <;> omega)).trans (by simp [go_sem])
  have hs := Lib.hid (show W.heap.size + 1 < w1.heap.size from Nat.lt_of_lt_of_le hs0.out h1.size)
  have hb := Lib.hid (hb0.out.trans (h1.mono hb0.out.size))
  clear h1 hs0 hb0
  go_wp2_with fail
  refine (hR'.out _).mono ?_
  rintro ee w2 ⟨rfl, h2⟩
  have hs' := hs.out
  replace r4 : w2.cell? ⟨W.heap.size, 4, none⟩ = some (.int .u16 pm) := (h2.cell (by show W.heap.size < _; omega)).trans r4
  replace p4 : w2.cell? ⟨W.heap.size + 1, 4, none⟩ = some (.int .u16 pm') := (h2.cell (by show W.heap.size + 1 < _; omega)).trans p4
  replace hb := Lib.hid (hb.out.trans (h2.mono hb.out.size))
  clear h2 p0 p1 p2 p3 p5 p6 p7 hs hs'
  go_wp2_with fail
  all_goals go_ret
  all_goals
    refine ⟨ret_bool (Bool.eq_iff_iff.2 ?_), hb.out⟩
    simp <;> omega

end Go.Proofs.Ytpopfmboonjplaa
