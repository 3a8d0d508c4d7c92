/- Proved: a capability's bounds, and whether they hold, or meet, a region, are what the document says (CapsRanges). For every input; no condition. -/
import Derived.Test.YtikgeombccoahaaRows
import Derived.Test.YtikgeombccoahaaCapW
import Derived.Test.YtikgeombccoahaaFlat
import Derived.Deep.RegionHeld3
import Derived.Deep.DeepCutAuto
import Derived.ProofKit
import Derived.OpenShut
import Derived.ShutString
import Derived.ChangeOld
namespace Go.Proofs.Ytikgeombccoahaa.cranges
open Go.ChangeShapes Go.WideShapes Go.ChangeAt Go.RowKit
open Go.ChangeMaps (open_string shut_string)
set_option linter.unusedVariables false

/-- A capability and a region in their boxes. -/
structure BoxAt (w : World) (bx by_ : Nat) (cu e b t pm ty rs : Nat) (va : Bool) (at_ sz : Nat) : Prop where
  c : CapAt w bx cu e b t pm ty rs va
  r0 : w.cell? ⟨by_, 0, none⟩ = some (.int .u32 at_)
  r1 : w.cell? ⟨by_, 1, none⟩ = some (.int .u32 sz)
theorem BoxAt.below {w w' : World} {bx by_ B : Nat} {cu e b t pm ty rs : Nat} {va : Bool} {at_ sz : Nat} (h : BoxAt w bx by_ cu e b t pm ty rs va at_ sz) (k : Below B w w') (h1 : bx < B) (h2 : by_ < B) : BoxAt w' bx by_ cu e b t pm ty rs va at_ sz :=
  ⟨h.c.below k h1, (k.cell h2).trans h.r0, (k.cell h2).trans h.r1⟩
def SB2 (W w : World) : Prop := Below W.heap.size W w ∧ W.heap.size + 2 ≤ w.heap.size
theorem SB2.keep {W w w' : World} (h : SB2 W w) (k : Below w.heap.size w w') : SB2 W w' := ⟨h.1.trans (k.mono h.1.size), Nat.le_trans h.2 k.size⟩
theorem SB2.drew {W w : World} (h : SB2 W w) : SB2 W w.drew := ⟨h.1.drew, h.2⟩

theorem BoxAt.all {W w : World} {cu e b t pm ty rs : Nat} {va : Bool} {at_ sz : Nat} (h : BoxAt w W.heap.size (W.heap.size + 1) cu e b t pm ty rs va at_ sz) (k : SB2 W w) : w.cell? ⟨W.heap.size, 0, none⟩ = some (.int .u32 cu) ∧ w.cell? ⟨W.heap.size, 1, none⟩ = some (.int .u8 e) ∧ w.cell? ⟨W.heap.size, 2, none⟩ = some (.int .u16 b) ∧ w.cell? ⟨W.heap.size, 3, none⟩ = some (.int .u16 t) ∧ w.cell? ⟨W.heap.size, 4, none⟩ = some (.int .u16 pm) ∧ w.cell? ⟨W.heap.size, 5, none⟩ = some (.int .u16 ty) ∧ w.cell? ⟨W.heap.size, 6, none⟩ = some (.int .u32 rs) ∧ w.cell? ⟨W.heap.size, 7, none⟩ = some (.bool va) ∧ w.cell? ⟨W.heap.size + 1, 0, none⟩ = some (.int .u32 at_) ∧ w.cell? ⟨W.heap.size + 1, 1, none⟩ = some (.int .u32 sz) ∧ SB2 W w :=
  ⟨h.c.q0, h.c.q1, h.c.q2, h.c.q3, h.c.q4, h.c.q5, h.c.q6, h.c.q7, h.r0, h.r1, k⟩
theorem BoxAt.of {W w : World} {cu e b t pm ty rs : Nat} {va : Bool} {at_ sz : Nat} (h : w.cell? ⟨W.heap.size, 0, none⟩ = some (.int .u32 cu) ∧ w.cell? ⟨W.heap.size, 1, none⟩ = some (.int .u8 e) ∧ w.cell? ⟨W.heap.size, 2, none⟩ = some (.int .u16 b) ∧ w.cell? ⟨W.heap.size, 3, none⟩ = some (.int .u16 t) ∧ w.cell? ⟨W.heap.size, 4, none⟩ = some (.int .u16 pm) ∧ w.cell? ⟨W.heap.size, 5, none⟩ = some (.int .u16 ty) ∧ w.cell? ⟨W.heap.size, 6, none⟩ = some (.int .u32 rs) ∧ w.cell? ⟨W.heap.size, 7, none⟩ = some (.bool va) ∧ w.cell? ⟨W.heap.size + 1, 0, none⟩ = some (.int .u32 at_) ∧ w.cell? ⟨W.heap.size + 1, 1, none⟩ = some (.int .u32 sz) ∧ SB2 W w) : BoxAt w W.heap.size (W.heap.size + 1) cu e b t pm ty rs va at_ sz ∧ SB2 W w :=
  ⟨⟨⟨h.1, h.2.1, h.2.2.1, h.2.2.2.1, h.2.2.2.2.1, h.2.2.2.2.2.1, h.2.2.2.2.2.2.1, h.2.2.2.2.2.2.2.1⟩, h.2.2.2.2.2.2.2.2.1, h.2.2.2.2.2.2.2.2.2.1⟩, h.2.2.2.2.2.2.2.2.2.2⟩
theorem BoxAt.step {W w w' : World} {cu e b t pm ty rs : Nat} {va : Bool} {at_ sz : Nat} (h : w.cell? ⟨W.heap.size, 0, none⟩ = some (.int .u32 cu) ∧ w.cell? ⟨W.heap.size, 1, none⟩ = some (.int .u8 e) ∧ w.cell? ⟨W.heap.size, 2, none⟩ = some (.int .u16 b) ∧ w.cell? ⟨W.heap.size, 3, none⟩ = some (.int .u16 t) ∧ w.cell? ⟨W.heap.size, 4, none⟩ = some (.int .u16 pm) ∧ w.cell? ⟨W.heap.size, 5, none⟩ = some (.int .u16 ty) ∧ w.cell? ⟨W.heap.size, 6, none⟩ = some (.int .u32 rs) ∧ w.cell? ⟨W.heap.size, 7, none⟩ = some (.bool va) ∧ w.cell? ⟨W.heap.size + 1, 0, none⟩ = some (.int .u32 at_) ∧ w.cell? ⟨W.heap.size + 1, 1, none⟩ = some (.int .u32 sz) ∧ SB2 W w) (k : Below w.heap.size w w') : w'.cell? ⟨W.heap.size, 0, none⟩ = some (.int .u32 cu) ∧ w'.cell? ⟨W.heap.size, 1, none⟩ = some (.int .u8 e) ∧ w'.cell? ⟨W.heap.size, 2, none⟩ = some (.int .u16 b) ∧ w'.cell? ⟨W.heap.size, 3, none⟩ = some (.int .u16 t) ∧ w'.cell? ⟨W.heap.size, 4, none⟩ = some (.int .u16 pm) ∧ w'.cell? ⟨W.heap.size, 5, none⟩ = some (.int .u16 ty) ∧ w'.cell? ⟨W.heap.size, 6, none⟩ = some (.int .u32 rs) ∧ w'.cell? ⟨W.heap.size, 7, none⟩ = some (.bool va) ∧ w'.cell? ⟨W.heap.size + 1, 0, none⟩ = some (.int .u32 at_) ∧ w'.cell? ⟨W.heap.size + 1, 1, none⟩ = some (.int .u32 sz) ∧ SB2 W w' := by
  obtain ⟨h1, h2⟩ := BoxAt.of h
  exact (h1.below k (by have := h2.2; omega) (by have := h2.2; omega)).all (h2.keep k)

theorem walk (cu : Int) (wcu : (Lit.int .u32 cu).wf = true) (e : Int) (we : (Lit.int .u8 e).wf = true) (b : Int) (wb : (Lit.int .u16 b).wf = true) (t : Int) (wt : (Lit.int .u16 t).wf = true) (pm : Int) (wpm : (Lit.int .u16 pm).wf = true) (ty : Int) (wty : (Lit.int .u16 ty).wf = true) (rs : Int) (wrs : (Lit.int .u32 rs).wf = true) (va : Bool) (at_ : Int) (wat_ : (Lit.int .u32 at_).wf = true) (sz : Int) (wsz : (Lit.int .u32 sz).wf = true) (W : World) :
    Calls Try.prog 4 #[.agg #[.int .u32 cu, .int .u8 e, .int .u16 b, .int .u16 t, .int .u16 pm, .int .u16 ty, .int .u32 rs, .bool va], .agg #[.int .u32 at_, .int .u32 sz]] W fun e w' => e = .returned (.bool true) ∧ Below W.heap.size W w' := by
  have hcu := bounds_u32 wcu
  obtain ⟨cu, rfl⟩ := Int.eq_ofNat_of_zero_le hcu.1
  have lcu : cu < 4294967296 := by omega
  clear hcu wcu
  have he := bounds_u8 we
  obtain ⟨e, rfl⟩ := Int.eq_ofNat_of_zero_le he.1
  have le : e < 256 := by omega
  clear he we
  have hb := bounds_u16 wb
  obtain ⟨b, rfl⟩ := Int.eq_ofNat_of_zero_le hb.1
  have lb : b < 65536 := by omega
  clear hb wb
  have ht := bounds_u16 wt
  obtain ⟨t, rfl⟩ := Int.eq_ofNat_of_zero_le ht.1
  have lt : t < 65536 := by omega
  clear ht wt
  have hpm := bounds_u16 wpm
  obtain ⟨pm, rfl⟩ := Int.eq_ofNat_of_zero_le hpm.1
  have lpm : pm < 65536 := by omega
  clear hpm wpm
  have hty := bounds_u16 wty
  obtain ⟨ty, rfl⟩ := Int.eq_ofNat_of_zero_le hty.1
  have lty : ty < 65536 := by omega
  clear hty wty
  have hrs := bounds_u32 wrs
  obtain ⟨rs, rfl⟩ := Int.eq_ofNat_of_zero_le hrs.1
  have lrs : rs < 4294967296 := by omega
  clear hrs wrs
  have hat_ := bounds_u32 wat_
  obtain ⟨at_, rfl⟩ := Int.eq_ofNat_of_zero_le hat_.1
  have lat_ : at_ < 4294967296 := by omega
  clear hat_ wat_
  have hsz := bounds_u32 wsz
  obtain ⟨sz, rfl⟩ := Int.eq_ofNat_of_zero_le hsz.1
  have lsz : sz < 4294967296 := by omega
  clear hsz wsz
  have pR := Lib.hid (fun w => pRange_any cu e b t pm ty rs va lcu le lb lt lpm lty lrs w)
  have rR := Lib.hid (fun w => rRange_any cu e b t pm ty rs va w lcu)
  have pH := Lib.hid (fun w => pHolds_any cu e b t pm ty rs va at_ sz lcu le lb lt lpm lty lrs lat_ lsz w)
  have rH := Lib.hid (fun w => rHolds_any cu e b t pm ty rs at_ sz va w lcu lat_ lsz)
  have pM := Lib.hid (fun w => pMeets_any cu e b t pm ty rs va at_ sz lcu le lb lt lpm lty lrs lat_ lsz w)
  have rM := Lib.hid (fun w => rMeets_any cu e b t pm ty rs at_ sz va w lcu lat_ lsz)
  have hW := Lib.hid (fun w => works_any w)
  generalize hoP (deB e b t cu) (deT e b t cu) at_ sz = z1 at *
  generalize meP (deB e b t cu) (deT e b t cu) at_ sz = z2 at *
  generalize deB e b t cu = x at *
  generalize deT e b t cu = y at *
  go_enter Try.func4, Try.ntmps4
  go_wp2_with fail
  refine (pR.out _).mono ?_
  rintro ee w1 ⟨rfl, h1⟩
  have C1 : BoxAt w1 W.heap.size (W.heap.size + 1) cu e b t pm ty rs va at_ sz := by
    have k : BoxAt ((W.alloc (.cells #[.int .u32 cu, .int .u8 e, .int .u16 b, .int .u16 t, .int .u16 pm, .int .u16 ty, .int .u32 rs, .bool va] 25)).alloc (.cells #[.int .u32 at_, .int .u32 sz] 33)) W.heap.size (W.heap.size + 1) cu e b t pm ty rs va at_ sz :=
      ⟨⟨by simp [go_sem], by simp [go_sem], by simp [go_sem], by simp [go_sem], by simp [go_sem], by simp [go_sem], by simp [go_sem], by simp [go_sem]⟩, by simp [go_sem], by simp [go_sem]⟩
    exact k.below h1 (by simp <;> omega) (by simp)
  have B1 : SB2 W w1 := ⟨((((Below.refl W.heap.size W).alloc (Nat.le_refl _) (.cells #[.int .u32 cu, .int .u8 e, .int .u16 b, .int .u16 t, .int .u16 pm, .int .u16 ty, .int .u32 rs, .bool va] 25)).alloc (by simp) (.cells #[.int .u32 at_, .int .u32 sz] 33))).trans (h1.mono (by simp <;> omega)), by have := h1.size; simp at this; omega⟩
  clear h1
  obtain ⟨⟨q0, q1, q2, q3, q4, q5, q6, q7⟩, p0, p1⟩ := id C1
  go_wp2_with fail
  refine (rR.out _).mono ?_
  rintro ee w2 ⟨rfl, h1⟩
  replace C1 := Lib.hid (C1.below h1 (by have := B1.2; omega) (by have := B1.2; omega))
  replace B1 := Lib.hid (B1.keep h1)
  clear h1 q0 q1 q2 q3 q4 q5 q6 q7 p0 p1
  obtain ⟨⟨q0, q1, q2, q3, q4, q5, q6, q7⟩, p0, p1⟩ := id C1.out
  go_wp2_with fail
  have hS0 := C1.out.all B1.out
  have pH2 := Lib.hid (fun w (h : w.cell? ⟨W.heap.size, 0, none⟩ = some (.int .u32 cu) ∧ w.cell? ⟨W.heap.size, 1, none⟩ = some (.int .u8 e) ∧ w.cell? ⟨W.heap.size, 2, none⟩ = some (.int .u16 b) ∧ w.cell? ⟨W.heap.size, 3, none⟩ = some (.int .u16 t) ∧ w.cell? ⟨W.heap.size, 4, none⟩ = some (.int .u16 pm) ∧ w.cell? ⟨W.heap.size, 5, none⟩ = some (.int .u16 ty) ∧ w.cell? ⟨W.heap.size, 6, none⟩ = some (.int .u32 rs) ∧ w.cell? ⟨W.heap.size, 7, none⟩ = some (.bool va) ∧ w.cell? ⟨W.heap.size + 1, 0, none⟩ = some (.int .u32 at_) ∧ w.cell? ⟨W.heap.size + 1, 1, none⟩ = some (.int .u32 sz) ∧ SB2 W w) => show Calls Try.prog 23 #[.agg #[.int .u32 cu, .int .u8 e, .int .u16 b, .int .u16 t, .int .u16 pm, .int .u16 ty, .int .u32 rs, .bool va], .agg #[.int .u32 at_, .int .u32 sz]] w (fun ee w' => ee = .returned (.bool z1) ∧ (w'.cell? ⟨W.heap.size, 0, none⟩ = some (.int .u32 cu) ∧ w'.cell? ⟨W.heap.size, 1, none⟩ = some (.int .u8 e) ∧ w'.cell? ⟨W.heap.size, 2, none⟩ = some (.int .u16 b) ∧ w'.cell? ⟨W.heap.size, 3, none⟩ = some (.int .u16 t) ∧ w'.cell? ⟨W.heap.size, 4, none⟩ = some (.int .u16 pm) ∧ w'.cell? ⟨W.heap.size, 5, none⟩ = some (.int .u16 ty) ∧ w'.cell? ⟨W.heap.size, 6, none⟩ = some (.int .u32 rs) ∧ w'.cell? ⟨W.heap.size, 7, none⟩ = some (.bool va) ∧ w'.cell? ⟨W.heap.size + 1, 0, none⟩ = some (.int .u32 at_) ∧ w'.cell? ⟨W.heap.size + 1, 1, none⟩ = some (.int .u32 sz) ∧ SB2 W w')) from (pH.out w).mono fun _ _ k => ⟨k.1, BoxAt.step h k.2⟩)
  have rH2 := Lib.hid (fun w (h : w.cell? ⟨W.heap.size, 0, none⟩ = some (.int .u32 cu) ∧ w.cell? ⟨W.heap.size, 1, none⟩ = some (.int .u8 e) ∧ w.cell? ⟨W.heap.size, 2, none⟩ = some (.int .u16 b) ∧ w.cell? ⟨W.heap.size, 3, none⟩ = some (.int .u16 t) ∧ w.cell? ⟨W.heap.size, 4, none⟩ = some (.int .u16 pm) ∧ w.cell? ⟨W.heap.size, 5, none⟩ = some (.int .u16 ty) ∧ w.cell? ⟨W.heap.size, 6, none⟩ = some (.int .u32 rs) ∧ w.cell? ⟨W.heap.size, 7, none⟩ = some (.bool va) ∧ w.cell? ⟨W.heap.size + 1, 0, none⟩ = some (.int .u32 at_) ∧ w.cell? ⟨W.heap.size + 1, 1, none⟩ = some (.int .u32 sz) ∧ SB2 W w) => show Calls Try.prog 24 #[.agg #[.int .u32 cu, .int .u8 e, .int .u16 b, .int .u16 t, .int .u16 pm, .int .u16 ty, .int .u32 rs, .bool va], .agg #[.int .u32 at_, .int .u32 sz]] w (fun ee w' => ee = .returned (.bool z1) ∧ (w'.cell? ⟨W.heap.size, 0, none⟩ = some (.int .u32 cu) ∧ w'.cell? ⟨W.heap.size, 1, none⟩ = some (.int .u8 e) ∧ w'.cell? ⟨W.heap.size, 2, none⟩ = some (.int .u16 b) ∧ w'.cell? ⟨W.heap.size, 3, none⟩ = some (.int .u16 t) ∧ w'.cell? ⟨W.heap.size, 4, none⟩ = some (.int .u16 pm) ∧ w'.cell? ⟨W.heap.size, 5, none⟩ = some (.int .u16 ty) ∧ w'.cell? ⟨W.heap.size, 6, none⟩ = some (.int .u32 rs) ∧ w'.cell? ⟨W.heap.size, 7, none⟩ = some (.bool va) ∧ w'.cell? ⟨W.heap.size + 1, 0, none⟩ = some (.int .u32 at_) ∧ w'.cell? ⟨W.heap.size + 1, 1, none⟩ = some (.int .u32 sz) ∧ SB2 W w')) from (rH.out w).mono fun _ _ k => ⟨k.1, BoxAt.step h k.2⟩)
  have pM2 := Lib.hid (fun w (h : w.cell? ⟨W.heap.size, 0, none⟩ = some (.int .u32 cu) ∧ w.cell? ⟨W.heap.size, 1, none⟩ = some (.int .u8 e) ∧ w.cell? ⟨W.heap.size, 2, none⟩ = some (.int .u16 b) ∧ w.cell? ⟨W.heap.size, 3, none⟩ = some (.int .u16 t) ∧ w.cell? ⟨W.heap.size, 4, none⟩ = some (.int .u16 pm) ∧ w.cell? ⟨W.heap.size, 5, none⟩ = some (.int .u16 ty) ∧ w.cell? ⟨W.heap.size, 6, none⟩ = some (.int .u32 rs) ∧ w.cell? ⟨W.heap.size, 7, none⟩ = some (.bool va) ∧ w.cell? ⟨W.heap.size + 1, 0, none⟩ = some (.int .u32 at_) ∧ w.cell? ⟨W.heap.size + 1, 1, none⟩ = some (.int .u32 sz) ∧ SB2 W w) => show Calls Try.prog 25 #[.agg #[.int .u32 cu, .int .u8 e, .int .u16 b, .int .u16 t, .int .u16 pm, .int .u16 ty, .int .u32 rs, .bool va], .agg #[.int .u32 at_, .int .u32 sz]] w (fun ee w' => ee = .returned (.bool z2) ∧ (w'.cell? ⟨W.heap.size, 0, none⟩ = some (.int .u32 cu) ∧ w'.cell? ⟨W.heap.size, 1, none⟩ = some (.int .u8 e) ∧ w'.cell? ⟨W.heap.size, 2, none⟩ = some (.int .u16 b) ∧ w'.cell? ⟨W.heap.size, 3, none⟩ = some (.int .u16 t) ∧ w'.cell? ⟨W.heap.size, 4, none⟩ = some (.int .u16 pm) ∧ w'.cell? ⟨W.heap.size, 5, none⟩ = some (.int .u16 ty) ∧ w'.cell? ⟨W.heap.size, 6, none⟩ = some (.int .u32 rs) ∧ w'.cell? ⟨W.heap.size, 7, none⟩ = some (.bool va) ∧ w'.cell? ⟨W.heap.size + 1, 0, none⟩ = some (.int .u32 at_) ∧ w'.cell? ⟨W.heap.size + 1, 1, none⟩ = some (.int .u32 sz) ∧ SB2 W w')) from (pM.out w).mono fun _ _ k => ⟨k.1, BoxAt.step h k.2⟩)
  have rM2 := Lib.hid (fun w (h : w.cell? ⟨W.heap.size, 0, none⟩ = some (.int .u32 cu) ∧ w.cell? ⟨W.heap.size, 1, none⟩ = some (.int .u8 e) ∧ w.cell? ⟨W.heap.size, 2, none⟩ = some (.int .u16 b) ∧ w.cell? ⟨W.heap.size, 3, none⟩ = some (.int .u16 t) ∧ w.cell? ⟨W.heap.size, 4, none⟩ = some (.int .u16 pm) ∧ w.cell? ⟨W.heap.size, 5, none⟩ = some (.int .u16 ty) ∧ w.cell? ⟨W.heap.size, 6, none⟩ = some (.int .u32 rs) ∧ w.cell? ⟨W.heap.size, 7, none⟩ = some (.bool va) ∧ w.cell? ⟨W.heap.size + 1, 0, none⟩ = some (.int .u32 at_) ∧ w.cell? ⟨W.heap.size + 1, 1, none⟩ = some (.int .u32 sz) ∧ SB2 W w) => show Calls Try.prog 26 #[.agg #[.int .u32 cu, .int .u8 e, .int .u16 b, .int .u16 t, .int .u16 pm, .int .u16 ty, .int .u32 rs, .bool va], .agg #[.int .u32 at_, .int .u32 sz]] w (fun ee w' => ee = .returned (.bool z2) ∧ (w'.cell? ⟨W.heap.size, 0, none⟩ = some (.int .u32 cu) ∧ w'.cell? ⟨W.heap.size, 1, none⟩ = some (.int .u8 e) ∧ w'.cell? ⟨W.heap.size, 2, none⟩ = some (.int .u16 b) ∧ w'.cell? ⟨W.heap.size, 3, none⟩ = some (.int .u16 t) ∧ w'.cell? ⟨W.heap.size, 4, none⟩ = some (.int .u16 pm) ∧ w'.cell? ⟨W.heap.size, 5, none⟩ = some (.int .u16 ty) ∧ w'.cell? ⟨W.heap.size, 6, none⟩ = some (.int .u32 rs) ∧ w'.cell? ⟨W.heap.size, 7, none⟩ = some (.bool va) ∧ w'.cell? ⟨W.heap.size + 1, 0, none⟩ = some (.int .u32 at_) ∧ w'.cell? ⟨W.heap.size + 1, 1, none⟩ = some (.int .u32 sz) ∧ SB2 W w')) from (rM.out w).mono fun _ _ k => ⟨k.1, BoxAt.step h k.2⟩)
  have hW2 := Lib.hid (fun w (h : w.cell? ⟨W.heap.size, 0, none⟩ = some (.int .u32 cu) ∧ w.cell? ⟨W.heap.size, 1, none⟩ = some (.int .u8 e) ∧ w.cell? ⟨W.heap.size, 2, none⟩ = some (.int .u16 b) ∧ w.cell? ⟨W.heap.size, 3, none⟩ = some (.int .u16 t) ∧ w.cell? ⟨W.heap.size, 4, none⟩ = some (.int .u16 pm) ∧ w.cell? ⟨W.heap.size, 5, none⟩ = some (.int .u16 ty) ∧ w.cell? ⟨W.heap.size, 6, none⟩ = some (.int .u32 rs) ∧ w.cell? ⟨W.heap.size, 7, none⟩ = some (.bool va) ∧ w.cell? ⟨W.heap.size + 1, 0, none⟩ = some (.int .u32 at_) ∧ w.cell? ⟨W.heap.size + 1, 1, none⟩ = some (.int .u32 sz) ∧ SB2 W w) => show Calls Try.prog 20 #[] w (fun ee w' => ee = .returned (.bool true) ∧ (w'.cell? ⟨W.heap.size, 0, none⟩ = some (.int .u32 cu) ∧ w'.cell? ⟨W.heap.size, 1, none⟩ = some (.int .u8 e) ∧ w'.cell? ⟨W.heap.size, 2, none⟩ = some (.int .u16 b) ∧ w'.cell? ⟨W.heap.size, 3, none⟩ = some (.int .u16 t) ∧ w'.cell? ⟨W.heap.size, 4, none⟩ = some (.int .u16 pm) ∧ w'.cell? ⟨W.heap.size, 5, none⟩ = some (.int .u16 ty) ∧ w'.cell? ⟨W.heap.size, 6, none⟩ = some (.int .u32 rs) ∧ w'.cell? ⟨W.heap.size, 7, none⟩ = some (.bool va) ∧ w'.cell? ⟨W.heap.size + 1, 0, none⟩ = some (.int .u32 at_) ∧ w'.cell? ⟨W.heap.size + 1, 1, none⟩ = some (.int .u32 sz) ∧ SB2 W w')) from (hW.out w).mono fun _ _ k => ⟨k.1, BoxAt.step h k.2⟩)
  clear pR rR pH rH pM rM hW q0 q1 q2 q3 q4 q5 q6 q7 p0 p1 C1 B1
  obtain ⟨q0, q1, q2, q3, q4, q5, q6, q7, p0, p1, hb⟩ := hS0
  go_region_held3 (fun w' => w'.cell? ⟨W.heap.size, 0, none⟩ = some (.int .u32 cu) ∧ w'.cell? ⟨W.heap.size, 1, none⟩ = some (.int .u8 e) ∧ w'.cell? ⟨W.heap.size, 2, none⟩ = some (.int .u16 b) ∧ w'.cell? ⟨W.heap.size, 3, none⟩ = some (.int .u16 t) ∧ w'.cell? ⟨W.heap.size, 4, none⟩ = some (.int .u16 pm) ∧ w'.cell? ⟨W.heap.size, 5, none⟩ = some (.int .u16 ty) ∧ w'.cell? ⟨W.heap.size, 6, none⟩ = some (.int .u32 rs) ∧ w'.cell? ⟨W.heap.size, 7, none⟩ = some (.bool va) ∧ w'.cell? ⟨W.heap.size + 1, 0, none⟩ = some (.int .u32 at_) ∧ w'.cell? ⟨W.heap.size + 1, 1, none⟩ = some (.int .u32 sz) ∧ SB2 W w')
    (first | exact ⟨q0, q1, q2, q3, q4, q5, q6, q7, p0, p1, hb.drew⟩ | exact k1 | go_keep)
    (first
      | (go_at_call 23; refine (pH2.out _ ?_).mono ?_; (first | assumption | simp [*]); rintro ee w1 ⟨rfl, k1⟩)
      | (go_at_call 24; refine (rH2.out _ ?_).mono ?_; (first | assumption | simp [*]); rintro ee w1 ⟨rfl, k1⟩)
      | (go_at_call 25; refine (pM2.out _ ?_).mono ?_; (first | assumption | simp [*]); rintro ee w1 ⟨rfl, k1⟩)
      | (go_at_call 26; refine (rM2.out _ ?_).mono ?_; (first | assumption | simp [*]); rintro ee w1 ⟨rfl, k1⟩)
      | (go_at_call 20; refine (hW2.out _ ?_).mono ?_; (first | assumption | simp [*]); rintro ee w1 ⟨rfl, k1⟩))
  have hb := (BoxAt.of k1).2.1
  go_wp2
  go_ret
  exact ⟨rfl, hb⟩
theorem own : ownKnob Try.prog.godebug = none := by kernel_rfl
theorem laidOut : laidOutB Try.prog = true := by kernel_rfl
set_option maxRecDepth 100000 in
theorem lifted (os : Os) (started : os.Started) (H : Type) (enc : TypeId × Value → H) :
    ReturnsInHanded {} Try.checked os 4 .any (Rows.capsRangesSpec.pre6 enc Try.prog Try.f4 Rows.capsRangesRow.domain false) (Rows.capsRangesSpec.post enc Try.prog Try.f4 false true false false) := by
  refine returnsInHanded_of_change (C := Try.checked) own started (by kernel_rfl) Try.func4
    (ChangeSpec.witness6 (enc := enc) (C := Try.checked) false ⟨#[], #[.agg #[.int .u32 0, .int .u8 0, .int .u16 0, .int .u16 0, .int .u16 0, .int .u16 0, .int .u32 0, .bool false], .agg #[.int .u32 0, .int .u32 0]], []⟩ 8 (by kernel_rfl) (by kernel_rfl) (by kernel_rfl) (by kernel_rfl)) ?_
  intro W base args ds gs before hval0 hW hcnd hsz
  have hval : ∀ (j : Nat) t v, Try.f4.params[j]? = some t → args[j]? = some v → Value.okWide Try.prog W .any base t v := hval0
  have hW' := hW
  obtain ⟨p, q, hA0, hV, rfl, hfz, hnd⟩ := hW
  have hA : DataW.TrodAll enc Try.prog W 0 (fun _ => true) true Try.f4.params.toList args.toList ds p := hA0
  rw [Try.params4] at hA hval
  obtain ⟨v0, vs0, d0, ds0, p0, q0, hargs, rfl, rfl, h0, r0⟩ := trodAll_cons hA
  obtain ⟨v1, vs1, d1, ds1, p1, q1, rfl, rfl, rfl, h1, r1⟩ := trodAll_cons r0
  obtain ⟨rfl, rfl, rfl⟩ := trodAll_nil r1
  obtain rfl : args = #[v0, v1] := by cases args; simp_all
  obtain ⟨rfl, rfl⟩ := trodVars_none hV
  have k0 := h0
  have lt0 : ∀ x ∈ p0, x.block < W.heap.size := by obtain ⟨m, hm⟩ := k0; exact DataW.trod_lt m _ _ _ hm
  have k1 := h1
  have lt1 : ∀ x ∈ p1, x.block < W.heap.size := by obtain ⟨m, hm⟩ := k1; exact DataW.trod_lt m _ _ _ hm
  obtain ⟨csca, rfl, hfca⟩ := open_flat (ks := [some .u32, some .u8, some .u16, some .u16, some .u16, some .u16, some .u32, none]) 6 (by kernel_rfl) (.inl ⟨_, Try.underlying25⟩) (hval 0 25 v0 rfl rfl) h0
  obtain ⟨_, _, rfl, ⟨ca0, rfl, wca0⟩, _, _, rfl, ⟨ca1, rfl, wca1⟩, _, _, rfl, ⟨ca2, rfl, wca2⟩, _, _, rfl, ⟨ca3, rfl, wca3⟩, _, _, rfl, ⟨ca4, rfl, wca4⟩, _, _, rfl, ⟨ca5, rfl, wca5⟩, _, _, rfl, ⟨ca6, rfl, wca6⟩, _, _, rfl, ⟨ca7, rfl⟩, rfl⟩ := hfca
  obtain ⟨csrg, rfl, hfrg⟩ := open_flat (ks := [some .u32, some .u32]) 6 (by kernel_rfl) (.inl ⟨_, Try.underlying33⟩) (hval 1 33 v1 rfl rfl) h1
  obtain ⟨_, _, rfl, ⟨rg0, rfl, wrg0⟩, _, _, rfl, ⟨rg1, rfl, wrg1⟩, rfl⟩ := hfrg
  clear hA0 hval0
  refine (walk ca0 wca0 ca1 wca1 ca2 wca2 ca3 wca3 ca4 wca4 ca5 wca5 ca6 wca6 ca7 rg0 wrg0 rg1 wrg1 W).mono fun e W' ⟨he, bel⟩ => ?_
  subst he
  exact ⟨_, rfl, _, _, _, [], _, [], hW', trodAll_mk1 (shut_bool Try.underlying4 _), (trodAll_cons_mk (Below.trod laidOut (by kernel_rfl) (of_decide_eq_true (by kernel_rfl)) k0 bel lt0) (trodAll_cons_mk (Below.trod laidOut (by kernel_rfl) (of_decide_eq_true (by kernel_rfl)) k1 bel lt1) trodAll_mk0)), rfl, bel.frame _, fun h => by cases h⟩
theorem over : Rows.capsRangesRow.holds Try.pinned (OpenSpec.ofChange Rows.capsRangesSpec) :=
  OpenClaim.holds_of_wide 4 Try.f4 rfl rfl rfl rfl rfl rfl rfl ⟨rfl, rfl, rfl, rfl, rfl⟩ rfl rfl rfl rfl rfl (by kernel_rfl) Try.func4 (by kernel_rfl)
    (of_decide_eq_true (by kernel_rfl)) (by unfold Func.isWrapper; first | (rw [if_pos (by decide +kernel)]; kernel_rfl) | (rw [if_neg (by decide +kernel)]; exact ⟨rfl, rfl⟩))
    (fun os started H enc _ => lifted os started H enc)
/-- The given statement. -/
theorem proved : Rows.CapsRangesSaid := over
end Go.Proofs.Ytikgeombccoahaa.cranges
