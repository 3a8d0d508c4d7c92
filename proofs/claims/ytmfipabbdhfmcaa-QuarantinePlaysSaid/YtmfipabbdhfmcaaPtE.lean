/- Contracts of layer paint: Add, Remove. No statement is proved here. -/
import Derived.Test.YtmfipabbdhfmcaaPtD
import Derived.Deep.RegionHeld
namespace Go.Proofs.Ytmfipabbdhfmcaa
set_option maxRecDepth 100000
open Go.RowKit Go.Shelf
set_option linter.unusedVariables false
section
variable {W W' w : World} {p b wb n : Nat} {f : Nat → Bool}
/-- A call on a paint has answered v; the paint is as g tells; nothing else has turned. -/
def PtPost (p b wb n : Nat) (g : Nat → Bool) (v : Value) (w : World) (e : Ending) (w' : World) : Prop := e = .returned v ∧ PtAt w' p b wb n g ∧ Off w.heap.size wb w w'
set_option maxHeartbeats 4000000 in
theorem ptadd (a s : Nat) (ha : a < 4294967296) (hs : s < 4294967296) (H : PtAt w p b wb n f) : Calls Try.prog 21 #[.pointer (some ⟨p, 0, none⟩), .agg #[.int .u32 a, .int .u32 s]] w (PtPost p b wb n (tnF n f a s true) (.bool (okT n f a s true)) w) := by
  obtain ⟨w1, hw1⟩ : ∃ w1, w1 = w.alloc (.cells #[.int .u32 a, .int .u32 s] 33) := ⟨_, rfl⟩
  have b1 : Below w.heap.size w w1 := by rw [hw1]; exact (Below.refl _ _).alloc (Nat.le_refl _) _
  have R1 : RgAt w1 w.heap.size a s := by rw [hw1]; exact ⟨by simp, by simp, by simp⟩
  have P1 : PtAt w1 p b wb n f := H.grow b1
  have hw1' := Lib.hid hw1
  have hlw := Lib.hid H.m.lw
  have hb1 := Lib.hid b1
  obtain ⟨S, hS0⟩ : ∃ S, S = fun w' => Below w1.heap.size w1 w' := ⟨_, rfl⟩
  have hK : ∀ w', S w' → Below w1.heap.size w1 w' := fun w' h => by rw [hS0] at h; exact h
  have h4 : S w1.drew := by rw [hS0]; exact (Below.refl _ _).drew
  have a0 : ∀ y : Wd S, y.w.cell? ⟨p, 0, none⟩ = some (.pointer (some ⟨b, 0, none⟩)) := fun y => ((hK _ y.h).cell (p := ⟨p, 0, none⟩) P1.lp).trans P1.c0
  have a1 : ∀ y : Wd S, y.w.cell? ⟨w.heap.size, 0, none⟩ = some (.int .u32 a) := fun y => ((hK _ y.h).cell (p := ⟨w.heap.size, 0, none⟩) R1.l).trans R1.c0
  have a2 : ∀ y : Wd S, y.w.cell? ⟨w.heap.size, 1, none⟩ = some (.int .u32 s) := fun y => ((hK _ y.h).cell (p := ⟨w.heap.size, 1, none⟩) R1.l).trans R1.c1
  have cM := Lib.hid (show ∀ y : Wd S, Calls Try.prog 45 #[.pointer (some ⟨p, 0, none⟩)] y.w fun e w' => e = .returned (.bool true) ∧ ∃ y' : Wd S, w' = y'.w from
    cls_call (fun w' hw => (ptmade (P1.grow (hK _ hw))).mono fun e w2 k => ⟨k.1, by rw [hS0]; exact (hK _ hw).trans (k.2.mono (hK _ hw).size)⟩))
  have hT := Lib.hid (fun y : Wd S => turn_any a s (to := true) ha hs (P1.grow (hK _ y.h)).m)
  have hP1 := Lib.hid P1
  have hKK := Lib.hid hK
  obtain ⟨F, hF⟩ : ∃ F, F = PtPost p b wb n (tnF n f a s true) (.bool (okT n f a s true)) w := ⟨_, rfl⟩
  rw [← hF]
  have hF' := Lib.hid hF
  clear hF H b1 R1 P1 hw1 hS0 hK
  go_enter Try.func21, Try.ntmps21
  go_upto_region 1 with (fail)
  rw [← hw1'.out]
  go_wp2_with fail
  refine region_cls_tail S 8 (by kernel_rfl) (by kernel_rfl) h4 ?_
  simp only [List.take_succ_cons, List.take_zero, List.drop_succ_cons, List.drop_zero]
  repeat (first
    | go_big_quiet_skip
    | (go_big_quiet_want
       go_big_quiet_op
       first
       | go_big_quiet_on
       | (apply Exists.intro
          refine ⟨fun y => ?_, ?_⟩
          · first | exact rfl | with_reducible exact cM.out y
          go_big_quiet_on)))
  refine wpQuiet_nil ?_
  intro y
  have hTy := Lib.hid (hT.out y)
  have hb := Lib.hid (hKK.out _ y.h)
  obtain ⟨w4, hw4⟩ : ∃ w4, w4 = y.w := ⟨_, rfl⟩
  rw [← hw4] at hTy hb ⊢
  clear hw4 a0 a1 a2 h4 hKK cM hT
  clear y S
  go_wp2_with fail
  refine hTy.out.mono ?_
  rintro e w5 ⟨rfl, hm, ho⟩
  have hE := Lib.hid (show PtPost p b wb n (tnF n f a s true) (.bool (okT n f a s true)) w (.returned (.bool (okT n f a s true))) w5 from
    ⟨rfl, (hP1.out.grow hb.out).next ho hm, (Off.of_below (hb1.out.trans (hb.out.mono hb1.out.size))).trans (ho.mono (Nat.le_trans hb1.out.size hb.out.size))⟩)
  obtain ⟨v, hv⟩ : ∃ v, v = okT n f a s true := ⟨_, rfl⟩
  rw [← hv]
  have hv' := Lib.hid hv
  clear hm ho hTy hv
  go_wp2_with fail
  show F (.returned (.bool v)) w5
  rw [hF'.out, hv'.out]
  exact hE.out
theorem ptadd_nil (a s : Nat) (w : World) : Calls Try.prog 21 #[.pointer none, .agg #[.int .u32 a, .int .u32 s]] w fun e w' => e = .returned (.bool false) ∧ Below w.heap.size w w' := by
  obtain ⟨w1, hw1⟩ : ∃ w1, w1 = w.alloc (.cells #[.int .u32 a, .int .u32 s] 33) := ⟨_, rfl⟩
  have b1 : Below w.heap.size w w1 := by rw [hw1]; exact (Below.refl _ _).alloc (Nat.le_refl _) _
  have hw1' := Lib.hid hw1
  have hb1 := Lib.hid b1
  obtain ⟨S, hS0⟩ : ∃ S, S = fun w' => Below w1.heap.size w1 w' := ⟨_, rfl⟩
  have hK : ∀ w', S w' → Below w1.heap.size w1 w' := fun w' h => by rw [hS0] at h; exact h
  have h4 : S w1.drew := by rw [hS0]; exact (Below.refl _ _).drew
  have cM := Lib.hid (show ∀ y : Wd S, Calls Try.prog 45 #[.pointer none] y.w fun e w' => e = .returned (.bool false) ∧ ∃ y' : Wd S, w' = y'.w from
    cls_call (fun w' hw => (ptmade_nil w').mono fun e w2 k => ⟨k.1, by rw [hS0]; exact (hK _ hw).trans (k.2.mono (hK _ hw).size)⟩))
  have hKK := Lib.hid hK
  clear b1 hw1 hS0 hK
  go_enter Try.func21, Try.ntmps21
  go_upto_region 1 with (fail)
  rw [← hw1'.out]
  go_wp2_with fail
  refine region_cls S (by kernel_rfl) (by kernel_rfl) h4 ?_
  repeat (first
    | go_big_quiet_skip
    | (go_big_quiet_want
       go_big_quiet_op
       first
       | go_big_quiet_on
       | (apply Exists.intro
          refine ⟨fun y => ?_, ?_⟩
          · first | exact rfl | with_reducible exact cM.out y
          go_big_quiet_on)))
  refine wpQuiet_nil ?_
  intro y
  go_wp2_with fail
  go_ret
  exact ⟨rfl, hb1.out.trans ((hKK.out _ y.h).mono hb1.out.size)⟩
set_option maxHeartbeats 4000000 in
theorem ptrem (a s : Nat) (ha : a < 4294967296) (hs : s < 4294967296) (H : PtAt w p b wb n f) : Calls Try.prog 40 #[.pointer (some ⟨p, 0, none⟩), .agg #[.int .u32 a, .int .u32 s]] w (PtPost p b wb n (tnF n f a s false) (.bool (okT n f a s false)) w) := by
  obtain ⟨w1, hw1⟩ : ∃ w1, w1 = w.alloc (.cells #[.int .u32 a, .int .u32 s] 33) := ⟨_, rfl⟩
  have b1 : Below w.heap.size w w1 := by rw [hw1]; exact (Below.refl _ _).alloc (Nat.le_refl _) _
  have R1 : RgAt w1 w.heap.size a s := by rw [hw1]; exact ⟨by simp, by simp, by simp⟩
  have P1 : PtAt w1 p b wb n f := H.grow b1
  have hw1' := Lib.hid hw1
  have hlw := Lib.hid H.m.lw
  have hb1 := Lib.hid b1
  obtain ⟨S, hS0⟩ : ∃ S, S = fun w' => Below w1.heap.size w1 w' := ⟨_, rfl⟩
  have hK : ∀ w', S w' → Below w1.heap.size w1 w' := fun w' h => by rw [hS0] at h; exact h
  have h4 : S w1.drew := by rw [hS0]; exact (Below.refl _ _).drew
  have a0 : ∀ y : Wd S, y.w.cell? ⟨p, 0, none⟩ = some (.pointer (some ⟨b, 0, none⟩)) := fun y => ((hK _ y.h).cell (p := ⟨p, 0, none⟩) P1.lp).trans P1.c0
  have a1 : ∀ y : Wd S, y.w.cell? ⟨w.heap.size, 0, none⟩ = some (.int .u32 a) := fun y => ((hK _ y.h).cell (p := ⟨w.heap.size, 0, none⟩) R1.l).trans R1.c0
  have a2 : ∀ y : Wd S, y.w.cell? ⟨w.heap.size, 1, none⟩ = some (.int .u32 s) := fun y => ((hK _ y.h).cell (p := ⟨w.heap.size, 1, none⟩) R1.l).trans R1.c1
  have cM := Lib.hid (show ∀ y : Wd S, Calls Try.prog 45 #[.pointer (some ⟨p, 0, none⟩)] y.w fun e w' => e = .returned (.bool true) ∧ ∃ y' : Wd S, w' = y'.w from
    cls_call (fun w' hw => (ptmade (P1.grow (hK _ hw))).mono fun e w2 k => ⟨k.1, by rw [hS0]; exact (hK _ hw).trans (k.2.mono (hK _ hw).size)⟩))
  have hT := Lib.hid (fun y : Wd S => turn_any a s (to := false) ha hs (P1.grow (hK _ y.h)).m)
  have hP1 := Lib.hid P1
  have hKK := Lib.hid hK
  obtain ⟨F, hF⟩ : ∃ F, F = PtPost p b wb n (tnF n f a s false) (.bool (okT n f a s false)) w := ⟨_, rfl⟩
  rw [← hF]
  have hF' := Lib.hid hF
  clear hF H b1 R1 P1 hw1 hS0 hK
  go_enter Try.func40, Try.ntmps40
  go_upto_region 1 with (fail)
  rw [← hw1'.out]
  go_wp2_with fail
  refine region_cls_tail S 8 (by kernel_rfl) (by kernel_rfl) h4 ?_
  simp only [List.take_succ_cons, List.take_zero, List.drop_succ_cons, List.drop_zero]
  repeat (first
    | go_big_quiet_skip
    | (go_big_quiet_want
       go_big_quiet_op
       first
       | go_big_quiet_on
       | (apply Exists.intro
          refine ⟨fun y => ?_, ?_⟩
          · first | exact rfl | with_reducible exact cM.out y
          go_big_quiet_on)))
  refine wpQuiet_nil ?_
  intro y
  have hTy := Lib.hid (hT.out y)
  have hb := Lib.hid (hKK.out _ y.h)
  obtain ⟨w4, hw4⟩ : ∃ w4, w4 = y.w := ⟨_, rfl⟩
  rw [← hw4] at hTy hb ⊢
  clear hw4 a0 a1 a2 h4 hKK cM hT
  clear y S
  go_wp2_with fail
  refine hTy.out.mono ?_
  rintro e w5 ⟨rfl, hm, ho⟩
  have hE := Lib.hid (show PtPost p b wb n (tnF n f a s false) (.bool (okT n f a s false)) w (.returned (.bool (okT n f a s false))) w5 from
    ⟨rfl, (hP1.out.grow hb.out).next ho hm, (Off.of_below (hb1.out.trans (hb.out.mono hb1.out.size))).trans (ho.mono (Nat.le_trans hb1.out.size hb.out.size))⟩)
  obtain ⟨v, hv⟩ : ∃ v, v = okT n f a s false := ⟨_, rfl⟩
  rw [← hv]
  have hv' := Lib.hid hv
  clear hm ho hTy hv
  go_wp2_with fail
  show F (.returned (.bool v)) w5
  rw [hF'.out, hv'.out]
  exact hE.out
theorem ptrem_nil (a s : Nat) (w : World) : Calls Try.prog 40 #[.pointer none, .agg #[.int .u32 a, .int .u32 s]] w fun e w' => e = .returned (.bool false) ∧ Below w.heap.size w w' := by
  obtain ⟨w1, hw1⟩ : ∃ w1, w1 = w.alloc (.cells #[.int .u32 a, .int .u32 s] 33) := ⟨_, rfl⟩
  have b1 : Below w.heap.size w w1 := by rw [hw1]; exact (Below.refl _ _).alloc (Nat.le_refl _) _
  have hw1' := Lib.hid hw1
  have hb1 := Lib.hid b1
  obtain ⟨S, hS0⟩ : ∃ S, S = fun w' => Below w1.heap.size w1 w' := ⟨_, rfl⟩
  have hK : ∀ w', S w' → Below w1.heap.size w1 w' := fun w' h => by rw [hS0] at h; exact h
  have h4 : S w1.drew := by rw [hS0]; exact (Below.refl _ _).drew
  have cM := Lib.hid (show ∀ y : Wd S, Calls Try.prog 45 #[.pointer none] y.w fun e w' => e = .returned (.bool false) ∧ ∃ y' : Wd S, w' = y'.w from
    cls_call (fun w' hw => (ptmade_nil w').mono fun e w2 k => ⟨k.1, by rw [hS0]; exact (hK _ hw).trans (k.2.mono (hK _ hw).size)⟩))
  have hKK := Lib.hid hK
  clear b1 hw1 hS0 hK
  go_enter Try.func40, Try.ntmps40
  go_upto_region 1 with (fail)
  rw [← hw1'.out]
  go_wp2_with fail
  refine region_cls S (by kernel_rfl) (by kernel_rfl) h4 ?_
  repeat (first
    | go_big_quiet_skip
    | (go_big_quiet_want
       go_big_quiet_op
       first
       | go_big_quiet_on
       | (apply Exists.intro
          refine ⟨fun y => ?_, ?_⟩
          · first | exact rfl | with_reducible exact cM.out y
          go_big_quiet_on)))
  refine wpQuiet_nil ?_
  intro y
  go_wp2_with fail
  go_ret
  exact ⟨rfl, hb1.out.trans ((hKK.out _ y.h).mono hb1.out.size)⟩
end
end Go.Proofs.Ytmfipabbdhfmcaa
