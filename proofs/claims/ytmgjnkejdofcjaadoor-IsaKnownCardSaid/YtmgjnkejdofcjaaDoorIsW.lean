/- What every law of layer isa asks first: works. No statement is proved here. -/
import Derived.Test.YtmgjnkejdofcjaaDoorIsE
namespace Go.Proofs.YtmgjnkejdofcjaaDoor
open Go.RowKit
set_option linter.unusedVariables false

theorem wEnc (w : World) (hT : Tabs w) : Calls Tryd.prog 10 #[.agg #[.int .i64 1, .int .i64 3, .int .i64 0, .int .i64 0, .int .i64 (-1)]] w fun e w' => e = .returned (.tuple #[.int .u32 19927039, .int .i64 0]) ∧ Below w.heap.size w w' :=
  (pEncode_any 1 3 0 0 (-1) w hT).mono fun e w' h => ⟨h.1.trans (by kernel_rfl), h.2⟩
theorem wDec (w : World) (hT : Tabs w) : Calls Tryd.prog 13 #[.int .u32 19927039] w fun e w' => e = .returned (.agg #[.int .i64 1, .int .i64 3, .int .i64 0, .int .i64 0, .int .i64 (-1)]) ∧ Below w.heap.size w w' :=
  (pDecode_any 19927039 (by decide) (by decide) w hT).mono fun e w' h => ⟨h.1.trans (by kernel_rfl), h.2⟩
theorem wName (w : World) (hT : Tabs w) : Calls Tryd.prog 15 #[.int .i64 1] w fun e w' => e = .returned (.string ⟨#[108, 105]⟩) ∧ Below w.heap.size w w' :=
  (Name_any 1 w hT).mono fun e w' h => ⟨h.1.trans (by kernel_rfl), h.2 ▸ Below.refl _ _⟩
set_option maxHeartbeats 2000000 in
theorem iworks_any (W : World) (hT : Tabs W) : Calls Tryd.prog 12 #[] W fun e w' => e = .returned (.bool true) ∧ Below W.heap.size W w' := by
  have k0 : KR W [⟨W.heap.size, ir 1 3 0 0 (-1)⟩] (W.alloc (.cells #[.int .i64 1, .int .i64 3, .int .i64 0, .int .i64 0, .int .i64 (-1)] 23)) := (KR.start (W := W)).push (ir 1 3 0 0 (-1)) 23
  obtain ⟨S, hS0⟩ : ∃ S, S = KR W [⟨W.heap.size, ir 1 3 0 0 (-1)⟩] := ⟨_, rfl⟩
  have hK : ∀ w, S w → KR W [⟨W.heap.size, ir 1 3 0 0 (-1)⟩] w := fun w h => by rw [← hS0]; exact h
  have hS : ∀ w w', S w → Below w.heap.size w w' → S w' := fun w w' h k => by rw [hS0] at h ⊢; exact h.below k
  rw [← hS0] at k0
  clear hS0
  have hE := wEnc _ (hT.below (hK _ k0).bl)
  have cD := Lib.hid (cls_call (S := S) fun w hw => (wDec w (hT.below (hK _ hw).bl)).mono fun e w' k => (⟨k.1, hS _ _ hw k.2⟩ : _ ∧ S w'))
  have cN := Lib.hid (cls_call (S := S) fun w hw => (wName w (hT.below (hK _ hw).bl)).mono fun e w' k => (⟨k.1, hS _ _ hw k.2⟩ : _ ∧ S w'))
  have e0 : ∀ y : Wd S, y.w.cell? ⟨W.heap.size, 0, none⟩ = some (.int .i64 1) := fun y => (hK _ y.h).cell _ (List.mem_cons_self ..) rfl
  have e1 : ∀ y : Wd S, y.w.cell? ⟨W.heap.size, 1, none⟩ = some (.int .i64 3) := fun y => (hK _ y.h).cell _ (List.mem_cons_self ..) rfl
  have e2 : ∀ y : Wd S, y.w.cell? ⟨W.heap.size, 2, none⟩ = some (.int .i64 0) := fun y => (hK _ y.h).cell _ (List.mem_cons_self ..) rfl
  have e3 : ∀ y : Wd S, y.w.cell? ⟨W.heap.size, 3, none⟩ = some (.int .i64 0) := fun y => (hK _ y.h).cell _ (List.mem_cons_self ..) rfl
  have e4 : ∀ y : Wd S, y.w.cell? ⟨W.heap.size, 4, none⟩ = some (.int .i64 (-1)) := fun y => (hK _ y.h).cell _ (List.mem_cons_self ..) rfl
  have hEq : ∀ w, (Op.equalIn 10000 23 (.agg #[.int .i64 1, .int .i64 3, .int .i64 0, .int .i64 0, .int .i64 (-1)]) (.agg #[.int .i64 1, .int .i64 3, .int .i64 0, .int .i64 0, .int .i64 (-1)])).run Tryd.prog w = .ok true w := fun w => ins_eq ⟨1, 3, 0, 0, -1⟩ ⟨1, 3, 0, 0, -1⟩ w
  have HS := Lib.hid hS
  have HK := Lib.hid hK
  have hund : undef = Value.tuple #[] := rfl
  replace hE := Lib.hid hE
  replace k0 := Lib.hid k0
  clear hS hK hT
  go_enter Tryd.func12, Tryd.ntmps12
  go_wp2_with fail
  refine hE.out.mono ?_
  rintro e w1 ⟨rfl, h1⟩
  replace k0 := Lib.hid (HS.out _ _ k0.out h1)
  clear h1 hE
  go_wp2_with fail
  refine region_cls S (by kernel_rfl) (by kernel_rfl) (HS.out _ _ k0.out (Below.refl _ _).drew) ?_
  repeat (first
    | go_big_quiet_skip
    | (go_big_quiet_want
       go_big_quiet_op
       first
       | go_big_quiet_on
       | (apply Exists.intro
          refine ⟨fun y => ?_, ?_⟩
          · first | exact rfl | with_reducible exact cD.out y | with_reducible exact cN.out y
          go_big_quiet_on)))
  refine wpQuiet_nil ?_
  intro y
  have hk := Lib.hid (HK.out _ y.h).bl
  go_wp2
  go_ret
  exact ⟨rfl, hk.out⟩
end Go.Proofs.YtmgjnkejdofcjaaDoor
