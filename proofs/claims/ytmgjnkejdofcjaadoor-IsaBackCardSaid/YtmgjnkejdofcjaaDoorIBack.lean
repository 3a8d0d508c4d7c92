/- Proved: each word is of none, or is laid again as it was; each instruction that may be is read again as it was (the card of IsaBack): for every input; the tables of names and forms are tied to the program's text. -/
import Derived.Test.YtmgjnkejdofcjaaDoorIsF
import Derived.Test.YtmgjnkejdofcjaaDoorIsW
import Derived.Test.YtmgjnkejdofcjaaDoorIsV
import Derived.Test.YtmgjnkejdofcjaaDoorFlat
import Derived.Test.YtmgjnkejdofcjaaDoorTie
import Derived.Test.YtmgjnkejdofcjaaDoorCards
import Derived.SevenTiedAt
import Derived.ProofKit
import Derived.OpenShut
import Derived.ShutString
import Derived.ChangeOld
namespace Go.Proofs.YtmgjnkejdofcjaaDoor.iback
open Go.ChangeShapes Go.WideShapes Go.ChangeAt Go.RowKit
open Go.ChangeMaps (open_string shut_string)
set_option linter.unusedVariables false

set_option maxHeartbeats 4000000 in
theorem walk (v : Int) (wv : (Lit.int .u32 v).wf = true) (i0 : Int) (wi0 : (Lit.int .i64 i0).wf = true) (i1 : Int) (wi1 : (Lit.int .i64 i1).wf = true) (i2 : Int) (wi2 : (Lit.int .i64 i2).wf = true) (i3 : Int) (wi3 : (Lit.int .i64 i3).wf = true) (i4 : Int) (wi4 : (Lit.int .i64 i4).wf = true) (W : World) (hT : Tabs W) : Calls Tryd.prog 6 #[.int .u32 v, .agg #[.int .i64 i0, .int .i64 i1, .int .i64 i2, .int .i64 i3, .int .i64 i4]] W fun e w' => e = .returned (.bool true) ∧ Below W.heap.size W w' := by
  clear wi0 wi1 wi2 wi3 wi4
  have hv := bounds_u32 wv
  have k0 : KR W [⟨W.heap.size, ir i0 i1 i2 i3 i4⟩] (W.alloc (.cells #[.int .i64 i0, .int .i64 i1, .int .i64 i2, .int .i64 i3, .int .i64 i4] 23)) := (KR.start (W := W)).push (ir i0 i1 i2 i3 i4) 23
  obtain ⟨w0, hw0⟩ : ∃ w0, w0 = W.alloc (.cells #[.int .i64 i0, .int .i64 i1, .int .i64 i2, .int .i64 i3, .int .i64 i4] 23) := ⟨_, rfl⟩
  rw [← hw0] at k0
  have hD : Calls Tryd.prog 13 #[.int .u32 v] w0 fun e w' => e = .returned (iv (decW v)) ∧ Below w0.heap.size w0 w' := pDecode_any v hv.1 (by omega) w0 (hT.below k0.bl)
  have hz := decW_zero_or v
  have hEqi := Lib.hid (fun w => (show (Op.equalIn 10000 23 (.agg #[.int .i64 i0, .int .i64 i1, .int .i64 i2, .int .i64 i3, .int .i64 i4]) (.agg #[.int .i64 i0, .int .i64 i1, .int .i64 i2, .int .i64 i3, .int .i64 i4])).run Tryd.prog w = .ok true w from by
    have := ins_eq ⟨i0, i1, i2, i3, i4⟩ ⟨i0, i1, i2, i3, i4⟩ w
    rw [decide_eq_true rfl] at this
    exact this))
  obtain ⟨d, hd⟩ : ∃ d, d = decW v := ⟨_, rfl⟩
  rw [← hd] at hD hz
  clear hd wv
  obtain ⟨zo, za, zb, zc, zm⟩ := d
  replace hD : Calls Tryd.prog 13 #[.int .u32 v] w0 fun e w' => e = .returned (.agg #[.int .i64 zo, .int .i64 za, .int .i64 zb, .int .i64 zc, .int .i64 zm]) ∧ Below w0.heap.size w0 w' := hD
  have hE := fun w h => pEncode_any zo za zb zc zm w h
  unfold EncPost at hE
  have hI := fun w h => pEncode_any i0 i1 i2 i3 i4 w h
  unfold EncPost at hI
  have hB : mayB ⟨i0, i1, i2, i3, i4⟩ = true → ∀ w, Tabs w → Calls Tryd.prog 13 #[.int .u32 (encW ⟨i0, i1, i2, i3, i4⟩)] w fun e w' => e = .returned (.agg #[.int .i64 i0, .int .i64 i1, .int .i64 i2, .int .i64 i3, .int .i64 i4]) ∧ Below w.heap.size w w' := fun h w t => by
    have := pDecode_any (encW ⟨i0, i1, i2, i3, i4⟩) (enc_lt h).1 (enc_lt h).2 w t
    unfold DecPost at this
    rw [dec_enc h] at this
    exact this
  generalize encW ⟨i0, i1, i2, i3, i4⟩ = X at *
  generalize mayB ⟨i0, i1, i2, i3, i4⟩ = p at *
  replace hD := Lib.hid hD
  replace hT := Lib.hid hT
  replace k0 := Lib.hid k0
  replace hw0 := Lib.hid hw0
  clear hv
  rcases hz with hz | ⟨hm, he⟩
  · obtain ⟨rfl, rfl, rfl, rfl, rfl⟩ : zo = 0 ∧ za = 0 ∧ zb = 0 ∧ zc = 0 ∧ zm = 0 := by
      have := Ins.mk.inj hz
      exact this
    have hEz : ∀ w, (Op.equalIn 10000 23 (.agg #[.int .i64 0, .int .i64 0, .int .i64 0, .int .i64 0, .int .i64 0]) (.agg #[.int .i64 0, .int .i64 0, .int .i64 0, .int .i64 0, .int .i64 0])).run Tryd.prog w = .ok true w := fun w => ins_eq ⟨0, 0, 0, 0, 0⟩ ⟨0, 0, 0, 0, 0⟩ w
    rw [show mayB ⟨0, 0, 0, 0, 0⟩ = false from zero_not] at hE
    simp only [Bool.false_eq_true, if_false] at hE
    replace hE := Lib.hid hE
    clear hz
    cases p
    · simp only [Bool.false_eq_true, if_false] at hI
      replace hI := Lib.hid hI
      clear hB
      go_enter Tryd.func6, Tryd.ntmps6
      go_wp2_with fail
      rw [← hw0.out]
      refine hD.out.mono ?_
      rintro e w1 ⟨rfl, h1⟩
      have k1 := (k0.out.below h1)
      replace k1 := k1.push (ir 0 0 0 0 0) 23
      clear h1
      obtain ⟨w2, hw2⟩ : ∃ w2, w2 = w1.alloc (.cells #[.int .i64 0, .int .i64 0, .int .i64 0, .int .i64 0, .int .i64 0] 23) := ⟨_, rfl⟩
      replace k1 : KR W [⟨w1.heap.size, ir 0 0 0 0 0⟩, ⟨W.heap.size, ir i0 i1 i2 i3 i4⟩] w2 := by rw [hw2]; exact k1
      replace hw2 := Lib.hid hw2
      have hE1 := Lib.hid (hE.out w2 (hT.out.below k1.bl))
      replace k1 := Lib.hid k1
      clear hD k0 hE
      go_wp2_with fail
      rw [← hw2.out]
      refine hE1.out.mono ?_
      rintro e w3 ⟨rfl, h3⟩
      have k3 := k1.out.below h3
      clear hw2 hE1 k1 h3
      obtain ⟨b0, b1, b2, b3, b4, -⟩ := k3.cells5 (List.mem_cons_self ..)
      obtain ⟨a0, a1, a2, a3, a4, -⟩ := k3.cells5 (g := W.heap.size) (List.mem_cons_of_mem _ (List.mem_cons_self ..))
      have hI' := Lib.hid (hI.out w3 (hT.out.below k3.bl))
      replace k3 := Lib.hid (k3.sub (L' := [⟨W.heap.size, ir i0 i1 i2 i3 i4⟩]) (by intro x hx; simp at hx; subst hx; simp))
      clear hI
      go_wp2_with fail
      refine hI'.out.mono ?_
      rintro e w4 ⟨rfl, h4⟩
      have k4 := k3.out.below h4
      clear h4 hI' k3 a0 a1 a2 a3 a4 b0 b1 b2 b3 b4
      have hWk := Lib.hid (iworks_any w4 (hT.out.below k4.bl))
      replace k4 := Lib.hid k4
      go_wp2_with fail
      refine hWk.out.mono ?_
      rintro e w5 ⟨rfl, h5⟩
      have k5 := Lib.hid (k4.out.below h5).bl
      go_wp2_with fail
      go_ret
      exact ⟨rfl, k5.out⟩
    · simp only [if_true] at hI
      replace hI := Lib.hid hI
      replace hB := Lib.hid (hB rfl)
      go_enter Tryd.func6, Tryd.ntmps6
      go_wp2_with fail
      rw [← hw0.out]
      refine hD.out.mono ?_
      rintro e w1 ⟨rfl, h1⟩
      have k1 := (k0.out.below h1)
      replace k1 := k1.push (ir 0 0 0 0 0) 23
      clear h1
      obtain ⟨w2, hw2⟩ : ∃ w2, w2 = w1.alloc (.cells #[.int .i64 0, .int .i64 0, .int .i64 0, .int .i64 0, .int .i64 0] 23) := ⟨_, rfl⟩
      replace k1 : KR W [⟨w1.heap.size, ir 0 0 0 0 0⟩, ⟨W.heap.size, ir i0 i1 i2 i3 i4⟩] w2 := by rw [hw2]; exact k1
      replace hw2 := Lib.hid hw2
      have hE1 := Lib.hid (hE.out w2 (hT.out.below k1.bl))
      replace k1 := Lib.hid k1
      clear hD k0 hE
      go_wp2_with fail
      rw [← hw2.out]
      refine hE1.out.mono ?_
      rintro e w3 ⟨rfl, h3⟩
      have k3 := k1.out.below h3
      clear hw2 hE1 k1 h3
      obtain ⟨b0, b1, b2, b3, b4, -⟩ := k3.cells5 (List.mem_cons_self ..)
      obtain ⟨a0, a1, a2, a3, a4, -⟩ := k3.cells5 (g := W.heap.size) (List.mem_cons_of_mem _ (List.mem_cons_self ..))
      have hI' := Lib.hid (hI.out w3 (hT.out.below k3.bl))
      replace k3 := Lib.hid (k3.sub (L' := [⟨W.heap.size, ir i0 i1 i2 i3 i4⟩]) (by intro x hx; simp at hx; subst hx; simp))
      clear hI
      go_wp2_with fail
      refine hI'.out.mono ?_
      rintro e w4 ⟨rfl, h4⟩
      have k4 := k3.out.below h4
      clear h4 hI' k3 a0 a1 a2 a3 a4 b0 b1 b2 b3 b4
      obtain ⟨S, hS0⟩ : ∃ S, S = KR W [⟨W.heap.size, ir i0 i1 i2 i3 i4⟩] := ⟨_, rfl⟩
      have hK : ∀ w, S w → KR W [⟨W.heap.size, ir i0 i1 i2 i3 i4⟩] w := fun w h => by rw [← hS0]; exact h
      have hS : ∀ w w', S w → Below w.heap.size w w' → S w' := fun w w' h k => by rw [hS0] at h ⊢; exact h.below k
      rw [← hS0] at k4
      clear hS0
      have cD := Lib.hid (cls_call (S := S) fun w hw => (hB.out w (hT.out.below (hK _ hw).bl)).mono fun e w' k => (⟨k.1, hS _ _ hw k.2⟩ : _ ∧ S w'))
      have cW := Lib.hid (cls_call (S := S) fun w hw => (iworks_any w (hT.out.below (hK _ hw).bl)).mono fun e w' k => (⟨k.1, hS _ _ hw k.2⟩ : _ ∧ S w'))
      have e0 : ∀ y : Wd S, y.w.cell? ⟨W.heap.size, 0, none⟩ = some (.int .i64 i0) := fun y => (hK _ y.h).cell _ (List.mem_cons_self ..) rfl
      have e1 : ∀ y : Wd S, y.w.cell? ⟨W.heap.size, 1, none⟩ = some (.int .i64 i1) := fun y => (hK _ y.h).cell _ (List.mem_cons_self ..) rfl
      have e2 : ∀ y : Wd S, y.w.cell? ⟨W.heap.size, 2, none⟩ = some (.int .i64 i2) := fun y => (hK _ y.h).cell _ (List.mem_cons_self ..) rfl
      have e3 : ∀ y : Wd S, y.w.cell? ⟨W.heap.size, 3, none⟩ = some (.int .i64 i3) := fun y => (hK _ y.h).cell _ (List.mem_cons_self ..) rfl
      have e4 : ∀ y : Wd S, y.w.cell? ⟨W.heap.size, 4, none⟩ = some (.int .i64 i4) := fun y => (hK _ y.h).cell _ (List.mem_cons_self ..) rfl
      have HS := Lib.hid hS
      have HK := Lib.hid hK
      have hEi := hEqi.out
      have hund : undef = Value.tuple #[] := rfl
      replace k4 := Lib.hid k4
      clear hS hK
      go_wp2_with fail
      refine region_cls S (by kernel_rfl) (by kernel_rfl) (HS.out _ _ k4.out (Below.refl _ _).drew) ?_
      repeat (first
        | go_big_quiet_skip
        | (go_big_quiet_want
           go_big_quiet_op
           first
           | go_big_quiet_on
           | (apply Exists.intro
              refine ⟨fun y => ?_, ?_⟩
              · first | exact rfl | with_reducible exact cD.out y | with_reducible exact cW.out y
              go_big_quiet_on)))
      refine wpQuiet_nil ?_
      intro y
      have hk := Lib.hid (HK.out _ y.h).bl
      go_wp2
      go_ret
      exact ⟨rfl, hk.out⟩
  · have h0 : (zo == 0) = false := by
      have := (may_parts hm).1
      simp only [beq_eq_false_iff_ne, ne_eq]
      dsimp only at this
      omega
    rw [hm, he] at hE
    simp only [if_true] at hE
    replace hE := Lib.hid hE
    clear hm he
    cases p
    · simp only [Bool.false_eq_true, if_false] at hI
      replace hI := Lib.hid hI
      clear hB
      go_enter Tryd.func6, Tryd.ntmps6
      go_wp2_with fail
      rw [← hw0.out]
      refine hD.out.mono ?_
      rintro e w1 ⟨rfl, h1⟩
      have k1 := (k0.out.below h1)
      replace k1 := k1.push (ir zo za zb zc zm) 23
      clear h1
      obtain ⟨w2, hw2⟩ : ∃ w2, w2 = w1.alloc (.cells #[.int .i64 zo, .int .i64 za, .int .i64 zb, .int .i64 zc, .int .i64 zm] 23) := ⟨_, rfl⟩
      replace k1 : KR W [⟨w1.heap.size, ir zo za zb zc zm⟩, ⟨W.heap.size, ir i0 i1 i2 i3 i4⟩] w2 := by rw [hw2]; exact k1
      replace hw2 := Lib.hid hw2
      have hE1 := Lib.hid (hE.out w2 (hT.out.below k1.bl))
      replace k1 := Lib.hid k1
      clear hD k0 hE
      go_wp2_with fail
      rw [← hw2.out]
      refine hE1.out.mono ?_
      rintro e w3 ⟨rfl, h3⟩
      have k3 := k1.out.below h3
      clear hw2 hE1 k1 h3
      obtain ⟨b0, b1, b2, b3, b4, -⟩ := k3.cells5 (List.mem_cons_self ..)
      obtain ⟨a0, a1, a2, a3, a4, -⟩ := k3.cells5 (g := W.heap.size) (List.mem_cons_of_mem _ (List.mem_cons_self ..))
      have hI' := Lib.hid (hI.out w3 (hT.out.below k3.bl))
      replace k3 := Lib.hid (k3.sub (L' := [⟨W.heap.size, ir i0 i1 i2 i3 i4⟩]) (by intro x hx; simp at hx; subst hx; simp))
      clear hI
      go_wp2_with fail
      refine hI'.out.mono ?_
      rintro e w4 ⟨rfl, h4⟩
      have k4 := k3.out.below h4
      clear h4 hI' k3 a0 a1 a2 a3 a4 b0 b1 b2 b3 b4
      have hWk := Lib.hid (iworks_any w4 (hT.out.below k4.bl))
      replace k4 := Lib.hid k4
      go_wp2_with fail
      refine hWk.out.mono ?_
      rintro e w5 ⟨rfl, h5⟩
      have k5 := Lib.hid (k4.out.below h5).bl
      go_wp2_with fail
      go_ret
      exact ⟨rfl, k5.out⟩
    · simp only [if_true] at hI
      replace hI := Lib.hid hI
      replace hB := Lib.hid (hB rfl)
      go_enter Tryd.func6, Tryd.ntmps6
      go_wp2_with fail
      rw [← hw0.out]
      refine hD.out.mono ?_
      rintro e w1 ⟨rfl, h1⟩
      have k1 := (k0.out.below h1)
      replace k1 := k1.push (ir zo za zb zc zm) 23
      clear h1
      obtain ⟨w2, hw2⟩ : ∃ w2, w2 = w1.alloc (.cells #[.int .i64 zo, .int .i64 za, .int .i64 zb, .int .i64 zc, .int .i64 zm] 23) := ⟨_, rfl⟩
      replace k1 : KR W [⟨w1.heap.size, ir zo za zb zc zm⟩, ⟨W.heap.size, ir i0 i1 i2 i3 i4⟩] w2 := by rw [hw2]; exact k1
      replace hw2 := Lib.hid hw2
      have hE1 := Lib.hid (hE.out w2 (hT.out.below k1.bl))
      replace k1 := Lib.hid k1
      clear hD k0 hE
      go_wp2_with fail
      rw [← hw2.out]
      refine hE1.out.mono ?_
      rintro e w3 ⟨rfl, h3⟩
      have k3 := k1.out.below h3
      clear hw2 hE1 k1 h3
      obtain ⟨b0, b1, b2, b3, b4, -⟩ := k3.cells5 (List.mem_cons_self ..)
      obtain ⟨a0, a1, a2, a3, a4, -⟩ := k3.cells5 (g := W.heap.size) (List.mem_cons_of_mem _ (List.mem_cons_self ..))
      have hI' := Lib.hid (hI.out w3 (hT.out.below k3.bl))
      replace k3 := Lib.hid (k3.sub (L' := [⟨W.heap.size, ir i0 i1 i2 i3 i4⟩]) (by intro x hx; simp at hx; subst hx; simp))
      clear hI
      go_wp2_with fail
      refine hI'.out.mono ?_
      rintro e w4 ⟨rfl, h4⟩
      have k4 := k3.out.below h4
      clear h4 hI' k3 a0 a1 a2 a3 a4 b0 b1 b2 b3 b4
      obtain ⟨S, hS0⟩ : ∃ S, S = KR W [⟨W.heap.size, ir i0 i1 i2 i3 i4⟩] := ⟨_, rfl⟩
      have hK : ∀ w, S w → KR W [⟨W.heap.size, ir i0 i1 i2 i3 i4⟩] w := fun w h => by rw [← hS0]; exact h
      have hS : ∀ w w', S w → Below w.heap.size w w' → S w' := fun w w' h k => by rw [hS0] at h ⊢; exact h.below k
      rw [← hS0] at k4
      clear hS0
      have cD := Lib.hid (cls_call (S := S) fun w hw => (hB.out w (hT.out.below (hK _ hw).bl)).mono fun e w' k => (⟨k.1, hS _ _ hw k.2⟩ : _ ∧ S w'))
      have cW := Lib.hid (cls_call (S := S) fun w hw => (iworks_any w (hT.out.below (hK _ hw).bl)).mono fun e w' k => (⟨k.1, hS _ _ hw k.2⟩ : _ ∧ S w'))
      have e0 : ∀ y : Wd S, y.w.cell? ⟨W.heap.size, 0, none⟩ = some (.int .i64 i0) := fun y => (hK _ y.h).cell _ (List.mem_cons_self ..) rfl
      have e1 : ∀ y : Wd S, y.w.cell? ⟨W.heap.size, 1, none⟩ = some (.int .i64 i1) := fun y => (hK _ y.h).cell _ (List.mem_cons_self ..) rfl
      have e2 : ∀ y : Wd S, y.w.cell? ⟨W.heap.size, 2, none⟩ = some (.int .i64 i2) := fun y => (hK _ y.h).cell _ (List.mem_cons_self ..) rfl
      have e3 : ∀ y : Wd S, y.w.cell? ⟨W.heap.size, 3, none⟩ = some (.int .i64 i3) := fun y => (hK _ y.h).cell _ (List.mem_cons_self ..) rfl
      have e4 : ∀ y : Wd S, y.w.cell? ⟨W.heap.size, 4, none⟩ = some (.int .i64 i4) := fun y => (hK _ y.h).cell _ (List.mem_cons_self ..) rfl
      have HS := Lib.hid hS
      have HK := Lib.hid hK
      have hEi := hEqi.out
      have hund : undef = Value.tuple #[] := rfl
      replace k4 := Lib.hid k4
      clear hS hK
      go_wp2_with fail
      refine region_cls S (by kernel_rfl) (by kernel_rfl) (HS.out _ _ k4.out (Below.refl _ _).drew) ?_
      repeat (first
        | go_big_quiet_skip
        | (go_big_quiet_want
           go_big_quiet_op
           first
           | go_big_quiet_on
           | (apply Exists.intro
              refine ⟨fun y => ?_, ?_⟩
              · first | exact rfl | with_reducible exact cD.out y | with_reducible exact cW.out y
              go_big_quiet_on)))
      refine wpQuiet_nil ?_
      intro y
      have hk := Lib.hid (HK.out _ y.h).bl
      go_wp2
      go_ret
      exact ⟨rfl, hk.out⟩

set_option maxRecDepth 100000 in
theorem lifted (os : Os) (started : os.Started) (H : Type) (enc : TypeId × Value → H) :
    ReturnsInHanded {} Tryd.checked os 6 .any (fun w args => (Rows.isaBackSpec.pre enc Tryd.prog Tryd.f6 [] false w args ∧ laidMetH Tryd.prog Rows.isaBackRow.laid w) ∧ sizedMet enc Tryd.prog Tryd.f6 (OpenSpec.ofChange Rows.isaBackSpec) false w args) (Rows.isaBackSpec.post enc Tryd.prog Tryd.f6 false true false false) := by
  refine returnsInHanded_of_change_and (C := Tryd.checked) (X := fun w _ => laidMetH Tryd.prog Rows.isaBackRow.laid w) (fun _ _ _ hh h => h.of_heap hh) own started (by kernel_rfl) Tryd.func6
    (ChangeSpec.witness_at (enc := enc) (C := Tryd.checked) (os := os) (X := fun w _ => laidMetH Tryd.prog Rows.isaBackRow.laid w) false (laidWorld os) #[.int .u32 0, .agg #[.int .i64 0, .int .i64 0, .int .i64 0, .int .i64 0, .int .i64 0]] 8 rfl (by kernel_rfl) (by kernel_rfl) (by kernel_rfl) (by kernel_rfl) (by kernel_rfl) (laid_met os _)) ?_
  intro W base args ds gs before hval0 hW _ _ hL _
  have hval : ∀ (j : Nat) t v, Tryd.f6.params[j]? = some t → args[j]? = some v → Value.okWide Tryd.prog W .any base t v := hval0
  have hW' := hW
  obtain ⟨p, q, hA0, hV, rfl, hfz, hnd⟩ := hW
  have hA : DataW.TrodAll enc Tryd.prog W 0 (fun _ => true) true Tryd.f6.params.toList args.toList ds p := hA0
  rw [Tryd.params6] at hA hval
  obtain ⟨v0, vs0, d0, ds0, p0, q0, hargs, rfl, rfl, h0, r0⟩ := trodAll_cons hA
  obtain ⟨v1, vs1, d1, ds1, p1, q1, rfl, rfl, rfl, h1, r1⟩ := trodAll_cons r0
  obtain ⟨rfl, rfl, rfl⟩ := trodAll_nil r1
  obtain rfl : args = #[v0, v1] := by cases args; simp_all
  obtain ⟨rfl, rfl⟩ := trodVars_none hV
  have k0 := h0
  have lt0 : ∀ x ∈ p0, x.block < W.heap.size := by obtain ⟨m, hm⟩ := k0; exact DataW.trod_lt m _ _ _ hm
  have k1 := h1
  have lt1 : ∀ x ∈ p1, x.block < W.heap.size := by obtain ⟨m, hm⟩ := k1; exact DataW.trod_lt m _ _ _ hm
  obtain ⟨v, rfl, rfl, rfl, wv⟩ := open_int Tryd.underlying24 (hval 0 24 v0 rfl rfl) h0
  obtain ⟨csi, rfl, hfi⟩ := open_flat (ks := [some .i64, some .i64, some .i64, some .i64, some .i64]) 6 (by kernel_rfl) (.inl ⟨_, Tryd.underlying23⟩) (hval 1 23 v1 rfl rfl) h1
  obtain ⟨_, _, rfl, ⟨i0, rfl, wi0⟩, _, _, rfl, ⟨i1, rfl, wi1⟩, _, _, rfl, ⟨i2, rfl, wi2⟩, _, _, rfl, ⟨i3, rfl, wi3⟩, _, _, rfl, ⟨i4, rfl, wi4⟩, rfl⟩ := hfi
  clear hA0 hval0
  refine (walk v wv i0 wi0 i1 wi1 i2 wi2 i3 wi3 i4 wi4 W (tabs_of_laid hL)).mono fun e W' ⟨he, bel⟩ => ?_
  subst he
  exact ⟨_, rfl, _, _, _, [], _, [], hW', trodAll_mk1 (shut_bool Tryd.underlying4 _), (trodAll_cons_mk (Below.trod laidOut (by kernel_rfl) (of_decide_eq_true (by kernel_rfl)) k0 bel lt0) (trodAll_cons_mk (Below.trod laidOut (by kernel_rfl) (of_decide_eq_true (by kernel_rfl)) k1 bel lt1) trodAll_mk0)), rfl, bel.frame _, fun h => by cases h⟩
theorem over : Rows.IsaBackSaid :=
  OpenClaim.holds_of_wide 6 Tryd.f6 rfl rfl rfl rfl rfl rfl rfl ⟨rfl, rfl, rfl, rfl, rfl⟩ rfl rfl rfl rfl rfl (by kernel_rfl) Tryd.func6 (by kernel_rfl)
    (of_decide_eq_true (by kernel_rfl)) (by unfold Func.isWrapper; first | (rw [if_pos (by decide +kernel)]; kernel_rfl) | (rw [if_neg (by decide +kernel)]; exact ⟨rfl, rfl⟩))
    (fun os started H enc _ => lifted os started H enc)
/-- The given statement. -/
theorem proved : Rows.IsaBackCardSaid :=
  Claim7.holds_tied_plain_at .later [] [.data, .data] true (true, "450f401a4c4e925ae382747976bb556dbd206c48d08eb915d92392bd75249c1c") false
    over (fun _ h => by cases h) (by kernel_rfl) (fun _ h => by cases h) isaBack_row_tie rfl ⟨rfl, rfl⟩ (by kernel_rfl) rfl
    (fun f fn hf hfn => by
      obtain rfl : f = 6 := Option.some.inj ((show Tryd.prog.funcNamed "fallow/fallowlaw07.IsaBack" = some 6 by kernel_rfl).symm.trans hf) |>.symm
      obtain rfl : fn = Tryd.f6 := (Option.some.inj (Tryd.func6.symm.trans hfn)).symm
      exact ⟨by kernel_rfl, fun j t ht => by
        rw [Tryd.params6] at ht
        rcases j with _ | _ | j
        · obtain rfl : t = 24 := by simpa using ht.symm
          exact (show Tryd.prog.wantsStandIn 24 = false by kernel_rfl)
        · obtain rfl : t = 23 := by simpa using ht.symm
          exact (show Tryd.prog.wantsStandIn 23 = false by kernel_rfl)
        · simp at ht⟩)
    (by kernel_rfl)
end Go.Proofs.YtmgjnkejdofcjaaDoor.iback
