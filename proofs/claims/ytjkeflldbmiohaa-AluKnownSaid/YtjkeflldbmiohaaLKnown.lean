/- Proved: the chapter's examples, and what is no such operation (AluKnown). For every input; no condition. -/
import Derived.Test.YtjkeflldbmiohaaRows
import Derived.Test.YtjkeflldbmiohaaAlC
import Derived.Test.YtjkeflldbmiohaaCls
import Derived.ProofKit
import Derived.OpenShut
import Derived.ChangeOld
namespace Go.Proofs.Ytjkeflldbmiohaa.known
open Go.ChangeShapes Go.WideShapes Go.ChangeAt Go.RowKit
set_option linter.unusedVariables false
set_option maxRecDepth 100000

set_option maxHeartbeats 8000000 in
theorem walk (W : World) : Calls Try.prog 9 #[] W fun e w' => e = .returned (.bool true) ∧ Below W.heap.size W w' := by
  have c0 : Hid (∀ w, Calls Try.prog 15 #[.int .i64 4, .int .u32 1, .int .u32 2] w fun e w' => e = .returned (.int .u32 4294967295) ∧ Below w.heap.size w w') := Lib.hid (of_is 4 1 2 4294967295 (by decide) (by decide) (by kernel_rfl))
  have c1 : Hid (∀ w, Calls Try.prog 15 #[.int .i64 5, .int .u32 65536, .int .u32 65536] w fun e w' => e = .returned (.int .u32 0) ∧ Below w.heap.size w w') := Lib.hid (of_is 5 65536 65536 0 (by decide) (by decide) (by kernel_rfl))
  have c2 : Hid (∀ w, Calls Try.prog 15 #[.int .i64 7, .int .u32 7, .int .u32 2] w fun e w' => e = .returned (.int .u32 1) ∧ Below w.heap.size w w') := Lib.hid (of_is 7 7 2 1 (by decide) (by decide) (by kernel_rfl))
  have c3 : Hid (∀ w, Calls Try.prog 15 #[.int .i64 11, .int .u32 1, .int .u32 33] w fun e w' => e = .returned (.int .u32 2) ∧ Below w.heap.size w w') := Lib.hid (of_is 11 1 33 2 (by decide) (by decide) (by kernel_rfl))
  have c4 : Hid (∀ w, Calls Try.prog 15 #[.int .i64 12, .int .u32 2147483648, .int .u32 31] w fun e w' => e = .returned (.int .u32 1) ∧ Below w.heap.size w w') := Lib.hid (of_is 12 2147483648 31 1 (by decide) (by decide) (by kernel_rfl))
  have c5 : Hid (∀ w, Calls Try.prog 15 #[.int .i64 13, .int .u32 4294967295, .int .u32 0] w fun e w' => e = .returned (.int .u32 1) ∧ Below w.heap.size w w') := Lib.hid (of_is 13 4294967295 0 1 (by decide) (by decide) (by kernel_rfl))
  have c6 : Hid (∀ w, Calls Try.prog 15 #[.int .i64 14, .int .u32 4294967295, .int .u32 0] w fun e w' => e = .returned (.int .u32 0) ∧ Below w.heap.size w w') := Lib.hid (of_is 14 4294967295 0 0 (by decide) (by decide) (by kernel_rfl))
  have c7 : Hid (∀ w, Calls Try.prog 15 #[.int .i64 15, .int .u32 5, .int .u32 5] w fun e w' => e = .returned (.int .u32 1) ∧ Below w.heap.size w w') := Lib.hid (of_is 15 5 5 1 (by decide) (by decide) (by kernel_rfl))
  have c8 : Hid (∀ w, Calls Try.prog 15 #[.int .i64 8, .int .u32 12, .int .u32 10] w fun e w' => e = .returned (.int .u32 8) ∧ Below w.heap.size w w') := Lib.hid (of_is 8 12 10 8 (by decide) (by decide) (by kernel_rfl))
  have c9 : Hid (∀ w, Calls Try.prog 15 #[.int .i64 9, .int .u32 12, .int .u32 10] w fun e w' => e = .returned (.int .u32 14) ∧ Below w.heap.size w w') := Lib.hid (of_is 9 12 10 14 (by decide) (by decide) (by kernel_rfl))
  have c10 : Hid (∀ w, Calls Try.prog 15 #[.int .i64 10, .int .u32 12, .int .u32 10] w fun e w' => e = .returned (.int .u32 6) ∧ Below w.heap.size w w') := Lib.hid (of_is 10 12 10 6 (by decide) (by decide) (by kernel_rfl))
  have c11 : Hid (∀ w, Calls Try.prog 15 #[.int .i64 3, .int .u32 4294967295, .int .u32 2] w fun e w' => e = .returned (.int .u32 1) ∧ Below w.heap.size w w') := Lib.hid (of_is 3 4294967295 2 1 (by decide) (by decide) (by kernel_rfl))
  have r1 : Hid (∀ w, Calls Try.prog 10 #[.int .i64 6, .int .u32 7, .int .u32 0] w fun e w' => e = .returned (.tuple #[.int .u32 0, .int .i64 7, .bool true]) ∧ Below w.heap.size w w') := Lib.hid (reckon_any 6 7 0 (by decide) (by decide))
  have r2 : Hid (∀ w, Calls Try.prog 10 #[.int .i64 7, .int .u32 0, .int .u32 0] w fun e w' => e = .returned (.tuple #[.int .u32 0, .int .i64 7, .bool true]) ∧ Below w.heap.size w w') := Lib.hid (reckon_any 7 0 0 (by decide) (by decide))
  have t1 : Hid (∀ w, Calls Try.prog 13 #[.int .i64 27, .int .u32 4294967295, .int .u32 0] w fun e w' => e = .returned (.tuple #[.bool true, .bool true]) ∧ w = w') := Lib.hid (takes_any 27 4294967295 0 (by decide) (by decide))
  have t2 : Hid (∀ w, Calls Try.prog 13 #[.int .i64 28, .int .u32 4294967295, .int .u32 0] w fun e w' => e = .returned (.tuple #[.bool false, .bool true]) ∧ w = w') := Lib.hid (takes_any 28 4294967295 0 (by decide) (by decide))
  have t3 : Hid (∀ w, Calls Try.prog 13 #[.int .i64 26, .int .u32 1, .int .u32 1] w fun e w' => e = .returned (.tuple #[.bool false, .bool true]) ∧ w = w') := Lib.hid (takes_any 26 1 1 (by decide) (by decide))
  have rA : Hid (∀ (op : Int) w, Calls Try.prog 10 #[.int .i64 op, .int .u32 1, .int .u32 1] w fun e w' => e = .returned (.tuple #[.int .u32 (valR op 1 1 : Nat), .int .i64 (trapR op 1), .bool (isR op)]) ∧ Below w.heap.size w w') := Lib.hid (fun op => reckon_any op 1 1 (by decide) (by decide))
  have tA : Hid (∀ (op : Int) w, Calls Try.prog 13 #[.int .i64 op, .int .u32 1, .int .u32 1] w fun e w' => e = .returned (.tuple #[.bool (takeR op 1 1), .bool (isT op)]) ∧ w = w') := Lib.hid (fun op => takes_any op 1 1 (by decide) (by decide))
  have hw : Hid (∀ w, _) := Lib.hid works_any
  have hW := Lib.hid (Below.refl W.heap.size W)
  go_enter Try.func9, Try.ntmps9
  go_wp2_with fail
  refine (c0.out _).mono ?_
  rintro e w ⟨rfl, hh⟩
  replace hW := Lib.hid (hW.out.trans (hh.mono hW.out.size))
  clear hh
  go_wp2_with fail
  refine (c1.out _).mono ?_
  rintro e w ⟨rfl, hh⟩
  replace hW := Lib.hid (hW.out.trans (hh.mono hW.out.size))
  clear hh
  go_wp2_with fail
  refine (c2.out _).mono ?_
  rintro e w ⟨rfl, hh⟩
  replace hW := Lib.hid (hW.out.trans (hh.mono hW.out.size))
  clear hh
  go_wp2_with fail
  refine (c3.out _).mono ?_
  rintro e w ⟨rfl, hh⟩
  replace hW := Lib.hid (hW.out.trans (hh.mono hW.out.size))
  clear hh
  go_wp2_with fail
  refine (c4.out _).mono ?_
  rintro e w ⟨rfl, hh⟩
  replace hW := Lib.hid (hW.out.trans (hh.mono hW.out.size))
  clear hh
  go_wp2_with fail
  refine (c5.out _).mono ?_
  rintro e w ⟨rfl, hh⟩
  replace hW := Lib.hid (hW.out.trans (hh.mono hW.out.size))
  clear hh
  go_wp2_with fail
  refine (c6.out _).mono ?_
  rintro e w ⟨rfl, hh⟩
  replace hW := Lib.hid (hW.out.trans (hh.mono hW.out.size))
  clear hh
  go_wp2_with fail
  refine (c7.out _).mono ?_
  rintro e w ⟨rfl, hh⟩
  replace hW := Lib.hid (hW.out.trans (hh.mono hW.out.size))
  clear hh
  go_wp2_with fail
  refine (c8.out _).mono ?_
  rintro e w ⟨rfl, hh⟩
  replace hW := Lib.hid (hW.out.trans (hh.mono hW.out.size))
  clear hh
  go_wp2_with fail
  refine (c9.out _).mono ?_
  rintro e w ⟨rfl, hh⟩
  replace hW := Lib.hid (hW.out.trans (hh.mono hW.out.size))
  clear hh
  go_wp2_with fail
  refine (c10.out _).mono ?_
  rintro e w ⟨rfl, hh⟩
  replace hW := Lib.hid (hW.out.trans (hh.mono hW.out.size))
  clear hh
  go_wp2_with fail
  refine (c11.out _).mono ?_
  rintro e w ⟨rfl, hh⟩
  replace hW := Lib.hid (hW.out.trans (hh.mono hW.out.size))
  clear hh
  go_wp2_with fail
  refine (r1.out _).mono ?_
  rintro e w ⟨rfl, hh⟩
  replace hW := Lib.hid (hW.out.trans (hh.mono hW.out.size))
  clear hh
  go_wp2_with fail
  refine (r2.out _).mono ?_
  rintro e w ⟨rfl, hh⟩
  replace hW := Lib.hid (hW.out.trans (hh.mono hW.out.size))
  clear hh
  go_wp2_with fail
  clear c0 c1 c2 c3 c4 c5 c6 c7 c8 c9 c10 c11 r1 r2
  go_loopw [7] (fun i wr => ∃ z : Int, -3 ≤ z ∧ z ≤ 57 ∧ i = .int .i64 z ∧ Hid (Below W.heap.size W wr)) (fun i _ => (57 - intOf i).toNat)
  case atStart => exact ⟨-3, by omega, by omega, rfl, hW⟩
  case round =>
    clear hW
    obtain ⟨z, z1, z2, rfl, hW⟩ := hrel
    have q1 := rA.out z
    have q2 := tA.out z
    generalize ((valR z 1 1 : Nat) : Int) = V at q1
    generalize trapR z 1 = T at q1
    generalize takeR z 1 1 = K at q2
    have : z = 57 ∨ z < 3 ∨ (3 ≤ z ∧ z ≤ 15) ∨ (16 ≤ z ∧ z ≤ 24) ∨ (25 ≤ z ∧ z ≤ 28) ∨ (29 ≤ z ∧ z ≤ 56) := by omega
    rcases this with rfl | h | h | h | h | h
    · clear q1 q2
      go_wp2_with fail
      refine (t1.out _).mono ?_
      rintro e w ⟨rfl, rfl⟩
      go_wp2_with fail
      refine (t2.out _).mono ?_
      rintro e w ⟨rfl, rfl⟩
      go_wp2_with fail
      refine (t3.out _).mono ?_
      rintro e w ⟨rfl, rfl⟩
      go_wp2_with fail
      refine (hw.out _).mono ?_
      rintro e w ⟨rfl, hh⟩
      replace hW := Lib.hid (hW.out.trans (hh.mono hW.out.size))
      clear hh
      go_wp2
      go_ret
      exact ⟨rfl, hW.out⟩
    · have i1 : isR z = false := decide_eq_false (by omega)
      have i2 : isT z = false := decide_eq_false (by omega)
      rw [i1] at q1
      rw [i2] at q2
      replace q1 := Lib.hid q1
      replace q2 := Lib.hid q2
      clear i1 i2
      go_wp2_with fail
      refine (q1.out _).mono ?_
      rintro e w ⟨rfl, hh⟩
      replace hW := Lib.hid (hW.out.trans (hh.mono hW.out.size))
      clear hh
      go_wp2_with fail
      refine (q2.out _).mono ?_
      rintro e w ⟨rfl, rfl⟩
      go_wp2
      go_roundw
      case rel => exact ⟨z + 1, by omega, by omega, by go_num, hW⟩
      case measure => simp [intOf]; omega
    · have i1 : isR z = true := decide_eq_true (by omega)
      have i2 : isT z = false := decide_eq_false (by omega)
      rw [i1] at q1
      rw [i2] at q2
      replace q1 := Lib.hid q1
      replace q2 := Lib.hid q2
      clear i1 i2
      go_wp2_with fail
      refine (q1.out _).mono ?_
      rintro e w ⟨rfl, hh⟩
      replace hW := Lib.hid (hW.out.trans (hh.mono hW.out.size))
      clear hh
      go_wp2_with fail
      refine (q2.out _).mono ?_
      rintro e w ⟨rfl, rfl⟩
      go_wp2
      go_roundw
      case rel => exact ⟨z + 1, by omega, by omega, by go_num, hW⟩
      case measure => simp [intOf]; omega
    · have i1 : isR z = false := decide_eq_false (by omega)
      have i2 : isT z = false := decide_eq_false (by omega)
      rw [i1] at q1
      rw [i2] at q2
      replace q1 := Lib.hid q1
      replace q2 := Lib.hid q2
      clear i1 i2
      go_wp2_with fail
      refine (q1.out _).mono ?_
      rintro e w ⟨rfl, hh⟩
      replace hW := Lib.hid (hW.out.trans (hh.mono hW.out.size))
      clear hh
      go_wp2_with fail
      refine (q2.out _).mono ?_
      rintro e w ⟨rfl, rfl⟩
      go_wp2
      go_roundw
      case rel => exact ⟨z + 1, by omega, by omega, by go_num, hW⟩
      case measure => simp [intOf]; omega
    · have i1 : isR z = false := decide_eq_false (by omega)
      have i2 : isT z = true := decide_eq_true (by omega)
      rw [i1] at q1
      rw [i2] at q2
      replace q1 := Lib.hid q1
      replace q2 := Lib.hid q2
      clear i1 i2
      go_wp2_with fail
      refine (q1.out _).mono ?_
      rintro e w ⟨rfl, hh⟩
      replace hW := Lib.hid (hW.out.trans (hh.mono hW.out.size))
      clear hh
      go_wp2_with fail
      refine (q2.out _).mono ?_
      rintro e w ⟨rfl, rfl⟩
      go_wp2
      go_roundw
      case rel => exact ⟨z + 1, by omega, by omega, by go_num, hW⟩
      case measure => simp [intOf]; omega
    · have i1 : isR z = false := decide_eq_false (by omega)
      have i2 : isT z = false := decide_eq_false (by omega)
      rw [i1] at q1
      rw [i2] at q2
      replace q1 := Lib.hid q1
      replace q2 := Lib.hid q2
      clear i1 i2
      go_wp2_with fail
      refine (q1.out _).mono ?_
      rintro e w ⟨rfl, hh⟩
      replace hW := Lib.hid (hW.out.trans (hh.mono hW.out.size))
      clear hh
      go_wp2_with fail
      refine (q2.out _).mono ?_
      rintro e w ⟨rfl, rfl⟩
      go_wp2
      go_roundw
      case rel => exact ⟨z + 1, by omega, by omega, by go_num, hW⟩
      case measure => simp [intOf]; omega
theorem own : ownKnob Try.prog.godebug = none := by kernel_rfl
theorem laidOut : laidOutB Try.prog = true := by kernel_rfl
set_option maxRecDepth 100000 in
theorem lifted (os : Os) (started : os.Started) (H : Type) (enc : TypeId × Value → H) :
    ReturnsInHanded {} Try.checked os 9 .any (Rows.aluKnownSpec.pre6 enc Try.prog Try.f9 Rows.aluKnownRow.domain false) (Rows.aluKnownSpec.post enc Try.prog Try.f9 false true false false) := by
  refine returnsInHanded_of_change (C := Try.checked) own started (by kernel_rfl) Try.func9
    (ChangeSpec.witness6 (enc := enc) (C := Try.checked) false ⟨#[], #[], []⟩ 8 (by kernel_rfl) (by kernel_rfl) (by kernel_rfl) (by kernel_rfl)) ?_
  intro W base args ds gs before hval0 hW hcnd hsz
  have hval : ∀ (j : Nat) t v, Try.f9.params[j]? = some t → args[j]? = some v → Value.okWide Try.prog W .any base t v := hval0
  have hW' := hW
  obtain ⟨p, q, hA0, hV, rfl, hfz, hnd⟩ := hW
  have hA : DataW.TrodAll enc Try.prog W 0 (fun _ => true) true Try.f9.params.toList args.toList ds p := hA0
  rw [Try.params9] at hA hval
  obtain ⟨rfl, rfl, rfl⟩ := trodAll_none hA
  obtain ⟨rfl, rfl⟩ := trodVars_none hV
  clear hA0 hval0
  refine (walk  W).mono fun e W' ⟨he, bel⟩ => ?_
  subst he
  exact ⟨_, rfl, _, _, _, [], _, [], hW', trodAll_mk1 (shut_bool Try.underlying4 _), trodAll_mk0, rfl, bel.frame _, fun h => by cases h⟩
theorem over : Rows.aluKnownRow.holds Try.pinned (OpenSpec.ofChange Rows.aluKnownSpec) :=
  OpenClaim.holds_of_wide 9 Try.f9 rfl rfl rfl rfl rfl rfl rfl ⟨rfl, rfl, rfl, rfl, rfl⟩ rfl rfl rfl rfl rfl (by kernel_rfl) Try.func9 (by kernel_rfl)
    (of_decide_eq_true (by kernel_rfl)) (by unfold Func.isWrapper; first | (rw [if_pos (by decide +kernel)]; kernel_rfl) | (rw [if_neg (by decide +kernel)]; exact ⟨rfl, rfl⟩))
    (fun os started H enc _ => lifted os started H enc)
/-- The given statement. -/
theorem proved : Rows.AluKnownSaid := over
end Go.Proofs.Ytjkeflldbmiohaa.known
