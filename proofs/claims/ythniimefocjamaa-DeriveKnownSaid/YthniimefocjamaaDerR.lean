/- Contracts of the document's answers for layer derive. No statement is proved here. -/
import Derived.Test.YthniimefocjamaaDerC
import Derived.Test.YthniimefocjamaaDerD
namespace Go.Proofs.Ythniimefocjamaa
open Go.RowKit
set_option linter.unusedVariables false


theorem rFree_any (cu e b t pm ty rs : Nat) (va : Bool) (W : World) : Calls Try.prog 60 #[.agg #[.int .u32 cu, .int .u8 e, .int .u16 b, .int .u16 t, .int .u16 pm, .int .u16 ty, .int .u32 rs, .bool va]] W fun ee w' => ee = .returned (.bool (va && decide (ty = 0))) ∧ Below W.heap.size W w' := by
  cases va
  · go_enter Try.func60, Try.ntmps60
    go_wp2
    go_ret
    exact ⟨rfl, by go_grown⟩
  · go_enter Try.func60, Try.ntmps60
    go_wp2
    go_ret
    refine ⟨ret_bool ?_, by go_grown⟩
    rw [Bool.eq_iff_iff]; simp
theorem rwith_any (cu e b t pm ty rs : Nat) (va : Bool) (z : Bool) (W : World) : Calls Try.prog 62 #[.agg #[.int .u32 cu, .int .u8 e, .int .u16 b, .int .u16 t, .int .u16 pm, .int .u16 ty, .int .u32 rs, .bool va], .bool z] W fun ee w' => ee = .returned (.agg #[.int .u32 cu, .int .u8 e, .int .u16 b, .int .u16 t, .int .u16 pm, .int .u16 ty, .int .u32 rs, .bool z]) ∧ Below W.heap.size W w' := by
  go_enter Try.func62, Try.ntmps62
  go_wp2_with fail
  exact bodyPost_ret (v := .agg #[.int .u32 cu, .int .u8 e, .int .u16 b, .int .u16 t, .int .u16 pm, .int .u16 ty, .int .u32 rs, .bool z]) (by simp [results, Try.results62, go_sem]) rfl ⟨rfl, by go_grown⟩


theorem rClear_any (cu e b t pm ty rs : Nat) (va : Bool) (W : World) : Calls Try.prog 30 #[.agg #[.int .u32 cu, .int .u8 e, .int .u16 b, .int .u16 t, .int .u16 pm, .int .u16 ty, .int .u32 rs, .bool va]] W fun ee w' => ee = .returned (.agg #[.int .u32 cu, .int .u8 e, .int .u16 b, .int .u16 t, .int .u16 pm, .int .u16 ty, .int .u32 rs, .bool false]) ∧ Below W.heap.size W w' := by
  have hk := Lib.hid (twoBoxes W cu e b t pm ty rs va 25 0 0 0 0 0 0 0 false 25)
  have hM := Lib.hid (fun w => rwith_any cu e b t pm ty rs va false w)
  go_enter Try.func30, Try.ntmps30
  go_wp2_with fail
  refine (hM.out _).mono ?_
  rintro ee w1 ⟨rfl, h1⟩
  have hk1 := hk.out.below h1
  clear h1 hk hM
  have r : CapAt w1 (W.heap.size + 1) 0 0 0 0 0 0 0 false := hk1.cap (by simp)
  have fr := hk1.soft (g := W.heap.size + 1) (vs := cv 0 0 0 0 0 0 0 false) (by simp)
  obtain ⟨r0, r1, r2, r3, r4, r5, r6, r7⟩ := r
  have hf := Lib.hid (hk1.whole (cv cu e b t pm ty rs false) (by simp) (by simp <;> omega) rfl)
  clear hk1
  go_wp2_with fail
  change bodyPost _ _ _ _ _ (setRow (W.heap.size + 1) 0 (cv cu e b t pm ty rs false) w1)
  clear r0 r1 r2 r3 r4 r5 r6 r7 fr
  generalize setRow (W.heap.size + 1) 0 (cv cu e b t pm ty rs false) w1 = wf at *
  obtain ⟨z0, z1, z2, z3, z4, z5, z6, z7⟩ := hf.out.cap (g := W.heap.size + 1) (List.mem_cons_self ..)
  exact bodyPost_ret (v := .agg #[.int .u32 cu, .int .u8 e, .int .u16 b, .int .u16 t, .int .u16 pm, .int .u16 ty, .int .u32 rs, .bool false]) (by simp [results, Try.results30, go_sem, z0, z1, z2, z3, z4, z5, z6, z7]) rfl ⟨rfl, hf.out.bl⟩


theorem rAddr_any (cu e b t pm ty rs : Nat) (va : Bool) (to_ : Nat) (l0 : cu < 4294967296) (lt : to_ < 4294967296) (W : World) : Calls Try.prog 25 #[.agg #[.int .u32 cu, .int .u8 e, .int .u16 b, .int .u16 t, .int .u16 pm, .int .u16 ty, .int .u32 rs, .bool va], .int .u32 to_] W fun ee w' => ee = .returned (.agg #[.int .u32 to_, .int .u8 e, .int .u16 b, .int .u16 t, .int .u16 pm, .int .u16 ty, .int .u32 rs, .bool (va && decide (ty = 0) && kp e b t cu to_)]) ∧ Below W.heap.size W w' := by
  have hk := Lib.hid (twoBoxes W cu e b t pm ty rs va 25 0 0 0 0 0 0 0 false 25)
  have hF := Lib.hid (fun w => rFree_any cu e b t pm ty rs va w)
  have hKp := Lib.hid (fun w => rKeeps_any e b t cu to_ w l0 lt)
  have hM := Lib.hid (fun z w => rwith_any to_ e b t pm ty rs va z w)
  generalize (va && decide (ty = 0)) = q at *
  generalize kp e b t cu to_ = z at *
  cases q
  · simp only [Bool.false_and]
    go_enter Try.func25, Try.ntmps25
    go_wp2_with fail
    refine (hF.out _).mono ?_
    rintro ee w1 ⟨rfl, h1⟩
    have hk1 := hk.out.below h1
    clear h1 hk hF
    have p : CapAt w1 W.heap.size cu e b t pm ty rs va := hk1.cap (by simp)
    have fp := hk1.soft (g := W.heap.size) (vs := cv cu e b t pm ty rs va) (by simp)
    obtain ⟨p0, p1, p2, p3, p4, p5, p6, p7⟩ := p
    have hk2 := Lib.hid ((hk1.swap.set (by simp) (by simp) 0 (.int .u32 to_) (by simp [cv])).swap)
    clear hk1
    go_wp2_with fail
    refine (hM.out _ _).mono ?_
    rintro ee w3 ⟨rfl, h1⟩
    have hk3 := hk2.out.below h1
    clear h1 hk2 hM p0 p1 p2 p3 p4 p5 p6 p7 fp
    have r : CapAt w3 (W.heap.size + 1) 0 0 0 0 0 0 0 false := hk3.cap (by simp)
    have fr := hk3.soft (g := W.heap.size + 1) (vs := cv 0 0 0 0 0 0 0 false) (by simp)
    obtain ⟨r0, r1, r2, r3, r4, r5, r6, r7⟩ := r
    have hf := Lib.hid (hk3.whole (cv to_ e b t pm ty rs false) (by simp) (by simp <;> omega) rfl)
    clear hk3
    go_wp2_with fail
    change bodyPost _ _ _ _ _ (setRow (W.heap.size + 1) 0 (cv to_ e b t pm ty rs false) w3)
    clear r0 r1 r2 r3 r4 r5 r6 r7 fr
    generalize setRow (W.heap.size + 1) 0 (cv to_ e b t pm ty rs false) w3 = wf at *
    obtain ⟨z0, z1, z2, z3, z4, z5, z6, z7⟩ := hf.out.cap (g := W.heap.size + 1) (List.mem_cons_self ..)
    exact bodyPost_ret (v := .agg #[.int .u32 to_, .int .u8 e, .int .u16 b, .int .u16 t, .int .u16 pm, .int .u16 ty, .int .u32 rs, .bool false]) (by simp [results, Try.results25, go_sem, z0, z1, z2, z3, z4, z5, z6, z7]) rfl ⟨rfl, hf.out.bl⟩
  · simp only [Bool.true_and]
    go_enter Try.func25, Try.ntmps25
    go_wp2_with fail
    refine (hF.out _).mono ?_
    rintro ee w1 ⟨rfl, h1⟩
    have hk1 := hk.out.below h1
    clear h1 hk hF
    have p : CapAt w1 W.heap.size cu e b t pm ty rs va := hk1.cap (by simp)
    have fp := hk1.soft (g := W.heap.size) (vs := cv cu e b t pm ty rs va) (by simp)
    obtain ⟨p0, p1, p2, p3, p4, p5, p6, p7⟩ := p
    have hk2 := Lib.hid ((hk1.swap.set (by simp) (by simp) 0 (.int .u32 to_) (by simp [cv])).swap)
    clear hk1
    go_wp2_with fail
    refine (hKp.out _).mono ?_
    rintro ee w2 ⟨rfl, rfl⟩
    go_wp2_with fail
    refine (hM.out _ _).mono ?_
    rintro ee w3 ⟨rfl, h1⟩
    have hk3 := hk2.out.below h1
    clear h1 hk2 hM p0 p1 p2 p3 p4 p5 p6 p7 fp
    have r : CapAt w3 (W.heap.size + 1) 0 0 0 0 0 0 0 false := hk3.cap (by simp)
    have fr := hk3.soft (g := W.heap.size + 1) (vs := cv 0 0 0 0 0 0 0 false) (by simp)
    obtain ⟨r0, r1, r2, r3, r4, r5, r6, r7⟩ := r
    have hf := Lib.hid (hk3.whole (cv to_ e b t pm ty rs z) (by simp) (by simp <;> omega) rfl)
    clear hk3
    go_wp2_with fail
    change bodyPost _ _ _ _ _ (setRow (W.heap.size + 1) 0 (cv to_ e b t pm ty rs z) w3)
    clear r0 r1 r2 r3 r4 r5 r6 r7 fr
    generalize setRow (W.heap.size + 1) 0 (cv to_ e b t pm ty rs z) w3 = wf at *
    obtain ⟨z0, z1, z2, z3, z4, z5, z6, z7⟩ := hf.out.cap (g := W.heap.size + 1) (List.mem_cons_self ..)
    exact bodyPost_ret (v := .agg #[.int .u32 to_, .int .u8 e, .int .u16 b, .int .u16 t, .int .u16 pm, .int .u16 ty, .int .u32 rs, .bool z]) (by simp [results, Try.results25, go_sem, z0, z1, z2, z3, z4, z5, z6, z7]) rfl ⟨rfl, hf.out.bl⟩


theorem rAnd_any (cu e b t pm ty rs : Nat) (va : Bool) (v : Nat) (l4 : pm < 65536) (lv : v < 4294967296) (W : World) : Calls Try.prog 28 #[.agg #[.int .u32 cu, .int .u8 e, .int .u16 b, .int .u16 t, .int .u16 pm, .int .u16 ty, .int .u32 rs, .bool va], .int .u32 v] W fun ee w' => ee = .returned (.agg #[.int .u32 cu, .int .u8 e, .int .u16 b, .int .u16 t, .int .u16 (pm &&& (v % 65536) : Nat), .int .u16 ty, .int .u32 rs, .bool (va && decide (ty = 0))]) ∧ Below W.heap.size W w' := by
  have hk := Lib.hid (twoBoxes W cu e b t pm ty rs va 25 0 0 0 0 0 0 0 false 25)
  have hF := Lib.hid (fun w => rFree_any cu e b t pm ty rs va w)
  have hM := Lib.hid (fun z w => rwith_any cu e b t (pm &&& (v % 65536)) ty rs va z w)
  generalize (va && decide (ty = 0)) = q at *
  have hand := u16_and_nat pm (v % 65536) l4 (by omega)
  have hwr : IntKind.u16.wrap ((v : Int) % 65536) = ((v % 65536 : Nat) : Int) := by rw [IntKind.wrap_u16]; omega
  have hwr2 : (v : Int).tmod 65536 = (v : Int) % 65536 := Int.tmod_eq_emod_of_nonneg (by omega)
  generalize v % 65536 = k at *
  generalize pm &&& k = j at *
  go_enter Try.func28, Try.ntmps28
  go_wp2_with fail
  refine (hF.out _).mono ?_
  rintro ee w1 ⟨rfl, h1⟩
  have hk1 := hk.out.below h1
  clear h1 hk hF
  have p : CapAt w1 W.heap.size cu e b t pm ty rs va := hk1.cap (by simp)
  have fp := hk1.soft (g := W.heap.size) (vs := cv cu e b t pm ty rs va) (by simp)
  obtain ⟨p0, p1, p2, p3, p4, p5, p6, p7⟩ := p
  have hk2 := Lib.hid ((hk1.swap.set (by simp) (by simp) 4 (.int .u16 j) (by simp [cv])).swap)
  clear hk1
  go_wp2_with fail
  refine (hM.out _ _).mono ?_
  rintro ee w3 ⟨rfl, h1⟩
  have hk3 := hk2.out.below h1
  clear h1 hk2 hM p0 p1 p2 p3 p4 p5 p6 p7 fp
  have r : CapAt w3 (W.heap.size + 1) 0 0 0 0 0 0 0 false := hk3.cap (by simp)
  have fr := hk3.soft (g := W.heap.size + 1) (vs := cv 0 0 0 0 0 0 0 false) (by simp)
  obtain ⟨r0, r1, r2, r3, r4, r5, r6, r7⟩ := r
  have hf := Lib.hid (hk3.whole (cv cu e b t j ty rs q) (by simp) (by simp <;> omega) rfl)
  clear hk3
  go_wp2_with fail
  change bodyPost _ _ _ _ _ (setRow (W.heap.size + 1) 0 (cv cu e b t j ty rs q) w3)
  clear r0 r1 r2 r3 r4 r5 r6 r7 fr
  generalize setRow (W.heap.size + 1) 0 (cv cu e b t j ty rs q) w3 = wf at *
  obtain ⟨z0, z1, z2, z3, z4, z5, z6, z7⟩ := hf.out.cap (g := W.heap.size + 1) (List.mem_cons_self ..)
  exact bodyPost_ret (v := .agg #[.int .u32 cu, .int .u8 e, .int .u16 b, .int .u16 t, .int .u16 j, .int .u16 ty, .int .u32 rs, .bool q]) (by simp [results, Try.results28, go_sem, z0, z1, z2, z3, z4, z5, z6, z7]) rfl ⟨rfl, hf.out.bl⟩
end Go.Proofs.Ythniimefocjamaa
