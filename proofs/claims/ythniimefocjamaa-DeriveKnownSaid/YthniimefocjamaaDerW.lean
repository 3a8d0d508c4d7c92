/- Contracts of the laws' own helpers for layer derive: whole, works. No statement is proved here. -/
import Derived.Test.YthniimefocjamaaDerH
import Derived.Test.YthniimefocjamaaDerT
namespace Go.Proofs.Ythniimefocjamaa
open Go.RowKit
set_option linter.unusedVariables false

set_option maxHeartbeats 1000000 in
theorem whole_aux (c x y z p n : Nat) (M : ∀ w, Calls Try.prog 17 #[.agg #[.int .u32 4096, .int .u32 4096], .int .u16 255] w fun ee w' => ee = .returned (.tuple #[.agg #[.int .u32 c, .int .u8 x, .int .u16 y, .int .u16 z, .int .u16 p, .int .u16 n, .int .u32 n, .bool true], .bool true]) ∧ Below w.heap.size w w') (W : World) : Calls Try.prog 43 #[] W fun e w' => e = .returned (.agg #[.int .u32 c, .int .u8 x, .int .u16 y, .int .u16 z, .int .u16 p, .int .u16 n, .int .u32 n, .bool true]) ∧ Below W.heap.size W w' := by
  have hk0 := (KR.start (W := W)).push (cv 0 0 0 0 0 0 0 false) 25
  replace hk0 := Lib.hid hk0
  replace M := Lib.hid M
  go_enter Try.func43, Try.ntmps43
  go_wp2_with fail
  refine (M.out _).mono ?_
  rintro e w1 ⟨rfl, h1⟩
  have hk1 : KR W _ (w1.alloc (.cells #[.int .u32 c, .int .u8 x, .int .u16 y, .int .u16 z, .int .u16 p, .int .u16 n, .int .u32 n, .bool true] 25)) := (hk0.out.below h1).push (cv c x y z p n n true) 25
  have hz : W.heap.size < w1.heap.size := (hk0.out.below h1).lt (List.mem_cons_self ..)
  have r : CapAt (w1.alloc (.cells #[.int .u32 c, .int .u8 x, .int .u16 y, .int .u16 z, .int .u16 p, .int .u16 n, .int .u32 n, .bool true] 25)) W.heap.size 0 0 0 0 0 0 0 false := hk1.cap (List.mem_cons_of_mem _ (List.mem_cons_self ..))
  have p_ : CapAt (w1.alloc (.cells #[.int .u32 c, .int .u8 x, .int .u16 y, .int .u16 z, .int .u16 p, .int .u16 n, .int .u32 n, .bool true] 25)) w1.heap.size c x y z p n n true := hk1.cap (List.mem_cons_self ..)
  have fr := hk1.soft (List.mem_cons_of_mem _ (List.mem_cons_self ..))
  have hf := hk1.swap.whole (cv c x y z p n n true) (by omega) (by simp <;> omega) rfl
  replace r := Lib.hid r
  replace p_ := Lib.hid p_
  replace fr := Lib.hid fr
  replace hf := Lib.hid hf
  clear h1 hk0 hk1 M
  go_upto_region 2 with (fail)
  generalize (w1.alloc (.cells #[.int .u32 c, .int .u8 x, .int .u16 y, .int .u16 z, .int .u16 p, .int .u16 n, .int .u32 n, .bool true] 25)) = w2 at *
  obtain ⟨r0, r1, r2, r3, r4, r5, r6, r7⟩ := r.out
  obtain ⟨p0, p1, p2, p3, p4, p5, p6, p7⟩ := p_.out
  replace fr := fr.out
  clear r p_ hz
  go_wp2_with fail
  change bodyPost _ _ _ _ _ (setRow W.heap.size 0 (cv c x y z p n n true) w2)
  clear r0 r1 r2 r3 r4 r5 r6 r7 fr p0 p1 p2 p3 p4 p5 p6 p7
  generalize setRow W.heap.size 0 (cv c x y z p n n true) w2 = wf at *
  obtain ⟨z0, z1, z2, z3, z4, z5, z6, z7⟩ := hf.out.cap (g := W.heap.size) (List.mem_cons_self ..)
  exact bodyPost_ret (v := .agg #[.int .u32 c, .int .u8 x, .int .u16 y, .int .u16 z, .int .u16 p, .int .u16 n, .int .u32 n, .bool true]) (by simp [results, Try.results43, go_sem, z0, z1, z2, z3, z4, z5, z6, z7]) rfl ⟨rfl, hf.out.bl⟩
theorem whole_any (W : World) : Calls Try.prog 43 #[] W fun e w' => e = .returned (.agg #[.int .u32 4096, .int .u8 1, .int .u16 2048, .int .u16 0, .int .u16 255, .int .u16 0, .int .u32 0, .bool true]) ∧ Below W.heap.size W w' := by
  refine whole_aux 4096 1 2048 0 255 0 (fun w => ?_) W
  have M := pMake_yes 4096 4096 255 (by decide) (by decide) (by decide) (by decide +kernel) w
  rw [show enE 4096 (4096 + 4096) = 1 from by decide +kernel, show enB 4096 (4096 + 4096) = 2048 from by decide +kernel, show enT 4096 (4096 + 4096) = 0 from by decide +kernel] at M
  exact M

set_option maxHeartbeats 1000000 in
theorem dworks_any (W : World) : Calls Try.prog 26 #[] W fun e w' => e = .returned (.bool true) ∧ Below W.heap.size W w' := by
  have M := Lib.hid (fun w => whole_any w)
  have S : ∀ w, Calls Try.prog 31 #[.agg #[.int .u32 4096, .int .u8 1, .int .u16 2048, .int .u16 0, .int .u16 255, .int .u16 0, .int .u32 0, .bool true], .int .u32 100] w fun ee w' => ee = .returned (.agg #[.int .u32 4096, .int .u8 0, .int .u16 0, .int .u16 100, .int .u16 255, .int .u16 0, .int .u32 0, .bool true]) ∧ Below w.heap.size w w' := fun w => by
    have := pSet_any 4096 1 2048 0 255 0 0 true 100 (by decide) (by decide) (by decide) (by decide) (by decide) (by decide) (by decide) (by decide) w
    rw [show bdE 1 4096 100 = 0 from by decide +kernel, show bdB 2048 4096 100 = 0 from by decide +kernel, show bdT 0 4096 100 = 100 from by decide +kernel, show (true && decide (0 = 0) && hdP 1 2048 0 4096 100) = true from by decide +kernel] at this
    exact this
  have R : ∀ w, Calls Try.prog 19 #[.agg #[.int .u32 4096, .int .u8 0, .int .u16 0, .int .u16 100, .int .u16 255, .int .u16 0, .int .u32 0, .bool true]] w fun ee w' => ee = .returned (.tuple #[.int .u32 4096, .int .u64 4196]) ∧ Below w.heap.size w w' := fun w => by
    have := pRange_any 4096 0 0 100 255 0 0 true (by decide) (by decide) (by decide) (by decide) (by decide) (by decide) (by decide) w
    rw [show deB 0 0 100 4096 = 4096 from by decide +kernel, show deT 0 0 100 4096 = 4196 from by decide +kernel] at this
    exact this
  have C := Lib.hid (fun w => pClear_any 4096 0 0 100 255 0 0 true w)
  have hfld : ∀ w, (Instr.field 25 (.agg #[.int .u32 4096, .int .u8 0, .int .u16 0, .int .u16 100, .int .u16 255, .int .u16 0, .int .u32 0, .bool false]) 7).run Try.prog w = .ok (.bool false) w := fun w => by kernel_rfl
  replace S := Lib.hid S
  replace R := Lib.hid R
  go_enter Try.func26, Try.ntmps26
  go_wp2_with fail
  refine (M.out _).mono ?_
  rintro e w1 ⟨rfl, h1⟩
  have hk1 := Lib.hid (KR.below (KR.start (W := W)) h1)
  clear h1 M
  go_wp2_with fail
  refine (S.out _).mono ?_
  rintro e w2 ⟨rfl, h1⟩
  have hk2 := Lib.hid ((hk1.out.below h1).push (cv 4096 0 0 100 255 0 0 true) 25)
  clear h1 S hk1
  go_wp2_with fail
  refine (R.out _).mono ?_
  rintro e w3 ⟨rfl, h1⟩
  have hk3 := hk2.out.below h1
  clear h1 R hk2
  obtain ⟨p0, p1, p2, p3, p4, p5, p6, p7⟩ : CapAt w3 w2.heap.size 4096 0 0 100 255 0 0 true := hk3.cap (List.mem_cons_self ..)
  replace hk3 := Lib.hid hk3
  go_wp2_with fail
  refine (C.out _).mono ?_
  rintro e w4 ⟨rfl, h1⟩
  have hk4 := Lib.hid (hk3.out.below h1)
  clear h1 C hk3 p0 p1 p2 p3 p4 p5 p6 p7
  go_wp2_with fail
  go_ret
  exact ⟨rfl, hk4.out.bl⟩
end Go.Proofs.Ythniimefocjamaa
