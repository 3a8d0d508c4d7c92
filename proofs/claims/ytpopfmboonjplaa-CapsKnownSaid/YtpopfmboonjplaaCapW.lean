/- Contracts of the laws' own helpers for layer caps: works, sound. No statement is proved here. -/
import Derived.Test.YtpopfmboonjplaaCapP
namespace Go.Proofs.Ytpopfmboonjplaa
open Go.RowKit
set_option linter.unusedVariables false

theorem works_any (W : World) : Calls Try.prog 10 #[] W fun e w' => e = .returned (.bool true) ∧ Below W.heap.size W w' := by
  have M := Lib.hid (fun w => pMake_yes 256 64 1 (by decide) (by decide) (by decide) (by decide +kernel) w)
  have R := Lib.hid (fun w => pRange_any 256 0 256 320 1 0 0 true (by decide) (by decide) (by decide) (by decide) (by decide) (by decide) (by decide) w)
  have H1 := Lib.hid (fun w => pHolds_any 256 0 256 320 1 0 0 true 256 64 (by decide) (by decide) (by decide) (by decide) (by decide) (by decide) (by decide) (by decide) (by decide) w)
  have H2 := Lib.hid (fun w => pHolds_any 256 0 256 320 1 0 0 true 319 2 (by decide) (by decide) (by decide) (by decide) (by decide) (by decide) (by decide) (by decide) (by decide) w)
  have M1 := Lib.hid (fun w => pMeets_any 256 0 256 320 1 0 0 true 319 2 (by decide) (by decide) (by decide) (by decide) (by decide) (by decide) (by decide) (by decide) (by decide) w)
  have M2 := Lib.hid (fun w => pMeets_any 256 0 256 320 1 0 0 true 320 9 (by decide) (by decide) (by decide) (by decide) (by decide) (by decide) (by decide) (by decide) (by decide) w)
  have N := Lib.hid (fun w => pNumber_any 5 (by decide) w)
  have I1 := Lib.hid (fun w => pIsNumber_any 5 0 0 0 0 0 0 false (by decide) (by decide) (by decide) (by decide) (by decide) (by decide) (by decide) w)
  have I2 := Lib.hid (fun w => pIsNumber_any 256 0 256 320 1 0 0 true (by decide) (by decide) (by decide) (by decide) (by decide) (by decide) (by decide) w)
  rw [show enE 256 (256 + 64) = 0 from by decide +kernel, show enB 256 (256 + 64) = 256 from by decide +kernel, show enT 256 (256 + 64) = 320 from by decide +kernel] at M
  rw [show deB 0 256 320 256 = 256 from by decide +kernel, show deT 0 256 320 256 = 320 from by decide +kernel] at R H1 H2 M1 M2
  rw [show hoP 256 320 256 64 = true from by decide +kernel] at H1
  rw [show hoP 256 320 319 2 = false from by decide +kernel] at H2
  rw [show meP 256 320 319 2 = true from by decide +kernel] at M1
  rw [show meP 256 320 320 9 = false from by decide +kernel] at M2
  rw [show isNumP 0 0 0 0 0 0 false = true from by decide +kernel] at I1
  rw [show isNumP 0 256 320 1 0 0 true = false from by decide +kernel] at I2
  go_enter Try.func10, Try.ntmps10
  go_wp2_with fail
  refine (M.out _).mono ?_
  rintro e w1 ⟨rfl, h1⟩
  have b1 := Lib.hid h1
  clear h1
  go_wp2_with fail
  refine (R.out _).mono ?_
  rintro e w2 ⟨rfl, h1⟩
  have C2 : CapAt w2 w1.heap.size 256 0 256 320 1 0 0 true := by
    have k : CapAt (w1.alloc (.cells #[.int .u32 256, .int .u8 0, .int .u16 256, .int .u16 320, .int .u16 1, .int .u16 0, .int .u32 0, .bool true] 25)) w1.heap.size 256 0 256 320 1 0 0 true := ⟨by simp [go_sem], by simp [go_sem], by simp [go_sem], by simp [go_sem], by simp [go_sem], by simp [go_sem], by simp [go_sem], by simp [go_sem]⟩
    exact k.below h1 (by simp)
  have L2 := Lib.hid (show w1.heap.size < w2.heap.size from by have := h1.size; simp at this; omega)
  have B2 := Lib.hid ((b1.out.alloc b1.out.size (.cells #[.int .u32 256, .int .u8 0, .int .u16 256, .int .u16 320, .int .u16 1, .int .u16 0, .int .u32 0, .bool true] 25)).trans (h1.mono (by have := b1.out.size; simp; omega)))
  clear h1
  obtain ⟨q0, q1, q2, q3, q4, q5, q6, q7⟩ := id C2
  replace C2 := Lib.hid C2
  go_wp2_with fail
  refine (H1.out _).mono ?_
  rintro e w3 ⟨rfl, h1⟩
  have C3 := C2.out.below h1 L2.out
  have L3 := Lib.hid (Nat.lt_of_lt_of_le L2.out h1.size)
  have B3 := Lib.hid (B2.out.trans (h1.mono B2.out.size))
  clear h1 q0 q1 q2 q3 q4 q5 q6 q7 C2 L2 B2
  obtain ⟨q0, q1, q2, q3, q4, q5, q6, q7⟩ := id C3
  replace C3 := Lib.hid C3
  go_wp2_with fail
  refine (H2.out _).mono ?_
  rintro e w4 ⟨rfl, h1⟩
  have C4 := C3.out.below h1 L3.out
  have L4 := Lib.hid (Nat.lt_of_lt_of_le L3.out h1.size)
  have B4 := Lib.hid (B3.out.trans (h1.mono B3.out.size))
  clear h1 q0 q1 q2 q3 q4 q5 q6 q7 C3 L3 B3
  obtain ⟨q0, q1, q2, q3, q4, q5, q6, q7⟩ := id C4
  replace C4 := Lib.hid C4
  go_wp2_with fail
  refine (M1.out _).mono ?_
  rintro e w5 ⟨rfl, h1⟩
  have C5 := C4.out.below h1 L4.out
  have L5 := Lib.hid (Nat.lt_of_lt_of_le L4.out h1.size)
  have B5 := Lib.hid (B4.out.trans (h1.mono B4.out.size))
  clear h1 q0 q1 q2 q3 q4 q5 q6 q7 C4 L4 B4
  obtain ⟨q0, q1, q2, q3, q4, q5, q6, q7⟩ := id C5
  replace C5 := Lib.hid C5
  go_wp2_with fail
  refine (M2.out _).mono ?_
  rintro e w6 ⟨rfl, h1⟩
  have C6 := C5.out.below h1 L5.out
  have L6 := Lib.hid (Nat.lt_of_lt_of_le L5.out h1.size)
  have B6 := Lib.hid (B5.out.trans (h1.mono B5.out.size))
  clear h1 q0 q1 q2 q3 q4 q5 q6 q7 C5 L5 B5
  obtain ⟨q0, q1, q2, q3, q4, q5, q6, q7⟩ := id C6
  replace C6 := Lib.hid C6
  go_wp2_with fail
  refine (N.out _).mono ?_
  rintro e w7 ⟨rfl, h1⟩
  have C7 := C6.out.below h1 L6.out
  have L7 := Lib.hid (Nat.lt_of_lt_of_le L6.out h1.size)
  have B7 := Lib.hid (B6.out.trans (h1.mono B6.out.size))
  clear h1 q0 q1 q2 q3 q4 q5 q6 q7 C6 L6 B6
  obtain ⟨q0, q1, q2, q3, q4, q5, q6, q7⟩ := id C7
  replace C7 := Lib.hid C7
  go_wp2_with fail
  refine (N.out _).mono ?_
  rintro e w8 ⟨rfl, h1⟩
  have C8 := C7.out.below h1 L7.out
  have L8 := Lib.hid (Nat.lt_of_lt_of_le L7.out h1.size)
  have B8 := Lib.hid (B7.out.trans (h1.mono B7.out.size))
  clear h1 q0 q1 q2 q3 q4 q5 q6 q7 C7 L7 B7
  obtain ⟨q0, q1, q2, q3, q4, q5, q6, q7⟩ := id C8
  replace C8 := Lib.hid C8
  go_wp2_with fail
  refine (I1.out _).mono ?_
  rintro e w9 ⟨rfl, h1⟩
  have C9 := C8.out.below h1 L8.out
  have L9 := Lib.hid (Nat.lt_of_lt_of_le L8.out h1.size)
  have B9 := Lib.hid (B8.out.trans (h1.mono B8.out.size))
  clear h1 q0 q1 q2 q3 q4 q5 q6 q7 C8 L8 B8
  obtain ⟨q0, q1, q2, q3, q4, q5, q6, q7⟩ := id C9
  replace C9 := Lib.hid C9
  go_wp2_with fail
  refine (I2.out _).mono ?_
  rintro e w10 ⟨rfl, h1⟩
  have C10 := C9.out.below h1 L9.out
  have L10 := Lib.hid (Nat.lt_of_lt_of_le L9.out h1.size)
  have B10 := Lib.hid (B9.out.trans (h1.mono B9.out.size))
  clear h1 q0 q1 q2 q3 q4 q5 q6 q7 C9 L9 B9
  obtain ⟨q0, q1, q2, q3, q4, q5, q6, q7⟩ := id C10
  replace C10 := Lib.hid C10
  go_wp2_with fail
  go_ret
  exact ⟨rfl, B10.out⟩
end Go.Proofs.Ytpopfmboonjplaa
