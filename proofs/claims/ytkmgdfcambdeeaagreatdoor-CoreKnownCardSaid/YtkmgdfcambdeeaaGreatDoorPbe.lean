/- The program's number (layer core): the number that an operation tells. No statement is proved here. -/
import Derived.Test.YtkmgdfcambdeeaaGreatDoorPaf
import Derived.Test.YtkmgdfcambdeeaaGreatDoorPai
import Derived.Test.YtkmgdfcambdeeaaGreatDoorPah
import Derived.Test.YtkmgdfcambdeeaaGreatDoorPaw
import Derived.Test.YtkmgdfcambdeeaaGreatDoorPao
namespace Go.Proofs.YtkmgdfcambdeeaaGreatDoor
set_option maxRecDepth 100000
open Go.RowKit
set_option linter.unusedVariables false
/-- The number that an operation tells of its Imm, or of b. -/
def numN (op : Int) (b : Cp) (m : Int) : Nat :=
  if op = 1 then (m % 4294967296).toNat
  else if op = 2 then (m % 4294967296 * 4096 % 4294967296).toNat
  else if op = 16 then (((b.cu : Int) + m % 4294967296) % 4294967296).toNat
  else if op = 42 then b.cu
  else if op = 43 then (deB b.e b.b b.t b.cu).toNat
  else if op = 44 then (min (deT b.e b.b b.t b.cu - deB b.e b.b b.t b.cu) 4294967295).toNat
  else if op = 45 then b.pm
  else if op = 46 then b.ty
  else if op = 47 then oneI b.va
  else oneI (isNumP b.e b.b b.t b.pm b.ty b.rs b.va)
theorem pIsNumber_cp (c : Cp) (h : c.fit) (W : World) : Calls Tryz.prog 152 #[c.V] W fun ee w' => ee = .returned (.bool (isNumP c.e c.b c.t c.pm c.ty c.rs c.va)) ∧ Below W.heap.size W w' :=
  pIsNumber_any c.cu c.e c.b c.t c.pm c.ty c.rs c.va h.l0 h.l1 h.l2 h.l3 h.l4 h.l5 h.l6 W
theorem start_ib (op A B C m : Int) (b : Cp) (W : World) : KR W [⟨W.heap.size + 1, b.C⟩, ⟨W.heap.size, ir op A B C m⟩] ((W.alloc (.cells (ir op A B C m).toArray 30)).alloc (.cells b.C.toArray 25)) := by
  have := ((KR.start (W := W)).push (ir op A B C m) 30).push b.C 25
  simp only [World.size_alloc] at this
  exact this
set_option maxHeartbeats 4000000 in
theorem pnum_any (op A B C m : Int) (b : Cp) (fb : b.fit) (W : World) : Calls Tryz.prog 93 #[.agg #[.int .i64 op, .int .i64 A, .int .i64 B, .int .i64 C, .int .i64 m], b.V] W fun e w' => e = .returned (.int .u32 (numN op b m : Nat)) ∧ Below W.heap.size W w' := by
  have k0 := Lib.hid (start_ib op A B C m b W)
  have hR := Lib.hid (fun w => pRange_any b.cu b.e b.b b.t b.pm b.ty b.rs b.va fb.l0 fb.l1 fb.l2 fb.l3 fb.l4 fb.l5 fb.l6 w)
  obtain ⟨b0, b1, b2, b3⟩ := de_bounds b.e b.b b.t b.cu
  obtain ⟨X, hX⟩ : ∃ X, X = numN op b m := ⟨_, rfl⟩
  rw [← hX]
  unfold numN at hX
  obtain ⟨lo, hlo⟩ : ∃ x, x = deB b.e b.b b.t b.cu := ⟨_, rfl⟩
  obtain ⟨hi, hhi⟩ : ∃ x, x = deT b.e b.b b.t b.cu := ⟨_, rfl⟩
  rw [← hlo] at b0 b1 b2 hR hX
  rw [← hhi] at b2 b3 hR hX
  have hI := Lib.hid (fun w => pIsNumber_cp b fb w)
  have hO := Lib.hid (fun t w => pone_any t w)
  replace hX := Lib.hid hX
  have l4 := fb.l4
  have l5 := fb.l5
  clear hlo hhi
  unfold Cp.V Cp.C cv
  go_enter Tryz.func93, Tryz.ntmps93
  go_upto_region 1 with (fail)
  change Code.wp _ _ _ _ ((W.alloc (.cells (ir op A B C m).toArray 30)).alloc (.cells b.C.toArray 25))
  generalize ((W.alloc (.cells (ir op A B C m).toArray 30)).alloc (.cells b.C.toArray 25)) = w1 at k0 ⊢
  obtain ⟨p0, p1, p2, p3, p4, p5, p6, p7⟩ := (k0.out.cap (g := W.heap.size + 1) (by simp [Cp.C]) : CapAt _ _ b.cu b.e b.b b.t b.pm b.ty b.rs b.va)
  go_wp2_with fail
  refine (hR.out _).mono ?_
  rintro ee w2 ⟨rfl, h1⟩
  have k1 := Lib.hid (k0.out.below h1)
  clear h1 k0 hR p0 p1 p2 p3 p4 p5 p6 p7
  obtain ⟨p0, p1, p2, p3, p4, p5, p6, p7⟩ := (k1.out.cap (g := W.heap.size + 1) (by simp [Cp.C]) : CapAt _ _ b.cu b.e b.b b.t b.pm b.ty b.rs b.va)
  have i0 := k1.out.cell (g := W.heap.size) (j := 0) (u := .int .i64 op) (ir op A B C m) (by simp) rfl
  have i4 := k1.out.cell (g := W.heap.size) (j := 4) (u := .int .i64 m) (ir op A B C m) (by simp) rfl
  by_cases hop : op = 1 ∨ op = 2 ∨ op = 16 ∨ op = 42 ∨ op = 43 ∨ op = 44 ∨ op = 45 ∨ op = 46
  · have hx := hX.out
    clear hI hO hX
    rcases hop with rfl | rfl | rfl | rfl | rfl | rfl | rfl | rfl
    all_goals
      replace hx := Lib.hid hx
      go_wp2_with fail
    all_goals go_ret
    all_goals refine ⟨ret_int ?_, k1.out.bl⟩
    all_goals rw [hx.out]
    all_goals simp only [Int.reduceEq, if_true, if_false]
    all_goals clear hx
    all_goals omega
  · by_cases h47 : op = 47
    · subst h47
      have hx := Lib.hid (show X = oneI b.va from by rw [hX.out]; rfl)
      go_wp2_with fail
      refine (hO.out _ _).mono ?_
      rintro ee w3 ⟨rfl, rfl⟩
      go_wp2_with fail
      go_ret
      refine ⟨ret_int ?_, k1.out.bl⟩
      rw [hx.out]
    · have hx := Lib.hid (show X = oneI (isNumP b.e b.b b.t b.pm b.ty b.rs b.va) from by rw [hX.out]; repeat rw [if_neg (by omega)])
      have n1 : (op == 1) = false := by simp; omega
      have n2 : (op == 2) = false := by simp; omega
      have n3 : (op == 16) = false := by simp; omega
      have n4 : (op == 42) = false := by simp; omega
      have n5 : (op == 43) = false := by simp; omega
      have n6 : (op == 44) = false := by simp; omega
      have n7 : (op == 45) = false := by simp; omega
      have n8 : (op == 46) = false := by simp; omega
      have n9 : (op == 47) = false := by simp; omega
      clear hop h47
      go_wp2_with fail
      refine (hI.out _).mono ?_
      rintro ee w3 ⟨rfl, h3⟩
      have k2 := Lib.hid (k1.out.below h3)
      clear h3 k1 p0 p1 p2 p3 p4 p5 p6 p7 i0 i4
      go_wp2_with fail
      refine (hO.out _ _).mono ?_
      rintro ee w4 ⟨rfl, rfl⟩
      go_wp2_with fail
      go_ret
      refine ⟨ret_int ?_, k2.out.bl⟩
      rw [hx.out]
end Go.Proofs.YtkmgdfcambdeeaaGreatDoor
