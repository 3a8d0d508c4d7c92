/- Proved: the chapter's examples of paint, and paints that are none (PaintKnown). A closed statement; no condition. -/
import Derived.Test.YticfpnhfhhagpaaRows
import Derived.Test.YticfpnhfhhagpaaPtW
import Derived.Test.YticfpnhfhhagpaaPtM
import Derived.Deep.LoopGhost
import Derived.ProofKit
import Derived.OpenShut
import Derived.ChangeOld
namespace Go.Proofs.Yticfpnhfhhagpaa.pknown
open Go.ChangeShapes Go.WideShapes Go.ChangeAt Go.RowKit
set_option linter.unusedVariables false
def kB : Nat → Bool := fun k => if 2 ≤ k ∧ k < 4 then true else gA k
def kC : Nat → Bool := fun k => if 4 ≤ k ∧ k < 5 then true else kB k
def kD : Nat → Bool := fun k => if 2 ≤ k ∧ k < 5 then false else kC k
theorem row6 (w0 : World) (T : TypeId) (vs : Array Value) (j : Nat) (v : Value) (h : vs[j]? = some v) : (w0.alloc (.cells vs T)).cell? ⟨w0.heap.size, j, none⟩ = some v := by
  simp [h]
set_option maxRecDepth 100000 in
set_option maxHeartbeats 16000000 in
theorem walk (W : World) : Calls Try.prog 6 #[] W fun e w' => e = .returned (.bool true) ∧ Below W.heap.size W w' := by
  have q1 := Lib.hid (show okT 16 gA 32 32 true = true by decide +kernel)
  have q1' := Lib.hid (show tnF 16 gA 32 32 true = kB by unfold tnF; rw [q1.out]; rfl)
  have q2 := Lib.hid (show okT 16 kB 48 16 true = false by decide +kernel)
  have q2' := Lib.hid (show tnF 16 kB 48 16 true = kB by unfold tnF; rw [q2.out]; rfl)
  have q3 := Lib.hid (show okT 16 kB 64 16 true = true by decide +kernel)
  have q3' := Lib.hid (show tnF 16 kB 64 16 true = kC by unfold tnF; rw [q3.out]; rfl)
  have q4 := Lib.hid (show cnt kC 16 = 3 by decide +kernel)
  have q5 := Lib.hid (show okT 16 kC 32 48 false = true by decide +kernel)
  have q5' := Lib.hid (show tnF 16 kC 32 48 false = kD by unfold tnF; rw [q5.out]; rfl)
  have q6 := Lib.hid (show okT 16 kD 32 48 false = false by decide +kernel)
  have q6' := Lib.hid (show tnF 16 kD 32 48 false = kD by unfold tnF; rw [q6.out]; rfl)
  have q7 := Lib.hid (show cnt kD 16 = 0 by decide +kernel)
  have q0 := Lib.hid (show cnt gA 16 = 0 by decide +kernel)
  have a0 := Lib.hid (show okT 16 kC 8 16 true = false by decide +kernel)
  have a0' := Lib.hid (show tnF 16 kC 8 16 true = kC by unfold tnF; rw [a0.out]; rfl)
  have d0 := Lib.hid (show okT 16 kC 8 16 false = false by decide +kernel)
  have d0' := Lib.hid (show tnF 16 kC 8 16 false = kC by unfold tnF; rw [d0.out]; rfl)
  have a1 := Lib.hid (show okT 16 kC 0 0 true = false by decide +kernel)
  have a1' := Lib.hid (show tnF 16 kC 0 0 true = kC by unfold tnF; rw [a1.out]; rfl)
  have d1 := Lib.hid (show okT 16 kC 0 0 false = false by decide +kernel)
  have d1' := Lib.hid (show tnF 16 kC 0 0 false = kC by unfold tnF; rw [d1.out]; rfl)
  have a2 := Lib.hid (show okT 16 kC 0 8 true = false by decide +kernel)
  have a2' := Lib.hid (show tnF 16 kC 0 8 true = kC by unfold tnF; rw [a2.out]; rfl)
  have d2 := Lib.hid (show okT 16 kC 0 8 false = false by decide +kernel)
  have d2' := Lib.hid (show tnF 16 kC 0 8 false = kC by unfold tnF; rw [d2.out]; rfl)
  have a3 := Lib.hid (show okT 16 kC 240 32 true = false by decide +kernel)
  have a3' := Lib.hid (show tnF 16 kC 240 32 true = kC by unfold tnF; rw [a3.out]; rfl)
  have d3 := Lib.hid (show okT 16 kC 240 32 false = false by decide +kernel)
  have d3' := Lib.hid (show tnF 16 kC 240 32 false = kC by unfold tnF; rw [d3.out]; rfl)
  have a4 := Lib.hid (show okT 16 kC 4294967280 32 true = false by decide +kernel)
  have a4' := Lib.hid (show tnF 16 kC 4294967280 32 true = kC by unfold tnF; rw [a4.out]; rfl)
  have d4 := Lib.hid (show okT 16 kC 4294967280 32 false = false by decide +kernel)
  have d4' := Lib.hid (show tnF 16 kC 4294967280 32 false = kC by unfold tnF; rw [d4.out]; rfl)
  have a5 := Lib.hid (show okT 16 kC 256 16 true = false by decide +kernel)
  have a5' := Lib.hid (show tnF 16 kC 256 16 true = kC by unfold tnF; rw [a5.out]; rfl)
  have d5 := Lib.hid (show okT 16 kC 256 16 false = false by decide +kernel)
  have d5' := Lib.hid (show tnF 16 kC 256 16 false = kC by unfold tnF; rw [d5.out]; rfl)
  have a6 := Lib.hid (show okT 16 kC 16 32 true = false by decide +kernel)
  have a6' := Lib.hid (show tnF 16 kC 16 32 true = kC by unfold tnF; rw [a6.out]; rfl)
  have d6 := Lib.hid (show okT 16 kC 16 32 false = false by decide +kernel)
  have d6' := Lib.hid (show tnF 16 kC 16 32 false = kC by unfold tnF; rw [d6.out]; rfl)
  have h0 := Lib.hid (show kC (32 / 16) = true by decide +kernel)
  have h1 := Lib.hid (show kC (63 / 16) = true by decide +kernel)
  have h2 := Lib.hid (show kC (79 / 16) = true by decide +kernel)
  have h3 := Lib.hid (show kC (31 / 16) = false by decide +kernel)
  have h4 := Lib.hid (show kC (80 / 16) = false by decide +kernel)
  have h5 := Lib.hid (show kC (4294967295 / 16) = false by decide +kernel)
  go_enter Try.func6, Try.ntmps6
  go_wp2_with fail
  refine (ptnew_no 15 W (by omega)).mono ?_
  rintro e w1 ⟨rfl, k⟩
  have B1 := Lib.hid k
  clear k
  go_wp2_with fail
  refine (ptnew_no (-16) w1 (by omega)).mono ?_
  rintro e w2 ⟨rfl, k⟩
  have B2 := Lib.hid (B1.out.trans (k.mono B1.out.size))
  clear k
  go_wp2_with fail
  refine (ptnew_no 262160 w2 (by omega)).mono ?_
  rintro e w3 ⟨rfl, k⟩
  have B3 := Lib.hid (B2.out.trans (k.mono B2.out.size))
  clear k
  go_wp2_with fail
  refine (tnewK (W := W) 16384 w3 (by omega) B3.out 262144 (by rfl)).mono ?_
  rintro e w4 ⟨p4, b4, c4, rfl, k⟩
  have B4 := Lib.hid k.bel
  clear k
  go_wp2_with fail
  refine (tnewK (W := W) 0 w4 (by omega) B4.out 0 (by rfl)).mono ?_
  rintro e w5 ⟨p5, b5, c5, rfl, k⟩
  have B5 := Lib.hid k.bel
  clear k
  go_wp2_with fail
  refine (tnewK (W := W) 16 w5 (by omega) B5.out 256 (by rfl)).mono ?_
  rintro e w6 ⟨p, b, wb, rfl, k⟩
  have K6 := Lib.hid (show TK W p b wb 16 gA w6 from k)
  clear k B1 B2 B3 B4 B5
  go_wp2_with fail
  refine (tcountK K6.out 0 (by rw [q0.out]; rfl)).mono ?_
  rintro e w7 ⟨rfl, k⟩
  have K7 := Lib.hid k
  clear k
  go_wp2_with fail
  refine (taddK K7.out 32 32 (by omega) (by omega) true q1.out q1'.out).mono ?_
  rintro e w8 ⟨rfl, k⟩
  have K8 := Lib.hid k
  clear k
  go_wp2_with fail
  refine (taddK K8.out 48 16 (by omega) (by omega) false q2.out q2'.out).mono ?_
  rintro e w9 ⟨rfl, k⟩
  have K9 := Lib.hid k
  clear k
  go_wp2_with fail
  refine (taddK K9.out 64 16 (by omega) (by omega) true q3.out q3'.out).mono ?_
  rintro e w10 ⟨rfl, k⟩
  have K10 := Lib.hid k
  clear k
  go_wp2_with fail
  refine (tcountK K10.out 3 (by rw [q4.out]; rfl)).mono ?_
  rintro e w11 ⟨rfl, k⟩
  have K11 := Lib.hid k
  clear k
  go_upto_region 7 with (fail)
  have L0 := Lib.hid (K11.out.pt.m.lw)
  have K12 := Lib.hid (K11.out.grow ((Below.refl _ _).alloc (Nat.le_refl _) (.cells #[.int .u32 32, .int .u32 63, .int .u32 79, .int .u32 31, .int .u32 80, .int .u32 4294967295] 23)))
  have g0 := Lib.hid (row6 w11 23 #[.int .u32 32, .int .u32 63, .int .u32 79, .int .u32 31, .int .u32 80, .int .u32 4294967295] 0 (.int .u32 32) rfl)
  have g1 := Lib.hid (row6 w11 23 #[.int .u32 32, .int .u32 63, .int .u32 79, .int .u32 31, .int .u32 80, .int .u32 4294967295] 1 (.int .u32 63) rfl)
  have g2 := Lib.hid (row6 w11 23 #[.int .u32 32, .int .u32 63, .int .u32 79, .int .u32 31, .int .u32 80, .int .u32 4294967295] 2 (.int .u32 79) rfl)
  have g3 := Lib.hid (row6 w11 23 #[.int .u32 32, .int .u32 63, .int .u32 79, .int .u32 31, .int .u32 80, .int .u32 4294967295] 3 (.int .u32 31) rfl)
  have g4 := Lib.hid (row6 w11 23 #[.int .u32 32, .int .u32 63, .int .u32 79, .int .u32 31, .int .u32 80, .int .u32 4294967295] 4 (.int .u32 80) rfl)
  have g5 := Lib.hid (row6 w11 23 #[.int .u32 32, .int .u32 63, .int .u32 79, .int .u32 31, .int .u32 80, .int .u32 4294967295] 5 (.int .u32 4294967295) rfl)
  have hl := Lib.hid (show w11.heap.size < (w11.alloc (.cells #[.int .u32 32, .int .u32 63, .int .u32 79, .int .u32 31, .int .u32 80, .int .u32 4294967295] 23)).heap.size by simp)
  generalize w11.alloc (.cells #[.int .u32 32, .int .u32 63, .int .u32 79, .int .u32 31, .int .u32 80, .int .u32 4294967295] 23) = w12 at *
  obtain ⟨l, hl0⟩ : ∃ l, l = w11.heap.size := ⟨_, rfl⟩
  rw [← hl0] at L0 g0 g1 g2 g3 g4 g5 hl ⊢
  clear hl0 K6 K7 K8 K9 K10 K11
  go_wp2_with fail
  go_loopw [58] (fun i wr => ∃ j : Nat, i = .int .i64 j ∧ j ≤ 6 ∧ Hid (TO W w12 p b wb 16 kC wr)) (fun i _ => 6 - (intOf i).toNat)
  case atStart => exact ⟨0, rfl, by omega, Lib.hid ⟨K12.out, Off.refl _ _ _⟩⟩
  case round =>
    obtain ⟨j, rfl, hj, HK⟩ := hrel
    rcases (show j = 0 ∨ j = 1 ∨ j = 2 ∨ j = 3 ∨ j = 4 ∨ j = 5 ∨ j = 6 by omega) with rfl | rfl | rfl | rfl | rfl | rfl | rfl
    · have c0 : wr.cell? ⟨l, 0, none⟩ = some (.int .u32 32) := (HK.out.2.cell (p := ⟨l, 0, none⟩) hl.out (by show l ≠ wb; have := L0.out; omega)).trans g0.out
      go_wp2_with fail
      refine (thasO HK.out 32 (by omega) true h0.out).mono ?_
      rintro e wx ⟨rfl, k⟩
      have HX := Lib.hid k
      clear k c0
      go_wp2_with fail
      go_roundw
      case rel => exact ⟨1, by go_num, by omega, HX⟩
      case measure => simp [intOf]
    · have c0 : wr.cell? ⟨l, 1, none⟩ = some (.int .u32 63) := (HK.out.2.cell (p := ⟨l, 1, none⟩) hl.out (by show l ≠ wb; have := L0.out; omega)).trans g1.out
      go_wp2_with fail
      refine (thasO HK.out 63 (by omega) true h1.out).mono ?_
      rintro e wx ⟨rfl, k⟩
      have HX := Lib.hid k
      clear k c0
      go_wp2_with fail
      go_roundw
      case rel => exact ⟨2, by go_num, by omega, HX⟩
      case measure => simp [intOf]
    · have c0 : wr.cell? ⟨l, 2, none⟩ = some (.int .u32 79) := (HK.out.2.cell (p := ⟨l, 2, none⟩) hl.out (by show l ≠ wb; have := L0.out; omega)).trans g2.out
      go_wp2_with fail
      refine (thasO HK.out 79 (by omega) true h2.out).mono ?_
      rintro e wx ⟨rfl, k⟩
      have HX := Lib.hid k
      clear k c0
      go_wp2_with fail
      go_roundw
      case rel => exact ⟨3, by go_num, by omega, HX⟩
      case measure => simp [intOf]
    · have c0 : wr.cell? ⟨l, 3, none⟩ = some (.int .u32 31) := (HK.out.2.cell (p := ⟨l, 3, none⟩) hl.out (by show l ≠ wb; have := L0.out; omega)).trans g3.out
      go_wp2_with fail
      refine (thasO HK.out 31 (by omega) false h3.out).mono ?_
      rintro e wx ⟨rfl, k⟩
      have HX := Lib.hid k
      clear k c0
      go_wp2_with fail
      go_roundw
      case rel => exact ⟨4, by go_num, by omega, HX⟩
      case measure => simp [intOf]
    · have c0 : wr.cell? ⟨l, 4, none⟩ = some (.int .u32 80) := (HK.out.2.cell (p := ⟨l, 4, none⟩) hl.out (by show l ≠ wb; have := L0.out; omega)).trans g4.out
      go_wp2_with fail
      refine (thasO HK.out 80 (by omega) false h4.out).mono ?_
      rintro e wx ⟨rfl, k⟩
      have HX := Lib.hid k
      clear k c0
      go_wp2_with fail
      go_roundw
      case rel => exact ⟨5, by go_num, by omega, HX⟩
      case measure => simp [intOf]
    · have c0 : wr.cell? ⟨l, 5, none⟩ = some (.int .u32 4294967295) := (HK.out.2.cell (p := ⟨l, 5, none⟩) hl.out (by show l ≠ wb; have := L0.out; omega)).trans g5.out
      go_wp2_with fail
      refine (thasO HK.out 4294967295 (by omega) false h5.out).mono ?_
      rintro e wx ⟨rfl, k⟩
      have HX := Lib.hid k
      clear k c0
      go_wp2_with fail
      go_roundw
      case rel => exact ⟨6, by go_num, by omega, HX⟩
      case measure => simp [intOf]
    · clear g0 g1 g2 g3 g4 g5 hl L0
      rw [show ((6 : Nat) : Int) = 6 from rfl]
      have K13 := Lib.hid HK.out.1
      generalize hw13 : wr = w13 at K13 ⊢
      clear hw13 HK K12
      go_upto_region 13 with (fail)
      have L0 := Lib.hid (K13.out.pt.m.lw)
      have K14 := Lib.hid (K13.out.grow ((Below.refl _ _).alloc (Nat.le_refl _) (.cells #[.int .u32 8, .int .u32 16, .int .u32 0, .int .u32 0, .int .u32 0, .int .u32 8, .int .u32 240, .int .u32 32, .int .u32 4294967280, .int .u32 32, .int .u32 256, .int .u32 16, .int .u32 16, .int .u32 32] 33)))
      have g0 := Lib.hid (row6 w13 33 #[.int .u32 8, .int .u32 16, .int .u32 0, .int .u32 0, .int .u32 0, .int .u32 8, .int .u32 240, .int .u32 32, .int .u32 4294967280, .int .u32 32, .int .u32 256, .int .u32 16, .int .u32 16, .int .u32 32] 0 (.int .u32 8) rfl)
      have g1 := Lib.hid (row6 w13 33 #[.int .u32 8, .int .u32 16, .int .u32 0, .int .u32 0, .int .u32 0, .int .u32 8, .int .u32 240, .int .u32 32, .int .u32 4294967280, .int .u32 32, .int .u32 256, .int .u32 16, .int .u32 16, .int .u32 32] 1 (.int .u32 16) rfl)
      have g2 := Lib.hid (row6 w13 33 #[.int .u32 8, .int .u32 16, .int .u32 0, .int .u32 0, .int .u32 0, .int .u32 8, .int .u32 240, .int .u32 32, .int .u32 4294967280, .int .u32 32, .int .u32 256, .int .u32 16, .int .u32 16, .int .u32 32] 2 (.int .u32 0) rfl)
      have g3 := Lib.hid (row6 w13 33 #[.int .u32 8, .int .u32 16, .int .u32 0, .int .u32 0, .int .u32 0, .int .u32 8, .int .u32 240, .int .u32 32, .int .u32 4294967280, .int .u32 32, .int .u32 256, .int .u32 16, .int .u32 16, .int .u32 32] 3 (.int .u32 0) rfl)
      have g4 := Lib.hid (row6 w13 33 #[.int .u32 8, .int .u32 16, .int .u32 0, .int .u32 0, .int .u32 0, .int .u32 8, .int .u32 240, .int .u32 32, .int .u32 4294967280, .int .u32 32, .int .u32 256, .int .u32 16, .int .u32 16, .int .u32 32] 4 (.int .u32 0) rfl)
      have g5 := Lib.hid (row6 w13 33 #[.int .u32 8, .int .u32 16, .int .u32 0, .int .u32 0, .int .u32 0, .int .u32 8, .int .u32 240, .int .u32 32, .int .u32 4294967280, .int .u32 32, .int .u32 256, .int .u32 16, .int .u32 16, .int .u32 32] 5 (.int .u32 8) rfl)
      have g6 := Lib.hid (row6 w13 33 #[.int .u32 8, .int .u32 16, .int .u32 0, .int .u32 0, .int .u32 0, .int .u32 8, .int .u32 240, .int .u32 32, .int .u32 4294967280, .int .u32 32, .int .u32 256, .int .u32 16, .int .u32 16, .int .u32 32] 6 (.int .u32 240) rfl)
      have g7 := Lib.hid (row6 w13 33 #[.int .u32 8, .int .u32 16, .int .u32 0, .int .u32 0, .int .u32 0, .int .u32 8, .int .u32 240, .int .u32 32, .int .u32 4294967280, .int .u32 32, .int .u32 256, .int .u32 16, .int .u32 16, .int .u32 32] 7 (.int .u32 32) rfl)
      have g8 := Lib.hid (row6 w13 33 #[.int .u32 8, .int .u32 16, .int .u32 0, .int .u32 0, .int .u32 0, .int .u32 8, .int .u32 240, .int .u32 32, .int .u32 4294967280, .int .u32 32, .int .u32 256, .int .u32 16, .int .u32 16, .int .u32 32] 8 (.int .u32 4294967280) rfl)
      have g9 := Lib.hid (row6 w13 33 #[.int .u32 8, .int .u32 16, .int .u32 0, .int .u32 0, .int .u32 0, .int .u32 8, .int .u32 240, .int .u32 32, .int .u32 4294967280, .int .u32 32, .int .u32 256, .int .u32 16, .int .u32 16, .int .u32 32] 9 (.int .u32 32) rfl)
      have g10 := Lib.hid (row6 w13 33 #[.int .u32 8, .int .u32 16, .int .u32 0, .int .u32 0, .int .u32 0, .int .u32 8, .int .u32 240, .int .u32 32, .int .u32 4294967280, .int .u32 32, .int .u32 256, .int .u32 16, .int .u32 16, .int .u32 32] 10 (.int .u32 256) rfl)
      have g11 := Lib.hid (row6 w13 33 #[.int .u32 8, .int .u32 16, .int .u32 0, .int .u32 0, .int .u32 0, .int .u32 8, .int .u32 240, .int .u32 32, .int .u32 4294967280, .int .u32 32, .int .u32 256, .int .u32 16, .int .u32 16, .int .u32 32] 11 (.int .u32 16) rfl)
      have g12 := Lib.hid (row6 w13 33 #[.int .u32 8, .int .u32 16, .int .u32 0, .int .u32 0, .int .u32 0, .int .u32 8, .int .u32 240, .int .u32 32, .int .u32 4294967280, .int .u32 32, .int .u32 256, .int .u32 16, .int .u32 16, .int .u32 32] 12 (.int .u32 16) rfl)
      have g13 := Lib.hid (row6 w13 33 #[.int .u32 8, .int .u32 16, .int .u32 0, .int .u32 0, .int .u32 0, .int .u32 8, .int .u32 240, .int .u32 32, .int .u32 4294967280, .int .u32 32, .int .u32 256, .int .u32 16, .int .u32 16, .int .u32 32] 13 (.int .u32 32) rfl)
      have hl := Lib.hid (show w13.heap.size < (w13.alloc (.cells #[.int .u32 8, .int .u32 16, .int .u32 0, .int .u32 0, .int .u32 0, .int .u32 8, .int .u32 240, .int .u32 32, .int .u32 4294967280, .int .u32 32, .int .u32 256, .int .u32 16, .int .u32 16, .int .u32 32] 33)).heap.size by simp)
      generalize w13.alloc (.cells #[.int .u32 8, .int .u32 16, .int .u32 0, .int .u32 0, .int .u32 0, .int .u32 8, .int .u32 240, .int .u32 32, .int .u32 4294967280, .int .u32 32, .int .u32 256, .int .u32 16, .int .u32 16, .int .u32 32] 33) = w14 at *
      obtain ⟨l, hl0⟩ : ∃ l, l = w13.heap.size := ⟨_, rfl⟩
      rw [← hl0] at L0 g0 g1 g2 g3 g4 g5 g6 g7 g8 g9 g10 g11 g12 g13 hl ⊢
      clear hl0 K13
      go_wp2_with fail
      go_loopw [79] (fun i wr => ∃ j : Nat, i = .int .i64 j ∧ j ≤ 7 ∧ Hid (TO W w14 p b wb 16 kC wr)) (fun i _ => 7 - (intOf i).toNat)
      case atStart => exact ⟨0, rfl, by omega, Lib.hid ⟨K14.out, Off.refl _ _ _⟩⟩
      case round =>
        obtain ⟨j, rfl, hj, HK⟩ := hrel
        rcases (show j = 0 ∨ j = 1 ∨ j = 2 ∨ j = 3 ∨ j = 4 ∨ j = 5 ∨ j = 6 ∨ j = 7 by omega) with rfl | rfl | rfl | rfl | rfl | rfl | rfl | rfl
        · have c0 : wr.cell? ⟨l, 0, none⟩ = some (.int .u32 8) := (HK.out.2.cell (p := ⟨l, 0, none⟩) hl.out (by show l ≠ wb; have := L0.out; omega)).trans g0.out
          have c1 : wr.cell? ⟨l, 1, none⟩ = some (.int .u32 16) := (HK.out.2.cell (p := ⟨l, 1, none⟩) hl.out (by show l ≠ wb; have := L0.out; omega)).trans g1.out
          go_upto_region 15 with (fail)
          have HX := Lib.hid (TX.box HK.out 8 16)
          obtain ⟨q, hq⟩ : ∃ q, q = wr.heap.size := ⟨_, rfl⟩
          rw [← hq] at HX ⊢
          have hz : (wr.alloc (.cells #[.int .u32 (8 : Nat), .int .u32 (16 : Nat)] 33)) = wr.alloc (.cells #[.int .u32 8, .int .u32 16] 33) := rfl
          rw [hz] at HX
          generalize wr.alloc (.cells #[.int .u32 8, .int .u32 16] 33) = wv at HX ⊢
          clear hq hz c0 c1
          have r0 : wv.cell? ⟨q, 0, none⟩ = some (.int .u32 8) := HX.out.1.r.c0
          have r1 : wv.cell? ⟨q, 1, none⟩ = some (.int .u32 16) := HX.out.1.r.c1
          go_wp2_with fail
          refine (taddX HX.out 8 16 (by omega) (by omega) false a0.out a0'.out).mono ?_
          rintro e wx ⟨rfl, k⟩
          have HY := Lib.hid k
          clear k r0 r1
          have r0 : wx.cell? ⟨q, 0, none⟩ = some (.int .u32 8) := HY.out.1.r.c0
          have r1 : wx.cell? ⟨q, 1, none⟩ = some (.int .u32 16) := HY.out.1.r.c1
          go_wp2_with fail
          refine (tremX HY.out 8 16 (by omega) (by omega) false d0.out d0'.out).mono ?_
          rintro e wy ⟨rfl, k⟩
          have HZ := Lib.hid (show TO W w14 p b wb 16 kC wy from ⟨k.1.k, k.2⟩)
          clear k r0 r1
          go_wp2_with fail
          go_roundw
          case rel => exact ⟨1, by go_num, by omega, HZ⟩
          case measure => simp [intOf]
        · have c0 : wr.cell? ⟨l, 2, none⟩ = some (.int .u32 0) := (HK.out.2.cell (p := ⟨l, 2, none⟩) hl.out (by show l ≠ wb; have := L0.out; omega)).trans g2.out
          have c1 : wr.cell? ⟨l, 3, none⟩ = some (.int .u32 0) := (HK.out.2.cell (p := ⟨l, 3, none⟩) hl.out (by show l ≠ wb; have := L0.out; omega)).trans g3.out
          go_upto_region 15 with (fail)
          have HX := Lib.hid (TX.box HK.out 0 0)
          obtain ⟨q, hq⟩ : ∃ q, q = wr.heap.size := ⟨_, rfl⟩
          rw [← hq] at HX ⊢
          have hz : (wr.alloc (.cells #[.int .u32 (0 : Nat), .int .u32 (0 : Nat)] 33)) = wr.alloc (.cells #[.int .u32 0, .int .u32 0] 33) := rfl
          rw [hz] at HX
          generalize wr.alloc (.cells #[.int .u32 0, .int .u32 0] 33) = wv at HX ⊢
          clear hq hz c0 c1
          have r0 : wv.cell? ⟨q, 0, none⟩ = some (.int .u32 0) := HX.out.1.r.c0
          have r1 : wv.cell? ⟨q, 1, none⟩ = some (.int .u32 0) := HX.out.1.r.c1
          go_wp2_with fail
          refine (taddX HX.out 0 0 (by omega) (by omega) false a1.out a1'.out).mono ?_
          rintro e wx ⟨rfl, k⟩
          have HY := Lib.hid k
          clear k r0 r1
          have r0 : wx.cell? ⟨q, 0, none⟩ = some (.int .u32 0) := HY.out.1.r.c0
          have r1 : wx.cell? ⟨q, 1, none⟩ = some (.int .u32 0) := HY.out.1.r.c1
          go_wp2_with fail
          refine (tremX HY.out 0 0 (by omega) (by omega) false d1.out d1'.out).mono ?_
          rintro e wy ⟨rfl, k⟩
          have HZ := Lib.hid (show TO W w14 p b wb 16 kC wy from ⟨k.1.k, k.2⟩)
          clear k r0 r1
          go_wp2_with fail
          go_roundw
          case rel => exact ⟨2, by go_num, by omega, HZ⟩
          case measure => simp [intOf]
        · have c0 : wr.cell? ⟨l, 4, none⟩ = some (.int .u32 0) := (HK.out.2.cell (p := ⟨l, 4, none⟩) hl.out (by show l ≠ wb; have := L0.out; omega)).trans g4.out
          have c1 : wr.cell? ⟨l, 5, none⟩ = some (.int .u32 8) := (HK.out.2.cell (p := ⟨l, 5, none⟩) hl.out (by show l ≠ wb; have := L0.out; omega)).trans g5.out
          go_upto_region 15 with (fail)
          have HX := Lib.hid (TX.box HK.out 0 8)
          obtain ⟨q, hq⟩ : ∃ q, q = wr.heap.size := ⟨_, rfl⟩
          rw [← hq] at HX ⊢
          have hz : (wr.alloc (.cells #[.int .u32 (0 : Nat), .int .u32 (8 : Nat)] 33)) = wr.alloc (.cells #[.int .u32 0, .int .u32 8] 33) := rfl
          rw [hz] at HX
          generalize wr.alloc (.cells #[.int .u32 0, .int .u32 8] 33) = wv at HX ⊢
          clear hq hz c0 c1
          have r0 : wv.cell? ⟨q, 0, none⟩ = some (.int .u32 0) := HX.out.1.r.c0
          have r1 : wv.cell? ⟨q, 1, none⟩ = some (.int .u32 8) := HX.out.1.r.c1
          go_wp2_with fail
          refine (taddX HX.out 0 8 (by omega) (by omega) false a2.out a2'.out).mono ?_
          rintro e wx ⟨rfl, k⟩
          have HY := Lib.hid k
          clear k r0 r1
          have r0 : wx.cell? ⟨q, 0, none⟩ = some (.int .u32 0) := HY.out.1.r.c0
          have r1 : wx.cell? ⟨q, 1, none⟩ = some (.int .u32 8) := HY.out.1.r.c1
          go_wp2_with fail
          refine (tremX HY.out 0 8 (by omega) (by omega) false d2.out d2'.out).mono ?_
          rintro e wy ⟨rfl, k⟩
          have HZ := Lib.hid (show TO W w14 p b wb 16 kC wy from ⟨k.1.k, k.2⟩)
          clear k r0 r1
          go_wp2_with fail
          go_roundw
          case rel => exact ⟨3, by go_num, by omega, HZ⟩
          case measure => simp [intOf]
        · have c0 : wr.cell? ⟨l, 6, none⟩ = some (.int .u32 240) := (HK.out.2.cell (p := ⟨l, 6, none⟩) hl.out (by show l ≠ wb; have := L0.out; omega)).trans g6.out
          have c1 : wr.cell? ⟨l, 7, none⟩ = some (.int .u32 32) := (HK.out.2.cell (p := ⟨l, 7, none⟩) hl.out (by show l ≠ wb; have := L0.out; omega)).trans g7.out
          go_upto_region 15 with (fail)
          have HX := Lib.hid (TX.box HK.out 240 32)
          obtain ⟨q, hq⟩ : ∃ q, q = wr.heap.size := ⟨_, rfl⟩
          rw [← hq] at HX ⊢
          have hz : (wr.alloc (.cells #[.int .u32 (240 : Nat), .int .u32 (32 : Nat)] 33)) = wr.alloc (.cells #[.int .u32 240, .int .u32 32] 33) := rfl
          rw [hz] at HX
          generalize wr.alloc (.cells #[.int .u32 240, .int .u32 32] 33) = wv at HX ⊢
          clear hq hz c0 c1
          have r0 : wv.cell? ⟨q, 0, none⟩ = some (.int .u32 240) := HX.out.1.r.c0
          have r1 : wv.cell? ⟨q, 1, none⟩ = some (.int .u32 32) := HX.out.1.r.c1
          go_wp2_with fail
          refine (taddX HX.out 240 32 (by omega) (by omega) false a3.out a3'.out).mono ?_
          rintro e wx ⟨rfl, k⟩
          have HY := Lib.hid k
          clear k r0 r1
          have r0 : wx.cell? ⟨q, 0, none⟩ = some (.int .u32 240) := HY.out.1.r.c0
          have r1 : wx.cell? ⟨q, 1, none⟩ = some (.int .u32 32) := HY.out.1.r.c1
          go_wp2_with fail
          refine (tremX HY.out 240 32 (by omega) (by omega) false d3.out d3'.out).mono ?_
          rintro e wy ⟨rfl, k⟩
          have HZ := Lib.hid (show TO W w14 p b wb 16 kC wy from ⟨k.1.k, k.2⟩)
          clear k r0 r1
          go_wp2_with fail
          go_roundw
          case rel => exact ⟨4, by go_num, by omega, HZ⟩
          case measure => simp [intOf]
        · have c0 : wr.cell? ⟨l, 8, none⟩ = some (.int .u32 4294967280) := (HK.out.2.cell (p := ⟨l, 8, none⟩) hl.out (by show l ≠ wb; have := L0.out; omega)).trans g8.out
          have c1 : wr.cell? ⟨l, 9, none⟩ = some (.int .u32 32) := (HK.out.2.cell (p := ⟨l, 9, none⟩) hl.out (by show l ≠ wb; have := L0.out; omega)).trans g9.out
          go_upto_region 15 with (fail)
          have HX := Lib.hid (TX.box HK.out 4294967280 32)
          obtain ⟨q, hq⟩ : ∃ q, q = wr.heap.size := ⟨_, rfl⟩
          rw [← hq] at HX ⊢
          have hz : (wr.alloc (.cells #[.int .u32 (4294967280 : Nat), .int .u32 (32 : Nat)] 33)) = wr.alloc (.cells #[.int .u32 4294967280, .int .u32 32] 33) := rfl
          rw [hz] at HX
          generalize wr.alloc (.cells #[.int .u32 4294967280, .int .u32 32] 33) = wv at HX ⊢
          clear hq hz c0 c1
          have r0 : wv.cell? ⟨q, 0, none⟩ = some (.int .u32 4294967280) := HX.out.1.r.c0
          have r1 : wv.cell? ⟨q, 1, none⟩ = some (.int .u32 32) := HX.out.1.r.c1
          go_wp2_with fail
          refine (taddX HX.out 4294967280 32 (by omega) (by omega) false a4.out a4'.out).mono ?_
          rintro e wx ⟨rfl, k⟩
          have HY := Lib.hid k
          clear k r0 r1
          have r0 : wx.cell? ⟨q, 0, none⟩ = some (.int .u32 4294967280) := HY.out.1.r.c0
          have r1 : wx.cell? ⟨q, 1, none⟩ = some (.int .u32 32) := HY.out.1.r.c1
          go_wp2_with fail
          refine (tremX HY.out 4294967280 32 (by omega) (by omega) false d4.out d4'.out).mono ?_
          rintro e wy ⟨rfl, k⟩
          have HZ := Lib.hid (show TO W w14 p b wb 16 kC wy from ⟨k.1.k, k.2⟩)
          clear k r0 r1
          go_wp2_with fail
          go_roundw
          case rel => exact ⟨5, by go_num, by omega, HZ⟩
          case measure => simp [intOf]
        · have c0 : wr.cell? ⟨l, 10, none⟩ = some (.int .u32 256) := (HK.out.2.cell (p := ⟨l, 10, none⟩) hl.out (by show l ≠ wb; have := L0.out; omega)).trans g10.out
          have c1 : wr.cell? ⟨l, 11, none⟩ = some (.int .u32 16) := (HK.out.2.cell (p := ⟨l, 11, none⟩) hl.out (by show l ≠ wb; have := L0.out; omega)).trans g11.out
          go_upto_region 15 with (fail)
          have HX := Lib.hid (TX.box HK.out 256 16)
          obtain ⟨q, hq⟩ : ∃ q, q = wr.heap.size := ⟨_, rfl⟩
          rw [← hq] at HX ⊢
          have hz : (wr.alloc (.cells #[.int .u32 (256 : Nat), .int .u32 (16 : Nat)] 33)) = wr.alloc (.cells #[.int .u32 256, .int .u32 16] 33) := rfl
          rw [hz] at HX
          generalize wr.alloc (.cells #[.int .u32 256, .int .u32 16] 33) = wv at HX ⊢
          clear hq hz c0 c1
          have r0 : wv.cell? ⟨q, 0, none⟩ = some (.int .u32 256) := HX.out.1.r.c0
          have r1 : wv.cell? ⟨q, 1, none⟩ = some (.int .u32 16) := HX.out.1.r.c1
          go_wp2_with fail
          refine (taddX HX.out 256 16 (by omega) (by omega) false a5.out a5'.out).mono ?_
          rintro e wx ⟨rfl, k⟩
          have HY := Lib.hid k
          clear k r0 r1
          have r0 : wx.cell? ⟨q, 0, none⟩ = some (.int .u32 256) := HY.out.1.r.c0
          have r1 : wx.cell? ⟨q, 1, none⟩ = some (.int .u32 16) := HY.out.1.r.c1
          go_wp2_with fail
          refine (tremX HY.out 256 16 (by omega) (by omega) false d5.out d5'.out).mono ?_
          rintro e wy ⟨rfl, k⟩
          have HZ := Lib.hid (show TO W w14 p b wb 16 kC wy from ⟨k.1.k, k.2⟩)
          clear k r0 r1
          go_wp2_with fail
          go_roundw
          case rel => exact ⟨6, by go_num, by omega, HZ⟩
          case measure => simp [intOf]
        · have c0 : wr.cell? ⟨l, 12, none⟩ = some (.int .u32 16) := (HK.out.2.cell (p := ⟨l, 12, none⟩) hl.out (by show l ≠ wb; have := L0.out; omega)).trans g12.out
          have c1 : wr.cell? ⟨l, 13, none⟩ = some (.int .u32 32) := (HK.out.2.cell (p := ⟨l, 13, none⟩) hl.out (by show l ≠ wb; have := L0.out; omega)).trans g13.out
          go_upto_region 15 with (fail)
          have HX := Lib.hid (TX.box HK.out 16 32)
          obtain ⟨q, hq⟩ : ∃ q, q = wr.heap.size := ⟨_, rfl⟩
          rw [← hq] at HX ⊢
          have hz : (wr.alloc (.cells #[.int .u32 (16 : Nat), .int .u32 (32 : Nat)] 33)) = wr.alloc (.cells #[.int .u32 16, .int .u32 32] 33) := rfl
          rw [hz] at HX
          generalize wr.alloc (.cells #[.int .u32 16, .int .u32 32] 33) = wv at HX ⊢
          clear hq hz c0 c1
          have r0 : wv.cell? ⟨q, 0, none⟩ = some (.int .u32 16) := HX.out.1.r.c0
          have r1 : wv.cell? ⟨q, 1, none⟩ = some (.int .u32 32) := HX.out.1.r.c1
          go_wp2_with fail
          refine (taddX HX.out 16 32 (by omega) (by omega) false a6.out a6'.out).mono ?_
          rintro e wx ⟨rfl, k⟩
          have HY := Lib.hid k
          clear k r0 r1
          have r0 : wx.cell? ⟨q, 0, none⟩ = some (.int .u32 16) := HY.out.1.r.c0
          have r1 : wx.cell? ⟨q, 1, none⟩ = some (.int .u32 32) := HY.out.1.r.c1
          go_wp2_with fail
          refine (tremX HY.out 16 32 (by omega) (by omega) false d6.out d6'.out).mono ?_
          rintro e wy ⟨rfl, k⟩
          have HZ := Lib.hid (show TO W w14 p b wb 16 kC wy from ⟨k.1.k, k.2⟩)
          clear k r0 r1
          go_wp2_with fail
          go_roundw
          case rel => exact ⟨7, by go_num, by omega, HZ⟩
          case measure => simp [intOf]
        · have K15 := Lib.hid HK.out.1
          generalize hw15 : wr = w15 at K15 ⊢
          clear hw15 HK K14
          go_upto_region 19 with (fail)
          have HX := Lib.hid (TQ.box K15.out 32 48)
          obtain ⟨q, hq⟩ : ∃ q, q = w15.heap.size := ⟨_, rfl⟩
          rw [← hq] at HX ⊢
          have hz : (w15.alloc (.cells #[.int .u32 (32 : Nat), .int .u32 (48 : Nat)] 33)) = w15.alloc (.cells #[.int .u32 32, .int .u32 48] 33) := rfl
          rw [hz] at HX
          generalize w15.alloc (.cells #[.int .u32 32, .int .u32 48] 33) = w16 at HX ⊢
          clear hq hz
          have r0 : w16.cell? ⟨q, 0, none⟩ = some (.int .u32 32) := HX.out.r.c0
          have r1 : w16.cell? ⟨q, 1, none⟩ = some (.int .u32 48) := HX.out.r.c1
          go_wp2_with fail
          refine (tremQ HX.out 32 48 (by omega) (by omega) true q5.out q5'.out).mono ?_
          rintro e w17 ⟨rfl, k⟩
          have HX := Lib.hid k
          clear k r0 r1
          have r0 : w17.cell? ⟨q, 0, none⟩ = some (.int .u32 32) := HX.out.r.c0
          have r1 : w17.cell? ⟨q, 1, none⟩ = some (.int .u32 48) := HX.out.r.c1
          go_wp2_with fail
          refine (tremQ HX.out 32 48 (by omega) (by omega) false q6.out q6'.out).mono ?_
          rintro e w18 ⟨rfl, k⟩
          have HX := Lib.hid k
          clear k r0 r1
          have r0 : w18.cell? ⟨q, 0, none⟩ = some (.int .u32 32) := HX.out.r.c0
          have r1 : w18.cell? ⟨q, 1, none⟩ = some (.int .u32 48) := HX.out.r.c1
          go_wp2_with fail
          refine (tcountQ HX.out 0 (by rw [q7.out]; rfl)).mono ?_
          rintro e w19 ⟨rfl, k⟩
          have HX := Lib.hid k
          clear k r0 r1
          have r0 : w19.cell? ⟨q, 0, none⟩ = some (.int .u32 32) := HX.out.r.c0
          have r1 : w19.cell? ⟨q, 1, none⟩ = some (.int .u32 48) := HX.out.r.c1
          go_wp2_with fail
          refine (ptadd_nil 32 48 w19).mono ?_
          rintro e w20 ⟨rfl, k⟩
          have HX := Lib.hid (HX.out.grow k)
          clear k r0 r1
          have r0 : w20.cell? ⟨q, 0, none⟩ = some (.int .u32 32) := HX.out.r.c0
          have r1 : w20.cell? ⟨q, 1, none⟩ = some (.int .u32 48) := HX.out.r.c1
          go_wp2_with fail
          refine (ptrem_nil 32 48 w20).mono ?_
          rintro e w21 ⟨rfl, k⟩
          have HX := Lib.hid (HX.out.grow k)
          clear k r0 r1
          have r0 : w21.cell? ⟨q, 0, none⟩ = some (.int .u32 32) := HX.out.r.c0
          have r1 : w21.cell? ⟨q, 1, none⟩ = some (.int .u32 48) := HX.out.r.c1
          go_wp2_with fail
          refine (pthas_nil 32 w21).mono ?_
          rintro e w22 ⟨rfl, k⟩
          have HX := Lib.hid (HX.out.grow k)
          clear k r0 r1
          have r0 : w22.cell? ⟨q, 0, none⟩ = some (.int .u32 32) := HX.out.r.c0
          have r1 : w22.cell? ⟨q, 1, none⟩ = some (.int .u32 48) := HX.out.r.c1
          go_wp2_with fail
          refine (ptcount_nil w22).mono ?_
          rintro e w23 ⟨rfl, k⟩
          have HX := Lib.hid (HX.out.grow k)
          clear k r0 r1
          have r0 : w23.cell? ⟨q, 0, none⟩ = some (.int .u32 32) := HX.out.r.c0
          have r1 : w23.cell? ⟨q, 1, none⟩ = some (.int .u32 48) := HX.out.r.c1
          go_wp2_with fail
          refine (ptcopy_nil w23).mono ?_
          rintro e w24 ⟨rfl, k⟩
          have HX := Lib.hid (HX.out.grow k)
          clear k r0 r1
          have r0 : w24.cell? ⟨q, 0, none⟩ = some (.int .u32 32) := HX.out.r.c0
          have r1 : w24.cell? ⟨q, 1, none⟩ = some (.int .u32 48) := HX.out.r.c1
          have hb := Lib.hid HX.out.k.bel
          go_wp2_with fail
          refine (works15_any w24).mono ?_
          rintro e w25 ⟨rfl, k⟩
          have hb2 := Lib.hid (hb.out.trans (k.mono hb.out.size))
          clear k
          go_wp2_with fail
          go_ret
          exact ⟨rfl, hb2.out⟩
theorem own : ownKnob Try.prog.godebug = none := by kernel_rfl
theorem laidOut : laidOutB Try.prog = true := by kernel_rfl
set_option maxRecDepth 100000 in
theorem lifted (os : Os) (started : os.Started) (H : Type) (enc : TypeId × Value → H) :
    ReturnsInHanded {} Try.checked os 6 .any (Rows.paintKnownSpec.pre6 enc Try.prog Try.f6 Rows.paintKnownRow.domain false) (Rows.paintKnownSpec.post enc Try.prog Try.f6 false true false false) := by
  refine returnsInHanded_of_change (C := Try.checked) own started (by kernel_rfl) Try.func6
    (ChangeSpec.witness6 (enc := enc) (C := Try.checked) false ⟨#[], #[], []⟩ 8 (by kernel_rfl) (by kernel_rfl) (by kernel_rfl) (by kernel_rfl)) ?_
  intro W base args ds gs before hval0 hW hcnd hsz
  have hval : ∀ (j : Nat) t v, Try.f6.params[j]? = some t → args[j]? = some v → Value.okWide Try.prog W .any base t v := hval0
  have hW' := hW
  obtain ⟨p, q, hA0, hV, rfl, hfz, hnd⟩ := hW
  have hA : DataW.TrodAll enc Try.prog W 0 (fun _ => true) true Try.f6.params.toList args.toList ds p := hA0
  rw [Try.params6] at hA hval
  obtain ⟨rfl, rfl, rfl⟩ := trodAll_none hA
  obtain ⟨rfl, rfl⟩ := trodVars_none hV
  clear hA0 hval0
  refine (walk  W).mono fun e W' ⟨he, bel⟩ => ?_
  subst he
  exact ⟨_, rfl, _, _, _, [], _, [], hW', trodAll_mk1 (shut_bool Try.underlying4 _), trodAll_mk0, rfl, bel.frame _, fun h => by cases h⟩
theorem over : Rows.paintKnownRow.holds Try.pinned (OpenSpec.ofChange Rows.paintKnownSpec) :=
  OpenClaim.holds_of_wide 6 Try.f6 rfl rfl rfl rfl rfl rfl rfl ⟨rfl, rfl, rfl, rfl, rfl⟩ rfl rfl rfl rfl rfl (by kernel_rfl) Try.func6 (by kernel_rfl)
    (of_decide_eq_true (by kernel_rfl)) (by unfold Func.isWrapper; first | (rw [if_pos (by decide +kernel)]; kernel_rfl) | (rw [if_neg (by decide +kernel)]; exact ⟨rfl, rfl⟩))
    (fun os started H enc _ => lifted os started H enc)
/-- The given statement. -/
theorem proved : Rows.PaintKnownSaid := over
end Go.Proofs.Yticfpnhfhhagpaa.pknown
