/- Proved: less is an order, with signs and without; equal is neither less; branches go by it (AluOrder). For every input; no condition. -/
import Derived.Test.YtjkeflldbmiohaaRows
import Derived.Test.YtjkeflldbmiohaaAlC
import Derived.Test.YtjkeflldbmiohaaCls
import Derived.ProofKit
import Derived.OpenShut
import Derived.ChangeOld
namespace Go.Proofs.Ytjkeflldbmiohaa.order
open Go.ChangeShapes Go.WideShapes Go.ChangeAt Go.RowKit
set_option linter.unusedVariables false
set_option maxRecDepth 100000

theorem one_lt (t : Bool) : oneN t < 4294967296 := by cases t <;> decide
theorem sg_far {a b : Nat} (ha : a < 4294967296) (hb : b < 4294967296) : ((a + 2147483648) % 4294967296 < (b + 2147483648) % 4294967296) ↔ sg a < sg b := by
  unfold sg
  split <;> split <;> omega
theorem sg_inj {a b : Nat} (ha : a < 4294967296) (hb : b < 4294967296) (h : sg a = sg b) : a = b := by
  unfold sg at h
  split at h <;> split at h <;> omega
theorem three_s {a b : Nat} (ha : a < 4294967296) (hb : b < 4294967296) : (((oneN (decide (sg a < sg b)) : Nat) : Int) = 1 ∧ ((oneN (decide (sg b < sg a)) : Nat) : Int) = 0 ∧ ((oneN (decide (a = b)) : Nat) : Int) = 0) ∨ (((oneN (decide (sg a < sg b)) : Nat) : Int) = 0 ∧ ((oneN (decide (sg b < sg a)) : Nat) : Int) = 1 ∧ ((oneN (decide (a = b)) : Nat) : Int) = 0) ∨ (((oneN (decide (sg a < sg b)) : Nat) : Int) = 0 ∧ ((oneN (decide (sg b < sg a)) : Nat) : Int) = 0 ∧ ((oneN (decide (a = b)) : Nat) : Int) = 1) := by
  rcases Int.lt_trichotomy (sg a) (sg b) with h | h | h
  · have h1 : ¬ sg b < sg a := by omega
    have h2 : ¬ a = b := by intro e; subst e; omega
    exact .inl (by simp [oneN, h, h1, h2])
  · have h1 : a = b := sg_inj ha hb h
    subst h1
    exact .inr (.inr (by simp [oneN]))
  · have h1 : ¬ sg a < sg b := by omega
    have h2 : ¬ a = b := by intro e; subst e; omega
    exact .inr (.inl (by simp [oneN, h, h1, h2]))
theorem three_u {a b : Nat} : (((oneN (decide (a < b)) : Nat) : Int) = 1 ∧ ((oneN (decide (b < a)) : Nat) : Int) = 0 ∧ ((oneN (decide (a = b)) : Nat) : Int) = 0) ∨ (((oneN (decide (a < b)) : Nat) : Int) = 0 ∧ ((oneN (decide (b < a)) : Nat) : Int) = 1 ∧ ((oneN (decide (a = b)) : Nat) : Int) = 0) ∨ (((oneN (decide (a < b)) : Nat) : Int) = 0 ∧ ((oneN (decide (b < a)) : Nat) : Int) = 0 ∧ ((oneN (decide (a = b)) : Nat) : Int) = 1) := by
  rcases Nat.lt_trichotomy a b with h | h | h
  · have h1 : ¬ b < a := by omega
    have h2 : ¬ a = b := by omega
    exact .inl (by simp [oneN, h, h1, h2])
  · subst h
    exact .inr (.inr (by simp [oneN]))
  · have h1 : ¬ a < b := by omega
    have h2 : ¬ a = b := by omega
    exact .inr (.inl (by simp [oneN, h, h1, h2]))
theorem two_s {a b c : Nat} (h : ((oneN (decide (sg a < sg b)) : Nat) : Int) = 1) : ((oneN (decide (sg b < sg c)) : Nat) : Int) = 0 ∨ (((oneN (decide (sg b < sg c)) : Nat) : Int) = 1 ∧ ((oneN (decide (sg a < sg c)) : Nat) : Int) = 1) := by
  by_cases h1 : sg a < sg b
  · by_cases h2 : sg b < sg c
    · exact .inr (by simp [oneN, h2, Int.lt_trans h1 h2])
    · exact .inl (by simp [oneN, h2])
  · simp [oneN, h1] at h
theorem two_u {a b c : Nat} (h : ((oneN (decide (a < b)) : Nat) : Int) = 1) : ((oneN (decide (b < c)) : Nat) : Int) = 0 ∨ (((oneN (decide (b < c)) : Nat) : Int) = 1 ∧ ((oneN (decide (a < c)) : Nat) : Int) = 1) := by
  by_cases h1 : a < b
  · by_cases h2 : b < c
    · exact .inr (by simp [oneN, h2, Nat.lt_trans h1 h2])
    · exact .inl (by simp [oneN, h2])
  · simp [oneN, h1] at h

set_option maxHeartbeats 4000000 in
theorem walk (a : Int) (wa : (Lit.int .u32 a).wf = true) (b : Int) (wb : (Lit.int .u32 b).wf = true) (c : Int) (wc : (Lit.int .u32 c).wf = true) (W : World) :
    Calls Try.prog 8 #[.int .u32 a, .int .u32 b, .int .u32 c] W fun e w' => e = .returned (.bool true) ∧ Below W.heap.size W w' := by
  have ha := bounds_u32 wa
  obtain ⟨a, rfl⟩ := Int.eq_ofNat_of_zero_le ha.1
  replace ha : a < 4294967296 := by omega
  have hb := bounds_u32 wb
  obtain ⟨b, rfl⟩ := Int.eq_ofNat_of_zero_le hb.1
  replace hb : b < 4294967296 := by omega
  have hc := bounds_u32 wc
  obtain ⟨c, rfl⟩ := Int.eq_ofNat_of_zero_le hc.1
  replace hc : c < 4294967296 := by omega
  obtain ⟨fa, e_fa⟩ : ∃ fa : Nat, fa = (a + 2147483648) % 4294967296 := ⟨_, rfl⟩
  have l_fa : fa < 4294967296 := by rw [e_fa]; exact Nat.mod_lt _ (by decide)
  obtain ⟨fb, e_fb⟩ : ∃ fb : Nat, fb = (b + 2147483648) % 4294967296 := ⟨_, rfl⟩
  have l_fb : fb < 4294967296 := by rw [e_fb]; exact Nat.mod_lt _ (by decide)
  have cX1 : Hid (∀ w, Calls Try.prog 15 #[.int .i64 13, .int .u32 (a : Nat), .int .u32 (b : Nat)] w fun e w' => e = .returned (.int .u32 ((oneN (decide (sg a < sg b)) : Nat) : Int)) ∧ Below w.heap.size w w') := Lib.hid (of_is 13 a b _ ha hb (rfl))
  have cY1 : Hid (∀ w, Calls Try.prog 15 #[.int .i64 13, .int .u32 (b : Nat), .int .u32 (a : Nat)] w fun e w' => e = .returned (.int .u32 ((oneN (decide (sg b < sg a)) : Nat) : Int)) ∧ Below w.heap.size w w') := Lib.hid (of_is 13 b a _ hb ha (rfl))
  have cP1 : Hid (∀ w, Calls Try.prog 15 #[.int .i64 13, .int .u32 (b : Nat), .int .u32 (c : Nat)] w fun e w' => e = .returned (.int .u32 ((oneN (decide (sg b < sg c)) : Nat) : Int)) ∧ Below w.heap.size w w') := Lib.hid (of_is 13 b c _ hb hc (rfl))
  have cQ1 : Hid (∀ w, Calls Try.prog 15 #[.int .i64 13, .int .u32 (a : Nat), .int .u32 (c : Nat)] w fun e w' => e = .returned (.int .u32 ((oneN (decide (sg a < sg c)) : Nat) : Int)) ∧ Below w.heap.size w w') := Lib.hid (of_is 13 a c _ ha hc (rfl))
  have cX2 : Hid (∀ w, Calls Try.prog 15 #[.int .i64 14, .int .u32 (a : Nat), .int .u32 (b : Nat)] w fun e w' => e = .returned (.int .u32 ((oneN (decide (a < b)) : Nat) : Int)) ∧ Below w.heap.size w w') := Lib.hid (of_is 14 a b _ ha hb (rfl))
  have cY2 : Hid (∀ w, Calls Try.prog 15 #[.int .i64 14, .int .u32 (b : Nat), .int .u32 (a : Nat)] w fun e w' => e = .returned (.int .u32 ((oneN (decide (b < a)) : Nat) : Int)) ∧ Below w.heap.size w w') := Lib.hid (of_is 14 b a _ hb ha (rfl))
  have cP2 : Hid (∀ w, Calls Try.prog 15 #[.int .i64 14, .int .u32 (b : Nat), .int .u32 (c : Nat)] w fun e w' => e = .returned (.int .u32 ((oneN (decide (b < c)) : Nat) : Int)) ∧ Below w.heap.size w w') := Lib.hid (of_is 14 b c _ hb hc (rfl))
  have cQ2 : Hid (∀ w, Calls Try.prog 15 #[.int .i64 14, .int .u32 (a : Nat), .int .u32 (c : Nat)] w fun e w' => e = .returned (.int .u32 ((oneN (decide (a < c)) : Nat) : Int)) ∧ Below w.heap.size w w') := Lib.hid (of_is 14 a c _ ha hc (rfl))
  have cE : Hid (∀ w, Calls Try.prog 15 #[.int .i64 15, .int .u32 (a : Nat), .int .u32 (b : Nat)] w fun e w' => e = .returned (.int .u32 ((oneN (decide (a = b)) : Nat) : Int)) ∧ Below w.heap.size w w') := Lib.hid (of_is 15 a b _ ha hb (rfl))
  have cL : Hid (∀ w, Calls Try.prog 15 #[.int .i64 14, .int .u32 (fa : Nat), .int .u32 (fb : Nat)] w fun e w' => e = .returned (.int .u32 ((oneN (decide (sg a < sg b)) : Nat) : Int)) ∧ Below w.heap.size w w') := Lib.hid (of_is 14 fa fb _ l_fa l_fb (show oneN (decide (fa < fb)) = _ by rw [e_fa, e_fb]; exact congrArg oneN (decide_eq_decide.2 (sg_far ha hb))))
  have D1 := three_s ha hb
  have D2 := @three_u a b
  have D3 := @two_s a b c
  have D4 := @two_u a b c
  have bE : ∃ t : Bool, t = decide (a = b) ∧ ((oneN (decide (a = b)) : Nat) : Int) = if t then 1 else 0 := ⟨_, rfl, by unfold oneN; split <;> rfl⟩
  have bX : ∃ t : Bool, t = decide (sg a < sg b) ∧ ((oneN (decide (sg a < sg b)) : Nat) : Int) = if t then 1 else 0 := ⟨_, rfl, by unfold oneN; split <;> rfl⟩
  obtain ⟨te, hte, bE⟩ := bE
  obtain ⟨tx, htx, bX⟩ := bX
  have k1 : Hid (∀ w, Calls Try.prog 13 #[.int .i64 25, .int .u32 (a : Nat), .int .u32 (b : Nat)] w fun e w' => e = .returned (.tuple #[.bool (te), .bool true]) ∧ w = w') := Lib.hid (by subst hte htx; exact takes_any 25 a b ha hb)
  have k2 : Hid (∀ w, Calls Try.prog 13 #[.int .i64 26, .int .u32 (a : Nat), .int .u32 (b : Nat)] w fun e w' => e = .returned (.tuple #[.bool (!te), .bool true]) ∧ w = w') := Lib.hid (by subst hte htx; exact takes_any 26 a b ha hb)
  have k3 : Hid (∀ w, Calls Try.prog 13 #[.int .i64 27, .int .u32 (a : Nat), .int .u32 (b : Nat)] w fun e w' => e = .returned (.tuple #[.bool (tx), .bool true]) ∧ w = w') := Lib.hid (by subst hte htx; exact takes_any 27 a b ha hb)
  have k4 : Hid (∀ w, Calls Try.prog 13 #[.int .i64 28, .int .u32 (a : Nat), .int .u32 (b : Nat)] w fun e w' => e = .returned (.tuple #[.bool (!tx), .bool true]) ∧ w = w') := Lib.hid (by subst hte htx; exact takes_any 28 a b ha hb)
  have g1 : ((a : Nat) : Int) + 2147483648 = ((a : Nat) : Int) + 2147483648 := rfl
  have f1 : (((a : Nat) : Int) + 2147483648) % 4294967296 = ((fa : Nat) : Int) := by rw [e_fa]; omega
  have f2 : (((b : Nat) : Int) + 2147483648) % 4294967296 = ((fb : Nat) : Int) := by rw [e_fb]; omega
  have hw : Hid (∀ w, _) := Lib.hid works_any
  change Calls Try.prog 8 #[.int .u32 ((a : Nat) : Int), .int .u32 ((b : Nat) : Int), .int .u32 ((c : Nat) : Int)] W _
  clear g1 hte htx e_fa e_fb l_fa l_fb ha hb hc wa wb wc
  generalize ((oneN (decide (sg a < sg b)) : Nat) : Int) = X1 at *
  generalize ((oneN (decide (sg b < sg a)) : Nat) : Int) = Y1 at *
  generalize ((oneN (decide (sg b < sg c)) : Nat) : Int) = P1 at *
  generalize ((oneN (decide (sg a < sg c)) : Nat) : Int) = Q1 at *
  generalize ((oneN (decide (a < b)) : Nat) : Int) = X2 at *
  generalize ((oneN (decide (b < a)) : Nat) : Int) = Y2 at *
  generalize ((oneN (decide (b < c)) : Nat) : Int) = P2 at *
  generalize ((oneN (decide (a < c)) : Nat) : Int) = Q2 at *
  generalize ((oneN (decide (a = b)) : Nat) : Int) = E at *
  generalize ((a : Nat) : Int) = A_ at *
  generalize ((b : Nat) : Int) = B_ at *
  generalize ((c : Nat) : Int) = C_ at *
  generalize ((fa : Nat) : Int) = FA_ at *
  generalize ((fb : Nat) : Int) = FB_ at *
  replace D1 := Lib.hid D1
  replace D2 := Lib.hid D2
  replace D3 := Lib.hid D3
  replace D4 := Lib.hid D4
  replace bE := Lib.hid bE
  replace bX := Lib.hid bX
  go_enter Try.func8, Try.ntmps8
  go_wp2_with fail
  go_loopw [7] (fun i wr => ∃ p : Nat, p ≤ 2 ∧ i = .int .i64 p ∧ Hid (Below W.heap.size W wr)) (fun i _ => 2 - (intOf i).toNat)
  case atStart => exact ⟨0, by omega, rfl, Lib.hid (Below.refl _ _)⟩
  case round =>
    obtain ⟨p, hp, rfl, hW⟩ := hrel
    have : p = 0 ∨ p = 1 ∨ p = 2 := by omega
    rcases this with rfl | rfl | rfl
    · rcases D1.out with ⟨x1, y1, e1⟩ | ⟨x1, y1, e1⟩ | ⟨x1, y1, e1⟩
      · rcases D3.out x1 with p1 | ⟨p1, q1⟩
        · subst x1 y1 e1 p1
          clear D1 D2 D3 D4 bE bX
          replace hW := Lib.hid (hW.out.alloc hW.out.size (.cells #[.int .i64 13, .int .i64 14] 3))
          go_wp2_with fail
          refine (cX1.out _).mono ?_
          rintro e w ⟨rfl, hh⟩
          replace hW := Lib.hid (hW.out.trans (hh.mono hW.out.size))
          clear hh
          go_wp2_with fail
          refine (cY1.out _).mono ?_
          rintro e w ⟨rfl, hh⟩
          replace hW := Lib.hid (hW.out.trans (hh.mono hW.out.size))
          clear hh
          go_wp2_with fail
          refine (cE.out _).mono ?_
          rintro e w ⟨rfl, hh⟩
          replace hW := Lib.hid (hW.out.trans (hh.mono hW.out.size))
          clear hh
          go_wp2_with fail
          refine (cP1.out _).mono ?_
          rintro e w ⟨rfl, hh⟩
          replace hW := Lib.hid (hW.out.trans (hh.mono hW.out.size))
          clear hh
          go_wp2_with fail
          refine (cL.out _).mono ?_
          rintro e w ⟨rfl, hh⟩
          replace hW := Lib.hid (hW.out.trans (hh.mono hW.out.size))
          clear hh
          go_wp2
          go_roundw
          case rel => exact ⟨1, by omega, rfl, hW⟩
          case measure => simp [intOf]
        · subst x1 y1 e1 p1 q1
          clear D1 D2 D3 D4 bE bX
          replace hW := Lib.hid (hW.out.alloc hW.out.size (.cells #[.int .i64 13, .int .i64 14] 3))
          go_wp2_with fail
          refine (cX1.out _).mono ?_
          rintro e w ⟨rfl, hh⟩
          replace hW := Lib.hid (hW.out.trans (hh.mono hW.out.size))
          clear hh
          go_wp2_with fail
          refine (cY1.out _).mono ?_
          rintro e w ⟨rfl, hh⟩
          replace hW := Lib.hid (hW.out.trans (hh.mono hW.out.size))
          clear hh
          go_wp2_with fail
          refine (cE.out _).mono ?_
          rintro e w ⟨rfl, hh⟩
          replace hW := Lib.hid (hW.out.trans (hh.mono hW.out.size))
          clear hh
          go_wp2_with fail
          refine (cP1.out _).mono ?_
          rintro e w ⟨rfl, hh⟩
          replace hW := Lib.hid (hW.out.trans (hh.mono hW.out.size))
          clear hh
          go_wp2_with fail
          refine (cQ1.out _).mono ?_
          rintro e w ⟨rfl, hh⟩
          replace hW := Lib.hid (hW.out.trans (hh.mono hW.out.size))
          clear hh
          go_wp2_with fail
          refine (cL.out _).mono ?_
          rintro e w ⟨rfl, hh⟩
          replace hW := Lib.hid (hW.out.trans (hh.mono hW.out.size))
          clear hh
          go_wp2
          go_roundw
          case rel => exact ⟨1, by omega, rfl, hW⟩
          case measure => simp [intOf]
      · subst x1 y1 e1
        clear D1 D2 D3 D4 bE bX
        replace hW := Lib.hid (hW.out.alloc hW.out.size (.cells #[.int .i64 13, .int .i64 14] 3))
        go_wp2_with fail
        refine (cX1.out _).mono ?_
        rintro e w ⟨rfl, hh⟩
        replace hW := Lib.hid (hW.out.trans (hh.mono hW.out.size))
        clear hh
        go_wp2_with fail
        refine (cY1.out _).mono ?_
        rintro e w ⟨rfl, hh⟩
        replace hW := Lib.hid (hW.out.trans (hh.mono hW.out.size))
        clear hh
        go_wp2_with fail
        refine (cE.out _).mono ?_
        rintro e w ⟨rfl, hh⟩
        replace hW := Lib.hid (hW.out.trans (hh.mono hW.out.size))
        clear hh
        go_wp2_with fail
        refine (cL.out _).mono ?_
        rintro e w ⟨rfl, hh⟩
        replace hW := Lib.hid (hW.out.trans (hh.mono hW.out.size))
        clear hh
        go_wp2
        go_roundw
        case rel => exact ⟨1, by omega, rfl, hW⟩
        case measure => simp [intOf]
      · subst x1 y1 e1
        clear D1 D2 D3 D4 bE bX
        replace hW := Lib.hid (hW.out.alloc hW.out.size (.cells #[.int .i64 13, .int .i64 14] 3))
        go_wp2_with fail
        refine (cX1.out _).mono ?_
        rintro e w ⟨rfl, hh⟩
        replace hW := Lib.hid (hW.out.trans (hh.mono hW.out.size))
        clear hh
        go_wp2_with fail
        refine (cY1.out _).mono ?_
        rintro e w ⟨rfl, hh⟩
        replace hW := Lib.hid (hW.out.trans (hh.mono hW.out.size))
        clear hh
        go_wp2_with fail
        refine (cE.out _).mono ?_
        rintro e w ⟨rfl, hh⟩
        replace hW := Lib.hid (hW.out.trans (hh.mono hW.out.size))
        clear hh
        go_wp2_with fail
        refine (cL.out _).mono ?_
        rintro e w ⟨rfl, hh⟩
        replace hW := Lib.hid (hW.out.trans (hh.mono hW.out.size))
        clear hh
        go_wp2
        go_roundw
        case rel => exact ⟨1, by omega, rfl, hW⟩
        case measure => simp [intOf]
    · rcases D2.out with ⟨x1, y1, e1⟩ | ⟨x1, y1, e1⟩ | ⟨x1, y1, e1⟩
      · rcases D4.out x1 with p1 | ⟨p1, q1⟩
        · subst x1 y1 e1 p1
          clear D1 D2 D3 D4 bE bX
          replace hW := Lib.hid (hW.out.alloc hW.out.size (.cells #[.int .i64 13, .int .i64 14] 3))
          go_wp2_with fail
          refine (cX2.out _).mono ?_
          rintro e w ⟨rfl, hh⟩
          replace hW := Lib.hid (hW.out.trans (hh.mono hW.out.size))
          clear hh
          go_wp2_with fail
          refine (cY2.out _).mono ?_
          rintro e w ⟨rfl, hh⟩
          replace hW := Lib.hid (hW.out.trans (hh.mono hW.out.size))
          clear hh
          go_wp2_with fail
          refine (cE.out _).mono ?_
          rintro e w ⟨rfl, hh⟩
          replace hW := Lib.hid (hW.out.trans (hh.mono hW.out.size))
          clear hh
          go_wp2_with fail
          refine (cP2.out _).mono ?_
          rintro e w ⟨rfl, hh⟩
          replace hW := Lib.hid (hW.out.trans (hh.mono hW.out.size))
          clear hh
          go_wp2
          go_roundw
          case rel => exact ⟨2, by omega, rfl, hW⟩
          case measure => simp [intOf]
        · subst x1 y1 e1 p1 q1
          clear D1 D2 D3 D4 bE bX
          replace hW := Lib.hid (hW.out.alloc hW.out.size (.cells #[.int .i64 13, .int .i64 14] 3))
          go_wp2_with fail
          refine (cX2.out _).mono ?_
          rintro e w ⟨rfl, hh⟩
          replace hW := Lib.hid (hW.out.trans (hh.mono hW.out.size))
          clear hh
          go_wp2_with fail
          refine (cY2.out _).mono ?_
          rintro e w ⟨rfl, hh⟩
          replace hW := Lib.hid (hW.out.trans (hh.mono hW.out.size))
          clear hh
          go_wp2_with fail
          refine (cE.out _).mono ?_
          rintro e w ⟨rfl, hh⟩
          replace hW := Lib.hid (hW.out.trans (hh.mono hW.out.size))
          clear hh
          go_wp2_with fail
          refine (cP2.out _).mono ?_
          rintro e w ⟨rfl, hh⟩
          replace hW := Lib.hid (hW.out.trans (hh.mono hW.out.size))
          clear hh
          go_wp2_with fail
          refine (cQ2.out _).mono ?_
          rintro e w ⟨rfl, hh⟩
          replace hW := Lib.hid (hW.out.trans (hh.mono hW.out.size))
          clear hh
          go_wp2
          go_roundw
          case rel => exact ⟨2, by omega, rfl, hW⟩
          case measure => simp [intOf]
      · subst x1 y1 e1
        clear D1 D2 D3 D4 bE bX
        replace hW := Lib.hid (hW.out.alloc hW.out.size (.cells #[.int .i64 13, .int .i64 14] 3))
        go_wp2_with fail
        refine (cX2.out _).mono ?_
        rintro e w ⟨rfl, hh⟩
        replace hW := Lib.hid (hW.out.trans (hh.mono hW.out.size))
        clear hh
        go_wp2_with fail
        refine (cY2.out _).mono ?_
        rintro e w ⟨rfl, hh⟩
        replace hW := Lib.hid (hW.out.trans (hh.mono hW.out.size))
        clear hh
        go_wp2_with fail
        refine (cE.out _).mono ?_
        rintro e w ⟨rfl, hh⟩
        replace hW := Lib.hid (hW.out.trans (hh.mono hW.out.size))
        clear hh
        go_wp2
        go_roundw
        case rel => exact ⟨2, by omega, rfl, hW⟩
        case measure => simp [intOf]
      · subst x1 y1 e1
        clear D1 D2 D3 D4 bE bX
        replace hW := Lib.hid (hW.out.alloc hW.out.size (.cells #[.int .i64 13, .int .i64 14] 3))
        go_wp2_with fail
        refine (cX2.out _).mono ?_
        rintro e w ⟨rfl, hh⟩
        replace hW := Lib.hid (hW.out.trans (hh.mono hW.out.size))
        clear hh
        go_wp2_with fail
        refine (cY2.out _).mono ?_
        rintro e w ⟨rfl, hh⟩
        replace hW := Lib.hid (hW.out.trans (hh.mono hW.out.size))
        clear hh
        go_wp2_with fail
        refine (cE.out _).mono ?_
        rintro e w ⟨rfl, hh⟩
        replace hW := Lib.hid (hW.out.trans (hh.mono hW.out.size))
        clear hh
        go_wp2
        go_roundw
        case rel => exact ⟨2, by omega, rfl, hW⟩
        case measure => simp [intOf]
    · cases te <;> cases tx
      · have v1 : E = 0 := bE.out
        have v2 : X1 = 0 := bX.out
        subst v1 v2
        clear D1 D2 D3 D4 bE bX
        go_wp2_with fail
        refine (k1.out _).mono ?_
        rintro e w ⟨rfl, rfl⟩
        go_wp2_with fail
        refine (k2.out _).mono ?_
        rintro e w ⟨rfl, rfl⟩
        go_wp2_with fail
        refine (k3.out _).mono ?_
        rintro e w ⟨rfl, rfl⟩
        go_wp2_with fail
        refine (k4.out _).mono ?_
        rintro e w ⟨rfl, rfl⟩
        go_wp2_with fail
        refine (cE.out _).mono ?_
        rintro e w ⟨rfl, hh⟩
        replace hW := Lib.hid (hW.out.trans (hh.mono hW.out.size))
        clear hh
        go_wp2_with fail
        refine (cX1.out _).mono ?_
        rintro e w ⟨rfl, hh⟩
        replace hW := Lib.hid (hW.out.trans (hh.mono hW.out.size))
        clear hh
        go_wp2_with fail
        refine (hw.out _).mono ?_
        rintro e w ⟨rfl, hh⟩
        replace hW := Lib.hid (hW.out.trans (hh.mono hW.out.size))
        clear hh
        go_wp2
        go_ret
        exact ⟨rfl, hW.out⟩
      · have v1 : E = 0 := bE.out
        have v2 : X1 = 1 := bX.out
        subst v1 v2
        clear D1 D2 D3 D4 bE bX
        go_wp2_with fail
        refine (k1.out _).mono ?_
        rintro e w ⟨rfl, rfl⟩
        go_wp2_with fail
        refine (k2.out _).mono ?_
        rintro e w ⟨rfl, rfl⟩
        go_wp2_with fail
        refine (k3.out _).mono ?_
        rintro e w ⟨rfl, rfl⟩
        go_wp2_with fail
        refine (k4.out _).mono ?_
        rintro e w ⟨rfl, rfl⟩
        go_wp2_with fail
        refine (cE.out _).mono ?_
        rintro e w ⟨rfl, hh⟩
        replace hW := Lib.hid (hW.out.trans (hh.mono hW.out.size))
        clear hh
        go_wp2_with fail
        refine (cX1.out _).mono ?_
        rintro e w ⟨rfl, hh⟩
        replace hW := Lib.hid (hW.out.trans (hh.mono hW.out.size))
        clear hh
        go_wp2_with fail
        refine (hw.out _).mono ?_
        rintro e w ⟨rfl, hh⟩
        replace hW := Lib.hid (hW.out.trans (hh.mono hW.out.size))
        clear hh
        go_wp2
        go_ret
        exact ⟨rfl, hW.out⟩
      · have v1 : E = 1 := bE.out
        have v2 : X1 = 0 := bX.out
        subst v1 v2
        clear D1 D2 D3 D4 bE bX
        go_wp2_with fail
        refine (k1.out _).mono ?_
        rintro e w ⟨rfl, rfl⟩
        go_wp2_with fail
        refine (k2.out _).mono ?_
        rintro e w ⟨rfl, rfl⟩
        go_wp2_with fail
        refine (k3.out _).mono ?_
        rintro e w ⟨rfl, rfl⟩
        go_wp2_with fail
        refine (k4.out _).mono ?_
        rintro e w ⟨rfl, rfl⟩
        go_wp2_with fail
        refine (cE.out _).mono ?_
        rintro e w ⟨rfl, hh⟩
        replace hW := Lib.hid (hW.out.trans (hh.mono hW.out.size))
        clear hh
        go_wp2_with fail
        refine (cX1.out _).mono ?_
        rintro e w ⟨rfl, hh⟩
        replace hW := Lib.hid (hW.out.trans (hh.mono hW.out.size))
        clear hh
        go_wp2_with fail
        refine (hw.out _).mono ?_
        rintro e w ⟨rfl, hh⟩
        replace hW := Lib.hid (hW.out.trans (hh.mono hW.out.size))
        clear hh
        go_wp2
        go_ret
        exact ⟨rfl, hW.out⟩
      · have v1 : E = 1 := bE.out
        have v2 : X1 = 1 := bX.out
        subst v1 v2
        clear D1 D2 D3 D4 bE bX
        go_wp2_with fail
        refine (k1.out _).mono ?_
        rintro e w ⟨rfl, rfl⟩
        go_wp2_with fail
        refine (k2.out _).mono ?_
        rintro e w ⟨rfl, rfl⟩
        go_wp2_with fail
        refine (k3.out _).mono ?_
        rintro e w ⟨rfl, rfl⟩
        go_wp2_with fail
        refine (k4.out _).mono ?_
        rintro e w ⟨rfl, rfl⟩
        go_wp2_with fail
        refine (cE.out _).mono ?_
        rintro e w ⟨rfl, hh⟩
        replace hW := Lib.hid (hW.out.trans (hh.mono hW.out.size))
        clear hh
        go_wp2_with fail
        refine (cX1.out _).mono ?_
        rintro e w ⟨rfl, hh⟩
        replace hW := Lib.hid (hW.out.trans (hh.mono hW.out.size))
        clear hh
        go_wp2_with fail
        refine (hw.out _).mono ?_
        rintro e w ⟨rfl, hh⟩
        replace hW := Lib.hid (hW.out.trans (hh.mono hW.out.size))
        clear hh
        go_wp2
        go_ret
        exact ⟨rfl, hW.out⟩
theorem own : ownKnob Try.prog.godebug = none := by kernel_rfl
theorem laidOut : laidOutB Try.prog = true := by kernel_rfl
set_option maxRecDepth 100000 in
theorem lifted (os : Os) (started : os.Started) (H : Type) (enc : TypeId × Value → H) :
    ReturnsInHanded {} Try.checked os 8 .any (Rows.aluOrderSpec.pre6 enc Try.prog Try.f8 Rows.aluOrderRow.domain false) (Rows.aluOrderSpec.post enc Try.prog Try.f8 false true false false) := by
  refine returnsInHanded_of_change (C := Try.checked) own started (by kernel_rfl) Try.func8
    (ChangeSpec.witness6 (enc := enc) (C := Try.checked) false ⟨#[], #[.int .u32 0, .int .u32 0, .int .u32 0], []⟩ 8 (by kernel_rfl) (by kernel_rfl) (by kernel_rfl) (by kernel_rfl)) ?_
  intro W base args ds gs before hval0 hW hcnd hsz
  have hval : ∀ (j : Nat) t v, Try.f8.params[j]? = some t → args[j]? = some v → Value.okWide Try.prog W .any base t v := hval0
  have hW' := hW
  obtain ⟨p, q, hA0, hV, rfl, hfz, hnd⟩ := hW
  have hA : DataW.TrodAll enc Try.prog W 0 (fun _ => true) true Try.f8.params.toList args.toList ds p := hA0
  rw [Try.params8] at hA hval
  obtain ⟨v0, vs0, d0, ds0, p0, q0, hargs, rfl, rfl, h0, r0⟩ := trodAll_cons hA
  obtain ⟨v1, vs1, d1, ds1, p1, q1, rfl, rfl, rfl, h1, r1⟩ := trodAll_cons r0
  obtain ⟨v2, vs2, d2, ds2, p2, q2, rfl, rfl, rfl, h2, r2⟩ := trodAll_cons r1
  obtain ⟨rfl, rfl, rfl⟩ := trodAll_nil r2
  obtain rfl : args = #[v0, v1, v2] := by cases args; simp_all
  obtain ⟨rfl, rfl⟩ := trodVars_none hV
  have k0 := h0
  have lt0 : ∀ x ∈ p0, x.block < W.heap.size := by obtain ⟨m, hm⟩ := k0; exact DataW.trod_lt m _ _ _ hm
  have k1 := h1
  have lt1 : ∀ x ∈ p1, x.block < W.heap.size := by obtain ⟨m, hm⟩ := k1; exact DataW.trod_lt m _ _ _ hm
  have k2 := h2
  have lt2 : ∀ x ∈ p2, x.block < W.heap.size := by obtain ⟨m, hm⟩ := k2; exact DataW.trod_lt m _ _ _ hm
  obtain ⟨a, rfl, rfl, rfl, wa⟩ := open_int Try.underlying22 (hval 0 22 v0 rfl rfl) h0
  obtain ⟨b, rfl, rfl, rfl, wb⟩ := open_int Try.underlying22 (hval 1 22 v1 rfl rfl) h1
  obtain ⟨c, rfl, rfl, rfl, wc⟩ := open_int Try.underlying22 (hval 2 22 v2 rfl rfl) h2
  clear hA0 hval0
  refine (walk a wa b wb c wc W).mono fun e W' ⟨he, bel⟩ => ?_
  subst he
  exact ⟨_, rfl, _, _, _, [], _, [], hW', trodAll_mk1 (shut_bool Try.underlying4 _), (trodAll_cons_mk (Below.trod laidOut (by kernel_rfl) (of_decide_eq_true (by kernel_rfl)) k0 bel lt0) (trodAll_cons_mk (Below.trod laidOut (by kernel_rfl) (of_decide_eq_true (by kernel_rfl)) k1 bel lt1) (trodAll_cons_mk (Below.trod laidOut (by kernel_rfl) (of_decide_eq_true (by kernel_rfl)) k2 bel lt2) trodAll_mk0))), rfl, bel.frame _, fun h => by cases h⟩
theorem over : Rows.aluOrderRow.holds Try.pinned (OpenSpec.ofChange Rows.aluOrderSpec) :=
  OpenClaim.holds_of_wide 8 Try.f8 rfl rfl rfl rfl rfl rfl rfl ⟨rfl, rfl, rfl, rfl, rfl⟩ rfl rfl rfl rfl rfl (by kernel_rfl) Try.func8 (by kernel_rfl)
    (of_decide_eq_true (by kernel_rfl)) (by unfold Func.isWrapper; first | (rw [if_pos (by decide +kernel)]; kernel_rfl) | (rw [if_neg (by decide +kernel)]; exact ⟨rfl, rfl⟩))
    (fun os started H enc _ => lifted os started H enc)
/-- The given statement. -/
theorem proved : Rows.AluOrderSaid := over
end Go.Proofs.Ytjkeflldbmiohaa.order
