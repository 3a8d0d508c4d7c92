/- Contracts of the document's layer sizes; the laws' own works. No statement is proved here. -/
import Derived.Test.YtchonkkflklckaaSzA
namespace Go.Proofs.Ytchonkkflklckaa
set_option maxRecDepth 100000
open Go.RowKit
set_option linter.unusedVariables false
theorem rClass_any (s : Nat) (w : World) (hs : s < 4294967296) : Calls Try.prog 11 #[.int .u32 s] w fun e w' => e = .returned (.tuple #[.int .i64 (clsN s : Nat), .bool (clsB s)]) ∧ ∃ n, w.drewN n = w' := by
  have hS := Lib.hid (fun (j : Nat) (hj : j < 5) (w : World) => (show Calls Try.prog 13 #[.int .i64 j] w fun e w' => e = .returned (.int .u32 (sltN j : Nat)) ∧ w = w' from by
    have := rSlot_any j w
    rwa [slt_int hj] at this))
  by_cases h0 : s = 0
  · subst h0
    clear hS
    go_enter Try.func11, Try.ntmps11
    go_wp2_with fail
    go_loopw [4] (fun i wr => i = .int .i64 0 ∧ w = wr) (fun i _ => 0)
    case atStart => exact ⟨rfl, rfl⟩
    case round =>
      obtain ⟨rfl, rfl⟩ := hrel
      go_wp2_with fail
      go_ret2
      exact ⟨rfl, 0, rfl⟩
  have hI := Lib.hid (fun (j : Nat) (hj : j < 5) (h : s ≤ sltN j) (hl : ∀ i, i < j → sltN i < s) => cls_is (by omega) hj h hl)
  have hN := Lib.hid (cls_no (s := s))
  have s0 : (0 : Int) < (s : Int) := by omega
  clear hs
  generalize clsN s = cN at *
  generalize clsB s = cB at *
  clear h0
  go_enter Try.func11, Try.ntmps11
  go_wp2_with fail
  go_loopw [4] (fun i wr => ∃ j n : Nat, j ≤ 5 ∧ i = .int .i64 j ∧ (∀ k, k < j → sltN k < s) ∧ w.drewN n = wr) (fun i _ => 5 - (intOf i).toNat)
  case atStart => exact ⟨0, 0, by omega, rfl, fun j h => absurd h (by omega), rfl⟩
  case round =>
    obtain ⟨j, n0, hj, rfl, hno, rfl⟩ := hrel
    replace hno := Lib.hid hno
    by_cases hlt : j < 5
    · have jl : (j : Int) < 5 := by omega
      go_wp2_with fail
      refine (hS.out j hlt _).mono ?_
      rintro e w2 ⟨rfl, rfl⟩
      by_cases hs : s ≤ sltN j
      · obtain ⟨e1, e2⟩ := hI.out j hlt hs hno.out
        have hd : ((s : Int)) ≤ ((sltN j : Nat) : Int) := by omega
        subst e1
        subst e2
        clear hs
        go_wp2_with fail
        go_ret2
        exact ⟨rfl, _, rfl⟩
      · have hd : ((sltN j : Nat) : Int) < ((s : Int)) := by omega
        replace hs := Lib.hid hs
        go_wp2_with fail
        go_roundw
        case rel => exact ⟨j + 1, n0, by omega, by go_num, fun k hk => by
          rcases Nat.lt_or_ge k j with h' | h'
          · exact hno.out k h'
          · obtain rfl : k = j := by omega
            have := hs.out
            omega, by first | rfl | trivial⟩
        case measure => simp [intOf]; omega
    · obtain rfl : j = 5 := by omega
      obtain ⟨e1, e2⟩ := hN.out (hno.out 4 (by omega))
      subst e1
      subst e2
      go_wp2_with fail
      go_ret2
      exact ⟨rfl, _, rfl⟩
set_option maxHeartbeats 4000000 in
theorem rPadded_any (s h : Nat) (w : World) (hs : s < 4294967296) (hh : h < 4294967296) : Calls Try.prog 17 #[.int .u32 s, .int .u32 h] w fun e w' => e = .returned (.tuple #[.int .u32 (padP s h : Nat), .int .u32 (padA s h : Nat), .int .i64 (padE s h)]) ∧ ∃ n, w.drewN n = w' := by
  by_cases h0 : s = 0
  · subst h0
    obtain ⟨e1, e2, e3⟩ := pad_no (s := 0) (h := h) (.inl sz_zero)
    rw [e1, e2, e3]
    clear e1 e2 e3
    go_enter Try.func17, Try.ntmps17
    go_wp2_with fail
    go_ret3
    exact ⟨rfl, 0, rfl⟩
  have hC := Lib.hid (fun w => rClass_any s w hs)
  have hS := Lib.hid (fun (j : Nat) (hj : j < 5) (w : World) => (show Calls Try.prog 13 #[.int .i64 j] w fun e w' => e = .returned (.int .u32 (sltN j : Nat)) ∧ w = w' from by
    have := rSlot_any j w
    rwa [slt_int hj] at this))
  have z0 : ((s : Int) == 0) = false := by simp; omega
  have s1 : (s : Int) < 4294967296 := by omega
  cases hc : clsB s
  · by_cases hw : 4294967296 ≤ up 256 s
    · have eP : szP s = 0 := by unfold szP; rw [hc]; simp only [Bool.false_eq_true, if_false]; rw [if_pos hw]
      obtain ⟨e1, e2, e3⟩ := pad_no (s := s) (h := h) (.inl eP)
      rw [e1, e2, e3]
      rw [hc] at hC
      have en : ((s : Int) + 256 - 1) / 256 * 256 = ((up 256 s : Nat) : Int) := by rw [up256]; omega
      have hw' : (4294967296 : Int) ≤ ((up 256 s : Nat) : Int) := by omega
      have hw3 : up 256 s ≤ 4294967296 := by rw [up256]; omega
      have hw2 : ((up 256 s : Nat) : Int) ≤ 4294967296 := by omega
      generalize up 256 s = U at *
      generalize clsN s = cn at *
      clear e1 e2 e3 eP hw hc h0
      go_enter Try.func17, Try.ntmps17
      go_wp2_with fail
      refine (hC.out _).mono ?_
      rintro e w1 ⟨rfl, n1, rfl⟩
      go_wp2_with fail
      go_ret3
      exact ⟨rfl, _, rfl⟩
    · have hu : up 256 s < 4294967296 := by omega
      have eP : szP s = pdP (up 256 s) := by unfold szP; rw [hc]; simp only [Bool.false_eq_true, if_false]; rw [if_neg hw]
      have eA : szA s = max (pdA (up 256 s)) 256 := by unfold szA; rw [hc]; rfl
      have hz : pdP (up 256 s) = 0 ↔ pdA (up 256 s) = 0 := by
        have hb := (big_of hc h0).2
        have g := rdT_ge (n := up 256 s) (by omega)
        have p := pow_pos2 (enE 0 (up 256 s))
        unfold pdP pdA
        by_cases k : rdT 0 (up 256 s) = 4294967296
        · rw [if_pos k, if_pos k]
        · rw [if_neg k, if_neg k]; omega
      have hP := Lib.hid (fun w => rPad_any (up 256 s) w hu)
      rw [hc] at hC
      have en : ((s : Int) + 256 - 1) / 256 * 256 = ((up 256 s : Nat) : Int) := by rw [up256]; omega
      have hw' : ((up 256 s : Nat) : Int) < 4294967296 := by omega
      have hr : (pdA (up 256 s) = 0 ∨ h < pdP (up 256 s)) ∧ padP s h = 0 ∧ padA s h = 0 ∧ padE s h = 6 ∨ pdA (up 256 s) ≠ 0 ∧ pdP (up 256 s) ≤ h ∧ padP s h = pdP (up 256 s) ∧ padA s h = max (pdA (up 256 s)) 256 ∧ padE s h = 0 := by
        by_cases k : szP s ≠ 0 ∧ szP s ≤ h
        · have := pad_yes k.1 k.2
          rw [eP] at k this
          rw [eA] at this
          exact .inr ⟨fun q => k.1 (hz.2 q), k.2, this⟩
        · have := pad_no (s := s) (h := h) (by omega)
          rw [eP] at k
          exact .inl ⟨by have := hz; omega, this⟩
      have u0 : 0 ≤ ((up 256 s : Nat) : Int) := by omega
      have s0 : 0 ≤ (s : Int) := by omega
      clear hs hh hu
      generalize ((up 256 s : Nat) : Int) = Ui at *
      generalize (s : Int) = Si at *
      generalize up 256 s = U at *
      generalize clsN s = cn at *
      generalize pdP U = X at *
      generalize pdA U = Y at *
      generalize padP s h = oP at *
      generalize padA s h = oA at *
      generalize padE s h = oE at *
      clear eP eA hw hc hz h0
      obtain ⟨Z, hZ, hZ2⟩ : ∃ Z, max Y 256 = Z ∧ (256 ≤ (Y : Int) ∧ Z = Y ∨ ¬ 256 ≤ (Y : Int) ∧ Z = 256) := ⟨_, rfl, by omega⟩
      rw [hZ] at hr
      clear hZ
      go_enter Try.func17, Try.ntmps17
      go_wp2_with fail
      refine (hC.out _).mono ?_
      rintro e w1 ⟨rfl, n1, rfl⟩
      go_wp2_with fail
      refine (hP.out _).mono ?_
      rintro e w2 ⟨rfl, n2, rfl⟩
      rcases hr with ⟨k, rfl, rfl, rfl⟩ | ⟨k1, k2, q1, q2, rfl⟩
      · rcases k with rfl | k
        · clear hZ2
          go_wp2_with fail
          go_ret3
          exact ⟨rfl, _, rfl⟩
        · by_cases y0 : Y = 0
          · subst y0
            clear hZ2
            go_wp2_with fail
            go_ret3
            exact ⟨rfl, _, rfl⟩
          · have k' : (h : Int) < (X : Int) := by omega
            have y1 : ((Y : Int) == 0) = false := by simp; omega
            clear k hZ2
            go_wp2_with fail
            go_ret3
            exact ⟨rfl, _, rfl⟩
      · have k' : (X : Int) ≤ (h : Int) := by omega
        have kd : decide (h < X) = false := decide_eq_false (by omega)
        have kn : ¬ h < X := by omega
        have y1 : ((Y : Int) == 0) = false := by simp; omega
        rcases hZ2 with ⟨a, rfl⟩ | ⟨a, rfl⟩
        · subst q1
          subst q2
          go_wp2_with fail
          go_ret3
          exact ⟨rfl, _, rfl⟩
        · subst q1
          subst q2
          go_wp2_with fail
          go_ret3
          exact ⟨rfl, _, rfl⟩
  · rw [hc] at hC
    have hg := cls_ge hc
    have eP : szP s = sltN (clsN s) := by unfold szP; rw [hc]; rfl
    have eA : szA s = sltN (clsN s) := by unfold szA; rw [hc]; rfl
    have hr : (h < sltN (clsN s)) ∧ padP s h = 0 ∧ padA s h = 0 ∧ padE s h = 6 ∨ sltN (clsN s) ≤ h ∧ padP s h = sltN (clsN s) ∧ padA s h = sltN (clsN s) ∧ padE s h = 0 := by
      rcases Nat.lt_or_ge h (sltN (clsN s)) with k | k
      · exact .inl ⟨k, pad_no (by omega)⟩
      · have := pad_yes (s := s) (h := h) (by omega) (by omega)
        rw [eP, eA] at this
        exact .inr ⟨k, this⟩
    have l5 := hg.2.2.2
    have hS' := Lib.hid (hS.out (clsN s) l5)
    clear hS eP eA hg l5 hc h0 s1 hs hh
    generalize hX : sltN (clsN s) = X at *
    clear hX
    generalize clsN s = cn at *
    generalize padP s h = oP at *
    generalize padA s h = oA at *
    generalize padE s h = oE at *
    go_enter Try.func17, Try.ntmps17
    go_wp2_with fail
    refine (hC.out _).mono ?_
    rintro e w1 ⟨rfl, n1, rfl⟩
    go_wp2_with fail
    refine (hS'.out _).mono ?_
    rintro e w2 ⟨rfl, rfl⟩
    rcases hr with ⟨k, rfl, rfl, rfl⟩ | ⟨k2, q1, q2, rfl⟩
    · have k' : (h : Int) < (X : Int) := by omega
      clear k
      go_wp2_with fail
      go_ret3
      exact ⟨rfl, _, rfl⟩
    · have k' : (X : Int) ≤ (h : Int) := by omega
      have kd : decide (h < X) = false := decide_eq_false (by omega)
      have kn : ¬ h < X := by omega
      subst q1
      subst q2
      go_wp2_with fail
      refine (hS'.out _).mono ?_
      rintro e w2 ⟨rfl, rfl⟩
      go_wp2_with fail
      refine (hS'.out _).mono ?_
      rintro e w2 ⟨rfl, rfl⟩
      go_wp2_with fail
      go_ret3
      exact ⟨rfl, _, rfl⟩
theorem szworks_any (w : World) : Calls Try.prog 15 #[] w fun e w' => e = .returned (.bool true) ∧ Below w.heap.size w w' := by
  have h1 := Lib.hid (fun w => pPadded_any 1 4096 w (by decide) (by decide))
  have h2 := Lib.hid (fun w => pPadded_any 257 4096 w (by decide) (by decide))
  rw [show padP 1 4096 = 16 from by decide +kernel, show padA 1 4096 = 16 from by decide +kernel, show padE 1 4096 = 0 from by decide +kernel] at h1
  rw [show padP 257 4096 = 512 from by decide +kernel, show padA 257 4096 = 256 from by decide +kernel, show padE 257 4096 = 0 from by decide +kernel] at h2
  go_enter Try.func15, Try.ntmps15
  go_wp2_with fail
  refine (h1.out _).mono ?_
  rintro e w1 ⟨rfl, g⟩
  have B1 := Lib.hid g
  clear g
  go_wp2_with fail
  refine (h2.out _).mono ?_
  rintro e w2 ⟨rfl, g⟩
  have B2 := Lib.hid (B1.out.trans (g.mono B1.out.size))
  clear g
  go_wp2_with fail
  go_ret
  exact ⟨rfl, B2.out⟩
end Go.Proofs.Ytchonkkflklckaa
