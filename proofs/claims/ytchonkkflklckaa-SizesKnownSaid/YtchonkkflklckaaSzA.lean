/- Contracts of layer sizes. No statement is proved here. -/
import Derived.Test.YtchonkkflklckaaSzM
import Derived.Test.YtchonkkflklckaaBndE
import Derived.Test.YtchonkkflklckaaBndR
import Derived.WalkMore
namespace Go.Proofs.Ytchonkkflklckaa
set_option maxRecDepth 100000
open Go.RowKit
set_option linter.unusedVariables false
def sltI (c : Int) : Nat := if 0 ≤ c ∧ c < 5 then 16 * 2 ^ c.toNat else 0
def pgN (s : Nat) : Nat := (s + 255) / 256
theorem pClasses_any (w : World) : Calls Try.prog 14 #[] w fun e w' => e = .returned (.int .i64 5) ∧ w = w' := by
  go_enter Try.func14, Try.ntmps14
  go_wp2_with fail
  go_ret
  exact ⟨rfl, rfl⟩
theorem five {c : Int} (h : 0 ≤ c ∧ c < 5) : c = 0 ∨ c = 1 ∨ c = 2 ∨ c = 3 ∨ c = 4 := by omega
theorem pSlot_any (c : Int) (w : World) : Calls Try.prog 12 #[.int .i64 c] w fun e w' => e = .returned (.int .u32 (sltI c : Nat)) ∧ w = w' := by
  by_cases h : 0 ≤ c ∧ c < 5
  · rcases five h with rfl | rfl | rfl | rfl | rfl
    all_goals
      go_enter Try.func12, Try.ntmps12
      go_wp2_with fail
      go_ret
      exact ⟨rfl, rfl⟩
  · have e : sltI c = 0 := if_neg h
    rw [e]
    by_cases h0 : c < 0
    · clear h e
      go_enter Try.func12, Try.ntmps12
      go_wp2_with fail
      go_ret
      exact ⟨rfl, rfl⟩
    · have h5 : 5 ≤ c := by omega
      clear h e
      go_enter Try.func12, Try.ntmps12
      go_wp2_with fail
      go_ret
      exact ⟨rfl, rfl⟩
theorem rSlot_any (c : Int) (w : World) : Calls Try.prog 13 #[.int .i64 c] w fun e w' => e = .returned (.int .u32 (sltI c : Nat)) ∧ w = w' := by
  by_cases h : 0 ≤ c ∧ c < 5
  · rcases five h with rfl | rfl | rfl | rfl | rfl
    all_goals
      go_enter Try.func13, Try.ntmps13
      go_wp2_with fail
      go_ret
      exact ⟨rfl, rfl⟩
  · have e : sltI c = 0 := if_neg h
    rw [e]
    by_cases h0 : c < 0
    · clear h e
      go_enter Try.func13, Try.ntmps13
      go_wp2_with fail
      go_ret
      exact ⟨rfl, rfl⟩
    · have h5 : 5 ≤ c := by omega
      clear h e
      go_enter Try.func13, Try.ntmps13
      go_wp2_with fail
      go_ret
      exact ⟨rfl, rfl⟩
theorem pPages_any (s : Nat) (w : World) (hs : s < 4294967296) : Calls Try.prog 18 #[.int .u32 s] w fun e w' => e = .returned (.int .i64 (pgN s : Nat)) ∧ w = w' := by
  have e1 : ((pgN s : Nat) : Int) = ((s : Int) + 256 - 1) / 256 := by unfold pgN; omega
  rw [e1]
  go_enter Try.func18, Try.ntmps18
  go_wp2_with fail
  go_ret
  exact ⟨rfl, rfl⟩
theorem rPages_any (s : Nat) (w : World) (hs : s < 4294967296) : Calls Try.prog 19 #[.int .u32 s] w fun e w' => e = .returned (.int .i64 (pgN s : Nat)) ∧ w = w' := by
  have e1 : ((pgN s : Nat) : Int) = ((s : Int) + 256 - 1) / 256 := by unfold pgN; omega
  rw [e1]
  go_enter Try.func19, Try.ntmps19
  go_wp2_with fail
  go_ret
  exact ⟨rfl, rfl⟩
theorem slt_int {j : Nat} (h : j < 5) : sltI (j : Int) = sltN j := by
  unfold sltI sltN
  rw [if_pos (by omega), if_pos h, Int.toNat_natCast]
theorem cls_is {s j : Nat} (h0 : 0 < s) (hj : j < 5) (h : s ≤ sltN j) (hl : ∀ i, i < j → sltN i < s) : clsN s = j ∧ clsB s = true := by
  have e0 : sltN 0 = 16 := rfl
  have e1 : sltN 1 = 32 := rfl
  have e2 : sltN 2 = 64 := rfl
  have e3 : sltN 3 = 128 := rfl
  have e4 : sltN 4 = 256 := rfl
  have hb : s ≤ 256 := by
    rcases (show j = 0 ∨ j = 1 ∨ j = 2 ∨ j = 3 ∨ j = 4 by omega) with rfl | rfl | rfl | rfl | rfl <;> omega
  refine ⟨?_, decide_eq_true ⟨h0, hb⟩⟩
  unfold clsN
  rcases (show j = 0 ∨ j = 1 ∨ j = 2 ∨ j = 3 ∨ j = 4 by omega) with rfl | rfl | rfl | rfl | rfl
  · rw [if_pos (by omega)]
  · have := hl 0 (by omega)
    rw [if_neg (by omega), if_pos (by omega)]
  · have := hl 1 (by omega)
    rw [if_neg (by omega), if_neg (by omega), if_pos (by omega)]
  · have := hl 2 (by omega)
    rw [if_neg (by omega), if_neg (by omega), if_neg (by omega), if_pos (by omega)]
  · have := hl 3 (by omega)
    rw [if_neg (by omega), if_neg (by omega), if_neg (by omega), if_neg (by omega), if_pos (by omega)]
theorem cls_no {s : Nat} (h : sltN 4 < s) : clsN s = 0 ∧ clsB s = false := by
  have e4 : sltN 4 = 256 := rfl
  unfold clsN
  exact ⟨by rw [if_neg (by omega), if_neg (by omega), if_neg (by omega), if_neg (by omega), if_neg (by omega)], decide_eq_false (by omega)⟩
theorem fits_any (sl s q : Nat) (w : World) (h : w.cell? ⟨q, 0, none⟩ = some (.int .u32 s)) : Calls Try.prog 22 #[.int .u32 sl, .pointer (some ⟨q, 0, none⟩)] w fun e w' => e = .returned (.bool (decide (s ≤ sl))) ∧ ∃ n, w.drewN n = w' := by
  go_enter Try.func22, Try.ntmps22
  go_wp2_with fail
  go_ret
  exact ⟨ret_bool (by simp), ⟨0, rfl⟩⟩
theorem least_any (s q : Nat) (h0 : 0 < s) (w : World) (h : w.cell? ⟨q, 0, none⟩ = some (.int .u32 s)) : Calls Try.prog 21 #[.func (Fn.func 22) #[] #[.pointer (some ⟨q, 0, none⟩)]] w fun e w' => e = .returned (.tuple #[.int .i64 (clsN s : Nat), .bool (clsB s)]) ∧ ∃ n, w.drewN n = w' := by
  have hC := Lib.hid pClasses_any
  have hS := Lib.hid (fun (j : Nat) (hj : j < 5) (w : World) => (show Calls Try.prog 12 #[.int .i64 j] w fun e w' => e = .returned (.int .u32 (sltN j : Nat)) ∧ w = w' from by
    have := pSlot_any j w
    rwa [slt_int hj] at this))
  have hF := Lib.hid (fun (sl : Nat) (w : World) (h : w.cell? ⟨q, 0, none⟩ = some (.int .u32 s)) => fits_any sl s q w h)
  have hI := Lib.hid (fun (j : Nat) (hj : j < 5) (h : s ≤ sltN j) (hl : ∀ i, i < j → sltN i < s) => cls_is h0 hj h hl)
  have hN := Lib.hid (cls_no (s := s))
  replace h := Lib.hid h
  generalize clsN s = cN at *
  generalize clsB s = cB at *
  clear h0
  go_enter Try.func21, Try.ntmps21
  go_wp2_with fail
  refine (hC.out _).mono ?_
  rintro e w1 ⟨rfl, rfl⟩
  go_wp2_with fail
  go_loopw [6] (fun i wr => ∃ j n : Nat, j ≤ 5 ∧ i = .int .i64 j ∧ (∀ k, k < j → sltN k < s) ∧ w.drewN n = wr) (fun i _ => 5 - (intOf i).toNat)
  case atStart => exact ⟨0, 0, by omega, rfl, fun j h => absurd h (by omega), rfl⟩
  case round =>
    obtain ⟨j, n0, hj, rfl, hno, rfl⟩ := hrel
    replace hno := Lib.hid hno
    by_cases hlt : j < 5
    · have jl : (j : Int) < 5 := by omega
      go_wp2_with fail
      refine (hS.out j hlt _).mono ?_
      rintro e w2 ⟨rfl, rfl⟩
      go_wp2_with fail
      refine (hF.out (sltN j) (w.drewN n0) h.out).mono ?_
      rintro e w2 ⟨rfl, n1, rfl⟩
      by_cases hs : s ≤ sltN j
      · obtain ⟨e1, e2⟩ := hI.out j hlt hs hno.out
        have hd : decide (s ≤ sltN j) = true := decide_eq_true hs
        subst e1
        subst e2
        clear hs
        go_wp2_with fail
        go_ret2
        exact ⟨rfl, _, rfl⟩
      · have hd : decide (s ≤ sltN j) = false := decide_eq_false hs
        replace hs := Lib.hid hs
        go_wp2_with fail
        go_roundw
        case rel => exact ⟨j + 1, n0 + n1, by omega, by go_num, fun k hk => by
          rcases Nat.lt_or_ge k j with h' | h'
          · exact hno.out k h'
          · obtain rfl : k = j := by omega
            have := hs.out
            omega, by first | rfl | trivial⟩
        case measure => simp [intOf]; omega
    · obtain rfl : j = 5 := by omega
      obtain ⟨e1, e2⟩ := hN.out (hno.out 4 (by omega))
      subst e1
      subst e2
      go_wp2_with fail
      go_ret2
      exact ⟨rfl, _, rfl⟩
theorem pClass_any (s : Nat) (w : World) (hs : s < 4294967296) : Calls Try.prog 10 #[.int .u32 s] w fun e w' => e = .returned (.tuple #[.int .i64 (clsN s : Nat), .bool (clsB s)]) ∧ Below w.heap.size w w' := by
  have hc : (w.alloc (.cells #[.int .u32 s] 22)).cell? ⟨w.heap.size, 0, none⟩ = some (.int .u32 s) := by rw [World.cell?_alloc_at (hn := rfl)]; rfl
  have hb := Lib.hid ((Below.refl w.heap.size w).alloc (Nat.le_refl _) (.cells #[.int .u32 s] 22))
  have hL := Lib.hid (fun h0 w1 h => least_any s w.heap.size h0 w1 h)
  by_cases h0 : s = 0
  · subst h0
    clear hL
    go_enter Try.func10, Try.ntmps10
    go_upto_region 1 with (fail)
    generalize (w.alloc (.cells #[.int .u32 _] 22)) = w1 at hc hb ⊢
    go_wp2_with fail
    go_ret2
    exact ⟨rfl, hb.out⟩
  · have h1 : ((s : Int) == 0) = false := by simp; omega
    replace hL := Lib.hid (hL.out (by omega))
    generalize clsN s = x at *
    generalize clsB s = y at *
    clear h0
    go_enter Try.func10, Try.ntmps10
    go_upto_region 1 with (fail)
    generalize (w.alloc (.cells #[.int .u32 _] 22)) = w1 at hc hb ⊢
    go_wp2_with fail
    refine (hL.out w1 hc).mono ?_
    rintro e w2 ⟨rfl, n, rfl⟩
    go_wp2_with fail
    go_ret2
    exact ⟨rfl, below_drewN hb.out n⟩
/-- What Padded answers, of what was reckoned. -/
theorem pad_no {s h : Nat} (k : szP s = 0 ∨ h < szP s) : padP s h = 0 ∧ padA s h = 0 ∧ padE s h = 6 := by
  have : szO s h = false := decide_eq_false (by omega)
  unfold padP padA padE
  rw [this]
  exact ⟨rfl, rfl, rfl⟩
theorem pad_yes {s h : Nat} (k : szP s ≠ 0) (k2 : szP s ≤ h) : padP s h = szP s ∧ padA s h = szA s ∧ padE s h = 0 := by
  have : szO s h = true := decide_eq_true ⟨k, k2⟩
  unfold padP padA padE
  rw [this]
  exact ⟨rfl, rfl, rfl⟩
theorem szP_lt (s : Nat) : szP s < 4294967296 := by
  by_cases h : szP s = 0
  · omega
  · exact (sz_facts h).2.2.2.2.1
theorem szA_lt (s : Nat) : szA s < 4294967296 := by
  unfold szA
  cases hc : clsB s
  · simp only [Bool.false_eq_true, if_false]
    have : pdA (up 256 s) ≤ 2 ^ 21 := by
      unfold pdA
      split
      · omega
      · refine Nat.pow_le_pow_right (by decide) ?_
        unfold enE
        split
        · rename_i h
          have h' := of_decide_eq_true h
          exact expo_le 0 h'.2
        · omega
    have : (2 : Nat) ^ 21 = 2097152 := by decide
    omega
  · have := cls_ge hc
    simp only [if_true]; omega
set_option maxHeartbeats 4000000 in
theorem pPadded_any (s h : Nat) (w : World) (hs : s < 4294967296) (hh : h < 4294967296) : Calls Try.prog 16 #[.int .u32 s, .int .u32 h] w fun e w' => e = .returned (.tuple #[.int .u32 (padP s h : Nat), .int .u32 (padA s h : Nat), .int .i64 (padE s h)]) ∧ Below w.heap.size w w' := by
  have hC := Lib.hid (fun p w (hp : p < 4294967296) => pClass_any p w hp)
  have hP := Lib.hid (fun p w (hp : p < 4294967296) => Pad_any p w hp)
  have hS := Lib.hid (fun (j : Nat) (hj : j < 5) (w : World) => (show Calls Try.prog 12 #[.int .i64 j] w fun e w' => e = .returned (.int .u32 (sltN j : Nat)) ∧ w = w' from by
    have := pSlot_any j w
    rwa [slt_int hj] at this))
  have hend : ∀ (X Y : Nat), X = szP s → (X ≠ 0 → Y = szA s) → ((X = 0 ∨ h < X) ∧ padP s h = 0 ∧ padA s h = 0 ∧ padE s h = 6) ∨ (X ≠ 0 ∧ X ≤ h ∧ padP s h = X ∧ padA s h = Y ∧ padE s h = 0) := fun X Y e1 e2 => by
    subst e1
    by_cases k : szP s ≠ 0 ∧ szP s ≤ h
    · have e2 := e2 k.1
      subst e2
      exact .inr ⟨k.1, k.2, pad_yes k.1 k.2⟩
    · exact .inl ⟨by omega, pad_no (by omega)⟩
  have hsm := Lib.hid (show clsB s = true → szP s = sltN (clsN s) ∧ szA s = sltN (clsN s) from fun k => by unfold szP szA; rw [k]; simp)
  have hbg := Lib.hid (show ∀ p, clsB p = false → (p = s ∧ s % 256 = 0 ∨ clsB s = false ∧ p = up 256 s % 4294967296) → pdP p = szP s ∧ (pdP p ≠ 0 → max (pdA p) 256 = szA s) from fun p hp k => by
    have hb : clsB s = false := by
      rcases k with k | k
      · rw [← k.1]; exact hp
      · exact k.1
    have hu : p = up 256 s % 4294967296 := by
      rcases k with k | k
      · rw [up256, k.1]; omega
      · exact k.2
    have hle : up 256 s ≤ 4294967296 := by rw [up256]; omega
    unfold szP szA
    rw [hb]
    simp only [Bool.false_eq_true, if_false]
    by_cases hw : 4294967296 ≤ up 256 s
    · have e : up 256 s = 4294967296 := by omega
      have hp0 : p = 0 := by rw [hu, e]
      rw [if_pos hw, hp0]
      have hz : pdP 0 = 0 := by
        have := sz_zero
        unfold szP at this
        rw [show clsB 0 = false from rfl] at this
        simp only [Bool.false_eq_true, if_false] at this
        rwa [show up 256 0 = 0 from rfl, if_neg (by decide)] at this
      exact ⟨hz, fun k => absurd hz k⟩
    · rw [if_neg hw]
      have : p = up 256 s := by omega
      rw [this]
      exact ⟨rfl, fun _ => rfl⟩)
  replace hend := Lib.hid hend
  have hge := Lib.hid (fun p => cls_ge (s := p))
  have hal := Lib.hid (fun p => szA_lt p)
  obtain ⟨S, hSe⟩ : ∃ S : Int, S = (s : Int) := ⟨_, rfl⟩
  generalize padP s h = oP at *
  generalize padA s h = oA at *
  generalize padE s h = oE at *
  go_enter Try.func16, Try.ntmps16
  go_wp2_with fail
  go_step3
  go_wp2_with fail
  go_step3
  go_wp2_with fail
  go_loopw [4] (fun i wr => ∃ p : Nat, i = .int .u32 p ∧ (p = s ∨ clsB s = false ∧ p = up 256 s % 4294967296) ∧ Below w.heap.size w wr) (fun i _ => if (intOf i).toNat % 256 = 0 then 0 else 1)
  case atStart => exact ⟨s, rfl, .inl rfl, Below.refl _ _⟩
  case round =>
    obtain ⟨p, rfl, hp, hB⟩ := hrel
    have lp : p < 4294967296 := by omega
    replace hp := Lib.hid hp
    replace hB := Lib.hid hB
    go_wp2_with fail
    refine (hC.out p _ lp).mono ?_
    rintro e w2 ⟨rfl, g⟩
    have B2 := Lib.hid (hB.out.trans (g.mono hB.out.size))
    clear g hB
    cases hc : clsB p
    · by_cases hm : p % 256 = 0
      · have hv := hbg.out p hc (by
          rcases hp.out with k | k
          · exact .inl ⟨k, by rw [← k]; exact hm⟩
          · exact .inr k)
        have hPd := Lib.hid (hP.out p)
        have hE := hend.out (pdP p) (max (pdA p) 256) hv.1 hv.2
        have hm' : ((p : Int) % 256 == 0) = true := by simp; omega
        clear hv hend hbg hsm hge hal hP hS hC hp hm
        generalize pdP p = X at *
        generalize pdA p = Y at *
        generalize clsN p = cn at *
        obtain ⟨Z, hZ, hZ2⟩ : ∃ Z, max Y 256 = Z ∧ (256 ≤ (Y : Int) ∧ Z = Y ∨ ¬ 256 ≤ (Y : Int) ∧ Z = 256) := ⟨_, rfl, by omega⟩
        rw [hZ] at hE
        clear hZ
        go_wp2_with fail
        refine (hPd.out _ lp).mono ?_
        rintro e w3 ⟨rfl, g⟩
        have B3 := Lib.hid (B2.out.trans (g.mono B2.out.size))
        clear g B2 hPd
        rcases hE with ⟨k, rfl, rfl, rfl⟩ | ⟨k1, k2, rfl, rfl, rfl⟩
        · rcases k with rfl | k
          · rcases hZ2 with ⟨a, rfl⟩ | ⟨a, rfl⟩
            all_goals
              go_wp2_with fail
              try rw [Exit.noGoto_ret]
              go_ret3
              exact ⟨rfl, B3.out⟩
          · have k' : (h : Int) < (X : Int) := by omega
            have k0 : ((X : Int) == 0) = false := by simp; omega
            clear k
            rcases hZ2 with ⟨a, rfl⟩ | ⟨a, rfl⟩
            all_goals
              go_wp2_with fail
              try rw [Exit.noGoto_ret]
              go_ret3
              exact ⟨rfl, B3.out⟩
        · have k' : (oP : Int) ≤ (h : Int) := by omega
          have kd : decide (h < oP) = false := decide_eq_false (by omega)
          have kn : ¬ h < oP := by omega
          have k0 : ((oP : Int) == 0) = false := by simp; omega
          clear k2
          rcases hZ2 with ⟨a, rfl⟩ | ⟨a, rfl⟩
          all_goals
            go_wp2_with fail
            try rw [Exit.noGoto_ret]
            go_ret3
            exact ⟨rfl, B3.out⟩
      · have hm' : ((p : Int) % 256 == 0) = false := by simp; omega
        obtain ⟨rfl, hb⟩ : p = s ∧ clsB s = false := by
          rcases hp.out with k | k
          · exact ⟨k, by rw [← k]; exact hc⟩
          · have := k.2
            rw [up256] at this
            exact absurd (show p % 256 = 0 by omega) hm
        have hn : ((p : Int) + (256 - (p : Int) % 256)) % 4294967296 = ((up 256 p % 4294967296 : Nat) : Int) := by
          rw [up256]; omega
        have hz : (up 256 p % 4294967296) % 256 = 0 := by rw [up256]; omega
        obtain ⟨Q, hQ⟩ : ∃ Q, Q = up 256 p % 4294967296 := ⟨_, rfl⟩
        rw [← hQ] at hn hz
        have hR := Lib.hid (show Q = p ∨ clsB p = false ∧ Q = up 256 p % 4294967296 from .inr ⟨hb, hQ⟩)
        replace hm := Lib.hid hm
        replace hz := Lib.hid hz
        clear hQ hb
        go_wp2_with fail
        go_roundw
        case rel => exact ⟨Q, by go_num, hR.out, B2.out⟩
        case measure =>
          show (if (((p : Int) + (256 - (p : Int) % 256)) % 4294967296).toNat % 256 = 0 then 0 else 1) < (if ((p : Int)).toNat % 256 = 0 then 0 else 1)
          rw [hn, Int.toNat_natCast, Int.toNat_natCast, if_pos hz.out, if_neg hm.out]
          decide
    · have hp' : p = s := by
        rcases hp.out with k | k
        · exact k
        · have h1 := of_decide_eq_true hc
          have h2 := k.2
          have h3 := of_decide_eq_false k.1
          rw [up256] at h2
          omega
      subst hp'
      have hv := hsm.out hc
      have hE := hend.out (sltN (clsN p)) (sltN (clsN p)) hv.1.symm (fun _ => hv.2.symm)
      have hg := hge.out p hc
      have l5 := hg.2.2.2
      have k0 : ((sltN (clsN p) : Nat) : Int) ≠ 0 := by omega
      have hS' := Lib.hid (hS.out (clsN p) l5)
      clear hv hend hbg hsm hge hal hP hS hC hp hg l5
      generalize hX : sltN (clsN p) = X at *
      clear hX
      generalize clsN p = cn at *
      go_wp2_with fail
      refine (hS'.out _).mono ?_
      rintro e w3 ⟨rfl, rfl⟩
      go_wp2_with fail
      refine (hS'.out _).mono ?_
      rintro e w3 ⟨rfl, rfl⟩
      have k0' : ((X : Int) == 0) = false := by simp; omega
      rcases hE with ⟨k, rfl, rfl, rfl⟩ | ⟨k1, k2, q1, q2, rfl⟩
      · have k' : (h : Int) < (X : Int) := by omega
        clear k k0
        go_wp2_with fail
        try rw [Exit.noGoto_ret]
        go_ret3
        exact ⟨rfl, B2.out⟩
      · subst q1
        subst q2
        have k' : (oA : Int) ≤ (h : Int) := by omega
        have kd : decide (h < oA) = false := decide_eq_false (by omega)
        have kn : ¬ h < oA := by omega
        clear k2 k0
        go_wp2_with fail
        try rw [Exit.noGoto_ret]
        go_ret3
        exact ⟨rfl, B2.out⟩
end Go.Proofs.Ytchonkkflklckaa
