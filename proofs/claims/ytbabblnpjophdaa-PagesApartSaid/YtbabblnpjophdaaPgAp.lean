/- Proved: what is taken is free no more, and nobody else is handed any of it, till it is put back (PagesApart). For every input; no condition. -/
import Derived.Test.YtbabblnpjophdaaRows
import Derived.Test.YtbabblnpjophdaaPgS
import Derived.Test.YtbabblnpjophdaaNums
import Derived.Test.YtbabblnpjophdaaCls
import Derived.Deep.LoopGhost
import Derived.Deep.DeepCutAuto
import Derived.Deep.RegionHeld
import Derived.Deep.CutRange
import Derived.StillTailTactics
import Derived.ProofKit
import Derived.OpenShut
import Derived.ChangeOld
namespace Go.Proofs.Ytbabblnpjophdaa.papart
open Go.ChangeShapes Go.WideShapes Go.ChangeAt Go.RowKit
set_option linter.unusedVariables false

def z64 : Array Value := Array.replicate 64 (.int .i64 0)
def z41 : Array Value := Array.replicate 41 (.int .i64 0)
theorem start_st {W w3 : World} {p b wb : Nat} {f : Nat → Bool} (K : PK W p b wb 64 f w3) (t1 t2 t3 : TypeId) :
    ST W p b wb w3.heap.size (w3.heap.size + 1) (w3.heap.size + 1 + 1) f (fun _ => 0) (fun _ => 0) (fun _ => 0) (((w3.alloc (.cells z64 t1)).alloc (.cells z41 t2)).alloc (.cells z41 t3)) := by
  have q1 := K.pool.lp
  have q2 := K.pool.m.lb
  have q3 := K.pool.m.lw
  have s1 : (w3.alloc (.cells z64 t1)).heap.size = w3.heap.size + 1 := by simp
  have s2 : ((w3.alloc (.cells z64 t1)).alloc (.cells z41 t2)).heap.size = w3.heap.size + 1 + 1 := by simp
  have b1 : Below w3.heap.size w3 (((w3.alloc (.cells z64 t1)).alloc (.cells z41 t2)).alloc (.cells z41 t3)) := (((Below.refl _ w3).alloc (Nat.le_refl _) _).alloc (by omega) _).alloc (by omega) _
  have b2 : Below (w3.heap.size + 1) (w3.alloc (.cells z64 t1)) (((w3.alloc (.cells z64 t1)).alloc (.cells z41 t2)).alloc (.cells z41 t3)) := (((Below.refl _ (w3.alloc (.cells z64 t1))).alloc (by omega) _).alloc (by omega) _)
  have b3 : Below (w3.heap.size + 1 + 1) ((w3.alloc (.cells z64 t1)).alloc (.cells z41 t2)) (((w3.alloc (.cells z64 t1)).alloc (.cells z41 t2)).alloc (.cells z41 t3)) := (Below.refl _ ((w3.alloc (.cells z64 t1)).alloc (.cells z41 t2))).alloc (by omega) _
  have a1 : IntArr (w3.alloc (.cells z64 t1)) w3.heap.size 64 (fun _ => 0) := IntArr.zero w3 64 t1
  have a2 : IntArr ((w3.alloc (.cells z64 t1)).alloc (.cells z41 t2)) (w3.alloc (.cells z64 t1)).heap.size 41 (fun _ => 0) := IntArr.zero (w3.alloc (.cells z64 t1)) 41 t2
  have a3 : IntArr (((w3.alloc (.cells z64 t1)).alloc (.cells z41 t2)).alloc (.cells z41 t3)) ((w3.alloc (.cells z64 t1)).alloc (.cells z41 t2)).heap.size 41 (fun _ => 0) := IntArr.zero ((w3.alloc (.cells z64 t1)).alloc (.cells z41 t2)) 41 t3
  rw [s1] at a2
  rw [s2] at a3
  exact ⟨K.of_below b1, a1.keep (b2.block _ (by omega)), a2.keep (b3.block _ (by omega)), a3, ⟨q1, q2, q3⟩, by simp⟩
theorem ok_start : HOk (ptF (fun _ => false) 64 0 64) (fun _ => 0) (fun _ => 0) (fun _ => 0) 1 1 := by
  have hp : ptB (fun _ => false) 64 0 64 = true := pt_iff.2 ⟨by omega, by omega, by omega, fun _ _ _ => rfl⟩
  refine ⟨fun k hk => ?_, fun e h1 h2 => absurd h2 (by omega), by omega, by omega⟩
  unfold ptF
  rw [hp, if_pos rfl]
  unfold inr
  simp; omega

set_option maxRecDepth 100000 in
set_option maxHeartbeats 8000000 in
theorem walk {H : Type} {enc : TypeId × Value → H} (v1 : Value) {d1 : DataW H} {p1 : List MemPlace} (W : World)
    (hv : Value.okWide Try.prog W .any 0 41 v1) (hd : DataW.Trod enc Try.prog W 0 (fun _ => true) true 41 v1 d1 p1) :
    Calls Try.prog 4 #[v1] W fun e w' => e = .returned (.bool true) ∧ Below W.heap.size W w' := by
  obtain ⟨A, len, cap, rfl, hcap, hm, hP⟩ := nums_of Try.underlying41 Try.underlying5 (by kernel_rfl) hv hd
  have hlen : len ≤ 9223372036854775807 := by unfold maxLen at hm; omega
  clear hv hd hm
  have hW := Lib.hid (works12_any W)
  have hN := Lib.hid (fun w => pnew 64 w (by omega))
  have hz1 : ∀ w, (zeroValue 42).run Try.prog w = .ok (.agg z64) w := fun w => by kernel_rfl
  have hz2 : ∀ w, (zeroValue 43).run Try.prog w = .ok (.agg z41) w := fun w => by kernel_rfl
  go_enter Try.func4, Try.ntmps4
  go_wp2_with fail
  refine hW.out.mono ?_
  rintro e w1 ⟨rfl, hb⟩
  have B1 := Lib.hid hb
  clear hb
  go_wp2_with fail
  refine (hN.out w1).mono ?_
  rintro e w2 ⟨p, b, wb, rfl, k1, k2, k3, k4, k5⟩
  have K2 := Lib.hid (show PK W p b wb 64 (fun _ => false) w2 from ⟨k1, B1.out.trans (k5.mono B1.out.size), by have := B1.out.size; omega⟩)
  clear k1 k2 k3 k4 k5 hN hW
  go_wp2_with fail
  refine (pputK K2.out 0 64 (by omega) (by omega) (by omega) (by omega) true _ (pt_iff.2 ⟨by omega, by omega, by omega, fun _ _ _ => rfl⟩) rfl).mono ?_
  rintro e w3 ⟨rfl, k⟩
  have K3 := Lib.hid k
  clear k K2
  go_upto_region 8 with (fail)
  have S0 := Lib.hid (start_st K3.out 42 43 43)
  generalize (((w3.alloc (Obj.cells z64 42)).alloc (Obj.cells z41 43)).alloc (Obj.cells z41 43)) = w4 at *
  generalize w3.heap.size + 1 + 1 = qr at *
  generalize w3.heap.size + 1 = qf at *
  generalize w3.heap.size = qh at *
  have H0 := Lib.hid ok_start
  generalize ptF (fun _ => false) 64 0 64 = f0 at *
  generalize (fun _ : Nat => 0) = z0 at *
  replace hP := Lib.hid hP
  clear K3 B1 hz1 hz2
  go_wp2_with fail
  go_loopw [7, 8, 9] (fun ev nv i wr => ∃ (k E N : Nat) (f : Nat → Bool) (h fr rn : Nat → Nat), ev = .int .i64 E ∧ nv = .int .i64 N ∧ i = .int .i64 k ∧ k ≤ len ∧ k ≤ 40 ∧ N ≤ k + 1 ∧ HOk f h fr rn E N ∧ ST W p b wb qh qf qr f h fr rn wr) (fun _ _ i _ => 41 - (intOf i).toNat)
  case atStart => exact ⟨0, 1, 1, f0, z0, z0, z0, rfl, rfl, rfl, by omega, by omega, by omega, H0.out, S0.out⟩
  case round =>
    clear S0 H0
    obtain ⟨k, E, N, f, h, fr, rn, rfl, rfl, rfl, hk, hk40, hNk, HO, HS⟩ := hrel
    have hE1 := HO.one
    have hEN := HO.le
    replace HO := Lib.hid HO
    replace HS := Lib.hid HS
    by_cases hlt : k < len ∧ k < 40
    · have j1 : (k : Int) < (len : Int) := by omega
      have j2 : (k : Int) < 40 := by omega
      by_cases hput : k % 3 = 2 ∧ E < N
      · have m1 : ((k : Int) % 3 == 2) = true := by simp; omega
        have m2 : (E : Int) < (N : Int) := by omega
        obtain ⟨y1, y2⟩ := HO.out.put hput.2
        obtain ⟨r1, r2, _⟩ := HO.out.run E (Nat.le_refl _) hput.2
        have HO2 := Lib.hid y2
        have hptb := Lib.hid y1
        have cf := (HS.out.fa.cs E (by omega)).1
        have cr := (HS.out.ra.cs E (by omega)).1
        have hE41 : (E : Int) < 41 := by omega
        obtain ⟨F, hF⟩ : ∃ F, F = fr E := ⟨_, rfl⟩
        obtain ⟨R, hR⟩ : ∃ R, R = rn E := ⟨_, rfl⟩
        rw [← hF, ← hR] at HO2 hptb
        rw [← hF] at cf
        rw [← hR] at cr
        rw [← hF, ← hR] at r2
        rw [← hR] at r1
        have hFR := Lib.hid (And.intro hF hR)
        clear hF hR HO y1 y2
        go_wp2_with fail
        have cf' : wr.drew.cell? ⟨qf, E, none⟩ = _ := cf
        have cr' : wr.drew.cell? ⟨qr, E, none⟩ = _ := cr
        go_still_tail 7, (by kernel_rfl)
        change wpList _ _ _ _ _ wr.drew
        have S1 := Lib.hid HS.out.drew
        clear HS cf cr
        generalize wr.drew = w5 at *
        go_wp2_with fail
        refine (pput S1.out.k.pool (F : Int) (R : Int) (by omega) (by omega) (by omega) (by omega)).mono ?_
        rintro e w6 hx
        rw [hptb.out] at hx
        obtain ⟨rfl, S6⟩ := S1.out.pool hx
        have S6 := Lib.hid (S6.congr (h' := stretch h F 0 0) fun k _ => (stretch_zero h F 0 k).symm)
        generalize ptF f 64 F R = f' at *
        clear hx S1 hptb cf' cr'
        go_wp2_with fail
        go_loopw [10] (fun i wr => ∃ j : Nat, i = .int .i64 j ∧ j ≤ R ∧ ST W p b wb qh qf qr f' (stretch h F j 0) fr rn wr) (fun i _ => R - (intOf i).toNat)
        case atStart => exact ⟨0, rfl, by omega, S6.out⟩
        case round =>
          obtain ⟨j, rfl, hj, HS⟩ := hrel
          replace HS := Lib.hid HS
          have cf := (HS.out.fa.cs E (by omega)).1
          have cr := (HS.out.ra.cs E (by omega)).1
          rw [← hFR.out.1] at cf
          rw [← hFR.out.2] at cr
          by_cases hjR : j < R
          · have hj' : (j : Int) < R := by omega
            have hlt2 : (F : Int) + j < 64 := by omega
            have hFj : ((F : Int) + j).toNat = F + j := by omega
            obtain ⟨c1, c2⟩ := HS.out.ha.cs (F + j) (by omega)
            have HS2 := Lib.hid ((HS.out.setH (a := F + j) (by omega) 0).congr (h' := stretch h F (j + 1) 0) fun k _ => stretch_step h F j 0 k)
            go_wp2_with fail
            go_roundw
            case rel => exact ⟨j + 1, by go_num, by omega, HS2.out⟩
            case measure => simp [intOf]; omega
          · have hj' : ¬ (j : Int) < R := by omega
            obtain rfl : j = R := by omega
            go_wp2_with fail
            go_roundw
            case rel => exact ⟨k + 1, E + 1, N, f', _, fr, rn, by go_num, rfl, by go_num, by omega, by omega, by omega, HO2.out, HS.out⟩
            case measure => simp [intOf]; omega
      · obtain ⟨ba, off, rfl, hba, x, hx, wx⟩ := (hP.out.below HS.out.k.bel) k hlt.1
        have hx0 := bounds_u8 wx
        obtain ⟨X, rfl⟩ := Int.eq_ofNat_of_zero_le hx0.1
        have hX : X < 256 := by omega
        have hcase : ((k : Int) % 3 == 2) = false ∨ (((k : Int) % 3 == 2) = true ∧ ¬ (E : Int) < N) := by
          by_cases h : k % 3 = 2
          · exact .inr ⟨by simp; omega, by omega⟩
          · exact .inl (by simp; omega)
        clear wx hba hx0 hput
        have hAL : 1 ≤ wrap64 (2 ^ (X / 9 % 4)) ∧ wrap64 (2 ^ (X / 9 % 4)) ≤ 8 := by
          have : X / 9 % 4 = 0 ∨ X / 9 % 4 = 1 ∨ X / 9 % 4 = 2 ∨ X / 9 % 4 = 3 := by omega
          rcases this with h | h | h | h <;> rw [h] <;> decide +kernel
        obtain ⟨R, hR, hR1, hR2⟩ : ∃ R : Nat, 1 + (X : Int) % 9 = (R : Int) ∧ 1 ≤ R ∧ R ≤ 9 := ⟨1 + X % 9, by omega, by omega, by omega⟩
        replace hAL := Lib.hid hAL
        replace hR := Lib.hid hR
        rcases hcase with m1 | ⟨m1, m2⟩
        all_goals
          go_wp2_with fail
          go_quiet (fail)
          go_upto_region 21 with (fail)
          rw [hR.out]
          have hAL2 := hAL.out
          generalize wrap64 (2 ^ (X / 9 % 4)) = al at hAL2 ⊢
          obtain ⟨al1, al2⟩ := hAL2
          have S5 := Lib.hid (HS.out.below (below_drewN (Below.refl _ _) nq))
          have hTk := Lib.hid (fun (hv : fndB f 64 R al = true) => HO.out.take R al hv)
          have hNo := Lib.hid (show fndB f 64 R al = false → tkF f 64 R al = f from fun hv => by unfold tkF; rw [hv]; rfl)
          clear hx HS hAL hR hX
          generalize wr.drewN nq = w5 at *
          go_wp2_with fail
          refine (ptake S5.out.k.pool (R : Int) al (by omega) (by omega) (by omega)).mono ?_
          rintro e w6 hx
          obtain ⟨rfl, S6⟩ := S5.out.pool hx
          replace S6 := Lib.hid S6
          clear hx S5
          generalize tkF f 64 R al = f' at *
          generalize fndA f 64 R al = xA at *
          generalize fndB f 64 R al = xB at *
          cases xB
          · have hff := hNo.out rfl
            subst hff
            clear hTk hNo
            go_wp2_with fail
            go_roundw
            case rel => exact ⟨k + 1, E, N, f', h, fr, rn, rfl, rfl, by go_num, by omega, by omega, by omega, HO.out, S6.out⟩
            case measure => simp [intOf]; omega
          · obtain ⟨⟨t1, t2, t3, t4⟩, t5⟩ := hTk.out rfl
            rw [Int.toNat_natCast] at t4 t5
            replace t4 := Lib.hid t4
            have HO2 := Lib.hid t5
            have al0 : al ≠ 0 := by omega
            have S6' := Lib.hid (S6.out.congr (h' := stretch h xA 0 N) fun k _ => (stretch_zero h xA N k).symm)
            have t3c : ((xA : Int) % al != 0) = false := by simp [t3]
            replace t3 := Lib.hid t3
            have q1 : decide ((xA : Int) < 0) = false := decide_eq_false (by omega)
            have q2 : decide (64 < (xA : Int) + R) = false := decide_eq_false (by omega)
            clear hTk hNo t5 S6
            go_wp2_with fail
            clear q1 q2 t3c
            go_loopw [15] (fun i wr => ∃ j : Nat, i = .int .i64 j ∧ j ≤ R ∧ ST W p b wb qh qf qr f' (stretch h xA j N) fr rn wr) (fun i _ => R - (intOf i).toNat)
            case atStart => exact ⟨0, rfl, by omega, S6'.out⟩
            case round =>
              obtain ⟨j, rfl, hj, HS⟩ := hrel
              replace HS := Lib.hid HS
              by_cases hjR : j < R
              · have hj' : (j : Int) < R := by omega
                have hlt2 : (xA : Int) + j < 64 := by omega
                obtain ⟨y1, y2⟩ := t4.out (xA + j) (by omega) (by omega)
                obtain ⟨c1, c2⟩ := HS.out.ha.cs (xA + j) (by omega)
                rw [show stretch h xA j N (xA + j) = 0 by unfold stretch; rw [if_neg (by omega)]; exact y1] at c1
                have hF := pfree HS.out.k.pool ((xA : Int) + j)
                rw [show (decide (0 ≤ (xA : Int) + j) && f' ((xA : Int) + j).toNat) = false by rw [show ((xA : Int) + j).toNat = xA + j by omega, y2, Bool.and_false]] at hF
                replace hF := Lib.hid hF
                clear y1 y2
                go_wp2_with fail
                refine hF.out.mono ?_
                rintro e w7 ⟨rfl, hb⟩
                have S7 := Lib.hid (HS.out.below hb)
                clear hb hF c1 c2
                obtain ⟨c1, c2⟩ := S7.out.ha.cs (xA + j) (by omega)
                have S8 := Lib.hid ((S7.out.setH (a := xA + j) (by omega) N).congr (h' := stretch h xA (j + 1) N) fun k _ => stretch_step h xA j N k)
                go_wp2_with fail
                go_roundw
                case rel => exact ⟨j + 1, by go_num, by omega, S8.out⟩
                case measure => simp [intOf]; omega
              · have hj' : ¬ (j : Int) < R := by omega
                obtain rfl : j = R := by omega
                obtain ⟨c1, c2⟩ := HS.out.fa.cs N (by omega)
                have hN41 : (N : Int) < 41 := by omega
                have S8 := Lib.hid (HS.out.setF (a := N) (by omega) xA)
                go_upto_region 32 with (fail)
                generalize wr.setCell ⟨qf, N, none⟩ (.int .i64 (xA : Int)) = w8 at *
                clear c1 c2 HS
                obtain ⟨c1, c2⟩ := S8.out.ra.cs N (by omega)
                have S9 := Lib.hid (S8.out.setR (a := N) (by omega) j)
                go_upto_region 33 with (fail)
                generalize w8.setCell ⟨qr, N, none⟩ (.int .i64 (j : Int)) = w9 at *
                clear c1 c2 S8
                go_wp2_with fail
                go_roundw
                case rel => exact ⟨k + 1, E, N + 1, f', _, _, _, rfl, by go_num, by go_num, by omega, by omega, by omega, HO2.out, S9.out⟩
                case measure => simp [intOf]; omega
    · have hcase : ((k : Int) < len ∧ ¬ (k : Int) < 40) ∨ ¬ (k : Int) < len := by omega
      clear hk hk40 hlt hP hNk
      rcases hcase with ⟨j1, j2⟩ | j1
      all_goals
        go_wp2_with fail
        go_loopw [16, 17] (fun cv i wr => ∃ x : Nat, cv = .int .i64 (cnt f x : Nat) ∧ i = .int .i64 x ∧ x ≤ 64 ∧ ST W p b wb qh qf qr f h fr rn wr) (fun _ i _ => 64 - (intOf i).toNat)
        case atStart => exact ⟨0, rfl, rfl, by omega, HS.out⟩
        case round =>
          obtain ⟨x, rfl, rfl, hx, HX⟩ := hrel
          have hcs : cnt f (x + 1) = cnt f x + (f x).toNat := rfl
          have hcl := cnt_le f x
          obtain ⟨c, hc⟩ : ∃ c, c = cnt f x := ⟨_, rfl⟩
          rw [← hc] at hcs hcl
          rw [← hc]
          replace hc := Lib.hid hc
          replace hcs := Lib.hid hcs
          have hx' : (x : Int) ≤ 64 := by omega
          have hc' : (c : Int) ≤ 64 := by omega
          by_cases hlt : x < 64
          · have hlt' : (x : Int) < 64 := by omega
            have cx := (HX.ha.cs x hlt).1
            have hfx := HO.out.fh x hlt
            obtain ⟨S, hS0⟩ : ∃ S, S = ST W p b wb qh qf qr f h fr rn := ⟨_, rfl⟩
            have h0 := Lib.hid (show S wr.drew by rw [hS0]; exact HX.drew)
            have hK := Lib.hid (fun w (hw : S w) => (show ST W p b wb qh qf qr f h fr rn w by rw [hS0] at hw; exact hw))
            have d0 : ∀ y : Wd S, y.w.cell? ⟨qh, x, none⟩ = some (.int .i64 (h x : Int)) := fun y => ((hK.out _ y.h).ha.cs x hlt).1
            have hF : ∀ w, S w → Calls Try.prog 18 #[.pointer (some ⟨p, 0, none⟩), .int .i64 (x : Int)] w fun e w' => e = .returned (.bool (f x)) ∧ S w' := fun w hw => by
              have := pfree (hK.out w hw).k.pool (x : Int)
              rw [show (decide (0 ≤ (x : Int)) && f (x : Int).toNat) = f x by simp] at this
              exact this.mono fun e w' k => ⟨k.1, by rw [hS0]; exact (hK.out w hw).below k.2⟩
            have cF := Lib.hid (cls_call (S := S) hF)
            replace HX := Lib.hid HX
            clear hF
            by_cases h9 : h x = 0
            · rw [h9] at hfx cx
              have hfx2 : f x = true := by rw [hfx]; rfl
              rw [hfx2] at cF hcs
              have d1 : ∀ y : Wd S, y.w.cell? ⟨qh, x, none⟩ = some (.int .i64 0) := fun y => by rw [d0 y, h9]; rfl
              replace hS0 := Lib.hid hS0
              replace h9 := Lib.hid h9
              replace hfx := Lib.hid hfx
              replace hfx2 := Lib.hid hfx2
              clear d0
              go_wp2_with fail
              refine region_cls S (by kernel_rfl) (by kernel_rfl) h0.out ?_
              repeat (first
                | go_big_quiet_skip
                | (go_big_quiet_want
                   go_big_quiet_op
                   first
                   | go_big_quiet_on
                   | (apply Exists.intro
                      refine ⟨fun y => ?_, ?_⟩
                      · first | exact rfl | with_reducible exact cF.out y
                      go_big_quiet_on)))
              refine wpQuiet_nil ?_
              intro y
              have HY := Lib.hid (hK.out _ y.h)
              clear d1 cx
              go_wp2_with fail
              go_roundw
              case rel => exact ⟨x + 1, by rw [hcs.out]; go_num, by go_num, by omega, HY.out⟩
              case measure => simp [intOf]; omega
            · have hfx2 : f x = false := by rw [hfx]; exact decide_eq_false h9
              rw [hfx2] at cF hcs
              have h9' : ((h x : Int) == 0) = false := by simp; exact h9
              obtain ⟨z, hz⟩ : ∃ z : Int, z = (h x : Int) := ⟨_, rfl⟩
              rw [← hz] at cx h9'
              have d1 : ∀ y : Wd S, y.w.cell? ⟨qh, x, none⟩ = some (.int .i64 z) := fun y => by rw [d0 y, hz]
              replace hS0 := Lib.hid hS0
              replace h9 := Lib.hid h9
              replace hfx := Lib.hid hfx
              replace hfx2 := Lib.hid hfx2
              replace hz := Lib.hid hz
              clear d0
              go_wp2_with fail
              refine region_cls S (by kernel_rfl) (by kernel_rfl) h0.out ?_
              repeat (first
                | go_big_quiet_skip
                | (go_big_quiet_want
                   go_big_quiet_op
                   first
                   | go_big_quiet_on
                   | (apply Exists.intro
                      refine ⟨fun y => ?_, ?_⟩
                      · first | exact rfl | with_reducible exact cF.out y
                      go_big_quiet_on)))
              refine wpQuiet_nil ?_
              intro y
              have HY := Lib.hid (hK.out _ y.h)
              clear d1 cx
              go_wp2_with fail
              go_roundw
              case rel => exact ⟨x + 1, by rw [hcs.out]; rfl, by go_num, by omega, HY.out⟩
              case measure => simp [intOf]; omega
          · obtain rfl : x = 64 := by omega
            have hq := Lib.hid (pcountK HX.k (c : Int) (by rw [hc.out]))
            go_wp2_with fail
            refine hq.out.mono ?_
            rintro e w9 ⟨rfl, k9⟩
            have B9 := Lib.hid k9.bel
            clear k9
            go_wp2
            go_ret
            exact ⟨rfl, B9.out⟩
theorem own : ownKnob Try.prog.godebug = none := by kernel_rfl
theorem laidOut : laidOutB Try.prog = true := by kernel_rfl
set_option maxRecDepth 100000 in
theorem lifted (os : Os) (started : os.Started) (H : Type) (enc : TypeId × Value → H) :
    ReturnsInHanded {} Try.checked os 4 .any (Rows.pagesApartSpec.pre6 enc Try.prog Try.f4 Rows.pagesApartRow.domain false) (Rows.pagesApartSpec.post enc Try.prog Try.f4 false true false false) := by
  refine returnsInHanded_of_change (C := Try.checked) own started (by kernel_rfl) Try.func4
    (ChangeSpec.witness6 (enc := enc) (C := Try.checked) false ⟨#[], #[.slice none 0 0], []⟩ 8 (by kernel_rfl) (by kernel_rfl) (by kernel_rfl) (by kernel_rfl)) ?_
  intro W base args ds gs before hval0 hW hcnd hsz
  have hval : ∀ (j : Nat) t v, Try.f4.params[j]? = some t → args[j]? = some v → Value.okWide Try.prog W .any base t v := hval0
  have hW' := hW
  obtain ⟨p, q, hA0, hV, rfl, hfz, hnd⟩ := hW
  have hA : DataW.TrodAll enc Try.prog W 0 (fun _ => true) true Try.f4.params.toList args.toList ds p := hA0
  rw [Try.params4] at hA hval
  obtain ⟨v0, vs0, d0, ds0, p0, q0, hargs, rfl, rfl, h0, r0⟩ := trodAll_cons hA
  obtain ⟨rfl, rfl, rfl⟩ := trodAll_nil r0
  obtain rfl : args = #[v0] := by cases args; simp_all
  obtain ⟨rfl, rfl⟩ := trodVars_none hV
  have k0 := h0
  have lt0 : ∀ x ∈ p0, x.block < W.heap.size := by obtain ⟨m, hm⟩ := k0; exact DataW.trod_lt m _ _ _ hm
  clear hA0 hval0
  refine (walk v0 W (hval 0 41 v0 rfl rfl) k0).mono fun e W' ⟨he, bel⟩ => ?_
  subst he
  exact ⟨_, rfl, _, _, _, [], _, [], hW', trodAll_mk1 (shut_bool Try.underlying4 _), (trodAll_cons_mk (Below.trod laidOut (by kernel_rfl) (of_decide_eq_true (by kernel_rfl)) k0 bel lt0) trodAll_mk0), rfl, bel.frame _, fun h => by cases h⟩
theorem over : Rows.pagesApartRow.holds Try.pinned (OpenSpec.ofChange Rows.pagesApartSpec) :=
  OpenClaim.holds_of_wide 4 Try.f4 rfl rfl rfl rfl rfl rfl rfl ⟨rfl, rfl, rfl, rfl, rfl⟩ rfl rfl rfl rfl rfl (by kernel_rfl) Try.func4 (by kernel_rfl)
    (of_decide_eq_true (by kernel_rfl)) (by unfold Func.isWrapper; first | (rw [if_pos (by decide +kernel)]; kernel_rfl) | (rw [if_neg (by decide +kernel)]; exact ⟨rfl, rfl⟩))
    (fun os started H enc _ => lifted os started H enc)
/-- The given statement. -/
theorem proved : Rows.PagesApartSaid := over
end Go.Proofs.Ytbabblnpjophdaa.papart
