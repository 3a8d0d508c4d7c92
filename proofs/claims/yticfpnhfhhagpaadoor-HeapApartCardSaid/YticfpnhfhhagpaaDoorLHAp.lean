/- HeapApart: no two regions that are live or rest have a byte in common. -/
import Derived.Test.YticfpnhfhhagpaaDoorHpV
import Derived.Test.YticfpnhfhhagpaaDoorLex
import Derived.Test.YticfpnhfhhagpaaDoorTie
import Derived.Test.YticfpnhfhhagpaaDoorCards
import Derived.SevenTiedAt
import Derived.ProofKit
import Derived.OpenShut
import Derived.ChangeOld
import Derived.Deep.LoopGhost
import Derived.Deep.RegionHeld
import Derived.Deep.CutBlock
namespace Go.Proofs.YticfpnhfhhagpaaDoor.hapart
set_option maxRecDepth 100000
open Go.ChangeShapes Go.WideShapes Go.ChangeAt Go.RowKit Go.Shelf Go.Maps
set_option linter.unusedVariables false
set_option maxHeartbeats 16000000 in
theorem walkN (pr : Nat) (hpr : pr < 256) {H : Type} {enc : TypeId × Value → H} (v1 : Value) {d1 : DataW H} {p1 : List MemPlace} (W : World)
    (hv : Value.okWide Tryd.prog W .any 0 22 v1) (hd : DataW.Trod enc Tryd.prog W 0 (fun _ => true) true 22 v1 d1 p1) (hT : TabAt 0 Lib.deBruijn32tab W) :
    Calls Tryd.prog 3 #[.int .u8 pr, v1] W fun e w' => e = .returned (.bool true) ∧ Below W.heap.size W w' := by
  obtain ⟨A, len, cap, rfl, hcap, hm, hP⟩ := nums_of Tryd.underlying22 Tryd.underlying5 (by kernel_rfl) hv hd
  have hlen : len ≤ 9223372036854775807 := by unfold maxLen at hm; omega
  clear hv hd hm
  obtain ⟨p, hp⟩ : ∃ p, p = 1 + pr % 20 := ⟨_, rfl⟩
  obtain ⟨z, hz⟩ : ∃ z, z = 256 * p := ⟨_, rfl⟩
  have e1 : (pr : Int) % 20 = (p : Int) - 1 := by omega
  have e2 : 1 + ((p : Int) - 1) = (p : Int) := by omega
  have e3 : 256 * (p : Int) = z := by omega
  have hp1 : 1 ≤ p ∧ p ≤ 20 := by omega
  have hp2 : (p : Int) ≤ 20 := by omega
  have hzb : z ≤ 5120 := by omega
  have hz1 := Lib.hid (show z = 256 * p by omega)
  have hWk := Lib.hid (works_any14 W hT)
  have hRg := Lib.hid (fun w => (show Calls Tryd.prog 8 #[.int .u32 512, .int .u32 z] w fun e w' => e = .returned (.agg #[.int .u32 512, .int .u32 z]) ∧ Below w.heap.size w w' from region_any 512 z w))
  have hNw := Lib.hid (fun w1 (hb : Below W.heap.size W w1) => (show Calls Tryd.prog 9 #[.agg #[.int .u32 512, .int .u32 z]] w1 fun e w' => ∃ B lo, e = .returned (.tuple #[.pointer (some ⟨B.h, 0, none⟩), .int .i64 0]) ∧ w1.heap.size ≤ lo ∧ Below w1.heap.size w1 w' ∧ HK W B lo w'.heap.size 2 (p + 2) [] [] w' from by
    have := new_hk (tab_grow hT hb) 512 z (by decide) (by omega) (by omega) (by omega)
    rw [show 512 / 256 = 2 from rfl, show (512 + z) / 256 = p + 2 by omega] at this
    exact this.mono fun e w' ⟨B, lo, he, H⟩ => ⟨B, lo, he, H.lo, H.bl, H.h, H.t, hb.trans (H.bl.mono hb.size), H.g, Nat.le_trans hb.size H.lo⟩))
  have hP' := Lib.hid hP
  clear hT hp hz hP
  go_enter Tryd.func3, Tryd.ntmps3
  go_wp2_with fail
  refine hWk.out.mono ?_
  rintro e w1 ⟨rfl, hb⟩
  have hB1 := Lib.hid hb
  clear hb hWk
  go_wp2_with fail
  refine (hRg.out _).mono ?_
  rintro e w2 ⟨rfl, hb⟩
  have hB2 := Lib.hid (hB1.out.trans (hb.mono hB1.out.size))
  clear hb hRg
  go_upto_region 4 with (fail)
  have X0 := Lib.hid (Bx.new w2 (.int .u32 512) (.int .u32 z) 26)
  have B3 := Lib.hid (hB2.out.alloc hB2.out.size (.cells #[.int .u32 512, .int .u32 z] 26))
  generalize w2.alloc (.cells #[.int .u32 512, .int .u32 z] 26) = V2 at X0 B3 ⊢
  generalize w2.heap.size = b at X0 ⊢
  have c0 := X0.out.c0
  have c1 := X0.out.c1
  go_wp2_with fail
  refine (hNw.out _ B3.out).mono ?_
  rintro e w3 ⟨B, lo, rfl, hl, hb, H⟩
  have hbl := Lib.hid (show b < lo from Nat.lt_of_lt_of_le X0.out.lt hl)
  have X := Lib.hid (X0.out.grow hb)
  have HI := Lib.hid H
  generalize w3.heap.size = hi at H HI
  clear H hb hNw X0 B3 c0 c1 e1 e2 e3 hB1 hB2
  go_upto_block 0 with (fail)
  go_cut [8] (fun _ w' => ∃ L R, Hid (HK W B lo hi 2 (p + 2) L R w') ∧ Hid (Bx b (.int .u32 512) (.int .u32 z) w'))
  case first =>
    go_wp2_with fail
    go_loopw [8] (fun i wr => ∃ (k : Nat) (L R : List Rg), i = .int .i64 k ∧ k ≤ 50 ∧ Hid (HK W B lo hi 2 (p + 2) L R wr) ∧ Hid (Bx b (.int .u32 512) (.int .u32 z) wr)) (fun i _ => 50 - (RowKit.intOf i).toNat)
    case atStart => exact ⟨0, [], [], rfl, by omega, HI, X⟩
    case round =>
      obtain ⟨k, L, R, rfl, hk, HJ, XJ⟩ := hrel
      by_cases hlt : 2 * k + 1 < len ∧ k < 50
      · have j1 : 2 * (k : Int) + 1 < (len : Int) := by omega
        have j2 : (k : Int) < 50 := by omega
        obtain ⟨bl, off, rfl, _, x, hx, hwf⟩ := (hP'.out.below HJ.out.bl) (2 * k) (by omega)
        obtain ⟨bl', off', e', _, y, hy, hwf'⟩ := (hP'.out.below HJ.out.bl) (2 * k + 1) hlt.1
        cases e'
        have bx := bounds_u8 hwf
        have bY := bounds_u8 hwf'
        obtain ⟨X0, rfl⟩ := Int.eq_ofNat_of_zero_le bx.1
        obtain ⟨Y0, rfl⟩ := Int.eq_ofNat_of_zero_le bY.1
        have hX0 : X0 < 256 := by omega
        have hY0 : Y0 < 256 := by omega
        obtain ⟨S, hS0⟩ : ∃ S, S = fun w' => Below wr.heap.size wr w' := ⟨_, rfl⟩
        have hK : ∀ w', S w' → Below wr.heap.size wr w' := fun w' h => by rw [hS0] at h; exact h
        have h4 : S wr.drew := by rw [hS0]; exact (Below.refl _ _).drew
        have hl1 := lt_of_cell' hx
        have a0 : ∀ y : Wd S, y.w.cell? ⟨bl, off + 2 * k, none⟩ = some (.int .u8 X0) := fun y => ((hK _ y.h).cell (p := ⟨bl, off + 2 * k, none⟩) hl1).trans hx
        have a1 : ∀ y : Wd S, y.w.cell? ⟨bl, off + (2 * k + 1), none⟩ = some (.int .u8 Y0) := fun y => ((hK _ y.h).cell (p := ⟨bl, off + (2 * k + 1), none⟩) hl1).trans hy
        have s1 : IntKind.i64.wrap (2 * (k : Int)) = 2 * k := by rw [IntKind.wrap_i64]; omega
        have s2 : IntKind.i64.wrap (2 * (k : Int) + 1) = 2 * k + 1 := by rw [IntKind.wrap_i64]; omega
        have t1 : (2 * (k : Int)).toNat = 2 * k := by omega
        have t2 : (2 * (k : Int) + 1).toNat = 2 * k + 1 := by omega
        have u1 : (0 : Int) ≤ 2 * k := by omega
        have u2 : (0 : Int) ≤ 2 * k + 1 := by omega
        have u3 : 2 * (k : Int) < len := by omega
        have hKK := Lib.hid hK
        have hAct := Lib.hid (fun w1 (hb : Below wr.heap.size wr w1) => act_any (HJ.out.grow hb) X0 Y0 hX0 hY0)
        clear hS0 hK bx bY hwf hwf' hx hy hX0 hY0
        go_wp2_with fail
        refine region_cls_tail S 12 (by kernel_rfl) (by kernel_rfl) h4 ?_
        simp only [List.take_succ_cons, List.take_zero, List.drop_succ_cons, List.drop_zero]
        repeat (first
          | go_big_quiet_skip
          | (go_big_quiet_want
             go_big_quiet_op
             first
             | go_big_quiet_on
             | (apply Exists.intro
                refine ⟨fun y => ?_, ?_⟩
                · first | exact rfl
                go_big_quiet_on)))
        refine wpQuiet_nil ?_
        intro y
        have hb := Lib.hid (hKK.out _ y.h)
        obtain ⟨w4', hw4'⟩ : ∃ w4', w4' = y.w := ⟨_, rfl⟩
        rw [← hw4'] at hb ⊢
        clear hw4' a0 a1 h4 hKK s1 s2 t1 t2 u1 u2 u3
        clear y S
        go_wp2_with fail
        refine (hAct.out _ hb.out).mono ?_
        rintro e w5 ⟨rfl, hm, L', R', HJ'⟩
        have XJ' := Lib.hid ((XJ.out.grow hb.out).keep (hm.block b (XJ.out.grow hb.out).lt (.inl hbl.out)))
        replace HJ' := Lib.hid HJ'
        clear hm hAct hb
        go_wp2_with fail
        go_roundw
        · exact ⟨k + 1, L', R', by simp, by omega, HJ', XJ'⟩
        · simp only [RowKit.intOf]
          omega
      · have hc : ¬ 2 * (k : Int) + 1 < (len : Int) ∨ (2 * (k : Int) + 1 < (len : Int) ∧ ¬ (k : Int) < 50) := by omega
        have s1 : IntKind.i64.wrap (2 * (k : Int)) = 2 * k := by rw [IntKind.wrap_i64]; omega
        rcases hc with hc | ⟨hc, hc2⟩
        all_goals
          go_wp2_with fail
          go_meet
          exact ⟨L, R, HJ, XJ⟩
  case rest =>
    obtain ⟨L, R, HJ, XJ⟩ := hcut
    have hLv := Lib.hid (live_hk HJ.out)
    have hHi := Lib.hid HJ.out.his
    have hln := HJ.out.h.len
    go_wp2_with fail
    refine hLv.out.mono ?_
    rintro e wl ⟨v, rfl, hr, hb, HL⟩
    have hOwn := Lib.hid (hr.mono (Nat.le_trans hHi.out (Nat.le_refl _)))
    have XL := Lib.hid (XJ.out.grow hb)
    replace HL := Lib.hid HL
    clear hr hb hLv HJ XJ
    go_wp2_with fail
    refine (rest_hk HL.out).mono ?_
    rintro e wr ⟨v2, rfl, hr, hb, HR⟩
    have hOwn1 := Lib.hid (own_grow hOwn.out hb)
    have hOwn2 := Lib.hid hr
    have XR := Lib.hid (XL.out.grow hb)
    have hbhi := Lib.hid (show b < hi from by
      have h1 := HR.h.hs.ok.inn B.h (.inl rfl)
      have := hbl.out
      omega)
    replace HR := Lib.hid HR
    clear hr hb HL hOwn XL
    go_wp2_with (at_builtin; refine append_both (L := L) (R := R) rfl _ _ rfl rfl hOwn1.out rfl hOwn2.out (by omega) (Nat.le_trans HR.out.his (Nat.le_refl _)) ?_; intro v3 w5 hO hBl; have HK5 := Lib.hid (HR.out.low hBl); have X5 := Lib.hid (XR.out.keep (hBl.block b hbhi.out)); have hRow := Lib.hid (rgs_of hO); clear hO hBl)
    obtain ⟨X, hX⟩ : ∃ X, X = L ++ R := ⟨_, rfl⟩
    rw [← hX] at hRow
    have hGd := Lib.hid (show Good 2 (p + 2) X by rw [hX]; exact HK5.out.h.good)
    have hXl : X.length ≤ 16384 := by rw [hX, List.length_append]; exact hln
    clear hX hOwn1 hOwn2 hHi HR hln XR
    obtain ⟨Ar, capr, rfl, hcells⟩ := hRow.out
    replace hcells := Lib.hid hcells
    obtain ⟨m, hm⟩ : ∃ m, X.length = m := ⟨_, rfl⟩
    rw [hm] at hXl ⊢
    replace hm := Lib.hid hm
    clear hRow
    go_wp2_with fail
    go_loopw [10] (fun iv wr => ∃ i : Nat, i ≤ m ∧ iv = .int .i64 i ∧ Hid (Below w5.heap.size w5 wr)) (fun iv _ => m - (RowKit.intOf iv).toNat)
    case atStart => exact ⟨0, by omega, rfl, Lib.hid (Below.refl _ _)⟩
    case round =>
      obtain ⟨i, hi0, rfl, hBw⟩ := hrel
      by_cases hil : i < m
      · have hil2 : (i : Int) < m := by omega
        have hiX : i < X.length := by rw [hm.out]; exact hil
        obtain ⟨g, rfl, _, hg, k0, k1⟩ := hcells.out i hiX
        have hlo := hGd.out.lo X[i] (List.getElem_mem hiX)
        have hhi := hGd.out.hi X[i] (List.getElem_mem hiX)
        have hps := hGd.out.pos (List.getElem_mem hiX)
        have h16 := hGd.out.at16 (List.getElem_mem hiX)
        obtain ⟨c, hc⟩ : ∃ c, c = X[i] := ⟨_, rfl⟩
        rw [← hc] at k0 k1 hlo hhi hps h16
        obtain ⟨c1, c2⟩ := c
        dsimp only at k0 k1 hlo hhi hps h16
        have hc' := Lib.hid hc
        obtain ⟨t, ht⟩ : ∃ t, t = c1 + c2 := ⟨_, rfl⟩
        obtain ⟨oz, hoz⟩ : ∃ oz, oz = 512 + z := ⟨_, rfl⟩
        have htb : t ≤ oz := by have := hz1.out; omega
        have hozb : oz ≤ 5632 := by omega
        have hlo2 : ¬ (c1 : Int) < 512 := by omega
        have hc20 : (c2 : Int) ≠ 0 := by omega
        have htz : ¬ (oz : Int) < (t : Int) := by omega
        have hEx := ex16 (b := c1) (t := t) h16.1 (by omega) (by omega) (by omega) (by omega)
        have hMy := may_of (b := c1) (t := t) (by omega) (by omega)
        have hEn := fun w => Encode_any c1 t w (by omega) (by omega)
        rw [hEx, hMy] at hEn
        obtain ⟨x0, hx0⟩ : ∃ x0, x0 = enE c1 t := ⟨_, rfl⟩
        obtain ⟨x1, hx1⟩ : ∃ x1, x1 = enB c1 t := ⟨_, rfl⟩
        obtain ⟨x2, hx2⟩ : ∃ x2, x2 = enT c1 t := ⟨_, rfl⟩
        simp only [← hx0, ← hx1, ← hx2] at hEn
        have s1 : IntKind.u64.wrap ((c1 : Int) + c2) = t := by rw [IntKind.wrap_u64]; omega
        have s2 : IntKind.u32.wrap ((c1 : Int) + c2) = t := by rw [IntKind.wrap_u32]; omega
        have s3 : IntKind.u32.wrap (512 + (z : Int)) = oz := by rw [IntKind.wrap_u32]; omega
        have s4 : IntKind.u64.wrap (c1 : Int) = c1 := by rw [IntKind.wrap_u64]; omega
        have s5 : IntKind.u64.wrap (c2 : Int) = c2 := by rw [IntKind.wrap_u64]; omega
        have i0 : (0 : Int) ≤ i := by omega
        obtain ⟨S, hS0⟩ : ∃ S, S = fun w' => Below wr.heap.size wr w' := ⟨_, rfl⟩
        have hKS : ∀ w', S w' → Below w5.heap.size w5 w' := fun w' h => by rw [hS0] at h; exact hBw.out.trans (h.mono hBw.out.size)
        have HS : ∀ w w', S w → Below w.heap.size w w' → S w' := fun w w' h k => by rw [hS0] at h ⊢; exact h.trans (k.mono h.size)
        have h4 : S wr.drew := by rw [hS0]; exact (Below.refl _ _).drew
        have a0 : ∀ y : Wd S, y.w.cell? ⟨g, i * 2, none⟩ = some (.int .u32 (c1 : Int)) := fun y => ((hKS _ y.h).cell (p := ⟨g, i * 2, none⟩) hg).trans k0
        have a1 : ∀ y : Wd S, y.w.cell? ⟨g, i * 2 + 1, none⟩ = some (.int .u32 (c2 : Int)) := fun y => ((hKS _ y.h).cell (p := ⟨g, i * 2 + 1, none⟩) hg).trans k1
        have cE := Lib.hid (show ∀ y : Wd S, Calls Tryd.prog 13 #[.int .u32 (c1 : Int), .int .u64 (t : Int)] y.w fun e w' => e = .returned (.tuple #[.int .u8 x0, .int .u16 x1, .int .u16 x2, .bool true, .bool true]) ∧ ∃ y' : Wd S, w' = y'.w from
          fun y => (hEn y.w).mono fun e w2 k => ⟨k.1, ⟨w2, HS _ _ y.h k.2⟩, rfl⟩)
        have hKK := Lib.hid hKS
        have hk0 := Lib.hid k0
        have hk1 := Lib.hid k1
        have hgl := Lib.hid hg
        have hhi' := Lib.hid (And.intro hlo (And.intro hhi (And.intro hps ht)))
        have hoz' := Lib.hid hoz
        clear hS0 hKS HS hEn hEx hMy hx0 hx1 hx2 ht hoz hlo hhi hps h16 k0 k1 hg hc
        go_wp2_with fail
        refine region_cls S (by kernel_rfl) (by kernel_rfl) h4 ?_
        repeat (first
          | go_big_quiet_skip
          | (go_big_quiet_want
             go_big_quiet_op
             first
             | go_big_quiet_on
             | (apply Exists.intro
                refine ⟨fun y => ?_, ?_⟩
                · first | exact rfl | with_reducible exact cE.out y
                go_big_quiet_on)))
        refine wpQuiet_nil ?_
        intro y
        have K6 := Lib.hid (hKK.out _ y.h)
        obtain ⟨w6, hw6⟩ : ∃ w6, w6 = y.w := ⟨_, rfl⟩
        rw [← hw6] at K6 ⊢
        clear hw6 a0 a1 h4 hKK cE
        clear y S
        obtain ⟨S, hS0⟩ : ∃ S, S = fun w' => Below w6.heap.size w6 w' := ⟨_, rfl⟩
        have hKS : ∀ w', S w' → Below w5.heap.size w5 w' := fun w' h => by rw [hS0] at h; exact K6.out.trans (h.mono K6.out.size)
        have h4 : S w6.drew := by rw [hS0]; exact (Below.refl _ _).drew
        have a0 : ∀ y : Wd S, y.w.cell? ⟨g, i * 2, none⟩ = some (.int .u32 (c1 : Int)) := fun y => ((hKS _ y.h).cell (p := ⟨g, i * 2, none⟩) hgl.out).trans hk0.out
        have a1 : ∀ y : Wd S, y.w.cell? ⟨g, i * 2 + 1, none⟩ = some (.int .u32 (c2 : Int)) := fun y => ((hKS _ y.h).cell (p := ⟨g, i * 2 + 1, none⟩) hgl.out).trans hk1.out
        have a2 : ∀ y : Wd S, y.w.cell? ⟨b, 0, none⟩ = some (.int .u32 512) := fun y => ((hKS _ y.h).cell (p := ⟨b, 0, none⟩) X5.out.lt).trans X5.out.c0
        have a3 : ∀ y : Wd S, y.w.cell? ⟨b, 1, none⟩ = some (.int .u32 (z : Int)) := fun y => ((hKS _ y.h).cell (p := ⟨b, 1, none⟩) X5.out.lt).trans X5.out.c1
        have hKK := Lib.hid hKS
        have hc20' : ((c2 : Int) == 0) = false := by simpa using hc20
        have hlo3 : decide ((c1 : Int) < 512) = false := decide_eq_false (by omega)
        have htz3 : decide ((oz : Int) < (t : Int)) = false := decide_eq_false (by omega)
        have hto : (t : Int) = (c1 : Int) + c2 := by have := hhi'.out.2.2.2; omega
        have hoo : (oz : Int) = 512 + (z : Int) := by have := hoz'.out; omega
        have htz4 : decide (512 + (z : Int) < (c1 : Int) + (c2 : Int)) = false := decide_eq_false (by omega)
        have htz5 : decide (512 + (z : Int) < (t : Int)) = false := decide_eq_false (by omega)
        have htz6 : decide ((oz : Int) < (c1 : Int) + (c2 : Int)) = false := decide_eq_false (by omega)
        have htz7 : decide (oz < t) = false := decide_eq_false (by omega)
        clear hto hoo
        clear hS0 hKS hBw s1 s4 s5
        go_wp2_with fail
        refine region_cls_lex S (by kernel_rfl) (by kernel_rfl) (by kernel_rfl) h4 ?_
        repeat (first
          | go_big_quiet_skip
          | (go_big_quiet_want
             go_big_quiet_op
             first
             | go_big_quiet_on
             | (apply Exists.intro
                refine ⟨fun y => ?_, ?_⟩
                · first | exact rfl
                go_big_quiet_on)))
        refine wpQuiet_nil ?_
        intro y
        have K7 := Lib.hid (hKK.out _ y.h)
        obtain ⟨w7, hw7⟩ : ∃ w7, w7 = y.w := ⟨_, rfl⟩
        rw [← hw7] at K7 ⊢
        clear hw7 a0 a1 a2 a3 h4 hKK s2 s3 htz hlo2 hc20 hc20' hlo3 htz3 htz4 htz5 htz6 htz7
        clear y S
        go_wp2_with fail
        go_loopw [16] (fun kv wr => ∃ k : Nat, k ≤ i ∧ kv = .int .i64 k ∧ Hid (Below w5.heap.size w5 wr)) (fun kv _ => i - (RowKit.intOf kv).toNat)
        case atStart => exact ⟨0, by omega, rfl, K7⟩
        case round =>
          clear K6 K7
          obtain ⟨k, hk, rfl, hBk⟩ := hrel
          by_cases hki : k < i
          · have hki2 : (k : Int) < i := by omega
            have hkX : k < X.length := by rw [hm.out]; omega
            obtain ⟨g', eg, _, _, k2, k3⟩ := hcells.out k hkX
            cases eg
            have hap : X[i].1 + X[i].2 ≤ X[k].1 ∨ X[k].1 + X[k].2 ≤ X[i].1 := (List.pairwise_iff_getElem.1 hGd.out.apart k i hkX hiX hki).symm
            have hu := hGd.out.u32 (by omega) (List.getElem_mem hkX)
            have hui := hGd.out.u32 (by omega) (List.getElem_mem hiX)
            rw [← hc'.out] at hap hui
            have hcom := com_apart (r := (c1, c2)) hap
            obtain ⟨d, hd⟩ : ∃ d, d = X[k] := ⟨_, rfl⟩
            rw [← hd] at k2 k3 hu hcom
            obtain ⟨d1, d2⟩ := d
            dsimp only at k2 k3 hu hui hcom
            have hCo := fun w => common_any c1 c2 d1 d2 (by omega) (by omega) w
            rw [hcom] at hCo
            have k0' : (0 : Int) ≤ k := by omega
            have i0' : (0 : Int) ≤ i := by omega
            have hkm : (k : Int) < m := by omega
            obtain ⟨S, hS0⟩ : ∃ S, S = fun w' => Below wr.heap.size wr w' := ⟨_, rfl⟩
            have hKS : ∀ w', S w' → Below w5.heap.size w5 w' := fun w' h => by rw [hS0] at h; exact hBk.out.trans (h.mono hBk.out.size)
            have HS : ∀ w w', S w → Below w.heap.size w w' → S w' := fun w w' h k => by rw [hS0] at h ⊢; exact h.trans (k.mono h.size)
            have h4 : S wr.drew := by rw [hS0]; exact (Below.refl _ _).drew
            have a0 : ∀ y : Wd S, y.w.cell? ⟨g, i * 2, none⟩ = some (.int .u32 (c1 : Int)) := fun y => ((hKS _ y.h).cell (p := ⟨g, i * 2, none⟩) hgl.out).trans hk0.out
            have a1 : ∀ y : Wd S, y.w.cell? ⟨g, i * 2 + 1, none⟩ = some (.int .u32 (c2 : Int)) := fun y => ((hKS _ y.h).cell (p := ⟨g, i * 2 + 1, none⟩) hgl.out).trans hk1.out
            have a2 : ∀ y : Wd S, y.w.cell? ⟨g, k * 2, none⟩ = some (.int .u32 (d1 : Int)) := fun y => ((hKS _ y.h).cell (p := ⟨g, k * 2, none⟩) hgl.out).trans k2
            have a3 : ∀ y : Wd S, y.w.cell? ⟨g, k * 2 + 1, none⟩ = some (.int .u32 (d2 : Int)) := fun y => ((hKS _ y.h).cell (p := ⟨g, k * 2 + 1, none⟩) hgl.out).trans k3
            have cC := Lib.hid (show ∀ y : Wd S, Calls Tryd.prog 14 #[.agg #[.int .u32 (c1 : Int), .int .u32 (c2 : Int)], .agg #[.int .u32 (d1 : Int), .int .u32 (d2 : Int)]] y.w fun e w' => e = .returned (.bool false) ∧ ∃ y' : Wd S, w' = y'.w from
              fun y => (hCo y.w).mono fun e w2 k => ⟨k.1, ⟨w2, HS _ _ y.h k.2⟩, rfl⟩)
            have hKK := Lib.hid hKS
            clear hS0 hKS HS hCo hcom hap hu hui hd k2 k3 hBk
            go_wp2_with fail
            refine region_cls S (by kernel_rfl) (by kernel_rfl) h4 ?_
            repeat (first
              | go_big_quiet_skip
              | (go_big_quiet_want
                 go_big_quiet_op
                 first
                 | go_big_quiet_on
                 | (apply Exists.intro
                    refine ⟨fun y => ?_, ?_⟩
                    · first | exact rfl | with_reducible exact cC.out y
                    go_big_quiet_on)))
            refine wpQuiet_nil ?_
            intro y
            have K8 := Lib.hid (hKK.out _ y.h)
            obtain ⟨w8, hw8⟩ : ∃ w8, w8 = y.w := ⟨_, rfl⟩
            rw [← hw8] at K8 ⊢
            clear hw8 a0 a1 a2 a3 h4 hKK cC
            clear y S
            go_wp2_with fail
            go_roundw
            · exact ⟨k + 1, by omega, by simp, K8⟩
            · simp only [RowKit.intOf]; omega
          · obtain rfl : k = i := by omega
            have hki2 : ¬ (k : Int) < (k : Int) := by omega
            go_wp2_with fail
            go_roundw
            · exact ⟨k + 1, by omega, by simp, hBk⟩
            · simp only [RowKit.intOf]; omega
      · obtain rfl : i = m := by omega
        have hil2 : ¬ (i : Int) < (i : Int) := by omega
        have H8 := Lib.hid (HK5.out.grow hBw.out)
        have hsz := Lib.hid szp_ge
        clear hcells hBw HK5 X5
        go_wp2_with fail
        go_loopw [17] (fun nv wr => ∃ (j : Nat) (L R : List Rg), j ≤ 19 ∧ nv = .int .u32 ((1 + 37 * j : Nat) : Int) ∧ Hid (HK W B lo hi 2 (p + 2) L R wr)) (fun nv _ => 704 - (RowKit.intOf nv).toNat)
        case atStart => exact ⟨0, L, R, by omega, rfl, H8⟩
        case round =>
          clear H8
          obtain ⟨j, L', R', hj, rfl, HJ⟩ := hrel
          by_cases hjl : j < 19
          · obtain ⟨n, hn⟩ : ∃ n, n = 1 + 37 * j := ⟨_, rfl⟩
            have hszn : n ≤ szP n := by rw [hn]; exact hsz.out ⟨j, hjl⟩
            rw [← hn]
            have hn7 : (n : Int) < 700 := by omega
            have hM := mal_hk HJ.out n (by omega)
            rcases mal_cases 2 (p + 2) (L' ++ R') n with ⟨r, m1, m2, m3⟩ | ⟨m1, m2⟩
            · rw [m1, m2] at hM
              have hM' := Lib.hid hM
              obtain ⟨r1, r2⟩ := r
              dsimp only at m3
              have hr2 : n ≤ r2 := by omega
              have hr3 : ¬ (r2 : Int) < n := by omega
              have hn' := Lib.hid hn
              clear hM m1 m2 m3 hszn hn
              dsimp only [Option.getD, rgV] at hM'
              go_wp2_with fail
              refine hM'.out.mono ?_
              rintro e w9 ⟨rfl, hm9, H9⟩
              have hr0 : (r1, r2) ∈ insR (r1, r2) L' := (insR_mem _ _ _).2 (.inl rfl)
              have hu := H9.h.good.u32 H9.h.le (List.mem_append.2 (.inl hr0))
              dsimp only at hu
              have b19 : Below w9.heap.size w9 (w9.alloc (.cells #[.int .u32 (r1 : Int), .int .u32 (r2 : Int)] 26)) := (Below.refl _ _).alloc (Nat.le_refl _) _
              have X10 := Lib.hid (Bx.new w9 (.int .u32 (r1 : Int)) (.int .u32 (r2 : Int)) 26)
              have H10 := Lib.hid (HK.grow H9 b19)
              have hq9 := Lib.hid (show hi ≤ w9.heap.size from H9.his)
              go_upto_region 28 with (fail)
              generalize w9.alloc (.cells #[.int .u32 (r1 : Int), .int .u32 (r2 : Int)] 26) = w10 at X10 H10 ⊢
              obtain ⟨q, hq⟩ : ∃ q, q = w9.heap.size := ⟨_, rfl⟩
              rw [← hq] at X10 hq9 ⊢
              have hF := free_hk H10.out (r1, r2) (by dsimp only; omega)
              change Calls Tryd.prog 16 #[.pointer (some ⟨B.h, 0, none⟩), rgV (r1, r2)] w10 _ at hF
              rw [show malL L' (some (r1, r2)) = insR (r1, r2) L' from rfl, if_pos hr0, if_pos hr0] at hF
              have hF' := Lib.hid hF
              dsimp only [rgV] at hF'
              have x0 := X10.out.c0
              have x1 := X10.out.c1
              have hrb := Lib.hid hu
              clear hF hM' hm9 H9 b19 hq hr0
              go_wp2_with fail
              refine hF'.out.mono ?_
              rintro e w11 ⟨rfl, hm11, H11⟩
              have X11 := Lib.hid (X10.out.mid hm11 hq9.out)
              have hr1 : (r1, r2) ∈ insR (r1, r2) R' := (insR_mem _ _ _).2 (.inl rfl)
              have hRl := rel_hk H11 (r1, r2) (by dsimp only; have := hrb.out; omega)
              rw [if_pos hr1] at hRl
              have hRl' := Lib.hid hRl
              dsimp only [rgV] at hRl'
              have x0 := X11.out.c0
              have x1 := X11.out.c1
              clear hF' hRl H11 hm11 hr1
              go_wp2_with fail
              refine hRl'.out.mono ?_
              rintro e w12 ⟨rfl, hm12, H12⟩
              have H12' := Lib.hid H12
              clear hRl' H12 hm12 x0 x1
              go_wp2_with fail
              go_roundw
              · exact ⟨j + 1, _, _, by omega, by rw [show ((1 + 37 * (j + 1) : Nat) : Int) = (n : Int) + 37 by rw [hn'.out]; omega], H12'⟩
              · have := hn'.out; simp only [RowKit.intOf]; omega
            · have hn' := Lib.hid hn
              rw [m1] at hM
              have hE : (malE 2 (p + 2) (L' ++ R') n == 0) = false := by rcases m2 with h | h <;> rw [h] <;> rfl
              obtain ⟨E, hE0⟩ : ∃ E, E = malE 2 (p + 2) (L' ++ R') n := ⟨_, rfl⟩
              rw [← hE0] at hM hE
              have hM' := Lib.hid hM
              clear hM hE0 m1 m2 hszn hn
              dsimp only [Option.getD, rgV] at hM'
              go_wp2_with fail
              refine hM'.out.mono ?_
              rintro e w9 ⟨rfl, hm9, H9⟩
              have b19 : Below w9.heap.size w9 (w9.alloc (.cells #[.int .u32 ((0 : Nat) : Int), .int .u32 ((0 : Nat) : Int)] 26)) := (Below.refl _ _).alloc (Nat.le_refl _) _
              have H10 := Lib.hid (HK.grow H9 b19)
              clear hM' H9 hm9 b19
              go_wp2_with fail
              go_roundw
              · exact ⟨j + 1, _, _, by omega, by rw [show ((1 + 37 * (j + 1) : Nat) : Int) = (n : Int) + 37 by rw [hn'.out]; omega], H10⟩
              · have := hn'.out; simp only [RowKit.intOf]; omega
          · obtain rfl : j = 19 := by omega
            have hB := Lib.hid HJ.out.bl
            go_wp2_with fail
            go_ret
            exact ⟨rfl, hB.out⟩
theorem walk (pr : Int) (wpr : (Lit.int .u8 pr).wf = true) {H : Type} {enc : TypeId × Value → H} (v1 : Value) {d1 : DataW H} {p1 : List MemPlace} (W : World)
    (hv : Value.okWide Tryd.prog W .any 0 22 v1) (hd : DataW.Trod enc Tryd.prog W 0 (fun _ => true) true 22 v1 d1 p1) (hT : TabAt 0 Lib.deBruijn32tab W) :
    Calls Tryd.prog 3 #[.int .u8 pr, v1] W fun e w' => e = .returned (.bool true) ∧ Below W.heap.size W w' := by
  have b1 := bounds_u8 wpr
  obtain ⟨pr, rfl⟩ := Int.eq_ofNat_of_zero_le b1.1
  exact walkN pr (by omega) v1 W hv hd hT
set_option maxRecDepth 100000 in
theorem lifted (os : Os) (started : os.Started) (H : Type) (enc : TypeId × Value → H) :
    ReturnsInHanded {} Tryd.checked os 3 .any (fun w args => (Rows.heapApartSpec.pre enc Tryd.prog Tryd.f3 [] false w args ∧ laidMetH Tryd.prog Rows.heapApartRow.laid w) ∧ sizedMet enc Tryd.prog Tryd.f3 (OpenSpec.ofChange Rows.heapApartSpec) false w args) (Rows.heapApartSpec.post enc Tryd.prog Tryd.f3 false true false false) := by
  refine returnsInHanded_of_change_and (C := Tryd.checked) (X := fun w _ => laidMetH Tryd.prog Rows.heapApartRow.laid w) (fun _ _ _ hh h => h.of_heap hh) own started (by kernel_rfl) Tryd.func3
    (ChangeSpec.witness_at (enc := enc) (C := Tryd.checked) (os := os) (X := fun w _ => laidMetH Tryd.prog Rows.heapApartRow.laid w) false (laidWorld os) #[.int .u8 0, .slice none 0 0] 8 rfl (by kernel_rfl) (by kernel_rfl) (by kernel_rfl) (by kernel_rfl) (by kernel_rfl) (laid_met os _)) ?_
  intro W base args ds gs before hval0 hW _ _ hL _
  have hval : ∀ (j : Nat) t v, Tryd.f3.params[j]? = some t → args[j]? = some v → Value.okWide Tryd.prog W .any base t v := hval0
  have hW' := hW
  obtain ⟨p, q, hA0, hV, rfl, hfz, hnd⟩ := hW
  have hA : DataW.TrodAll enc Tryd.prog W 0 (fun _ => true) true Tryd.f3.params.toList args.toList ds p := hA0
  rw [Tryd.params3] at hA hval
  obtain ⟨v0, vs0, d0, ds0, p0, q0, hargs, rfl, rfl, h0, r0⟩ := trodAll_cons hA
  obtain ⟨v1, vs1, d1, ds1, p1, q1, rfl, rfl, rfl, h1, r1⟩ := trodAll_cons r0
  obtain ⟨rfl, rfl, rfl⟩ := trodAll_nil r1
  obtain rfl : args = #[v0, v1] := by cases args; simp_all
  obtain ⟨rfl, rfl⟩ := trodVars_none hV
  have k0 := h0
  have lt0 : ∀ x ∈ p0, x.block < W.heap.size := by obtain ⟨m, hm⟩ := k0; exact DataW.trod_lt m _ _ _ hm
  have k1 := h1
  have lt1 : ∀ x ∈ p1, x.block < W.heap.size := by obtain ⟨m, hm⟩ := k1; exact DataW.trod_lt m _ _ _ hm
  obtain ⟨pages, rfl, rfl, rfl, wpages⟩ := open_int Tryd.underlying5 (hval 0 5 v0 rfl rfl) h0
  clear hA0 hval0
  refine (walk pages wpages v1 W (hval 1 22 v1 rfl rfl) k1 (tabs_of_laid hL)).mono fun e W' ⟨he, bel⟩ => ?_
  subst he
  exact ⟨_, rfl, _, _, _, [], _, [], hW', trodAll_mk1 (shut_bool Tryd.underlying4 _), (trodAll_cons_mk (Below.trod laidOut (by kernel_rfl) (of_decide_eq_true (by kernel_rfl)) k0 bel lt0) (trodAll_cons_mk (Below.trod laidOut (by kernel_rfl) (of_decide_eq_true (by kernel_rfl)) k1 bel lt1) trodAll_mk0)), rfl, bel.frame _, fun h => by cases h⟩
theorem over : Rows.HeapApartSaid :=
  OpenClaim.holds_of_wide 3 Tryd.f3 rfl rfl rfl rfl rfl rfl rfl ⟨rfl, rfl, rfl, rfl, rfl⟩ rfl rfl rfl rfl rfl (by kernel_rfl) Tryd.func3 (by kernel_rfl)
    (of_decide_eq_true (by kernel_rfl)) (by unfold Func.isWrapper; first | (rw [if_pos (by decide +kernel)]; kernel_rfl) | (rw [if_neg (by decide +kernel)]; exact ⟨rfl, rfl⟩))
    (fun os started H enc _ => lifted os started H enc)
/-- The given statement. -/
theorem proved : Rows.HeapApartCardSaid :=
  Claim7.holds_tied_plain_at .later [] [.data] true (true, "c7df4fa58af645e7010f817469018e4855912b3de514d8c640a49e23bb05f2a6") true
    over (fun _ h => by cases h) (by kernel_rfl) (fun _ h => by cases h) heapApart_row_tie rfl ⟨rfl, rfl⟩ (by kernel_rfl) rfl
    (fun f fn hf hfn => by
      obtain rfl : f = 3 := Option.some.inj ((show Tryd.prog.funcNamed "fallow/fallowlaw14.HeapApart" = some 3 by kernel_rfl).symm.trans hf) |>.symm
      obtain rfl : fn = Tryd.f3 := (Option.some.inj (Tryd.func3.symm.trans hfn)).symm
      exact ⟨by kernel_rfl, fun j t ht => by
        rw [Tryd.params3] at ht
        rcases j with _ | _ | j
        · obtain rfl : t = 5 := by simpa using ht.symm
          exact (show Tryd.prog.wantsStandIn 5 = false by kernel_rfl)
        · obtain rfl : t = 22 := by simpa using ht.symm
          exact (show Tryd.prog.wantsStandIn 22 = false by kernel_rfl)
        · simp at ht⟩)
    (by kernel_rfl)
end Go.Proofs.YticfpnhfhhagpaaDoor.hapart
