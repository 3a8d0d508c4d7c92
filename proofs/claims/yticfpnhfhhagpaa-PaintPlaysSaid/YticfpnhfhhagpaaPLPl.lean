/- Proved: whatever is painted, and not any more, a paint answers, and has, what the document says (PaintPlays). For every input; no condition. -/
import Derived.Test.YticfpnhfhhagpaaRows
import Derived.Test.YticfpnhfhhagpaaPtP
import Derived.Test.YticfpnhfhhagpaaLex
import Derived.Deep.LoopGhost
import Derived.Deep.RegionHeld
import Derived.Deep.CutBlock
import Derived.ProofKit
import Derived.OpenShut
import Derived.ChangeOld
namespace Go.Proofs.Yticfpnhfhhagpaa.pplays
set_option maxRecDepth 100000
open Go.ChangeShapes Go.WideShapes Go.ChangeAt Go.RowKit Go.Shelf
set_option linter.unusedVariables false
set_option maxHeartbeats 8000000 in
theorem walk_no (b : Int) (h : b < 0 ∨ 262144 < b ∨ b % 16 ≠ 0) (hb1 : -9223372036854775808 ≤ b) (hb2 : b < 9223372036854775808) (v1 v2 : Value) (W : World) :
    Calls Try.prog 3 #[.int .i64 b, v1, v2] W fun e w' => e = .returned (.bool true) ∧ Below W.heap.size W w' := by
  have hN := Lib.hid (ptnew_no b W h)
  have hR := Lib.hid (fun w => (rnew b hb1 hb2 w).mono fun e w' k => (show e = .returned (.tuple #[.agg #[.slice none 0 0], .bool false]) ∧ Below w.heap.size w w' from by
    rcases k with ⟨_, k⟩ | ⟨n, v, ⟨hn, hn2⟩, _⟩
    · exact k
    · omega))
  clear h
  go_enter Try.func3, Try.ntmps3
  go_wp2_with fail
  refine hN.out.mono ?_
  rintro e w1 ⟨rfl, k⟩
  have B1 := Lib.hid k
  clear k hN
  go_wp2_with fail
  refine (hR.out w1).mono ?_
  rintro e w2 ⟨rfl, k⟩
  have B2 := Lib.hid (B1.out.trans (k.mono B1.out.size))
  clear k hR B1
  go_upto_region 3 with (fail)
  have B3 := Lib.hid (B2.out.alloc B2.out.size (.cells #[.slice none 0 0] 28))
  generalize w2.alloc (.cells #[.slice none 0 0] 28) = w3 at B3 ⊢
  go_wp2_with fail
  refine (works15_any w3).mono ?_
  rintro e w4 ⟨rfl, k⟩
  have B4 := Lib.hid (B3.out.trans (k.mono B3.out.size))
  clear k
  go_wp2_with fail
  go_ret
  exact ⟨rfl, B4.out⟩
set_option maxHeartbeats 16000000 in
theorem walk_yes (n : Nat) (hn : n ≤ 16384) (A : Option Addr) (len cap : Nat) (hlen : len ≤ 9223372036854775807) (at_ : Nat) (hat : at_ < 4294967296) (W : World) (hP : ActsIn W W.heap.size A len) :
    Calls Try.prog 3 #[.int .i64 (16 * n : Nat), .slice A len cap, .int .u32 at_] W fun e w' => e = .returned (.bool true) ∧ Below W.heap.size W w' := by
  obtain ⟨z, hz⟩ : ∃ z, z = 16 * n := ⟨_, rfl⟩
  have hN := Lib.hid (show Calls Try.prog 7 #[.int .i64 z] W fun e w' => ∃ p b wb, e = .returned (.pointer (some ⟨p, 0, none⟩)) ∧ PtAt w' p b wb n (fun _ => false) ∧ W.heap.size ≤ p ∧ W.heap.size ≤ b ∧ W.heap.size ≤ wb ∧ Below W.heap.size W w' by rw [hz]; exact ptnew_yes n W hn)
  have hR := Lib.hid (fun w => (rnew z (by omega) (by omega) w).mono fun e w' k => (show ∃ v, e = .returned (.tuple #[.agg #[v], .bool true]) ∧ DP w' w.heap.size v n (fun _ => false) ∧ Below w.heap.size w w' from by
    rcases k with ⟨h, _⟩ | ⟨n', v, ⟨hn1, hn2⟩, k⟩
    · omega
    · obtain rfl : n' = n := by omega
      exact ⟨v, k⟩))
  rw [← hz]
  clear hz
  replace hP := Lib.hid hP
  go_enter Try.func3, Try.ntmps3
  go_wp2_with fail
  refine hN.out.mono ?_
  rintro e w1 ⟨p, b, wb, rfl, k1, k2, k3, k4, k5⟩
  have K1 := Lib.hid (show TK W p b wb n (fun _ => false) w1 from ⟨k1, k5, k4⟩)
  clear k1 k2 k3 k4 k5 hN
  go_wp2_with fail
  refine (hR.out w1).mono ?_
  rintro e w2 ⟨v, rfl, hD, hb2⟩
  have hD' := Lib.hid hD
  have hb2' := Lib.hid hb2
  obtain ⟨A0, cap0, rfl, _⟩ := hD
  clear hb2 hR
  go_upto_region 3 with (fail)
  have hA : Below w2.heap.size w2 (w2.alloc (.cells #[.slice A0 n cap0] 28)) := (Below.refl _ _).alloc (Nat.le_refl _) _
  have K0 := Lib.hid (show PP W p b wb n (fun _ => false) (fun _ => false) w2.heap.size w1.heap.size (.slice A0 n cap0) (w2.alloc (.cells #[.slice A0 n cap0] 28)) from by
    have g1 := hb2'.out.size
    have q1 := K1.out.pt.lp
    have q2 := K1.out.pt.m.lb
    have q3 := K1.out.pt.m.lw
    have q4 := K1.out.bel.size
    exact ⟨(K1.out.grow hb2'.out).grow hA, by simp, by simp, hD'.out.grow hA, q3, by simp; omega, by omega, by omega, by omega, by simp, by omega⟩)
  generalize w2.alloc (.cells #[.slice A0 n cap0] 28) = w3 at K0 ⊢
  obtain ⟨q, hq⟩ : ∃ q, q = w2.heap.size := ⟨_, rfl⟩
  obtain ⟨base, hbase⟩ : ∃ base, base = w1.heap.size := ⟨_, rfl⟩
  rw [← hq, ← hbase] at K0
  rw [← hq]
  generalize (fun _ : Nat => false) = f0 at *
  clear hq hbase hA hD' hb2' K1
  go_wp2_with fail
  go_loopw [10] (fun i wr => ∃ (k : Nat) (f : Nat → Bool) (A1 : Option Addr) (c1 : Nat), i = .int .i64 k ∧ k ≤ 40 ∧ Hid (PP W p b wb n f f q base (.slice A1 n c1) wr)) (fun i _ => 41 - (intOf i).toNat)
  case atStart => exact ⟨0, f0, A0, cap0, rfl, by omega, K0⟩
  case round =>
    clear K0
    obtain ⟨k, f, A1, c1, rfl, hk, HP⟩ := hrel
    by_cases hlt : k < len ∧ k < 40
    · have j1 : (k : Int) < (len : Int) := by omega
      have j2 : (k : Int) < 40 := by omega
      obtain ⟨bq, off, rfl, hbq, x0, x1, x2, ⟨r0, r1, r2⟩, c0, c1', c2⟩ := hP.out k hlt.1
      have hcl := Lib.hid (show ∀ w, Below W.heap.size W w → w.cell? ⟨bq, off + k * 3, none⟩ = some (.int .i64 x0) ∧ w.cell? ⟨bq, off + k * 3 + 1, none⟩ = some (.int .u32 x1) ∧ w.cell? ⟨bq, off + k * 3 + 2, none⟩ = some (.int .u32 x2) from fun w hw =>
        ⟨(hw.cell (p := ⟨bq, off + k * 3, none⟩) hbq).trans c0, (hw.cell (p := ⟨bq, off + k * 3 + 1, none⟩) hbq).trans c1', (hw.cell (p := ⟨bq, off + k * 3 + 2, none⟩) hbq).trans c2⟩)
      have d0 := (hcl.out wr HP.out.k.bel).1
      have hlt' := Lib.hid hlt
      clear c0 c1' c2 hbq r0 hlt
      go_upto_block 2 with (fail)
      go_cut [11, 12] (fun x want w' => ∃ (r : Bool) (f' : Nat → Bool) (A2 : Option Addr) (c2 : Nat), x = .bool r ∧ want = .bool r ∧ Hid (PP W p b wb n f' f' q base (.slice A2 n c2) w'))
      case first =>
        by_cases h0 : x0 = 0
        · subst h0
          have hA := Lib.hid ((ptadd x1 x2 r1 r2 HP.out.k.pt).mono fun e w' h => HP.out.post h)
          have hB := Lib.hid (fun (w : World) (F : Nat → Bool) (K : PP W p b wb n F f q base (.slice A1 n c1) w) => radd K.d hn K.bs x1 x2 r1 r2)
          obtain ⟨ok, hok⟩ : ∃ ok, ok = okT n f x1 x2 true := ⟨_, rfl⟩
          obtain ⟨F, hF⟩ : ∃ F, F = tnF n f x1 x2 true := ⟨_, rfl⟩
          rw [← hok, ← hF] at hA
          have hok' := Lib.hid hok
          have hF' := Lib.hid hF
          clear hok hF
          obtain ⟨d1, d2⟩ := (hcl.out wr HP.out.k.bel).2
          go_wp2_with fail
          refine hA.out.mono ?_
          rintro e w5 ⟨rfl, K5⟩
          have K5' := Lib.hid K5
          clear hA d1 d2
          have D5 : Below w5.heap.size w5 w5.drew := (Below.refl _ _).drew
          have K6 := Lib.hid (K5.grow D5)
          have hC := Lib.hid ((hB.out w5.drew F K6.out).mono fun e w' k => (show ∃ v', e = .returned (.tuple #[.agg #[v'], .bool ok]) ∧ PP W p b wb n F f q base (.slice A1 n c1) w' ∧ DP w' base v' n F from by
            obtain ⟨v', k1, k2, k3⟩ := k
            exact ⟨v', by rw [k1, hok'.out], K6.out.grow k3, by rw [hF'.out]; exact k2⟩))
          have a0 := K6.out.c
          obtain ⟨a1, a2⟩ := (hcl.out w5 K5.k.bel).2
          clear K5 D5 hB
          go_wp2_with fail
          go_region_with (go_at_call 11; refine hC.out.mono ?_; rintro e w7 ⟨v', rfl, k7, hD⟩; have K7 := Lib.hid k7; have K8 := Lib.hid (k7.set hD); have c7 := k7.c; have f7 := k7.fr; obtain ⟨A', cap', rfl, _⟩ := hD; clear k7)
          all_goals
            go_wp2_with fail
            go_meet
            exact ⟨ok, F, A', cap', rfl, rfl, K8⟩
        · by_cases h1 : x0 = 1
          · subst h1
            have hA := Lib.hid ((ptrem x1 x2 r1 r2 HP.out.k.pt).mono fun e w' h => HP.out.post h)
            have hB := Lib.hid (fun (w : World) (F : Nat → Bool) (K : PP W p b wb n F f q base (.slice A1 n c1) w) => rrem K.d hn K.bs x1 x2 r1 r2)
            obtain ⟨ok, hok⟩ : ∃ ok, ok = okT n f x1 x2 false := ⟨_, rfl⟩
            obtain ⟨F, hF⟩ : ∃ F, F = tnF n f x1 x2 false := ⟨_, rfl⟩
            rw [← hok, ← hF] at hA
            have hok' := Lib.hid hok
            have hF' := Lib.hid hF
            clear hok hF
            obtain ⟨d1, d2⟩ := (hcl.out wr HP.out.k.bel).2
            go_wp2_with fail
            refine hA.out.mono ?_
            rintro e w5 ⟨rfl, K5⟩
            have K5' := Lib.hid K5
            clear hA d1 d2
            have D5 : Below w5.heap.size w5 w5.drew := (Below.refl _ _).drew
            have K6 := Lib.hid (K5.grow D5)
            have hC := Lib.hid ((hB.out w5.drew F K6.out).mono fun e w' k => (show ∃ v', e = .returned (.tuple #[.agg #[v'], .bool ok]) ∧ PP W p b wb n F f q base (.slice A1 n c1) w' ∧ DP w' base v' n F from by
              obtain ⟨v', k1, k2, k3⟩ := k
              exact ⟨v', by rw [k1, hok'.out], K6.out.grow k3, by rw [hF'.out]; exact k2⟩))
            have a0 := K6.out.c
            obtain ⟨a1, a2⟩ := (hcl.out w5 K5.k.bel).2
            clear K5 D5 hB
            go_wp2_with fail
            go_region_with (go_at_call 13; refine hC.out.mono ?_; rintro e w7 ⟨v', rfl, k7, hD⟩; have K7 := Lib.hid k7; have K8 := Lib.hid (k7.set hD); have c7 := k7.c; have f7 := k7.fr; obtain ⟨A', cap', rfl, _⟩ := hD; clear k7)
            all_goals
              go_wp2_with fail
              go_meet
              exact ⟨ok, F, A', cap', rfl, rfl, K8⟩
          · obtain ⟨d1, d2⟩ := (hcl.out wr HP.out.k.bel).2
            have hC := Lib.hid (ptcopy HP.out.k.pt)
            go_wp2_with fail
            refine hC.out.mono ?_
            rintro e w5 ⟨q', b', wb', rfl, P5, l1, l2, l3, hb5⟩
            have hb5' := Lib.hid hb5
            obtain ⟨d1, d2⟩ := (hcl.out w5 (HP.out.k.bel.trans (hb5.mono HP.out.k.bel.size))).2
            have hA := Lib.hid ((ptadd x1 x2 r1 r2 P5).mono fun e w' h => (show ∃ o g, e = .returned (.bool o) ∧ PtAt w' q' b' wb' n g ∧ Below wr.heap.size wr w' from ⟨_, _, h.1, h.2.1, hb5.trans (h.2.2.below hb5.size l3)⟩))
            have l3' := Lib.hid l3
            clear P5 l1 l2 l3 hb5 hC
            go_wp2_with fail
            refine hA.out.mono ?_
            rintro e w6 ⟨o, g, rfl, P6, hb6⟩
            have hb6' := Lib.hid hb6
            obtain ⟨d1, d2⟩ := (hcl.out w6 (HP.out.k.bel.trans (hb6.mono HP.out.k.bel.size))).2
            have hR := Lib.hid ((ptrem x1 x2 r1 r2 P6).mono fun e w' h => (show ∃ o, e = .returned (.bool o) ∧ Below wr.heap.size wr w' from ⟨_, h.1, hb6.trans (h.2.2.below hb6.size l3'.out)⟩))
            clear P6 hb6 hA
            cases o
            · go_wp2_with fail
              refine hR.out.mono ?_
              rintro e w7 ⟨o, rfl, hb7⟩
              have K7 := Lib.hid (HP.out.grow hb7)
              clear hb7 hR
              go_wp2_with fail
              go_meet
              exact ⟨true, f, A1, c1, rfl, rfl, K7⟩
            · have K7 := Lib.hid (HP.out.grow hb6'.out)
              clear hR
              go_wp2_with fail
              go_meet
              exact ⟨true, f, A1, c1, rfl, rfl, K7⟩
      case rest =>
        obtain ⟨r, f', A2, c2, rfl, rfl, HQ⟩ := hcut
        clear HP d0
        obtain ⟨bb, hbb⟩ : ∃ bb, bb = (x1 + x2) % 4294967296 := ⟨_, rfl⟩
        obtain ⟨bc, hbc⟩ : ∃ bc, bc = (bb + 4294967295) % 4294967296 := ⟨_, rfl⟩
        have s1 : IntKind.u32.wrap ((x1 : Int) + x2) = bb := by rw [IntKind.wrap_u32]; omega
        have s2 : IntKind.u32.wrap ((bb : Int) - 1) = bc := by rw [IntKind.wrap_u32]; omega
        have hbl : bb < 4294967296 := by omega
        have hcl2 : bc < 4294967296 := by omega
        obtain ⟨S, hS0⟩ : ∃ S, S = fun w' => Below wc.heap.size wc w' := ⟨_, rfl⟩
        have hKS : ∀ w', S w' → PP W p b wb n f' f' q base (.slice A2 n c2) w' := fun w' h => by rw [hS0] at h; exact HQ.out.grow h
        have HS : ∀ w w', S w → Below w.heap.size w w' → S w' := fun w w' h k => by rw [hS0] at h ⊢; exact h.trans (k.mono h.size)
        have h4 : S wc.drew := by rw [hS0]; exact (Below.refl _ _).drew
        have a1 : ∀ y : Wd S, y.w.cell? ⟨bq, off + k * 3 + 1, none⟩ = some (.int .u32 x1) := fun y => (hcl.out _ (hKS _ y.h).k.bel).2.1
        have a2 : ∀ y : Wd S, y.w.cell? ⟨bq, off + k * 3 + 2, none⟩ = some (.int .u32 x2) := fun y => (hcl.out _ (hKS _ y.h).k.bel).2.2
        have hKK := Lib.hid hKS
        have HSS := Lib.hid HS
        clear hS0 hbb hbc hKS HS
        go_wp2_with fail
        refine region_cls S (by kernel_rfl) (by kernel_rfl) h4 ?_
        repeat (first
          | go_big_quiet_skip
          | (go_big_quiet_want
             go_big_quiet_op
             first
             | go_big_quiet_on
             | (apply Exists.intro
                refine ⟨fun y => ?_, ?_⟩
                · first | exact rfl
                go_big_quiet_on)))
        refine wpQuiet_nil ?_
        intro y
        have K5 := Lib.hid (hKK.out _ y.h)
        obtain ⟨w5, hw5⟩ : ∃ w5, w5 = y.w := ⟨_, rfl⟩
        rw [← hw5] at K5 ⊢
        clear hw5 a1 a2 h4 hKK HSS HQ
        clear y S
        obtain ⟨S, hS0⟩ : ∃ S, S = fun w' => Below w5.heap.size w5 w' := ⟨_, rfl⟩
        have hKS : ∀ w', S w' → PP W p b wb n f' f' q base (.slice A2 n c2) w' := fun w' h => by rw [hS0] at h; exact K5.out.grow h
        have HS : ∀ w w', S w → Below w.heap.size w w' → S w' := fun w w' h k => by rw [hS0] at h ⊢; exact h.trans (k.mono h.size)
        have h4 : S w5.drew := by rw [hS0]; exact (Below.refl _ _).drew
        have a0 : ∀ y : Wd S, y.w.cell? ⟨q, 0, none⟩ = some (.slice A2 n c2) := fun y => (hKS _ y.h).c
        obtain ⟨C, cC, cD⟩ := count_both hKS HS hn
        obtain ⟨u0, e0, g0⟩ := has_both hKS HS hn x1 r1
        obtain ⟨u1, e1, g1⟩ := has_both hKS HS hn bb hbl
        obtain ⟨u2, e2, g2⟩ := has_both hKS HS hn bc hcl2
        obtain ⟨u3, e3, g3⟩ := has_both hKS HS hn at_ hat
        replace cC := Lib.hid cC
        replace cD := Lib.hid cD
        replace e0 := Lib.hid e0
        replace e1 := Lib.hid e1
        replace e2 := Lib.hid e2
        replace e3 := Lib.hid e3
        replace g0 := Lib.hid g0
        replace g1 := Lib.hid g1
        replace g2 := Lib.hid g2
        replace g3 := Lib.hid g3
        have hKK := Lib.hid hKS
        clear hS0 hKS HS
        go_wp2_with fail
        refine region_cls_lex S (by kernel_rfl) (by kernel_rfl) (by kernel_rfl) h4 ?_
        repeat (first
          | go_big_quiet_skip
          | (go_big_quiet_want
             go_big_quiet_op
             first
             | go_big_quiet_on
             | (apply Exists.intro
                refine ⟨fun y => ?_, ?_⟩
                · first | exact rfl | with_reducible exact cC.out y | with_reducible exact cD.out y | with_reducible exact e0.out y | with_reducible exact e1.out y | with_reducible exact e2.out y | with_reducible exact e3.out y | with_reducible exact g0.out y | with_reducible exact g1.out y | with_reducible exact g2.out y | with_reducible exact g3.out y
                go_big_quiet_on)))
        refine wpQuiet_nil ?_
        intro y
        have K6 := Lib.hid (hKK.out _ y.h)
        obtain ⟨w6, hw6⟩ : ∃ w6, w6 = y.w := ⟨_, rfl⟩
        rw [← hw6] at K6 ⊢
        clear hw6 a0 h4 hKK e0 e1 e2 e3 g0 g1 g2 g3 cC cD
        clear y S
        go_wp2_with fail
        go_roundw
        case rel => exact ⟨k + 1, f', A2, c2, by go_num, by have := hlt'.out.2; omega, K6⟩
        case measure => have := hlt'.out.2; simp [intOf]; omega
    · have hWk := Lib.hid (fun w => works15_any w)
      have hc : ((k : Int) < len ∧ ¬ (k : Int) < 40) ∨ ¬ (k : Int) < len := by omega
      rcases hc with ⟨hc, hc2⟩ | hc
      all_goals
        go_wp2_with fail
        refine (hWk.out _).mono ?_
        rintro e w9 ⟨rfl, k9⟩
        have hB9 := Lib.hid (HP.out.k.bel.trans (k9.mono HP.out.k.bel.size))
        clear k9
        go_wp2_with fail
        go_ret
        exact ⟨rfl, hB9.out⟩
theorem walk {H : Type} {enc : TypeId × Value → H} (b : Int) (wbt : (Lit.int .i64 b).wf = true) (v1 : Value) {d1 : DataW H} {p1 : List MemPlace} (at_ : Int) (wat : (Lit.int .u32 at_).wf = true) (W : World)
    (hv : Value.okWide Try.prog W .any 0 22 v1) (hd : DataW.Trod enc Try.prog W 0 (fun _ => true) true 22 v1 d1 p1) :
    Calls Try.prog 3 #[.int .i64 b, v1, .int .u32 at_] W fun e w' => e = .returned (.bool true) ∧ Below W.heap.size W w' := by
  obtain ⟨A, len, cap, rfl, hcap, hm, hP⟩ := acts_of hv hd
  have hlen : len ≤ 9223372036854775807 := by unfold maxLen at hm; omega
  have b1 := bounds_i64 wbt
  have b2 := bounds_u32 wat
  obtain ⟨at_, rfl⟩ := Int.eq_ofNat_of_zero_le b2.1
  by_cases h1 : b < 0 ∨ 262144 < b ∨ b % 16 ≠ 0
  · exact walk_no b h1 (by omega) (by omega) _ _ W
  · obtain ⟨n, rfl⟩ : ∃ n : Nat, b = ((16 * n : Nat) : Int) := ⟨(b / 16).toNat, by omega⟩
    exact walk_yes n (by omega) A len cap hlen at_ (by omega) W hP
theorem own : ownKnob Try.prog.godebug = none := by kernel_rfl
theorem laidOut : laidOutB Try.prog = true := by kernel_rfl
set_option maxRecDepth 100000 in
theorem lifted (os : Os) (started : os.Started) (H : Type) (enc : TypeId × Value → H) :
    ReturnsInHanded {} Try.checked os 3 .any (Rows.paintPlaysSpec.pre6 enc Try.prog Try.f3 Rows.paintPlaysRow.domain false) (Rows.paintPlaysSpec.post enc Try.prog Try.f3 false true false false) := by
  refine returnsInHanded_of_change (C := Try.checked) own started (by kernel_rfl) Try.func3
    (ChangeSpec.witness6 (enc := enc) (C := Try.checked) false ⟨#[], #[.int .i64 0, .slice none 0 0, .int .u32 0], []⟩ 8 (by kernel_rfl) (by kernel_rfl) (by kernel_rfl) (by kernel_rfl)) ?_
  intro W base args ds gs before hval0 hW hcnd hsz
  have hval : ∀ (j : Nat) t v, Try.f3.params[j]? = some t → args[j]? = some v → Value.okWide Try.prog W .any base t v := hval0
  have hW' := hW
  obtain ⟨p, q, hA0, hV, rfl, hfz, hnd⟩ := hW
  have hA : DataW.TrodAll enc Try.prog W 0 (fun _ => true) true Try.f3.params.toList args.toList ds p := hA0
  rw [Try.params3] at hA hval
  obtain ⟨v0, vs0, d0, ds0, p0, q0, hargs, rfl, rfl, h0, r0⟩ := trodAll_cons hA
  obtain ⟨v1, vs1, d1, ds1, p1, q1, rfl, rfl, rfl, h1, r1⟩ := trodAll_cons r0
  obtain ⟨v2, vs2, d2, ds2, p2, q2, rfl, rfl, rfl, h2, r2⟩ := trodAll_cons r1
  obtain ⟨rfl, rfl, rfl⟩ := trodAll_nil r2
  obtain rfl : args = #[v0, v1, v2] := by cases args; simp_all
  obtain ⟨rfl, rfl⟩ := trodVars_none hV
  have k0 := h0
  have lt0 : ∀ x ∈ p0, x.block < W.heap.size := by obtain ⟨m, hm⟩ := k0; exact DataW.trod_lt m _ _ _ hm
  have k1 := h1
  have lt1 : ∀ x ∈ p1, x.block < W.heap.size := by obtain ⟨m, hm⟩ := k1; exact DataW.trod_lt m _ _ _ hm
  have k2 := h2
  have lt2 : ∀ x ∈ p2, x.block < W.heap.size := by obtain ⟨m, hm⟩ := k2; exact DataW.trod_lt m _ _ _ hm
  obtain ⟨bytes, rfl, rfl, rfl, wbytes⟩ := open_int Try.underlying3 (hval 0 3 v0 rfl rfl) h0
  obtain ⟨place, rfl, rfl, rfl, wplace⟩ := open_int Try.underlying23 (hval 2 23 v2 rfl rfl) h2
  clear hA0 hval0
  refine (walk bytes wbytes v1 place wplace W (hval 1 22 v1 rfl rfl) k1).mono fun e W' ⟨he, bel⟩ => ?_
  subst he
  exact ⟨_, rfl, _, _, _, [], _, [], hW', trodAll_mk1 (shut_bool Try.underlying4 _), (trodAll_cons_mk (Below.trod laidOut (by kernel_rfl) (of_decide_eq_true (by kernel_rfl)) k0 bel lt0) (trodAll_cons_mk (Below.trod laidOut (by kernel_rfl) (of_decide_eq_true (by kernel_rfl)) k1 bel lt1) (trodAll_cons_mk (Below.trod laidOut (by kernel_rfl) (of_decide_eq_true (by kernel_rfl)) k2 bel lt2) trodAll_mk0))), rfl, bel.frame _, fun h => by cases h⟩
theorem over : Rows.paintPlaysRow.holds Try.pinned (OpenSpec.ofChange Rows.paintPlaysSpec) :=
  OpenClaim.holds_of_wide 3 Try.f3 rfl rfl rfl rfl rfl rfl rfl ⟨rfl, rfl, rfl, rfl, rfl⟩ rfl rfl rfl rfl rfl (by kernel_rfl) Try.func3 (by kernel_rfl)
    (of_decide_eq_true (by kernel_rfl)) (by unfold Func.isWrapper; first | (rw [if_pos (by decide +kernel)]; kernel_rfl) | (rw [if_neg (by decide +kernel)]; exact ⟨rfl, rfl⟩))
    (fun os started H enc _ => lifted os started H enc)
/-- The given statement. -/
theorem proved : Rows.PaintPlaysSaid := over
end Go.Proofs.Yticfpnhfhhagpaa.pplays
