/- Proved: what is painted is just the granules of the regions that were added and not removed (PaintApart). For every input; no condition. -/
import Derived.Test.YticfpnhfhhagpaaRows
import Derived.Test.YticfpnhfhhagpaaPtS
import Derived.Test.YticfpnhfhhagpaaNums
import Derived.Test.YticfpnhfhhagpaaCls
import Derived.Deep.LoopGhost
import Derived.Deep.DeepCutAuto
import Derived.Deep.RegionHeld
import Derived.Deep.CutRange
import Derived.ProofKit
import Derived.OpenShut
import Derived.ChangeOld
namespace Go.Proofs.Yticfpnhfhhagpaa.papart
open Go.ChangeShapes Go.WideShapes Go.ChangeAt Go.RowKit
set_option linter.unusedVariables false
def z72 : Array Value := Array.replicate 72 (.bool false)
set_option maxRecDepth 100000 in
set_option maxHeartbeats 16000000 in
theorem walk {H : Type} {enc : TypeId × Value → H} (v1 : Value) {d1 : DataW H} {p1 : List MemPlace} (W : World)
    (hv : Value.okWide Try.prog W .any 0 44 v1) (hd : DataW.Trod enc Try.prog W 0 (fun _ => true) true 44 v1 d1 p1) :
    Calls Try.prog 4 #[v1] W fun e w' => e = .returned (.bool true) ∧ Below W.heap.size W w' := by
  obtain ⟨A, len, cap, rfl, hcap, hm, hP⟩ := nums_of Try.underlying44 Try.underlying5 (by kernel_rfl) hv hd
  have hlen : len ≤ 9223372036854775807 := by unfold maxLen at hm; omega
  clear hv hd hm
  have hz1 : ∀ w, (zeroValue 45).run Try.prog w = .ok (.agg z72) w := fun w => by kernel_rfl
  have hN := Lib.hid (tnewK (W := W) 64 W (by omega) (Below.refl _ _) 1024 (by rfl))
  go_enter Try.func4, Try.ntmps4
  go_wp2_with fail
  refine hN.out.mono ?_
  rintro e w3 ⟨p, b, wb, rfl, k⟩
  have K3 := Lib.hid k
  clear k hN
  go_upto_region 5 with (fail)
  have S0 := Lib.hid (SA.start K3.out 45)
  change Hid (SA W p b wb w3.heap.size _ _ (w3.alloc (Obj.cells z72 45))) at S0
  generalize w3.alloc (Obj.cells z72 45) = w4 at *
  generalize w3.heap.size = qh at *
  generalize (fun _ : Nat => false) = f0 at *
  replace hP := Lib.hid hP
  clear K3 hz1
  go_wp2_with fail
  go_loopw [5] (fun i wr => ∃ (k : Nat) (f : Nat → Bool), i = .int .i64 k ∧ k ≤ 100 ∧ Hid (SA W p b wb qh f f wr)) (fun i _ => 101 - (intOf i).toNat)
  case atStart => exact ⟨0, f0, rfl, by omega, S0⟩
  case round =>
    clear S0
    obtain ⟨k, f, rfl, hk, HS⟩ := hrel
    by_cases hlt : 3 * k + 2 < len ∧ k < 100
    · have j1 : 3 * (k : Int) + 2 < (len : Int) := by omega
      have j2 : (k : Int) < 100 := by omega
      obtain ⟨bl, off, rfl, _, x, hx, hwx⟩ := (hP.out.below HS.out.k.bel) (3 * k + 1) (by omega)
      obtain ⟨bl', off', e', _, y, hy, hwy⟩ := (hP.out.below HS.out.k.bel) (3 * k + 2) hlt.1
      cases e'
      obtain ⟨bl', off', e', _, z, hz, hwz⟩ := (hP.out.below HS.out.k.bel) (3 * k) (by omega)
      cases e'
      have bx := bounds_u8 hwx
      have bY := bounds_u8 hwy
      have bz := bounds_u8 hwz
      obtain ⟨X, rfl⟩ := Int.eq_ofNat_of_zero_le bx.1
      obtain ⟨Y, rfl⟩ := Int.eq_ofNat_of_zero_le bY.1
      obtain ⟨Z, rfl⟩ := Int.eq_ofNat_of_zero_le bz.1
      obtain ⟨x, hx0⟩ : ∃ x, x = X % 64 := ⟨_, rfl⟩
      obtain ⟨n, hn0⟩ : ∃ n, n = 1 + Y % 8 := ⟨_, rfl⟩
      obtain ⟨t, ht⟩ : ∃ t, t = ((Z : Int) % 2 == 0) := ⟨_, rfl⟩
      have e1 : (X : Int) % 64 = x := by omega
      have e2 : 1 + (Y : Int) % 8 = n := by omega
      have e3 : ((Z : Int) % 2 == 0) = t := ht.symm
      have hxb : x < 64 := by omega
      have hnb : 1 ≤ n ∧ n ≤ 8 := by omega
      have t1 : (3 * (k : Int) + 1).toNat = 3 * k + 1 := by omega
      have t2 : (3 * (k : Int) + 2).toNat = 3 * k + 2 := by omega
      have t3 : (3 * (k : Int)).toNat = 3 * k := by omega
      have t4 : 3 * (k : Int) < (len : Int) := by omega
      have t5 : 3 * (k : Int) + 1 < (len : Int) := by omega
      clear hwx hwy hwz ht hx0 hn0
      obtain ⟨a, ha⟩ : ∃ a, a = 16 * x := ⟨_, rfl⟩
      obtain ⟨s, hs⟩ : ∃ s, s = 16 * n := ⟨_, rfl⟩
      have ea : 16 * (x : Int) = a := by omega
      have es : 16 * (n : Int) = s := by omega
      have hab : a < 1024 := by omega
      have hsb : s ≤ 128 := by omega
      replace ha := Lib.hid ha
      replace hs := Lib.hid hs
      go_upto_region 11 with (fail)
      rw [e1]
      obtain ⟨w5, hw5⟩ : ∃ w5, w5 = wr.alloc (.cells #[.int .u32 (a : Int), .int .u32 (s : Int)] 33) := ⟨_, rfl⟩
      have hb5 : Below wr.heap.size wr w5 := by rw [hw5]; exact (Below.refl _ _).alloc (Nat.le_refl _) _
      have S5 := Lib.hid (show SA W p b wb qh f f w5 ∧ RgAt w5 wr.heap.size a s ∧ qh < wr.heap.size ∧ wb < wr.heap.size from ⟨HS.out.below hb5, by rw [hw5]; exact ⟨by simp, by simp, by simp⟩, HS.out.l, HS.out.k.pt.m.lw⟩)
      have hz5 : w5.cell? ⟨bl, off + 3 * k, none⟩ = some (.int .u8 Z) := (hb5.cell (p := ⟨bl, off + 3 * k, none⟩) (lt_of_cell' hz)).trans hz
      rw [← hw5]
      obtain ⟨q, hq⟩ : ∃ q, q = wr.heap.size := ⟨_, rfl⟩
      rw [← hq] at S5 ⊢
      clear hx hy hz hw5 hb5 hq HS
      go_upto_region 12 with (fail)
      clear hz5 t1 t2 t3 t4 t5
      have hJ0 : decide ((x : Int) + n ≤ 64) = isJ f x n t 0 := by
        unfold isJ
        rw [List.range_zero, List.all_nil, Bool.and_true, decide_eq_decide]
        omega
      have hxn : (x : Int) + n < 72 := by omega
      go_upto_region 14 with (fail)
      try rw [hJ0]
      clear hJ0
      go_wp2_with fail
      go_loopw [10, 11] (fun iv kv wr => ∃ j : Nat, j ≤ n ∧ iv = .bool (isJ f x n t j) ∧ kv = .int .i64 ((x : Int) + j) ∧ Hid (SA W p b wb qh f f wr ∧ RgAt wr q a s ∧ qh < q ∧ wb < q)) (fun _ kv _ => x + n - (intOf kv).toNat)
      case atStart => exact ⟨0, by omega, rfl, by simp, S5⟩
      case round =>
        clear S5
        obtain ⟨j, hj, rfl, rfl, HS⟩ := hrel
        by_cases hjn : j < n
        · have hlj : (x : Int) + j < (x : Int) + n := by omega
          have hsucc := Lib.hid (isJ_succ f x n t j)
          cases hv : isJ f x n t j
          · replace hv := Lib.hid hv
            go_wp2_with fail
            go_roundw
            case rel => exact ⟨j + 1, by omega, by rw [hsucc.out, hv.out]; rfl, by go_num, HS⟩
            case measure => simp [intOf]; omega
          · replace hv := Lib.hid hv
            have c0 := (HS.out.1.a.cs (x + j) (by omega)).1
            have i1 : ((x : Int) + j).toNat = x + j := by omega
            have i2 : (0 : Int) ≤ (x : Int) + j := by omega
            have i3 : (x : Int) + j < 72 := by omega
            obtain ⟨y, hy⟩ : ∃ y, y = f (x + j) := ⟨_, rfl⟩
            rw [← hy] at c0
            have hy' := Lib.hid hy
            clear hy
            cases y <;> cases t
            all_goals
              go_wp2_with fail
              go_roundw
              case rel => exact ⟨j + 1, by omega, by rw [hsucc.out, hv.out, ← hy'.out]; rfl, by go_num, HS⟩
              case measure => simp [intOf]; omega
        · obtain rfl : j = n := by omega
          have hlj : ¬ (x : Int) + j < (x : Int) + j := by omega
          have hok := Lib.hid (isJ_ok f x j t (by omega))
          obtain ⟨ok, hok2⟩ : ∃ ok, ok = isJ f x j t j := ⟨_, rfl⟩
          rw [← hok2]
          have hok3 := Lib.hid hok2
          have r0 := HS.out.2.1.c0
          have r1 := HS.out.2.1.c1
          have hAd := Lib.hid (ptadd a s (by omega) (by omega) HS.out.1.k.pt)
          have hRe := Lib.hid (ptrem a s (by omega) (by omega) HS.out.1.k.pt)
          have hokt : okT 64 f a s t = ok := by rw [ha.out, hs.out, hok.out, hok2]
          have hyes : ok = true → ∀ k, turnJ f x t j k = tnF 64 f a s t k := fun h => by rw [ha.out, hs.out]; exact turnJ_yes f x j t (by rw [hok.out, ← hok2]; exact h)
          have hno : ok = false → tnF 64 f a s t = f := fun h => tnF_no (hokt.trans h)
          obtain ⟨F, hF⟩ : ∃ F, F = tnF 64 f a s t := ⟨_, rfl⟩
          rw [← hF] at hyes hno
          have hF' := Lib.hid hF
          have hyes' := Lib.hid hyes
          have hno' := Lib.hid hno
          have hokt' := Lib.hid hokt
          clear hF hyes hno hok2 hokt hok ha hs
          have hcall : Hid (∀ t', t' = t → (t' = true → Calls Try.prog 10 #[.pointer (some ⟨p, 0, none⟩), .agg #[.int .u32 a, .int .u32 s]] wr fun e w' => e = .returned (.bool ok) ∧ SA W p b wb qh F f w') ∧ (t' = false → Calls Try.prog 12 #[.pointer (some ⟨p, 0, none⟩), .agg #[.int .u32 a, .int .u32 s]] wr fun e w' => e = .returned (.bool ok) ∧ SA W p b wb qh F f w')) := by
            refine Lib.hid fun t' ht => ⟨fun h => ?_, fun h => ?_⟩
            · have ht2 : t = true := ht.symm.trans h
              subst ht2
              refine hAd.out.mono fun e w' k => ?_
              rw [hokt'.out, ← hF'.out] at k
              exact HS.out.1.post k
            · have ht2 : t = false := ht.symm.trans h
              subst ht2
              refine hRe.out.mono fun e w' k => ?_
              rw [hokt'.out, ← hF'.out] at k
              exact HS.out.1.post k
          clear hAd hRe
          obtain ⟨t', ht'⟩ : ∃ t', t' = t := ⟨_, rfl⟩
          cases t
          · have hC := Lib.hid ((hcall.out _ ht').2 ht')
            clear hcall ht'
            go_wp2_with fail
            refine hC.out.mono ?_
            rintro e w7 ⟨rfl, S7⟩
            have S7' := Lib.hid (S7.congr (h' := turnJ f x false 0) fun k _ => turnJ_zero f x false k)
            clear S7 hC r0 r1 HS
            have h0j : ok = false → (0 : Nat) = 0 := fun _ => rfl
            cases ok
            · have hFf := hno'.out rfl
              subst hFf
              go_wp2_with fail
              go_loopw [13] (fun kv wr => kv = .int .i64 (x : Int) ∧ Hid (SA W p b wb qh F (turnJ F x false 0) wr)) (fun _ _ => 0)
              case atStart => exact ⟨rfl, S7'⟩
              case round =>
                obtain ⟨rfl, HS⟩ := hrel
                have hlj2 : (x : Int) < (x : Int) + j := by omega
                have HS2 := Lib.hid (HS.out.congr (h' := F) fun k _ => (turnJ_zero F x false k).symm)
                go_wp2_with fail
                go_roundw
                case rel => exact ⟨k + 1, F, by go_num, by omega, HS2⟩
                case measure => simp [intOf]; omega
            · go_wp2_with fail
              go_loopw [13] (fun kv wr => ∃ i : Nat, i ≤ j ∧ kv = .int .i64 ((x : Int) + i) ∧ Hid (SA W p b wb qh F (turnJ f x false i) wr)) (fun kv _ => x + j - (intOf kv).toNat)
              case atStart => exact ⟨0, by omega, by simp, S7'⟩
              case round =>
                clear S7'
                obtain ⟨i, hi, rfl, HS⟩ := hrel
                by_cases hij : i < j
                · have hlj2 : (x : Int) + i < (x : Int) + j := by omega
                  have c0 := HS.out.a.cs (x + i) (by omega)
                  obtain ⟨c0, c1⟩ := c0
                  have i1 : ((x : Int) + i).toNat = x + i := by omega
                  have i2 : (0 : Int) ≤ (x : Int) + i := by omega
                  have i3 : (x : Int) + i < 72 := by omega
                  have HS2 := Lib.hid ((HS.out.set (a := x + i) (by omega) false).congr (h' := turnJ f x false (i + 1)) fun k _ => turnJ_step f x false i k)
                  go_wp2_with fail
                  go_roundw
                  case rel => exact ⟨i + 1, by omega, by go_num, HS2⟩
                  case measure => simp [intOf]; omega
                · obtain rfl : i = j := by omega
                  have hlj2 : ¬ (x : Int) + i < (x : Int) + i := by omega
                  have HS2 := Lib.hid (HS.out.congr (h' := F) fun k _ => by first | exact hyes'.out rfl k | exact hyes'.out trivial k)
                  go_wp2_with fail
                  go_roundw
                  case rel => exact ⟨k + 1, F, by go_num, by omega, HS2⟩
                  case measure => simp [intOf]; omega
          · have hC := Lib.hid ((hcall.out _ ht').1 ht')
            clear hcall ht'
            go_wp2_with fail
            refine hC.out.mono ?_
            rintro e w7 ⟨rfl, S7⟩
            have S7' := Lib.hid (S7.congr (h' := turnJ f x true 0) fun k _ => turnJ_zero f x true k)
            clear S7 hC r0 r1 HS
            have h0j : ok = false → (0 : Nat) = 0 := fun _ => rfl
            cases ok
            · have hFf := hno'.out rfl
              subst hFf
              go_wp2_with fail
              go_loopw [13] (fun kv wr => kv = .int .i64 (x : Int) ∧ Hid (SA W p b wb qh F (turnJ F x true 0) wr)) (fun _ _ => 0)
              case atStart => exact ⟨rfl, S7'⟩
              case round =>
                obtain ⟨rfl, HS⟩ := hrel
                have hlj2 : (x : Int) < (x : Int) + j := by omega
                have HS2 := Lib.hid (HS.out.congr (h' := F) fun k _ => (turnJ_zero F x true k).symm)
                go_wp2_with fail
                go_roundw
                case rel => exact ⟨k + 1, F, by go_num, by omega, HS2⟩
                case measure => simp [intOf]; omega
            · go_wp2_with fail
              go_loopw [13] (fun kv wr => ∃ i : Nat, i ≤ j ∧ kv = .int .i64 ((x : Int) + i) ∧ Hid (SA W p b wb qh F (turnJ f x true i) wr)) (fun kv _ => x + j - (intOf kv).toNat)
              case atStart => exact ⟨0, by omega, by simp, S7'⟩
              case round =>
                clear S7'
                obtain ⟨i, hi, rfl, HS⟩ := hrel
                by_cases hij : i < j
                · have hlj2 : (x : Int) + i < (x : Int) + j := by omega
                  have c0 := HS.out.a.cs (x + i) (by omega)
                  obtain ⟨c0, c1⟩ := c0
                  have i1 : ((x : Int) + i).toNat = x + i := by omega
                  have i2 : (0 : Int) ≤ (x : Int) + i := by omega
                  have i3 : (x : Int) + i < 72 := by omega
                  have HS2 := Lib.hid ((HS.out.set (a := x + i) (by omega) true).congr (h' := turnJ f x true (i + 1)) fun k _ => turnJ_step f x true i k)
                  go_wp2_with fail
                  go_roundw
                  case rel => exact ⟨i + 1, by omega, by go_num, HS2⟩
                  case measure => simp [intOf]; omega
                · obtain rfl : i = j := by omega
                  have hlj2 : ¬ (x : Int) + i < (x : Int) + i := by omega
                  have HS2 := Lib.hid (HS.out.congr (h' := F) fun k _ => by first | exact hyes'.out rfl k | exact hyes'.out trivial k)
                  go_wp2_with fail
                  go_roundw
                  case rel => exact ⟨k + 1, F, by go_num, by omega, HS2⟩
                  case measure => simp [intOf]; omega
    · have hc : ¬ 3 * (k : Int) + 2 < (len : Int) ∨ (3 * (k : Int) + 2 < (len : Int) ∧ ¬ (k : Int) < 100) := by omega
      have hWk := Lib.hid (fun w => works15_any w)
      rcases hc with hc | ⟨hc, hc2⟩
      all_goals
        go_wp2_with fail
        go_loopw [14, 15] (fun cv kv wr => ∃ k : Nat, k ≤ 72 ∧ cv = .int .i64 (cnt f k : Nat) ∧ kv = .int .i64 k ∧ Hid (SA W p b wb qh f f wr)) (fun _ kv _ => 72 - (intOf kv).toNat)
        case atStart => exact ⟨0, by omega, rfl, rfl, HS⟩
        case round =>
          clear HS
          obtain ⟨k, hk, rfl, rfl, HS⟩ := hrel
          by_cases hlt2 : k < 72
          · have hk2 : (k : Int) < 72 := by omega
            obtain ⟨a, ha⟩ : ∃ a, a = 16 * k := ⟨_, rfl⟩
            have ea : 16 * (k : Int) = a := by omega
            have hab : a < 1152 := by omega
            obtain ⟨a2, ha2⟩ : ∃ a2, a2 = a + 15 := ⟨_, rfl⟩
            have ea2 : (a : Int) + 15 = a2 := by omega
            have hab2 : a2 < 1167 := by omega
            have q1 : f (a / 16) = f k := by rw [show a / 16 = k by omega]
            have q2 : f (a2 / 16) = f k := by rw [show a2 / 16 = k by omega]
            have hcs := Lib.hid (show cnt f (k + 1) = cnt f k + (f k).toNat from rfl)
            have hcl := cnt_le f k
            have c0 := (HS.out.a.cs k (by omega)).1
            obtain ⟨v, hv⟩ : ∃ v, v = f k := ⟨_, rfl⟩
            rw [← hv] at q1 q2 c0
            have hv' := Lib.hid hv
            obtain ⟨c, hc'⟩ : ∃ c, c = cnt f k := ⟨_, rfl⟩
            rw [← hc'] at hcl ⊢
            replace hc' := Lib.hid hc'
            obtain ⟨S, hS0⟩ : ∃ S, S = fun w' => Below wr.heap.size wr w' := ⟨_, rfl⟩
            have hK : ∀ w', S w' → Below wr.heap.size wr w' := fun w' h => by rw [hS0] at h; exact h
            have h4 : S wr.drew := by rw [hS0]; exact (Below.refl _ _).drew
            have cA := Lib.hid (show ∀ y : Wd S, Calls Try.prog 17 #[.pointer (some ⟨p, 0, none⟩), .int .u32 (a : Int)] y.w fun e w' => e = .returned (.bool v) ∧ ∃ y' : Wd S, w' = y'.w from
              cls_call (fun w' hw => (pthas (HS.out.k.pt.grow (hK _ hw)) a (by omega)).mono fun e w2 k => ⟨by rw [k.1, q1], by rw [hS0]; exact (hK _ hw).trans (k.2.mono (hK _ hw).size)⟩))
            have cB := Lib.hid (show ∀ y : Wd S, Calls Try.prog 17 #[.pointer (some ⟨p, 0, none⟩), .int .u32 (a2 : Int)] y.w fun e w' => e = .returned (.bool v) ∧ ∃ y' : Wd S, w' = y'.w from
              cls_call (fun w' hw => (pthas (HS.out.k.pt.grow (hK _ hw)) a2 (by omega)).mono fun e w2 k => ⟨by rw [k.1, q2], by rw [hS0]; exact (hK _ hw).trans (k.2.mono (hK _ hw).size)⟩))
            have a0 : ∀ y : Wd S, y.w.cell? ⟨qh, k, none⟩ = some (.bool v) := fun y => ((hK _ y.h).cell (p := ⟨qh, k, none⟩) HS.out.l).trans c0
            have hKK := Lib.hid hK
            replace ha := Lib.hid ha
            replace ha2 := Lib.hid ha2
            have s1 : IntKind.i64.wrap (16 * (k : Int)) = a := by rw [IntKind.wrap_i64]; omega
            have s2 : IntKind.u32.wrap (a : Int) = a := by rw [IntKind.wrap_u32]; omega
            have s3 : IntKind.i64.wrap ((a : Int) + 15) = a2 := by rw [IntKind.wrap_i64]; omega
            have s4 : IntKind.u32.wrap (a2 : Int) = a2 := by rw [IntKind.wrap_u32]; omega
            have hk0 : (0 : Int) ≤ k := by omega
            clear q1 q2 c0 hv hS0 hK
            cases v
            all_goals
              go_wp2_with fail
              refine region_cls S (by kernel_rfl) (by kernel_rfl) h4 ?_
              repeat (first
                | go_big_quiet_skip
                | (go_big_quiet_want
                   go_big_quiet_op
                   first
                   | go_big_quiet_on
                   | (apply Exists.intro
                      refine ⟨fun y => ?_, ?_⟩
                      · first | exact rfl | with_reducible exact cA.out y | with_reducible exact cB.out y
                      go_big_quiet_on)))
              refine wpQuiet_nil ?_
              intro y
              have HS3 := Lib.hid (HS.out.below (hKK.out _ y.h))
              obtain ⟨w9, hw9⟩ : ∃ w9, w9 = y.w := ⟨_, rfl⟩
              rw [← hw9] at HS3 ⊢
              clear hw9 a0 h4 hKK cA cB
              clear y S
              have c1 := (HS3.out.a.cs k (by omega)).1
              rw [← hv'.out] at c1
              go_wp2_with fail
              go_roundw
              case rel => exact ⟨k + 1, by omega, by rw [hcs.out, ← hv'.out, ← hc'.out]; simp, by go_num, HS3⟩
              case measure => simp [intOf]; omega
          · obtain rfl : k = 72 := by omega
            have hcn : cnt f 72 = cnt f 64 := cnt_off HS.out.k.pt.m.off (by omega)
            rw [hcn]
            have hCt := Lib.hid (ptcount HS.out.k.pt)
            have hB := Lib.hid HS.out.k.bel
            obtain ⟨c, hc'⟩ : ∃ c, c = cnt f 64 := ⟨_, rfl⟩
            rw [← hc'] at hCt ⊢
            clear hc' hcn
            go_wp2_with fail
            refine hCt.out.mono ?_
            rintro e w9 ⟨rfl, k9⟩
            have hB9 := Lib.hid (hB.out.trans (k9.mono hB.out.size))
            clear k9 hCt
            go_wp2_with fail
            refine (hWk.out w9).mono ?_
            rintro e w10 ⟨rfl, k9⟩
            have hB10 := Lib.hid (hB9.out.trans (k9.mono hB9.out.size))
            clear k9
            go_wp2_with fail
            go_ret
            exact ⟨rfl, hB10.out⟩
theorem own : ownKnob Try.prog.godebug = none := by kernel_rfl
theorem laidOut : laidOutB Try.prog = true := by kernel_rfl
set_option maxRecDepth 100000 in
theorem lifted (os : Os) (started : os.Started) (H : Type) (enc : TypeId × Value → H) :
    ReturnsInHanded {} Try.checked os 4 .any (Rows.paintApartSpec.pre6 enc Try.prog Try.f4 Rows.paintApartRow.domain false) (Rows.paintApartSpec.post enc Try.prog Try.f4 false true false false) := by
  refine returnsInHanded_of_change (C := Try.checked) own started (by kernel_rfl) Try.func4
    (ChangeSpec.witness6 (enc := enc) (C := Try.checked) false ⟨#[], #[.slice none 0 0], []⟩ 8 (by kernel_rfl) (by kernel_rfl) (by kernel_rfl) (by kernel_rfl)) ?_
  intro W base args ds gs before hval0 hW hcnd hsz
  have hval : ∀ (j : Nat) t v, Try.f4.params[j]? = some t → args[j]? = some v → Value.okWide Try.prog W .any base t v := hval0
  have hW' := hW
  obtain ⟨p, q, hA0, hV, rfl, hfz, hnd⟩ := hW
  have hA : DataW.TrodAll enc Try.prog W 0 (fun _ => true) true Try.f4.params.toList args.toList ds p := hA0
  rw [Try.params4] at hA hval
  obtain ⟨v0, vs0, d0, ds0, p0, q0, hargs, rfl, rfl, h0, r0⟩ := trodAll_cons hA
  obtain ⟨rfl, rfl, rfl⟩ := trodAll_nil r0
  obtain rfl : args = #[v0] := by cases args; simp_all
  obtain ⟨rfl, rfl⟩ := trodVars_none hV
  have k0 := h0
  have lt0 : ∀ x ∈ p0, x.block < W.heap.size := by obtain ⟨m, hm⟩ := k0; exact DataW.trod_lt m _ _ _ hm
  clear hA0 hval0
  refine (walk v0 W (hval 0 44 v0 rfl rfl) k0).mono fun e W' ⟨he, bel⟩ => ?_
  subst he
  exact ⟨_, rfl, _, _, _, [], _, [], hW', trodAll_mk1 (shut_bool Try.underlying4 _), (trodAll_cons_mk (Below.trod laidOut (by kernel_rfl) (of_decide_eq_true (by kernel_rfl)) k0 bel lt0) trodAll_mk0), rfl, bel.frame _, fun h => by cases h⟩
theorem over : Rows.paintApartRow.holds Try.pinned (OpenSpec.ofChange Rows.paintApartSpec) :=
  OpenClaim.holds_of_wide 4 Try.f4 rfl rfl rfl rfl rfl rfl rfl ⟨rfl, rfl, rfl, rfl, rfl⟩ rfl rfl rfl rfl rfl (by kernel_rfl) Try.func4 (by kernel_rfl)
    (of_decide_eq_true (by kernel_rfl)) (by unfold Func.isWrapper; first | (rw [if_pos (by decide +kernel)]; kernel_rfl) | (rw [if_neg (by decide +kernel)]; exact ⟨rfl, rfl⟩))
    (fun os started H enc _ => lifted os started H enc)
/-- The given statement. -/
theorem proved : Rows.PaintApartSaid := over
end Go.Proofs.Yticfpnhfhhagpaa.papart
