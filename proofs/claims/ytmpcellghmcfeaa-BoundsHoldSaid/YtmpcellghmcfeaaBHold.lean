/- Proved: what is made of a base and a top tells, at each cursor from the base to the top, both, and less than 2^e more at each side, just as Round says (BoundsHold). For every input; no condition. -/
import Derived.Test.YtmpcellghmcfeaaRows
import Derived.Test.YtmpcellghmcfeaaBndW
import Derived.Test.YtmpcellghmcfeaaBndN
import Derived.Deep.DeepCutAuto
import Derived.ProofKit
import Derived.OpenShut
import Derived.ShutString
import Derived.ChangeOld
namespace Go.Proofs.Ytmpcellghmcfeaa.bhold
open Go.ChangeShapes Go.WideShapes Go.ChangeAt Go.RowKit
open Go.ChangeMaps (open_string shut_string)
set_option linter.unusedVariables false

set_option maxRecDepth 100000 in
set_option maxHeartbeats 2000000 in
theorem walk (a : Int) (wa : (Lit.int .u32 a).wf = true) (b : Int) (wb : (Lit.int .u32 b).wf = true) (c : Int) (wc : (Lit.int .u32 c).wf = true) (W : World) :
    Calls Try.prog 8 #[.int .u32 a, .int .u32 b, .int .u32 c] W fun e w' => e = .returned (.bool true) ∧ Below W.heap.size W w' := by
  have ha := bounds_u32 wa
  obtain ⟨a, rfl⟩ := Int.eq_ofNat_of_zero_le ha.1
  have la : a < 4294967296 := by omega
  clear ha wa
  have hb := bounds_u32 wb
  obtain ⟨b, rfl⟩ := Int.eq_ofNat_of_zero_le hb.1
  have lb : b < 4294967296 := by omega
  clear hb wb
  have hc := bounds_u32 wc
  obtain ⟨c, rfl⟩ := Int.eq_ofNat_of_zero_le hc.1
  have lc : c < 4294967296 := by omega
  clear hc wc
  obtain ⟨lo, hlo⟩ : ∃ lo, lo = min a b := ⟨_, rfl⟩
  obtain ⟨T, hT⟩ : ∃ T, T = max a b + 1 := ⟨_, rfl⟩
  have hG := Lib.hid (fun w => bring_any a b w la lb)
  rw [← hlo, ← hT] at hG
  have t0 : lo < T := by omega
  have t2 : T ≤ 4294967296 := by omega
  have t3 : lo < 4294967296 := by omega
  have t1 : lo ≤ T := by omega
  clear hlo hT
  obtain ⟨r, hr⟩ : ∃ r, r = c % (T - lo) := ⟨_, rfl⟩
  have r1 : r < T - lo := by rw [hr]; exact Nat.mod_lt _ (by omega)
  have hrI : (c : Int) % ((T : Int) - (lo : Int)) = (r : Int) := by
    rw [show (T : Int) - (lo : Int) = ((T - lo : Nat) : Int) from by omega, ← Int.natCast_emod, ← hr]
  have win := within (c := lo + r) t1 t2 (by omega) (by omega)
  have tl := tells t1 t2 t3 win.1 win.2
  have wiT := within (c := T) t1 t2 t1 (Nat.le_refl _)
  have tT := tells t1 t2 t3 wiT.1 wiT.2
  have hE := Lib.hid (fun w => Encode_any lo T w t3 (by omega))
  have hR := Lib.hid (fun w => Round_any lo T w t3 (by omega))
  have hD := Lib.hid (fun w => Decode_any (enE lo T) (enB lo T) (enT lo T) (lo + r) w (by omega))
  have hZ := Lib.hid (fun (h : T < 4294967296) w => Decode_any (enE lo T) (enB lo T) (enT lo T) T w h)
  rw [tl.1, tl.2, Int.natCast_add] at hD
  rw [tT.1, tT.2] at hZ
  rw [enX_of t1 t2, may_of t1 t2, rdB_of t1 t2, rdT_of t1 t2] at hE
  rw [may_of t1 t2, rdB_of t1 t2, rdT_of t1 t2] at hR
  rw [enE_of t1 t2] at hE hD hZ
  have k1 := expo_le lo t2
  have u1 := pow_pos2 (expo lo T)
  have u2 := pow_le21 k1
  have d1 := dn_le (2 ^ expo lo T) lo
  have d2 := lt_dn lo u1
  have d3 := up_ge T u1
  have d4 := up_lt T u1
  have v1 : (2 : Int) ^ expo lo T % 4294967296 = ((2 ^ expo lo T : Nat) : Int) := by rw [cast_pow]; generalize 2 ^ expo lo T = U at *; omega
  have v2 : IntKind.u64.wrap (2 ^ expo lo T) = ((2 ^ expo lo T : Nat) : Int) := by rw [cast_pow, IntKind.wrap_u64]; generalize 2 ^ expo lo T = U at *; omega
  have hW := Lib.hid (fun w => works_any w)
  generalize enB lo T = m at *
  generalize enT lo T = n at *
  generalize dn (2 ^ expo lo T) lo = D at *
  generalize up (2 ^ expo lo T) T = P at *
  generalize expo lo T = k at *
  generalize 2 ^ k = U at *
  clear tl tT win wiT hr
  have dd1 : (D : Int) ≤ lo := by omega
  have dd2 : (lo : Int) - D < U := by omega
  have dd3 : (T : Int) ≤ P := by omega
  have dd4 : (P : Int) - T < U := by omega
  have rr : (lo : Int) + r < T := by omega
  have hX : decide (D = lo ∧ P = T) = (((D : Int) == (lo : Int)) && ((P : Int) == (T : Int))) := by
    rw [Bool.eq_iff_iff]; simp; omega
  rw [hX] at hE
  clear hX
  replace dd1 := Lib.hid dd1
  replace dd2 := Lib.hid dd2
  replace dd3 := Lib.hid dd3
  replace dd4 := Lib.hid dd4
  replace d1 := Lib.hid d1
  replace d2 := Lib.hid d2
  replace d3 := Lib.hid d3
  replace d4 := Lib.hid d4
  have ki : (k : Int) ≤ 21 := by omega
  have tl0 : (lo : Int) < T := by omega
  replace v1 := Lib.hid v1
  replace v2 := Lib.hid v2
  replace u1 := Lib.hid u1
  replace u2 := Lib.hid u2
  replace k1 := Lib.hid k1
  obtain ⟨Z, hZd⟩ : ∃ Z : Int, Z = (T : Int) := ⟨_, rfl⟩
  have z2 : Z ≤ 4294967296 := by omega
  have hZ2 := Lib.hid (fun (h : Z < 4294967296) w => hZ.out (by omega) w)
  rw [← hZd] at hG hE hR hrI dd3 dd4 rr tl0 hZ2
  clear hZ hZd t0 t1 t2 r1

  cases hq1 : ((D : Int) == (lo : Int))
  · rw [hq1, Bool.false_and] at hE
    replace hq1 := Lib.hid hq1
    go_enter Try.func8, Try.ntmps8
    go_wp2_with fail
    refine (hG.out _).mono ?_
    rintro e' w1 ⟨rfl, n1, rfl⟩
    go_wp2_with fail
    refine (hE.out _).mono ?_
    rintro e' w2 ⟨rfl, h2⟩
    replace h2 := Lib.hid ((below_drewN (Below.refl _ W) n1).trans h2)
    go_wp2_with fail
    refine (hD.out _).mono ?_
    rintro e' w3 ⟨rfl, h3⟩
    replace h2 := Lib.hid (h2.out.trans (h3.mono h2.out.size))
    clear h3
    go_wp2_with fail
    refine (hR.out _).mono ?_
    rintro e' w4 ⟨rfl, h3⟩
    replace h2 := Lib.hid (h2.out.trans (h3.mono h2.out.size))
    clear h3
    have dd1 := dd1.out
    have dd3 := dd3.out
    go_upto_region 10 with (fail)
    have v1 := v1.out
    have v2 := v2.out
    have hq1 := hq1.out
    have dd2 := dd2.out
    have dd4 := dd4.out
    go_upto_region 12 with (fail)
    clear dd1 dd2 dd3 dd4 v1 v2
    go_wp2_with fail
    · refine (hZ2.out (by assumption) _).mono ?_
      rintro e' w6 ⟨rfl, h3⟩
      replace h2 := Lib.hid (h2.out.trans (h3.mono h2.out.size))
      clear h3
      go_wp2_with fail
      refine (hW.out _).mono ?_
      rintro e' w5 ⟨rfl, h3⟩
      replace h2 := Lib.hid (h2.out.trans (h3.mono h2.out.size))
      clear h3
      go_wp2
      go_ret
      exact ⟨rfl, h2.out⟩
    · refine (hW.out _).mono ?_
      rintro e' w5 ⟨rfl, h3⟩
      replace h2 := Lib.hid (h2.out.trans (h3.mono h2.out.size))
      clear h3
      go_wp2
      go_ret
      exact ⟨rfl, h2.out⟩
  · rw [hq1, Bool.true_and] at hE
    replace hq1 := Lib.hid hq1
    cases hq2 : ((P : Int) == Z)
    · rw [hq2] at hE
      replace hq2 := Lib.hid hq2
      go_enter Try.func8, Try.ntmps8
      go_wp2_with fail
      refine (hG.out _).mono ?_
      rintro e' w1 ⟨rfl, n1, rfl⟩
      go_wp2_with fail
      refine (hE.out _).mono ?_
      rintro e' w2 ⟨rfl, h2⟩
      replace h2 := Lib.hid ((below_drewN (Below.refl _ W) n1).trans h2)
      go_wp2_with fail
      refine (hD.out _).mono ?_
      rintro e' w3 ⟨rfl, h3⟩
      replace h2 := Lib.hid (h2.out.trans (h3.mono h2.out.size))
      clear h3
      go_wp2_with fail
      refine (hR.out _).mono ?_
      rintro e' w4 ⟨rfl, h3⟩
      replace h2 := Lib.hid (h2.out.trans (h3.mono h2.out.size))
      clear h3
      have dd1 := dd1.out
      have dd3 := dd3.out
      go_upto_region 10 with (fail)
      have v1 := v1.out
      have v2 := v2.out
      have hq1 := hq1.out
      have hq2 := hq2.out
      have dd2 := dd2.out
      have dd4 := dd4.out
      go_upto_region 12 with (fail)
      clear dd1 dd2 dd3 dd4 v1 v2
      go_wp2_with fail
      · refine (hZ2.out (by assumption) _).mono ?_
        rintro e' w6 ⟨rfl, h3⟩
        replace h2 := Lib.hid (h2.out.trans (h3.mono h2.out.size))
        clear h3
        go_wp2_with fail
        refine (hW.out _).mono ?_
        rintro e' w5 ⟨rfl, h3⟩
        replace h2 := Lib.hid (h2.out.trans (h3.mono h2.out.size))
        clear h3
        go_wp2
        go_ret
        exact ⟨rfl, h2.out⟩
      · refine (hW.out _).mono ?_
        rintro e' w5 ⟨rfl, h3⟩
        replace h2 := Lib.hid (h2.out.trans (h3.mono h2.out.size))
        clear h3
        go_wp2
        go_ret
        exact ⟨rfl, h2.out⟩
    · rw [hq2] at hE
      replace hq2 := Lib.hid hq2
      go_enter Try.func8, Try.ntmps8
      go_wp2_with fail
      refine (hG.out _).mono ?_
      rintro e' w1 ⟨rfl, n1, rfl⟩
      go_wp2_with fail
      refine (hE.out _).mono ?_
      rintro e' w2 ⟨rfl, h2⟩
      replace h2 := Lib.hid ((below_drewN (Below.refl _ W) n1).trans h2)
      go_wp2_with fail
      refine (hD.out _).mono ?_
      rintro e' w3 ⟨rfl, h3⟩
      replace h2 := Lib.hid (h2.out.trans (h3.mono h2.out.size))
      clear h3
      go_wp2_with fail
      refine (hR.out _).mono ?_
      rintro e' w4 ⟨rfl, h3⟩
      replace h2 := Lib.hid (h2.out.trans (h3.mono h2.out.size))
      clear h3
      have dd1 := dd1.out
      have dd3 := dd3.out
      go_upto_region 10 with (fail)
      have v1 := v1.out
      have v2 := v2.out
      have hq1 := hq1.out
      have hq2 := hq2.out
      have dd2 := dd2.out
      have dd4 := dd4.out
      go_upto_region 12 with (fail)
      clear dd1 dd2 dd3 dd4 v1 v2
      go_wp2_with fail
      · refine (hZ2.out (by assumption) _).mono ?_
        rintro e' w6 ⟨rfl, h3⟩
        replace h2 := Lib.hid (h2.out.trans (h3.mono h2.out.size))
        clear h3
        go_wp2_with fail
        refine (hW.out _).mono ?_
        rintro e' w5 ⟨rfl, h3⟩
        replace h2 := Lib.hid (h2.out.trans (h3.mono h2.out.size))
        clear h3
        go_wp2
        go_ret
        exact ⟨rfl, h2.out⟩
      · refine (hW.out _).mono ?_
        rintro e' w5 ⟨rfl, h3⟩
        replace h2 := Lib.hid (h2.out.trans (h3.mono h2.out.size))
        clear h3
        go_wp2
        go_ret
        exact ⟨rfl, h2.out⟩
theorem own : ownKnob Try.prog.godebug = none := by kernel_rfl
theorem laidOut : laidOutB Try.prog = true := by kernel_rfl
set_option maxRecDepth 100000 in
theorem lifted (os : Os) (started : os.Started) (H : Type) (enc : TypeId × Value → H) :
    ReturnsInHanded {} Try.checked os 8 .any (Rows.boundsHoldSpec.pre6 enc Try.prog Try.f8 Rows.boundsHoldRow.domain false) (Rows.boundsHoldSpec.post enc Try.prog Try.f8 false true false false) := by
  refine returnsInHanded_of_change (C := Try.checked) own started (by kernel_rfl) Try.func8
    (ChangeSpec.witness6 (enc := enc) (C := Try.checked) false ⟨#[], #[.int .u32 0, .int .u32 0, .int .u32 0], []⟩ 8 (by kernel_rfl) (by kernel_rfl) (by kernel_rfl) (by kernel_rfl)) ?_
  intro W base args ds gs before hval0 hW hcnd hsz
  have hval : ∀ (j : Nat) t v, Try.f8.params[j]? = some t → args[j]? = some v → Value.okWide Try.prog W .any base t v := hval0
  have hW' := hW
  obtain ⟨p, q, hA0, hV, rfl, hfz, hnd⟩ := hW
  have hA : DataW.TrodAll enc Try.prog W 0 (fun _ => true) true Try.f8.params.toList args.toList ds p := hA0
  rw [Try.params8] at hA hval
  obtain ⟨v0, vs0, d0, ds0, p0, q0, hargs, rfl, rfl, h0, r0⟩ := trodAll_cons hA
  obtain ⟨v1, vs1, d1, ds1, p1, q1, rfl, rfl, rfl, h1, r1⟩ := trodAll_cons r0
  obtain ⟨v2, vs2, d2, ds2, p2, q2, rfl, rfl, rfl, h2, r2⟩ := trodAll_cons r1
  obtain ⟨rfl, rfl, rfl⟩ := trodAll_nil r2
  obtain rfl : args = #[v0, v1, v2] := by cases args; simp_all
  obtain ⟨rfl, rfl⟩ := trodVars_none hV
  have k0 := h0
  have lt0 : ∀ x ∈ p0, x.block < W.heap.size := by obtain ⟨m, hm⟩ := k0; exact DataW.trod_lt m _ _ _ hm
  have k1 := h1
  have lt1 : ∀ x ∈ p1, x.block < W.heap.size := by obtain ⟨m, hm⟩ := k1; exact DataW.trod_lt m _ _ _ hm
  have k2 := h2
  have lt2 : ∀ x ∈ p2, x.block < W.heap.size := by obtain ⟨m, hm⟩ := k2; exact DataW.trod_lt m _ _ _ hm
  obtain ⟨a, rfl, rfl, rfl, wa⟩ := open_int Try.underlying25 (hval 0 25 v0 rfl rfl) h0
  obtain ⟨b, rfl, rfl, rfl, wb⟩ := open_int Try.underlying25 (hval 1 25 v1 rfl rfl) h1
  obtain ⟨cur, rfl, rfl, rfl, wcur⟩ := open_int Try.underlying25 (hval 2 25 v2 rfl rfl) h2
  clear hA0 hval0
  refine (walk a wa b wb cur wcur W).mono fun e W' ⟨he, bel⟩ => ?_
  subst he
  exact ⟨_, rfl, _, _, _, [], _, [], hW', trodAll_mk1 (shut_bool Try.underlying4 _), (trodAll_cons_mk (Below.trod laidOut (by kernel_rfl) (of_decide_eq_true (by kernel_rfl)) k0 bel lt0) (trodAll_cons_mk (Below.trod laidOut (by kernel_rfl) (of_decide_eq_true (by kernel_rfl)) k1 bel lt1) (trodAll_cons_mk (Below.trod laidOut (by kernel_rfl) (of_decide_eq_true (by kernel_rfl)) k2 bel lt2) trodAll_mk0))), rfl, bel.frame _, fun h => by cases h⟩
theorem over : Rows.boundsHoldRow.holds Try.pinned (OpenSpec.ofChange Rows.boundsHoldSpec) :=
  OpenClaim.holds_of_wide 8 Try.f8 rfl rfl rfl rfl rfl rfl rfl ⟨rfl, rfl, rfl, rfl, rfl⟩ rfl rfl rfl rfl rfl (by kernel_rfl) Try.func8 (by kernel_rfl)
    (of_decide_eq_true (by kernel_rfl)) (by unfold Func.isWrapper; first | (rw [if_pos (by decide +kernel)]; kernel_rfl) | (rw [if_neg (by decide +kernel)]; exact ⟨rfl, rfl⟩))
    (fun os started H enc _ => lifted os started H enc)
/-- The given statement. -/
theorem proved : Rows.BoundsHoldSaid := over
end Go.Proofs.Ytmpcellghmcfeaa.bhold
