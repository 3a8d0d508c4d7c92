/- Proved: up to 2048 bytes, wherever they lie, have exact bounds, with the exponent 0 (BoundsExact). For every input; no condition. -/
import Derived.Test.YtmpcellghmcfeaaRows
import Derived.Test.YtmpcellghmcfeaaBndW
import Derived.Test.YtmpcellghmcfeaaBndN
import Derived.Deep.DeepCutAuto
import Derived.ProofKit
import Derived.OpenShut
import Derived.ShutString
import Derived.ChangeOld
namespace Go.Proofs.Ytmpcellghmcfeaa.bexact
open Go.ChangeShapes Go.WideShapes Go.ChangeAt Go.RowKit
open Go.ChangeMaps (open_string shut_string)
set_option linter.unusedVariables false

theorem walk (b : Int) (wb : (Lit.int .u32 b).wf = true) (s : Int) (ws : (Lit.int .u16 s).wf = true) (W : World) :
    Calls Try.prog 9 #[.int .u32 b, .int .u16 s] W fun e w' => e = .returned (.bool true) ∧ Below W.heap.size W w' := by
  have hb := bounds_u32 wb
  obtain ⟨b, rfl⟩ := Int.eq_ofNat_of_zero_le hb.1
  have lb : b < 4294967296 := by omega
  clear hb wb
  have hs := bounds_u16 ws
  obtain ⟨s, rfl⟩ := Int.eq_ofNat_of_zero_le hs.1
  have ls : s < 65536 := by omega
  clear hs ws
  obtain ⟨T, hT⟩ : ∃ T, T = min (b + s % 2049) 4294967296 := ⟨_, rfl⟩
  have t1 : b ≤ T := by omega
  have t2 : T ≤ 4294967296 := by omega
  have ex : expo b T = 0 := expo_few t2 (by omega)
  have hd : dn (2 ^ 0) b = b := by simp [dn]
  have hu : up (2 ^ 0) T = T := by simp [up]
  have rB : rdB b T = b := by rw [rdB_of t1 t2, ex, hd]
  have rT : rdT b T = T := by rw [rdT_of t1 t2, ex, hu]
  have hE := Lib.hid (fun w => Encode_any b T w lb (by omega))
  have hR := Lib.hid (fun w => Round_any b T w lb (by omega))
  rw [enE_of t1 t2, ex, enX_of t1 t2, may_of t1 t2, rB, rT, decide_eq_true ⟨rfl, rfl⟩] at hE
  rw [may_of t1 t2, rB, rT] at hR
  have hW := Lib.hid (fun w => works_any w)
  generalize enB b T = m at *
  generalize enT b T = n at *
  clear ex hd hu rB rT
  go_enter Try.func9, Try.ntmps9
  go_wp2_with fail
  case' inl =>
    have hTi : (T : Int) = 4294967296 := by omega
  case' inr =>
    have hTi : (T : Int) = (b : Int) + (s : Int) % 2049 := by omega
  all_goals
    rw [hTi] at hE hR
    clear hT t1 t2 hTi
    refine (hE.out _).mono ?_
    rintro e' w1 ⟨rfl, h1⟩
    replace h1 := Lib.hid h1
    go_wp2_with fail
    refine (hR.out _).mono ?_
    rintro e' w2 ⟨rfl, h2⟩
    replace h1 := Lib.hid (h1.out.trans (h2.mono h1.out.size))
    clear h2
    go_wp2_with fail
    refine (hW.out _).mono ?_
    rintro e' w3 ⟨rfl, h3⟩
    replace h1 := Lib.hid (h1.out.trans (h3.mono h1.out.size))
    clear h3
    go_wp2
    go_ret
    exact ⟨rfl, h1.out⟩
theorem own : ownKnob Try.prog.godebug = none := by kernel_rfl
theorem laidOut : laidOutB Try.prog = true := by kernel_rfl
set_option maxRecDepth 100000 in
theorem lifted (os : Os) (started : os.Started) (H : Type) (enc : TypeId × Value → H) :
    ReturnsInHanded {} Try.checked os 9 .any (Rows.boundsExactSpec.pre6 enc Try.prog Try.f9 Rows.boundsExactRow.domain false) (Rows.boundsExactSpec.post enc Try.prog Try.f9 false true false false) := by
  refine returnsInHanded_of_change (C := Try.checked) own started (by kernel_rfl) Try.func9
    (ChangeSpec.witness6 (enc := enc) (C := Try.checked) false ⟨#[], #[.int .u32 0, .int .u16 0], []⟩ 8 (by kernel_rfl) (by kernel_rfl) (by kernel_rfl) (by kernel_rfl)) ?_
  intro W base args ds gs before hval0 hW hcnd hsz
  have hval : ∀ (j : Nat) t v, Try.f9.params[j]? = some t → args[j]? = some v → Value.okWide Try.prog W .any base t v := hval0
  have hW' := hW
  obtain ⟨p, q, hA0, hV, rfl, hfz, hnd⟩ := hW
  have hA : DataW.TrodAll enc Try.prog W 0 (fun _ => true) true Try.f9.params.toList args.toList ds p := hA0
  rw [Try.params9] at hA hval
  obtain ⟨v0, vs0, d0, ds0, p0, q0, hargs, rfl, rfl, h0, r0⟩ := trodAll_cons hA
  obtain ⟨v1, vs1, d1, ds1, p1, q1, rfl, rfl, rfl, h1, r1⟩ := trodAll_cons r0
  obtain ⟨rfl, rfl, rfl⟩ := trodAll_nil r1
  obtain rfl : args = #[v0, v1] := by cases args; simp_all
  obtain ⟨rfl, rfl⟩ := trodVars_none hV
  have k0 := h0
  have lt0 : ∀ x ∈ p0, x.block < W.heap.size := by obtain ⟨m, hm⟩ := k0; exact DataW.trod_lt m _ _ _ hm
  have k1 := h1
  have lt1 : ∀ x ∈ p1, x.block < W.heap.size := by obtain ⟨m, hm⟩ := k1; exact DataW.trod_lt m _ _ _ hm
  obtain ⟨base, rfl, rfl, rfl, wbase⟩ := open_int Try.underlying25 (hval 0 25 v0 rfl rfl) h0
  obtain ⟨size, rfl, rfl, rfl, wsize⟩ := open_int Try.underlying22 (hval 1 22 v1 rfl rfl) h1
  clear hA0 hval0
  refine (walk base wbase size wsize W).mono fun e W' ⟨he, bel⟩ => ?_
  subst he
  exact ⟨_, rfl, _, _, _, [], _, [], hW', trodAll_mk1 (shut_bool Try.underlying4 _), (trodAll_cons_mk (Below.trod laidOut (by kernel_rfl) (of_decide_eq_true (by kernel_rfl)) k0 bel lt0) (trodAll_cons_mk (Below.trod laidOut (by kernel_rfl) (of_decide_eq_true (by kernel_rfl)) k1 bel lt1) trodAll_mk0)), rfl, bel.frame _, fun h => by cases h⟩
theorem over : Rows.boundsExactRow.holds Try.pinned (OpenSpec.ofChange Rows.boundsExactSpec) :=
  OpenClaim.holds_of_wide 9 Try.f9 rfl rfl rfl rfl rfl rfl rfl ⟨rfl, rfl, rfl, rfl, rfl⟩ rfl rfl rfl rfl rfl (by kernel_rfl) Try.func9 (by kernel_rfl)
    (of_decide_eq_true (by kernel_rfl)) (by unfold Func.isWrapper; first | (rw [if_pos (by decide +kernel)]; kernel_rfl) | (rw [if_neg (by decide +kernel)]; exact ⟨rfl, rfl⟩))
    (fun os started H enc _ => lifted os started H enc)
/-- The given statement. -/
theorem proved : Rows.BoundsExactSaid := over
end Go.Proofs.Ytmpcellghmcfeaa.bexact
