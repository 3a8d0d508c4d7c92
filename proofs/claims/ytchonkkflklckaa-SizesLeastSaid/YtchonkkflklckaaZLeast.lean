/- Proved: a class's slot is not less than the size, and the one below it is; what has a class is padded to its slot (SizesLeast). For every input; no condition. -/
import Derived.Test.YtchonkkflklckaaRows
import Derived.Test.YtchonkkflklckaaSzB
import Derived.ProofKit
import Derived.OpenShut
import Derived.ShutString
import Derived.ChangeOld
namespace Go.Proofs.Ytchonkkflklckaa.zleast
open Go.ChangeShapes Go.WideShapes Go.ChangeAt Go.RowKit
open Go.ChangeMaps (open_string shut_string)
set_option linter.unusedVariables false
set_option maxHeartbeats 4000000 in
theorem walk (s : Int) (ws : (Lit.int .u32 s).wf = true) (W : World) :
    Calls Try.prog 8 #[.int .u32 s] W fun e w' => e = .returned (.bool true) ∧ Below W.heap.size W w' := by
  have hs := bounds_u32 ws
  obtain ⟨s, rfl⟩ := Int.eq_ofNat_of_zero_le hs.1
  have ls : s < 4294967296 := by omega
  clear hs ws
  have hC := Lib.hid (fun w => pClass_any s w ls)
  have hW := Lib.hid (fun w => szworks_any w)
  cases hc : clsB s
  · have hn := of_decide_eq_false hc
    have cz : clsN s = 0 := by
      unfold clsN
      by_cases h0 : s = 0
      · subst h0; rfl
      · rw [if_neg (by omega), if_neg (by omega), if_neg (by omega), if_neg (by omega), if_neg (by omega)]
    rw [hc, cz] at hC
    rcases (show s = 0 ∨ 256 < s by omega) with rfl | h1
    · clear hn hc cz
      go_enter Try.func8, Try.ntmps8
      go_wp2_with fail
      refine (hC.out _).mono ?_
      rintro e w1 ⟨rfl, g⟩
      have B := Lib.hid g
      clear g
      go_wp2_with fail
      refine (hW.out _).mono ?_
      rintro e w3 ⟨rfl, g⟩
      replace B := Lib.hid (B.out.trans (g.mono B.out.size))
      clear g
      go_wp2
      go_ret
      exact ⟨rfl, B.out⟩
    · have k1 : (256 : Int) < (s : Int) := by omega
      have k0 : ((s : Int) == 0) = false := by simp; omega
      clear hn hc cz h1 ls
      go_enter Try.func8, Try.ntmps8
      go_wp2_with fail
      refine (hC.out _).mono ?_
      rintro e w1 ⟨rfl, g⟩
      have B := Lib.hid g
      clear g
      go_wp2_with fail
      refine (hW.out _).mono ?_
      rintro e w3 ⟨rfl, g⟩
      replace B := Lib.hid (B.out.trans (g.mono B.out.size))
      clear g
      go_wp2
      go_ret
      exact ⟨rfl, B.out⟩
  · have hg := cls_ge hc
    have eP : szP s = sltN (clsN s) := by unfold szP; rw [hc]; rfl
    have eA : szA s = sltN (clsN s) := by unfold szA; rw [hc]; rfl
    have hP := Lib.hid (fun w => pPadded_any s 256 w ls (by decide))
    obtain ⟨a1, a2, a3⟩ := pad_yes (s := s) (h := 256) (by omega) (by omega)
    rw [a1, a2, a3, eP, eA] at hP
    have hS := Lib.hid (fun w => pSlot_any (clsN s : Nat) w)
    rw [slt_int hg.2.2.2] at hS
    have hT := Lib.hid (fun (k : clsN s ≠ 0) w => (show Calls Try.prog 12 #[.int .i64 ((clsN s : Int) - 1)] w fun e w' => e = .returned (.int .u32 (sltN (clsN s - 1) : Nat)) ∧ w = w' from by
      have := pSlot_any ((clsN s - 1 : Nat) : Int) w
      rwa [slt_int (by omega), show ((clsN s - 1 : Nat) : Int) = (clsN s : Int) - 1 from by omega] at this))
    have hb := cls_below hc
    have hl : clsN s < 5 := hg.2.2.2
    have h1 : (s : Int) ≤ ((sltN (clsN s) : Nat) : Int) := by omega
    have h2 : clsN s ≠ 0 → ((sltN (clsN s - 1) : Nat) : Int) < (s : Int) := fun k => by have := hb k; omega
    rw [hc] at hC
    clear hg eP eA a1 a2 a3 hb hc ls
    generalize sltN (clsN s - 1) = Y at *
    generalize sltN (clsN s) = X at *
    generalize clsN s = c at *
    by_cases c0 : c = 0
    · subst c0
      clear hT h2
      go_enter Try.func8, Try.ntmps8
      go_wp2_with fail
      refine (hC.out _).mono ?_
      rintro e w1 ⟨rfl, g⟩
      have B := Lib.hid g
      clear g
      go_wp2_with fail
      refine (hP.out _).mono ?_
      rintro e w2 ⟨rfl, g⟩
      replace B := Lib.hid (B.out.trans (g.mono B.out.size))
      clear g
      go_wp2_with fail
      refine (hS.out _).mono ?_
      rintro e w4 ⟨rfl, rfl⟩
      go_wp2_with fail
      refine (hS.out _).mono ?_
      rintro e w4 ⟨rfl, rfl⟩
      go_wp2_with fail
      refine (hW.out _).mono ?_
      rintro e w3 ⟨rfl, g⟩
      replace B := Lib.hid (B.out.trans (g.mono B.out.size))
      clear g
      go_wp2
      go_ret
      exact ⟨rfl, B.out⟩
    · have z0 : ((c : Int) == 0) = false := by simp; omega
      replace hT := Lib.hid (hT.out c0)
      have h3 := h2 c0
      clear h2
      go_enter Try.func8, Try.ntmps8
      go_wp2_with fail
      refine (hC.out _).mono ?_
      rintro e w1 ⟨rfl, g⟩
      have B := Lib.hid g
      clear g
      go_wp2_with fail
      refine (hP.out _).mono ?_
      rintro e w2 ⟨rfl, g⟩
      replace B := Lib.hid (B.out.trans (g.mono B.out.size))
      clear g
      go_wp2_with fail
      refine (hS.out _).mono ?_
      rintro e w4 ⟨rfl, rfl⟩
      go_wp2_with fail
      refine (hT.out _).mono ?_
      rintro e w4 ⟨rfl, rfl⟩
      go_wp2_with fail
      refine (hS.out _).mono ?_
      rintro e w4 ⟨rfl, rfl⟩
      go_wp2_with fail
      refine (hW.out _).mono ?_
      rintro e w3 ⟨rfl, g⟩
      replace B := Lib.hid (B.out.trans (g.mono B.out.size))
      clear g
      go_wp2
      go_ret
      exact ⟨rfl, B.out⟩
theorem own : ownKnob Try.prog.godebug = none := by kernel_rfl
theorem laidOut : laidOutB Try.prog = true := by kernel_rfl
set_option maxRecDepth 100000 in
theorem lifted (os : Os) (started : os.Started) (H : Type) (enc : TypeId × Value → H) :
    ReturnsInHanded {} Try.checked os 8 .any (Rows.sizesLeastSpec.pre6 enc Try.prog Try.f8 Rows.sizesLeastRow.domain false) (Rows.sizesLeastSpec.post enc Try.prog Try.f8 false true false false) := by
  refine returnsInHanded_of_change (C := Try.checked) own started (by kernel_rfl) Try.func8
    (ChangeSpec.witness6 (enc := enc) (C := Try.checked) false ⟨#[], #[.int .u32 0], []⟩ 8 (by kernel_rfl) (by kernel_rfl) (by kernel_rfl) (by kernel_rfl)) ?_
  intro W base args ds gs before hval0 hW hcnd hsz
  have hval : ∀ (j : Nat) t v, Try.f8.params[j]? = some t → args[j]? = some v → Value.okWide Try.prog W .any base t v := hval0
  have hW' := hW
  obtain ⟨p, q, hA0, hV, rfl, hfz, hnd⟩ := hW
  have hA : DataW.TrodAll enc Try.prog W 0 (fun _ => true) true Try.f8.params.toList args.toList ds p := hA0
  rw [Try.params8] at hA hval
  obtain ⟨v0, vs0, d0, ds0, p0, q0, hargs, rfl, rfl, h0, r0⟩ := trodAll_cons hA
  obtain ⟨rfl, rfl, rfl⟩ := trodAll_nil r0
  obtain rfl : args = #[v0] := by cases args; simp_all
  obtain ⟨rfl, rfl⟩ := trodVars_none hV
  have k0 := h0
  have lt0 : ∀ x ∈ p0, x.block < W.heap.size := by obtain ⟨m, hm⟩ := k0; exact DataW.trod_lt m _ _ _ hm
  obtain ⟨size, rfl, rfl, rfl, wsize⟩ := open_int Try.underlying22 (hval 0 22 v0 rfl rfl) h0
  clear hA0 hval0
  refine (walk size wsize W).mono fun e W' ⟨he, bel⟩ => ?_
  subst he
  exact ⟨_, rfl, _, _, _, [], _, [], hW', trodAll_mk1 (shut_bool Try.underlying4 _), (trodAll_cons_mk (Below.trod laidOut (by kernel_rfl) (of_decide_eq_true (by kernel_rfl)) k0 bel lt0) trodAll_mk0), rfl, bel.frame _, fun h => by cases h⟩
theorem over : Rows.sizesLeastRow.holds Try.pinned (OpenSpec.ofChange Rows.sizesLeastSpec) :=
  OpenClaim.holds_of_wide 8 Try.f8 rfl rfl rfl rfl rfl rfl rfl ⟨rfl, rfl, rfl, rfl, rfl⟩ rfl rfl rfl rfl rfl (by kernel_rfl) Try.func8 (by kernel_rfl)
    (of_decide_eq_true (by kernel_rfl)) (by unfold Func.isWrapper; first | (rw [if_pos (by decide +kernel)]; kernel_rfl) | (rw [if_neg (by decide +kernel)]; exact ⟨rfl, rfl⟩))
    (fun os started H enc _ => lifted os started H enc)
/-- The given statement. -/
theorem proved : Rows.SizesLeastSaid := over
end Go.Proofs.Ytchonkkflklckaa.zleast
