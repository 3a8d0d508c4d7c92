/- Proved: of two sizes the greater one is not padded to less, and is not met where the lesser one is refused but for being 0; the least heap with which a size goes is what it is padded to (SizesRise). For every input; no condition. -/
import Derived.Test.YtchonkkflklckaaRows
import Derived.Test.YtchonkkflklckaaSzB
import Derived.ProofKit
import Derived.OpenShut
import Derived.ShutString
import Derived.ChangeOld
namespace Go.Proofs.Ytchonkkflklckaa.zrise
open Go.ChangeShapes Go.WideShapes Go.ChangeAt Go.RowKit
open Go.ChangeMaps (open_string shut_string)
set_option linter.unusedVariables false
set_option maxHeartbeats 8000000 in
theorem walk_le (x y h : Nat) (lx : x < 4294967296) (ly : y < 4294967296) (lh : h < 4294967296) (hxy : x ≤ y) (W : World) :
    Calls Try.prog 7 #[.int .u32 x, .int .u32 y, .int .u32 h] W fun e w' => e = .returned (.bool true) ∧ Below W.heap.size W w' := by
  have hA := Lib.hid (fun w => pPadded_any x h w lx lh)
  have hB := Lib.hid (fun w => pPadded_any y h w ly lh)
  have hW := Lib.hid (fun w => szworks_any w)
  have hc : (x : Int) ≤ (y : Int) := by omega
  obtain ⟨X, hX⟩ : ∃ X : Int, X = (x : Int) := ⟨_, rfl⟩
  by_cases ok : szP x ≠ 0 ∧ szP x ≤ h
  · obtain ⟨a1, a2, a3⟩ := pad_yes ok.1 ok.2
    have lp := szP_lt x
    have x0 : x ≠ 0 := fun k => by subst k; exact ok.1 sz_zero
    have hG := Lib.hid (fun w => pPadded_any x (szP x) w lx lp)
    have hH := Lib.hid (fun w => pPadded_any x (szP x - 1) w lx (by omega))
    obtain ⟨b1, b2, b3⟩ := pad_yes (s := x) (h := szP x) ok.1 (Nat.le_refl _)
    obtain ⟨c1, c2, c3⟩ := pad_no (s := x) (h := szP x - 1) (.inr (by have := ok.1; omega))
    rw [a1, a2, a3] at hA
    rw [b1, b2, b3] at hG
    rw [c1, c2, c3, show ((szP x - 1 : Nat) : Int) = (szP x : Int) - 1 from by have := ok.1; omega] at hH
    have xp : (0 : Int) < (x : Int) := by omega
    have y1 : 1 ≤ (szP x : Int) := by have := ok.1; omega
    have y2 : (szP x : Int) < 4294967296 := by omega
    by_cases oky : szP y ≠ 0 ∧ szP y ≤ h
    · obtain ⟨d1, d2, d3⟩ := pad_yes oky.1 oky.2
      have hm := (sz_mono (by omega) hxy oky.1).2
      have hm' : (szP x : Int) ≤ (szP y : Int) := by omega
      have hmd : decide ((szP y : Int) < (szP x : Int)) = false := decide_eq_false (by omega)
      rw [d1, d2, d3] at hB
      clear ok oky a1 a2 a3 b1 b2 b3 c1 c2 c3 d1 d2 d3 hm x0 lp hX
      generalize (szP y : Int) = Py at *
      generalize (szP x : Int) = Px at *
      generalize (szA y : Int) = Ay at *
      generalize (szA x : Int) = Ax at *
      generalize (x : Int) = Xi at *
      generalize (y : Int) = Yi at *
      go_enter Try.func7, Try.ntmps7
      go_wp2_with fail
      refine (hA.out _).mono ?_
      rintro e w1 ⟨rfl, g⟩
      have B := Lib.hid g
      clear g
      go_wp2_with fail
      refine (hB.out _).mono ?_
      rintro e w2 ⟨rfl, g⟩
      replace B := Lib.hid (B.out.trans (g.mono B.out.size))
      clear g
      go_wp2_with fail
      refine (hG.out _).mono ?_
      rintro e w3 ⟨rfl, g⟩
      replace B := Lib.hid (B.out.trans (g.mono B.out.size))
      clear g
      go_wp2_with fail
      refine (hH.out _).mono ?_
      rintro e w4 ⟨rfl, g⟩
      replace B := Lib.hid (B.out.trans (g.mono B.out.size))
      clear g
      go_wp2_with fail
      refine (hW.out _).mono ?_
      rintro e w5 ⟨rfl, g⟩
      replace B := Lib.hid (B.out.trans (g.mono B.out.size))
      clear g
      go_wp2
      go_ret
      exact ⟨rfl, B.out⟩
    · obtain ⟨d1, d2, d3⟩ := pad_no (s := y) (h := h) (by omega)
      rw [d1, d2, d3] at hB
      clear ok oky a1 a2 a3 b1 b2 b3 c1 c2 c3 d1 d2 d3 x0 lp hX
      generalize (szP x : Int) = Px at *
      generalize (szA x : Int) = Ax at *
      generalize (x : Int) = Xi at *
      generalize (y : Int) = Yi at *
      go_enter Try.func7, Try.ntmps7
      go_wp2_with fail
      refine (hA.out _).mono ?_
      rintro e w1 ⟨rfl, g⟩
      have B := Lib.hid g
      clear g
      go_wp2_with fail
      refine (hB.out _).mono ?_
      rintro e w2 ⟨rfl, g⟩
      replace B := Lib.hid (B.out.trans (g.mono B.out.size))
      clear g
      go_wp2_with fail
      refine (hG.out _).mono ?_
      rintro e w3 ⟨rfl, g⟩
      replace B := Lib.hid (B.out.trans (g.mono B.out.size))
      clear g
      go_wp2_with fail
      refine (hH.out _).mono ?_
      rintro e w4 ⟨rfl, g⟩
      replace B := Lib.hid (B.out.trans (g.mono B.out.size))
      clear g
      go_wp2_with fail
      refine (hW.out _).mono ?_
      rintro e w5 ⟨rfl, g⟩
      replace B := Lib.hid (B.out.trans (g.mono B.out.size))
      clear g
      go_wp2
      go_ret
      exact ⟨rfl, B.out⟩
  · obtain ⟨a1, a2, a3⟩ := pad_no (s := x) (h := h) (by omega)
    rw [a1, a2, a3] at hA
    by_cases oky : szP y ≠ 0 ∧ szP y ≤ h
    · obtain ⟨d1, d2, d3⟩ := pad_yes oky.1 oky.2
      have x0 : x = 0 := by
        rcases Nat.eq_zero_or_pos x with k | k
        · exact k
        · have := sz_mono k hxy oky.1
          exact absurd ⟨this.1, by have := oky.2; omega⟩ ok
      subst x0
      rw [d1, d2, d3] at hB
      clear ok oky a1 a2 a3 d1 d2 d3 hX
      generalize (szP y : Int) = Py at *
      generalize (szA y : Int) = Ay at *
      go_enter Try.func7, Try.ntmps7
      go_wp2_with fail
      refine (hA.out _).mono ?_
      rintro e w1 ⟨rfl, g⟩
      have B := Lib.hid g
      clear g
      go_wp2_with fail
      refine (hB.out _).mono ?_
      rintro e w2 ⟨rfl, g⟩
      replace B := Lib.hid (B.out.trans (g.mono B.out.size))
      clear g
      go_wp2_with fail
      refine (hW.out _).mono ?_
      rintro e w5 ⟨rfl, g⟩
      replace B := Lib.hid (B.out.trans (g.mono B.out.size))
      clear g
      go_wp2
      go_ret
      exact ⟨rfl, B.out⟩
    · obtain ⟨d1, d2, d3⟩ := pad_no (s := y) (h := h) (by omega)
      rw [d1, d2, d3] at hB
      clear ok oky a1 a2 a3 d1 d2 d3 hX
      go_enter Try.func7, Try.ntmps7
      go_wp2_with fail
      refine (hA.out _).mono ?_
      rintro e w1 ⟨rfl, g⟩
      have B := Lib.hid g
      clear g
      go_wp2_with fail
      refine (hB.out _).mono ?_
      rintro e w2 ⟨rfl, g⟩
      replace B := Lib.hid (B.out.trans (g.mono B.out.size))
      clear g
      go_wp2_with fail
      refine (hW.out _).mono ?_
      rintro e w5 ⟨rfl, g⟩
      replace B := Lib.hid (B.out.trans (g.mono B.out.size))
      clear g
      go_wp2
      go_ret
      exact ⟨rfl, B.out⟩
set_option maxHeartbeats 8000000 in
theorem walk_gt (x y h : Nat) (lx : x < 4294967296) (ly : y < 4294967296) (lh : h < 4294967296) (hlt : x < y) (W : World) :
    Calls Try.prog 7 #[.int .u32 y, .int .u32 x, .int .u32 h] W fun e w' => e = .returned (.bool true) ∧ Below W.heap.size W w' := by
  have hA := Lib.hid (fun w => pPadded_any x h w lx lh)
  have hB := Lib.hid (fun w => pPadded_any y h w ly lh)
  have hW := Lib.hid (fun w => szworks_any w)
  have hxy : x ≤ y := by omega
  have hc : (x : Int) < (y : Int) := by omega
  obtain ⟨X, hX⟩ : ∃ X : Int, X = (x : Int) := ⟨_, rfl⟩
  by_cases ok : szP x ≠ 0 ∧ szP x ≤ h
  · obtain ⟨a1, a2, a3⟩ := pad_yes ok.1 ok.2
    have lp := szP_lt x
    have x0 : x ≠ 0 := fun k => by subst k; exact ok.1 sz_zero
    have hG := Lib.hid (fun w => pPadded_any x (szP x) w lx lp)
    have hH := Lib.hid (fun w => pPadded_any x (szP x - 1) w lx (by omega))
    obtain ⟨b1, b2, b3⟩ := pad_yes (s := x) (h := szP x) ok.1 (Nat.le_refl _)
    obtain ⟨c1, c2, c3⟩ := pad_no (s := x) (h := szP x - 1) (.inr (by have := ok.1; omega))
    rw [a1, a2, a3] at hA
    rw [b1, b2, b3] at hG
    rw [c1, c2, c3, show ((szP x - 1 : Nat) : Int) = (szP x : Int) - 1 from by have := ok.1; omega] at hH
    have xp : (0 : Int) < (x : Int) := by omega
    have y1 : 1 ≤ (szP x : Int) := by have := ok.1; omega
    have y2 : (szP x : Int) < 4294967296 := by omega
    by_cases oky : szP y ≠ 0 ∧ szP y ≤ h
    · obtain ⟨d1, d2, d3⟩ := pad_yes oky.1 oky.2
      have hm := (sz_mono (by omega) hxy oky.1).2
      have hm' : (szP x : Int) ≤ (szP y : Int) := by omega
      have hmd : decide ((szP y : Int) < (szP x : Int)) = false := decide_eq_false (by omega)
      rw [d1, d2, d3] at hB
      clear ok oky a1 a2 a3 b1 b2 b3 c1 c2 c3 d1 d2 d3 hm x0 lp hX
      generalize (szP y : Int) = Py at *
      generalize (szP x : Int) = Px at *
      generalize (szA y : Int) = Ay at *
      generalize (szA x : Int) = Ax at *
      generalize (x : Int) = Xi at *
      generalize (y : Int) = Yi at *
      go_enter Try.func7, Try.ntmps7
      go_wp2_with fail
      refine (hA.out _).mono ?_
      rintro e w1 ⟨rfl, g⟩
      have B := Lib.hid g
      clear g
      go_wp2_with fail
      refine (hB.out _).mono ?_
      rintro e w2 ⟨rfl, g⟩
      replace B := Lib.hid (B.out.trans (g.mono B.out.size))
      clear g
      go_wp2_with fail
      refine (hG.out _).mono ?_
      rintro e w3 ⟨rfl, g⟩
      replace B := Lib.hid (B.out.trans (g.mono B.out.size))
      clear g
      go_wp2_with fail
      refine (hH.out _).mono ?_
      rintro e w4 ⟨rfl, g⟩
      replace B := Lib.hid (B.out.trans (g.mono B.out.size))
      clear g
      go_wp2_with fail
      refine (hW.out _).mono ?_
      rintro e w5 ⟨rfl, g⟩
      replace B := Lib.hid (B.out.trans (g.mono B.out.size))
      clear g
      go_wp2
      go_ret
      exact ⟨rfl, B.out⟩
    · obtain ⟨d1, d2, d3⟩ := pad_no (s := y) (h := h) (by omega)
      rw [d1, d2, d3] at hB
      clear ok oky a1 a2 a3 b1 b2 b3 c1 c2 c3 d1 d2 d3 x0 lp hX
      generalize (szP x : Int) = Px at *
      generalize (szA x : Int) = Ax at *
      generalize (x : Int) = Xi at *
      generalize (y : Int) = Yi at *
      go_enter Try.func7, Try.ntmps7
      go_wp2_with fail
      refine (hA.out _).mono ?_
      rintro e w1 ⟨rfl, g⟩
      have B := Lib.hid g
      clear g
      go_wp2_with fail
      refine (hB.out _).mono ?_
      rintro e w2 ⟨rfl, g⟩
      replace B := Lib.hid (B.out.trans (g.mono B.out.size))
      clear g
      go_wp2_with fail
      refine (hG.out _).mono ?_
      rintro e w3 ⟨rfl, g⟩
      replace B := Lib.hid (B.out.trans (g.mono B.out.size))
      clear g
      go_wp2_with fail
      refine (hH.out _).mono ?_
      rintro e w4 ⟨rfl, g⟩
      replace B := Lib.hid (B.out.trans (g.mono B.out.size))
      clear g
      go_wp2_with fail
      refine (hW.out _).mono ?_
      rintro e w5 ⟨rfl, g⟩
      replace B := Lib.hid (B.out.trans (g.mono B.out.size))
      clear g
      go_wp2
      go_ret
      exact ⟨rfl, B.out⟩
  · obtain ⟨a1, a2, a3⟩ := pad_no (s := x) (h := h) (by omega)
    rw [a1, a2, a3] at hA
    by_cases oky : szP y ≠ 0 ∧ szP y ≤ h
    · obtain ⟨d1, d2, d3⟩ := pad_yes oky.1 oky.2
      have x0 : x = 0 := by
        rcases Nat.eq_zero_or_pos x with k | k
        · exact k
        · have := sz_mono k hxy oky.1
          exact absurd ⟨this.1, by have := oky.2; omega⟩ ok
      subst x0
      rw [d1, d2, d3] at hB
      clear ok oky a1 a2 a3 d1 d2 d3 hX
      generalize (szP y : Int) = Py at *
      generalize (szA y : Int) = Ay at *
      go_enter Try.func7, Try.ntmps7
      go_wp2_with fail
      refine (hA.out _).mono ?_
      rintro e w1 ⟨rfl, g⟩
      have B := Lib.hid g
      clear g
      go_wp2_with fail
      refine (hB.out _).mono ?_
      rintro e w2 ⟨rfl, g⟩
      replace B := Lib.hid (B.out.trans (g.mono B.out.size))
      clear g
      go_wp2_with fail
      refine (hW.out _).mono ?_
      rintro e w5 ⟨rfl, g⟩
      replace B := Lib.hid (B.out.trans (g.mono B.out.size))
      clear g
      go_wp2
      go_ret
      exact ⟨rfl, B.out⟩
    · obtain ⟨d1, d2, d3⟩ := pad_no (s := y) (h := h) (by omega)
      rw [d1, d2, d3] at hB
      clear ok oky a1 a2 a3 d1 d2 d3 hX
      go_enter Try.func7, Try.ntmps7
      go_wp2_with fail
      refine (hA.out _).mono ?_
      rintro e w1 ⟨rfl, g⟩
      have B := Lib.hid g
      clear g
      go_wp2_with fail
      refine (hB.out _).mono ?_
      rintro e w2 ⟨rfl, g⟩
      replace B := Lib.hid (B.out.trans (g.mono B.out.size))
      clear g
      go_wp2_with fail
      refine (hW.out _).mono ?_
      rintro e w5 ⟨rfl, g⟩
      replace B := Lib.hid (B.out.trans (g.mono B.out.size))
      clear g
      go_wp2
      go_ret
      exact ⟨rfl, B.out⟩
theorem walk (a : Int) (wa : (Lit.int .u32 a).wf = true) (b : Int) (wb : (Lit.int .u32 b).wf = true) (h : Int) (wh : (Lit.int .u32 h).wf = true) (W : World) :
    Calls Try.prog 7 #[.int .u32 a, .int .u32 b, .int .u32 h] W fun e w' => e = .returned (.bool true) ∧ Below W.heap.size W w' := by
  have ha := bounds_u32 wa
  obtain ⟨a, rfl⟩ := Int.eq_ofNat_of_zero_le ha.1
  have la : a < 4294967296 := by omega
  clear ha wa
  have hb := bounds_u32 wb
  obtain ⟨b, rfl⟩ := Int.eq_ofNat_of_zero_le hb.1
  have lb : b < 4294967296 := by omega
  clear hb wb
  have h0 := bounds_u32 wh
  obtain ⟨h, rfl⟩ := Int.eq_ofNat_of_zero_le h0.1
  have lh : h < 4294967296 := by omega
  clear h0 wh
  rcases Nat.lt_or_ge b a with k | k
  · exact walk_gt b a h lb la lh k W
  · exact walk_le a b h la lb lh k W
theorem own : ownKnob Try.prog.godebug = none := by kernel_rfl
theorem laidOut : laidOutB Try.prog = true := by kernel_rfl
set_option maxRecDepth 100000 in
theorem lifted (os : Os) (started : os.Started) (H : Type) (enc : TypeId × Value → H) :
    ReturnsInHanded {} Try.checked os 7 .any (Rows.sizesRiseSpec.pre6 enc Try.prog Try.f7 Rows.sizesRiseRow.domain false) (Rows.sizesRiseSpec.post enc Try.prog Try.f7 false true false false) := by
  refine returnsInHanded_of_change (C := Try.checked) own started (by kernel_rfl) Try.func7
    (ChangeSpec.witness6 (enc := enc) (C := Try.checked) false ⟨#[], #[.int .u32 0, .int .u32 0, .int .u32 0], []⟩ 8 (by kernel_rfl) (by kernel_rfl) (by kernel_rfl) (by kernel_rfl)) ?_
  intro W base args ds gs before hval0 hW hcnd hsz
  have hval : ∀ (j : Nat) t v, Try.f7.params[j]? = some t → args[j]? = some v → Value.okWide Try.prog W .any base t v := hval0
  have hW' := hW
  obtain ⟨p, q, hA0, hV, rfl, hfz, hnd⟩ := hW
  have hA : DataW.TrodAll enc Try.prog W 0 (fun _ => true) true Try.f7.params.toList args.toList ds p := hA0
  rw [Try.params7] at hA hval
  obtain ⟨v0, vs0, d0, ds0, p0, q0, hargs, rfl, rfl, h0, r0⟩ := trodAll_cons hA
  obtain ⟨v1, vs1, d1, ds1, p1, q1, rfl, rfl, rfl, h1, r1⟩ := trodAll_cons r0
  obtain ⟨v2, vs2, d2, ds2, p2, q2, rfl, rfl, rfl, h2, r2⟩ := trodAll_cons r1
  obtain ⟨rfl, rfl, rfl⟩ := trodAll_nil r2
  obtain rfl : args = #[v0, v1, v2] := by cases args; simp_all
  obtain ⟨rfl, rfl⟩ := trodVars_none hV
  have k0 := h0
  have lt0 : ∀ x ∈ p0, x.block < W.heap.size := by obtain ⟨m, hm⟩ := k0; exact DataW.trod_lt m _ _ _ hm
  have k1 := h1
  have lt1 : ∀ x ∈ p1, x.block < W.heap.size := by obtain ⟨m, hm⟩ := k1; exact DataW.trod_lt m _ _ _ hm
  have k2 := h2
  have lt2 : ∀ x ∈ p2, x.block < W.heap.size := by obtain ⟨m, hm⟩ := k2; exact DataW.trod_lt m _ _ _ hm
  obtain ⟨a, rfl, rfl, rfl, wa⟩ := open_int Try.underlying22 (hval 0 22 v0 rfl rfl) h0
  obtain ⟨b, rfl, rfl, rfl, wb⟩ := open_int Try.underlying22 (hval 1 22 v1 rfl rfl) h1
  obtain ⟨heap, rfl, rfl, rfl, wheap⟩ := open_int Try.underlying22 (hval 2 22 v2 rfl rfl) h2
  clear hA0 hval0
  refine (walk a wa b wb heap wheap W).mono fun e W' ⟨he, bel⟩ => ?_
  subst he
  exact ⟨_, rfl, _, _, _, [], _, [], hW', trodAll_mk1 (shut_bool Try.underlying4 _), (trodAll_cons_mk (Below.trod laidOut (by kernel_rfl) (of_decide_eq_true (by kernel_rfl)) k0 bel lt0) (trodAll_cons_mk (Below.trod laidOut (by kernel_rfl) (of_decide_eq_true (by kernel_rfl)) k1 bel lt1) (trodAll_cons_mk (Below.trod laidOut (by kernel_rfl) (of_decide_eq_true (by kernel_rfl)) k2 bel lt2) trodAll_mk0))), rfl, bel.frame _, fun h => by cases h⟩
theorem over : Rows.sizesRiseRow.holds Try.pinned (OpenSpec.ofChange Rows.sizesRiseSpec) :=
  OpenClaim.holds_of_wide 7 Try.f7 rfl rfl rfl rfl rfl rfl rfl ⟨rfl, rfl, rfl, rfl, rfl⟩ rfl rfl rfl rfl rfl (by kernel_rfl) Try.func7 (by kernel_rfl)
    (of_decide_eq_true (by kernel_rfl)) (by unfold Func.isWrapper; first | (rw [if_pos (by decide +kernel)]; kernel_rfl) | (rw [if_neg (by decide +kernel)]; exact ⟨rfl, rfl⟩))
    (fun os started H enc _ => lifted os started H enc)
/-- The given statement. -/
theorem proved : Rows.SizesRiseSaid := over
end Go.Proofs.Ytchonkkflklckaa.zrise
