/- Proved: a number's bytes are the number, and 12 bytes 0; and what has bytes like that, and is not valid, is a number (CapsNumbers). For every input; no condition. -/
import Derived.Test.YtikgeombccoahaaRows
import Derived.Test.YtikgeombccoahaaCNums
import Derived.ProofKit
import Derived.OpenShut
import Derived.ShutString
import Derived.ChangeOld
namespace Go.Proofs.Ytikgeombccoahaa.cnums
open Go.ChangeShapes Go.WideShapes Go.ChangeAt Go.RowKit
open Go.ChangeMaps (open_string shut_string)
set_option linter.unusedVariables false

theorem walk (v : Int) (wv : (Lit.int .u32 v).wf = true) (u0 : Int) (wu0 : (Lit.int .u8 u0).wf = true) (u1 : Int) (wu1 : (Lit.int .u8 u1).wf = true) (u2 : Int) (wu2 : (Lit.int .u8 u2).wf = true) (u3 : Int) (wu3 : (Lit.int .u8 u3).wf = true) (u4 : Int) (wu4 : (Lit.int .u8 u4).wf = true) (u5 : Int) (wu5 : (Lit.int .u8 u5).wf = true) (u6 : Int) (wu6 : (Lit.int .u8 u6).wf = true) (u7 : Int) (wu7 : (Lit.int .u8 u7).wf = true) (u8 : Int) (wu8 : (Lit.int .u8 u8).wf = true) (u9 : Int) (wu9 : (Lit.int .u8 u9).wf = true) (u10 : Int) (wu10 : (Lit.int .u8 u10).wf = true) (u11 : Int) (wu11 : (Lit.int .u8 u11).wf = true) (u12 : Int) (wu12 : (Lit.int .u8 u12).wf = true) (u13 : Int) (wu13 : (Lit.int .u8 u13).wf = true) (u14 : Int) (wu14 : (Lit.int .u8 u14).wf = true) (u15 : Int) (wu15 : (Lit.int .u8 u15).wf = true) (W : World) :
    Calls Try.prog 8 #[.int .u32 v, .agg #[.int .u8 u0, .int .u8 u1, .int .u8 u2, .int .u8 u3, .int .u8 u4, .int .u8 u5, .int .u8 u6, .int .u8 u7, .int .u8 u8, .int .u8 u9, .int .u8 u10, .int .u8 u11, .int .u8 u12, .int .u8 u13, .int .u8 u14, .int .u8 u15]] W fun e w' => e = .returned (.bool true) ∧ Below W.heap.size W w' := by
  have hv := bounds_u32 wv
  obtain ⟨v, rfl⟩ := Int.eq_ofNat_of_zero_le hv.1
  have lv : v < 4294967296 := by omega
  clear hv wv
  obtain ⟨u0, rfl⟩ := byte_of wu0
  obtain ⟨u1, rfl⟩ := byte_of wu1
  obtain ⟨u2, rfl⟩ := byte_of wu2
  obtain ⟨u3, rfl⟩ := byte_of wu3
  obtain ⟨u4, rfl⟩ := byte_of wu4
  obtain ⟨u5, rfl⟩ := byte_of wu5
  obtain ⟨u6, rfl⟩ := byte_of wu6
  obtain ⟨u7, rfl⟩ := byte_of wu7
  obtain ⟨u8, rfl⟩ := byte_of wu8
  obtain ⟨u9, rfl⟩ := byte_of wu9
  obtain ⟨u10, rfl⟩ := byte_of wu10
  obtain ⟨u11, rfl⟩ := byte_of wu11
  obtain ⟨u12, rfl⟩ := byte_of wu12
  obtain ⟨u13, rfl⟩ := byte_of wu13
  obtain ⟨u14, rfl⟩ := byte_of wu14
  obtain ⟨u15, rfl⟩ := byte_of wu15
  exact walkN v u0 u1 u2 u3 u4 u5 u6 u7 u8 u9 u10 u11 u12 u13 u14 u15 lv W
theorem own : ownKnob Try.prog.godebug = none := by kernel_rfl
theorem laidOut : laidOutB Try.prog = true := by kernel_rfl
set_option maxRecDepth 100000 in
theorem lifted (os : Os) (started : os.Started) (H : Type) (enc : TypeId × Value → H) :
    ReturnsInHanded {} Try.checked os 8 .any (Rows.capsNumbersSpec.pre6 enc Try.prog Try.f8 Rows.capsNumbersRow.domain false) (Rows.capsNumbersSpec.post enc Try.prog Try.f8 false true false false) := by
  refine returnsInHanded_of_change (C := Try.checked) own started (by kernel_rfl) Try.func8
    (ChangeSpec.witness6 (enc := enc) (C := Try.checked) false ⟨#[], #[.int .u32 0, .agg #[.int .u8 0, .int .u8 0, .int .u8 0, .int .u8 0, .int .u8 0, .int .u8 0, .int .u8 0, .int .u8 0, .int .u8 0, .int .u8 0, .int .u8 0, .int .u8 0, .int .u8 0, .int .u8 0, .int .u8 0, .int .u8 0]], []⟩ 8 (by kernel_rfl) (by kernel_rfl) (by kernel_rfl) (by kernel_rfl)) ?_
  intro W base args ds gs before hval0 hW hcnd hsz
  have hval : ∀ (j : Nat) t v, Try.f8.params[j]? = some t → args[j]? = some v → Value.okWide Try.prog W .any base t v := hval0
  have hW' := hW
  obtain ⟨p, q, hA0, hV, rfl, hfz, hnd⟩ := hW
  have hA : DataW.TrodAll enc Try.prog W 0 (fun _ => true) true Try.f8.params.toList args.toList ds p := hA0
  rw [Try.params8] at hA hval
  obtain ⟨v0, vs0, d0, ds0, p0, q0, hargs, rfl, rfl, h0, r0⟩ := trodAll_cons hA
  obtain ⟨v1, vs1, d1, ds1, p1, q1, rfl, rfl, rfl, h1, r1⟩ := trodAll_cons r0
  obtain ⟨rfl, rfl, rfl⟩ := trodAll_nil r1
  obtain rfl : args = #[v0, v1] := by cases args; simp_all
  obtain ⟨rfl, rfl⟩ := trodVars_none hV
  have k0 := h0
  have lt0 : ∀ x ∈ p0, x.block < W.heap.size := by obtain ⟨m, hm⟩ := k0; exact DataW.trod_lt m _ _ _ hm
  have k1 := h1
  have lt1 : ∀ x ∈ p1, x.block < W.heap.size := by obtain ⟨m, hm⟩ := k1; exact DataW.trod_lt m _ _ _ hm
  obtain ⟨num, rfl, rfl, rfl, wnum⟩ := open_int Try.underlying22 (hval 0 22 v0 rfl rfl) h0
  obtain ⟨csx, rfl, hfx⟩ := open_flat (ks := [some .u8, some .u8, some .u8, some .u8, some .u8, some .u8, some .u8, some .u8, some .u8, some .u8, some .u8, some .u8, some .u8, some .u8, some .u8, some .u8]) 6 (by kernel_rfl) (.inr ⟨_, _, Try.underlying41⟩) (hval 1 41 v1 rfl rfl) h1
  obtain ⟨_, _, rfl, ⟨x0, rfl, wx0⟩, _, _, rfl, ⟨x1, rfl, wx1⟩, _, _, rfl, ⟨x2, rfl, wx2⟩, _, _, rfl, ⟨x3, rfl, wx3⟩, _, _, rfl, ⟨x4, rfl, wx4⟩, _, _, rfl, ⟨x5, rfl, wx5⟩, _, _, rfl, ⟨x6, rfl, wx6⟩, _, _, rfl, ⟨x7, rfl, wx7⟩, _, _, rfl, ⟨x8, rfl, wx8⟩, _, _, rfl, ⟨x9, rfl, wx9⟩, _, _, rfl, ⟨x10, rfl, wx10⟩, _, _, rfl, ⟨x11, rfl, wx11⟩, _, _, rfl, ⟨x12, rfl, wx12⟩, _, _, rfl, ⟨x13, rfl, wx13⟩, _, _, rfl, ⟨x14, rfl, wx14⟩, _, _, rfl, ⟨x15, rfl, wx15⟩, rfl⟩ := hfx
  clear hA0 hval0
  refine (walk num wnum x0 wx0 x1 wx1 x2 wx2 x3 wx3 x4 wx4 x5 wx5 x6 wx6 x7 wx7 x8 wx8 x9 wx9 x10 wx10 x11 wx11 x12 wx12 x13 wx13 x14 wx14 x15 wx15 W).mono fun e W' ⟨he, bel⟩ => ?_
  subst he
  exact ⟨_, rfl, _, _, _, [], _, [], hW', trodAll_mk1 (shut_bool Try.underlying4 _), (trodAll_cons_mk (Below.trod laidOut (by kernel_rfl) (of_decide_eq_true (by kernel_rfl)) k0 bel lt0) (trodAll_cons_mk (Below.trod laidOut (by kernel_rfl) (of_decide_eq_true (by kernel_rfl)) k1 bel lt1) trodAll_mk0)), rfl, bel.frame _, fun h => by cases h⟩
theorem over : Rows.capsNumbersRow.holds Try.pinned (OpenSpec.ofChange Rows.capsNumbersSpec) :=
  OpenClaim.holds_of_wide 8 Try.f8 rfl rfl rfl rfl rfl rfl rfl ⟨rfl, rfl, rfl, rfl, rfl⟩ rfl rfl rfl rfl rfl (by kernel_rfl) Try.func8 (by kernel_rfl)
    (of_decide_eq_true (by kernel_rfl)) (by unfold Func.isWrapper; first | (rw [if_pos (by decide +kernel)]; kernel_rfl) | (rw [if_neg (by decide +kernel)]; exact ⟨rfl, rfl⟩))
    (fun os started H enc _ => lifted os started H enc)
/-- The given statement. -/
theorem proved : Rows.CapsNumbersSaid := over
end Go.Proofs.Ytikgeombccoahaa.cnums
