/- Proved: a capability that is sound comes back from its bytes, and bytes that are taken are laid again (CapsBack). For every input; no condition. -/
import Derived.Test.YtikgeombccoahaaRows
import Derived.Test.YtikgeombccoahaaCBack
import Derived.ProofKit
import Derived.OpenShut
import Derived.ShutString
import Derived.ChangeOld
namespace Go.Proofs.Ytikgeombccoahaa.cback
open Go.ChangeShapes Go.WideShapes Go.ChangeAt Go.RowKit
open Go.ChangeMaps (open_string shut_string)
set_option linter.unusedVariables false

theorem walk (cu : Int) (wcu : (Lit.int .u32 cu).wf = true) (e : Int) (we : (Lit.int .u8 e).wf = true) (b : Int) (wb : (Lit.int .u16 b).wf = true) (t : Int) (wt : (Lit.int .u16 t).wf = true) (pm : Int) (wpm : (Lit.int .u16 pm).wf = true) (ty : Int) (wty : (Lit.int .u16 ty).wf = true) (rs : Int) (wrs : (Lit.int .u32 rs).wf = true) (va : Bool) (u0 : Int) (wu0 : (Lit.int .u8 u0).wf = true) (u1 : Int) (wu1 : (Lit.int .u8 u1).wf = true) (u2 : Int) (wu2 : (Lit.int .u8 u2).wf = true) (u3 : Int) (wu3 : (Lit.int .u8 u3).wf = true) (u4 : Int) (wu4 : (Lit.int .u8 u4).wf = true) (u5 : Int) (wu5 : (Lit.int .u8 u5).wf = true) (u6 : Int) (wu6 : (Lit.int .u8 u6).wf = true) (u7 : Int) (wu7 : (Lit.int .u8 u7).wf = true) (u8 : Int) (wu8 : (Lit.int .u8 u8).wf = true) (u9 : Int) (wu9 : (Lit.int .u8 u9).wf = true) (u10 : Int) (wu10 : (Lit.int .u8 u10).wf = true) (u11 : Int) (wu11 : (Lit.int .u8 u11).wf = true) (u12 : Int) (wu12 : (Lit.int .u8 u12).wf = true) (u13 : Int) (wu13 : (Lit.int .u8 u13).wf = true) (u14 : Int) (wu14 : (Lit.int .u8 u14).wf = true) (u15 : Int) (wu15 : (Lit.int .u8 u15).wf = true) (vd : Bool) (W : World) :
    Calls Try.prog 7 #[.agg #[.int .u32 cu, .int .u8 e, .int .u16 b, .int .u16 t, .int .u16 pm, .int .u16 ty, .int .u32 rs, .bool va], .agg #[.int .u8 u0, .int .u8 u1, .int .u8 u2, .int .u8 u3, .int .u8 u4, .int .u8 u5, .int .u8 u6, .int .u8 u7, .int .u8 u8, .int .u8 u9, .int .u8 u10, .int .u8 u11, .int .u8 u12, .int .u8 u13, .int .u8 u14, .int .u8 u15], .bool vd] W fun e w' => e = .returned (.bool true) ∧ Below W.heap.size W w' := by
  have hcu := bounds_u32 wcu
  obtain ⟨cu, rfl⟩ := Int.eq_ofNat_of_zero_le hcu.1
  have lcu : cu < 4294967296 := by omega
  clear hcu wcu
  have he := bounds_u8 we
  obtain ⟨e, rfl⟩ := Int.eq_ofNat_of_zero_le he.1
  have le : e < 256 := by omega
  clear he we
  have hb := bounds_u16 wb
  obtain ⟨b, rfl⟩ := Int.eq_ofNat_of_zero_le hb.1
  have lb : b < 65536 := by omega
  clear hb wb
  have ht := bounds_u16 wt
  obtain ⟨t, rfl⟩ := Int.eq_ofNat_of_zero_le ht.1
  have lt : t < 65536 := by omega
  clear ht wt
  have hpm := bounds_u16 wpm
  obtain ⟨pm, rfl⟩ := Int.eq_ofNat_of_zero_le hpm.1
  have lpm : pm < 65536 := by omega
  clear hpm wpm
  have hty := bounds_u16 wty
  obtain ⟨ty, rfl⟩ := Int.eq_ofNat_of_zero_le hty.1
  have lty : ty < 65536 := by omega
  clear hty wty
  have hrs := bounds_u32 wrs
  obtain ⟨rs, rfl⟩ := Int.eq_ofNat_of_zero_le hrs.1
  have lrs : rs < 4294967296 := by omega
  clear hrs wrs
  obtain ⟨u0, rfl⟩ := byte_of wu0
  obtain ⟨u1, rfl⟩ := byte_of wu1
  obtain ⟨u2, rfl⟩ := byte_of wu2
  obtain ⟨u3, rfl⟩ := byte_of wu3
  obtain ⟨u4, rfl⟩ := byte_of wu4
  obtain ⟨u5, rfl⟩ := byte_of wu5
  obtain ⟨u6, rfl⟩ := byte_of wu6
  obtain ⟨u7, rfl⟩ := byte_of wu7
  obtain ⟨u8, rfl⟩ := byte_of wu8
  obtain ⟨u9, rfl⟩ := byte_of wu9
  obtain ⟨u10, rfl⟩ := byte_of wu10
  obtain ⟨u11, rfl⟩ := byte_of wu11
  obtain ⟨u12, rfl⟩ := byte_of wu12
  obtain ⟨u13, rfl⟩ := byte_of wu13
  obtain ⟨u14, rfl⟩ := byte_of wu14
  obtain ⟨u15, rfl⟩ := byte_of wu15
  exact walkN cu e b t pm ty rs va u0 u1 u2 u3 u4 u5 u6 u7 u8 u9 u10 u11 u12 u13 u14 u15 vd lcu le lb lt lpm lty lrs W
theorem own : ownKnob Try.prog.godebug = none := by kernel_rfl
theorem laidOut : laidOutB Try.prog = true := by kernel_rfl
set_option maxRecDepth 100000 in
theorem lifted (os : Os) (started : os.Started) (H : Type) (enc : TypeId × Value → H) :
    ReturnsInHanded {} Try.checked os 7 .any (Rows.capsBackSpec.pre6 enc Try.prog Try.f7 Rows.capsBackRow.domain false) (Rows.capsBackSpec.post enc Try.prog Try.f7 false true false false) := by
  refine returnsInHanded_of_change (C := Try.checked) own started (by kernel_rfl) Try.func7
    (ChangeSpec.witness6 (enc := enc) (C := Try.checked) false ⟨#[], #[.agg #[.int .u32 0, .int .u8 0, .int .u16 0, .int .u16 0, .int .u16 0, .int .u16 0, .int .u32 0, .bool false], .agg #[.int .u8 0, .int .u8 0, .int .u8 0, .int .u8 0, .int .u8 0, .int .u8 0, .int .u8 0, .int .u8 0, .int .u8 0, .int .u8 0, .int .u8 0, .int .u8 0, .int .u8 0, .int .u8 0, .int .u8 0, .int .u8 0], .bool false], []⟩ 8 (by kernel_rfl) (by kernel_rfl) (by kernel_rfl) (by kernel_rfl)) ?_
  intro W base args ds gs before hval0 hW hcnd hsz
  have hval : ∀ (j : Nat) t v, Try.f7.params[j]? = some t → args[j]? = some v → Value.okWide Try.prog W .any base t v := hval0
  have hW' := hW
  obtain ⟨p, q, hA0, hV, rfl, hfz, hnd⟩ := hW
  have hA : DataW.TrodAll enc Try.prog W 0 (fun _ => true) true Try.f7.params.toList args.toList ds p := hA0
  rw [Try.params7] at hA hval
  obtain ⟨v0, vs0, d0, ds0, p0, q0, hargs, rfl, rfl, h0, r0⟩ := trodAll_cons hA
  obtain ⟨v1, vs1, d1, ds1, p1, q1, rfl, rfl, rfl, h1, r1⟩ := trodAll_cons r0
  obtain ⟨v2, vs2, d2, ds2, p2, q2, rfl, rfl, rfl, h2, r2⟩ := trodAll_cons r1
  obtain ⟨rfl, rfl, rfl⟩ := trodAll_nil r2
  obtain rfl : args = #[v0, v1, v2] := by cases args; simp_all
  obtain ⟨rfl, rfl⟩ := trodVars_none hV
  have k0 := h0
  have lt0 : ∀ x ∈ p0, x.block < W.heap.size := by obtain ⟨m, hm⟩ := k0; exact DataW.trod_lt m _ _ _ hm
  have k1 := h1
  have lt1 : ∀ x ∈ p1, x.block < W.heap.size := by obtain ⟨m, hm⟩ := k1; exact DataW.trod_lt m _ _ _ hm
  have k2 := h2
  have lt2 : ∀ x ∈ p2, x.block < W.heap.size := by obtain ⟨m, hm⟩ := k2; exact DataW.trod_lt m _ _ _ hm
  obtain ⟨csca, rfl, hfca⟩ := open_flat (ks := [some .u32, some .u8, some .u16, some .u16, some .u16, some .u16, some .u32, none]) 6 (by kernel_rfl) (.inl ⟨_, Try.underlying25⟩) (hval 0 25 v0 rfl rfl) h0
  obtain ⟨_, _, rfl, ⟨ca0, rfl, wca0⟩, _, _, rfl, ⟨ca1, rfl, wca1⟩, _, _, rfl, ⟨ca2, rfl, wca2⟩, _, _, rfl, ⟨ca3, rfl, wca3⟩, _, _, rfl, ⟨ca4, rfl, wca4⟩, _, _, rfl, ⟨ca5, rfl, wca5⟩, _, _, rfl, ⟨ca6, rfl, wca6⟩, _, _, rfl, ⟨ca7, rfl⟩, rfl⟩ := hfca
  obtain ⟨csx, rfl, hfx⟩ := open_flat (ks := [some .u8, some .u8, some .u8, some .u8, some .u8, some .u8, some .u8, some .u8, some .u8, some .u8, some .u8, some .u8, some .u8, some .u8, some .u8, some .u8]) 6 (by kernel_rfl) (.inr ⟨_, _, Try.underlying41⟩) (hval 1 41 v1 rfl rfl) h1
  obtain ⟨_, _, rfl, ⟨x0, rfl, wx0⟩, _, _, rfl, ⟨x1, rfl, wx1⟩, _, _, rfl, ⟨x2, rfl, wx2⟩, _, _, rfl, ⟨x3, rfl, wx3⟩, _, _, rfl, ⟨x4, rfl, wx4⟩, _, _, rfl, ⟨x5, rfl, wx5⟩, _, _, rfl, ⟨x6, rfl, wx6⟩, _, _, rfl, ⟨x7, rfl, wx7⟩, _, _, rfl, ⟨x8, rfl, wx8⟩, _, _, rfl, ⟨x9, rfl, wx9⟩, _, _, rfl, ⟨x10, rfl, wx10⟩, _, _, rfl, ⟨x11, rfl, wx11⟩, _, _, rfl, ⟨x12, rfl, wx12⟩, _, _, rfl, ⟨x13, rfl, wx13⟩, _, _, rfl, ⟨x14, rfl, wx14⟩, _, _, rfl, ⟨x15, rfl, wx15⟩, rfl⟩ := hfx
  obtain ⟨valid, rfl, rfl, rfl⟩ := open_bool Try.underlying4 (hval 2 4 v2 rfl rfl) h2
  clear hA0 hval0
  refine (walk ca0 wca0 ca1 wca1 ca2 wca2 ca3 wca3 ca4 wca4 ca5 wca5 ca6 wca6 ca7 x0 wx0 x1 wx1 x2 wx2 x3 wx3 x4 wx4 x5 wx5 x6 wx6 x7 wx7 x8 wx8 x9 wx9 x10 wx10 x11 wx11 x12 wx12 x13 wx13 x14 wx14 x15 wx15 valid W).mono fun e W' ⟨he, bel⟩ => ?_
  subst he
  exact ⟨_, rfl, _, _, _, [], _, [], hW', trodAll_mk1 (shut_bool Try.underlying4 _), (trodAll_cons_mk (Below.trod laidOut (by kernel_rfl) (of_decide_eq_true (by kernel_rfl)) k0 bel lt0) (trodAll_cons_mk (Below.trod laidOut (by kernel_rfl) (of_decide_eq_true (by kernel_rfl)) k1 bel lt1) (trodAll_cons_mk (Below.trod laidOut (by kernel_rfl) (of_decide_eq_true (by kernel_rfl)) k2 bel lt2) trodAll_mk0))), rfl, bel.frame _, fun h => by cases h⟩
theorem over : Rows.capsBackRow.holds Try.pinned (OpenSpec.ofChange Rows.capsBackSpec) :=
  OpenClaim.holds_of_wide 7 Try.f7 rfl rfl rfl rfl rfl rfl rfl ⟨rfl, rfl, rfl, rfl, rfl⟩ rfl rfl rfl rfl rfl (by kernel_rfl) Try.func7 (by kernel_rfl)
    (of_decide_eq_true (by kernel_rfl)) (by unfold Func.isWrapper; first | (rw [if_pos (by decide +kernel)]; kernel_rfl) | (rw [if_neg (by decide +kernel)]; exact ⟨rfl, rfl⟩))
    (fun os started H enc _ => lifted os started H enc)
/-- The given statement. -/
theorem proved : Rows.CapsBackSaid := over
end Go.Proofs.Ytikgeombccoahaa.cback
