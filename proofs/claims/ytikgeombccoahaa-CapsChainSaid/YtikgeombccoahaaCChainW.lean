/- Proved: each capability lies within itself; what lies within one that lies within a third one lies within that; and what one meets, or holds, the one that it lies within meets, or holds (CapsChain). For every input; no condition. -/
import Derived.Test.YtikgeombccoahaaRows
import Derived.Test.YtikgeombccoahaaCChain
import Derived.ProofKit
import Derived.OpenShut
import Derived.ShutString
import Derived.ChangeOld
namespace Go.Proofs.Ytikgeombccoahaa.cchain
open Go.ChangeShapes Go.WideShapes Go.ChangeAt Go.RowKit
open Go.ChangeMaps (open_string shut_string)
set_option linter.unusedVariables false

theorem walk (cu1 : Int) (wcu1 : (Lit.int .u32 cu1).wf = true) (e1 : Int) (we1 : (Lit.int .u8 e1).wf = true) (b1 : Int) (wb1 : (Lit.int .u16 b1).wf = true) (t1 : Int) (wt1 : (Lit.int .u16 t1).wf = true) (pm1 : Int) (wpm1 : (Lit.int .u16 pm1).wf = true) (ty1 : Int) (wty1 : (Lit.int .u16 ty1).wf = true) (rs1 : Int) (wrs1 : (Lit.int .u32 rs1).wf = true) (va1 : Bool) (cu2 : Int) (wcu2 : (Lit.int .u32 cu2).wf = true) (e2 : Int) (we2 : (Lit.int .u8 e2).wf = true) (b2 : Int) (wb2 : (Lit.int .u16 b2).wf = true) (t2 : Int) (wt2 : (Lit.int .u16 t2).wf = true) (pm2 : Int) (wpm2 : (Lit.int .u16 pm2).wf = true) (ty2 : Int) (wty2 : (Lit.int .u16 ty2).wf = true) (rs2 : Int) (wrs2 : (Lit.int .u32 rs2).wf = true) (va2 : Bool) (cu3 : Int) (wcu3 : (Lit.int .u32 cu3).wf = true) (e3 : Int) (we3 : (Lit.int .u8 e3).wf = true) (b3 : Int) (wb3 : (Lit.int .u16 b3).wf = true) (t3 : Int) (wt3 : (Lit.int .u16 t3).wf = true) (pm3 : Int) (wpm3 : (Lit.int .u16 pm3).wf = true) (ty3 : Int) (wty3 : (Lit.int .u16 ty3).wf = true) (rs3 : Int) (wrs3 : (Lit.int .u32 rs3).wf = true) (va3 : Bool) (ra : Int) (wra : (Lit.int .u32 ra).wf = true) (rz : Int) (wrz : (Lit.int .u32 rz).wf = true) (W : World) :
    Calls Try.prog 9 #[.agg #[.int .u32 cu1, .int .u8 e1, .int .u16 b1, .int .u16 t1, .int .u16 pm1, .int .u16 ty1, .int .u32 rs1, .bool va1, .int .u32 cu2, .int .u8 e2, .int .u16 b2, .int .u16 t2, .int .u16 pm2, .int .u16 ty2, .int .u32 rs2, .bool va2, .int .u32 cu3, .int .u8 e3, .int .u16 b3, .int .u16 t3, .int .u16 pm3, .int .u16 ty3, .int .u32 rs3, .bool va3], .agg #[.int .u32 ra, .int .u32 rz]] W fun e w' => e = .returned (.bool true) ∧ Below W.heap.size W w' := by
  have hcu1 := bounds_u32 wcu1
  obtain ⟨cu1, rfl⟩ := Int.eq_ofNat_of_zero_le hcu1.1
  have lcu1 : cu1 < 4294967296 := by omega
  clear hcu1 wcu1
  have he1 := bounds_u8 we1
  obtain ⟨e1, rfl⟩ := Int.eq_ofNat_of_zero_le he1.1
  have le1 : e1 < 256 := by omega
  clear he1 we1
  have hb1 := bounds_u16 wb1
  obtain ⟨b1, rfl⟩ := Int.eq_ofNat_of_zero_le hb1.1
  have lb1 : b1 < 65536 := by omega
  clear hb1 wb1
  have ht1 := bounds_u16 wt1
  obtain ⟨t1, rfl⟩ := Int.eq_ofNat_of_zero_le ht1.1
  have lt1 : t1 < 65536 := by omega
  clear ht1 wt1
  have hpm1 := bounds_u16 wpm1
  obtain ⟨pm1, rfl⟩ := Int.eq_ofNat_of_zero_le hpm1.1
  have lpm1 : pm1 < 65536 := by omega
  clear hpm1 wpm1
  have hty1 := bounds_u16 wty1
  obtain ⟨ty1, rfl⟩ := Int.eq_ofNat_of_zero_le hty1.1
  have lty1 : ty1 < 65536 := by omega
  clear hty1 wty1
  have hrs1 := bounds_u32 wrs1
  obtain ⟨rs1, rfl⟩ := Int.eq_ofNat_of_zero_le hrs1.1
  have lrs1 : rs1 < 4294967296 := by omega
  clear hrs1 wrs1
  have hcu2 := bounds_u32 wcu2
  obtain ⟨cu2, rfl⟩ := Int.eq_ofNat_of_zero_le hcu2.1
  have lcu2 : cu2 < 4294967296 := by omega
  clear hcu2 wcu2
  have he2 := bounds_u8 we2
  obtain ⟨e2, rfl⟩ := Int.eq_ofNat_of_zero_le he2.1
  have le2 : e2 < 256 := by omega
  clear he2 we2
  have hb2 := bounds_u16 wb2
  obtain ⟨b2, rfl⟩ := Int.eq_ofNat_of_zero_le hb2.1
  have lb2 : b2 < 65536 := by omega
  clear hb2 wb2
  have ht2 := bounds_u16 wt2
  obtain ⟨t2, rfl⟩ := Int.eq_ofNat_of_zero_le ht2.1
  have lt2 : t2 < 65536 := by omega
  clear ht2 wt2
  have hpm2 := bounds_u16 wpm2
  obtain ⟨pm2, rfl⟩ := Int.eq_ofNat_of_zero_le hpm2.1
  have lpm2 : pm2 < 65536 := by omega
  clear hpm2 wpm2
  have hty2 := bounds_u16 wty2
  obtain ⟨ty2, rfl⟩ := Int.eq_ofNat_of_zero_le hty2.1
  have lty2 : ty2 < 65536 := by omega
  clear hty2 wty2
  have hrs2 := bounds_u32 wrs2
  obtain ⟨rs2, rfl⟩ := Int.eq_ofNat_of_zero_le hrs2.1
  have lrs2 : rs2 < 4294967296 := by omega
  clear hrs2 wrs2
  have hcu3 := bounds_u32 wcu3
  obtain ⟨cu3, rfl⟩ := Int.eq_ofNat_of_zero_le hcu3.1
  have lcu3 : cu3 < 4294967296 := by omega
  clear hcu3 wcu3
  have he3 := bounds_u8 we3
  obtain ⟨e3, rfl⟩ := Int.eq_ofNat_of_zero_le he3.1
  have le3 : e3 < 256 := by omega
  clear he3 we3
  have hb3 := bounds_u16 wb3
  obtain ⟨b3, rfl⟩ := Int.eq_ofNat_of_zero_le hb3.1
  have lb3 : b3 < 65536 := by omega
  clear hb3 wb3
  have ht3 := bounds_u16 wt3
  obtain ⟨t3, rfl⟩ := Int.eq_ofNat_of_zero_le ht3.1
  have lt3 : t3 < 65536 := by omega
  clear ht3 wt3
  have hpm3 := bounds_u16 wpm3
  obtain ⟨pm3, rfl⟩ := Int.eq_ofNat_of_zero_le hpm3.1
  have lpm3 : pm3 < 65536 := by omega
  clear hpm3 wpm3
  have hty3 := bounds_u16 wty3
  obtain ⟨ty3, rfl⟩ := Int.eq_ofNat_of_zero_le hty3.1
  have lty3 : ty3 < 65536 := by omega
  clear hty3 wty3
  have hrs3 := bounds_u32 wrs3
  obtain ⟨rs3, rfl⟩ := Int.eq_ofNat_of_zero_le hrs3.1
  have lrs3 : rs3 < 4294967296 := by omega
  clear hrs3 wrs3
  have hra := bounds_u32 wra
  obtain ⟨ra, rfl⟩ := Int.eq_ofNat_of_zero_le hra.1
  have lra : ra < 4294967296 := by omega
  clear hra wra
  have hrz := bounds_u32 wrz
  obtain ⟨rz, rfl⟩ := Int.eq_ofNat_of_zero_le hrz.1
  have lrz : rz < 4294967296 := by omega
  clear hrz wrz
  exact walkN cu1 e1 b1 t1 pm1 ty1 rs1 va1 cu2 e2 b2 t2 pm2 ty2 rs2 va2 cu3 e3 b3 t3 pm3 ty3 rs3 va3 ra rz lcu1 le1 lb1 lt1 lpm1 lty1 lrs1 lcu2 le2 lb2 lt2 lpm2 lty2 lrs2 lcu3 le3 lb3 lt3 lpm3 lty3 lrs3 lra lrz W
theorem own : ownKnob Try.prog.godebug = none := by kernel_rfl
theorem laidOut : laidOutB Try.prog = true := by kernel_rfl
set_option maxRecDepth 100000 in
theorem lifted (os : Os) (started : os.Started) (H : Type) (enc : TypeId × Value → H) :
    ReturnsInHanded {} Try.checked os 9 .any (Rows.capsChainSpec.pre6 enc Try.prog Try.f9 Rows.capsChainRow.domain false) (Rows.capsChainSpec.post enc Try.prog Try.f9 false true false false) := by
  refine returnsInHanded_of_change (C := Try.checked) own started (by kernel_rfl) Try.func9
    (ChangeSpec.witness6 (enc := enc) (C := Try.checked) false ⟨#[], #[.agg #[.int .u32 0, .int .u8 0, .int .u16 0, .int .u16 0, .int .u16 0, .int .u16 0, .int .u32 0, .bool false, .int .u32 0, .int .u8 0, .int .u16 0, .int .u16 0, .int .u16 0, .int .u16 0, .int .u32 0, .bool false, .int .u32 0, .int .u8 0, .int .u16 0, .int .u16 0, .int .u16 0, .int .u16 0, .int .u32 0, .bool false], .agg #[.int .u32 0, .int .u32 0]], []⟩ 8 (by kernel_rfl) (by kernel_rfl) (by kernel_rfl) (by kernel_rfl)) ?_
  intro W base args ds gs before hval0 hW hcnd hsz
  have hval : ∀ (j : Nat) t v, Try.f9.params[j]? = some t → args[j]? = some v → Value.okWide Try.prog W .any base t v := hval0
  have hW' := hW
  obtain ⟨p, q, hA0, hV, rfl, hfz, hnd⟩ := hW
  have hA : DataW.TrodAll enc Try.prog W 0 (fun _ => true) true Try.f9.params.toList args.toList ds p := hA0
  rw [Try.params9] at hA hval
  obtain ⟨v0, vs0, d0, ds0, p0, q0, hargs, rfl, rfl, h0, r0⟩ := trodAll_cons hA
  obtain ⟨v1, vs1, d1, ds1, p1, q1, rfl, rfl, rfl, h1, r1⟩ := trodAll_cons r0
  obtain ⟨rfl, rfl, rfl⟩ := trodAll_nil r1
  obtain rfl : args = #[v0, v1] := by cases args; simp_all
  obtain ⟨rfl, rfl⟩ := trodVars_none hV
  have k0 := h0
  have lt0 : ∀ x ∈ p0, x.block < W.heap.size := by obtain ⟨m, hm⟩ := k0; exact DataW.trod_lt m _ _ _ hm
  have k1 := h1
  have lt1 : ∀ x ∈ p1, x.block < W.heap.size := by obtain ⟨m, hm⟩ := k1; exact DataW.trod_lt m _ _ _ hm
  obtain ⟨csl, rfl, hfl⟩ := open_flat (ks := [some .u32, some .u8, some .u16, some .u16, some .u16, some .u16, some .u32, none, some .u32, some .u8, some .u16, some .u16, some .u16, some .u16, some .u32, none, some .u32, some .u8, some .u16, some .u16, some .u16, some .u16, some .u32, none]) 6 (by kernel_rfl) (.inr ⟨_, _, Try.underlying48⟩) (hval 0 48 v0 rfl rfl) h0
  obtain ⟨_, _, rfl, ⟨l0, rfl, wl0⟩, _, _, rfl, ⟨l1, rfl, wl1⟩, _, _, rfl, ⟨l2, rfl, wl2⟩, _, _, rfl, ⟨l3, rfl, wl3⟩, _, _, rfl, ⟨l4, rfl, wl4⟩, _, _, rfl, ⟨l5, rfl, wl5⟩, _, _, rfl, ⟨l6, rfl, wl6⟩, _, _, rfl, ⟨l7, rfl⟩, _, _, rfl, ⟨l8, rfl, wl8⟩, _, _, rfl, ⟨l9, rfl, wl9⟩, _, _, rfl, ⟨l10, rfl, wl10⟩, _, _, rfl, ⟨l11, rfl, wl11⟩, _, _, rfl, ⟨l12, rfl, wl12⟩, _, _, rfl, ⟨l13, rfl, wl13⟩, _, _, rfl, ⟨l14, rfl, wl14⟩, _, _, rfl, ⟨l15, rfl⟩, _, _, rfl, ⟨l16, rfl, wl16⟩, _, _, rfl, ⟨l17, rfl, wl17⟩, _, _, rfl, ⟨l18, rfl, wl18⟩, _, _, rfl, ⟨l19, rfl, wl19⟩, _, _, rfl, ⟨l20, rfl, wl20⟩, _, _, rfl, ⟨l21, rfl, wl21⟩, _, _, rfl, ⟨l22, rfl, wl22⟩, _, _, rfl, ⟨l23, rfl⟩, rfl⟩ := hfl
  obtain ⟨csrg, rfl, hfrg⟩ := open_flat (ks := [some .u32, some .u32]) 6 (by kernel_rfl) (.inl ⟨_, Try.underlying33⟩) (hval 1 33 v1 rfl rfl) h1
  obtain ⟨_, _, rfl, ⟨rg0, rfl, wrg0⟩, _, _, rfl, ⟨rg1, rfl, wrg1⟩, rfl⟩ := hfrg
  clear hA0 hval0
  refine (walk l0 wl0 l1 wl1 l2 wl2 l3 wl3 l4 wl4 l5 wl5 l6 wl6 l7 l8 wl8 l9 wl9 l10 wl10 l11 wl11 l12 wl12 l13 wl13 l14 wl14 l15 l16 wl16 l17 wl17 l18 wl18 l19 wl19 l20 wl20 l21 wl21 l22 wl22 l23 rg0 wrg0 rg1 wrg1 W).mono fun e W' ⟨he, bel⟩ => ?_
  subst he
  exact ⟨_, rfl, _, _, _, [], _, [], hW', trodAll_mk1 (shut_bool Try.underlying4 _), (trodAll_cons_mk (Below.trod laidOut (by kernel_rfl) (of_decide_eq_true (by kernel_rfl)) k0 bel lt0) (trodAll_cons_mk (Below.trod laidOut (by kernel_rfl) (of_decide_eq_true (by kernel_rfl)) k1 bel lt1) trodAll_mk0)), rfl, bel.frame _, fun h => by cases h⟩
theorem over : Rows.capsChainRow.holds Try.pinned (OpenSpec.ofChange Rows.capsChainSpec) :=
  OpenClaim.holds_of_wide 9 Try.f9 rfl rfl rfl rfl rfl rfl rfl ⟨rfl, rfl, rfl, rfl, rfl⟩ rfl rfl rfl rfl rfl (by kernel_rfl) Try.func9 (by kernel_rfl)
    (of_decide_eq_true (by kernel_rfl)) (by unfold Func.isWrapper; first | (rw [if_pos (by decide +kernel)]; kernel_rfl) | (rw [if_neg (by decide +kernel)]; exact ⟨rfl, rfl⟩))
    (fun os started H enc _ => lifted os started H enc)
/-- The given statement. -/
theorem proved : Rows.CapsChainSaid := over
end Go.Proofs.Ytikgeombccoahaa.cchain
