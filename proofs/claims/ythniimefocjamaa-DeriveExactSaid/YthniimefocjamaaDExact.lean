/- Proved: any capability's bounds are set exactly, or not, as the document says (DeriveExact). For every input; no condition. -/
import Derived.Test.YthniimefocjamaaRows
import Derived.Test.YthniimefocjamaaDerW
import Derived.Test.YthniimefocjamaaFlat
import Derived.ProofKit
import Derived.OpenShut
import Derived.ShutString
import Derived.ChangeOld
namespace Go.Proofs.Ythniimefocjamaa.dexact
open Go.ChangeShapes Go.WideShapes Go.ChangeAt Go.RowKit
open Go.ChangeMaps (open_string shut_string)
set_option linter.unusedVariables false

theorem walkN (cu e b t pm ty rs : Nat) (va : Bool) (v : Nat) (l0 : cu < 4294967296) (l1 : e < 256) (l2 : b < 65536) (l3 : t < 65536) (l4 : pm < 65536) (l5 : ty < 65536) (l6 : rs < 4294967296) (lv : v < 4294967296) (W : World) : Calls Try.prog 7 #[.agg #[.int .u32 cu, .int .u8 e, .int .u16 b, .int .u16 t, .int .u16 pm, .int .u16 ty, .int .u32 rs, .bool va], .int .u32 v] W fun e w' => e = .returned (.bool true) ∧ Below W.heap.size W w' := by
  have K : KR W [⟨W.heap.size, cv cu e b t pm ty rs va⟩] (W.alloc (.cells #[.int .u32 cu, .int .u8 e, .int .u16 b, .int .u16 t, .int .u16 pm, .int .u16 ty, .int .u32 rs, .bool va] 25)) := (KR.start (W := W)).push (cv cu e b t pm ty rs va) 25
  have hA := fun w => pExact_any cu e b t pm ty rs va v l0 l1 l2 l3 l4 l5 l6 lv w
  have hB := fun w => rExact_any cu e b t pm ty rs va v l0 l1 l2 l3 l4 l5 l6 lv w
  have hW := fun w => dworks_any w
  generalize (bdE e cu v) = g1 at *
  generalize (bdB b cu v) = g2 at *
  generalize (bdT t cu v) = g3 at *
  generalize (va && decide (ty = 0) && (hdP e b t cu v && enX cu (cu + v))) = g7 at *
  have hEq : ∀ w, (Op.equalIn 10000 25 (.agg #[.int .u32 cu, .int .u8 g1, .int .u16 g2, .int .u16 g3, .int .u16 pm, .int .u16 ty, .int .u32 rs, .bool g7]) (.agg #[.int .u32 cu, .int .u8 g1, .int .u16 g2, .int .u16 g3, .int .u16 pm, .int .u16 ty, .int .u32 rs, .bool g7])).run Try.prog w = .ok true w := fun w => by rw [cap_eq]; simp
  obtain ⟨S, hS0⟩ : ∃ S, S = KR W [⟨W.heap.size, cv cu e b t pm ty rs va⟩] := ⟨_, rfl⟩
  have hK : ∀ w, S w → KR W [⟨W.heap.size, cv cu e b t pm ty rs va⟩] w := fun w h => by rw [← hS0]; exact h
  have hS : ∀ w w', S w → Below w.heap.size w w' → S w' := fun w w' h k => by rw [hS0] at h ⊢; exact h.below k
  replace K : S (W.alloc (.cells #[.int .u32 cu, .int .u8 e, .int .u16 b, .int .u16 t, .int .u16 pm, .int .u16 ty, .int .u32 rs, .bool va] 25)) := by rw [hS0]; exact K
  clear hS0
  have cA := Lib.hid (cls_bel hS hA)
  have cB := Lib.hid (cls_bel hS hB)
  have cW := Lib.hid (cls_bel hS hW)
  obtain ⟨a0, a1, a2, a3, a4, a5, a6, a7⟩ := cls_cap (S := S) (bx := W.heap.size) (fun w h => (hK w h).cap (show (⟨_, cv cu e b t pm ty rs va⟩ : Rw) ∈ _ by simp))
  replace K := Lib.hid K
  clear hA hB hW
  go_enter Try.func7, Try.ntmps7
  go_wp2_with fail
  generalize (W.alloc (.cells #[.int .u32 cu, .int .u8 e, .int .u16 b, .int .u16 t, .int .u16 pm, .int .u16 ty, .int .u32 rs, .bool va] 25)) = W1 at *
  refine region_cls S (by kernel_rfl) (by kernel_rfl) (hS _ _ K.out (Below.refl _ _).drew) ?_
  repeat (first
    | go_big_quiet_skip
    | (go_big_quiet_want
       go_big_quiet_op
       first
       | go_big_quiet_on
       | (apply Exists.intro
          refine ⟨fun y => ?_, ?_⟩
          · first | exact rfl | with_reducible exact cA.out y | with_reducible exact cB.out y | with_reducible exact cW.out y
          go_big_quiet_on)))
  refine wpQuiet_nil ?_
  intro y
  have hk := Lib.hid (hK _ y.h).bl
  go_wp2
  go_ret
  exact ⟨rfl, hk.out⟩

theorem walk (cu : Int) (wcu : (Lit.int .u32 cu).wf = true) (e : Int) (we : (Lit.int .u8 e).wf = true) (b : Int) (wb : (Lit.int .u16 b).wf = true) (t : Int) (wt : (Lit.int .u16 t).wf = true) (pm : Int) (wpm : (Lit.int .u16 pm).wf = true) (ty : Int) (wty : (Lit.int .u16 ty).wf = true) (rs : Int) (wrs : (Lit.int .u32 rs).wf = true) (va : Bool) (v : Int) (wv : (Lit.int .u32 v).wf = true) (W : World) : Calls Try.prog 7 #[.agg #[.int .u32 cu, .int .u8 e, .int .u16 b, .int .u16 t, .int .u16 pm, .int .u16 ty, .int .u32 rs, .bool va], .int .u32 v] W fun e w' => e = .returned (.bool true) ∧ Below W.heap.size W w' := by
  have hcu := bounds_u32 wcu
  obtain ⟨cu, rfl⟩ := Int.eq_ofNat_of_zero_le hcu.1
  have he := bounds_u8 we
  obtain ⟨e, rfl⟩ := Int.eq_ofNat_of_zero_le he.1
  have hb := bounds_u16 wb
  obtain ⟨b, rfl⟩ := Int.eq_ofNat_of_zero_le hb.1
  have ht := bounds_u16 wt
  obtain ⟨t, rfl⟩ := Int.eq_ofNat_of_zero_le ht.1
  have hpm := bounds_u16 wpm
  obtain ⟨pm, rfl⟩ := Int.eq_ofNat_of_zero_le hpm.1
  have hty := bounds_u16 wty
  obtain ⟨ty, rfl⟩ := Int.eq_ofNat_of_zero_le hty.1
  have hrs := bounds_u32 wrs
  obtain ⟨rs, rfl⟩ := Int.eq_ofNat_of_zero_le hrs.1
  have hv := bounds_u32 wv
  obtain ⟨v, rfl⟩ := Int.eq_ofNat_of_zero_le hv.1
  exact walkN cu e b t pm ty rs va v (by omega) (by omega) (by omega) (by omega) (by omega) (by omega) (by omega) (by omega) W
theorem own : ownKnob Try.prog.godebug = none := by kernel_rfl
theorem laidOut : laidOutB Try.prog = true := by kernel_rfl
set_option maxRecDepth 100000 in
theorem lifted (os : Os) (started : os.Started) (H : Type) (enc : TypeId × Value → H) :
    ReturnsInHanded {} Try.checked os 7 .any (Rows.deriveExactSpec.pre6 enc Try.prog Try.f7 Rows.deriveExactRow.domain false) (Rows.deriveExactSpec.post enc Try.prog Try.f7 false true false false) := by
  refine returnsInHanded_of_change (C := Try.checked) own started (by kernel_rfl) Try.func7
    (ChangeSpec.witness6 (enc := enc) (C := Try.checked) false ⟨#[], #[.agg #[.int .u32 0, .int .u8 0, .int .u16 0, .int .u16 0, .int .u16 0, .int .u16 0, .int .u32 0, .bool false], .int .u32 0], []⟩ 8 (by kernel_rfl) (by kernel_rfl) (by kernel_rfl) (by kernel_rfl)) ?_
  intro W base args ds gs before hval0 hW hcnd hsz
  have hval : ∀ (j : Nat) t v, Try.f7.params[j]? = some t → args[j]? = some v → Value.okWide Try.prog W .any base t v := hval0
  have hW' := hW
  obtain ⟨p, q, hA0, hV, rfl, hfz, hnd⟩ := hW
  have hA : DataW.TrodAll enc Try.prog W 0 (fun _ => true) true Try.f7.params.toList args.toList ds p := hA0
  rw [Try.params7] at hA hval
  obtain ⟨v0, vs0, d0, ds0, p0, q0, hargs, rfl, rfl, h0, r0⟩ := trodAll_cons hA
  obtain ⟨v1, vs1, d1, ds1, p1, q1, rfl, rfl, rfl, h1, r1⟩ := trodAll_cons r0
  obtain ⟨rfl, rfl, rfl⟩ := trodAll_nil r1
  obtain rfl : args = #[v0, v1] := by cases args; simp_all
  obtain ⟨rfl, rfl⟩ := trodVars_none hV
  have k0 := h0
  have lt0 : ∀ x ∈ p0, x.block < W.heap.size := by obtain ⟨m, hm⟩ := k0; exact DataW.trod_lt m _ _ _ hm
  have k1 := h1
  have lt1 : ∀ x ∈ p1, x.block < W.heap.size := by obtain ⟨m, hm⟩ := k1; exact DataW.trod_lt m _ _ _ hm
  obtain ⟨csca, rfl, hfca⟩ := open_flat (ks := [some .u32, some .u8, some .u16, some .u16, some .u16, some .u16, some .u32, none]) 6 (by kernel_rfl) (.inl ⟨_, Try.underlying25⟩) (hval 0 25 v0 rfl rfl) h0
  obtain ⟨_, _, rfl, ⟨ca0, rfl, wca0⟩, _, _, rfl, ⟨ca1, rfl, wca1⟩, _, _, rfl, ⟨ca2, rfl, wca2⟩, _, _, rfl, ⟨ca3, rfl, wca3⟩, _, _, rfl, ⟨ca4, rfl, wca4⟩, _, _, rfl, ⟨ca5, rfl, wca5⟩, _, _, rfl, ⟨ca6, rfl, wca6⟩, _, _, rfl, ⟨ca7, rfl⟩, rfl⟩ := hfca
  obtain ⟨nv, rfl, rfl, rfl, wnv⟩ := open_int Try.underlying22 (hval 1 22 v1 rfl rfl) h1
  clear hA0 hval0
  refine (walk ca0 wca0 ca1 wca1 ca2 wca2 ca3 wca3 ca4 wca4 ca5 wca5 ca6 wca6 ca7 nv wnv W).mono fun e W' ⟨he, bel⟩ => ?_
  subst he
  exact ⟨_, rfl, _, _, _, [], _, [], hW', trodAll_mk1 (shut_bool Try.underlying4 _), (trodAll_cons_mk (Below.trod laidOut (by kernel_rfl) (of_decide_eq_true (by kernel_rfl)) k0 bel lt0) (trodAll_cons_mk (Below.trod laidOut (by kernel_rfl) (of_decide_eq_true (by kernel_rfl)) k1 bel lt1) trodAll_mk0)), rfl, bel.frame _, fun h => by cases h⟩
theorem over : Rows.deriveExactRow.holds Try.pinned (OpenSpec.ofChange Rows.deriveExactSpec) :=
  OpenClaim.holds_of_wide 7 Try.f7 rfl rfl rfl rfl rfl rfl rfl ⟨rfl, rfl, rfl, rfl, rfl⟩ rfl rfl rfl rfl rfl (by kernel_rfl) Try.func7 (by kernel_rfl)
    (of_decide_eq_true (by kernel_rfl)) (by unfold Func.isWrapper; first | (rw [if_pos (by decide +kernel)]; kernel_rfl) | (rw [if_neg (by decide +kernel)]; exact ⟨rfl, rfl⟩))
    (fun os started H enc _ => lifted os started H enc)
/-- The given statement. -/
theorem proved : Rows.DeriveExactSaid := over
end Go.Proofs.Ythniimefocjamaa.dexact
