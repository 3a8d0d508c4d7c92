/- Proved: of a sealed capability nothing that is valid comes but by opening it with an authority over its type, and that has all else as it was (DeriveSealed). For every input; no condition. -/
import Derived.Test.YthniimefocjamaaRows
import Derived.Test.YthniimefocjamaaDerY
import Derived.Test.YthniimefocjamaaFlat
import Derived.ProofKit
import Derived.OpenShut
import Derived.ShutString
import Derived.ChangeOld
namespace Go.Proofs.Ythniimefocjamaa.dsealed
open Go.ChangeShapes Go.WideShapes Go.ChangeAt Go.RowKit
open Go.ChangeMaps (open_string shut_string)
set_option linter.unusedVariables false

set_option maxHeartbeats 1000000 in
theorem walkN (wh : Int) (n : Nat) (cu e b t pm ty rs : Nat) (va : Bool) (cu' e' b' t' pm' ty' rs' : Nat) (va' : Bool) (l0 : cu < 4294967296) (l1 : e < 256) (l2 : b < 65536) (l3 : t < 65536) (l4 : pm < 65536) (l5 : ty < 65536) (l6 : rs < 4294967296) (l0' : cu' < 4294967296) (l1' : e' < 256) (l2' : b' < 65536) (l3' : t' < 65536) (l4' : pm' < 65536) (l5' : ty' < 65536) (l6' : rs' < 4294967296) (hn : n < 4294967296) (W : World) : Calls Try.prog 12 #[.agg #[.int .u32 cu, .int .u8 e, .int .u16 b, .int .u16 t, .int .u16 pm, .int .u16 ty, .int .u32 rs, .bool va], .agg #[.int .i64 wh, .int .u32 n, .int .u32 cu', .int .u8 e', .int .u16 b', .int .u16 t', .int .u16 pm', .int .u16 ty', .int .u32 rs', .bool va']] W fun e w' => e = .returned (.bool true) ∧ Below W.heap.size W w' := by
  have K : KR W [⟨W.heap.size + 1, [.int .i64 wh, .int .u32 n, .int .u32 cu', .int .u8 e', .int .u16 b', .int .u16 t', .int .u16 pm', .int .u16 ty', .int .u32 rs', .bool va']⟩, ⟨W.heap.size, cv cu e b t pm ty rs va⟩] ((W.alloc (.cells #[.int .u32 cu, .int .u8 e, .int .u16 b, .int .u16 t, .int .u16 pm, .int .u16 ty, .int .u32 rs, .bool va] 25)).alloc (.cells #[.int .i64 wh, .int .u32 n, .int .u32 cu', .int .u8 e', .int .u16 b', .int .u16 t', .int .u16 pm', .int .u16 ty', .int .u32 rs', .bool va'] 48)) := by
    have := ((KR.start (W := W)).push (cv cu e b t pm ty rs va) 25).push [.int .i64 wh, .int .u32 n, .int .u32 cu', .int .u8 e', .int .u16 b', .int .u16 t', .int .u16 pm', .int .u16 ty', .int .u32 rs', .bool va'] 48
    rwa [World.size_alloc] at this
  have hW := Lib.hid (fun w => dworks_any w)
  by_cases h0 : (ty : Int) = 0
  · have h0' : ((ty : Int) == 0) = true := by rw [h0]; rfl
    clear h0
    replace K := Lib.hid K.bl
    go_enter Try.func12, Try.ntmps12
    go_wp2_with fail
    refine (hW.out _).mono ?_
    rintro ee w1 ⟨rfl, h1⟩
    replace h1 := Lib.hid (K.out.trans (h1.mono K.out.size))
    go_wp2_with fail
    go_ret
    exact ⟨rfl, h1.out⟩
  · have h0' : ((ty : Int) == 0) = false := by simpa using h0
    obtain ⟨k, hk, hkf, hC⟩ := changed_to wh n (Cp.mk cu e b t pm ty rs va) (Cp.mk cu' e' b' t' pm' ty' rs' va') ⟨l0, l1, l2, l3, l4, l5, l6⟩ ⟨l0', l1', l2', l3', l4', l5', l6'⟩ hn
    have hS := fun hv => chg_sealed (wh := wh) (n := n) (c := Cp.mk cu e b t pm ty rs va) (y := Cp.mk cu' e' b' t' pm' ty' rs' va') (show ¬ ty = 0 by omega) hv
    rw [← hk] at hS
    obtain ⟨k0, k1, k2, k3, k4, k5, k6, k7⟩ := k
    dsimp only [Cp.lo, Cp.hi] at hC hS
    clear hk hkf
    cases k7
    · replace hC := Lib.hid hC
      replace K := Lib.hid K
      clear hS
      go_enter Try.func12, Try.ntmps12
      go_wp2_with fail
      have p := K.out.cap (g := W.heap.size) (List.mem_cons_of_mem _ (List.mem_cons_self ..))
      refine (hC.out _).mono ?_
      rintro ee w1 ⟨rfl, h1⟩
      have hb := Lib.hid ((K.out.below h1).bl)
      clear h1 hC p K
      go_wp2_with fail
      refine (hW.out _).mono ?_
      rintro ee w2 ⟨rfl, h1⟩
      have hb2 := hb.out.alloc hb.out.size (.cells #[.int .u32 k0, .int .u8 k1, .int .u16 k2, .int .u16 k3, .int .u16 k4, .int .u16 k5, .int .u32 k6, .bool false] 25)
      replace hb2 := hb2.alloc hb2.size (.cells #[.int .u32 cu, .int .u8 e, .int .u16 b, .int .u16 t, .int .u16 pm, .int .u16 ty, .int .u32 rs, .bool va] 25)
      replace hb2 := Lib.hid (hb2.trans (h1.mono hb2.size))
      clear h1 hb
      go_wp2_with fail
      go_ret
      exact ⟨rfl, hb2.out⟩
    · obtain ⟨rfl, hva, hva', hty, hpm, hcu, hlo, hhi, hk⟩ := hS rfl
      simp only [Cp.mk.injEq] at hk
      obtain ⟨e0, e1, e2, e3, e4, e5, e6, _⟩ := hk
      have f0 := e0.symm
      have f1 := e1.symm
      have f2 := e2.symm
      have f3 := e3.symm
      have f4 := e4.symm
      have f6 := e6.symm
      clear e0 e1 e2 e3 e4 e6 hS
      subst f0 f1 f2 f3 f4 e5 f6 hva hva'
      have hR := Lib.hid (fun w => pRange_any cu' e' b' t' pm' ty' rs' true l0' l1' l2' l3' l4' l5' l6' w)
      have hand : bits .and .u16 (pm' : Int) 64 = ((pm' &&& 64 : Nat) : Int) := u16_and_nat pm' 64 l4' (by decide)
      have hwt : IntKind.u32.wrap (ty : Int) = ty := by rw [IntKind.wrap_u32]; omega
      have hw1 : IntKind.u64.wrap (cu' : Int) = cu' := IntWalk.u64_in _ (by omega)
      have hbd := de_bounds e' b' t' cu'
      generalize deB e' b' t' cu' = x at *
      generalize deT e' b' t' cu' = y at *
      generalize pm' &&& 64 = kk at *
      obtain ⟨b1, b2, b3, b4⟩ := hbd
      have g1 : ((ty' : Int) == 0) = true := by rw [hty]; rfl
      have g2 : ((kk : Int) != 0) = true := by simpa using hpm
      have g3 : ((cu' : Int) == ty) = true := by rw [hcu]; simp
      have hEq : ∀ w, (Op.equalIn 10000 25 (.agg #[.int .u32 cu, .int .u8 e, .int .u16 b, .int .u16 t, .int .u16 pm, .int .u16 0, .int .u32 rs, .bool true]) (.agg #[.int .u32 cu, .int .u8 e, .int .u16 b, .int .u16 t, .int .u16 pm, .int .u16 0, .int .u32 rs, .bool true])).run Try.prog w = .ok true w := fun w => by rw [cap_eq]; simp
      replace hC := Lib.hid hC
      replace K := Lib.hid K
      clear hty hpm hcu h0
      go_enter Try.func12, Try.ntmps12
      go_wp2_with fail
      refine (hC.out _).mono ?_
      rintro ee w1 ⟨rfl, h1⟩
      have hk1 : KR W [⟨w1.heap.size + 1, cv cu e b t pm ty rs true⟩, ⟨w1.heap.size, cv cu e b t pm 0 rs true⟩, ⟨W.heap.size + 1, [.int .i64 5, .int .u32 n, .int .u32 cu', .int .u8 e', .int .u16 b', .int .u16 t', .int .u16 pm', .int .u16 ty', .int .u32 rs', .bool true]⟩, ⟨W.heap.size, cv cu e b t pm ty rs true⟩] ((w1.alloc (.cells #[.int .u32 cu, .int .u8 e, .int .u16 b, .int .u16 t, .int .u16 pm, .int .u16 0, .int .u32 rs, .bool true] 25)).alloc (.cells #[.int .u32 cu, .int .u8 e, .int .u16 b, .int .u16 t, .int .u16 pm, .int .u16 ty, .int .u32 rs, .bool true] 25)) := by
        have := ((K.out.below h1).push (cv cu e b t pm 0 rs true) 25).push (cv cu e b t pm ty rs true) 25
        rwa [World.size_alloc] at this
      have hz0 : W.heap.size + 1 < w1.heap.size := (K.out.below h1).lt (List.mem_cons_self ..)
      have hz1 : ¬ W.heap.size = w1.heap.size := by omega
      have hz2 : ¬ w1.heap.size = W.heap.size := by omega
      replace hk1 := Lib.hid hk1
      clear h1 hC K
      go_upto_region 6 with (fail)
      generalize ((w1.alloc (.cells #[.int .u32 cu, .int .u8 e, .int .u16 b, .int .u16 t, .int .u16 pm, .int .u16 0, .int .u32 rs, .bool true] 25)).alloc (.cells #[.int .u32 cu, .int .u8 e, .int .u16 b, .int .u16 t, .int .u16 pm, .int .u16 ty, .int .u32 rs, .bool true] 25)) = w1' at *
      have hx : ∀ j u, ([.int .i64 5, .int .u32 n, .int .u32 cu', .int .u8 e', .int .u16 b', .int .u16 t', .int .u16 pm', .int .u16 ty', .int .u32 rs', .bool true] : List Value)[j]? = some u → w1'.cell? ⟨W.heap.size + 1, j, none⟩ = some u := fun j u hu => hk1.out.cell _ (List.mem_cons_of_mem _ (List.mem_cons_of_mem _ (List.mem_cons_self ..))) hu
      have x2 := hx 2 _ rfl
      have x3 := hx 3 _ rfl
      have x4 := hx 4 _ rfl
      have x5 := hx 5 _ rfl
      have x6 := hx 6 _ rfl
      have x7 := hx 7 _ rfl
      have x8 := hx 8 _ rfl
      have x9 := hx 9 _ rfl
      have p5' := hk1.out.cap (List.mem_cons_of_mem _ (List.mem_cons_self ..)) |>.q7
      clear hx
      go_wp2_with fail
      refine (hR.out _).mono ?_
      rintro ee w2 ⟨rfl, h1⟩
      have hk2 := hk1.out.below h1
      clear h1 hk1 hR x2 x3 x4 x5 x6 x7 x8 x9
      obtain ⟨p0, p1, p2, p3, p4, p5, p6, p7⟩ : CapAt w2 W.heap.size cu e b t pm ty rs true := hk2.cap (List.mem_cons_of_mem _ (List.mem_cons_of_mem _ (List.mem_cons_of_mem _ (List.mem_cons_self ..))))
      obtain ⟨q0, q1, q2, q3, q4, q5, q6, q7⟩ : CapAt w2 w1.heap.size cu e b t pm 0 rs true := hk2.cap (List.mem_cons_of_mem _ (List.mem_cons_self ..))
      have fp := hk2.soft (List.mem_cons_of_mem _ (List.mem_cons_of_mem _ (List.mem_cons_of_mem _ (List.mem_cons_self ..))))
      have hx : ∀ j u, ([.int .i64 5, .int .u32 n, .int .u32 cu', .int .u8 e', .int .u16 b', .int .u16 t', .int .u16 pm', .int .u16 ty', .int .u32 rs', .bool true] : List Value)[j]? = some u → w2.cell? ⟨W.heap.size + 1, j, none⟩ = some u := fun j u hu => hk2.cell _ (List.mem_cons_of_mem _ (List.mem_cons_of_mem _ (List.mem_cons_self ..))) hu
      have x0 := hx 0 _ rfl
      have x2 := hx 2 _ rfl
      have x6 := hx 6 _ rfl
      have x7 := hx 7 _ rfl
      have x9 := hx 9 _ rfl
      have hb3 := Lib.hid (hk2.bl.setCell (p := ⟨W.heap.size, 5, none⟩) (Nat.le_refl _) (.int .u16 0))
      clear hx hk2
      go_wp2_with fail
      refine (hW.out _).mono ?_
      rintro ee w3 ⟨rfl, h1⟩
      replace h1 := Lib.hid (hb3.out.trans (h1.mono hb3.out.size))
      clear hb3
      go_wp2_with fail
      go_ret
      exact ⟨rfl, h1.out⟩

theorem walk (cu : Int) (wcu : (Lit.int .u32 cu).wf = true) (e : Int) (we : (Lit.int .u8 e).wf = true) (b : Int) (wb : (Lit.int .u16 b).wf = true) (t : Int) (wt : (Lit.int .u16 t).wf = true) (pm : Int) (wpm : (Lit.int .u16 pm).wf = true) (ty : Int) (wty : (Lit.int .u16 ty).wf = true) (rs : Int) (wrs : (Lit.int .u32 rs).wf = true) (va : Bool) (wh : Int) (wwh : (Lit.int .i64 wh).wf = true) (n : Int) (wn : (Lit.int .u32 n).wf = true) (cu' : Int) (wcu' : (Lit.int .u32 cu').wf = true) (e' : Int) (we' : (Lit.int .u8 e').wf = true) (b' : Int) (wb' : (Lit.int .u16 b').wf = true) (t' : Int) (wt' : (Lit.int .u16 t').wf = true) (pm' : Int) (wpm' : (Lit.int .u16 pm').wf = true) (ty' : Int) (wty' : (Lit.int .u16 ty').wf = true) (rs' : Int) (wrs' : (Lit.int .u32 rs').wf = true) (va' : Bool) (W : World) : Calls Try.prog 12 #[.agg #[.int .u32 cu, .int .u8 e, .int .u16 b, .int .u16 t, .int .u16 pm, .int .u16 ty, .int .u32 rs, .bool va], .agg #[.int .i64 wh, .int .u32 n, .int .u32 cu', .int .u8 e', .int .u16 b', .int .u16 t', .int .u16 pm', .int .u16 ty', .int .u32 rs', .bool va']] W fun e w' => e = .returned (.bool true) ∧ Below W.heap.size W w' := by
  have hcu := bounds_u32 wcu
  obtain ⟨cu, rfl⟩ := Int.eq_ofNat_of_zero_le hcu.1
  have he := bounds_u8 we
  obtain ⟨e, rfl⟩ := Int.eq_ofNat_of_zero_le he.1
  have hb := bounds_u16 wb
  obtain ⟨b, rfl⟩ := Int.eq_ofNat_of_zero_le hb.1
  have ht := bounds_u16 wt
  obtain ⟨t, rfl⟩ := Int.eq_ofNat_of_zero_le ht.1
  have hpm := bounds_u16 wpm
  obtain ⟨pm, rfl⟩ := Int.eq_ofNat_of_zero_le hpm.1
  have hty := bounds_u16 wty
  obtain ⟨ty, rfl⟩ := Int.eq_ofNat_of_zero_le hty.1
  have hrs := bounds_u32 wrs
  obtain ⟨rs, rfl⟩ := Int.eq_ofNat_of_zero_le hrs.1
  have hn := bounds_u32 wn
  obtain ⟨n, rfl⟩ := Int.eq_ofNat_of_zero_le hn.1
  have hcu' := bounds_u32 wcu'
  obtain ⟨cu', rfl⟩ := Int.eq_ofNat_of_zero_le hcu'.1
  have he' := bounds_u8 we'
  obtain ⟨e', rfl⟩ := Int.eq_ofNat_of_zero_le he'.1
  have hb' := bounds_u16 wb'
  obtain ⟨b', rfl⟩ := Int.eq_ofNat_of_zero_le hb'.1
  have ht' := bounds_u16 wt'
  obtain ⟨t', rfl⟩ := Int.eq_ofNat_of_zero_le ht'.1
  have hpm' := bounds_u16 wpm'
  obtain ⟨pm', rfl⟩ := Int.eq_ofNat_of_zero_le hpm'.1
  have hty' := bounds_u16 wty'
  obtain ⟨ty', rfl⟩ := Int.eq_ofNat_of_zero_le hty'.1
  have hrs' := bounds_u32 wrs'
  obtain ⟨rs', rfl⟩ := Int.eq_ofNat_of_zero_le hrs'.1
  exact walkN wh n cu e b t pm ty rs va cu' e' b' t' pm' ty' rs' va' (by omega) (by omega) (by omega) (by omega) (by omega) (by omega) (by omega) (by omega) (by omega) (by omega) (by omega) (by omega) (by omega) (by omega) (by omega) W
theorem own : ownKnob Try.prog.godebug = none := by kernel_rfl
theorem laidOut : laidOutB Try.prog = true := by kernel_rfl
set_option maxRecDepth 100000 in
theorem lifted (os : Os) (started : os.Started) (H : Type) (enc : TypeId × Value → H) :
    ReturnsInHanded {} Try.checked os 12 .any (Rows.deriveSealedSpec.pre6 enc Try.prog Try.f12 Rows.deriveSealedRow.domain false) (Rows.deriveSealedSpec.post enc Try.prog Try.f12 false true false false) := by
  refine returnsInHanded_of_change (C := Try.checked) own started (by kernel_rfl) Try.func12
    (ChangeSpec.witness6 (enc := enc) (C := Try.checked) false ⟨#[], #[.agg #[.int .u32 0, .int .u8 0, .int .u16 0, .int .u16 0, .int .u16 0, .int .u16 0, .int .u32 0, .bool false], .agg #[.int .i64 0, .int .u32 0, .int .u32 0, .int .u8 0, .int .u16 0, .int .u16 0, .int .u16 0, .int .u16 0, .int .u32 0, .bool false]], []⟩ 8 (by kernel_rfl) (by kernel_rfl) (by kernel_rfl) (by kernel_rfl)) ?_
  intro W base args ds gs before hval0 hW hcnd hsz
  have hval : ∀ (j : Nat) t v, Try.f12.params[j]? = some t → args[j]? = some v → Value.okWide Try.prog W .any base t v := hval0
  have hW' := hW
  obtain ⟨p, q, hA0, hV, rfl, hfz, hnd⟩ := hW
  have hA : DataW.TrodAll enc Try.prog W 0 (fun _ => true) true Try.f12.params.toList args.toList ds p := hA0
  rw [Try.params12] at hA hval
  obtain ⟨v0, vs0, d0, ds0, p0, q0, hargs, rfl, rfl, h0, r0⟩ := trodAll_cons hA
  obtain ⟨v1, vs1, d1, ds1, p1, q1, rfl, rfl, rfl, h1, r1⟩ := trodAll_cons r0
  obtain ⟨rfl, rfl, rfl⟩ := trodAll_nil r1
  obtain rfl : args = #[v0, v1] := by cases args; simp_all
  obtain ⟨rfl, rfl⟩ := trodVars_none hV
  have k0 := h0
  have lt0 : ∀ x ∈ p0, x.block < W.heap.size := by obtain ⟨m, hm⟩ := k0; exact DataW.trod_lt m _ _ _ hm
  have k1 := h1
  have lt1 : ∀ x ∈ p1, x.block < W.heap.size := by obtain ⟨m, hm⟩ := k1; exact DataW.trod_lt m _ _ _ hm
  obtain ⟨csca, rfl, hfca⟩ := open_flat (ks := [some .u32, some .u8, some .u16, some .u16, some .u16, some .u16, some .u32, none]) 6 (by kernel_rfl) (.inl ⟨_, Try.underlying25⟩) (hval 0 25 v0 rfl rfl) h0
  obtain ⟨_, _, rfl, ⟨ca0, rfl, wca0⟩, _, _, rfl, ⟨ca1, rfl, wca1⟩, _, _, rfl, ⟨ca2, rfl, wca2⟩, _, _, rfl, ⟨ca3, rfl, wca3⟩, _, _, rfl, ⟨ca4, rfl, wca4⟩, _, _, rfl, ⟨ca5, rfl, wca5⟩, _, _, rfl, ⟨ca6, rfl, wca6⟩, _, _, rfl, ⟨ca7, rfl⟩, rfl⟩ := hfca
  obtain ⟨csx, rfl, hfx⟩ := open_flat (ks := [some .i64, some .u32, some .u32, some .u8, some .u16, some .u16, some .u16, some .u16, some .u32, none]) 6 (by kernel_rfl) (.inl ⟨_, Try.underlying48⟩) (hval 1 48 v1 rfl rfl) h1
  obtain ⟨_, _, rfl, ⟨x0, rfl, wx0⟩, _, _, rfl, ⟨x1, rfl, wx1⟩, _, _, rfl, ⟨x2, rfl, wx2⟩, _, _, rfl, ⟨x3, rfl, wx3⟩, _, _, rfl, ⟨x4, rfl, wx4⟩, _, _, rfl, ⟨x5, rfl, wx5⟩, _, _, rfl, ⟨x6, rfl, wx6⟩, _, _, rfl, ⟨x7, rfl, wx7⟩, _, _, rfl, ⟨x8, rfl, wx8⟩, _, _, rfl, ⟨x9, rfl⟩, rfl⟩ := hfx
  clear hA0 hval0
  refine (walk ca0 wca0 ca1 wca1 ca2 wca2 ca3 wca3 ca4 wca4 ca5 wca5 ca6 wca6 ca7 x0 wx0 x1 wx1 x2 wx2 x3 wx3 x4 wx4 x5 wx5 x6 wx6 x7 wx7 x8 wx8 x9 W).mono fun e W' ⟨he, bel⟩ => ?_
  subst he
  exact ⟨_, rfl, _, _, _, [], _, [], hW', trodAll_mk1 (shut_bool Try.underlying4 _), (trodAll_cons_mk (Below.trod laidOut (by kernel_rfl) (of_decide_eq_true (by kernel_rfl)) k0 bel lt0) (trodAll_cons_mk (Below.trod laidOut (by kernel_rfl) (of_decide_eq_true (by kernel_rfl)) k1 bel lt1) trodAll_mk0)), rfl, bel.frame _, fun h => by cases h⟩
theorem over : Rows.deriveSealedRow.holds Try.pinned (OpenSpec.ofChange Rows.deriveSealedSpec) :=
  OpenClaim.holds_of_wide 12 Try.f12 rfl rfl rfl rfl rfl rfl rfl ⟨rfl, rfl, rfl, rfl, rfl⟩ rfl rfl rfl rfl rfl (by kernel_rfl) Try.func12 (by kernel_rfl)
    (of_decide_eq_true (by kernel_rfl)) (by unfold Func.isWrapper; first | (rw [if_pos (by decide +kernel)]; kernel_rfl) | (rw [if_neg (by decide +kernel)]; exact ⟨rfl, rfl⟩))
    (fun os started H enc _ => lifted os started H enc)
/-- The given statement. -/
theorem proved : Rows.DeriveSealedSaid := over
end Go.Proofs.Ythniimefocjamaa.dsealed
