/- Proved: all of a paint can be painted at once, and of that nothing is painted again (PaintAll). For every input; no condition. -/
import Derived.Test.YticfpnhfhhagpaaRows
import Derived.Test.YticfpnhfhhagpaaPtW
import Derived.Test.YticfpnhfhhagpaaPtM
import Derived.ProofKit
import Derived.OpenShut
import Derived.ChangeOld
namespace Go.Proofs.Yticfpnhfhhagpaa.pall
open Go.ChangeShapes Go.WideShapes Go.ChangeAt Go.RowKit
set_option linter.unusedVariables false
def full (k : Nat) : Nat → Bool := fun j => if 0 ≤ j ∧ j < 0 + k then true else false
def none' (k : Nat) : Nat → Bool := fun j => if 0 ≤ j ∧ j < 0 + k then false else full k j
set_option maxRecDepth 100000 in
set_option maxHeartbeats 8000000 in
theorem walkN (r : Nat) (hr : r < 65536) (W : World) :
    Calls Try.prog 5 #[.int .u16 r] W fun e w' => e = .returned (.bool true) ∧ Below W.heap.size W w' := by
  obtain ⟨k, hk⟩ : ∃ k, k = 1 + r % 2000 := ⟨_, rfl⟩
  have e1 : 1 + (r : Int) % 2000 = k := by omega
  obtain ⟨z, hz⟩ : ∃ z, z = 16 * k := ⟨_, rfl⟩
  have e2 : 16 * (k : Int) = z := by omega
  obtain ⟨y, hy⟩ : ∃ y, y = z - 16 := ⟨_, rfl⟩
  have e3 : (z : Int) - 16 = y := by omega
  obtain ⟨x, hx⟩ : ∃ x, x = z + 16 := ⟨_, rfl⟩
  have e4 : (z : Int) + 16 = x := by omega
  obtain ⟨v, hv⟩ : ∃ v, v = z - 1 := ⟨_, rfl⟩
  have e5 : (z : Int) - 1 = v := by omega
  have hkb : 1 ≤ k ∧ k ≤ 2000 := by omega
  have hzb : z ≤ 32000 := by omega
  have hk1 : (1 : Int) ≤ k := by omega
  have hk2 : (k : Int) ≤ 2000 := by omega
  have z0 : z / 16 = k := by omega
  have h1 := Lib.hid (show okT k (fun _ => false) 0 x true = false from ok_no k (by omega) (fun h => absurd h (by omega)))
  have h1' := Lib.hid (show tnF k (fun _ => false) 0 x true = fun _ => false by unfold tnF; rw [h1.out]; rfl)
  have h2 := Lib.hid (show okT k (fun _ => false) 0 z true = true from ok_iff.2 ⟨by omega, fun i hi => ⟨by omega, by decide⟩⟩)
  have h2' := Lib.hid (show tnF k (fun _ => false) 0 z true = full k by unfold tnF; rw [h2.out, z0]; rfl)
  have h3 := Lib.hid (show okT k (full k) 0 z true = false from ok_no 0 (by omega) (fun _ => by unfold full; rw [if_pos (by omega)]))
  have h3' := Lib.hid (show tnF k (full k) 0 z true = full k by unfold tnF; rw [h3.out]; rfl)
  have h4 := Lib.hid (show okT k (full k) y 16 true = false from ok_no 0 (by omega) (fun _ => by unfold full; rw [if_pos (by omega)]))
  have h4' := Lib.hid (show tnF k (full k) y 16 true = full k by unfold tnF; rw [h4.out]; rfl)
  have h5 := Lib.hid (show cnt (full k) k = k from cnt_all _ _ fun j hj => by unfold full; rw [if_pos (by omega)])
  have h6 := Lib.hid (show full k (z / 16) = false by unfold full; rw [if_neg (by omega)])
  have h7 := Lib.hid (show full k (v / 16) = true by unfold full; rw [if_pos (by omega)])
  have h8 := Lib.hid (show okT k (full k) 0 z false = true from ok_iff.2 ⟨by omega, fun i hi => ⟨by omega, by unfold full; rw [if_pos (by omega)]; decide⟩⟩)
  have h8' := Lib.hid (show tnF k (full k) 0 z false = none' k by unfold tnF; rw [h8.out, z0]; rfl)
  have h9 := Lib.hid (show okT k (none' k) 0 z false = false from ok_no 0 (by omega) (fun _ => by unfold none'; rw [if_pos (by omega)]))
  have h9' := Lib.hid (show tnF k (none' k) 0 z false = none' k by unfold tnF; rw [h9.out]; rfl)
  have h10 := Lib.hid (show cnt (none' k) k = 0 from cnt_zero fun j hj => by unfold none'; rw [if_pos (by omega)])
  have hN := Lib.hid (tnewK (W := W) k W (by omega) (Below.refl _ _) z (by omega))
  have b4 : x < 4294967296 := by omega
  have b5 : y < 4294967296 := by omega
  have b6 : v < 4294967296 := by omega
  have b7 : z < 4294967296 := by omega
  clear hk hz hy hx hv z0
  go_enter Try.func5, Try.ntmps5
  go_wp2_with fail
  refine hN.out.mono ?_
  rintro e w1 ⟨p, b, wb, rfl, K0⟩
  have K1 := Lib.hid K0
  clear K0 hN
  go_upto_region 6 with (fail)
  have K2 := Lib.hid (TQ.box K1.out 0 z)
  obtain ⟨q, hq⟩ : ∃ q, q = w1.heap.size := ⟨_, rfl⟩
  rw [← hq] at K2 ⊢
  clear hq
  have hc0 : ((0 : Nat) : Int) = 0 := rfl
  rw [hc0] at K2
  generalize w1.alloc (.cells #[.int .u32 0, .int .u32 (z : Int)] 33) = w2 at *
  have r0 : w2.cell? ⟨q, 0, none⟩ = some (.int .u32 0) := K2.out.r.c0
  have r1 := K2.out.r.c1
  go_wp2_with fail
  refine (taddQ K2.out 0 x (by omega) b4 false h1.out h1'.out).mono ?_
  rintro e w3 ⟨rfl, k0⟩
  have K3 := Lib.hid k0
  have r0 := K3.out.r.c0
  have r1 := K3.out.r.c1
  clear k0
  go_wp2_with fail
  refine (taddQ K3.out 0 z (by omega) b7 true h2.out h2'.out).mono ?_
  rintro e w4 ⟨rfl, k0⟩
  have K4 := Lib.hid k0
  have r0 := K4.out.r.c0
  have r1 := K4.out.r.c1
  clear k0
  go_wp2_with fail
  refine (taddQ K4.out 0 z (by omega) b7 false h3.out h3'.out).mono ?_
  rintro e w5 ⟨rfl, k0⟩
  have K5 := Lib.hid k0
  have r0 := K5.out.r.c0
  have r1 := K5.out.r.c1
  clear k0
  go_wp2_with fail
  refine (taddQ K5.out y 16 b5 (by omega) false h4.out h4'.out).mono ?_
  rintro e w6 ⟨rfl, k0⟩
  have K6 := Lib.hid k0
  have r0 := K6.out.r.c0
  have r1 := K6.out.r.c1
  clear k0
  go_wp2_with fail
  refine (tcountQ K6.out k (by rw [h5.out])).mono ?_
  rintro e w7 ⟨rfl, k0⟩
  have K7 := Lib.hid k0
  have r0 := K7.out.r.c0
  have r1 := K7.out.r.c1
  clear k0
  go_wp2_with fail
  refine (thasQ K7.out z b7 false h6.out).mono ?_
  rintro e w8 ⟨rfl, k0⟩
  have K8 := Lib.hid k0
  have r0 := K8.out.r.c0
  have r1 := K8.out.r.c1
  clear k0
  go_wp2_with fail
  refine (thasQ K8.out v b6 true h7.out).mono ?_
  rintro e w9 ⟨rfl, k0⟩
  have K9 := Lib.hid k0
  have r0 := K9.out.r.c0
  have r1 := K9.out.r.c1
  clear k0
  go_wp2_with fail
  refine (tremQ K9.out 0 z (by omega) b7 true h8.out h8'.out).mono ?_
  rintro e w10 ⟨rfl, k0⟩
  have K10 := Lib.hid k0
  have r0 := K10.out.r.c0
  have r1 := K10.out.r.c1
  clear k0
  go_wp2_with fail
  refine (tremQ K10.out 0 z (by omega) b7 false h9.out h9'.out).mono ?_
  rintro e w11 ⟨rfl, k0⟩
  have K11 := Lib.hid k0
  have r0 := K11.out.r.c0
  have r1 := K11.out.r.c1
  clear k0
  go_wp2_with fail
  refine (tcountQ K11.out 0 (by rw [h10.out]; rfl)).mono ?_
  rintro e w12 ⟨rfl, k0⟩
  have K12 := Lib.hid k0
  have r0 := K12.out.r.c0
  have r1 := K12.out.r.c1
  clear k0
  have hb := Lib.hid K12.out.k.bel
  go_wp2_with fail
  refine (works15_any w12).mono ?_
  rintro e w13 ⟨rfl, k0⟩
  have hb2 := Lib.hid (hb.out.trans (k0.mono hb.out.size))
  clear k0
  go_wp2_with fail
  go_ret
  exact ⟨rfl, hb2.out⟩
theorem walk (r : Int) (wr : (Lit.int .u16 r).wf = true) (W : World) :
    Calls Try.prog 5 #[.int .u16 r] W fun e w' => e = .returned (.bool true) ∧ Below W.heap.size W w' := by
  have b1 := bounds_u16 wr
  obtain ⟨r, rfl⟩ := Int.eq_ofNat_of_zero_le b1.1
  exact walkN r (by omega) W
theorem own : ownKnob Try.prog.godebug = none := by kernel_rfl
theorem laidOut : laidOutB Try.prog = true := by kernel_rfl
set_option maxRecDepth 100000 in
theorem lifted (os : Os) (started : os.Started) (H : Type) (enc : TypeId × Value → H) :
    ReturnsInHanded {} Try.checked os 5 .any (Rows.paintAllSpec.pre6 enc Try.prog Try.f5 Rows.paintAllRow.domain false) (Rows.paintAllSpec.post enc Try.prog Try.f5 false true false false) := by
  refine returnsInHanded_of_change (C := Try.checked) own started (by kernel_rfl) Try.func5
    (ChangeSpec.witness6 (enc := enc) (C := Try.checked) false ⟨#[], #[.int .u16 0], []⟩ 8 (by kernel_rfl) (by kernel_rfl) (by kernel_rfl) (by kernel_rfl)) ?_
  intro W base args ds gs before hval0 hW hcnd hsz
  have hval : ∀ (j : Nat) t v, Try.f5.params[j]? = some t → args[j]? = some v → Value.okWide Try.prog W .any base t v := hval0
  have hW' := hW
  obtain ⟨p, q, hA0, hV, rfl, hfz, hnd⟩ := hW
  have hA : DataW.TrodAll enc Try.prog W 0 (fun _ => true) true Try.f5.params.toList args.toList ds p := hA0
  rw [Try.params5] at hA hval
  obtain ⟨v0, vs0, d0, ds0, p0, q0, hargs, rfl, rfl, h0, r0⟩ := trodAll_cons hA
  obtain ⟨rfl, rfl, rfl⟩ := trodAll_nil r0
  obtain rfl : args = #[v0] := by cases args; simp_all
  obtain ⟨rfl, rfl⟩ := trodVars_none hV
  have k0 := h0
  have lt0 : ∀ x ∈ p0, x.block < W.heap.size := by obtain ⟨m, hm⟩ := k0; exact DataW.trod_lt m _ _ _ hm
  obtain ⟨n, rfl, rfl, rfl, wn⟩ := open_int Try.underlying47 (hval 0 47 v0 rfl rfl) h0
  clear hA0 hval0
  refine (walk n wn W).mono fun e W' ⟨he, bel⟩ => ?_
  subst he
  exact ⟨_, rfl, _, _, _, [], _, [], hW', trodAll_mk1 (shut_bool Try.underlying4 _), (trodAll_cons_mk (Below.trod laidOut (by kernel_rfl) (of_decide_eq_true (by kernel_rfl)) k0 bel lt0) trodAll_mk0), rfl, bel.frame _, fun h => by cases h⟩
theorem over : Rows.paintAllRow.holds Try.pinned (OpenSpec.ofChange Rows.paintAllSpec) :=
  OpenClaim.holds_of_wide 5 Try.f5 rfl rfl rfl rfl rfl rfl rfl ⟨rfl, rfl, rfl, rfl, rfl⟩ rfl rfl rfl rfl rfl (by kernel_rfl) Try.func5 (by kernel_rfl)
    (of_decide_eq_true (by kernel_rfl)) (by unfold Func.isWrapper; first | (rw [if_pos (by decide +kernel)]; kernel_rfl) | (rw [if_neg (by decide +kernel)]; exact ⟨rfl, rfl⟩))
    (fun os started H enc _ => lifted os started H enc)
/-- The given statement. -/
theorem proved : Rows.PaintAllSaid := over
end Go.Proofs.Yticfpnhfhhagpaa.pall
