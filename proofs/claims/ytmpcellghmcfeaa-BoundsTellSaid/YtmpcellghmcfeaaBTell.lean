/- Proved: what any parts tell at any cursor is what the document says (BoundsTell). For every input; no condition. -/
import Derived.Test.YtmpcellghmcfeaaRows
import Derived.Test.YtmpcellghmcfeaaBndW
import Derived.Test.YtmpcellghmcfeaaBndR
import Derived.ProofKit
import Derived.OpenShut
import Derived.ShutString
import Derived.ChangeOld
import Derived.Lib.SmallJoins
namespace Go.Proofs.Ytmpcellghmcfeaa.btell
open Go.ChangeShapes Go.WideShapes Go.ChangeAt Go.RowKit
open Go.ChangeMaps (open_string shut_string)
open Go.Joins (open_agg3)
set_option linter.unusedVariables false

theorem walk (e : Int) (we : (Lit.int .u8 e).wf = true) (b : Int) (wb : (Lit.int .u16 b).wf = true) (t : Int) (wt : (Lit.int .u16 t).wf = true) (c : Int) (wc : (Lit.int .u32 c).wf = true) (W : World) :
    Calls Try.prog 3 #[.agg #[.int .u8 e, .int .u16 b, .int .u16 t], .int .u32 c] W fun e w' => e = .returned (.bool true) ∧ Below W.heap.size W w' := by
  have he := bounds_u8 we
  obtain ⟨e, rfl⟩ := Int.eq_ofNat_of_zero_le he.1
  have le : e < 256 := by omega
  clear he we
  have hb := bounds_u16 wb
  obtain ⟨b, rfl⟩ := Int.eq_ofNat_of_zero_le hb.1
  have lb : b < 65536 := by omega
  clear hb wb
  have ht := bounds_u16 wt
  obtain ⟨t, rfl⟩ := Int.eq_ofNat_of_zero_le ht.1
  have lt : t < 65536 := by omega
  clear ht wt
  have hc := bounds_u32 wc
  obtain ⟨c, rfl⟩ := Int.eq_ofNat_of_zero_le hc.1
  have lc : c < 4294967296 := by omega
  clear hc wc
  have hA := Lib.hid (fun w => Decode_any e b t c w lc)
  have hR := Lib.hid (fun w => rDecode_any e b t c w lc)
  have hW := Lib.hid (fun w => works_any w)
  generalize deB e b t c = x at *
  generalize deT e b t c = y at *
  go_enter Try.func3, Try.ntmps3
  go_wp2_with fail
  refine (hA.out _).mono ?_
  rintro e' w1 ⟨rfl, h1⟩
  have q0 : w1.cell? ⟨W.heap.size, 0, none⟩ = some (.int .u8 e) := (h1.cell (by simp)).trans (by simp [go_sem])
  have q1 : w1.cell? ⟨W.heap.size, 1, none⟩ = some (.int .u16 b) := (h1.cell (by simp)).trans (by simp [go_sem])
  have q2 : w1.cell? ⟨W.heap.size, 2, none⟩ = some (.int .u16 t) := (h1.cell (by simp)).trans (by simp [go_sem])
  replace h1 : Below W.heap.size W w1 := ((Below.refl _ _).alloc (Nat.le_refl _) _).trans (h1.mono (by simp))
  replace h1 := Lib.hid h1
  go_wp2_with fail
  refine (hR.out _).mono ?_
  rintro e' w2 ⟨rfl, rfl⟩
  go_wp2_with fail
  refine (hW.out _).mono ?_
  rintro e' w3 ⟨rfl, h3⟩
  replace h3 := Lib.hid h3
  go_wp2
  go_ret
  exact ⟨rfl, h1.out.trans (h3.out.mono h1.out.size)⟩
theorem own : ownKnob Try.prog.godebug = none := by kernel_rfl
theorem laidOut : laidOutB Try.prog = true := by kernel_rfl
set_option maxRecDepth 100000 in
theorem lifted (os : Os) (started : os.Started) (H : Type) (enc : TypeId × Value → H) :
    ReturnsInHanded {} Try.checked os 3 .any (Rows.boundsTellSpec.pre6 enc Try.prog Try.f3 Rows.boundsTellRow.domain false) (Rows.boundsTellSpec.post enc Try.prog Try.f3 false true false false) := by
  refine returnsInHanded_of_change (C := Try.checked) own started (by kernel_rfl) Try.func3
    (ChangeSpec.witness6 (enc := enc) (C := Try.checked) false ⟨#[], #[.agg #[.int .u8 0, .int .u16 0, .int .u16 0], .int .u32 0], []⟩ 8 (by kernel_rfl) (by kernel_rfl) (by kernel_rfl) (by kernel_rfl)) ?_
  intro W base args ds gs before hval0 hW hcnd hsz
  have hval : ∀ (j : Nat) t v, Try.f3.params[j]? = some t → args[j]? = some v → Value.okWide Try.prog W .any base t v := hval0
  have hW' := hW
  obtain ⟨p, q, hA0, hV, rfl, hfz, hnd⟩ := hW
  have hA : DataW.TrodAll enc Try.prog W 0 (fun _ => true) true Try.f3.params.toList args.toList ds p := hA0
  rw [Try.params3] at hA hval
  obtain ⟨v0, vs0, d0, ds0, p0, q0, hargs, rfl, rfl, h0, r0⟩ := trodAll_cons hA
  obtain ⟨v1, vs1, d1, ds1, p1, q1, rfl, rfl, rfl, h1, r1⟩ := trodAll_cons r0
  obtain ⟨rfl, rfl, rfl⟩ := trodAll_nil r1
  obtain rfl : args = #[v0, v1] := by cases args; simp_all
  obtain ⟨rfl, rfl⟩ := trodVars_none hV
  have k0 := h0
  have lt0 : ∀ x ∈ p0, x.block < W.heap.size := by obtain ⟨m, hm⟩ := k0; exact DataW.trod_lt m _ _ _ hm
  have k1 := h1
  have lt1 : ∀ x ∈ p1, x.block < W.heap.size := by obtain ⟨m, hm⟩ := k1; exact DataW.trod_lt m _ _ _ hm
  obtain ⟨cp0, cp1, cp2, yp0, yp1, yp2, mp, rfl, rfl, rfl, hp0, hp1, hp2⟩ := open_agg3 Try.underlying24 (by kernel_rfl) (by kernel_rfl) (hval 0 24 v0 rfl rfl) h0
  obtain ⟨p0, ep0, -, wp0⟩ := DataW.trod_int Try.underlying5 hp0
  simp at ep0
  subst ep0
  obtain ⟨p1, ep1, -, wp1⟩ := DataW.trod_int Try.underlying22 hp1
  simp at ep1
  subst ep1
  obtain ⟨p2, ep2, -, wp2⟩ := DataW.trod_int Try.underlying22 hp2
  simp at ep2
  subst ep2
  obtain ⟨cursor, rfl, rfl, rfl, wcursor⟩ := open_int Try.underlying25 (hval 1 25 v1 rfl rfl) h1
  clear hA0 hval0
  refine (walk p0 wp0 p1 wp1 p2 wp2 cursor wcursor W).mono fun e W' ⟨he, bel⟩ => ?_
  subst he
  exact ⟨_, rfl, _, _, _, [], _, [], hW', trodAll_mk1 (shut_bool Try.underlying4 _), (trodAll_cons_mk (Below.trod laidOut (by kernel_rfl) (of_decide_eq_true (by kernel_rfl)) k0 bel lt0) (trodAll_cons_mk (Below.trod laidOut (by kernel_rfl) (of_decide_eq_true (by kernel_rfl)) k1 bel lt1) trodAll_mk0)), rfl, bel.frame _, fun h => by cases h⟩
theorem over : Rows.boundsTellRow.holds Try.pinned (OpenSpec.ofChange Rows.boundsTellSpec) :=
  OpenClaim.holds_of_wide 3 Try.f3 rfl rfl rfl rfl rfl rfl rfl ⟨rfl, rfl, rfl, rfl, rfl⟩ rfl rfl rfl rfl rfl (by kernel_rfl) Try.func3 (by kernel_rfl)
    (of_decide_eq_true (by kernel_rfl)) (by unfold Func.isWrapper; first | (rw [if_pos (by decide +kernel)]; kernel_rfl) | (rw [if_neg (by decide +kernel)]; exact ⟨rfl, rfl⟩))
    (fun os started H enc _ => lifted os started H enc)
/-- The given statement. -/
theorem proved : Rows.BoundsTellSaid := over
end Go.Proofs.Ytmpcellghmcfeaa.btell
