/- Proved: whether any parts tell the same at two cursors is what the document says (BoundsKeep). For every input; no condition. -/
import Derived.Test.YtmpcellghmcfeaaRows
import Derived.Test.YtmpcellghmcfeaaBndW
import Derived.Test.YtmpcellghmcfeaaBndR
import Derived.ProofKit
import Derived.OpenShut
import Derived.ShutString
import Derived.ChangeOld
import Derived.Lib.SmallJoins
import Derived.Deep.RegionHeld3
namespace Go.Proofs.Ytmpcellghmcfeaa.bkeep
open Go.ChangeShapes Go.WideShapes Go.ChangeAt Go.RowKit
open Go.ChangeMaps (open_string shut_string)
open Go.Joins (open_agg3)
set_option linter.unusedVariables false

/-- The boxed parts, and what is kept. -/
structure SK (W : World) (e b t : Nat) (w : World) : Prop where
  q0 : w.cell? ⟨W.heap.size, 0, none⟩ = some (.int .u8 e)
  q1 : w.cell? ⟨W.heap.size, 1, none⟩ = some (.int .u16 b)
  q2 : w.cell? ⟨W.heap.size, 2, none⟩ = some (.int .u16 t)
  bl : Below W.heap.size W w
  lt : W.heap.size < w.heap.size
def SB (W w : World) : Prop := Below W.heap.size W w ∧ W.heap.size < w.heap.size
theorem SB.drew {W w : World} (h : SB W w) : SB W w.drew := ⟨h.1.drew, h.2⟩
theorem SK.parts {W w : World} {e b t : Nat} (h : SK W e b t w) : w.cell? ⟨W.heap.size, 0, none⟩ = some (.int .u8 e) ∧ w.cell? ⟨W.heap.size, 1, none⟩ = some (.int .u16 b) ∧ w.cell? ⟨W.heap.size, 2, none⟩ = some (.int .u16 t) ∧ SB W w := ⟨h.q0, h.q1, h.q2, h.bl, h.lt⟩
theorem SK.of {W w : World} {e b t : Nat} (h0 : w.cell? ⟨W.heap.size, 0, none⟩ = some (.int .u8 e)) (h1 : w.cell? ⟨W.heap.size, 1, none⟩ = some (.int .u16 b)) (h2 : w.cell? ⟨W.heap.size, 2, none⟩ = some (.int .u16 t)) (h : SB W w) : SK W e b t w := ⟨h0, h1, h2, h.1, h.2⟩
theorem SK.ofAll {W w : World} {e b t : Nat} (h : w.cell? ⟨W.heap.size, 0, none⟩ = some (.int .u8 e) ∧ w.cell? ⟨W.heap.size, 1, none⟩ = some (.int .u16 b) ∧ w.cell? ⟨W.heap.size, 2, none⟩ = some (.int .u16 t) ∧ SB W w) : SK W e b t w := SK.of h.1 h.2.1 h.2.2.1 h.2.2.2
theorem SK.keep {W w w' : World} {e b t : Nat} (h : SK W e b t w) (k : Below w.heap.size w w') : SK W e b t w' :=
  ⟨(k.cell h.lt).trans h.q0, (k.cell h.lt).trans h.q1, (k.cell h.lt).trans h.q2, h.bl.trans (k.mono (Nat.le_of_lt h.lt)), Nat.lt_of_lt_of_le h.lt k.size⟩

theorem walk (e : Int) (we : (Lit.int .u8 e).wf = true) (b : Int) (wb : (Lit.int .u16 b).wf = true) (t : Int) (wt : (Lit.int .u16 t).wf = true) (c : Int) (wc : (Lit.int .u32 c).wf = true) (n : Int) (wn : (Lit.int .u32 n).wf = true) (W : World) :
    Calls Try.prog 4 #[.agg #[.int .u8 e, .int .u16 b, .int .u16 t], .int .u32 c, .int .u32 n] W fun e w' => e = .returned (.bool true) ∧ Below W.heap.size W w' := by
  have he := bounds_u8 we
  obtain ⟨e, rfl⟩ := Int.eq_ofNat_of_zero_le he.1
  have le : e < 256 := by omega
  clear he we
  have hb := bounds_u16 wb
  obtain ⟨b, rfl⟩ := Int.eq_ofNat_of_zero_le hb.1
  have lb : b < 65536 := by omega
  clear hb wb
  have ht := bounds_u16 wt
  obtain ⟨t, rfl⟩ := Int.eq_ofNat_of_zero_le ht.1
  have lt : t < 65536 := by omega
  clear ht wt
  have hc := bounds_u32 wc
  obtain ⟨c, rfl⟩ := Int.eq_ofNat_of_zero_le hc.1
  have lc : c < 4294967296 := by omega
  clear hc wc
  have hn := bounds_u32 wn
  obtain ⟨n, rfl⟩ := Int.eq_ofNat_of_zero_le hn.1
  have ln : n < 4294967296 := by omega
  clear hn wn
  have hA := Lib.hid (fun w => Keeps_any e b t c n w lc ln)
  have hR := Lib.hid (fun w => rKeeps_any e b t c n w lc ln)
  have hW := Lib.hid (fun w => works_any w)
  generalize kp e b t c n = x at *
  have hA' : ∀ w, SK W e b t w → Calls Try.prog 16 #[.int .u8 e, .int .u16 b, .int .u16 t, .int .u32 c, .int .u32 n] w fun e' w' => e' = .returned (.bool x) ∧ SK W e b t w' := fun w h => (hA.out w).mono fun _ _ k => ⟨k.1, h.keep k.2⟩
  have hR' : ∀ w, SK W e b t w → Calls Try.prog 17 #[.int .u8 e, .int .u16 b, .int .u16 t, .int .u32 c, .int .u32 n] w fun e' w' => e' = .returned (.bool x) ∧ SK W e b t w' := fun w h => (hR.out w).mono fun _ w' k => ⟨k.1, k.2 ▸ h⟩
  have hW' : ∀ w, SK W e b t w → Calls Try.prog 15 #[] w fun e' w' => e' = .returned (.bool true) ∧ SK W e b t w' := fun w h => (hW.out w).mono fun _ _ k => ⟨k.1, h.keep k.2⟩
  replace hA' := Lib.hid hA'
  replace hR' := Lib.hid hR'
  replace hW' := Lib.hid hW'
  clear hA hR hW lc ln le lb lt
  go_enter Try.func4, Try.ntmps4
  go_wp2_with fail
  have h0 : SK W e b t (W.alloc (.cells #[.int .u8 e, .int .u16 b, .int .u16 t] 24)) := ⟨by simp [go_sem], by simp [go_sem], by simp [go_sem], (Below.refl _ _).alloc (Nat.le_refl _) _, by simp⟩
  generalize W.alloc (.cells #[.int .u8 e, .int .u16 b, .int .u16 t] 24) = W1 at *
  obtain ⟨q0, q1, q2, hb⟩ := h0.parts
  clear h0
  go_region_held3 (fun w' => w'.cell? ⟨W.heap.size, 0, none⟩ = some (.int .u8 e) ∧ w'.cell? ⟨W.heap.size, 1, none⟩ = some (.int .u16 b) ∧ w'.cell? ⟨W.heap.size, 2, none⟩ = some (.int .u16 t) ∧ SB W w')
    (first | exact ⟨q0, q1, q2, hb.drew⟩ | exact k1 | go_keep)
    (first
      | (go_at_call 16; refine (hA'.out _ (SK.ofAll ?_)).mono ?_; (first | assumption | simp [*]); rintro e' w1 ⟨rfl, k1⟩; replace k1 := k1.parts)
      | (go_at_call 17; refine (hR'.out _ (SK.ofAll ?_)).mono ?_; (first | assumption | simp [*]); rintro e' w2 ⟨rfl, k1⟩; replace k1 := k1.parts)
      | (go_at_call 15; refine (hW'.out _ (SK.ofAll ?_)).mono ?_; (first | assumption | simp [*]); rintro e' w3 ⟨rfl, k1⟩; replace k1 := k1.parts))
  have hb := k1.2.2.2.1
  go_wp2
  go_ret
  exact ⟨rfl, hb⟩
theorem own : ownKnob Try.prog.godebug = none := by kernel_rfl
theorem laidOut : laidOutB Try.prog = true := by kernel_rfl
set_option maxRecDepth 100000 in
theorem lifted (os : Os) (started : os.Started) (H : Type) (enc : TypeId × Value → H) :
    ReturnsInHanded {} Try.checked os 4 .any (Rows.boundsKeepSpec.pre6 enc Try.prog Try.f4 Rows.boundsKeepRow.domain false) (Rows.boundsKeepSpec.post enc Try.prog Try.f4 false true false false) := by
  refine returnsInHanded_of_change (C := Try.checked) own started (by kernel_rfl) Try.func4
    (ChangeSpec.witness6 (enc := enc) (C := Try.checked) false ⟨#[], #[.agg #[.int .u8 0, .int .u16 0, .int .u16 0], .int .u32 0, .int .u32 0], []⟩ 8 (by kernel_rfl) (by kernel_rfl) (by kernel_rfl) (by kernel_rfl)) ?_
  intro W base args ds gs before hval0 hW hcnd hsz
  have hval : ∀ (j : Nat) t v, Try.f4.params[j]? = some t → args[j]? = some v → Value.okWide Try.prog W .any base t v := hval0
  have hW' := hW
  obtain ⟨p, q, hA0, hV, rfl, hfz, hnd⟩ := hW
  have hA : DataW.TrodAll enc Try.prog W 0 (fun _ => true) true Try.f4.params.toList args.toList ds p := hA0
  rw [Try.params4] at hA hval
  obtain ⟨v0, vs0, d0, ds0, p0, q0, hargs, rfl, rfl, h0, r0⟩ := trodAll_cons hA
  obtain ⟨v1, vs1, d1, ds1, p1, q1, rfl, rfl, rfl, h1, r1⟩ := trodAll_cons r0
  obtain ⟨v2, vs2, d2, ds2, p2, q2, rfl, rfl, rfl, h2, r2⟩ := trodAll_cons r1
  obtain ⟨rfl, rfl, rfl⟩ := trodAll_nil r2
  obtain rfl : args = #[v0, v1, v2] := by cases args; simp_all
  obtain ⟨rfl, rfl⟩ := trodVars_none hV
  have k0 := h0
  have lt0 : ∀ x ∈ p0, x.block < W.heap.size := by obtain ⟨m, hm⟩ := k0; exact DataW.trod_lt m _ _ _ hm
  have k1 := h1
  have lt1 : ∀ x ∈ p1, x.block < W.heap.size := by obtain ⟨m, hm⟩ := k1; exact DataW.trod_lt m _ _ _ hm
  have k2 := h2
  have lt2 : ∀ x ∈ p2, x.block < W.heap.size := by obtain ⟨m, hm⟩ := k2; exact DataW.trod_lt m _ _ _ hm
  obtain ⟨cp0, cp1, cp2, yp0, yp1, yp2, mp, rfl, rfl, rfl, hp0, hp1, hp2⟩ := open_agg3 Try.underlying24 (by kernel_rfl) (by kernel_rfl) (hval 0 24 v0 rfl rfl) h0
  obtain ⟨p0, ep0, -, wp0⟩ := DataW.trod_int Try.underlying5 hp0
  simp at ep0
  subst ep0
  obtain ⟨p1, ep1, -, wp1⟩ := DataW.trod_int Try.underlying22 hp1
  simp at ep1
  subst ep1
  obtain ⟨p2, ep2, -, wp2⟩ := DataW.trod_int Try.underlying22 hp2
  simp at ep2
  subst ep2
  obtain ⟨cursor, rfl, rfl, rfl, wcursor⟩ := open_int Try.underlying25 (hval 1 25 v1 rfl rfl) h1
  obtain ⟨next, rfl, rfl, rfl, wnext⟩ := open_int Try.underlying25 (hval 2 25 v2 rfl rfl) h2
  clear hA0 hval0
  refine (walk p0 wp0 p1 wp1 p2 wp2 cursor wcursor next wnext W).mono fun e W' ⟨he, bel⟩ => ?_
  subst he
  exact ⟨_, rfl, _, _, _, [], _, [], hW', trodAll_mk1 (shut_bool Try.underlying4 _), (trodAll_cons_mk (Below.trod laidOut (by kernel_rfl) (of_decide_eq_true (by kernel_rfl)) k0 bel lt0) (trodAll_cons_mk (Below.trod laidOut (by kernel_rfl) (of_decide_eq_true (by kernel_rfl)) k1 bel lt1) (trodAll_cons_mk (Below.trod laidOut (by kernel_rfl) (of_decide_eq_true (by kernel_rfl)) k2 bel lt2) trodAll_mk0))), rfl, bel.frame _, fun h => by cases h⟩
theorem over : Rows.boundsKeepRow.holds Try.pinned (OpenSpec.ofChange Rows.boundsKeepSpec) :=
  OpenClaim.holds_of_wide 4 Try.f4 rfl rfl rfl rfl rfl rfl rfl ⟨rfl, rfl, rfl, rfl, rfl⟩ rfl rfl rfl rfl rfl (by kernel_rfl) Try.func4 (by kernel_rfl)
    (of_decide_eq_true (by kernel_rfl)) (by unfold Func.isWrapper; first | (rw [if_pos (by decide +kernel)]; kernel_rfl) | (rw [if_neg (by decide +kernel)]; exact ⟨rfl, rfl⟩))
    (fun os started H enc _ => lifted os started H enc)
/-- The given statement. -/
theorem proved : Rows.BoundsKeepSaid := over
end Go.Proofs.Ytmpcellghmcfeaa.bkeep
