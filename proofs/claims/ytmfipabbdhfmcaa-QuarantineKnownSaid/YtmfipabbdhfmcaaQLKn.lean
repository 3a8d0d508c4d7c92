/- Proved: the chapter's examples of quarantine, and yards that are none (QuarantineKnown). A closed statement; no condition. -/
import Derived.Test.YtmfipabbdhfmcaaRows
import Derived.Test.YtmfipabbdhfmcaaQuN
import Derived.Deep.LoopGhost
import Derived.ProofKit
import Derived.OpenShut
import Derived.ChangeOld
namespace Go.Proofs.Ytmfipabbdhfmcaa.qknown
open Go.ChangeShapes Go.WideShapes Go.ChangeAt Go.RowKit Go.Proofs.Ytmfipabbdhfmcaa.Qu
set_option linter.unusedVariables false
/-- What is kept behind the yard's last call: the row that an end has answered, and what is no yard. -/
structure KX (W : World) (q : Nat) (v : Value) (w : World) : Prop where
  b : Below W.heap.size W w
  r : w.ownsRow 0 33 2 v ([(256, 64)] : List Rg).length (([(256, 64)] : List Rg).flatMap rgC)
  e : NoY (.pointer (some ⟨q, 0, none⟩)) w
theorem KX.grow {W w w' : World} {q : Nat} {v : Value} (H : KX W q v w) (k : Below w.heap.size w w') : KX W q v w' := ⟨H.b.trans (k.mono H.b.size), own_grow H.r k, H.e.grow k⟩
set_option maxRecDepth 100000 in
set_option maxHeartbeats 16000000 in
theorem walk (W : World) : Calls Try.prog 6 #[] W fun e w' => e = .returned (.bool true) ∧ Below W.heap.size W w' := by
  have hN := Lib.hid (new_k (W := W) (w := W) (D := fun k => k < W.heap.size) 64 (by omega) (Below.refl _ _) 1024 (by rfl) (fun _ h => h) (fun _ h => h))
  have q1 := Lib.hid (show okF 64 ([] ++ []) (256, 64) = true by decide +kernel)
  have q2 := Lib.hid (show okF 64 ([(256, 64)] ++ []) (8, 16) = false by decide +kernel)
  have q3 := Lib.hid (show okF 64 ([(256, 64)] ++ []) (1008, 32) = false by decide +kernel)
  have q4 := Lib.hid (show okF 64 ([(256, 64)] ++ []) (0, 0) = false by decide +kernel)
  have q5 := Lib.hid (show okF 64 ([] ++ [(256, 64)]) (512, 16) = true by decide +kernel)
  go_enter Try.func6, Try.ntmps6
  go_wp2_with fail
  refine (hN.out).mono ?_
  rintro e w1 ⟨y, rfl, k, _, _⟩
  have K1 := Lib.hid k
  clear k
  go_wp2_with fail
  refine (begin_k K1.out (by omega)).mono ?_
  rintro e w2 ⟨rfl, k, _⟩
  have K2 := Lib.hid k
  clear k
  go_wp2_with fail
  refine (end_k K2.out).mono ?_
  rintro e w3 ⟨v, rfl, _, k, _, hv⟩
  have K3 := Lib.hid (k.sub (D' := fun k => k < W.heap.size) (fun _ h => .inl h) (fun _ h => h))
  obtain rfl := hv rfl
  clear k
  go_wp2_with fail
  refine (begin_k K3.out (by omega)).mono ?_
  rintro e w4 ⟨rfl, k, _⟩
  have K4 := Lib.hid k
  clear k
  go_wp2_with fail
  refine (region_any 256 64 w4).mono ?_
  rintro e w5 ⟨rfl, k⟩
  have K5 := Lib.hid (K4.out.grow k)
  clear k
  unfold rgV
  dsimp only
  go_wp2_with fail
  refine (free_k K5.out 256 64 (by omega) (by omega) true q1.out (Wt' := [(256, 64)]) rfl).mono ?_
  rintro e w6 ⟨rfl, k, _⟩
  have K6 := Lib.hid k
  clear k
  go_wp2_with fail
  refine (region_any 8 16 w6).mono ?_
  rintro e w7 ⟨rfl, k⟩
  have K7 := Lib.hid (K6.out.grow k)
  clear k
  unfold rgV
  dsimp only
  go_wp2_with fail
  refine (free_k K7.out 8 16 (by omega) (by omega) false q2.out (Wt' := [(256, 64)]) rfl).mono ?_
  rintro e w8 ⟨rfl, k, _⟩
  have K8 := Lib.hid k
  clear k
  go_wp2_with fail
  refine (region_any 1008 32 w8).mono ?_
  rintro e w9 ⟨rfl, k⟩
  have K9 := Lib.hid (K8.out.grow k)
  clear k
  unfold rgV
  dsimp only
  go_wp2_with fail
  refine (free_k K9.out 1008 32 (by omega) (by omega) false q3.out (Wt' := [(256, 64)]) rfl).mono ?_
  rintro e w10 ⟨rfl, k, _⟩
  have K10 := Lib.hid k
  clear k
  go_wp2_with fail
  refine (region_any 0 0 w10).mono ?_
  rintro e w11 ⟨rfl, k⟩
  have K11 := Lib.hid (K10.out.grow k)
  clear k
  unfold rgV
  dsimp only
  go_wp2_with fail
  refine (free_k K11.out 0 0 (by omega) (by omega) false q4.out (Wt' := [(256, 64)]) rfl).mono ?_
  rintro e w12 ⟨rfl, k, _⟩
  have K12 := Lib.hid k
  clear k
  go_wp2_with fail
  refine (ticket_k K12.out 3 (by rfl)).mono ?_
  rintro e w13 ⟨rfl, k, b⟩
  have K13 := Lib.hid k
  clear k
  clear b
  go_wp2_with fail
  refine (done_k K13.out 3 (by omega) false (by rfl)).mono ?_
  rintro e w14 ⟨rfl, k, b⟩
  have K14 := Lib.hid k
  clear k
  clear b
  go_wp2_with fail
  refine (end_k K14.out).mono ?_
  rintro e w15 ⟨v, rfl, _, k, _, hv⟩
  have K15 := Lib.hid (k.sub (D' := fun k => k < W.heap.size) (fun _ h => .inl h) (fun _ h => h))
  obtain rfl := hv rfl
  clear k
  go_wp2_with fail
  refine (begin_k K15.out (by omega)).mono ?_
  rintro e w16 ⟨rfl, k, _⟩
  have K16 := Lib.hid k
  clear k
  go_wp2_with fail
  refine (region_any 512 16 w16).mono ?_
  rintro e w17 ⟨rfl, k⟩
  have K17 := Lib.hid (K16.out.grow k)
  clear k
  unfold rgV
  dsimp only
  go_wp2_with fail
  refine (free_k K17.out 512 16 (by omega) (by omega) true q5.out (Wt' := [(512, 16)]) rfl).mono ?_
  rintro e w18 ⟨rfl, k, _⟩
  have K18 := Lib.hid k
  clear k
  go_wp2_with fail
  refine (ticket_k K18.out 4 (by rfl)).mono ?_
  rintro e w19 ⟨rfl, k, b⟩
  have K19 := Lib.hid k
  clear k
  clear b
  go_wp2_with fail
  refine (end_k K19.out).mono ?_
  rintro e w20 ⟨v, rfl, ho, k, _, _⟩
  have K20 := Lib.hid (k.sub (D' := fun k => k < W.heap.size) (fun _ h => .inl h) (fun _ h => h))
  have R := Lib.hid ho
  clear k ho
  obtain ⟨A, cap, rfl⟩ := own_slice R.out
  go_wp2_with fail
  refine (done_k K20.out 3 (by omega) true (by rfl)).mono ?_
  rintro e w21 ⟨rfl, k, b⟩
  have K21 := Lib.hid k
  clear k
  have R := Lib.hid (own_grow R.out b); clear b
  go_wp2_with fail
  refine (done_k K21.out 4 (by omega) false (by rfl)).mono ?_
  rintro e w22 ⟨rfl, k, b⟩
  have K22 := Lib.hid k
  clear k
  have R := Lib.hid (own_grow R.out b); clear b
  go_wp2_with fail
  refine (ticket_k K22.out 4 (by rfl)).mono ?_
  rintro e w23 ⟨rfl, k, b⟩
  have K23 := Lib.hid k
  clear k
  have R := Lib.hid (own_grow R.out b); clear b
  go_upto_region 17 with (fail)
  obtain ⟨w24, hw24⟩ : ∃ w24, w24 = w23.alloc (.cells #[.int .u64 0, .bool false, .pointer none, .slice none 0 0, .slice none 0 0] 67) := ⟨_, rfl⟩
  have ba : Below w23.heap.size w23 w24 := by rw [hw24]; exact (Below.refl _ _).alloc (Nat.le_refl _) _
  have HX := Lib.hid (show KX W w23.heap.size (.slice A 1 cap) w24 from ⟨K23.out.b.trans (ba.mono K23.out.b.size), own_grow R.out ba, .inr ⟨_, rfl, by rw [hw24]; simp⟩⟩)
  obtain ⟨q, hq⟩ : ∃ q, q = w23.heap.size := ⟨_, rfl⟩
  rw [← hq] at HX ⊢
  rw [← hw24]
  clear ba hw24 hq
  clear R
  go_wp2_with fail
  refine (no_begin (w := w24) (v := .pointer none) (.inl rfl)).mono ?_
  rintro e w25 ⟨rfl, k⟩
  have HX := Lib.hid (HX.out.grow k)
  clear k
  go_wp2_with fail
  refine (no_begin HX.out.e).mono ?_
  rintro e w26 ⟨rfl, k⟩
  have HX := Lib.hid (HX.out.grow k)
  clear k
  go_wp2_with fail
  refine (works16_any w26).mono ?_
  rintro e w27 ⟨rfl, k⟩
  have HX := Lib.hid (HX.out.grow k)
  clear k
  go_wp2_with fail
  refine (ynew_no (-16) w27 (by omega)).mono ?_
  rintro e w28 ⟨rfl, k⟩
  have HX := Lib.hid (HX.out.grow k)
  clear k
  go_wp2_with fail
  refine (ynew_no 8 w28 (by omega)).mono ?_
  rintro e w29 ⟨rfl, k⟩
  have HX := Lib.hid (HX.out.grow k)
  clear k
  go_wp2_with fail
  refine (ynew_no 262160 w29 (by omega)).mono ?_
  rintro e w30 ⟨rfl, k⟩
  have HX := Lib.hid (HX.out.grow k)
  clear k
  go_wp2_with fail
  refine (new_k (W := w30) (w := w30) (D := fun k => k < w30.heap.size) 0 (by omega) (Below.refl _ _) 0 (by rfl) (fun _ h => h) (fun _ h => h)).mono ?_
  rintro e w31 ⟨y2, rfl, k2, k, _⟩
  have HX := Lib.hid (HX.out.grow k)
  have K := Lib.hid k2
  clear k k2
  go_wp2_with fail
  refine (ticket_k K.out 0 (by rfl)).mono ?_
  rintro e w32 ⟨rfl, _, k⟩
  have HX := Lib.hid (HX.out.grow k)
  clear k
  go_wp2_with fail
  refine (region_any 256 64 w32).mono ?_
  rintro e w33 ⟨rfl, k⟩
  have HX := Lib.hid (HX.out.grow k)
  clear k
  go_wp2_with fail
  refine (onlyK (L := [(256, 64)]) HX.out.r (256, 64) true (by decide +kernel)).mono ?_
  rintro e w34 ⟨rfl, k⟩
  have HX := Lib.hid (HX.out.grow k)
  clear k
  go_wp2_with fail
  refine (region_any 0 16 w34).mono ?_
  rintro e w35 ⟨rfl, k⟩
  have HX := Lib.hid (HX.out.grow k)
  clear k
  unfold rgV
  dsimp only
  go_wp2_with fail
  refine (no_free (w := w35) 0 16 (v := .pointer none) (.inl rfl)).mono ?_
  rintro e w36 ⟨rfl, k⟩
  have HX := Lib.hid (HX.out.grow k)
  clear k
  go_wp2_with fail
  refine (region_any 0 16 w36).mono ?_
  rintro e w37 ⟨rfl, k⟩
  have HX := Lib.hid (HX.out.grow k)
  clear k
  unfold rgV
  dsimp only
  go_wp2_with fail
  refine (no_free 0 16 HX.out.e).mono ?_
  rintro e w38 ⟨rfl, k⟩
  have HX := Lib.hid (HX.out.grow k)
  clear k
  go_wp2_with fail
  refine (no_end (w := w38) (v := .pointer none) (.inl rfl)).mono ?_
  rintro e w39 ⟨rfl, k⟩
  have HX := Lib.hid (HX.out.grow k)
  clear k
  go_wp2_with fail
  refine (no_paint (w := w39) (v := .pointer none) (.inl rfl)).mono ?_
  rintro e w40 ⟨rfl, k⟩
  have HX := Lib.hid (HX.out.grow k)
  clear k
  go_wp2_with fail
  refine (no_epoch HX.out.e).mono ?_
  rintro e w41 ⟨rfl, k⟩
  have HX := Lib.hid (HX.out.grow k)
  clear k
  go_wp2_with fail
  refine (no_sweeping (w := w41) (v := .pointer none) (.inl rfl)).mono ?_
  rintro e w42 ⟨rfl, k⟩
  have HX := Lib.hid (HX.out.grow k)
  clear k
  go_wp2_with fail
  refine (no_waiting HX.out.e).mono ?_
  rintro e w43 ⟨rfl, k⟩
  have HX := Lib.hid (HX.out.grow k)
  clear k
  go_wp2_with fail
  refine (no_batch (w := w43) (v := .pointer none) (.inl rfl)).mono ?_
  rintro e w44 ⟨rfl, k⟩
  have HX := Lib.hid (HX.out.grow k)
  clear k
  go_wp2_with fail
  refine (no_ticket (w := w44) (v := .pointer none) (.inl rfl)).mono ?_
  rintro e w45 ⟨rfl, k⟩
  have HX := Lib.hid (HX.out.grow k)
  clear k
  go_wp2_with fail
  refine (no_done 0 HX.out.e).mono ?_
  rintro e w46 ⟨rfl, k⟩
  have HX := Lib.hid (HX.out.grow k)
  clear k
  go_wp2_with fail
  refine (no_copy (w := w46) (v := .pointer none) (.inl rfl)).mono ?_
  rintro e w47 ⟨rfl, k⟩
  have HX := Lib.hid (HX.out.grow k)
  clear k
  go_wp2_with fail
  refine (no_copy HX.out.e).mono ?_
  rintro e w48 ⟨rfl, k⟩
  have HX := Lib.hid (HX.out.grow k)
  clear k
  go_wp2_with fail
  go_ret
  exact ⟨rfl, HX.out.b⟩
theorem own : ownKnob Try.prog.godebug = none := by kernel_rfl
theorem laidOut : laidOutB Try.prog = true := by kernel_rfl
set_option maxRecDepth 100000 in
theorem lifted (os : Os) (started : os.Started) (H : Type) (enc : TypeId × Value → H) :
    ReturnsInHanded {} Try.checked os 6 .any (Rows.quarantineKnownSpec.pre6 enc Try.prog Try.f6 Rows.quarantineKnownRow.domain false) (Rows.quarantineKnownSpec.post enc Try.prog Try.f6 false true false false) := by
  refine returnsInHanded_of_change (C := Try.checked) own started (by kernel_rfl) Try.func6
    (ChangeSpec.witness6 (enc := enc) (C := Try.checked) false ⟨#[], #[], []⟩ 8 (by kernel_rfl) (by kernel_rfl) (by kernel_rfl) (by kernel_rfl)) ?_
  intro W base args ds gs before hval0 hW hcnd hsz
  have hval : ∀ (j : Nat) t v, Try.f6.params[j]? = some t → args[j]? = some v → Value.okWide Try.prog W .any base t v := hval0
  have hW' := hW
  obtain ⟨p, q, hA0, hV, rfl, hfz, hnd⟩ := hW
  have hA : DataW.TrodAll enc Try.prog W 0 (fun _ => true) true Try.f6.params.toList args.toList ds p := hA0
  rw [Try.params6] at hA hval
  obtain ⟨rfl, rfl, rfl⟩ := trodAll_none hA
  obtain ⟨rfl, rfl⟩ := trodVars_none hV
  clear hA0 hval0
  refine (walk  W).mono fun e W' ⟨he, bel⟩ => ?_
  subst he
  exact ⟨_, rfl, _, _, _, [], _, [], hW', trodAll_mk1 (shut_bool Try.underlying4 _), trodAll_mk0, rfl, bel.frame _, fun h => by cases h⟩
theorem over : Rows.quarantineKnownRow.holds Try.pinned (OpenSpec.ofChange Rows.quarantineKnownSpec) :=
  OpenClaim.holds_of_wide 6 Try.f6 rfl rfl rfl rfl rfl rfl rfl ⟨rfl, rfl, rfl, rfl, rfl⟩ rfl rfl rfl rfl rfl (by kernel_rfl) Try.func6 (by kernel_rfl)
    (of_decide_eq_true (by kernel_rfl)) (by unfold Func.isWrapper; first | (rw [if_pos (by decide +kernel)]; kernel_rfl) | (rw [if_neg (by decide +kernel)]; exact ⟨rfl, rfl⟩))
    (fun os started H enc _ => lifted os started H enc)
/-- The given statement. -/
theorem proved : Rows.QuarantineKnownSaid := over
end Go.Proofs.Ytmfipabbdhfmcaa.qknown
