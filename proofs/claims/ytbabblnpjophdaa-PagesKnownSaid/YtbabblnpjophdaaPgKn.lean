/- Proved: the chapter's examples of pages, and pools that are none (PagesKnown). A closed statement; no condition. -/
import Derived.Test.YtbabblnpjophdaaRows
import Derived.Test.YtbabblnpjophdaaPgW
import Derived.Test.YtbabblnpjophdaaPgN
import Derived.ProofKit
import Derived.OpenShut
import Derived.ChangeOld
namespace Go.Proofs.Ytbabblnpjophdaa.pknown
open Go.ChangeShapes Go.WideShapes Go.ChangeAt Go.RowKit
set_option linter.unusedVariables false

/-- The pages of a list. -/
def ofL (L : List Bool) (k : Nat) : Bool := L.getD k false
theorem ofL_off (L : List Bool) (k : Nat) (h : L.length ≤ k) : ofL L k = false := by simp [ofL, h]
section
variable {W w : World} {p b wb n : Nat} {f : Nat → Bool}
theorem PK.congr {g : Nat → Bool} (K : PK W p b wb n f w) (h : ∀ k, k < n → f k = g k) (ho : ∀ k, n ≤ k → g k = false) : PK W p b wb n g w :=
  ⟨K.pool.congr fun k => by
    rcases Nat.lt_or_ge k n with hk | hk
    · exact h k hk
    · rw [K.pool.m.off k hk, ho k hk], K.bel, K.hw⟩
theorem takeL (K : PK W p b wb n f w) (run align : Int) (l0 : -9223372036854775808 ≤ run) (l1 : run ≤ 9223372036854775807) (l2 : align ≤ 9223372036854775807) (a : Nat) (v : Bool) (L : List Bool)
    (hv : fndA f n run align = a ∧ fndB f n run align = v ∧ L.length = n ∧ ∀ k, k < n → tkF f n run align k = ofL L k) :
    Calls Try.prog 9 #[.pointer (some ⟨p, 0, none⟩), .int .i64 run, .int .i64 align] w fun e w' => e = .returned (.tuple #[.int .i64 (a : Int), .bool v]) ∧ PK W p b wb n (ofL L) w' :=
  (ptakeK K run align l0 l1 l2 a v _ (by rw [hv.1]) hv.2.1 rfl).mono fun e w' h => ⟨h.1, PK.congr h.2 hv.2.2.2 fun k hk => ofL_off L k (by rw [hv.2.2.1]; exact hk)⟩
theorem putL (K : PK W p b wb n f w) (a run : Int) (l0 : -9223372036854775808 ≤ run) (l1 : run ≤ 9223372036854775807) (l2 : -9223372036854775808 ≤ a) (l3 : a ≤ 9223372036854775807) (v : Bool) (L : List Bool)
    (hv : ptB f n a run = v ∧ L.length = n ∧ ∀ k, k < n → ptF f n a run k = ofL L k) :
    Calls Try.prog 11 #[.pointer (some ⟨p, 0, none⟩), .int .i64 a, .int .i64 run] w fun e w' => e = .returned (.bool v) ∧ PK W p b wb n (ofL L) w' :=
  (pputK K a run l0 l1 l2 l3 v _ hv.1 rfl).mono fun e w' h => ⟨h.1, PK.congr h.2 hv.2.2 fun k hk => ofL_off L k (by rw [hv.2.1]; exact hk)⟩
theorem put_no (K : PK W p b wb n f w) (a run : Int) (l0 : -9223372036854775808 ≤ run) (l1 : run ≤ 9223372036854775807) (l2 : -9223372036854775808 ≤ a) (l3 : a ≤ 9223372036854775807) (hv : ptB f n a run = false) :
    Calls Try.prog 11 #[.pointer (some ⟨p, 0, none⟩), .int .i64 a, .int .i64 run] w fun e w' => e = .returned (.bool false) ∧ PK W p b wb n f w' :=
  pputK K a run l0 l1 l2 l3 false f hv (by unfold ptF; rw [hv]; rfl)
theorem take_no (K : PK W p b wb n f w) (run align : Int) (l0 : -9223372036854775808 ≤ run) (l1 : run ≤ 9223372036854775807) (l2 : align ≤ 9223372036854775807) (hv : run < 1 ∨ align < 1) :
    Calls Try.prog 9 #[.pointer (some ⟨p, 0, none⟩), .int .i64 run, .int .i64 align] w fun e w' => e = .returned (.tuple #[.int .i64 0, .bool false]) ∧ PK W p b wb n f w' := by
  have h : fndA f n run align = 0 ∧ fndB f n run align = false := fnd_no fun j _ => by
    cases hg : goodB f n run align j
    · rfl
    · obtain ⟨h1, _, h3⟩ := good_iff.1 hg
      have := fit_iff.1 h3
      omega
  exact ptakeK K run align l0 l1 l2 0 false f (by rw [h.1]; rfl) h.2 (by unfold tkF; rw [h.2]; rfl)
end
def s0 : List Bool := [false, false, false, false, false, false, false, false]
def s2 : List Bool := [false, true, true, true, true, true, true, false]
def s3 : List Bool := [false, true, false, false, true, true, true, false]
def s4 : List Bool := [false, true, false, false, false, false, true, false]
def s6 : List Bool := [false, true, false, false, false, false, false, false]
set_option maxRecDepth 100000 in
set_option maxHeartbeats 4000000 in
theorem walk (W : World) : Calls Try.prog 6 #[] W fun e w' => e = .returned (.bool true) ∧ Below W.heap.size W w' := by
  have f1 := Lib.hid (show fndA (ofL s0) 8 1 1 = 0 ∧ fndB (ofL s0) 8 1 1 = false ∧ s0.length = 8 ∧ ∀ k, k < 8 → tkF (ofL s0) 8 1 1 k = ofL s0 k by decide +kernel)
  have f2 := Lib.hid (show ptB (ofL s0) 8 1 6 = true ∧ s2.length = 8 ∧ ∀ k, k < 8 → ptF (ofL s0) 8 1 6 k = ofL s2 k by decide +kernel)
  have f3 := Lib.hid (show ptB (ofL s2) 8 6 1 = false by decide +kernel)
  have f4 := Lib.hid (show ptB (ofL s2) 8 7 2 = false by decide +kernel)
  have f5 := Lib.hid (show fndA (ofL s2) 8 2 2 = 2 ∧ fndB (ofL s2) 8 2 2 = true ∧ s3.length = 8 ∧ ∀ k, k < 8 → tkF (ofL s2) 8 2 2 k = ofL s3 k by decide +kernel)
  have f6 := Lib.hid (show fndA (ofL s3) 8 2 1 = 4 ∧ fndB (ofL s3) 8 2 1 = true ∧ s4.length = 8 ∧ ∀ k, k < 8 → tkF (ofL s3) 8 2 1 k = ofL s4 k by decide +kernel)
  have f7 := Lib.hid (show ptB (ofL s4) 8 4 2 = true ∧ s3.length = 8 ∧ ∀ k, k < 8 → ptF (ofL s4) 8 4 2 k = ofL s3 k by decide +kernel)
  have f8 := Lib.hid (show fndA (ofL s3) 8 3 1 = 4 ∧ fndB (ofL s3) 8 3 1 = true ∧ s6.length = 8 ∧ ∀ k, k < 8 → tkF (ofL s3) 8 3 1 k = ofL s6 k by decide +kernel)
  have m1 := Lib.hid (show ptB gA 1024 0 1024 = true by decide +kernel)
  have m2 := Lib.hid (show fndA (ptF gA 1024 0 1024) 1024 1024 1024 = 0 ∧ fndB (ptF gA 1024 0 1024) 1024 1024 1024 = true by decide +kernel)
  have c1 := Lib.hid (show cnt (ofL s6) 8 = 1 by decide +kernel)
  have c2 := Lib.hid (show ptB (ofL s6) 8 0 4611686018427387904 = false ∧ ptB (ofL s6) 8 4611686018427387904 1 = false from ⟨by decide +kernel, by decide +kernel⟩)
  have c3 := Lib.hid (show cnt gA 0 = 0 from rfl)
  have hN := Lib.hid (fun (n : Nat) (h : n ≤ 1024) w => pnew n w h)
  have hX := Lib.hid (fun (n : Int) (h : n < 0 ∨ 1024 < n) w => pnew_no n w h)
  go_enter Try.func6, Try.ntmps6
  go_wp2_with fail
  refine (hN.out 8 (by omega) W).mono ?_
  rintro e w1 ⟨p, b, wb, rfl, k1, k2, k3, k4, k5⟩
  have K1 := Lib.hid (show PK W p b wb 8 (ofL s0) w1 from PK.congr ⟨k1, k5, k4⟩ (by decide) (fun k hk => ofL_off s0 k hk))
  clear k1 k2 k3 k4 k5
  go_wp2_with fail
  refine (takeL K1.out 1 1 (by omega) (by omega) (by omega) 0 false s0 f1.out).mono ?_
  rintro e w2 ⟨rfl, k⟩
  have K2 := Lib.hid k
  clear k
  go_wp2_with fail
  refine (putL K2.out 1 6 (by omega) (by omega) (by omega) (by omega) true s2 f2.out).mono ?_
  rintro e w3 ⟨rfl, k⟩
  have K3 := Lib.hid k
  clear k
  go_wp2_with fail
  refine (put_no K3.out 6 1 (by omega) (by omega) (by omega) (by omega) f3.out).mono ?_
  rintro e w4 ⟨rfl, k⟩
  have K4 := Lib.hid k
  clear k
  go_wp2_with fail
  refine (put_no K4.out 7 2 (by omega) (by omega) (by omega) (by omega) f4.out).mono ?_
  rintro e w5 ⟨rfl, k⟩
  have K5 := Lib.hid k
  clear k
  go_wp2_with fail
  refine (takeL K5.out 2 2 (by omega) (by omega) (by omega) 2 true s3 f5.out).mono ?_
  rintro e w6 ⟨rfl, k⟩
  have K6 := Lib.hid k
  clear k
  go_wp2_with fail
  refine (takeL K6.out 2 1 (by omega) (by omega) (by omega) 4 true s4 f6.out).mono ?_
  rintro e w7 ⟨rfl, k⟩
  have K7 := Lib.hid k
  clear k
  go_wp2_with fail
  refine (putL K7.out 4 2 (by omega) (by omega) (by omega) (by omega) true s3 f7.out).mono ?_
  rintro e w8 ⟨rfl, k⟩
  have K8 := Lib.hid k
  clear k
  go_wp2_with fail
  refine (takeL K8.out 3 1 (by omega) (by omega) (by omega) 4 true s6 f8.out).mono ?_
  rintro e w9 ⟨rfl, k⟩
  have K9 := Lib.hid k
  clear k
  go_wp2_with fail
  refine (hN.out 1024 (by omega) w9).mono ?_
  rintro e w10 ⟨mp, mb, mwb, rfl, k1, k2, k3, k4, k5⟩
  have K10 := Lib.hid (show PK w9 mp mb mwb 1024 gA w10 from ⟨k1, k5, k4⟩)
  clear k1 k2 k3 k4 k5
  go_wp2_with fail
  refine (pputK K10.out 0 1024 (by omega) (by omega) (by omega) (by omega) true _ m1.out rfl).mono ?_
  rintro e w11 ⟨rfl, k⟩
  have K11 := Lib.hid k
  clear k
  go_wp2_with fail
  refine (ptakeK K11.out 1024 1024 (by omega) (by omega) (by omega) 0 true _ (by rw [m2.out.1]; rfl) m2.out.2 rfl).mono ?_
  rintro e w12 ⟨rfl, k⟩
  have K12 := Lib.hid k
  clear k
  go_wp2_with fail
  refine (take_no K12.out 0 1 (by omega) (by omega) (by omega) (.inl (by omega))).mono ?_
  rintro e w13 ⟨rfl, k⟩
  have K13 := Lib.hid k
  clear k
  go_wp2_with fail
  refine (take_no K13.out 1 0 (by omega) (by omega) (by omega) (.inr (by omega))).mono ?_
  rintro e w14 ⟨rfl, k⟩
  have K14 := Lib.hid k
  clear k
  have J14 := Lib.hid (K9.out.of_below K14.out.bel)
  go_wp2_with fail
  refine (gtake 1 1 (by omega) w14).mono ?_
  rintro e w15 ⟨rfl, k⟩
  have J15 := Lib.hid (J14.out.of_below k)
  clear k
  go_wp2_with fail
  refine (works12_any w15).mono ?_
  rintro e w16 ⟨rfl, k⟩
  have J16 := Lib.hid (J15.out.of_below k)
  clear k
  go_wp2_with fail
  refine (hX.out (-1) (by omega) w16).mono ?_
  rintro e w ⟨rfl, rfl⟩
  go_wp2_with fail
  refine (hX.out 1025 (by omega) w16).mono ?_
  rintro e w ⟨rfl, rfl⟩
  go_wp2_with fail
  refine (pcountK J16.out 1 (by rw [c1.out]; rfl)).mono ?_
  rintro e w17 ⟨rfl, k⟩
  have J17 := Lib.hid k
  clear k
  go_wp2_with fail
  refine (gput 0 1 (by omega) w17).mono ?_
  rintro e w18 ⟨rfl, k⟩
  have J18 := Lib.hid (J17.out.of_below k)
  clear k
  go_wp2_with fail
  refine (gfree 0 w18).mono ?_
  rintro e w19 ⟨rfl, k⟩
  have J19 := Lib.hid (J18.out.of_below k)
  clear k
  go_wp2_with fail
  refine (gcount w19).mono ?_
  rintro e w20 ⟨rfl, k⟩
  have J20 := Lib.hid (J19.out.of_below k)
  clear k
  go_wp2_with fail
  refine (gfits 1 1 (by omega) w20).mono ?_
  rintro e w21 ⟨rfl, k⟩
  have J21 := Lib.hid (J20.out.of_below k)
  clear k
  go_wp2_with fail
  refine (gcopy w21).mono ?_
  rintro e w22 ⟨rfl, k⟩
  have J22 := Lib.hid (J21.out.of_below k)
  clear k
  go_wp2_with fail
  refine (put_no J22.out 0 4611686018427387904 (by omega) (by omega) (by omega) (by omega) c2.out.1).mono ?_
  rintro e w23 ⟨rfl, k⟩
  have J23 := Lib.hid k
  clear k
  go_wp2_with fail
  refine (put_no J23.out 4611686018427387904 1 (by omega) (by omega) (by omega) (by omega) c2.out.2).mono ?_
  rintro e w24 ⟨rfl, k⟩
  have J24 := Lib.hid k
  clear k
  go_wp2_with fail
  refine (hN.out 0 (by omega) w24).mono ?_
  rintro e w25 ⟨ep, eb, ewb, rfl, k1, k2, k3, k4, k5⟩
  have J25 := Lib.hid (J24.out.of_below k5)
  have E := Lib.hid k1
  clear k1 k2 k3 k4 k5
  go_wp2_with fail
  refine (pcount E.out).mono ?_
  rintro e w26 ⟨rfl, k⟩
  have J26 := Lib.hid (J25.out.of_below k)
  clear k
  have hz : ((cnt (fun _ => false) 0 : Nat) : Int) = 0 := rfl
  go_wp2
  go_ret
  exact ⟨rfl, J26.out.bel⟩
theorem own : ownKnob Try.prog.godebug = none := by kernel_rfl
theorem laidOut : laidOutB Try.prog = true := by kernel_rfl
set_option maxRecDepth 100000 in
theorem lifted (os : Os) (started : os.Started) (H : Type) (enc : TypeId × Value → H) :
    ReturnsInHanded {} Try.checked os 6 .any (Rows.pagesKnownSpec.pre6 enc Try.prog Try.f6 Rows.pagesKnownRow.domain false) (Rows.pagesKnownSpec.post enc Try.prog Try.f6 false true false false) := by
  refine returnsInHanded_of_change (C := Try.checked) own started (by kernel_rfl) Try.func6
    (ChangeSpec.witness6 (enc := enc) (C := Try.checked) false ⟨#[], #[], []⟩ 8 (by kernel_rfl) (by kernel_rfl) (by kernel_rfl) (by kernel_rfl)) ?_
  intro W base args ds gs before hval0 hW hcnd hsz
  have hval : ∀ (j : Nat) t v, Try.f6.params[j]? = some t → args[j]? = some v → Value.okWide Try.prog W .any base t v := hval0
  have hW' := hW
  obtain ⟨p, q, hA0, hV, rfl, hfz, hnd⟩ := hW
  have hA : DataW.TrodAll enc Try.prog W 0 (fun _ => true) true Try.f6.params.toList args.toList ds p := hA0
  rw [Try.params6] at hA hval
  obtain ⟨rfl, rfl, rfl⟩ := trodAll_none hA
  obtain ⟨rfl, rfl⟩ := trodVars_none hV
  clear hA0 hval0
  refine (walk  W).mono fun e W' ⟨he, bel⟩ => ?_
  subst he
  exact ⟨_, rfl, _, _, _, [], _, [], hW', trodAll_mk1 (shut_bool Try.underlying4 _), trodAll_mk0, rfl, bel.frame _, fun h => by cases h⟩
theorem over : Rows.pagesKnownRow.holds Try.pinned (OpenSpec.ofChange Rows.pagesKnownSpec) :=
  OpenClaim.holds_of_wide 6 Try.f6 rfl rfl rfl rfl rfl rfl rfl ⟨rfl, rfl, rfl, rfl, rfl⟩ rfl rfl rfl rfl rfl (by kernel_rfl) Try.func6 (by kernel_rfl)
    (of_decide_eq_true (by kernel_rfl)) (by unfold Func.isWrapper; first | (rw [if_pos (by decide +kernel)]; kernel_rfl) | (rw [if_neg (by decide +kernel)]; exact ⟨rfl, rfl⟩))
    (fun os started H enc _ => lifted os started H enc)
/-- The given statement. -/
theorem proved : Rows.PagesKnownSaid := over
end Go.Proofs.Ytbabblnpjophdaa.pknown
