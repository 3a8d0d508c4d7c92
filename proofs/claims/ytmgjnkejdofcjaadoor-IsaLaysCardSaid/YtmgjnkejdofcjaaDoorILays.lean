/- Proved: any instruction is laid as a word, or refused, as the document says (the card of IsaLays): for every input; the tables of names and forms are tied to the program's text. -/
import Derived.Test.YtmgjnkejdofcjaaDoorIsF
import Derived.Test.YtmgjnkejdofcjaaDoorIsW
import Derived.Test.YtmgjnkejdofcjaaDoorIsV
import Derived.Test.YtmgjnkejdofcjaaDoorFlat
import Derived.Test.YtmgjnkejdofcjaaDoorTie
import Derived.Test.YtmgjnkejdofcjaaDoorCards
import Derived.SevenTiedAt
import Derived.ProofKit
import Derived.OpenShut
import Derived.ShutString
import Derived.ChangeOld
namespace Go.Proofs.YtmgjnkejdofcjaaDoor.ilays
open Go.ChangeShapes Go.WideShapes Go.ChangeAt Go.RowKit
open Go.ChangeMaps (open_string shut_string)
set_option linter.unusedVariables false

set_option maxHeartbeats 2000000 in
theorem walk (i0 : Int) (wi0 : (Lit.int .i64 i0).wf = true) (i1 : Int) (wi1 : (Lit.int .i64 i1).wf = true) (i2 : Int) (wi2 : (Lit.int .i64 i2).wf = true) (i3 : Int) (wi3 : (Lit.int .i64 i3).wf = true) (i4 : Int) (wi4 : (Lit.int .i64 i4).wf = true) (W : World) (hT : Tabs W) : Calls Tryd.prog 3 #[.agg #[.int .i64 i0, .int .i64 i1, .int .i64 i2, .int .i64 i3, .int .i64 i4]] W fun e w' => e = .returned (.bool true) ∧ Below W.heap.size W w' := by
  have k0 : KR W [⟨W.heap.size, ir i0 i1 i2 i3 i4⟩] (W.alloc (.cells #[.int .i64 i0, .int .i64 i1, .int .i64 i2, .int .i64 i3, .int .i64 i4] 23)) := (KR.start (W := W)).push (ir i0 i1 i2 i3 i4) 23
  have hE := fun w h => pEncode_any i0 i1 i2 i3 i4 w h
  have hR := fun w => rEncode_any i0 i1 i2 i3 i4 w
  unfold EncPost at hE hR
  generalize (if mayB ⟨i0, i1, i2, i3, i4⟩ = true then encW ⟨i0, i1, i2, i3, i4⟩ else 0) = X at *
  generalize (if mayB ⟨i0, i1, i2, i3, i4⟩ = true then (0 : Int) else 2) = Y at *
  obtain ⟨w0, hw0⟩ : ∃ w0, w0 = W.alloc (.cells #[.int .i64 i0, .int .i64 i1, .int .i64 i2, .int .i64 i3, .int .i64 i4] 23) := ⟨_, rfl⟩
  rw [← hw0] at k0
  replace hw0 := Lib.hid hw0
  replace hE := Lib.hid (hE w0 (hT.below k0.bl))
  replace hR := Lib.hid hR
  replace hT := Lib.hid hT
  replace k0 := Lib.hid k0
  clear wi0 wi1 wi2 wi3 wi4
  go_enter Tryd.func3, Tryd.ntmps3
  go_wp2_with fail
  rw [← hw0.out]
  refine hE.out.mono ?_
  rintro e w1 ⟨rfl, h1⟩
  have k1 := k0.out.below h1
  obtain ⟨c0, c1, c2, c3, c4, -⟩ := k1.cells5 (List.mem_cons_self ..)
  replace k1 := Lib.hid k1
  clear h1 hE k0
  go_wp2_with fail
  refine (hR.out _).mono ?_
  rintro e w2 ⟨rfl, h2⟩
  have k2 := k1.out.below h2
  have hWk := Lib.hid (iworks_any w2 (hT.out.below k2.bl))
  replace k2 := Lib.hid k2
  clear h2 hR k1 c0 c1 c2 c3 c4
  go_wp2_with fail
  refine hWk.out.mono ?_
  rintro e w3 ⟨rfl, h3⟩
  have k3 := Lib.hid (k2.out.below h3).bl
  clear h3 hWk
  go_wp2_with fail
  go_ret
  exact ⟨rfl, k3.out⟩

set_option maxRecDepth 100000 in
theorem lifted (os : Os) (started : os.Started) (H : Type) (enc : TypeId × Value → H) :
    ReturnsInHanded {} Tryd.checked os 3 .any (fun w args => (Rows.isaLaysSpec.pre enc Tryd.prog Tryd.f3 [] false w args ∧ laidMetH Tryd.prog Rows.isaLaysRow.laid w) ∧ sizedMet enc Tryd.prog Tryd.f3 (OpenSpec.ofChange Rows.isaLaysSpec) false w args) (Rows.isaLaysSpec.post enc Tryd.prog Tryd.f3 false true false false) := by
  refine returnsInHanded_of_change_and (C := Tryd.checked) (X := fun w _ => laidMetH Tryd.prog Rows.isaLaysRow.laid w) (fun _ _ _ hh h => h.of_heap hh) own started (by kernel_rfl) Tryd.func3
    (ChangeSpec.witness_at (enc := enc) (C := Tryd.checked) (os := os) (X := fun w _ => laidMetH Tryd.prog Rows.isaLaysRow.laid w) false (laidWorld os) #[.agg #[.int .i64 0, .int .i64 0, .int .i64 0, .int .i64 0, .int .i64 0]] 8 rfl (by kernel_rfl) (by kernel_rfl) (by kernel_rfl) (by kernel_rfl) (by kernel_rfl) (laid_met os _)) ?_
  intro W base args ds gs before hval0 hW _ _ hL _
  have hval : ∀ (j : Nat) t v, Tryd.f3.params[j]? = some t → args[j]? = some v → Value.okWide Tryd.prog W .any base t v := hval0
  have hW' := hW
  obtain ⟨p, q, hA0, hV, rfl, hfz, hnd⟩ := hW
  have hA : DataW.TrodAll enc Tryd.prog W 0 (fun _ => true) true Tryd.f3.params.toList args.toList ds p := hA0
  rw [Tryd.params3] at hA hval
  obtain ⟨v0, vs0, d0, ds0, p0, q0, hargs, rfl, rfl, h0, r0⟩ := trodAll_cons hA
  obtain ⟨rfl, rfl, rfl⟩ := trodAll_nil r0
  obtain rfl : args = #[v0] := by cases args; simp_all
  obtain ⟨rfl, rfl⟩ := trodVars_none hV
  have k0 := h0
  have lt0 : ∀ x ∈ p0, x.block < W.heap.size := by obtain ⟨m, hm⟩ := k0; exact DataW.trod_lt m _ _ _ hm
  obtain ⟨csi, rfl, hfi⟩ := open_flat (ks := [some .i64, some .i64, some .i64, some .i64, some .i64]) 6 (by kernel_rfl) (.inl ⟨_, Tryd.underlying23⟩) (hval 0 23 v0 rfl rfl) h0
  obtain ⟨_, _, rfl, ⟨i0, rfl, wi0⟩, _, _, rfl, ⟨i1, rfl, wi1⟩, _, _, rfl, ⟨i2, rfl, wi2⟩, _, _, rfl, ⟨i3, rfl, wi3⟩, _, _, rfl, ⟨i4, rfl, wi4⟩, rfl⟩ := hfi
  clear hA0 hval0
  refine (walk i0 wi0 i1 wi1 i2 wi2 i3 wi3 i4 wi4 W (tabs_of_laid hL)).mono fun e W' ⟨he, bel⟩ => ?_
  subst he
  exact ⟨_, rfl, _, _, _, [], _, [], hW', trodAll_mk1 (shut_bool Tryd.underlying4 _), (trodAll_cons_mk (Below.trod laidOut (by kernel_rfl) (of_decide_eq_true (by kernel_rfl)) k0 bel lt0) trodAll_mk0), rfl, bel.frame _, fun h => by cases h⟩
theorem over : Rows.IsaLaysSaid :=
  OpenClaim.holds_of_wide 3 Tryd.f3 rfl rfl rfl rfl rfl rfl rfl ⟨rfl, rfl, rfl, rfl, rfl⟩ rfl rfl rfl rfl rfl (by kernel_rfl) Tryd.func3 (by kernel_rfl)
    (of_decide_eq_true (by kernel_rfl)) (by unfold Func.isWrapper; first | (rw [if_pos (by decide +kernel)]; kernel_rfl) | (rw [if_neg (by decide +kernel)]; exact ⟨rfl, rfl⟩))
    (fun os started H enc _ => lifted os started H enc)
/-- The given statement. -/
theorem proved : Rows.IsaLaysCardSaid :=
  Claim7.holds_tied_plain_at .later [] [.data, .data] true (true, "450f401a4c4e925ae382747976bb556dbd206c48d08eb915d92392bd75249c1c") false
    over (fun _ h => by cases h) (by kernel_rfl) (fun _ h => by cases h) isaLays_row_tie rfl ⟨rfl, rfl⟩ (by kernel_rfl) rfl
    (fun f fn hf hfn => by
      obtain rfl : f = 3 := Option.some.inj ((show Tryd.prog.funcNamed "fallow/fallowlaw07.IsaLays" = some 3 by kernel_rfl).symm.trans hf) |>.symm
      obtain rfl : fn = Tryd.f3 := (Option.some.inj (Tryd.func3.symm.trans hfn)).symm
      exact ⟨by kernel_rfl, fun j t ht => by
        rw [Tryd.params3] at ht
        rcases j with _ | j
        · obtain rfl : t = 23 := by simpa using ht.symm
          exact (show Tryd.prog.wantsStandIn 23 = false by kernel_rfl)
        · simp at ht⟩)
    (by kernel_rfl)
end Go.Proofs.YtmgjnkejdofcjaaDoor.ilays
