/- Proved: two instructions that may be have unlike words, if they are unlike (the card of IsaApart): for every input; the tables of names and forms are tied to the program's text. -/
import Derived.Test.YtmgjnkejdofcjaaDoorIsF
import Derived.Test.YtmgjnkejdofcjaaDoorIsW
import Derived.Test.YtmgjnkejdofcjaaDoorIsV
import Derived.Test.YtmgjnkejdofcjaaDoorFlat
import Derived.Test.YtmgjnkejdofcjaaDoorTie
import Derived.Test.YtmgjnkejdofcjaaDoorCards
import Derived.SevenTiedAt
import Derived.ProofKit
import Derived.OpenShut
import Derived.ShutString
import Derived.ChangeOld
namespace Go.Proofs.YtmgjnkejdofcjaaDoor.iapart
open Go.ChangeShapes Go.WideShapes Go.ChangeAt Go.RowKit
open Go.ChangeMaps (open_string shut_string)
set_option linter.unusedVariables false

theorem apart_eq {i j : Ins} (h : mayB i = true) (k : mayB j = true) : (encW i == encW j) = decide (i = j) := by
  rw [Bool.eq_iff_iff]
  simp only [beq_iff_eq, decide_eq_true_eq]
  exact ⟨fun e => by rw [← dec_enc h, ← dec_enc k, e], fun e => by rw [e]⟩
set_option maxHeartbeats 4000000 in
theorem walk (i0 : Int) (wi0 : (Lit.int .i64 i0).wf = true) (i1 : Int) (wi1 : (Lit.int .i64 i1).wf = true) (i2 : Int) (wi2 : (Lit.int .i64 i2).wf = true) (i3 : Int) (wi3 : (Lit.int .i64 i3).wf = true) (i4 : Int) (wi4 : (Lit.int .i64 i4).wf = true) (j0 : Int) (wj0 : (Lit.int .i64 j0).wf = true) (j1 : Int) (wj1 : (Lit.int .i64 j1).wf = true) (j2 : Int) (wj2 : (Lit.int .i64 j2).wf = true) (j3 : Int) (wj3 : (Lit.int .i64 j3).wf = true) (j4 : Int) (wj4 : (Lit.int .i64 j4).wf = true) (W : World) (hT : Tabs W) : Calls Tryd.prog 7 #[.agg #[.int .i64 i0, .int .i64 i1, .int .i64 i2, .int .i64 i3, .int .i64 i4], .agg #[.int .i64 j0, .int .i64 j1, .int .i64 j2, .int .i64 j3, .int .i64 j4]] W fun e w' => e = .returned (.bool true) ∧ Below W.heap.size W w' := by
  clear wi0 wi1 wi2 wi3 wi4 wj0 wj1 wj2 wj3 wj4
  have k0 : KR W [⟨W.heap.size + 1, ir j0 j1 j2 j3 j4⟩, ⟨W.heap.size, ir i0 i1 i2 i3 i4⟩] ((W.alloc (.cells #[.int .i64 i0, .int .i64 i1, .int .i64 i2, .int .i64 i3, .int .i64 i4] 23)).alloc (.cells #[.int .i64 j0, .int .i64 j1, .int .i64 j2, .int .i64 j3, .int .i64 j4] 23)) := by
    have hk := ((KR.start (W := W)).push (ir i0 i1 i2 i3 i4) 23).push (ir j0 j1 j2 j3 j4) 23
    rw [World.size_alloc] at hk
    exact hk
  have hE := fun w h => pEncode_any i0 i1 i2 i3 i4 w h
  have hF := fun w h => pEncode_any j0 j1 j2 j3 j4 w h
  have hEq := fun w => ins_eq ⟨i0, i1, i2, i3, i4⟩ ⟨j0, j1, j2, j3, j4⟩ w
  have hap := fun h k => apart_eq (i := ⟨i0, i1, i2, i3, i4⟩) (j := ⟨j0, j1, j2, j3, j4⟩) h k
  unfold EncPost at hE hF
  generalize decide ((⟨i0, i1, i2, i3, i4⟩ : Ins) = ⟨j0, j1, j2, j3, j4⟩) = q at *
  generalize encW ⟨i0, i1, i2, i3, i4⟩ = X at *
  generalize encW ⟨j0, j1, j2, j3, j4⟩ = Y at *
  generalize mayB ⟨i0, i1, i2, i3, i4⟩ = p1 at *
  generalize mayB ⟨j0, j1, j2, j3, j4⟩ = p2 at *
  replace hEq : ∀ w, (Op.equalIn 10000 23 (.agg #[.int .i64 i0, .int .i64 i1, .int .i64 i2, .int .i64 i3, .int .i64 i4]) (.agg #[.int .i64 j0, .int .i64 j1, .int .i64 j2, .int .i64 j3, .int .i64 j4])).run Tryd.prog w = .ok q w := hEq
  obtain ⟨w0, hw0⟩ : ∃ w0, w0 = (W.alloc (.cells #[.int .i64 i0, .int .i64 i1, .int .i64 i2, .int .i64 i3, .int .i64 i4] 23)).alloc (.cells #[.int .i64 j0, .int .i64 j1, .int .i64 j2, .int .i64 j3, .int .i64 j4] 23) := ⟨_, rfl⟩
  rw [← hw0] at k0
  obtain ⟨a0, a1, a2, a3, a4, -⟩ := k0.cells5 (g := W.heap.size) (List.mem_cons_of_mem _ (List.mem_cons_self ..))
  replace hw0 := Lib.hid hw0
  replace hE := hE w0 (hT.below k0.bl)
  replace hT := Lib.hid hT
  replace k0 := Lib.hid k0
  have hund : undef = Value.tuple #[] := rfl
  cases p1
  all_goals
    simp only [Bool.false_eq_true, if_false, if_true] at hE
    replace hE := Lib.hid hE
    have hap1 := Lib.hid hap
    clear hap
    cases p2
    all_goals
      simp only [Bool.false_eq_true, if_false, if_true] at hF
      replace hF := Lib.hid hF
      first
      | (have hxy := hap1.out rfl rfl; clear hap1)
      | clear hap1
      go_enter Tryd.func7, Tryd.ntmps7
      go_wp2_with fail
      rw [← hw0.out]
      refine hE.out.mono ?_
      rintro e w1 ⟨rfl, h1⟩
      have k1 := k0.out.below h1
      clear a0 a1 a2 a3 a4
      obtain ⟨b0, b1, b2, b3, b4, -⟩ := k1.cells5 (List.mem_cons_self ..)
      have hF' := Lib.hid (hF.out w1 (hT.out.below k1.bl))
      replace k1 := Lib.hid k1
      clear h1 hE k0 hF
      go_wp2_with fail
      refine hF'.out.mono ?_
      rintro e w2 ⟨rfl, h2⟩
      clear b0 b1 b2 b3 b4
      have k2 := k1.out.below h2
      obtain ⟨b0, b1, b2, b3, b4, -⟩ := k2.cells5 (List.mem_cons_self ..)
      obtain ⟨a0, a1, a2, a3, a4, -⟩ := k2.cells5 (g := W.heap.size) (List.mem_cons_of_mem _ (List.mem_cons_self ..))
      have hWk := Lib.hid (iworks_any w2 (hT.out.below k2.bl))
      replace k2 := Lib.hid k2
      clear h2 hF' k1
      go_wp2_with fail
      refine hWk.out.mono ?_
      rintro e w3 ⟨rfl, h3⟩
      have k3 := Lib.hid (k2.out.below h3).bl
      clear h3 hWk
      go_wp2_with fail
      go_ret
      exact ⟨rfl, k3.out⟩

set_option maxRecDepth 100000 in
theorem lifted (os : Os) (started : os.Started) (H : Type) (enc : TypeId × Value → H) :
    ReturnsInHanded {} Tryd.checked os 7 .any (fun w args => (Rows.isaApartSpec.pre enc Tryd.prog Tryd.f7 [] false w args ∧ laidMetH Tryd.prog Rows.isaApartRow.laid w) ∧ sizedMet enc Tryd.prog Tryd.f7 (OpenSpec.ofChange Rows.isaApartSpec) false w args) (Rows.isaApartSpec.post enc Tryd.prog Tryd.f7 false true false false) := by
  refine returnsInHanded_of_change_and (C := Tryd.checked) (X := fun w _ => laidMetH Tryd.prog Rows.isaApartRow.laid w) (fun _ _ _ hh h => h.of_heap hh) own started (by kernel_rfl) Tryd.func7
    (ChangeSpec.witness_at (enc := enc) (C := Tryd.checked) (os := os) (X := fun w _ => laidMetH Tryd.prog Rows.isaApartRow.laid w) false (laidWorld os) #[.agg #[.int .i64 0, .int .i64 0, .int .i64 0, .int .i64 0, .int .i64 0], .agg #[.int .i64 0, .int .i64 0, .int .i64 0, .int .i64 0, .int .i64 0]] 8 rfl (by kernel_rfl) (by kernel_rfl) (by kernel_rfl) (by kernel_rfl) (by kernel_rfl) (laid_met os _)) ?_
  intro W base args ds gs before hval0 hW _ _ hL _
  have hval : ∀ (j : Nat) t v, Tryd.f7.params[j]? = some t → args[j]? = some v → Value.okWide Tryd.prog W .any base t v := hval0
  have hW' := hW
  obtain ⟨p, q, hA0, hV, rfl, hfz, hnd⟩ := hW
  have hA : DataW.TrodAll enc Tryd.prog W 0 (fun _ => true) true Tryd.f7.params.toList args.toList ds p := hA0
  rw [Tryd.params7] at hA hval
  obtain ⟨v0, vs0, d0, ds0, p0, q0, hargs, rfl, rfl, h0, r0⟩ := trodAll_cons hA
  obtain ⟨v1, vs1, d1, ds1, p1, q1, rfl, rfl, rfl, h1, r1⟩ := trodAll_cons r0
  obtain ⟨rfl, rfl, rfl⟩ := trodAll_nil r1
  obtain rfl : args = #[v0, v1] := by cases args; simp_all
  obtain ⟨rfl, rfl⟩ := trodVars_none hV
  have k0 := h0
  have lt0 : ∀ x ∈ p0, x.block < W.heap.size := by obtain ⟨m, hm⟩ := k0; exact DataW.trod_lt m _ _ _ hm
  have k1 := h1
  have lt1 : ∀ x ∈ p1, x.block < W.heap.size := by obtain ⟨m, hm⟩ := k1; exact DataW.trod_lt m _ _ _ hm
  obtain ⟨csi, rfl, hfi⟩ := open_flat (ks := [some .i64, some .i64, some .i64, some .i64, some .i64]) 6 (by kernel_rfl) (.inl ⟨_, Tryd.underlying23⟩) (hval 0 23 v0 rfl rfl) h0
  obtain ⟨_, _, rfl, ⟨i0, rfl, wi0⟩, _, _, rfl, ⟨i1, rfl, wi1⟩, _, _, rfl, ⟨i2, rfl, wi2⟩, _, _, rfl, ⟨i3, rfl, wi3⟩, _, _, rfl, ⟨i4, rfl, wi4⟩, rfl⟩ := hfi
  obtain ⟨csj, rfl, hfj⟩ := open_flat (ks := [some .i64, some .i64, some .i64, some .i64, some .i64]) 6 (by kernel_rfl) (.inl ⟨_, Tryd.underlying23⟩) (hval 1 23 v1 rfl rfl) h1
  obtain ⟨_, _, rfl, ⟨j0, rfl, wj0⟩, _, _, rfl, ⟨j1, rfl, wj1⟩, _, _, rfl, ⟨j2, rfl, wj2⟩, _, _, rfl, ⟨j3, rfl, wj3⟩, _, _, rfl, ⟨j4, rfl, wj4⟩, rfl⟩ := hfj
  clear hA0 hval0
  refine (walk i0 wi0 i1 wi1 i2 wi2 i3 wi3 i4 wi4 j0 wj0 j1 wj1 j2 wj2 j3 wj3 j4 wj4 W (tabs_of_laid hL)).mono fun e W' ⟨he, bel⟩ => ?_
  subst he
  exact ⟨_, rfl, _, _, _, [], _, [], hW', trodAll_mk1 (shut_bool Tryd.underlying4 _), (trodAll_cons_mk (Below.trod laidOut (by kernel_rfl) (of_decide_eq_true (by kernel_rfl)) k0 bel lt0) (trodAll_cons_mk (Below.trod laidOut (by kernel_rfl) (of_decide_eq_true (by kernel_rfl)) k1 bel lt1) trodAll_mk0)), rfl, bel.frame _, fun h => by cases h⟩
theorem over : Rows.IsaApartSaid :=
  OpenClaim.holds_of_wide 7 Tryd.f7 rfl rfl rfl rfl rfl rfl rfl ⟨rfl, rfl, rfl, rfl, rfl⟩ rfl rfl rfl rfl rfl (by kernel_rfl) Tryd.func7 (by kernel_rfl)
    (of_decide_eq_true (by kernel_rfl)) (by unfold Func.isWrapper; first | (rw [if_pos (by decide +kernel)]; kernel_rfl) | (rw [if_neg (by decide +kernel)]; exact ⟨rfl, rfl⟩))
    (fun os started H enc _ => lifted os started H enc)
/-- The given statement. -/
theorem proved : Rows.IsaApartCardSaid :=
  Claim7.holds_tied_plain_at .later [] [.data, .data] true (true, "450f401a4c4e925ae382747976bb556dbd206c48d08eb915d92392bd75249c1c") false
    over (fun _ h => by cases h) (by kernel_rfl) (fun _ h => by cases h) isaApart_row_tie rfl ⟨rfl, rfl⟩ (by kernel_rfl) rfl
    (fun f fn hf hfn => by
      obtain rfl : f = 7 := Option.some.inj ((show Tryd.prog.funcNamed "fallow/fallowlaw07.IsaApart" = some 7 by kernel_rfl).symm.trans hf) |>.symm
      obtain rfl : fn = Tryd.f7 := (Option.some.inj (Tryd.func7.symm.trans hfn)).symm
      exact ⟨by kernel_rfl, fun j t ht => by
        rw [Tryd.params7] at ht
        rcases j with _ | _ | j
        · obtain rfl : t = 23 := by simpa using ht.symm
          exact (show Tryd.prog.wantsStandIn 23 = false by kernel_rfl)
        · obtain rfl : t = 23 := by simpa using ht.symm
          exact (show Tryd.prog.wantsStandIn 23 = false by kernel_rfl)
        · simp at ht⟩)
    (by kernel_rfl)
end Go.Proofs.YtmgjnkejdofcjaaDoor.iapart
