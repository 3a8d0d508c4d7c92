/- Proved: one instruction does what the document says, to a frame and to memory, and so does Touch (the card of CoreDoes): for every input; the table of forms is tied to the program's text. -/
import Derived.Test.YtkmgdfcambdeeaaGreatDoorQCAll
import Derived.Test.YtkmgdfcambdeeaaGreatDoorTie
import Derived.Test.YtkmgdfcambdeeaaGreatDoorCards
import Derived.SevenTiedAt
import Derived.ProofKit
import Derived.OpenShut
import Derived.ShutString
import Derived.ChangeOld
namespace Go.Proofs.YtkmgdfcambdeeaaGreatDoor.cdoes
open Go.ChangeShapes Go.WideShapes Go.ChangeAt Go.RowKit
open Go.ChangeMaps (open_string shut_string)
set_option linter.unusedVariables false
set_option maxRecDepth 100000
set_option maxHeartbeats 16000000 in
theorem walkN (F : List Cp) (hF : Fit F) (op A B C m : Int) (Al : Option Addr) (len cap : Nat) (hlen : len ≤ 9223372036854775807) (hcap : len ≤ cap) (W : World) (hP : PutsIn W W.heap.size Al len) (hT : Tabs W) :
    Calls Tryz.prog 3 #[fV F, .agg #[.int .i64 op, .int .i64 A, .int .i64 B, .int .i64 C, .int .i64 m], .slice Al len cap] W fun e w' => e = .returned (.bool true) ∧ Below W.heap.size W w' := by
  have k0 := Lib.hid (start_fi F op A B C m W)
  have hM := Lib.hid (fun w h => mem_any Al len cap hlen hcap w h)
  replace hP := Lib.hid hP
  replace hT := Lib.hid hT
  have hFh := Lib.hid hF
  have lF := hF.len
  have hWk := Lib.hid works10_any
  clear hlen hcap hF
  unfold fV
  go_enter Tryz.func3, Tryz.ntmps3
  go_upto_region 1 with (fail)
  generalize ((W.alloc (.cells (fC F).toArray 28)).alloc _) = w1 at k0 ⊢
  go_wp2_with fail
  refine (hM.out w1 ((hP.out.below k0.out.bl).more k0.out.bl.size)).mono ?_
  rintro e w2 ⟨a, mb, wb, bb, c, r, rb, tb, f, l, rfl, hTwo, hb2, hn2⟩
  have B2 := Lib.hid (Bo.start hTwo hn2 hb2 k0.out (fun x hx => by simp at hx; rcases hx with rfl | rfl <;> simp))
  clear hTwo hb2 hn2 k0 hM hP
  have hTo := Lib.hid (fun (w : World) (H : ArAt w a mb wb bb c 4096 256 f l) (h : Tabs w) => pTouch_any H h F hFh.out op A B C m)
  have hRo := Lib.hid (fun (w : World) (H : RfAt w r rb tb 4096 256 f l) => rTouch_any H F hFh.out op A B C m)
  have hDo := Lib.hid (fun (w : World) (H : ArAt w a mb wb bb c 4096 256 f l) (h : Tabs w) => pDo_any H h F hFh.out ⟨op, A, B, C, m⟩)
  have hEo := Lib.hid (fun (w : World) (H : RfAt w r rb tb 4096 256 f l) => rDo_any H F hFh.out ⟨op, A, B, C, m⟩)
  have lG : (doF F ⟨op, A, B, C, m⟩ 4096 f l).length = 17 := (doF_fit hFh.out _ _ _ _).len
  unfold iv at hDo hEo
  generalize touP F ⟨op, A, B, C, m⟩ 4096 = P at *
  generalize touT F ⟨op, A, B, C, m⟩ 4096 = T at *
  generalize doT F ⟨op, A, B, C, m⟩ 4096 = t at *
  generalize doF F ⟨op, A, B, C, m⟩ 4096 f l = G at *
  generalize doG F ⟨op, A, B, C, m⟩ 4096 f = f2 at *
  generalize doL F ⟨op, A, B, C, m⟩ 4096 l = l2 at *
  have hB0 := Lib.hid (fun w => fr_eql G lG w)
  have hG0 := Lib.hid (fun x y w => fr_guard G G x y w)
  clear hFh
  have rg := B2.out.range (g := W.heap.size) (vs := fC F) (by simp)
  have i0 := B2.out.cell (g := W.heap.size + 1) (j := 0) (u := .int .i64 op) (ir op A B C m) (by simp) rfl
  have i1 := B2.out.cell (g := W.heap.size + 1) (j := 1) (u := .int .i64 A) (ir op A B C m) (by simp) rfl
  have i2 := B2.out.cell (g := W.heap.size + 1) (j := 2) (u := .int .i64 B) (ir op A B C m) (by simp) rfl
  have i3 := B2.out.cell (g := W.heap.size + 1) (j := 3) (u := .int .i64 C) (ir op A B C m) (by simp) rfl
  have i4 := B2.out.cell (g := W.heap.size + 1) (j := 4) (u := .int .i64 m) (ir op A B C m) (by simp) rfl
  go_wp2_with ((with_reducible show wpList _ _ _ _ _ _); refine wpList_load_mid rfl 28 _ rfl W.heap.size 0 rfl (fC F) _ rg Tryz.underlying28 rfl (size_fr lF) ?_)
  refine (hTo.out w2 B2.out.ar (hT.out.below B2.out.bl)).mono ?_
  rintro ee w3 ⟨rfl, g⟩
  have B3 := Lib.hid (B2.out.below g)
  clear g B2 rg i0 i1 i2 i3 i4 hTo
  have rg := B3.out.range (g := W.heap.size) (vs := fC F) (by simp)
  have i0 := B3.out.cell (g := W.heap.size + 1) (j := 0) (u := .int .i64 op) (ir op A B C m) (by simp) rfl
  have i1 := B3.out.cell (g := W.heap.size + 1) (j := 1) (u := .int .i64 A) (ir op A B C m) (by simp) rfl
  have i2 := B3.out.cell (g := W.heap.size + 1) (j := 2) (u := .int .i64 B) (ir op A B C m) (by simp) rfl
  have i3 := B3.out.cell (g := W.heap.size + 1) (j := 3) (u := .int .i64 C) (ir op A B C m) (by simp) rfl
  have i4 := B3.out.cell (g := W.heap.size + 1) (j := 4) (u := .int .i64 m) (ir op A B C m) (by simp) rfl
  go_wp2_with ((with_reducible show wpList _ _ _ _ _ _); refine wpList_load_mid rfl 28 _ rfl W.heap.size 0 rfl (fC F) _ rg Tryz.underlying28 rfl (size_fr lF) ?_)
  refine (hRo.out w3 B3.out.rf).mono ?_
  rintro ee w4 ⟨rfl, g⟩
  have B4 := Lib.hid (B3.out.below g)
  clear g B3 rg i0 i1 i2 i3 i4 hRo
  have rg := B4.out.range (g := W.heap.size) (vs := fC F) (by simp)
  have i0 := B4.out.cell (g := W.heap.size + 1) (j := 0) (u := .int .i64 op) (ir op A B C m) (by simp) rfl
  have i1 := B4.out.cell (g := W.heap.size + 1) (j := 1) (u := .int .i64 A) (ir op A B C m) (by simp) rfl
  have i2 := B4.out.cell (g := W.heap.size + 1) (j := 2) (u := .int .i64 B) (ir op A B C m) (by simp) rfl
  have i3 := B4.out.cell (g := W.heap.size + 1) (j := 3) (u := .int .i64 C) (ir op A B C m) (by simp) rfl
  have i4 := B4.out.cell (g := W.heap.size + 1) (j := 4) (u := .int .i64 m) (ir op A B C m) (by simp) rfl
  go_wp2_with ((with_reducible show wpList _ _ _ _ _ _); refine wpList_load_mid rfl 28 _ rfl W.heap.size 0 rfl (fC F) _ rg Tryz.underlying28 rfl (size_fr lF) ?_)
  refine (hDo.out w4 B4.out.ar (hT.out.below B4.out.bl)).mono ?_
  rintro ee w5 ⟨rfl, g⟩
  have B5 := Lib.hid (B4.out.nxt g)
  clear g B4 rg i0 i1 i2 i3 i4 hDo
  have P4 := B5.out.push (fC zF) 28
  have th : (w5.alloc (.cells Tryz.zeroCells28 28)).there w5.heap.size 0 (fC G).toArray.size := by
    rw [show (fC G).toArray.size = 136 from by rw [List.size_toArray, fC_len, lG], zero_fr]
    exact at_there (P4.rs _ (List.mem_cons_self ..)) 136 (by rw [fC_len]; decide)
  have B6 := Lib.hid (P4.putA (fun x hx => Nat.ne_of_lt (B5.out.lt hx)) (fC G) (by rw [fC_len, fC_len, lG]; rfl))
  rw [← zero_fr] at B6
  have sa := size_fa lG
  have oa := one_fr G
  clear P4 B5
  go_wp2_with ((with_reducible show wpList _ _ _ _ _ _); first | (refine wpList_store_mid rfl 28 _ _ rfl w5.heap.size 0 (fC G).toArray rfl rfl th sa oa ?_; clear th sa oa; change wpList _ _ _ _ _ ((w5.alloc (.cells Tryz.zeroCells28 28)).setCells w5.heap.size 0 (fC G)); generalize (w5.alloc (.cells Tryz.zeroCells28 28)).setCells w5.heap.size 0 (fC G) = w6 at B6 ⊢; generalize w5.heap.size = qg at B6 ⊢; have rg := B6.out.range (g := W.heap.size) (vs := fC F) (by simp); have i0 := B6.out.cell (g := W.heap.size + 1) (j := 0) (u := .int .i64 op) (ir op A B C m) (by simp) rfl; have i1 := B6.out.cell (g := W.heap.size + 1) (j := 1) (u := .int .i64 A) (ir op A B C m) (by simp) rfl; have i2 := B6.out.cell (g := W.heap.size + 1) (j := 2) (u := .int .i64 B) (ir op A B C m) (by simp) rfl; have i3 := B6.out.cell (g := W.heap.size + 1) (j := 3) (u := .int .i64 C) (ir op A B C m) (by simp) rfl; have i4 := B6.out.cell (g := W.heap.size + 1) (j := 4) (u := .int .i64 m) (ir op A B C m) (by simp) rfl) | (refine wpList_load_mid rfl 28 _ rfl W.heap.size 0 rfl (fC F) _ rg Tryz.underlying28 rfl (size_fr lF) ?_))
  refine (hEo.out w6 B6.out.rf).mono ?_
  rintro ee w7 ⟨rfl, g⟩
  have B7 := Lib.hid (B6.out.rxt g)
  clear g B6 rg i0 i1 i2 i3 i4 hEo
  have P4 := B7.out.push (fC zF) 28
  have th : (w7.alloc (.cells Tryz.zeroCells28 28)).there w7.heap.size 0 (fC G).toArray.size := by
    rw [show (fC G).toArray.size = 136 from by rw [List.size_toArray, fC_len, lG], zero_fr]
    exact at_there (P4.rs _ (List.mem_cons_self ..)) 136 (by rw [fC_len]; decide)
  have B8 := Lib.hid (P4.putA (fun x hx => Nat.ne_of_lt (B7.out.lt hx)) (fC G) (by rw [fC_len, fC_len, lG]; rfl))
  rw [← zero_fr] at B8
  have sa := size_fa lG
  have oa := one_fr G
  clear P4 B7
  go_wp2_with ((with_reducible show wpList _ _ _ _ _ _); (refine wpList_store_mid rfl 28 _ _ rfl w7.heap.size 0 (fC G).toArray rfl rfl th sa oa ?_; clear th sa oa; change wpList _ _ _ _ _ ((w7.alloc (.cells Tryz.zeroCells28 28)).setCells w7.heap.size 0 (fC G)); generalize (w7.alloc (.cells Tryz.zeroCells28 28)).setCells w7.heap.size 0 (fC G) = w8 at B8 ⊢; generalize w7.heap.size = qh at B8 ⊢; have rg := B8.out.range (g := qg) (vs := fC G) (by simp); have rh := B8.out.range (g := qh) (vs := fC G) (by simp); have hS := Lib.hid (same10_any B8.out.ar B8.out.rf (by decide))))
  refine wp_load_mid 28 _ rfl qg 0 rfl (fC G) _ rg Tryz.underlying28 rfl (size_fr lG) ?_
  go_wp2_with fail
  refine wp_load_mid 28 _ rfl qh 0 rfl (fC G) _ rh Tryz.underlying28 rfl (size_fr lG) ?_
  clear rg rh
  have hB1 := hB0.out
  have hG1 := hG0.out
  clear hB0 hG0
  generalize Value.agg (fC G).toArray = vG at hB1 hG1 ⊢
  go_wp2_with fail
  refine hS.out.mono ?_
  rintro ee w9 ⟨rfl, g⟩
  have B9 := Lib.hid (B8.out.bl.trans (g.mono B8.out.bl.size))
  clear g B8 hS
  go_wp2_with fail
  refine (hWk.out w9 (hT.out.below B9.out)).mono ?_
  rintro ee wA ⟨rfl, g⟩
  have BA := Lib.hid (B9.out.trans (g.mono B9.out.size))
  clear g B9
  go_wp2_with fail
  go_ret
  exact ⟨rfl, BA.out⟩
theorem walk {H : Type} {enc : TypeId × Value → H} (f : List Cp) (wf : Fit f) (i0 : Int) (wi0 : (Lit.int .i64 i0).wf = true) (i1 : Int) (wi1 : (Lit.int .i64 i1).wf = true) (i2 : Int) (wi2 : (Lit.int .i64 i2).wf = true) (i3 : Int) (wi3 : (Lit.int .i64 i3).wf = true) (i4 : Int) (wi4 : (Lit.int .i64 i4).wf = true) (v2 : Value) {d0 : DataW H} {p0 : List MemPlace} (W : World)
    (hv : Value.okWide Tryz.prog W .any 0 31 v2) (hd : DataW.Trod enc Tryz.prog W 0 (fun _ => true) true 31 v2 d0 p0) (hT : Tabs W) :
    Calls Tryz.prog 3 #[.agg (fC f).toArray, .agg #[.int .i64 i0, .int .i64 i1, .int .i64 i2, .int .i64 i3, .int .i64 i4], v2] W fun e w' => e = .returned (.bool true) ∧ Below W.heap.size W w' := by
  obtain ⟨A, len, cap, rfl, hcap, hm, hP⟩ := puts_of hv hd
  have hlen : len ≤ 9223372036854775807 := by unfold maxLen at hm; omega
  exact walkN f wf i0 i1 i2 i3 i4 A len cap hlen hcap W hP hT
set_option maxRecDepth 100000 in
theorem lifted (os : Os) (started : os.Started) (H : Type) (enc : TypeId × Value → H) :
    ReturnsInHanded {} Tryz.checked os 3 .any (fun w args => (Rows.coreDoesSpec.pre enc Tryz.prog Tryz.f3 [] false w args ∧ laidMetH Tryz.prog Rows.coreDoesRow.laid w) ∧ sizedMet enc Tryz.prog Tryz.f3 (OpenSpec.ofChange Rows.coreDoesSpec) false w args) (Rows.coreDoesSpec.post enc Tryz.prog Tryz.f3 false true false false) := by
  refine returnsInHanded_of_change_and (C := Tryz.checked) (X := fun w _ => laidMetH Tryz.prog Rows.coreDoesRow.laid w) (fun _ _ _ hh h => h.of_heap hh) own started (by kernel_rfl) Tryz.func3
    (ChangeSpec.witness_at (enc := enc) (C := Tryz.checked) (os := os) (X := fun w _ => laidMetH Tryz.prog Rows.coreDoesRow.laid w) false (laidWorld os) #[fV zF, .agg #[.int .i64 0, .int .i64 0, .int .i64 0, .int .i64 0, .int .i64 0], .slice none 0 0] 8 rfl (by kernel_rfl) (by kernel_rfl) (by kernel_rfl) (by kernel_rfl) (by kernel_rfl) (laid_met os _)) ?_
  intro W base args ds gs before hval0 hW _ _ hL _
  have hval : ∀ (j : Nat) t v, Tryz.f3.params[j]? = some t → args[j]? = some v → Value.okWide Tryz.prog W .any base t v := hval0
  have hW' := hW
  obtain ⟨p, q, hA0, hV, rfl, hfz, hnd⟩ := hW
  have hA : DataW.TrodAll enc Tryz.prog W 0 (fun _ => true) true Tryz.f3.params.toList args.toList ds p := hA0
  rw [Tryz.params3] at hA hval
  obtain ⟨v0, vs0, d0, ds0, p0, q0, hargs, rfl, rfl, h0, r0⟩ := trodAll_cons hA
  obtain ⟨v1, vs1, d1, ds1, p1, q1, rfl, rfl, rfl, h1, r1⟩ := trodAll_cons r0
  obtain ⟨v2, vs2, d2, ds2, p2, q2, rfl, rfl, rfl, h2, r2⟩ := trodAll_cons r1
  obtain ⟨rfl, rfl, rfl⟩ := trodAll_nil r2
  obtain rfl : args = #[v0, v1, v2] := by cases args; simp_all
  obtain ⟨rfl, rfl⟩ := trodVars_none hV
  have k0 := h0
  have lt0 : ∀ x ∈ p0, x.block < W.heap.size := by obtain ⟨m, hm⟩ := k0; exact DataW.trod_lt m _ _ _ hm
  have k1 := h1
  have lt1 : ∀ x ∈ p1, x.block < W.heap.size := by obtain ⟨m, hm⟩ := k1; exact DataW.trod_lt m _ _ _ hm
  have k2 := h2
  have lt2 : ∀ x ∈ p2, x.block < W.heap.size := by obtain ⟨m, hm⟩ := k2; exact DataW.trod_lt m _ _ _ hm
  obtain ⟨csf, rfl, hff⟩ := open_flat (ks := frK) 6 (by kernel_rfl) (.inl ⟨_, Tryz.underlying28⟩) (hval 0 28 v0 rfl rfl) h0
  obtain ⟨f, wf, rfl⟩ := frame_of hff
  obtain ⟨csi, rfl, hfi⟩ := open_flat (ks := [some .i64, some .i64, some .i64, some .i64, some .i64]) 6 (by kernel_rfl) (.inl ⟨_, Tryz.underlying30⟩) (hval 1 30 v1 rfl rfl) h1
  obtain ⟨_, _, rfl, ⟨i0, rfl, wi0⟩, _, _, rfl, ⟨i1, rfl, wi1⟩, _, _, rfl, ⟨i2, rfl, wi2⟩, _, _, rfl, ⟨i3, rfl, wi3⟩, _, _, rfl, ⟨i4, rfl, wi4⟩, rfl⟩ := hfi
  clear hA0 hval0
  refine (walk f wf i0 wi0 i1 wi1 i2 wi2 i3 wi3 i4 wi4 v2 W (hval 2 31 v2 rfl rfl) k2 (tabs_of_laid hL)).mono fun e W' ⟨he, bel⟩ => ?_
  subst he
  exact ⟨_, rfl, _, _, _, [], _, [], hW', trodAll_mk1 (shut_bool Tryz.underlying4 _), (trodAll_cons_mk (Below.trod laidOut (by kernel_rfl) (of_decide_eq_true (by kernel_rfl)) k0 bel lt0) (trodAll_cons_mk (Below.trod laidOut (by kernel_rfl) (of_decide_eq_true (by kernel_rfl)) k1 bel lt1) (trodAll_cons_mk (Below.trod laidOut (by kernel_rfl) (of_decide_eq_true (by kernel_rfl)) k2 bel lt2) trodAll_mk0))), rfl, bel.frame _, fun h => by cases h⟩
theorem over : Rows.CoreDoesSaid :=
  OpenClaim.holds_of_wide 3 Tryz.f3 rfl rfl rfl rfl rfl rfl rfl ⟨rfl, rfl, rfl, rfl, rfl⟩ rfl rfl rfl rfl rfl (by kernel_rfl) Tryz.func3 (by kernel_rfl)
    (of_decide_eq_true (by kernel_rfl)) (by unfold Func.isWrapper; first | (rw [if_pos (by decide +kernel)]; kernel_rfl) | (rw [if_neg (by decide +kernel)]; exact ⟨rfl, rfl⟩))
    (fun os started H enc _ => lifted os started H enc)
/-- The given statement. -/
theorem proved : Rows.CoreDoesCardSaid :=
  Claim7.holds_tied_plain_at .later [] [.data] true (true, "a811f8ea155858ad6287c3ef8a487e61324b84dc1f446f16a7919a50e5900a6a") false
    over (fun _ h => by cases h) (by kernel_rfl) (fun _ h => by cases h) coreDoes_row_tie rfl ⟨rfl, rfl⟩ (by kernel_rfl) rfl
    (fun f fn hf hfn => by
      obtain rfl : f = 3 := Option.some.inj ((show Tryz.prog.funcNamed "fallow/fallowlaw10.CoreDoes" = some 3 by kernel_rfl).symm.trans hf) |>.symm
      obtain rfl : fn = Tryz.f3 := (Option.some.inj (Tryz.func3.symm.trans hfn)).symm
      exact ⟨by kernel_rfl, fun j t ht => by
        rw [Tryz.params3] at ht
        rcases j with _ | _ | _ | j
        · obtain rfl : t = 28 := by simpa using ht.symm
          exact (show Tryz.prog.wantsStandIn 28 = false by kernel_rfl)
        · obtain rfl : t = 30 := by simpa using ht.symm
          exact (show Tryz.prog.wantsStandIn 30 = false by kernel_rfl)
        · obtain rfl : t = 31 := by simpa using ht.symm
          exact (show Tryz.prog.wantsStandIn 31 = false by kernel_rfl)
        · simp at ht⟩)
    (by kernel_rfl)
end Go.Proofs.YtkmgdfcambdeeaaGreatDoor.cdoes
