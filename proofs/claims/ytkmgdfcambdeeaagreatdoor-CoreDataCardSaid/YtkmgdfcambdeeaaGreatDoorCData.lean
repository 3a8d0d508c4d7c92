/- Proved: a tag is set by the store of a valid capability alone; what traps changes nothing (the card of CoreData): for every input; the table of forms is tied to the program's text. -/
import Derived.Test.YtkmgdfcambdeeaaGreatDoorCbT
import Derived.Test.YtkmgdfcambdeeaaGreatDoorCbO
import Derived.Test.YtkmgdfcambdeeaaGreatDoorTie
import Derived.Test.YtkmgdfcambdeeaaGreatDoorCards
import Derived.SevenTiedAt
import Derived.ProofKit
import Derived.OpenShut
import Derived.ShutString
import Derived.ChangeOld
namespace Go.Proofs.YtkmgdfcambdeeaaGreatDoor.cdata
open Go.ChangeShapes Go.WideShapes Go.ChangeAt Go.RowKit
open Go.ChangeMaps (open_string shut_string)
set_option linter.unusedVariables false
set_option maxRecDepth 100000
set_option maxHeartbeats 16000000 in
theorem walkN (F : List Cp) (hF : Fit F) (op A B C m : Int) (Al : Option Addr) (len cap : Nat) (hlen : len ≤ 9223372036854775807) (hcap : len ≤ cap) (W : World) (hP : PutsIn W W.heap.size Al len) (hT : Tabs W) :
    Calls Tryz.prog 6 #[fV F, .agg #[.int .i64 op, .int .i64 A, .int .i64 B, .int .i64 C, .int .i64 m], .slice Al len cap] W fun e w' => e = .returned (.bool true) ∧ Below W.heap.size W w' := by
  have k0 := Lib.hid (start_fi F op A B C m W)
  have hM := Lib.hid (fun w h => mem_any Al len cap hlen hcap w h)
  replace hP := Lib.hid hP
  replace hT := Lib.hid hT
  have hFh := Lib.hid hF
  have lF := hF.len
  have hWk := Lib.hid works10_any
  clear hlen hcap hF
  unfold fV
  go_enter Tryz.func6, Tryz.ntmps6
  go_upto_region 1 with (fail)
  generalize ((W.alloc (.cells (fC F).toArray 28)).alloc _) = w1 at k0 ⊢
  go_wp2_with fail
  refine (hM.out w1 ((hP.out.below k0.out.bl).more k0.out.bl.size)).mono ?_
  rintro e w2 ⟨a, mb, wb, bb, c, r, rb, tb, f, l, rfl, hTwo, hb2, hn2⟩
  have B2 := Lib.hid (Bo.start hTwo hn2 hb2 k0.out (fun x hx => by simp at hx; rcases hx with rfl | rfl <;> simp))
  clear hTwo hb2 hn2 k0 hM hP
  have hDo := Lib.hid (fun (w : World) (H : ArAt w a mb wb bb c 4096 256 f l) (h : Tabs w) => pDo_any H h F hFh.out ⟨op, A, B, C, m⟩)
  have lG : (doF F ⟨op, A, B, C, m⟩ 4096 f l).length = 17 := (doF_fit hFh.out _ _ _ _).len
  have z1 := Lib.hid (show doT F ⟨op, A, B, C, m⟩ 4096 ≠ 0 → doF F ⟨op, A, B, C, m⟩ 4096 f l = zF ∧ doG F ⟨op, A, B, C, m⟩ 4096 f = f ∧ doL F ⟨op, A, B, C, m⟩ 4096 l = l from fun k => ⟨if_pos k, if_neg (fun q => k q.1), if_neg (fun q => k q.1)⟩)
  have z2 := Lib.hid (show isS op = false → doG F ⟨op, A, B, C, m⟩ 4096 f = f ∧ doL F ⟨op, A, B, C, m⟩ 4096 l = l from fun k => ⟨if_neg (fun q => by have := q.2; rw [show isS (Ins.op ⟨op, A, B, C, m⟩) = false from k] at this; cases this), if_neg (fun q => by have := q.2; rw [show isS (Ins.op ⟨op, A, B, C, m⟩) = false from k] at this; cases this)⟩)
  have z3 := Lib.hid (show op ≠ 24 ∨ (reg F A.toNat).va = false → tgN (doG F ⟨op, A, B, C, m⟩ 4096 f) 16 ≤ tgN f 16 from fun k => tgN_mono (i := ⟨op, A, B, C, m⟩) k)
  have z4 := Lib.hid (tgN_succ F ⟨op, A, B, C, m⟩ 4096 f)
  have z5 := Lib.hid (show doT F ⟨op, A, B, C, m⟩ 4096 = 0 → 0 ≤ A ∧ A ≤ 15 from fun k => (may_flds (doT_may k).1).2.1)
  unfold iv at hDo
  generalize doT F ⟨op, A, B, C, m⟩ 4096 = t at *
  generalize doF F ⟨op, A, B, C, m⟩ 4096 f l = G at *
  generalize doG F ⟨op, A, B, C, m⟩ 4096 f = f2 at *
  generalize doL F ⟨op, A, B, C, m⟩ 4096 l = l2 at *
  have hB0 := Lib.hid (fun w => fr_eql zF rfl w)
  have hG0 := Lib.hid (fun x y w => fr_guard zF zF x y w)
  have nle := tgN_le f 16
  have nle2 := tgN_le f2 16
  go_wp2_with fail
  refine (hWk.out w2 (hT.out.below B2.out.bl)).mono ?_
  rintro ee w3 ⟨rfl, g⟩
  have B3 := Lib.hid (B2.out.below g)
  clear g B2 hWk
  go_wp2_with fail
  refine (tagged_any B3.out.ar).mono ?_
  rintro ee w4 ⟨rfl, g⟩
  have B4 := Lib.hid (B3.out.below g)
  clear g B3
  go_wp2_with fail
  refine (asize_any B4.out.ar).mono ?_
  rintro ee w5a ⟨rfl, g⟩
  have B5a := Lib.hid (B4.out.below g)
  clear g B4
  have hr := aread_yes B5a.out.ar 0 4096 (by decide) (by decide)
  rw [show (l.drop 0).take 4096 = l from by rw [List.drop_zero, List.take_of_length_le (by rw [B5a.out.ar.len]; exact Nat.le_refl _)]] at hr
  replace hr := Lib.hid hr
  go_wp2_with fail
  refine hr.out.mono ?_
  rintro ee w5 ⟨rfl, g⟩
  have B5 := Lib.hid (B5a.out.below g)
  clear g B5a hr
  have rg := B5.out.range (g := W.heap.size) (vs := fC F) (by simp)
  have i0 := B5.out.cell (g := W.heap.size + 1) (j := 0) (u := .int .i64 op) (ir op A B C m) (by simp) rfl
  have i1 := B5.out.cell (g := W.heap.size + 1) (j := 1) (u := .int .i64 A) (ir op A B C m) (by simp) rfl
  have i2 := B5.out.cell (g := W.heap.size + 1) (j := 2) (u := .int .i64 B) (ir op A B C m) (by simp) rfl
  have i3 := B5.out.cell (g := W.heap.size + 1) (j := 3) (u := .int .i64 C) (ir op A B C m) (by simp) rfl
  have i4 := B5.out.cell (g := W.heap.size + 1) (j := 4) (u := .int .i64 m) (ir op A B C m) (by simp) rfl
  go_wp2_with ((with_reducible show wpList _ _ _ _ _ _); refine wpList_load_mid rfl 28 _ rfl W.heap.size 0 rfl (fC F) _ rg Tryz.underlying28 rfl (size_fr lF) ?_)
  refine (hDo.out w5 B5.out.ar (hT.out.below B5.out.bl)).mono ?_
  rintro ee w6 ⟨rfl, g⟩
  have B6 := Lib.hid (B5.out.nxt g)
  clear g B5 rg i0 i1 i2 i3 i4 hDo
  have P4 := B6.out.push (fC zF) 28
  have th : (w6.alloc (.cells Tryz.zeroCells28 28)).there w6.heap.size 0 (fC G).toArray.size := by
    rw [show (fC G).toArray.size = 136 from by rw [List.size_toArray, fC_len, lG], zero_fr]
    exact at_there (P4.rs _ (List.mem_cons_self ..)) 136 (by rw [fC_len]; decide)
  have B7 := Lib.hid (P4.putA (fun x hx => Nat.ne_of_lt (B6.out.lt hx)) (fC G) (by rw [fC_len, fC_len, lG]; rfl))
  rw [← zero_fr] at B7
  have sa := size_fa lG
  have oa := one_fr G
  clear P4 B6
  go_wp2_with ((with_reducible show wpList _ _ _ _ _ _); refine wpList_store_mid rfl 28 _ _ rfl w6.heap.size 0 (fC G).toArray rfl rfl th sa oa ?_; clear th sa oa; change wpList _ _ _ _ _ ((w6.alloc (.cells Tryz.zeroCells28 28)).setCells w6.heap.size 0 (fC G)); generalize (w6.alloc (.cells Tryz.zeroCells28 28)).setCells w6.heap.size 0 (fC G) = w7 at B7 ⊢; generalize w6.heap.size = qg at B7 ⊢)
  refine (asize_any B7.out.ar).mono ?_
  rintro ee w8a ⟨rfl, g⟩
  have B8a := Lib.hid (B7.out.below g)
  clear g B7
  have hs := aread_yes B8a.out.ar 0 4096 (by decide) (by decide)
  rw [show (l2.drop 0).take 4096 = l2 from by rw [List.drop_zero, List.take_of_length_le (by rw [B8a.out.ar.len]; exact Nat.le_refl _)]] at hs
  replace hs := Lib.hid hs
  go_wp2_with fail
  refine hs.out.mono ?_
  rintro ee w8 ⟨rfl, g⟩
  have B8 := Lib.hid (B8a.out.below g)
  clear g B8a hs
  have i0 := B8.out.cell (g := W.heap.size + 1) (j := 0) (u := .int .i64 op) (ir op A B C m) (by simp) rfl
  have i1 := B8.out.cell (g := W.heap.size + 1) (j := 1) (u := .int .i64 A) (ir op A B C m) (by simp) rfl
  have rg := B8.out.range (g := qg) (vs := fC G) (by simp)
  have h4 : (op < 20) ∨ (20 ≤ op ∧ op ≤ 22) ∨ (22 < op ∧ op ≠ 24) ∨ op = 24 := by omega
  by_cases ht : t = 0
  · subst ht
    clear z1 hB0 hG0 rg
    rcases h4 with k | k | k | rfl
    · have j1 : ¬ (20 ≤ op) := by omega
      have j2 : (op == 24) = false := by simp; omega
      have j3 : decide (20 ≤ op) = false := decide_eq_false (by omega)
      obtain ⟨rfl, rfl⟩ := z2.out (decide_eq_false (by omega))
      clear z2 z3 z4 z5 k
      go_wp2_with fail
      refine (tagged_any B8.out.ar).mono ?_
      rintro ee w9 ⟨rfl, g⟩
      have B9 := Lib.hid (B8.out.below g)
      clear g
      go_wp2_with fail
      go_ret
      exact ⟨rfl, B9.out.bl⟩
    · have j1 : 20 ≤ op := k.1
      have j2 : op ≤ 22 := k.2
      have j4 : (op != 24) = true := by simp; omega
      have hle := z3.out (.inl (by omega))
      have hle2 : ((tgN f2 16 : Nat) : Int) ≤ ((tgN f 16 : Nat) : Int) := by omega
      clear z2 z3 z4 z5 k hle
      go_wp2_with fail
      refine (tagged_any B8.out.ar).mono ?_
      rintro ee w9 ⟨rfl, g⟩
      have B9 := Lib.hid (B8.out.below g)
      clear g
      go_wp2_with fail
      go_ret
      exact ⟨rfl, B9.out.bl⟩
    · have j1 : 20 ≤ op := by omega
      have j2 : ¬ (op ≤ 22) := by omega
      have j3 : (op == 24) = false := by simp; omega
      have j4 : decide (op ≤ 22) = false := decide_eq_false (by omega)
      obtain ⟨rfl, rfl⟩ := z2.out (decide_eq_false (by omega))
      clear z2 z3 z4 z5 k
      go_wp2_with fail
      refine (tagged_any B8.out.ar).mono ?_
      rintro ee w9 ⟨rfl, g⟩
      have B9 := Lib.hid (B8.out.below g)
      clear g
      go_wp2_with fail
      go_ret
      exact ⟨rfl, B9.out.bl⟩
    · obtain ⟨a0, a15⟩ := z5.out rfl
      obtain ⟨An, rfl⟩ := Int.eq_ofNat_of_zero_le a0
      have hAn : An < 16 := by omega
      obtain ⟨c0, c1, c2, c3, c4, c5, c6, c7⟩ := B8.out.kr.reg (g := W.heap.size) (F := F) (by simp) (reg_get (F := F) (i := An) (by rw [lF]; omega))
      clear c0 c1 c2 c3 c4 c5 c6
      rw [Int.toNat_natCast] at z3
      obtain ⟨va, hva⟩ : ∃ va, va = (reg F An).va := ⟨_, rfl⟩
      rw [← hva] at c7 z3
      clear hva
      cases va
      · have hle := z3.out (.inr rfl)
        have hle2 : ((tgN f2 16 : Nat) : Int) ≤ ((tgN f 16 : Nat) : Int) := by omega
        clear z2 z3 z4 z5 hle
        go_wp2_with fail
        refine (tagged_any B8.out.ar).mono ?_
        rintro ee w9 ⟨rfl, g⟩
        have B9 := Lib.hid (B8.out.below g)
        clear g
        go_wp2_with fail
        go_ret
        exact ⟨rfl, B9.out.bl⟩
      · have hle := z4.out
        have hle2 : ((tgN f2 16 : Nat) : Int) ≤ ((tgN f 16 : Nat) : Int) + 1 := by omega
        clear z2 z3 z4 z5 hle
        go_wp2_with fail
        refine (tagged_any B8.out.ar).mono ?_
        rintro ee w9 ⟨rfl, g⟩
        have B9 := Lib.hid (B8.out.below g)
        clear g
        go_wp2_with fail
        go_ret
        exact ⟨rfl, B9.out.bl⟩
  · obtain ⟨rfl, rfl, rfl⟩ := z1.out ht
    have t1 : (t != 0) = true := by simp; omega
    have t2 : (t == 0) = false := by simp; omega
    clear z1 z2 z3 z4 z5 ht
    rcases h4 with k | k | k | rfl
    · have j1 : ¬ (20 ≤ op) := by omega
      have j2 : (op == 24) = false := by simp; omega
      have j3 : decide (20 ≤ op) = false := decide_eq_false (by omega)
      go_wp2_with fail
      refine (tagged_any B8.out.ar).mono ?_
      rintro ee w9 ⟨rfl, g⟩
      have B9 := Lib.hid (B8.out.below g)
      clear g
      replace rg := B9.out.range (g := qg) (vs := fC zF) (by simp)
      go_wp2_with fail
      refine wp_load_mid 28 _ rfl qg 0 rfl (fC zF) _ rg Tryz.underlying28 rfl (size_fr rfl) ?_
      clear rg
      have hB1 : ∀ w, (binOp .eql 28 (.agg (fC zF).toArray) (.agg Tryz.zeroCells28)).run Tryz.prog w = .ok (.bool true) w := fun w => by rw [zero_fr]; exact hB0.out w
      have hG1 : ∀ (x y : Operand) w, (eqGuard .eql 28 x y (.agg (fC zF).toArray) (.agg Tryz.zeroCells28)).run Tryz.prog w = .ok () w := fun x y w => by rw [zero_fr]; exact hG0.out x y w
      clear hB0 hG0
      generalize Value.agg (fC zF).toArray = vG at hB1 hG1 ⊢
      go_wp2_with fail
      go_ret
      exact ⟨rfl, B9.out.bl⟩
    · have j1 : 20 ≤ op := k.1
      have j2 : op ≤ 22 := k.2
      have j4 : (op != 24) = true := by simp; omega
      go_wp2_with fail
      refine (tagged_any B8.out.ar).mono ?_
      rintro ee w9 ⟨rfl, g⟩
      have B9 := Lib.hid (B8.out.below g)
      clear g
      replace rg := B9.out.range (g := qg) (vs := fC zF) (by simp)
      go_wp2_with fail
      refine wp_load_mid 28 _ rfl qg 0 rfl (fC zF) _ rg Tryz.underlying28 rfl (size_fr rfl) ?_
      clear rg
      have hB1 : ∀ w, (binOp .eql 28 (.agg (fC zF).toArray) (.agg Tryz.zeroCells28)).run Tryz.prog w = .ok (.bool true) w := fun w => by rw [zero_fr]; exact hB0.out w
      have hG1 : ∀ (x y : Operand) w, (eqGuard .eql 28 x y (.agg (fC zF).toArray) (.agg Tryz.zeroCells28)).run Tryz.prog w = .ok () w := fun x y w => by rw [zero_fr]; exact hG0.out x y w
      clear hB0 hG0
      generalize Value.agg (fC zF).toArray = vG at hB1 hG1 ⊢
      go_wp2_with fail
      go_ret
      exact ⟨rfl, B9.out.bl⟩
    · have j1 : 20 ≤ op := by omega
      have j2 : ¬ (op ≤ 22) := by omega
      have j3 : (op == 24) = false := by simp; omega
      have j4 : decide (op ≤ 22) = false := decide_eq_false (by omega)
      go_wp2_with fail
      refine (tagged_any B8.out.ar).mono ?_
      rintro ee w9 ⟨rfl, g⟩
      have B9 := Lib.hid (B8.out.below g)
      clear g
      replace rg := B9.out.range (g := qg) (vs := fC zF) (by simp)
      go_wp2_with fail
      refine wp_load_mid 28 _ rfl qg 0 rfl (fC zF) _ rg Tryz.underlying28 rfl (size_fr rfl) ?_
      clear rg
      have hB1 : ∀ w, (binOp .eql 28 (.agg (fC zF).toArray) (.agg Tryz.zeroCells28)).run Tryz.prog w = .ok (.bool true) w := fun w => by rw [zero_fr]; exact hB0.out w
      have hG1 : ∀ (x y : Operand) w, (eqGuard .eql 28 x y (.agg (fC zF).toArray) (.agg Tryz.zeroCells28)).run Tryz.prog w = .ok () w := fun x y w => by rw [zero_fr]; exact hG0.out x y w
      clear hB0 hG0
      generalize Value.agg (fC zF).toArray = vG at hB1 hG1 ⊢
      go_wp2_with fail
      go_ret
      exact ⟨rfl, B9.out.bl⟩
    · go_wp2_with fail
      refine (tagged_any B8.out.ar).mono ?_
      rintro ee w9 ⟨rfl, g⟩
      have B9 := Lib.hid (B8.out.below g)
      clear g
      replace rg := B9.out.range (g := qg) (vs := fC zF) (by simp)
      go_wp2_with fail
      refine wp_load_mid 28 _ rfl qg 0 rfl (fC zF) _ rg Tryz.underlying28 rfl (size_fr rfl) ?_
      clear rg
      have hB1 : ∀ w, (binOp .eql 28 (.agg (fC zF).toArray) (.agg Tryz.zeroCells28)).run Tryz.prog w = .ok (.bool true) w := fun w => by rw [zero_fr]; exact hB0.out w
      have hG1 : ∀ (x y : Operand) w, (eqGuard .eql 28 x y (.agg (fC zF).toArray) (.agg Tryz.zeroCells28)).run Tryz.prog w = .ok () w := fun x y w => by rw [zero_fr]; exact hG0.out x y w
      clear hB0 hG0
      generalize Value.agg (fC zF).toArray = vG at hB1 hG1 ⊢
      go_wp2_with fail
      go_ret
      exact ⟨rfl, B9.out.bl⟩
theorem walk {H : Type} {enc : TypeId × Value → H} (f : List Cp) (wf : Fit f) (i0 : Int) (wi0 : (Lit.int .i64 i0).wf = true) (i1 : Int) (wi1 : (Lit.int .i64 i1).wf = true) (i2 : Int) (wi2 : (Lit.int .i64 i2).wf = true) (i3 : Int) (wi3 : (Lit.int .i64 i3).wf = true) (i4 : Int) (wi4 : (Lit.int .i64 i4).wf = true) (v2 : Value) {d0 : DataW H} {p0 : List MemPlace} (W : World)
    (hv : Value.okWide Tryz.prog W .any 0 31 v2) (hd : DataW.Trod enc Tryz.prog W 0 (fun _ => true) true 31 v2 d0 p0) (hT : Tabs W) :
    Calls Tryz.prog 6 #[.agg (fC f).toArray, .agg #[.int .i64 i0, .int .i64 i1, .int .i64 i2, .int .i64 i3, .int .i64 i4], v2] W fun e w' => e = .returned (.bool true) ∧ Below W.heap.size W w' := by
  obtain ⟨A, len, cap, rfl, hcap, hm, hP⟩ := puts_of hv hd
  have hlen : len ≤ 9223372036854775807 := by unfold maxLen at hm; omega
  exact walkN f wf i0 i1 i2 i3 i4 A len cap hlen hcap W hP hT
set_option maxRecDepth 100000 in
theorem lifted (os : Os) (started : os.Started) (H : Type) (enc : TypeId × Value → H) :
    ReturnsInHanded {} Tryz.checked os 6 .any (fun w args => (Rows.coreDataSpec.pre enc Tryz.prog Tryz.f6 [] false w args ∧ laidMetH Tryz.prog Rows.coreDataRow.laid w) ∧ sizedMet enc Tryz.prog Tryz.f6 (OpenSpec.ofChange Rows.coreDataSpec) false w args) (Rows.coreDataSpec.post enc Tryz.prog Tryz.f6 false true false false) := by
  refine returnsInHanded_of_change_and (C := Tryz.checked) (X := fun w _ => laidMetH Tryz.prog Rows.coreDataRow.laid w) (fun _ _ _ hh h => h.of_heap hh) own started (by kernel_rfl) Tryz.func6
    (ChangeSpec.witness_at (enc := enc) (C := Tryz.checked) (os := os) (X := fun w _ => laidMetH Tryz.prog Rows.coreDataRow.laid w) false (laidWorld os) #[fV zF, .agg #[.int .i64 0, .int .i64 0, .int .i64 0, .int .i64 0, .int .i64 0], .slice none 0 0] 8 rfl (by kernel_rfl) (by kernel_rfl) (by kernel_rfl) (by kernel_rfl) (by kernel_rfl) (laid_met os _)) ?_
  intro W base args ds gs before hval0 hW _ _ hL _
  have hval : ∀ (j : Nat) t v, Tryz.f6.params[j]? = some t → args[j]? = some v → Value.okWide Tryz.prog W .any base t v := hval0
  have hW' := hW
  obtain ⟨p, q, hA0, hV, rfl, hfz, hnd⟩ := hW
  have hA : DataW.TrodAll enc Tryz.prog W 0 (fun _ => true) true Tryz.f6.params.toList args.toList ds p := hA0
  rw [Tryz.params6] at hA hval
  obtain ⟨v0, vs0, d0, ds0, p0, q0, hargs, rfl, rfl, h0, r0⟩ := trodAll_cons hA
  obtain ⟨v1, vs1, d1, ds1, p1, q1, rfl, rfl, rfl, h1, r1⟩ := trodAll_cons r0
  obtain ⟨v2, vs2, d2, ds2, p2, q2, rfl, rfl, rfl, h2, r2⟩ := trodAll_cons r1
  obtain ⟨rfl, rfl, rfl⟩ := trodAll_nil r2
  obtain rfl : args = #[v0, v1, v2] := by cases args; simp_all
  obtain ⟨rfl, rfl⟩ := trodVars_none hV
  have k0 := h0
  have lt0 : ∀ x ∈ p0, x.block < W.heap.size := by obtain ⟨m, hm⟩ := k0; exact DataW.trod_lt m _ _ _ hm
  have k1 := h1
  have lt1 : ∀ x ∈ p1, x.block < W.heap.size := by obtain ⟨m, hm⟩ := k1; exact DataW.trod_lt m _ _ _ hm
  have k2 := h2
  have lt2 : ∀ x ∈ p2, x.block < W.heap.size := by obtain ⟨m, hm⟩ := k2; exact DataW.trod_lt m _ _ _ hm
  obtain ⟨csf, rfl, hff⟩ := open_flat (ks := frK) 6 (by kernel_rfl) (.inl ⟨_, Tryz.underlying28⟩) (hval 0 28 v0 rfl rfl) h0
  obtain ⟨f, wf, rfl⟩ := frame_of hff
  obtain ⟨csi, rfl, hfi⟩ := open_flat (ks := [some .i64, some .i64, some .i64, some .i64, some .i64]) 6 (by kernel_rfl) (.inl ⟨_, Tryz.underlying30⟩) (hval 1 30 v1 rfl rfl) h1
  obtain ⟨_, _, rfl, ⟨i0, rfl, wi0⟩, _, _, rfl, ⟨i1, rfl, wi1⟩, _, _, rfl, ⟨i2, rfl, wi2⟩, _, _, rfl, ⟨i3, rfl, wi3⟩, _, _, rfl, ⟨i4, rfl, wi4⟩, rfl⟩ := hfi
  clear hA0 hval0
  refine (walk f wf i0 wi0 i1 wi1 i2 wi2 i3 wi3 i4 wi4 v2 W (hval 2 31 v2 rfl rfl) k2 (tabs_of_laid hL)).mono fun e W' ⟨he, bel⟩ => ?_
  subst he
  exact ⟨_, rfl, _, _, _, [], _, [], hW', trodAll_mk1 (shut_bool Tryz.underlying4 _), (trodAll_cons_mk (Below.trod laidOut (by kernel_rfl) (of_decide_eq_true (by kernel_rfl)) k0 bel lt0) (trodAll_cons_mk (Below.trod laidOut (by kernel_rfl) (of_decide_eq_true (by kernel_rfl)) k1 bel lt1) (trodAll_cons_mk (Below.trod laidOut (by kernel_rfl) (of_decide_eq_true (by kernel_rfl)) k2 bel lt2) trodAll_mk0))), rfl, bel.frame _, fun h => by cases h⟩
theorem over : Rows.CoreDataSaid :=
  OpenClaim.holds_of_wide 6 Tryz.f6 rfl rfl rfl rfl rfl rfl rfl ⟨rfl, rfl, rfl, rfl, rfl⟩ rfl rfl rfl rfl rfl (by kernel_rfl) Tryz.func6 (by kernel_rfl)
    (of_decide_eq_true (by kernel_rfl)) (by unfold Func.isWrapper; first | (rw [if_pos (by decide +kernel)]; kernel_rfl) | (rw [if_neg (by decide +kernel)]; exact ⟨rfl, rfl⟩))
    (fun os started H enc _ => lifted os started H enc)
/-- The given statement. -/
theorem proved : Rows.CoreDataCardSaid :=
  Claim7.holds_tied_plain_at .later [] [.data] true (true, "a811f8ea155858ad6287c3ef8a487e61324b84dc1f446f16a7919a50e5900a6a") false
    over (fun _ h => by cases h) (by kernel_rfl) (fun _ h => by cases h) coreData_row_tie rfl ⟨rfl, rfl⟩ (by kernel_rfl) rfl
    (fun f fn hf hfn => by
      obtain rfl : f = 6 := Option.some.inj ((show Tryz.prog.funcNamed "fallow/fallowlaw10.CoreData" = some 6 by kernel_rfl).symm.trans hf) |>.symm
      obtain rfl : fn = Tryz.f6 := (Option.some.inj (Tryz.func6.symm.trans hfn)).symm
      exact ⟨by kernel_rfl, fun j t ht => by
        rw [Tryz.params6] at ht
        rcases j with _ | _ | _ | j
        · obtain rfl : t = 28 := by simpa using ht.symm
          exact (show Tryz.prog.wantsStandIn 28 = false by kernel_rfl)
        · obtain rfl : t = 30 := by simpa using ht.symm
          exact (show Tryz.prog.wantsStandIn 30 = false by kernel_rfl)
        · obtain rfl : t = 31 := by simpa using ht.symm
          exact (show Tryz.prog.wantsStandIn 31 = false by kernel_rfl)
        · simp at ht⟩)
    (by kernel_rfl)
end Go.Proofs.YtkmgdfcambdeeaaGreatDoor.cdata
