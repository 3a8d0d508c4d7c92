/- For core. -/
import Derived.Test.YtkmgdfcambdeeaaGreatDoorQbf
namespace Go.Proofs.YtkmgdfcambdeeaaGreatDoor
open Lib (hid)
set_option maxRecDepth 100000
open Go.RowKit
set_option linter.unusedVariables false
section
variable {W : World} {r : Nat}
set_option maxHeartbeats 4000000 in
theorem rDo_jalr (F : List Cp) (hF : Fit F) (op A B C m : Int) (hm : mayB ⟨op, A, B, C, m⟩ = true) (hop : op = 30) : Calls Tryz.prog 13 #[fV F, .agg #[.int .i64 op, .int .i64 A, .int .i64 B, .int .i64 C, .int .i64 m], .pointer (some ⟨r, 0, none⟩)] W fun e w' => e = .returned (.tuple #[fV (if jmpT (reg F B.toNat) = 0 then ((nxt F).set A.toNat (fur F 1)).set 16 (reg F B.toNat) else zF), .int .i64 (jmpT (reg F B.toNat))]) ∧ Below W.heap.size W w' := by
 obtain ⟨_, ⟨hA0, hA1⟩, ⟨hB0, hB1⟩, ⟨hC0, hC1⟩⟩ := may_flds hm
 dsimp only at hA0 hA1 hB0 hB1 hC0 hC1
 obtain ⟨A, rfl⟩ := Int.eq_ofNat_of_zero_le hA0
 obtain ⟨B, rfl⟩ := Int.eq_ofNat_of_zero_le hB0
 obtain ⟨C, rfl⟩ := Int.eq_ofNat_of_zero_le hC0
 replace hA1 : A < 16 := by omega
 replace hB1 : B < 16 := by omega
 replace hC1 : C < 16 := by omega
 clear hA0 hB0 hC0
 simp only [Int.toNat_natCast]
 replace hop := hid hop
 have k0 := hid (start_do F op A B C m W)
 have hM := hid (fun w => iMay_any op A B C m w)
 rw [hm] at hM
 have hNx := hid (fun w => rNext_any F hF w)
 have hN : (nxt F).length = 17 := by unfold nxt; rw [List.length_set]; exact hF.len
 generalize nxt F = X at *
 have sz := size_fr hF.len
 have sa := size_fa hF.len
 have oF := one_fr F
 have sX := size_fa hN
 have oX := one_fr X
 have gA := hid (reg_get (F := F) (i := A) (by rw [hF.len]; omega))
 have gB := hid (reg_get (F := F) (i := B) (by rw [hF.len]; omega))
 have gC := hid (reg_get (F := F) (i := C) (by rw [hF.len]; omega))
 obtain ⟨d, hd⟩ : ∃ d, d = fur F 1 := ⟨_, rfl⟩
 have hD : Hid (∀ w, Calls Tryz.prog 47 #[fV F, .int .i64 1] w fun e w' => e = .returned d.V ∧ Below w.heap.size w w') := hid (hd ▸ rfurther_any F hF 1)
 have hJ := hid (fun w => rjumper_any (reg F B) (hF.reg B) w)
 obtain ⟨tr, htr⟩ : ∃ t, t = jmpT (reg F B) := ⟨_, rfl⟩
 rw [← htr] at hJ ⊢
 obtain ⟨p, hp⟩ : ∃ d, d = reg F B := ⟨_, rfl⟩
 rw [← hd, ← hp]
 obtain ⟨R, hRR⟩ : ∃ R, R = if tr = 0 then (X.set A d).set 16 p else zF := ⟨_, rfl⟩
 rw [← hRR]
 replace hRR := hid hRR
 rw [← hp] at hJ gB
 clear hd hp htr
 generalize reg F A = ra at *
 generalize reg F C = rc at *
 clear hm
 unfold fV
 go_enter Tryz.func13, Tryz.ntmps13
 go_upto_region 1 with (fail)
 generalize (((W.alloc (.cells (fC F).toArray 28)).alloc _).alloc _) = w1 at k0 ⊢
 have i0 := k0.out.cell (g := W.heap.size + 1) (j := 0) (u := .int .i64 op) (ir op A B C m) (by simp) rfl
 have i1 := k0.out.cell (g := W.heap.size + 1) (j := 1) (u := .int .i64 A) (ir op A B C m) (by simp) rfl
 have i2 := k0.out.cell (g := W.heap.size + 1) (j := 2) (u := .int .i64 B) (ir op A B C m) (by simp) rfl
 have i3 := k0.out.cell (g := W.heap.size + 1) (j := 3) (u := .int .i64 C) (ir op A B C m) (by simp) rfl
 have i4 := k0.out.cell (g := W.heap.size + 1) (j := 4) (u := .int .i64 m) (ir op A B C m) (by simp) rfl
 go_wp2_with fail
 refine (hM.out _).mono ?_
 rintro ee w2 ⟨rfl, h2⟩
 have k2 := hid (k0.out.below h2)
 clear h2 k0 i0 i1 i2 i3 i4 hM
 have i0 := k2.out.cell (g := W.heap.size + 1) (j := 0) (u := .int .i64 op) (ir op A B C m) (by simp) rfl
 have n0 : (op == 0) = false := by have := hop.out; simp; omega
 have n53 : (op == 53) = false := by have := hop.out; simp; omega
 go_upto_region 3 with (fail)
 have rg := k2.out.range (g := W.heap.size) (vs := fC F) (by simp)
 clear i0
 go_wp2_with ((with_reducible show wpList _ _ _ _ _ _); refine wpList_load_mid rfl 28 _ rfl W.heap.size 0 rfl (fC F) _ rg Tryz.underlying28 rfl sz ?_)
 refine (hNx.out _).mono ?_
 rintro ee w3 ⟨rfl, h3⟩
 have k3 := hid (k2.out.below h3)
 clear h3 k2 rg hNx
 have k4 := k3.out.push (fC zF) 28
 rw [← zero_fr] at k4
 have th := k4.there (g := w3.heap.size) (vs := fC zF) (List.mem_cons_self ..) 0 136 (by rw [fC_len]; decide)
 have q1 := k3.out.lt (g := W.heap.size + 2) (vs := fC zF) (by simp)
 have k5 := hid (k4.putA (fC X) (by omega) (fun x hx => by
   simp only [List.mem_cons, List.not_mem_nil, or_false] at hx
   rcases hx with rfl | rfl | rfl <;> simp only [ne_eq] <;> omega) (by rw [fC_len, fC_len, hN]; rfl))
 have th' : (w3.alloc (.cells Tryz.zeroCells28 28)).there w3.heap.size 0 (fC X).toArray.size := by rw [show (fC X).toArray.size = 136 from by rw [List.size_toArray, fC_len, hN]]; exact th
 clear k4 th k3
 go_upto_region 4 with ((with_reducible show wpList _ _ _ _ _ _); refine wpList_store_mid rfl 28 _ _ rfl w3.heap.size 0 (fC X).toArray rfl rfl th' sX oX ?_; clear th'; change wpList _ _ _ _ _ ((w3.alloc (.cells Tryz.zeroCells28 28)).setCells w3.heap.size 0 (fC X)); generalize (w3.alloc (.cells Tryz.zeroCells28 28)).setCells w3.heap.size 0 (fC X) = w4 at k5 ⊢; generalize w3.heap.size = q at k5 q1 ⊢)
 have i0 := k5.out.cell (g := W.heap.size + 1) (j := 0) (u := .int .i64 op) (ir op A B C m) (by simp) rfl
 have i1 := k5.out.cell (g := W.heap.size + 1) (j := 1) (u := .int .i64 A) (ir op A B C m) (by simp) rfl
 have i2 := k5.out.cell (g := W.heap.size + 1) (j := 2) (u := .int .i64 B) (ir op A B C m) (by simp) rfl
 have i3 := k5.out.cell (g := W.heap.size + 1) (j := 3) (u := .int .i64 C) (ir op A B C m) (by simp) rfl
 have i4 := k5.out.cell (g := W.heap.size + 1) (j := 4) (u := .int .i64 m) (ir op A B C m) (by simp) rfl
 obtain ⟨a0, _⟩ := k5.out.reg (g := W.heap.size) (F := F) (by simp) gA.out
 obtain ⟨b0, b1, b2, b3, b4, b5, b6, b7⟩ := k5.out.reg (g := W.heap.size) (F := F) (by simp) gB.out
 obtain ⟨c0, _⟩ := k5.out.reg (g := W.heap.size) (F := F) (by simp) gC.out
 replace hop := hop.out
 subst hop
 clear a0 c0
 have rg := k5.out.range (g := W.heap.size) (vs := fC F) (by simp)
 have jB0 : (0 : Int) ≤ (B : Int) := by omega
 have jB1 : (B : Int) < 16 := by omega
 go_wp2_with fail
 refine (hJ.out _).mono ?_
 rintro ee wj ⟨rfl, hj⟩
 have kj := hid (k5.out.below hj)
 clear hj k5 hJ i0 i1 i2 i3 i4 b0 b1 b2 b3 b4 b5 b6 b7 rg
 by_cases ht : tr = 0
 case neg =>
   have ht' : (tr == 0) = false := by simpa using ht
   have hRz := hid (show R = zF from by rw [hRR.out, if_neg ht])
   have zs : (Tryz.prog.info? 28).map (·.size) = some (Tryz.zeroCells28).size := by rw [zero_fr]; exact size_fa (F := zF) rfl
   have zo : (Tryz.zeroCells28).all (·.oneCell') = true := by rw [zero_fr]; exact one_fr zF
   have th := kj.out.there (g := W.heap.size + 2) (vs := fC zF) (by simp) 0 136 (by rw [fC_len]; decide)
   have k9 := hid ((kj.out.sub (L' := [⟨W.heap.size + 2, fC zF⟩]) (by simp)).putA (fC zF) (by simp) (by simp) rfl)
   have th' : wj.there (W.heap.size + 2) 0 (Tryz.zeroCells28).size := by rw [show (Tryz.zeroCells28).size = 136 from by rw [zero_fr, List.size_toArray, fC_len]; rfl]; exact th
   have hz : wj.setCells (W.heap.size + 2) 0 (Tryz.zeroCells28).toList = wj.setCells (W.heap.size + 2) 0 (fC zF) := by rw [zero_fr]
   replace hz := hid hz
   clear kj q1 hD ht th
   go_wp2_with ((with_reducible show wpList _ _ _ _ _ _); refine wpList_store_mid rfl 28 _ _ rfl (W.heap.size + 1 + 1) 0 Tryz.zeroCells28 rfl rfl th' zs zo ?_; clear th' zs zo; change wpList _ _ _ _ _ (wj.setCells (W.heap.size + 2) 0 (Tryz.zeroCells28).toList); rw [hz.out]; generalize wj.setCells (W.heap.size + 2) 0 (fC zF) = wf at k9 ⊢)
   exact bodyPost_ret (v := .tuple #[fV zF, .int .i64 tr]) (res_two Tryz.results13 rfl rfl (load_fr k9.out (List.mem_cons_self ..) rfl)) rfl ⟨by rw [hRz.out]; rfl, k9.out.bl⟩
 subst ht
 have hRs := hid (show R = (X.set A d).set 16 p from by rw [hRR.out, if_pos rfl])
 clear hRR
 have hRR := hRs
 clear hRs
 obtain ⟨S, hS0⟩ : ∃ S : World → Prop, S = fun w => KR W [⟨q, fC X⟩, ⟨W.heap.size + 2, fC zF⟩, ⟨W.heap.size + 1, ir 30 A B C m⟩, ⟨W.heap.size, fC F⟩] w := ⟨_, rfl⟩
 have hK : ∀ w, S w → KR W [⟨q, fC X⟩, ⟨W.heap.size + 2, fC zF⟩, ⟨W.heap.size + 1, ir 30 A B C m⟩, ⟨W.heap.size, fC F⟩] w := fun w h => by rw [hS0] at h; exact h
 have hSb : ∀ u v, S u → Below u.heap.size u v → S v := fun u v h k => by rw [hS0] at h ⊢; exact h.below k
 have s0 : S wj := by rw [hS0]; exact kj.out
 clear hS0
 have cD := hid (cls_call (S := S) fun w hw => (hD.out w).mono fun e w' k => (⟨k.1, hSb _ _ hw k.2⟩ : _ ∧ S w'))
 have rF : ∀ w, (∃ y : Wd S, w = y.w) → w.rangeAt W.heap.size 0 (fC F) := fun w ⟨y, e⟩ => e ▸ (hK _ y.h).range (by simp)
 have HS := hid hSb
 have HK := hid hK
 go_wp2_with (fail)
 have i1 : ∀ y : Wd S, y.w.cell? ⟨W.heap.size + 1, 1, none⟩ = some (.int .i64 A) := fun y => (hK _ y.h).cell (ir 30 A B C m) (by simp) rfl
 have jA0 : (0 : Int) ≤ (A : Int) := by omega
 have jA1 : (A : Int) < 16 := by omega
 clear hK hSb kj
 refine region_cls_tail S 6 (by kernel_rfl) (by kernel_rfl) (HS.out _ _ s0 (Below.refl _ _).drew) ?_
 simp only [List.take_succ_cons, List.take_zero]
 repeat (first
   | go_big_quiet_skip
   | (go_big_quiet_want
      first
      | (refine quiet_load_mid 28 _ rfl W.heap.size 0 rfl (fC F) _ rF Tryz.underlying28 rfl sz ?_
         simp only [Act.put, List.setIfInBounds_toArray, List.set_cons_zero, List.set_cons_succ]
         go_big_quiet_on)
      | (go_big_quiet_op
         first
         | go_big_quiet_on
         | (apply Exists.intro
            refine ⟨fun y => ?_, ?_⟩
            · first | exact rfl | with_reducible exact cD.out y | exact cD.out y
            go_big_quiet_on))))
 refine wpQuiet_nil ?_
 intro y
 simp only [List.drop_succ_cons, List.drop_zero]
 have k7 := HK.out _ y.h
 generalize y.w = w7 at k7 ⊢
 clear y HS HK i1 cD hD rF s0
 have s1 := size_ca d
 have o1 := one_cp d
 have th := k7.there (g := q) (vs := fC X) (by simp) (A * 8) 8 (by rw [fC_len, hN]; omega)
 have k8 := hid (k7.putF (by omega) (fun x hx => by
   simp only [List.mem_cons, List.not_mem_nil, or_false] at hx
   rcases hx with rfl | rfl | rfl <;> simp only [ne_eq] <;> omega) A d (by rw [hN]; omega))
 clear k7
 obtain ⟨X2, hX2⟩ : ∃ X2, X2 = X.set A d := ⟨_, rfl⟩
 have hN2 : X2.length = 17 := by rw [hX2, List.length_set]; exact hN
 rw [← hX2] at k8 hRR
 replace hX2 := hid hX2
 refine wpList_store_mid rfl 25 _ _ rfl q (A * 8) d.C.toArray rfl rfl th s1 o1 ?_
 change wpList _ _ _ _ _ (w7.setCells q (A * 8) d.C)
 clear th s1 o1
 generalize w7.setCells q (A * 8) d.C = w8 at k8 ⊢
 have rg := k8.out.range (g := W.heap.size) (vs := fC F) (by simp)
 have i2 := k8.out.cell (g := W.heap.size + 1) (j := 2) (u := .int .i64 B) (ir 30 A B C m) (by simp) rfl
 obtain ⟨b0, b1, b2, b3, b4, b5, b6, b7⟩ := k8.out.reg (g := W.heap.size) (F := F) (by simp) gB.out
 have k9 := k8.out
 clear k8 rg sz
 have th := k9.there (g := q) (vs := fC X2) (by simp) 128 8 (by rw [fC_len, hN2]; decide)
 have kp := hid (k9.putF (by omega) (fun x hx => by
   simp only [List.mem_cons, List.not_mem_nil, or_false] at hx
   rcases hx with rfl | rfl | rfl <;> simp only [ne_eq] <;> omega) 16 p (by rw [hN2]; decide))
 have s1 := size_ca p
 have o1 := one_cp p
 clear k9
 obtain ⟨Y, hY⟩ : ∃ Y, Y = X2.set 16 p := ⟨_, rfl⟩
 have hYl : Y.length = 17 := by rw [hY, List.length_set]; exact hN2
 rw [← hY] at kp
 have hYR := hid (show Y = R from by rw [hY, hRR.out])
 clear hY
 have sz := size_fr hYl
 have sa := size_fa hYl
 have oY := one_fr Y
 go_wp2_with ((with_reducible show wpList _ _ _ _ _ _); first | (refine wpList_store_mid rfl 25 _ _ rfl q 128 p.C.toArray rfl rfl th s1 o1 ?_; clear th s1 o1 i2 b0 b1 b2 b3 b4 b5 b6 b7; change wpList _ _ _ _ _ (w8.setCells q (16 * 8) p.C); generalize w8.setCells q (16 * 8) p.C = wa at kp ⊢; have rq := kp.out.range (g := q) (vs := fC Y) (by simp); have th' : wa.there (W.heap.size + 2) 0 (fC Y).toArray.size := (by rw [show (fC Y).toArray.size = 136 from by rw [List.size_toArray, fC_len, hYl]]; exact kp.out.there (g := W.heap.size + 2) (vs := fC zF) (by simp) 0 136 (by rw [fC_len]; decide)); have kz := hid ((kp.out.sub (L' := [⟨W.heap.size + 2, fC zF⟩]) (by simp)).putA (fC Y) (by simp) (by simp) (by rw [fC_len, fC_len, hYl]; rfl))) | (refine wpList_load_mid rfl 28 _ rfl q 0 rfl (fC Y) _ rq Tryz.underlying28 rfl sz ?_) | (refine wpList_store_mid rfl 28 _ _ rfl (W.heap.size + 1 + 1) 0 (fC Y).toArray rfl rfl th' sa oY ?_; clear th' rq sa oY sz; change wpList _ _ _ _ _ (wa.setCells (W.heap.size + 2) 0 (fC Y)); generalize wa.setCells (W.heap.size + 2) 0 (fC Y) = wf at kz ⊢))
 exact bodyPost_ret (v := .tuple #[fV Y, .int .i64 0]) (res_two Tryz.results13 rfl rfl (load_fr kz.out (List.mem_cons_self ..) hYl)) rfl ⟨by rw [hYR.out]; rfl, kz.out.bl⟩
end
end Go.Proofs.YtkmgdfcambdeeaaGreatDoor
