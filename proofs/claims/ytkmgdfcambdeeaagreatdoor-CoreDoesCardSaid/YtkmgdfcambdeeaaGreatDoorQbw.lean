/- For core. -/
import Derived.Test.YtkmgdfcambdeeaaGreatDoorQbn
import Derived.Test.YtkmgdfcambdeeaaGreatDoorQbq
import Derived.Test.YtkmgdfcambdeeaaGreatDoorQbt
import Derived.Test.YtkmgdfcambdeeaaGreatDoorQbu
import Derived.Test.YtkmgdfcambdeeaaGreatDoorQbv
namespace Go.Proofs.YtkmgdfcambdeeaaGreatDoor
open Lib (hid)
set_option maxRecDepth 100000
open Go.RowKit
set_option linter.unusedVariables false
section
variable {W : World} {r : Nat}
set_option maxHeartbeats 4000000 in
theorem rDo_bad (F : List Cp) (op A B C m : Int) (h : (mayB ⟨op, A, B, C, m⟩ && decide (op ≠ 53)) = false) : Calls Tryz.prog 13 #[fV F, .agg #[.int .i64 op, .int .i64 A, .int .i64 B, .int .i64 C, .int .i64 m], .pointer (some ⟨r, 0, none⟩)] W fun e w' => e = .returned (.tuple #[fV zF, .int .i64 6]) ∧ Below W.heap.size W w' := by
 have k0 := hid (start_do F op A B C m W)
 have hM := hid (fun w => iMay_any op A B C m w)
 have zs : (Tryz.prog.info? 28).map (·.size) = some (Tryz.zeroCells28).size := by rw [zero_fr]; exact size_fa (F := zF) rfl
 have zo : (Tryz.zeroCells28).all (·.oneCell') = true := by rw [zero_fr]; exact one_fr zF
 cases hm : mayB ⟨op, A, B, C, m⟩
 case false =>
   rw [hm] at hM
   clear h hm
   unfold fV
   go_enter Tryz.func13, Tryz.ntmps13
   go_upto_region 1 with (fail)
   generalize (((W.alloc (.cells (fC F).toArray 28)).alloc _).alloc _) = w1 at k0 ⊢
   have i0 := k0.out.cell (g := W.heap.size + 1) (j := 0) (u := .int .i64 op) (ir op A B C m) (by simp) rfl
   have i1 := k0.out.cell (g := W.heap.size + 1) (j := 1) (u := .int .i64 A) (ir op A B C m) (by simp) rfl
   have i2 := k0.out.cell (g := W.heap.size + 1) (j := 2) (u := .int .i64 B) (ir op A B C m) (by simp) rfl
   have i3 := k0.out.cell (g := W.heap.size + 1) (j := 3) (u := .int .i64 C) (ir op A B C m) (by simp) rfl
   have i4 := k0.out.cell (g := W.heap.size + 1) (j := 4) (u := .int .i64 m) (ir op A B C m) (by simp) rfl
   go_wp2_with fail
   refine (hM.out _).mono ?_
   rintro ee w2 ⟨rfl, h2⟩
   have k2 := hid (k0.out.below h2)
   clear h2 k0 i0 i1 i2 i3 i4 hM
   have th := k2.out.there (g := W.heap.size + 2) (vs := fC zF) (by simp) 0 136 (by rw [fC_len]; decide)
   have k9 := hid ((k2.out.sub (L' := [⟨W.heap.size + 2, fC zF⟩]) (by simp)).putA (fC zF) (by simp) (by simp) rfl)
   have th' : w2.there (W.heap.size + 2) 0 (Tryz.zeroCells28).size := by rw [show (Tryz.zeroCells28).size = 136 from by rw [zero_fr, List.size_toArray, fC_len]; rfl]; exact th
   have hz : w2.setCells (W.heap.size + 2) 0 (Tryz.zeroCells28).toList = w2.setCells (W.heap.size + 2) 0 (fC zF) := by rw [zero_fr]
   replace hz := hid hz
   clear th k2
   go_wp2_with ((with_reducible show wpList _ _ _ _ _ _); refine wpList_store_mid rfl 28 _ _ rfl (W.heap.size + 1 + 1) 0 Tryz.zeroCells28 rfl rfl th' zs zo ?_; clear th' zs zo; change wpList _ _ _ _ _ (w2.setCells (W.heap.size + 2) 0 (Tryz.zeroCells28).toList); rw [hz.out]; generalize w2.setCells (W.heap.size + 2) 0 (fC zF) = wf at k9 ⊢)
   exact bodyPost_ret (v := .tuple #[fV zF, .int .i64 6]) (res_two Tryz.results13 rfl rfl (load_fr k9.out (List.mem_cons_self ..) rfl)) rfl ⟨rfl, k9.out.bl⟩
 case true =>
   have h53 : op = 53 := by rw [hm] at h; simpa using h
   subst h53
   rw [hm] at hM
   clear h hm
   unfold fV
   go_enter Tryz.func13, Tryz.ntmps13
   go_upto_region 1 with (fail)
   generalize (((W.alloc (.cells (fC F).toArray 28)).alloc _).alloc _) = w1 at k0 ⊢
   have i0 := k0.out.cell (g := W.heap.size + 1) (j := 0) (u := .int .i64 53) (ir 53 A B C m) (by simp) rfl
   have i1 := k0.out.cell (g := W.heap.size + 1) (j := 1) (u := .int .i64 A) (ir 53 A B C m) (by simp) rfl
   have i2 := k0.out.cell (g := W.heap.size + 1) (j := 2) (u := .int .i64 B) (ir 53 A B C m) (by simp) rfl
   have i3 := k0.out.cell (g := W.heap.size + 1) (j := 3) (u := .int .i64 C) (ir 53 A B C m) (by simp) rfl
   have i4 := k0.out.cell (g := W.heap.size + 1) (j := 4) (u := .int .i64 m) (ir 53 A B C m) (by simp) rfl
   go_wp2_with fail
   refine (hM.out _).mono ?_
   rintro ee w2 ⟨rfl, h2⟩
   have k2 := hid (k0.out.below h2)
   clear h2 k0 i0 i1 i2 i3 i4 hM
   have i0 := k2.out.cell (g := W.heap.size + 1) (j := 0) (u := .int .i64 53) (ir 53 A B C m) (by simp) rfl
   have th := k2.out.there (g := W.heap.size + 2) (vs := fC zF) (by simp) 0 136 (by rw [fC_len]; decide)
   have k9 := hid ((k2.out.sub (L' := [⟨W.heap.size + 2, fC zF⟩]) (by simp)).putA (fC zF) (by simp) (by simp) rfl)
   have th' : w2.there (W.heap.size + 2) 0 (Tryz.zeroCells28).size := by rw [show (Tryz.zeroCells28).size = 136 from by rw [zero_fr, List.size_toArray, fC_len]; rfl]; exact th
   have hz : w2.setCells (W.heap.size + 2) 0 (Tryz.zeroCells28).toList = w2.setCells (W.heap.size + 2) 0 (fC zF) := by rw [zero_fr]
   replace hz := hid hz
   clear th k2
   go_wp2_with ((with_reducible show wpList _ _ _ _ _ _); refine wpList_store_mid rfl 28 _ _ rfl (W.heap.size + 1 + 1) 0 Tryz.zeroCells28 rfl rfl th' zs zo ?_; clear th' zs zo; change wpList _ _ _ _ _ (w2.setCells (W.heap.size + 2) 0 (Tryz.zeroCells28).toList); rw [hz.out]; generalize w2.setCells (W.heap.size + 2) 0 (fC zF) = wf at k9 ⊢)
   exact bodyPost_ret (v := .tuple #[fV zF, .int .i64 6]) (res_two Tryz.results13 rfl rfl (load_fr k9.out (List.mem_cons_self ..) rfl)) rfl ⟨rfl, k9.out.bl⟩
end
section
variable {W : World} {r : Nat}
set_option maxHeartbeats 4000000 in
theorem rDo_jal (F : List Cp) (hF : Fit F) (op A B C m : Int) (hm : mayB ⟨op, A, B, C, m⟩ = true) (hop : op = 29) : Calls Tryz.prog 13 #[fV F, .agg #[.int .i64 op, .int .i64 A, .int .i64 B, .int .i64 C, .int .i64 m], .pointer (some ⟨r, 0, none⟩)] W fun e w' => e = .returned (.tuple #[fV (((nxt F).set A.toNat (fur F 1)).set 16 (fur F m)), .int .i64 0]) ∧ Below W.heap.size W w' := by
 obtain ⟨_, ⟨hA0, hA1⟩, ⟨hB0, hB1⟩, ⟨hC0, hC1⟩⟩ := may_flds hm
 dsimp only at hA0 hA1 hB0 hB1 hC0 hC1
 obtain ⟨A, rfl⟩ := Int.eq_ofNat_of_zero_le hA0
 obtain ⟨B, rfl⟩ := Int.eq_ofNat_of_zero_le hB0
 obtain ⟨C, rfl⟩ := Int.eq_ofNat_of_zero_le hC0
 replace hA1 : A < 16 := by omega
 replace hB1 : B < 16 := by omega
 replace hC1 : C < 16 := by omega
 clear hA0 hB0 hC0
 simp only [Int.toNat_natCast]
 replace hop := hid hop
 have k0 := hid (start_do F op A B C m W)
 have hM := hid (fun w => iMay_any op A B C m w)
 rw [hm] at hM
 have hNx := hid (fun w => rNext_any F hF w)
 have hN : (nxt F).length = 17 := by unfold nxt; rw [List.length_set]; exact hF.len
 generalize nxt F = X at *
 have sz := size_fr hF.len
 have sa := size_fa hF.len
 have oF := one_fr F
 have sX := size_fa hN
 have oX := one_fr X
 have gA := hid (reg_get (F := F) (i := A) (by rw [hF.len]; omega))
 have gB := hid (reg_get (F := F) (i := B) (by rw [hF.len]; omega))
 have gC := hid (reg_get (F := F) (i := C) (by rw [hF.len]; omega))
 obtain ⟨d, hd⟩ : ∃ d, d = fur F 1 := ⟨_, rfl⟩
 have hD : Hid (∀ w, Calls Tryz.prog 47 #[fV F, .int .i64 1] w fun e w' => e = .returned d.V ∧ Below w.heap.size w w') := hid (hd ▸ rfurther_any F hF 1)
 obtain ⟨p, hp⟩ : ∃ d, d = fur F m := ⟨_, rfl⟩
 have hE : Hid (∀ w, Calls Tryz.prog 47 #[fV F, .int .i64 m] w fun e w' => e = .returned p.V ∧ Below w.heap.size w w') := hid (hp ▸ rfurther_any F hF m)
 rw [← hd, ← hp]
 obtain ⟨R, hRR⟩ : ∃ R, R = (X.set A d).set 16 p := ⟨_, rfl⟩
 rw [← hRR]
 replace hRR := hid hRR
 clear hd hp
 generalize reg F A = ra at *
 generalize reg F B = rb at *
 generalize reg F C = rc at *
 clear hm
 unfold fV
 go_enter Tryz.func13, Tryz.ntmps13
 go_upto_region 1 with (fail)
 generalize (((W.alloc (.cells (fC F).toArray 28)).alloc _).alloc _) = w1 at k0 ⊢
 have i0 := k0.out.cell (g := W.heap.size + 1) (j := 0) (u := .int .i64 op) (ir op A B C m) (by simp) rfl
 have i1 := k0.out.cell (g := W.heap.size + 1) (j := 1) (u := .int .i64 A) (ir op A B C m) (by simp) rfl
 have i2 := k0.out.cell (g := W.heap.size + 1) (j := 2) (u := .int .i64 B) (ir op A B C m) (by simp) rfl
 have i3 := k0.out.cell (g := W.heap.size + 1) (j := 3) (u := .int .i64 C) (ir op A B C m) (by simp) rfl
 have i4 := k0.out.cell (g := W.heap.size + 1) (j := 4) (u := .int .i64 m) (ir op A B C m) (by simp) rfl
 go_wp2_with fail
 refine (hM.out _).mono ?_
 rintro ee w2 ⟨rfl, h2⟩
 have k2 := hid (k0.out.below h2)
 clear h2 k0 i0 i1 i2 i3 i4 hM
 have i0 := k2.out.cell (g := W.heap.size + 1) (j := 0) (u := .int .i64 op) (ir op A B C m) (by simp) rfl
 have n0 : (op == 0) = false := by have := hop.out; simp; omega
 have n53 : (op == 53) = false := by have := hop.out; simp; omega
 go_upto_region 3 with (fail)
 have rg := k2.out.range (g := W.heap.size) (vs := fC F) (by simp)
 clear i0
 go_wp2_with ((with_reducible show wpList _ _ _ _ _ _); refine wpList_load_mid rfl 28 _ rfl W.heap.size 0 rfl (fC F) _ rg Tryz.underlying28 rfl sz ?_)
 refine (hNx.out _).mono ?_
 rintro ee w3 ⟨rfl, h3⟩
 have k3 := hid (k2.out.below h3)
 clear h3 k2 rg hNx
 have k4 := k3.out.push (fC zF) 28
 rw [← zero_fr] at k4
 have th := k4.there (g := w3.heap.size) (vs := fC zF) (List.mem_cons_self ..) 0 136 (by rw [fC_len]; decide)
 have q1 := k3.out.lt (g := W.heap.size + 2) (vs := fC zF) (by simp)
 have k5 := hid (k4.putA (fC X) (by omega) (fun x hx => by
   simp only [List.mem_cons, List.not_mem_nil, or_false] at hx
   rcases hx with rfl | rfl | rfl <;> simp only [ne_eq] <;> omega) (by rw [fC_len, fC_len, hN]; rfl))
 have th' : (w3.alloc (.cells Tryz.zeroCells28 28)).there w3.heap.size 0 (fC X).toArray.size := by rw [show (fC X).toArray.size = 136 from by rw [List.size_toArray, fC_len, hN]]; exact th
 clear k4 th k3
 go_upto_region 4 with ((with_reducible show wpList _ _ _ _ _ _); refine wpList_store_mid rfl 28 _ _ rfl w3.heap.size 0 (fC X).toArray rfl rfl th' sX oX ?_; clear th'; change wpList _ _ _ _ _ ((w3.alloc (.cells Tryz.zeroCells28 28)).setCells w3.heap.size 0 (fC X)); generalize (w3.alloc (.cells Tryz.zeroCells28 28)).setCells w3.heap.size 0 (fC X) = w4 at k5 ⊢; generalize w3.heap.size = q at k5 q1 ⊢)
 have i0 := k5.out.cell (g := W.heap.size + 1) (j := 0) (u := .int .i64 op) (ir op A B C m) (by simp) rfl
 have i1 := k5.out.cell (g := W.heap.size + 1) (j := 1) (u := .int .i64 A) (ir op A B C m) (by simp) rfl
 have i2 := k5.out.cell (g := W.heap.size + 1) (j := 2) (u := .int .i64 B) (ir op A B C m) (by simp) rfl
 have i3 := k5.out.cell (g := W.heap.size + 1) (j := 3) (u := .int .i64 C) (ir op A B C m) (by simp) rfl
 have i4 := k5.out.cell (g := W.heap.size + 1) (j := 4) (u := .int .i64 m) (ir op A B C m) (by simp) rfl
 obtain ⟨a0, _⟩ := k5.out.reg (g := W.heap.size) (F := F) (by simp) gA.out
 obtain ⟨b0, _⟩ := k5.out.reg (g := W.heap.size) (F := F) (by simp) gB.out
 obtain ⟨c0, _⟩ := k5.out.reg (g := W.heap.size) (F := F) (by simp) gC.out
 replace hop := hop.out
 subst hop
 clear a0 b0 c0
 have rg := k5.out.range (g := W.heap.size) (vs := fC F) (by simp)
 obtain ⟨S, hS0⟩ : ∃ S : World → Prop, S = fun w => KR W [⟨q, fC X⟩, ⟨W.heap.size + 2, fC zF⟩, ⟨W.heap.size + 1, ir 29 A B C m⟩, ⟨W.heap.size, fC F⟩] w := ⟨_, rfl⟩
 have hK : ∀ w, S w → KR W [⟨q, fC X⟩, ⟨W.heap.size + 2, fC zF⟩, ⟨W.heap.size + 1, ir 29 A B C m⟩, ⟨W.heap.size, fC F⟩] w := fun w h => by rw [hS0] at h; exact h
 have hSb : ∀ u v, S u → Below u.heap.size u v → S v := fun u v h k => by rw [hS0] at h ⊢; exact h.below k
 have s0 : S w4 := by rw [hS0]; exact k5.out
 clear hS0
 have cD := hid (cls_call (S := S) fun w hw => (hD.out w).mono fun e w' k => (⟨k.1, hSb _ _ hw k.2⟩ : _ ∧ S w'))
 have rF : ∀ w, (∃ y : Wd S, w = y.w) → w.rangeAt W.heap.size 0 (fC F) := fun w ⟨y, e⟩ => e ▸ (hK _ y.h).range (by simp)
 have HS := hid hSb
 have HK := hid hK
 go_wp2_with (fail)
 clear i0 i1 i2 i3 i4
 have i1 : ∀ y : Wd S, y.w.cell? ⟨W.heap.size + 1, 1, none⟩ = some (.int .i64 A) := fun y => (hK _ y.h).cell (ir 29 A B C m) (by simp) rfl
 have jA0 : (0 : Int) ≤ (A : Int) := by omega
 have jA1 : (A : Int) < 16 := by omega
 clear hK hSb k5 rg
 refine region_cls_tail S 6 (by kernel_rfl) (by kernel_rfl) (HS.out _ _ s0 (Below.refl _ _).drew) ?_
 simp only [List.take_succ_cons, List.take_zero]
 repeat (first
   | go_big_quiet_skip
   | (go_big_quiet_want
      first
      | (refine quiet_load_mid 28 _ rfl W.heap.size 0 rfl (fC F) _ rF Tryz.underlying28 rfl sz ?_
         simp only [Act.put, List.setIfInBounds_toArray, List.set_cons_zero, List.set_cons_succ]
         go_big_quiet_on)
      | (go_big_quiet_op
         first
         | go_big_quiet_on
         | (apply Exists.intro
            refine ⟨fun y => ?_, ?_⟩
            · first | exact rfl | with_reducible exact cD.out y | exact cD.out y
            go_big_quiet_on))))
 refine wpQuiet_nil ?_
 intro y
 simp only [List.drop_succ_cons, List.drop_zero]
 have k7 := HK.out _ y.h
 generalize y.w = w7 at k7 ⊢
 clear y HS HK i1 cD hD rF s0
 have s1 := size_ca d
 have o1 := one_cp d
 have th := k7.there (g := q) (vs := fC X) (by simp) (A * 8) 8 (by rw [fC_len, hN]; omega)
 have k8 := hid (k7.putF (by omega) (fun x hx => by
   simp only [List.mem_cons, List.not_mem_nil, or_false] at hx
   rcases hx with rfl | rfl | rfl <;> simp only [ne_eq] <;> omega) A d (by rw [hN]; omega))
 clear k7
 obtain ⟨X2, hX2⟩ : ∃ X2, X2 = X.set A d := ⟨_, rfl⟩
 have hN2 : X2.length = 17 := by rw [hX2, List.length_set]; exact hN
 rw [← hX2] at k8 hRR
 replace hX2 := hid hX2
 refine wpList_store_mid rfl 25 _ _ rfl q (A * 8) d.C.toArray rfl rfl th s1 o1 ?_
 change wpList _ _ _ _ _ (w7.setCells q (A * 8) d.C)
 clear th s1 o1
 generalize w7.setCells q (A * 8) d.C = w8 at k8 ⊢
 have rg := k8.out.range (g := W.heap.size) (vs := fC F) (by simp)
 have i4 := k8.out.cell (g := W.heap.size + 1) (j := 4) (u := .int .i64 m) (ir 29 A B C m) (by simp) rfl
 go_wp2_with ((with_reducible show wpList _ _ _ _ _ _); refine wpList_load_mid rfl 28 _ rfl W.heap.size 0 rfl (fC F) _ rg Tryz.underlying28 rfl sz ?_)
 refine (hE.out _).mono ?_
 rintro ee w9 ⟨rfl, h9⟩
 have k9 := k8.out.below h9
 clear h9 k8 rg i4 hE sz
 have th := k9.there (g := q) (vs := fC X2) (by simp) 128 8 (by rw [fC_len, hN2]; decide)
 have kp := hid (k9.putF (by omega) (fun x hx => by
   simp only [List.mem_cons, List.not_mem_nil, or_false] at hx
   rcases hx with rfl | rfl | rfl <;> simp only [ne_eq] <;> omega) 16 p (by rw [hN2]; decide))
 have s1 := size_ca p
 have o1 := one_cp p
 clear k9
 obtain ⟨Y, hY⟩ : ∃ Y, Y = X2.set 16 p := ⟨_, rfl⟩
 have hYl : Y.length = 17 := by rw [hY, List.length_set]; exact hN2
 rw [← hY] at kp
 have hYR := hid (show Y = R from by rw [hY, hRR.out])
 clear hY
 have sz := size_fr hYl
 have sa := size_fa hYl
 have oY := one_fr Y
 go_wp2_with ((with_reducible show wpList _ _ _ _ _ _); first | (refine wpList_store_mid rfl 25 _ _ rfl q 128 p.C.toArray rfl rfl th s1 o1 ?_; clear th s1 o1; change wpList _ _ _ _ _ (w9.setCells q (16 * 8) p.C); generalize w9.setCells q (16 * 8) p.C = wa at kp ⊢; have rq := kp.out.range (g := q) (vs := fC Y) (by simp); have th' : wa.there (W.heap.size + 2) 0 (fC Y).toArray.size := (by rw [show (fC Y).toArray.size = 136 from by rw [List.size_toArray, fC_len, hYl]]; exact kp.out.there (g := W.heap.size + 2) (vs := fC zF) (by simp) 0 136 (by rw [fC_len]; decide)); have kz := hid ((kp.out.sub (L' := [⟨W.heap.size + 2, fC zF⟩]) (by simp)).putA (fC Y) (by simp) (by simp) (by rw [fC_len, fC_len, hYl]; rfl))) | (refine wpList_load_mid rfl 28 _ rfl q 0 rfl (fC Y) _ rq Tryz.underlying28 rfl sz ?_) | (refine wpList_store_mid rfl 28 _ _ rfl (W.heap.size + 1 + 1) 0 (fC Y).toArray rfl rfl th' sa oY ?_; clear th' rq sa oY sz; change wpList _ _ _ _ _ (wa.setCells (W.heap.size + 2) 0 (fC Y)); generalize wa.setCells (W.heap.size + 2) 0 (fC Y) = wf at kz ⊢))
 exact bodyPost_ret (v := .tuple #[fV Y, .int .i64 0]) (res_two Tryz.results13 rfl rfl (load_fr kz.out (List.mem_cons_self ..) hYl)) rfl ⟨by rw [hYR.out]; rfl, kz.out.bl⟩
end
section
variable {W : World} {r rb tb N g : Nat} {f : Nat → Bool} {l : List UInt8}
theorem rDo_any (H : RfAt W r rb tb N g f l) (F : List Cp) (hF : Fit F) (i : Ins) : Calls Tryz.prog 13 #[fV F, iv i, .pointer (some ⟨r, 0, none⟩)] W (Rxt r rb tb N g (doG F i N f) (doL F i N l) W (.tuple #[fV (doF F i N f l), .int .i64 (doT F i N)])) := by
 obtain ⟨op, A, B, C, m⟩ := i
 cases h : (mayB ⟨op, A, B, C, m⟩ && decide (op ≠ 53))
 · obtain ⟨e1, e2, e3, e4⟩ := do_bad (F := F) (N := N) (f := f) (l := l) h
   rw [e1, e2, e3, e4]
   exact (rDo_bad F op A B C m h).mono fun e w' k => rxt_below H k
 have hok := h
 simp only [Bool.and_eq_true, decide_eq_true_eq] at h
 obtain ⟨h1, h2⟩ := may_flds h.1 |>.1
 have noS : isS op = false → doG F ⟨op, A, B, C, m⟩ N f = f ∧ doL F ⟨op, A, B, C, m⟩ N l = l := fun hs =>
   ⟨if_neg (fun k => by have := k.2; rw [show isS op = true from k.2] at hs; cases hs), if_neg (fun k => by rw [show isS op = true from k.2] at hs; cases hs)⟩
 rcases op_cases h1 h2 h.2 with k | k | k | k | k | k | k
 · -- loads
   obtain ⟨e3, e4⟩ := noS (by rcases k with rfl | rfl | rfl | rfl <;> rfl)
   have eT : doT F ⟨op, A, B, C, m⟩ N = memT F ⟨op, A, B, C, m⟩ N := by
     unfold doT; rw [hok, if_neg (by simp), if_pos (by unfold isL isS; rcases k with rfl | rfl | rfl | rfl <;> rfl)]
   have eF : doF F ⟨op, A, B, C, m⟩ N f l = if memT F ⟨op, A, B, C, m⟩ N = 0 then (nxt F).set A.toNat (ldV l f (reg F B.toNat) (atN F B.toNat m) op (widI op).toNat) else zF := by
     unfold doF; rw [eT]
     by_cases h0 : memT F ⟨op, A, B, C, m⟩ N = 0
     · rw [if_neg (by simpa using h0), if_pos h0]; rcases k with rfl | rfl | rfl | rfl <;> rfl
     · rw [if_pos h0, if_neg h0]
   rw [eT, eF, e3, e4]
   exact (rDo_load H F hF op A B C m h.1 k).mono fun e w' q => rxt_below H q
 · -- stores
   have eT : doT F ⟨op, A, B, C, m⟩ N = memT F ⟨op, A, B, C, m⟩ N := by
     unfold doT; rw [hok, if_neg (by simp), if_pos (by unfold isL isS; rcases k with rfl | rfl | rfl | rfl <;> rfl)]
   have hS : isS op = true := by rcases k with rfl | rfl | rfl | rfl <;> rfl
   have hA := (may_flds h.1).2.1
   have eS : (nxt F).set A.toNat (reg F A.toNat) = nxt F := by
     have hlt : A.toNat < 16 := by have := hA.1; have := hA.2; dsimp only at *; omega
     refine set_self _ _ _ ?_
     unfold nxt
     rw [List.getElem?_set_ne (by omega)]
     exact reg_get (by rw [hF.len]; omega)
   have eF : doF F ⟨op, A, B, C, m⟩ N f l = if memT F ⟨op, A, B, C, m⟩ N = 0 then (nxt F).set A.toNat (reg F A.toNat) else zF := by
     unfold doF; rw [eT, eS]
     by_cases h0 : memT F ⟨op, A, B, C, m⟩ N = 0
     · rw [if_neg (by simpa using h0), if_pos h0]; rcases k with rfl | rfl | rfl | rfl <;> rfl
     · rw [if_pos h0, if_neg h0]
   have eG : doG F ⟨op, A, B, C, m⟩ N f = if memT F ⟨op, A, B, C, m⟩ N = 0 then stoF N f (reg F A.toNat) (atN F B.toNat m) op (widI op).toNat else f := by
     unfold doG; rw [eT]
     by_cases h0 : memT F ⟨op, A, B, C, m⟩ N = 0
     · rw [if_pos ⟨h0, hS⟩, if_pos h0]
     · rw [if_neg (fun q => h0 q.1), if_neg h0]
   have eL : doL F ⟨op, A, B, C, m⟩ N l = if memT F ⟨op, A, B, C, m⟩ N = 0 then stoL N l (reg F A.toNat) (atN F B.toNat m) op (widI op).toNat else l := by
     unfold doL; rw [eT]
     by_cases h0 : memT F ⟨op, A, B, C, m⟩ N = 0
     · rw [if_pos ⟨h0, hS⟩, if_pos h0]
     · rw [if_neg (fun q => h0 q.1), if_neg h0]
   rw [eT, eF, eG, eL]
   exact rDo_store H F hF op A B C m h.1 k
 · -- branches
   obtain ⟨e3, e4⟩ := noS (by rcases k with rfl | rfl | rfl | rfl <;> rfl)
   have eT : doT F ⟨op, A, B, C, m⟩ N = 0 := by
     unfold doT; rw [hok]; rcases k with rfl | rfl | rfl | rfl <;> rfl
   have eF : doF F ⟨op, A, B, C, m⟩ N f l = bif takeR op (reg F A.toNat).cu (reg F B.toNat).cu then (nxt F).set 16 (fur F m) else nxt F := by
     unfold doF; rw [eT]
     rcases k with rfl | rfl | rfl | rfl
     all_goals
       show (if _ then _ else _) = _
       cases takeR _ (reg F A.toNat).cu (reg F B.toNat).cu <;> rfl
   rw [eT, eF, e3, e4]
   exact (rDo_br F hF op A B C m h.1 (by rcases k with rfl | rfl | rfl | rfl <;> rfl)).mono fun e w' q => rxt_below H q
 · -- nothing
   obtain ⟨e3, e4⟩ := noS (by rcases k with rfl | rfl | rfl <;> rfl)
   have eT : doT F ⟨op, A, B, C, m⟩ N = 0 := by
     unfold doT; rw [hok]; rcases k with rfl | rfl | rfl <;> rfl
   have eF : doF F ⟨op, A, B, C, m⟩ N f l = F := by
     unfold doF; rw [eT]; rcases k with rfl | rfl | rfl <;> rfl
   rw [eT, eF, e3, e4]
   exact (rDo_stay F hF op A B C m h.1 k).mono fun e w' q => rxt_below H q
 · -- jal
   subst k
   obtain ⟨e3, e4⟩ := noS rfl
   have eT : doT F ⟨29, A, B, C, m⟩ N = 0 := by unfold doT; rw [hok, if_neg (by simp), if_neg (by unfold isL isS; simp), if_neg (by simp), if_neg (by unfold isR; simp)]
   have eF : doF F ⟨29, A, B, C, m⟩ N f l = ((nxt F).set A.toNat (fur F 1)).set 16 (fur F m) := by
     unfold doF; rw [eT, if_neg (by simp), if_neg (by unfold isY; simp), if_pos rfl]
   rw [eT, eF, e3, e4]
   exact (rDo_jal F hF 29 A B C m h.1 rfl).mono fun e w' q => rxt_below H q
 · -- jalr
   subst k
   obtain ⟨e3, e4⟩ := noS rfl
   have eT : doT F ⟨30, A, B, C, m⟩ N = jmpT (reg F B.toNat) := by unfold doT; rw [hok, if_neg (by simp), if_neg (by unfold isL isS; simp), if_pos rfl]
   have eF : doF F ⟨30, A, B, C, m⟩ N f l = if jmpT (reg F B.toNat) = 0 then ((nxt F).set A.toNat (fur F 1)).set 16 (reg F B.toNat) else zF := by
     unfold doF; rw [eT]
     by_cases h0 : jmpT (reg F B.toNat) = 0
     · rw [if_neg (by simpa using h0), if_pos h0, if_neg (by unfold isY; simp), if_neg (by simp), if_pos rfl]
     · rw [if_pos h0, if_neg h0]
   rw [eT, eF, e3, e4]
   exact (rDo_jalr F hF 30 A B C m h.1 rfl).mono fun e w' q => rxt_below H q
 · -- what reckons
   obtain ⟨o1, o2, o3, o4, o5, o6, o7⟩ := reck_ops k
   obtain ⟨e3, e4⟩ := noS o6
   have eT : doT F ⟨op, A, B, C, m⟩ N = if isR op then trapR op (reg F C.toNat).cu else 0 := by
     unfold doT; rw [hok, if_neg (by simp), if_neg (by rw [show (isL op || isS op) = false from o1]; simp), if_neg o2]
   cases hr : isR op
   · have hd : isD op = true := by
       rcases k with k | k
       · rw [hr] at k; cases k
       · exact k
     have eT0 : doT F ⟨op, A, B, C, m⟩ N = 0 := by rw [eT, hr]; rfl
     have eF : doF F ⟨op, A, B, C, m⟩ N f l = (nxt F).set A.toNat (dDer F op (reg F B.toNat) (reg F C.toNat) m) := by
       unfold doF; rw [eT0, if_neg (by simp), if_neg (by rw [show isY op = false from o3]; simp), if_neg o4, if_neg o2, if_neg (by rw [show isL op = false from o5]; simp), if_neg (by rw [show isS op = false from o6]; simp), if_neg (by rw [show isT op = false from o7]; simp), if_neg (by rw [hr]; simp)]
     rw [eT0, eF, e3, e4]
     exact (rDo_der F hF op A B C m h.1 hd).mono fun e w' q => rxt_below H q
   · have eT0 : doT F ⟨op, A, B, C, m⟩ N = trapR op (reg F C.toNat).cu := by rw [eT, hr]; rfl
     have eF : doF F ⟨op, A, B, C, m⟩ N f l = if trapR op (reg F C.toNat).cu = 0 then (nxt F).set A.toNat (numC (valR op (reg F B.toNat).cu (reg F C.toNat).cu)) else zF := by
       unfold doF; rw [eT0]
       by_cases h0 : trapR op (reg F C.toNat).cu = 0
       · rw [if_neg (by simpa using h0), if_pos h0, if_neg (by rw [show isY op = false from o3]; simp), if_neg o4, if_neg o2, if_neg (by rw [show isL op = false from o5]; simp), if_neg (by rw [show isS op = false from o6]; simp), if_neg (by rw [show isT op = false from o7]; simp), if_pos hr]
       · rw [if_pos h0, if_neg h0]
     rw [eT0, eF, e3, e4]
     exact (rDo_alu F hF op A B C m h.1 hr).mono fun e w' q => rxt_below H q
end
end Go.Proofs.YtkmgdfcambdeeaaGreatDoor
