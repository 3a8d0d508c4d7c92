/- For core. -/
import Derived.Test.YtkmgdfcambdeeaaGreatDoorQbf
namespace Go.Proofs.YtkmgdfcambdeeaaGreatDoor
open Lib (hid)
set_option maxRecDepth 100000
open Go.RowKit
set_option linter.unusedVariables false
theorem isD_ops {op : Int} (h : isD op = true) : (op ≠ 0 ∧ op ≠ 53 ∧ op ≠ 50 ∧ op ≠ 51 ∧ op ≠ 52 ∧ op ≠ 29 ∧ op ≠ 30) ∧ True ∧ widI op = 0 ∧ isT op = false ∧ isR op = false := by
 unfold isD at h
 replace h := of_decide_eq_true h
 refine ⟨by omega, trivial, ?_, decide_eq_false (by omega), decide_eq_false (by omega)⟩
 unfold widI
 rw [if_neg (by omega), if_neg (by omega), if_neg (by omega), if_neg (by omega)]
section
variable {W : World} {r : Nat}
set_option maxHeartbeats 4000000 in
theorem rDo_der (F : List Cp) (hF : Fit F) (op A B C m : Int) (hm : mayB ⟨op, A, B, C, m⟩ = true) (hop : isD op = true) : Calls Tryz.prog 13 #[fV F, .agg #[.int .i64 op, .int .i64 A, .int .i64 B, .int .i64 C, .int .i64 m], .pointer (some ⟨r, 0, none⟩)] W fun e w' => e = .returned (.tuple #[fV ((nxt F).set A.toNat (dDer F op (reg F B.toNat) (reg F C.toNat) m)), .int .i64 0]) ∧ Below W.heap.size W w' := by
 obtain ⟨_, ⟨hA0, hA1⟩, ⟨hB0, hB1⟩, ⟨hC0, hC1⟩⟩ := may_flds hm
 dsimp only at hA0 hA1 hB0 hB1 hC0 hC1
 obtain ⟨A, rfl⟩ := Int.eq_ofNat_of_zero_le hA0
 obtain ⟨B, rfl⟩ := Int.eq_ofNat_of_zero_le hB0
 obtain ⟨C, rfl⟩ := Int.eq_ofNat_of_zero_le hC0
 replace hA1 : A < 16 := by omega
 replace hB1 : B < 16 := by omega
 replace hC1 : C < 16 := by omega
 clear hA0 hB0 hC0
 simp only [Int.toNat_natCast]
 have hopN := isD_ops hop
 have k0 := hid (start_do F op A B C m W)
 have hM := hid (fun w => iMay_any op A B C m w)
 rw [hm] at hM
 have hNx := hid (fun w => rNext_any F hF w)
 have hN : (nxt F).length = 17 := by unfold nxt; rw [List.length_set]; exact hF.len
 generalize nxt F = X at *
 have sz := size_fr hF.len
 have sa := size_fa hF.len
 have oF := one_fr F
 have sX := size_fa hN
 have oX := one_fr X
 have hD := hid (fun w => rDer_any F hF op A B C hA1 hB1 hC1 m w)
 rw [hop] at hD
 obtain ⟨d, hd⟩ : ∃ d, d = dDer F op (reg F B) (reg F C) m := ⟨_, rfl⟩
 rw [← hd] at hD ⊢
 have hWd := hid (fun w => rWidth_any op w)
 rw [hopN.2.2.1] at hWd
 have gA := hid (reg_get (F := F) (i := A) (by rw [hF.len]; omega))
 have gB := hid (reg_get (F := F) (i := B) (by rw [hF.len]; omega))
 have gC := hid (reg_get (F := F) (i := C) (by rw [hF.len]; omega))
 have hTk := hid (fun w => rtakes_any op (reg F A).cu (reg F B).cu (hF.reg A).l0 (hF.reg B).l0 w)
 have hRk := hid (fun w => rreckon_any op (reg F B).cu (reg F C).cu (hF.reg B).l0 (hF.reg C).l0 w)
 rw [hopN.2.2.2.1] at hTk
 rw [hopN.2.2.2.2] at hRk
 generalize reg F A = ra at *
 generalize reg F B = rb at *
 generalize reg F C = rc at *
 replace hopN := hopN.1
 clear hm hd hop
 unfold fV
 go_enter Tryz.func13, Tryz.ntmps13
 go_upto_region 1 with (fail)
 generalize (((W.alloc (.cells (fC F).toArray 28)).alloc _).alloc _) = w1 at k0 ⊢
 have i0 := k0.out.cell (g := W.heap.size + 1) (j := 0) (u := .int .i64 op) (ir op A B C m) (by simp) rfl
 have i1 := k0.out.cell (g := W.heap.size + 1) (j := 1) (u := .int .i64 A) (ir op A B C m) (by simp) rfl
 have i2 := k0.out.cell (g := W.heap.size + 1) (j := 2) (u := .int .i64 B) (ir op A B C m) (by simp) rfl
 have i3 := k0.out.cell (g := W.heap.size + 1) (j := 3) (u := .int .i64 C) (ir op A B C m) (by simp) rfl
 have i4 := k0.out.cell (g := W.heap.size + 1) (j := 4) (u := .int .i64 m) (ir op A B C m) (by simp) rfl
 go_wp2_with fail
 refine (hM.out _).mono ?_
 rintro ee w2 ⟨rfl, h2⟩
 have k2 := hid (k0.out.below h2)
 clear h2 k0 i0 i1 i2 i3 i4 hM
 have i0 := k2.out.cell (g := W.heap.size + 1) (j := 0) (u := .int .i64 op) (ir op A B C m) (by simp) rfl
 have n0 : (op == 0) = false := by simp; omega
 have n53 : (op == 53) = false := by simp; omega
 go_upto_region 3 with (fail)
 have rg := k2.out.range (g := W.heap.size) (vs := fC F) (by simp)
 clear i0
 go_wp2_with ((with_reducible show wpList _ _ _ _ _ _); refine wpList_load_mid rfl 28 _ rfl W.heap.size 0 rfl (fC F) _ rg Tryz.underlying28 rfl sz ?_)
 refine (hNx.out _).mono ?_
 rintro ee w3 ⟨rfl, h3⟩
 have k3 := hid (k2.out.below h3)
 clear h3 k2 rg hNx
 have k4 := k3.out.push (fC zF) 28
 rw [← zero_fr] at k4
 have th := k4.there (g := w3.heap.size) (vs := fC zF) (List.mem_cons_self ..) 0 136 (by rw [fC_len]; decide)
 have q1 := k3.out.lt (g := W.heap.size + 2) (vs := fC zF) (by simp)
 have k5 := hid (k4.putA (fC X) (by omega) (fun x hx => by
   simp only [List.mem_cons, List.not_mem_nil, or_false] at hx
   rcases hx with rfl | rfl | rfl <;> simp only [ne_eq] <;> omega) (by rw [fC_len, fC_len, hN]; rfl))
 have th' : (w3.alloc (.cells Tryz.zeroCells28 28)).there w3.heap.size 0 (fC X).toArray.size := by rw [show (fC X).toArray.size = 136 from by rw [List.size_toArray, fC_len, hN]]; exact th
 clear k4 th k3
 go_upto_region 4 with ((with_reducible show wpList _ _ _ _ _ _); refine wpList_store_mid rfl 28 _ _ rfl w3.heap.size 0 (fC X).toArray rfl rfl th' sX oX ?_; clear th'; change wpList _ _ _ _ _ ((w3.alloc (.cells Tryz.zeroCells28 28)).setCells w3.heap.size 0 (fC X)); generalize (w3.alloc (.cells Tryz.zeroCells28 28)).setCells w3.heap.size 0 (fC X) = w4 at k5 ⊢; generalize w3.heap.size = q at k5 q1 ⊢)
 have n50 : (op == 50) = false := by simp; omega
 have n51 : (op == 51) = false := by simp; omega
 have n52 : (op == 52) = false := by simp; omega
 have n29 : (op == 29) = false := by simp; omega
 have n30 : (op == 30) = false := by simp; omega
 have i0 := k5.out.cell (g := W.heap.size + 1) (j := 0) (u := .int .i64 op) (ir op A B C m) (by simp) rfl
 have i1 := k5.out.cell (g := W.heap.size + 1) (j := 1) (u := .int .i64 A) (ir op A B C m) (by simp) rfl
 have i2 := k5.out.cell (g := W.heap.size + 1) (j := 2) (u := .int .i64 B) (ir op A B C m) (by simp) rfl
 have i3 := k5.out.cell (g := W.heap.size + 1) (j := 3) (u := .int .i64 C) (ir op A B C m) (by simp) rfl
 have i4 := k5.out.cell (g := W.heap.size + 1) (j := 4) (u := .int .i64 m) (ir op A B C m) (by simp) rfl
 obtain ⟨a0, _⟩ := k5.out.reg (g := W.heap.size) (F := F) (by simp) gA.out
 obtain ⟨b0, _⟩ := k5.out.reg (g := W.heap.size) (F := F) (by simp) gB.out
 obtain ⟨c0, _⟩ := k5.out.reg (g := W.heap.size) (F := F) (by simp) gC.out
 go_wp2_with fail
 refine (hWd.out _).mono ?_
 rintro ee w5 ⟨rfl, rfl⟩
 obtain ⟨S, hS0⟩ : ∃ S : World → Prop, S = fun w => KR W [⟨q, fC X⟩, ⟨W.heap.size + 2, fC zF⟩, ⟨W.heap.size + 1, ir op A B C m⟩, ⟨W.heap.size, fC F⟩] w := ⟨_, rfl⟩
 have hK : ∀ w, S w → KR W [⟨q, fC X⟩, ⟨W.heap.size + 2, fC zF⟩, ⟨W.heap.size + 1, ir op A B C m⟩, ⟨W.heap.size, fC F⟩] w := fun w h => by rw [hS0] at h; exact h
 have hS : ∀ u v, S u → Below u.heap.size u v → S v := fun u v h k => by rw [hS0] at h ⊢; exact h.below k
 have s0 : S w4 := by rw [hS0]; exact k5.out
 clear hS0 i0 i1 i2 i3 i4 a0 b0 c0 k5
 have cT := hid (cls_call (S := S) fun w hw => (hTk.out w).mono fun e w' k => (⟨k.1, k.2 ▸ hw⟩ : _ ∧ S w'))
 have cR := hid (cls_call (S := S) fun w hw => (hRk.out w).mono fun e w' k => (⟨k.1, hS _ _ hw k.2⟩ : _ ∧ S w'))
 have HS := hid hS
 have HK := hid hK
 have ii : ∀ (j : Nat) (u : Value), (ir op A B C m)[j]? = some u → ∀ y : Wd S, y.w.cell? ⟨W.heap.size + 1, j, none⟩ = some u := fun j u hu y => (hK _ y.h).cell (ir op A B C m) (by simp) hu
 have i0 := ii 0 _ rfl
 have i1 := ii 1 _ rfl
 have i2 := ii 2 _ rfl
 have i3 := ii 3 _ rfl
 have i4 := ii 4 _ rfl
 have a0 : ∀ y : Wd S, y.w.cell? ⟨W.heap.size, A * 8, none⟩ = some (.int .u32 ra.cu) := fun y => ((hK _ y.h).reg (g := W.heap.size) (F := F) (by simp) gA.out).1
 have b0 : ∀ y : Wd S, y.w.cell? ⟨W.heap.size, B * 8, none⟩ = some (.int .u32 rb.cu) := fun y => ((hK _ y.h).reg (g := W.heap.size) (F := F) (by simp) gB.out).1
 have c0 : ∀ y : Wd S, y.w.cell? ⟨W.heap.size, C * 8, none⟩ = some (.int .u32 rc.cu) := fun y => ((hK _ y.h).reg (g := W.heap.size) (F := F) (by simp) gC.out).1
 clear hK hS ii
 go_wp2_with fail
 refine region_cls S (by kernel_rfl) (by kernel_rfl) (HS.out _ _ s0 (Below.refl _ _).drew) ?_
 repeat (first
   | go_big_quiet_skip
   | (go_big_quiet_want
      go_big_quiet_op
      first
      | go_big_quiet_on
      | (apply Exists.intro
         refine ⟨fun y => ?_, ?_⟩
         · first | exact rfl | with_reducible exact cT.out y | with_reducible exact cR.out y | exact cT.out y | exact cR.out y
         go_big_quiet_on)))
 refine wpQuiet_nil ?_
 intro y
 clear s0
 go_wp2_with fail
 refine region_cls S (by kernel_rfl) (by kernel_rfl) (HS.out _ _ y.h (Below.refl _ _).drew) ?_
 repeat (first
   | go_big_quiet_skip
   | (go_big_quiet_want
      go_big_quiet_op
      first
      | go_big_quiet_on
      | (apply Exists.intro
         refine ⟨fun y => ?_, ?_⟩
         · first | exact rfl | with_reducible exact cT.out y | with_reducible exact cR.out y | exact cT.out y | exact cR.out y
         go_big_quiet_on)))
 refine wpQuiet_nil ?_
 intro y
 have k6 := HK.out _ y.h
 generalize y.w = w6 at k6 ⊢
 clear y i0 i1 i2 i3 i4 a0 b0 c0 cT cR HS HK hTk hRk
 replace k6 := hid k6
 have rg := k6.out.range (g := W.heap.size) (vs := fC F) (by simp)
 have i0 := k6.out.cell (g := W.heap.size + 1) (j := 0) (u := .int .i64 op) (ir op A B C m) (by simp) rfl
 have i1 := k6.out.cell (g := W.heap.size + 1) (j := 1) (u := .int .i64 A) (ir op A B C m) (by simp) rfl
 have i2 := k6.out.cell (g := W.heap.size + 1) (j := 2) (u := .int .i64 B) (ir op A B C m) (by simp) rfl
 have i3 := k6.out.cell (g := W.heap.size + 1) (j := 3) (u := .int .i64 C) (ir op A B C m) (by simp) rfl
 have i4 := k6.out.cell (g := W.heap.size + 1) (j := 4) (u := .int .i64 m) (ir op A B C m) (by simp) rfl
 go_wp2_with ((with_reducible show wpList _ _ _ _ _ _); refine wpList_load_mid rfl 28 _ rfl W.heap.size 0 rfl (fC F) _ rg Tryz.underlying28 rfl sz ?_)
 refine (hD.out _).mono ?_
 rintro ee w7 ⟨rfl, h7⟩
 have k7 := hid (k6.out.below h7)
 clear h7 k6 rg i0 i1 i2 i3 i4 hD sX oX sa oF sz
 have s1 := size_ca d
 have o1 := one_cp d
 have k7a := k7.out.push zC.C 25
 have th0 := k7a.there (g := w7.heap.size) (vs := zC.C) (List.mem_cons_self ..) 0 8 (by decide)
 have q3 := k7.out.lt (g := q) (vs := fC X) (by simp)
 have q4 := k7.out.lt (g := W.heap.size + 2) (vs := fC zF) (by simp)
 have k7b := hid (k7a.putA d.C (by omega) (fun x hx => by
   simp only [List.mem_cons, List.not_mem_nil, or_false] at hx
   rcases hx with rfl | rfl | rfl | rfl <;> simp only [ne_eq] <;> omega) rfl)
 change (w7.alloc (.cells #[.int .u32 0, .int .u8 0, .int .u16 0, .int .u16 0, .int .u16 0, .int .u16 0, .int .u32 0, .bool false] 25)).there w7.heap.size 0 8 at th0
 clear k7a k7
 go_upto_region 38 with ((with_reducible show wpList _ _ _ _ _ _); refine wpList_store_mid rfl 25 _ _ rfl w7.heap.size 0 d.C.toArray rfl rfl th0 s1 o1 ?_; clear th0; change wpList _ _ _ _ _ ((w7.alloc (.cells zC.C.toArray 25)).setCells w7.heap.size 0 d.C); generalize (w7.alloc (.cells zC.C.toArray 25)).setCells w7.heap.size 0 d.C = w7' at k7b ⊢; generalize w7.heap.size = z at k7b q3 q4 ⊢)
 have k7 : KR W (⟨q, fC X⟩ :: ⟨z, d.C⟩ :: _) w7' := k7b.out.swap
 obtain ⟨c0, c1, c2, c3, c4, c5, c6, c7⟩ := (k7.cap (g := z) (by simp [Cp.C]) : CapAt _ _ d.cu d.e d.b d.t d.pm d.ty d.rs d.va)
 have i1 := k7.cell (g := W.heap.size + 1) (j := 1) (u := .int .i64 A) (ir op A B C m) (by simp) rfl
 have th := k7.there (g := q) (vs := fC X) (by simp) (A * 8) 8 (by rw [fC_len, hN]; omega)
 have k8 := hid (k7.putF (by omega) (fun x hx => by
   simp only [List.mem_cons, List.not_mem_nil, or_false] at hx
   rcases hx with rfl | rfl | rfl | rfl <;> simp only [ne_eq] <;> omega) A d (by rw [hN]; omega))
 clear k7 k7b
 obtain ⟨Y, hY⟩ : ∃ Y, Y = X.set A d := ⟨_, rfl⟩
 have hYl : Y.length = 17 := by rw [hY, List.length_set]; exact hN
 rw [← hY] at k8
 replace hY := hid hY
 go_upto_region 39 with ((with_reducible show wpList _ _ _ _ _ _); refine wpList_store_mid rfl 25 _ _ rfl q (A * 8) d.C.toArray rfl rfl th s1 o1 ?_; clear th s1 o1 i1 c0 c1 c2 c3 c4 c5 c6 c7; change wpList _ _ _ _ _ (w7'.setCells q (A * 8) d.C); generalize w7'.setCells q (A * 8) d.C = w8 at k8 ⊢)
 have sz := size_fr hYl
 have sa := size_fa hYl
 have oY := one_fr Y
 have rg := k8.out.range (g := q) (vs := fC Y) (by simp)
 have th := k8.out.there (g := W.heap.size + 2) (vs := fC zF) (by simp) 0 136 (by rw [fC_len]; decide)
 have th' : w8.there (W.heap.size + 2) 0 (fC Y).toArray.size := by rw [show (fC Y).toArray.size = 136 from by rw [List.size_toArray, fC_len, hYl]]; exact th
 have k9 := hid ((k8.out.sub (L' := [⟨W.heap.size + 2, fC zF⟩]) (by simp)).putA (fC Y) (by simp) (by simp) (by rw [fC_len, fC_len, hYl]; rfl))
 clear k8 th q1
 go_wp2_with ((with_reducible show wpList _ _ _ _ _ _); first | (refine wpList_load_mid rfl 28 _ rfl q 0 rfl (fC Y) _ rg Tryz.underlying28 rfl sz ?_) | (refine wpList_store_mid rfl 28 _ _ rfl (W.heap.size + 1 + 1) 0 (fC Y).toArray rfl rfl th' sa oY ?_; clear th' rg sa oY sz; change wpList _ _ _ _ _ (w8.setCells (W.heap.size + 2) 0 (fC Y)); generalize w8.setCells (W.heap.size + 2) 0 (fC Y) = wf at k9 ⊢))
 exact bodyPost_ret (v := .tuple #[fV Y, .int .i64 0]) (res_two Tryz.results13 rfl rfl (load_fr k9.out (List.mem_cons_self ..) hYl)) rfl ⟨by rw [hY.out]; rfl, k9.out.bl⟩
end
end Go.Proofs.YtkmgdfcambdeeaaGreatDoor
