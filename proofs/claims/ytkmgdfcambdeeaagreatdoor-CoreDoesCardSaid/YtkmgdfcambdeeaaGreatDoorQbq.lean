/- For core. -/
import Derived.Test.YtkmgdfcambdeeaaGreatDoorQbf
namespace Go.Proofs.YtkmgdfcambdeeaaGreatDoor
open Lib (hid)
set_option maxRecDepth 100000
open Go.RowKit
set_option linter.unusedVariables false
section
variable {W : World} {r rb tb N g : Nat} {f : Nat → Bool} {l : List UInt8}
set_option maxHeartbeats 8000000 in
theorem rDo_load (H : RfAt W r rb tb N g f l) (F : List Cp) (hF : Fit F) (op A B C m : Int) (hm : mayB ⟨op, A, B, C, m⟩ = true) (hop : op = 17 ∨ op = 18 ∨ op = 19 ∨ op = 23) : Calls Tryz.prog 13 #[fV F, .agg #[.int .i64 op, .int .i64 A, .int .i64 B, .int .i64 C, .int .i64 m], .pointer (some ⟨r, 0, none⟩)] W fun e w' => e = .returned (.tuple #[fV (if wayT (reg F B.toNat) (atN F B.toNat m) (widI op).toNat (needN F op A.toNat) N = 0 then (nxt F).set A.toNat (ldV l f (reg F B.toNat) (atN F B.toNat m) op (widI op).toNat) else zF), .int .i64 (wayT (reg F B.toNat) (atN F B.toNat m) (widI op).toNat (needN F op A.toNat) N)]) ∧ Below W.heap.size W w' := by
 obtain ⟨_, ⟨hA0, hA1⟩, ⟨hB0, hB1⟩, ⟨hC0, hC1⟩⟩ := may_flds hm
 dsimp only at hA0 hA1 hB0 hB1 hC0 hC1
 obtain ⟨A, rfl⟩ := Int.eq_ofNat_of_zero_le hA0
 obtain ⟨B, rfl⟩ := Int.eq_ofNat_of_zero_le hB0
 obtain ⟨C, rfl⟩ := Int.eq_ofNat_of_zero_le hC0
 replace hA1 : A < 16 := by omega
 replace hB1 : B < 16 := by omega
 replace hC1 : C < 16 := by omega
 clear hA0 hB0 hC0
 simp only [Int.toNat_natCast]
 have k0 := hid (start_do F op A B C m W)
 have hM := hid (fun w => iMay_any op A B C m w)
 rw [hm] at hM
 have hNx := hid (fun w => rNext_any F hF w)
 have hN : (nxt F).length = 17 := by unfold nxt; rw [List.length_set]; exact hF.len
 generalize nxt F = X at *
 have sz := size_fr hF.len
 have sa := size_fa hF.len
 have oF := one_fr F
 have sX := size_fa hN
 have oX := one_fr X
 have hWd := hid (fun w => rWidth_any op w)
 have gA := hid (reg_get (F := F) (i := A) (by rw [hF.len]; omega))
 have gB := hid (reg_get (F := F) (i := B) (by rw [hF.len]; omega))
 have gC := hid (reg_get (F := F) (i := C) (by rw [hF.len]; omega))
 have hn1 : 0 < (widI op).toNat ∧ (widI op).toNat ≤ 16 := by rcases hop with rfl | rfl | rfl | rfl <;> decide
 have hnI : widI op = ((widI op).toNat : Int) := by rcases hop with rfl | rfl | rfl | rfl <;> rfl
 have hMm := hid (fun (w : World) (H : RfAt w r rb tb N g f l) => rmem_load H F hF op A B C hA1 hB1 m (widI op).toNat hnI hn1 hop)
 rw [hnI] at hWd
 generalize (widI op).toNat = n at *
 generalize hT0 : wayT (reg F B) (atN F B m) n (needN F op A) N = t at *
 obtain ⟨d, hd⟩ : ∃ d, d = if t = 0 then ldV l f (reg F B) (atN F B m) op n else zC := ⟨_, rfl⟩
 rw [← hd] at hMm
 obtain ⟨R, hR⟩ : ∃ R, R = if t = 0 then X.set A (ldV l f (reg F B) (atN F B m) op n) else zF := ⟨_, rfl⟩
 rw [← hR]
 have hRx := hid (show t = 0 → X.set A d = R from fun h0 => by rw [hR, hd, if_pos h0, if_pos h0])
 have hRz := hid (show t ≠ 0 → zF = R from fun h0 => by rw [hR, if_neg h0])
 clear hR hd hT0
 have jn : (0 : Int) < (n : Int) := by omega
 replace H := hid H
 generalize reg F A = ra at *
 generalize reg F B = rb at *
 generalize reg F C = rc at *
 clear hm
 unfold fV
 go_enter Tryz.func13, Tryz.ntmps13
 go_upto_region 1 with (fail)
 generalize (((W.alloc (.cells (fC F).toArray 28)).alloc _).alloc _) = w1 at k0 ⊢
 have i0 := k0.out.cell (g := W.heap.size + 1) (j := 0) (u := .int .i64 op) (ir op A B C m) (by simp) rfl
 have i1 := k0.out.cell (g := W.heap.size + 1) (j := 1) (u := .int .i64 A) (ir op A B C m) (by simp) rfl
 have i2 := k0.out.cell (g := W.heap.size + 1) (j := 2) (u := .int .i64 B) (ir op A B C m) (by simp) rfl
 have i3 := k0.out.cell (g := W.heap.size + 1) (j := 3) (u := .int .i64 C) (ir op A B C m) (by simp) rfl
 have i4 := k0.out.cell (g := W.heap.size + 1) (j := 4) (u := .int .i64 m) (ir op A B C m) (by simp) rfl
 go_wp2_with fail
 refine (hM.out _).mono ?_
 rintro ee w2 ⟨rfl, h2⟩
 have k2 := hid (k0.out.below h2)
 clear h2 k0 i0 i1 i2 i3 i4 hM
 have i0 := k2.out.cell (g := W.heap.size + 1) (j := 0) (u := .int .i64 op) (ir op A B C m) (by simp) rfl
 have n0 : (op == 0) = false := by simp; omega
 have n53 : (op == 53) = false := by simp; omega
 go_upto_region 3 with (fail)
 have rg := k2.out.range (g := W.heap.size) (vs := fC F) (by simp)
 clear i0
 go_wp2_with ((with_reducible show wpList _ _ _ _ _ _); refine wpList_load_mid rfl 28 _ rfl W.heap.size 0 rfl (fC F) _ rg Tryz.underlying28 rfl sz ?_)
 refine (hNx.out _).mono ?_
 rintro ee w3 ⟨rfl, h3⟩
 have k3 := hid (k2.out.below h3)
 clear h3 k2 rg hNx
 have k4 := k3.out.push (fC zF) 28
 rw [← zero_fr] at k4
 have th := k4.there (g := w3.heap.size) (vs := fC zF) (List.mem_cons_self ..) 0 136 (by rw [fC_len]; decide)
 have q1 := k3.out.lt (g := W.heap.size + 2) (vs := fC zF) (by simp)
 have k5 := hid (k4.putA (fC X) (by omega) (fun x hx => by
   simp only [List.mem_cons, List.not_mem_nil, or_false] at hx
   rcases hx with rfl | rfl | rfl <;> simp only [ne_eq] <;> omega) (by rw [fC_len, fC_len, hN]; rfl))
 have th' : (w3.alloc (.cells Tryz.zeroCells28 28)).there w3.heap.size 0 (fC X).toArray.size := by rw [show (fC X).toArray.size = 136 from by rw [List.size_toArray, fC_len, hN]]; exact th
 clear k4 th k3
 go_upto_region 4 with ((with_reducible show wpList _ _ _ _ _ _); refine wpList_store_mid rfl 28 _ _ rfl w3.heap.size 0 (fC X).toArray rfl rfl th' sX oX ?_; clear th'; change wpList _ _ _ _ _ ((w3.alloc (.cells Tryz.zeroCells28 28)).setCells w3.heap.size 0 (fC X)); generalize (w3.alloc (.cells Tryz.zeroCells28 28)).setCells w3.heap.size 0 (fC X) = w4 at k5 ⊢; generalize w3.heap.size = q at k5 q1 ⊢)
 have n50 : (op == 50) = false := by simp; omega
 have n51 : (op == 51) = false := by simp; omega
 have n52 : (op == 52) = false := by simp; omega
 have n29 : (op == 29) = false := by simp; omega
 have n30 : (op == 30) = false := by simp; omega
 have i0 := k5.out.cell (g := W.heap.size + 1) (j := 0) (u := .int .i64 op) (ir op A B C m) (by simp) rfl
 have i1 := k5.out.cell (g := W.heap.size + 1) (j := 1) (u := .int .i64 A) (ir op A B C m) (by simp) rfl
 have i2 := k5.out.cell (g := W.heap.size + 1) (j := 2) (u := .int .i64 B) (ir op A B C m) (by simp) rfl
 have i3 := k5.out.cell (g := W.heap.size + 1) (j := 3) (u := .int .i64 C) (ir op A B C m) (by simp) rfl
 have i4 := k5.out.cell (g := W.heap.size + 1) (j := 4) (u := .int .i64 m) (ir op A B C m) (by simp) rfl
 obtain ⟨a0, _⟩ := k5.out.reg (g := W.heap.size) (F := F) (by simp) gA.out
 obtain ⟨b0, _⟩ := k5.out.reg (g := W.heap.size) (F := F) (by simp) gB.out
 obtain ⟨c0, _⟩ := k5.out.reg (g := W.heap.size) (F := F) (by simp) gC.out
 go_wp2_with fail
 refine (hWd.out _).mono ?_
 rintro ee w5 ⟨rfl, rfl⟩
 have H5 := hid (H.out.below k5.out.bl)
 have rg := k5.out.range (g := W.heap.size) (vs := fC F) (by simp)
 clear a0 b0 c0
 go_wp2_with ((with_reducible show wpList _ _ _ _ _ _); refine wpList_load_mid rfl 28 _ rfl W.heap.size 0 rfl (fC F) _ rg Tryz.underlying28 rfl sz ?_)
 refine (hMm.out _ H5.out).mono ?_
 rintro ee w7 ⟨rfl, h7⟩
 have k7 := hid (k5.out.below h7)
 clear h7 k5 rg i0 i1 i2 i3 i4 hMm H5
 have q2 := k7.out.lt (g := q) (vs := fC X) (by simp)
 have q3 := k7.out.lt (g := W.heap.size + 2) (vs := fC zF) (by simp)
 have k7a := k7.out.push zC.C 25
 have th := k7a.there (g := w7.heap.size) (vs := zC.C) (List.mem_cons_self ..) 0 8 (by decide)
 have k8 := hid (k7a.putA d.C (by omega) (fun x hx => by
   simp only [List.mem_cons, List.not_mem_nil, or_false] at hx
   rcases hx with rfl | rfl | rfl | rfl <;> simp only [ne_eq] <;> omega) rfl)
 have s1 := size_ca d
 have o1 := one_cp d
 clear k7a k7
 by_cases ht : t = 0
 case neg =>
   have ht' : (t == 0) = false := by simpa using ht
   have hZ := hid (hRz.out ht)
   have zs : (Tryz.prog.info? 28).map (·.size) = some (Tryz.zeroCells28).size := by rw [zero_fr]; exact size_fa (F := zF) rfl
   have zo : (Tryz.zeroCells28).all (·.oneCell') = true := by rw [zero_fr]; exact one_fr zF
   clear ht
   go_wp2_with ((with_reducible show wpList _ _ _ _ _ _); first | (refine wpList_store_mid rfl 25 _ _ rfl w7.heap.size 0 d.C.toArray rfl rfl th s1 o1 ?_; clear th s1 o1; change wpList _ _ _ _ _ ((w7.alloc (.cells zC.C.toArray 25)).setCells w7.heap.size 0 d.C); generalize (w7.alloc (.cells zC.C.toArray 25)).setCells w7.heap.size 0 d.C = w8 at k8 ⊢; generalize w7.heap.size = z at k8 q2 q3 ⊢; have th' : w8.there (W.heap.size + 2) 0 (Tryz.zeroCells28).size := (by rw [show (Tryz.zeroCells28).size = 136 from by rw [zero_fr, List.size_toArray, fC_len]; rfl]; exact k8.out.there (g := W.heap.size + 2) (vs := fC zF) (by simp) 0 136 (by rw [fC_len]; decide)); have k9 := hid ((k8.out.sub (L' := [⟨W.heap.size + 2, fC zF⟩]) (by simp)).putA (fC zF) (by simp) (by simp) rfl); have hz := hid (show w8.setCells (W.heap.size + 2) 0 (Tryz.zeroCells28).toList = w8.setCells (W.heap.size + 2) 0 (fC zF) from by rw [zero_fr])) | (refine wpList_store_mid rfl 28 _ _ rfl (W.heap.size + 1 + 1) 0 Tryz.zeroCells28 rfl rfl th' zs zo ?_; clear th' zs zo; change wpList _ _ _ _ _ (w8.setCells (W.heap.size + 2) 0 (Tryz.zeroCells28).toList); rw [hz.out]; generalize w8.setCells (W.heap.size + 2) 0 (fC zF) = wf at k9 ⊢))
   exact bodyPost_ret (v := .tuple #[fV zF, .int .i64 t]) (res_two Tryz.results13 rfl rfl (load_fr k9.out (List.mem_cons_self ..) rfl)) rfl ⟨by rw [hZ.out]; rfl, k9.out.bl⟩
 subst ht
 obtain ⟨Y, hY⟩ : ∃ Y, Y = X.set A d := ⟨_, rfl⟩
 have hYl : Y.length = 17 := by rw [hY, List.length_set]; exact hN
 have hYR := hid (show Y = R from hY.trans (hRx.out rfl))
 have szY := size_fr hYl
 have sa := size_fa hYl
 have oY := one_fr Y
 have s2 := size_ca d
 have o2 := one_cp d
 have jA0 : (0 : Int) ≤ (A : Int) := by omega
 have jA1 : (A : Int) < 16 := by omega
 go_wp2_with ((with_reducible show wpList _ _ _ _ _ _); first | (refine wpList_store_mid rfl 25 _ _ rfl w7.heap.size 0 d.C.toArray rfl rfl th s1 o1 ?_; clear th s1 o1; change wpList _ _ _ _ _ ((w7.alloc (.cells zC.C.toArray 25)).setCells w7.heap.size 0 d.C); generalize (w7.alloc (.cells zC.C.toArray 25)).setCells w7.heap.size 0 d.C = w8 at k8 ⊢; generalize w7.heap.size = z at k8 q2 q3 ⊢; have i1 := k8.out.cell (g := W.heap.size + 1) (j := 1) (u := .int .i64 A) (ir _ A B C m) (List.mem_cons_of_mem _ (List.mem_cons_of_mem _ (List.mem_cons_of_mem _ (List.mem_cons_self ..)))) rfl; obtain ⟨c0, c1, c2, c3, c4, c5, c6, c7⟩ := (k8.out.cap (g := z) (List.mem_cons_self ..) : CapAt _ _ d.cu d.e d.b d.t d.pm d.ty d.rs d.va); have thq := k8.out.there (g := q) (vs := fC X) (by simp) (A * 8) 8 (by rw [fC_len, hN]; omega); have kq := hid (k8.out.swap.putF (by omega) (fun x hx => (by simp only [List.mem_cons, List.not_mem_nil, or_false] at hx; rcases hx with rfl | rfl | rfl | rfl <;> simp only [ne_eq] <;> omega)) A d (by rw [hN]; omega)); rw [← hY] at kq) | (refine wpList_store_mid rfl 25 _ _ rfl q (A * 8) d.C.toArray rfl rfl thq s2 o2 ?_; clear thq s2 o2 i1 c0 c1 c2 c3 c4 c5 c6 c7; change wpList _ _ _ _ _ (w8.setCells q (A * 8) d.C); generalize w8.setCells q (A * 8) d.C = wa at kq ⊢; have rq := kq.out.range (g := q) (vs := fC Y) (List.mem_cons_self ..); have th' : wa.there (W.heap.size + 2) 0 (fC Y).toArray.size := (by rw [show (fC Y).toArray.size = 136 from by rw [List.size_toArray, fC_len, hYl]]; exact kq.out.there (g := W.heap.size + 2) (vs := fC zF) (by simp) 0 136 (by rw [fC_len]; decide)); have kz := hid ((kq.out.sub (L' := [⟨W.heap.size + 2, fC zF⟩]) (by simp)).putA (fC Y) (by simp) (by simp) (by rw [fC_len, fC_len, hYl]; rfl))) | (refine wpList_load_mid rfl 28 _ rfl q 0 rfl (fC Y) _ rq Tryz.underlying28 rfl szY ?_) | (refine wpList_store_mid rfl 28 _ _ rfl (W.heap.size + 1 + 1) 0 (fC Y).toArray rfl rfl th' sa oY ?_; clear th' rq sa oY szY; change wpList _ _ _ _ _ (wa.setCells (W.heap.size + 2) 0 (fC Y)); generalize wa.setCells (W.heap.size + 2) 0 (fC Y) = wf at kz ⊢))
 exact bodyPost_ret (v := .tuple #[fV Y, .int .i64 0]) (res_two Tryz.results13 rfl rfl (load_fr kz.out (List.mem_cons_self ..) hYl)) rfl ⟨by rw [hYR.out]; rfl, kz.out.bl⟩
end
end Go.Proofs.YtkmgdfcambdeeaaGreatDoor
