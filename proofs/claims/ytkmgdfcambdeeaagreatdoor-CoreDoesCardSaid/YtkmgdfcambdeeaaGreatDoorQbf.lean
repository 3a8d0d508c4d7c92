/- For core. -/
import Derived.Test.YtkmgdfcambdeeaaGreatDoorQaz
namespace Go.Proofs.YtkmgdfcambdeeaaGreatDoor
open Lib (hid)
set_option maxRecDepth 100000
open Go.RowKit
set_option linter.unusedVariables false
theorem start_do (F : List Cp) (op A B C m : Int) (W : World) : KR W [⟨W.heap.size + 2, fC zF⟩, ⟨W.heap.size + 1, ir op A B C m⟩, ⟨W.heap.size, fC F⟩] (((W.alloc (.cells (fC F).toArray 28)).alloc (.cells #[.int .i64 op, .int .i64 A, .int .i64 B, .int .i64 C, .int .i64 m] 30)).alloc (.cells Tryz.zeroCells28 28)) := by
 have := (((KR.start (W := W)).push (fC F) 28).push (ir op A B C m) 30).push (fC zF) 28
 rw [show ((W.alloc (Obj.cells (fC F).toArray 28)).alloc (Obj.cells (ir op A B C m).toArray 30)).heap.size = W.heap.size + 2 from by simp, show (W.alloc (Obj.cells (fC F).toArray 28)).heap.size = W.heap.size + 1 from by simp, ← zero_fr] at this
 exact this
section
variable {W : World} {r : Nat}
set_option maxHeartbeats 4000000 in
theorem rDo_stay (F : List Cp) (hF : Fit F) (op A B C m : Int) (hm : mayB ⟨op, A, B, C, m⟩ = true) (hop : op = 50 ∨ op = 51 ∨ op = 52) : Calls Tryz.prog 13 #[fV F, .agg #[.int .i64 op, .int .i64 A, .int .i64 B, .int .i64 C, .int .i64 m], .pointer (some ⟨r, 0, none⟩)] W fun e w' => e = .returned (.tuple #[fV F, .int .i64 0]) ∧ Below W.heap.size W w' := by
 have k0 := hid (start_do F op A B C m W)
 have hM := hid (fun w => iMay_any op A B C m w)
 rw [hm] at hM
 have hNx := hid (fun w => rNext_any F hF w)
 have hN : (nxt F).length = 17 := by unfold nxt; rw [List.length_set]; exact hF.len
 generalize nxt F = X at *
 have sz := size_fr hF.len
 have sa := size_fa hF.len
 have oF := one_fr F
 have sX := size_fa hN
 have oX := one_fr X
 clear hm
 unfold fV
 go_enter Tryz.func13, Tryz.ntmps13
 go_upto_region 1 with (fail)
 generalize (((W.alloc (.cells (fC F).toArray 28)).alloc _).alloc _) = w1 at k0 ⊢
 have i0 := k0.out.cell (g := W.heap.size + 1) (j := 0) (u := .int .i64 op) (ir op A B C m) (by simp) rfl
 have i1 := k0.out.cell (g := W.heap.size + 1) (j := 1) (u := .int .i64 A) (ir op A B C m) (by simp) rfl
 have i2 := k0.out.cell (g := W.heap.size + 1) (j := 2) (u := .int .i64 B) (ir op A B C m) (by simp) rfl
 have i3 := k0.out.cell (g := W.heap.size + 1) (j := 3) (u := .int .i64 C) (ir op A B C m) (by simp) rfl
 have i4 := k0.out.cell (g := W.heap.size + 1) (j := 4) (u := .int .i64 m) (ir op A B C m) (by simp) rfl
 go_wp2_with fail
 refine (hM.out _).mono ?_
 rintro ee w2 ⟨rfl, h2⟩
 have k2 := hid (k0.out.below h2)
 clear h2 k0 i0 i1 i2 i3 i4 hM
 have i0 := k2.out.cell (g := W.heap.size + 1) (j := 0) (u := .int .i64 op) (ir op A B C m) (by simp) rfl
 have n0 : (op == 0) = false := by simp; omega
 have n53 : (op == 53) = false := by simp; omega
 go_upto_region 3 with (fail)
 have rg := k2.out.range (g := W.heap.size) (vs := fC F) (by simp)
 clear i0
 go_wp2_with ((with_reducible show wpList _ _ _ _ _ _); refine wpList_load_mid rfl 28 _ rfl W.heap.size 0 rfl (fC F) _ rg Tryz.underlying28 rfl sz ?_)
 refine (hNx.out _).mono ?_
 rintro ee w3 ⟨rfl, h3⟩
 have k3 := hid (k2.out.below h3)
 clear h3 k2 rg hNx
 have k4 := k3.out.push (fC zF) 28
 rw [← zero_fr] at k4
 have th := k4.there (g := w3.heap.size) (vs := fC zF) (List.mem_cons_self ..) 0 136 (by rw [fC_len]; decide)
 have q1 := k3.out.lt (g := W.heap.size + 2) (vs := fC zF) (by simp)
 have k5 := hid (k4.putA (fC X) (by omega) (fun x hx => by
   simp only [List.mem_cons, List.not_mem_nil, or_false] at hx
   rcases hx with rfl | rfl | rfl <;> simp only [ne_eq] <;> omega) (by rw [fC_len, fC_len, hN]; rfl))
 have th' : (w3.alloc (.cells Tryz.zeroCells28 28)).there w3.heap.size 0 (fC X).toArray.size := by rw [show (fC X).toArray.size = 136 from by rw [List.size_toArray, fC_len, hN]]; exact th
 clear k4 th k3
 go_upto_region 4 with ((with_reducible show wpList _ _ _ _ _ _); refine wpList_store_mid rfl 28 _ _ rfl w3.heap.size 0 (fC X).toArray rfl rfl th' sX oX ?_; clear th'; change wpList _ _ _ _ _ ((w3.alloc (.cells Tryz.zeroCells28 28)).setCells w3.heap.size 0 (fC X)); generalize (w3.alloc (.cells Tryz.zeroCells28 28)).setCells w3.heap.size 0 (fC X) = w4 at k5 ⊢; generalize w3.heap.size = q at k5 q1 ⊢)
 have i0 := k5.out.cell (g := W.heap.size + 1) (j := 0) (u := .int .i64 op) (ir op A B C m) (by simp) rfl
 have rg := k5.out.range (g := W.heap.size) (vs := fC F) (by simp)
 have th := k5.out.there (g := W.heap.size + 2) (vs := fC zF) (by simp) 0 136 (by rw [fC_len]; decide)
 have th' : w4.there (W.heap.size + 2) 0 (fC F).toArray.size := by rw [show (fC F).toArray.size = 136 from by rw [List.size_toArray, fC_len, hF.len]]; exact th
 have k6 := hid ((k5.out.sub (L' := [⟨W.heap.size + 2, fC zF⟩]) (by simp)).putA (fC F) (by simp) (by simp) (by rw [fC_len, fC_len, hF.len]; rfl))
 clear k5 th q1
 rcases hop with rfl | rfl | rfl
 all_goals
   go_wp2_with ((with_reducible show wpList _ _ _ _ _ _); first | (refine wpList_load_mid rfl 28 _ rfl W.heap.size 0 rfl (fC F) _ rg Tryz.underlying28 rfl sz ?_) | (refine wpList_store_mid rfl 28 _ _ rfl (W.heap.size + 1 + 1) 0 (fC F).toArray rfl rfl th' sa oF ?_; clear th' rg sa oF sz sX oX; change wpList _ _ _ _ _ (w4.setCells (W.heap.size + 2) 0 (fC F)); generalize w4.setCells (W.heap.size + 2) 0 (fC F) = wf at k6 ⊢))
   exact bodyPost_ret (v := .tuple #[fV F, .int .i64 0]) (res_two Tryz.results13 rfl rfl (load_fr k6.out (List.mem_cons_self ..) hF.len)) rfl ⟨rfl, k6.out.bl⟩
end
end Go.Proofs.YtkmgdfcambdeeaaGreatDoor
