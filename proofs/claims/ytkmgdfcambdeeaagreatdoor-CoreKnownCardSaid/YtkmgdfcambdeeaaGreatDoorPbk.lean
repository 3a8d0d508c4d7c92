/- The program's Do (layer core). No statement is proved here. -/
import Derived.Deep.RegionHeld
import Derived.Deep.RegionHeld3
import Derived.Test.YtkmgdfcambdeeaaGreatDoorPav
import Derived.Test.YtkmgdfcambdeeaaGreatDoorPbg
import Derived.Test.YtkmgdfcambdeeaaGreatDoorPba
import Derived.Test.YtkmgdfcambdeeaaGreatDoorPbf
namespace Go.Proofs.YtkmgdfcambdeeaaGreatDoor
set_option maxRecDepth 100000
open Go.RowKit
set_option linter.unusedVariables false
section
variable {w : World} {a mb wb bb cc N g : Nat} {f : Nat → Bool} {l : List UInt8}
set_option maxHeartbeats 16000000 in
theorem pDo_br (H : ArAt w a mb wb bb cc N g f l) (hT : Tabs w) (F : List Cp) (hF : Fit F) (op A B C m : Int) (hm : mayB ⟨op, A, B, C, m⟩ = true) (h53 : op ≠ 53) (hop : op = 25 ∨ op = 26 ∨ op = 27 ∨ op = 28) : Calls Tryz.prog 12 #[fV F, .agg #[.int .i64 op, .int .i64 A, .int .i64 B, .int .i64 C, .int .i64 m], .pointer (some ⟨a, 0, none⟩)] w (Nxt a mb wb bb cc N g (doG F ⟨op, A, B, C, m⟩ N f) (doL F ⟨op, A, B, C, m⟩ N l) w (.tuple #[fV (doF F ⟨op, A, B, C, m⟩ N f l), .int .i64 (doT F ⟨op, A, B, C, m⟩ N)])) := by
  have k0 := Lib.hid (start_do F op A B C m w)
  have hM := Lib.hid (fun w (h : Tabs w) => pmay_any op A B C m w h)
  rw [hm] at hM
  obtain ⟨_, ⟨hA0, hA1⟩, ⟨hB0, hB1⟩, ⟨hC0, hC1⟩⟩ := may_flds hm
  dsimp only at hA0 hA1 hB0 hB1 hC0 hC1
  obtain ⟨A, rfl⟩ := Int.eq_ofNat_of_zero_le hA0
  obtain ⟨B, rfl⟩ := Int.eq_ofNat_of_zero_le hB0
  obtain ⟨C, rfl⟩ := Int.eq_ofNat_of_zero_le hC0
  replace hA1 : A < 16 := by omega
  replace hB1 : B < 16 := by omega
  replace hC1 : C < 16 := by omega
  clear hA0 hB0 hC0
  have hok : (mayB ⟨op, A, B, C, m⟩ && decide (op ≠ 53)) = true := by rw [hm, decide_eq_true h53]; rfl
  replace hok := Lib.hid hok
  obtain ⟨R, hR⟩ : ∃ R, R = doF F ⟨op, A, B, C, m⟩ N f l := ⟨_, rfl⟩
  obtain ⟨Tt, hTt⟩ : ∃ T, T = doT F ⟨op, A, B, C, m⟩ N := ⟨_, rfl⟩
  obtain ⟨G, hG⟩ : ∃ G, G = doG F ⟨op, A, B, C, m⟩ N f := ⟨_, rfl⟩
  obtain ⟨Ll, hLl⟩ : ∃ Ll, Ll = doL F ⟨op, A, B, C, m⟩ N l := ⟨_, rfl⟩
  rw [← hR, ← hTt, ← hG, ← hLl]
  replace hR := Lib.hid hR
  replace hTt := Lib.hid hTt
  replace hG := Lib.hid hG
  replace hLl := Lib.hid hLl
  have hNx := Lib.hid (fun w => pNext_any F hF w)
  have hN : (nxt F).length = 17 := by unfold nxt; rw [List.length_set]; exact hF.len
  have sz := size_fr hF.len
  obtain ⟨X, hX⟩ : ∃ X, X = nxt F := ⟨_, rfl⟩
  rw [← hX] at hN hNx
  replace hX := Lib.hid hX
  have sX := size_fa hN
  have oX := one_fr X
  have n53 : (op == 53) = false := by simpa using h53
  replace H := Lib.hid H
  replace hT := Lib.hid hT
  unfold fV
  go_enter Tryz.func12, Tryz.ntmps12
  go_upto_region 1 with (fail)
  generalize (((w.alloc (.cells (fC F).toArray 28)).alloc _).alloc _) = w1 at k0 ⊢
  have T1 := Lib.hid (hT.out.below k0.out.bl)
  have i0 := k0.out.cell (g := w.heap.size + 1) (j := 0) (u := .int .i64 op) (ir op A B C m) (by simp) rfl
  have i1 := k0.out.cell (g := w.heap.size + 1) (j := 1) (u := .int .i64 A) (ir op A B C m) (by simp) rfl
  have i2 := k0.out.cell (g := w.heap.size + 1) (j := 2) (u := .int .i64 B) (ir op A B C m) (by simp) rfl
  have i3 := k0.out.cell (g := w.heap.size + 1) (j := 3) (u := .int .i64 C) (ir op A B C m) (by simp) rfl
  have i4 := k0.out.cell (g := w.heap.size + 1) (j := 4) (u := .int .i64 m) (ir op A B C m) (by simp) rfl
  go_wp2_with fail
  refine (hM.out _ T1.out).mono ?_
  rintro ee w2 ⟨rfl, h2⟩
  have k2 := Lib.hid (k0.out.below h2)
  clear h2 k0 i0 i1 i2 i3 i4 hM T1
  have rg := k2.out.range (g := w.heap.size) (vs := fC F) (by simp)
  go_wp2_with ((with_reducible show wpList _ _ _ _ _ _); refine wpList_load_mid rfl 28 _ rfl w.heap.size 0 rfl (fC F) _ rg Tryz.underlying28 rfl sz ?_)
  refine (hNx.out _).mono ?_
  rintro ee w3 ⟨rfl, h3⟩
  have k3 := Lib.hid (k2.out.below h3)
  clear h3 k2 rg hNx
  have q1 := k3.out.lt (g := w.heap.size + 2) (vs := fC zF) (by simp)
  have k4 := (k3.out.push (fC zF) 28).push [.int .i64 0] 39
  rw [← zero_fr, World.size_alloc] at k4
  have th := k4.there (g := w3.heap.size) (vs := fC zF) (by simp) 0 136 (by rw [fC_len]; decide)
  have k5 := Lib.hid (k4.swap.putA (fC X) (by omega) (fun x hx => by
    simp only [List.mem_cons, List.not_mem_nil, or_false] at hx
    rcases hx with rfl | rfl | rfl | rfl <;> simp only [ne_eq] <;> omega) (by rw [fC_len, fC_len, hN]; rfl))
  have th' : ((w3.alloc (.cells Tryz.zeroCells28 28)).alloc (.cells #[.int .i64 0] 39)).there w3.heap.size 0 (fC X).toArray.size := by rw [show (fC X).toArray.size = 136 from by rw [List.size_toArray, fC_len, hN]]; exact th
  clear k4 th k3
  go_upto_region 4 with ((with_reducible show wpList _ _ _ _ _ _); refine wpList_store_mid rfl 28 _ _ rfl w3.heap.size 0 (fC X).toArray rfl rfl th' sX oX ?_; clear th'; change wpList _ _ _ _ _ (((w3.alloc (.cells Tryz.zeroCells28 28)).alloc (.cells #[.int .i64 0] 39)).setCells w3.heap.size 0 (fC X)); generalize ((w3.alloc (.cells Tryz.zeroCells28 28)).alloc (.cells #[.int .i64 0] 39)).setCells w3.heap.size 0 (fC X) = w4 at k5 ⊢; generalize w3.heap.size = q at k5 q1 ⊢; have v8 := k5.out.cell (g := q + 1) (j := 0) (u := .int .i64 0) [.int .i64 0] (by simp) rfl; have f8 := k5.out.soft (g := q + 1) (vs := [.int .i64 0]) (by simp) 0; have hst : w4.setCell ⟨q + 1, 0, none⟩ (.int .i64 0) = w4.setCell ⟨q + 1, 0, none⟩ (.int .i64 0) := rfl)
  have k6 := Lib.hid ((((k5.out.swap.set (by omega) (fun x hx => by
    simp only [List.mem_cons, List.not_mem_nil, or_false] at hx
    rcases hx with rfl | rfl | rfl | rfl <;> simp only [ne_eq] <;> omega) 0 (.int .i64 0) (by simp)) : KR w (⟨q + 1, [.int .i64 0]⟩ :: _) _).sub (L' := [⟨q, fC X⟩, ⟨q + 1, [.int .i64 0]⟩, ⟨w.heap.size + 1, ir op A B C m⟩, ⟨w.heap.size + 2, fC zF⟩, ⟨w.heap.size, fC F⟩]) (by simp)))
  clear k5 hst v8 f8
  generalize w4.setCell ⟨q + 1, 0, none⟩ (.int .i64 0) = w5 at k6 ⊢
  have jA0 : (0 : Int) ≤ (A : Int) := by omega
  have jA1 : (A : Int) < 16 := by omega
  have rg := k6.out.range (g := w.heap.size) (vs := fC F) (by simp)
  have i0 := k6.out.cell (g := w.heap.size + 1) (j := 0) (u := .int .i64 op) (ir op A B C m) (by simp) rfl
  have i1 := k6.out.cell (g := w.heap.size + 1) (j := 1) (u := .int .i64 A) (ir op A B C m) (by simp) rfl
  have i2 := k6.out.cell (g := w.heap.size + 1) (j := 2) (u := .int .i64 B) (ir op A B C m) (by simp) rfl
  have i3 := k6.out.cell (g := w.heap.size + 1) (j := 3) (u := .int .i64 C) (ir op A B C m) (by simp) rfl
  have i4 := k6.out.cell (g := w.heap.size + 1) (j := 4) (u := .int .i64 m) (ir op A B C m) (by simp) rfl
  have hfin := Lib.hid (fun (e : Ending) (w' : World) (h : e = .returned (.tuple #[fV R, .int .i64 Tt]) ∧ Below w.heap.size w w') => (show Nxt a mb wb bb cc N g G Ll w (.tuple #[fV R, .int .i64 Tt]) e w' from by
    rw [hG.out, hLl.out, show doG F ⟨op, A, B, C, m⟩ N f = f from if_neg (fun h => absurd h.2 (by unfold isS; dsimp only; rcases hop with rfl | rfl | rfl | rfl <;> simp)), show doL F ⟨op, A, B, C, m⟩ N l = l from if_neg (fun h => absurd h.2 (by unfold isS; dsimp only; rcases hop with rfl | rfl | rfl | rfl <;> simp))]
    exact nxt_below H.out h))
  have hTk := Lib.hid (fun w => ptakes_any F hF op A B C hA1 hB1 m w)
  obtain ⟨tk, htk⟩ : ∃ tk, tk = takeR op (reg F A).cu (reg F B).cu := ⟨_, rfl⟩
  rw [← htk] at hTk
  have hT0 : Tt = 0 := by
    rw [hTt.out]; unfold doT; rw [hok.out]
    rcases hop with rfl | rfl | rfl | rfl <;> rfl
  have hRv : R = if tk then X.set 16 (furC (reg F 16) m) else X := by
    rw [hR.out]; unfold doF; rw [← hTt.out, hT0, hX.out, htk]
    rcases hop with rfl | rfl | rfl | rfl <;> rfl
  subst hT0
  obtain ⟨d, hd⟩ : ∃ d, d = furC (reg F 16) m := ⟨_, rfl⟩
  have hF2 := Lib.hid (fun w => hd ▸ pfur_any (reg F 16) (hF.reg 16) m w)
  have g16 := Lib.hid (reg_get (F := F) (i := 16) (by rw [hF.len]; decide))
  rw [← hd] at hRv
  clear hTt hR hd htk
  generalize reg F 16 = pc at *
  replace hRv := Lib.hid hRv
  rcases hop with rfl | rfl | rfl | rfl
  all_goals
    go_wp2_with ((with_reducible show wpList _ _ _ _ _ _); (refine wpList_load_mid rfl 28 _ rfl w.heap.size 0 rfl (fC F) _ rg Tryz.underlying28 rfl sz ?_))
    refine (hTk.out _).mono ?_
    rintro ee w6 ⟨rfl, h6⟩
    have k7 := Lib.hid (k6.out.below h6)
    clear h6 k6 hTk rg i0 i1 i2 i3 i4
    cases tk
    case false =>
      obtain ⟨Y, hY⟩ : ∃ Y, Y = X := ⟨_, rfl⟩
      have hYl : Y.length = 17 := by rw [hY]; exact hN
      have hYR := Lib.hid (show Y = R from by rw [hY, hRv.out]; rfl)
      rw [← hY] at k7
      clear hY hF2
      have v8 := k7.out.cell (g := q + 1) (j := 0) (u := .int .i64 0) [.int .i64 0] (by simp) rfl
      have rq := k7.out.range (g := q) (vs := fC Y) (by simp)
      have sY := size_fr hYl
      have sa := size_fa hYl
      have oY := one_fr Y
      have th := k7.out.there (g := w.heap.size + 2) (vs := fC zF) (by simp) 0 136 (by rw [fC_len]; decide)
      have th' : w6.there (w.heap.size + 2) 0 (fC Y).toArray.size := by rw [show (fC Y).toArray.size = 136 from by rw [List.size_toArray, fC_len, hYl]]; exact th
      have k9 := Lib.hid ((k7.out.sub (L' := [⟨w.heap.size + 2, fC zF⟩]) (by simp)).putA (fC Y) (by simp) (by simp) (by rw [fC_len, fC_len, hYl]; rfl))
      clear th k7
      go_wp2_with ((with_reducible show wpList _ _ _ _ _ _); first | (refine wpList_load_mid rfl 28 _ rfl q 0 rfl (fC Y) _ rq Tryz.underlying28 rfl sY ?_) | (refine wpList_store_mid rfl 28 _ _ rfl (w.heap.size + 1 + 1) 0 (fC Y).toArray rfl rfl th' sa oY ?_; clear th' rq sa oY sY v8; change wpList _ _ _ _ _ (w6.setCells (w.heap.size + 2) 0 (fC Y)); generalize w6.setCells (w.heap.size + 2) 0 (fC Y) = wf at k9 ⊢))
      exact bodyPost_ret (v := .tuple #[fV Y, .int .i64 0]) (res_two Tryz.results12 rfl rfl (load_fr k9.out (List.mem_cons_self ..) hYl)) rfl (hfin.out _ _ ⟨by rw [hYR.out], k9.out.bl⟩)
    case true =>
      obtain ⟨a0, a1, a2, a3, a4, a5, a6, a7⟩ := k7.out.reg (g := w.heap.size) (F := F) (by simp) g16.out
      simp only [Nat.reduceMul, Nat.reduceAdd] at a0 a1 a2 a3 a4 a5 a6 a7
      have i4 := k7.out.cell (g := w.heap.size + 1) (j := 4) (u := .int .i64 m) (ir _ A B C m) (List.mem_cons_of_mem _ (List.mem_cons_of_mem _ (List.mem_cons_self ..))) rfl
      go_wp2_with fail
      refine (hF2.out _).mono ?_
      rintro ee w7 ⟨rfl, h7⟩
      have k8 := Lib.hid (k7.out.below h7)
      clear h7 k7 hF2 i4 a0 a1 a2 a3 a4 a5 a6 a7
      have th := k8.out.there (g := q) (vs := fC X) (by simp) 128 8 (by rw [fC_len, hN]; decide)
      have kp := Lib.hid (k8.out.putF (by omega) (fun x hx => by
        simp only [List.mem_cons, List.not_mem_nil, or_false] at hx
        rcases hx with rfl | rfl | rfl | rfl <;> simp only [ne_eq] <;> omega) 16 d (by rw [hN]; decide))
      have s1 := size_ca d
      have o1 := one_cp d
      obtain ⟨Y, hY⟩ : ∃ Y, Y = X.set 16 d := ⟨_, rfl⟩
      have hYl : Y.length = 17 := by rw [hY, List.length_set]; exact hN
      rw [← hY] at kp
      have hYR := Lib.hid (show Y = R from by rw [hY, hRv.out]; rfl)
      clear hY k8
      go_upto_region 33 with ((with_reducible show wpList _ _ _ _ _ _); (refine wpList_store_mid rfl 25 _ _ rfl q 128 d.C.toArray rfl rfl th s1 o1 ?_; clear th s1 o1; change wpList _ _ _ _ _ (w7.setCells q (16 * 8) d.C); generalize w7.setCells q (16 * 8) d.C = w8 at kp ⊢))
      have v8 := kp.out.cell (g := q + 1) (j := 0) (u := .int .i64 0) [.int .i64 0] (by simp) rfl
      have rq := kp.out.range (g := q) (vs := fC Y) (by simp)
      have sY := size_fr hYl
      have sa := size_fa hYl
      have oY := one_fr Y
      have th := kp.out.there (g := w.heap.size + 2) (vs := fC zF) (by simp) 0 136 (by rw [fC_len]; decide)
      have th' : w8.there (w.heap.size + 2) 0 (fC Y).toArray.size := by rw [show (fC Y).toArray.size = 136 from by rw [List.size_toArray, fC_len, hYl]]; exact th
      have k9 := Lib.hid ((kp.out.sub (L' := [⟨w.heap.size + 2, fC zF⟩]) (by simp)).putA (fC Y) (by simp) (by simp) (by rw [fC_len, fC_len, hYl]; rfl))
      clear th kp
      go_wp2_with ((with_reducible show wpList _ _ _ _ _ _); first | (refine wpList_load_mid rfl 28 _ rfl q 0 rfl (fC Y) _ rq Tryz.underlying28 rfl sY ?_) | (refine wpList_store_mid rfl 28 _ _ rfl (w.heap.size + 1 + 1) 0 (fC Y).toArray rfl rfl th' sa oY ?_; clear th' rq sa oY sY v8; change wpList _ _ _ _ _ (w8.setCells (w.heap.size + 2) 0 (fC Y)); generalize w8.setCells (w.heap.size + 2) 0 (fC Y) = wf at k9 ⊢))
      exact bodyPost_ret (v := .tuple #[fV Y, .int .i64 0]) (res_two Tryz.results12 rfl rfl (load_fr k9.out (List.mem_cons_self ..) hYl)) rfl (hfin.out _ _ ⟨by rw [hYR.out], k9.out.bl⟩)
end
end Go.Proofs.YtkmgdfcambdeeaaGreatDoor
