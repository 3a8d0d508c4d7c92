/- The program's Do (layer core). No statement is proved here. -/
import Derived.Deep.RegionHeld
import Derived.Deep.RegionHeld3
import Derived.Test.YtkmgdfcambdeeaaGreatDoorPav
import Derived.Test.YtkmgdfcambdeeaaGreatDoorPbg
import Derived.Test.YtkmgdfcambdeeaaGreatDoorPba
import Derived.Test.YtkmgdfcambdeeaaGreatDoorPbf
namespace Go.Proofs.YtkmgdfcambdeeaaGreatDoor
set_option maxRecDepth 100000
open Go.RowKit
set_option linter.unusedVariables false
theorem reck_ops {op : Int} (h : isR op = true ∨ isD op = true) : (isL op || isS op) = false ∧ op ≠ 30 ∧ isY op = false ∧ op ≠ 29 ∧ isL op = false ∧ isS op = false ∧ isT op = false := by
  have h' : (3 ≤ op ∧ op ≤ 15) ∨ (op = 1 ∨ op = 2 ∨ op = 16 ∨ op = 31 ∨ op = 41 ∨ op = 32 ∨ op = 33 ∨ op = 34 ∨ op = 35 ∨ op = 36 ∨ op = 37 ∨ op = 38 ∨ op = 39 ∨ op = 40 ∨ op = 42 ∨ op = 43 ∨ op = 44 ∨ op = 45 ∨ op = 46 ∨ op = 47 ∨ op = 48 ∨ op = 49) := h.imp of_decide_eq_true of_decide_eq_true
  have a1 : isL op = false := decide_eq_false (by omega)
  have a2 : isS op = false := decide_eq_false (by omega)
  exact ⟨by rw [a1, a2]; rfl, by omega, decide_eq_false (by omega), by omega, a1, a2, decide_eq_false (by omega)⟩
section
variable {w : World} {a mb wb bb cc N g : Nat} {f : Nat → Bool} {l : List UInt8}
set_option maxHeartbeats 16000000 in
theorem pDo_reck (H : ArAt w a mb wb bb cc N g f l) (hT : Tabs w) (F : List Cp) (hF : Fit F) (op A B C m : Int) (hm : mayB ⟨op, A, B, C, m⟩ = true) (h53 : op ≠ 53) (hop : isR op = true ∨ isD op = true) : Calls Tryz.prog 12 #[fV F, .agg #[.int .i64 op, .int .i64 A, .int .i64 B, .int .i64 C, .int .i64 m], .pointer (some ⟨a, 0, none⟩)] w (Nxt a mb wb bb cc N g (doG F ⟨op, A, B, C, m⟩ N f) (doL F ⟨op, A, B, C, m⟩ N l) w (.tuple #[fV (doF F ⟨op, A, B, C, m⟩ N f l), .int .i64 (doT F ⟨op, A, B, C, m⟩ N)])) := by
  have k0 := Lib.hid (start_do F op A B C m w)
  have hM := Lib.hid (fun w (h : Tabs w) => pmay_any op A B C m w h)
  rw [hm] at hM
  obtain ⟨_, ⟨hA0, hA1⟩, ⟨hB0, hB1⟩, ⟨hC0, hC1⟩⟩ := may_flds hm
  dsimp only at hA0 hA1 hB0 hB1 hC0 hC1
  obtain ⟨A, rfl⟩ := Int.eq_ofNat_of_zero_le hA0
  obtain ⟨B, rfl⟩ := Int.eq_ofNat_of_zero_le hB0
  obtain ⟨C, rfl⟩ := Int.eq_ofNat_of_zero_le hC0
  replace hA1 : A < 16 := by omega
  replace hB1 : B < 16 := by omega
  replace hC1 : C < 16 := by omega
  clear hA0 hB0 hC0
  have hok : (mayB ⟨op, A, B, C, m⟩ && decide (op ≠ 53)) = true := by rw [hm, decide_eq_true h53]; rfl
  replace hok := Lib.hid hok
  obtain ⟨R, hR⟩ : ∃ R, R = doF F ⟨op, A, B, C, m⟩ N f l := ⟨_, rfl⟩
  obtain ⟨Tt, hTt⟩ : ∃ T, T = doT F ⟨op, A, B, C, m⟩ N := ⟨_, rfl⟩
  obtain ⟨G, hG⟩ : ∃ G, G = doG F ⟨op, A, B, C, m⟩ N f := ⟨_, rfl⟩
  obtain ⟨Ll, hLl⟩ : ∃ Ll, Ll = doL F ⟨op, A, B, C, m⟩ N l := ⟨_, rfl⟩
  rw [← hR, ← hTt, ← hG, ← hLl]
  replace hR := Lib.hid hR
  replace hTt := Lib.hid hTt
  replace hG := Lib.hid hG
  replace hLl := Lib.hid hLl
  have hNx := Lib.hid (fun w => pNext_any F hF w)
  have hN : (nxt F).length = 17 := by unfold nxt; rw [List.length_set]; exact hF.len
  have sz := size_fr hF.len
  obtain ⟨X, hX⟩ : ∃ X, X = nxt F := ⟨_, rfl⟩
  rw [← hX] at hN hNx
  replace hX := Lib.hid hX
  have sX := size_fa hN
  have oX := one_fr X
  have n53 : (op == 53) = false := by simpa using h53
  replace H := Lib.hid H
  replace hT := Lib.hid hT
  unfold fV
  go_enter Tryz.func12, Tryz.ntmps12
  go_upto_region 1 with (fail)
  generalize (((w.alloc (.cells (fC F).toArray 28)).alloc _).alloc _) = w1 at k0 ⊢
  have T1 := Lib.hid (hT.out.below k0.out.bl)
  have i0 := k0.out.cell (g := w.heap.size + 1) (j := 0) (u := .int .i64 op) (ir op A B C m) (by simp) rfl
  have i1 := k0.out.cell (g := w.heap.size + 1) (j := 1) (u := .int .i64 A) (ir op A B C m) (by simp) rfl
  have i2 := k0.out.cell (g := w.heap.size + 1) (j := 2) (u := .int .i64 B) (ir op A B C m) (by simp) rfl
  have i3 := k0.out.cell (g := w.heap.size + 1) (j := 3) (u := .int .i64 C) (ir op A B C m) (by simp) rfl
  have i4 := k0.out.cell (g := w.heap.size + 1) (j := 4) (u := .int .i64 m) (ir op A B C m) (by simp) rfl
  go_wp2_with fail
  refine (hM.out _ T1.out).mono ?_
  rintro ee w2 ⟨rfl, h2⟩
  have k2 := Lib.hid (k0.out.below h2)
  clear h2 k0 i0 i1 i2 i3 i4 hM T1
  have rg := k2.out.range (g := w.heap.size) (vs := fC F) (by simp)
  go_wp2_with ((with_reducible show wpList _ _ _ _ _ _); refine wpList_load_mid rfl 28 _ rfl w.heap.size 0 rfl (fC F) _ rg Tryz.underlying28 rfl sz ?_)
  refine (hNx.out _).mono ?_
  rintro ee w3 ⟨rfl, h3⟩
  have k3 := Lib.hid (k2.out.below h3)
  clear h3 k2 rg hNx
  have q1 := k3.out.lt (g := w.heap.size + 2) (vs := fC zF) (by simp)
  have k4 := (k3.out.push (fC zF) 28).push [.int .i64 0] 39
  rw [← zero_fr, World.size_alloc] at k4
  have th := k4.there (g := w3.heap.size) (vs := fC zF) (by simp) 0 136 (by rw [fC_len]; decide)
  have k5 := Lib.hid (k4.swap.putA (fC X) (by omega) (fun x hx => by
    simp only [List.mem_cons, List.not_mem_nil, or_false] at hx
    rcases hx with rfl | rfl | rfl | rfl <;> simp only [ne_eq] <;> omega) (by rw [fC_len, fC_len, hN]; rfl))
  have th' : ((w3.alloc (.cells Tryz.zeroCells28 28)).alloc (.cells #[.int .i64 0] 39)).there w3.heap.size 0 (fC X).toArray.size := by rw [show (fC X).toArray.size = 136 from by rw [List.size_toArray, fC_len, hN]]; exact th
  clear k4 th k3
  go_upto_region 4 with ((with_reducible show wpList _ _ _ _ _ _); refine wpList_store_mid rfl 28 _ _ rfl w3.heap.size 0 (fC X).toArray rfl rfl th' sX oX ?_; clear th'; change wpList _ _ _ _ _ (((w3.alloc (.cells Tryz.zeroCells28 28)).alloc (.cells #[.int .i64 0] 39)).setCells w3.heap.size 0 (fC X)); generalize ((w3.alloc (.cells Tryz.zeroCells28 28)).alloc (.cells #[.int .i64 0] 39)).setCells w3.heap.size 0 (fC X) = w4 at k5 ⊢; generalize w3.heap.size = q at k5 q1 ⊢; have v8 := k5.out.cell (g := q + 1) (j := 0) (u := .int .i64 0) [.int .i64 0] (by simp) rfl; have f8 := k5.out.soft (g := q + 1) (vs := [.int .i64 0]) (by simp) 0; have hst : w4.setCell ⟨q + 1, 0, none⟩ (.int .i64 0) = w4.setCell ⟨q + 1, 0, none⟩ (.int .i64 0) := rfl)
  have k6 := Lib.hid ((((k5.out.swap.set (by omega) (fun x hx => by
    simp only [List.mem_cons, List.not_mem_nil, or_false] at hx
    rcases hx with rfl | rfl | rfl | rfl <;> simp only [ne_eq] <;> omega) 0 (.int .i64 0) (by simp)) : KR w (⟨q + 1, [.int .i64 0]⟩ :: _) _).sub (L' := [⟨q, fC X⟩, ⟨q + 1, [.int .i64 0]⟩, ⟨w.heap.size + 1, ir op A B C m⟩, ⟨w.heap.size + 2, fC zF⟩, ⟨w.heap.size, fC F⟩]) (by simp)))
  clear k5 hst v8 f8
  generalize w4.setCell ⟨q + 1, 0, none⟩ (.int .i64 0) = w5 at k6 ⊢
  have jA0 : (0 : Int) ≤ (A : Int) := by omega
  have jA1 : (A : Int) < 16 := by omega
  have rg := k6.out.range (g := w.heap.size) (vs := fC F) (by simp)
  have i0 := k6.out.cell (g := w.heap.size + 1) (j := 0) (u := .int .i64 op) (ir op A B C m) (by simp) rfl
  have i1 := k6.out.cell (g := w.heap.size + 1) (j := 1) (u := .int .i64 A) (ir op A B C m) (by simp) rfl
  have i2 := k6.out.cell (g := w.heap.size + 1) (j := 2) (u := .int .i64 B) (ir op A B C m) (by simp) rfl
  have i3 := k6.out.cell (g := w.heap.size + 1) (j := 3) (u := .int .i64 C) (ir op A B C m) (by simp) rfl
  have i4 := k6.out.cell (g := w.heap.size + 1) (j := 4) (u := .int .i64 m) (ir op A B C m) (by simp) rfl
  have hfin := Lib.hid (fun (e : Ending) (w' : World) (h : e = .returned (.tuple #[fV R, .int .i64 Tt]) ∧ Below w.heap.size w w') => (show Nxt a mb wb bb cc N g G Ll w (.tuple #[fV R, .int .i64 Tt]) e w' from by
    rw [hG.out, hLl.out, show doG F ⟨op, A, B, C, m⟩ N f = f from if_neg (fun h => absurd h.2 (by unfold isS; rcases hop with h | h <;> replace h := of_decide_eq_true h <;> simp <;> omega)), show doL F ⟨op, A, B, C, m⟩ N l = l from if_neg (fun h => absurd h.2 (by unfold isS; rcases hop with h | h <;> replace h := of_decide_eq_true h <;> simp <;> omega))]
    exact nxt_below H.out h))
  have hRk := Lib.hid (fun w => preck_any F hF op A B C hA1 hB1 hC1 m hop w)
  obtain ⟨d, hd⟩ : ∃ d, d = if isR op then numC (valR op (reg F B).cu (reg F C).cu) else dDer F op (reg F B) (reg F C) m := ⟨_, rfl⟩
  obtain ⟨t, ht0⟩ : ∃ t, t = if isR op then trapR op (reg F C).cu else 0 := ⟨_, rfl⟩
  rw [← hd, ← ht0] at hRk
  have hTv : Tt = t := by
    rw [hTt.out, ht0]
    unfold doT
    rw [hok.out, if_neg (by simp), if_neg (by rw [(reck_ops hop).1]; simp), if_neg (reck_ops hop).2.1]
    rfl
  subst hTv
  have hRx := Lib.hid (show Tt = 0 → X.set A d = R from fun h0 => by
    rw [hR.out]
    unfold doF
    rw [← hTt.out, if_neg (by simpa using h0), if_neg (by rw [(reck_ops hop).2.2.1]; simp), if_neg (reck_ops hop).2.2.2.1, if_neg (reck_ops hop).2.1, if_neg (by rw [(reck_ops hop).2.2.2.2.1]; simp), if_neg (by rw [(reck_ops hop).2.2.2.2.2.1]; simp), if_neg (by rw [(reck_ops hop).2.2.2.2.2.2]; simp), hd, hX.out]
    cases isR op <;> rfl)
  have hRz := Lib.hid (show Tt ≠ 0 → zF = R from fun h0 => by rw [hR.out]; unfold doF; rw [← hTt.out, if_pos h0])
  have n17 : (op == 17) = false := by simp; rcases hop with h | h <;> replace h := of_decide_eq_true h <;> omega
  have n18 : (op == 18) = false := by simp; rcases hop with h | h <;> replace h := of_decide_eq_true h <;> omega
  have n19 : (op == 19) = false := by simp; rcases hop with h | h <;> replace h := of_decide_eq_true h <;> omega
  have n20 : (op == 20) = false := by simp; rcases hop with h | h <;> replace h := of_decide_eq_true h <;> omega
  have n21 : (op == 21) = false := by simp; rcases hop with h | h <;> replace h := of_decide_eq_true h <;> omega
  have n22 : (op == 22) = false := by simp; rcases hop with h | h <;> replace h := of_decide_eq_true h <;> omega
  have n23 : (op == 23) = false := by simp; rcases hop with h | h <;> replace h := of_decide_eq_true h <;> omega
  have n24 : (op == 24) = false := by simp; rcases hop with h | h <;> replace h := of_decide_eq_true h <;> omega
  have n25 : (op == 25) = false := by simp; rcases hop with h | h <;> replace h := of_decide_eq_true h <;> omega
  have n26 : (op == 26) = false := by simp; rcases hop with h | h <;> replace h := of_decide_eq_true h <;> omega
  have n27 : (op == 27) = false := by simp; rcases hop with h | h <;> replace h := of_decide_eq_true h <;> omega
  have n28 : (op == 28) = false := by simp; rcases hop with h | h <;> replace h := of_decide_eq_true h <;> omega
  have n29 : (op == 29) = false := by simp; rcases hop with h | h <;> replace h := of_decide_eq_true h <;> omega
  have n30 : (op == 30) = false := by simp; rcases hop with h | h <;> replace h := of_decide_eq_true h <;> omega
  have n50 : (op == 50) = false := by simp; rcases hop with h | h <;> replace h := of_decide_eq_true h <;> omega
  have n51 : (op == 51) = false := by simp; rcases hop with h | h <;> replace h := of_decide_eq_true h <;> omega
  have n52 : (op == 52) = false := by simp; rcases hop with h | h <;> replace h := of_decide_eq_true h <;> omega
  clear hd ht0 hTt hR hop
  go_wp2_with ((with_reducible show wpList _ _ _ _ _ _); (refine wpList_load_mid rfl 28 _ rfl w.heap.size 0 rfl (fC F) _ rg Tryz.underlying28 rfl sz ?_))
  refine (hRk.out _).mono ?_
  rintro ee w6 ⟨rfl, h6⟩
  have k7 := Lib.hid (k6.out.below h6)
  clear h6 k6 hRk rg i0 i1 i2 i3 i4
  go_wp2_with fail
  refine (pwr_any q (w.heap.size + 1) (q + 1) X hN _ B C m 0 Tt A hA1 d k7.out (by omega) (by omega) (by omega) (by omega) (by omega) (fun x hx => by
    simp only [List.mem_cons, List.not_mem_nil, or_false] at hx
    rcases hx with rfl | rfl <;> simp only [ne_eq] <;> omega)).mono ?_
  rintro ee w7 ⟨rfl, k_⟩
  have k8 := Lib.hid k_
  clear k_ k7
  by_cases ht : Tt = 0
  · subst ht
    obtain ⟨Y, hY⟩ : ∃ Y, Y = X.set A d := ⟨_, rfl⟩
    have hYl : Y.length = 17 := by rw [hY, List.length_set]; exact hN
    have hYR := Lib.hid (show Y = R from hY.trans (hRx.out rfl))
    rw [← hY] at k8
    clear hY
    have v8 := k8.out.cell (g := q + 1) (j := 0) (u := .int .i64 0) [.int .i64 0] (by simp) rfl
    have rq := k8.out.range (g := q) (vs := fC Y) (by simp)
    have sY := size_fr hYl
    have sa := size_fa hYl
    have oY := one_fr Y
    have th := k8.out.there (g := w.heap.size + 2) (vs := fC zF) (by simp) 0 136 (by rw [fC_len]; decide)
    have th' : w7.there (w.heap.size + 2) 0 (fC Y).toArray.size := by rw [show (fC Y).toArray.size = 136 from by rw [List.size_toArray, fC_len, hYl]]; exact th
    have k9 := Lib.hid ((k8.out.sub (L' := [⟨w.heap.size + 2, fC zF⟩]) (by simp)).putA (fC Y) (by simp) (by simp) (by rw [fC_len, fC_len, hYl]; rfl))
    clear th k8
    go_wp2_with ((with_reducible show wpList _ _ _ _ _ _); first | (refine wpList_load_mid rfl 28 _ rfl q 0 rfl (fC Y) _ rq Tryz.underlying28 rfl sY ?_) | (refine wpList_store_mid rfl 28 _ _ rfl (w.heap.size + 1 + 1) 0 (fC Y).toArray rfl rfl th' sa oY ?_; clear th' rq sa oY sY v8; change wpList _ _ _ _ _ (w7.setCells (w.heap.size + 2) 0 (fC Y)); generalize w7.setCells (w.heap.size + 2) 0 (fC Y) = wf at k9 ⊢))
    exact bodyPost_ret (v := .tuple #[fV Y, .int .i64 0]) (res_two Tryz.results12 rfl rfl (load_fr k9.out (List.mem_cons_self ..) hYl)) rfl (hfin.out _ _ ⟨by rw [hYR.out], k9.out.bl⟩)
  · have ht' : (Tt == 0) = false := by simpa using ht
    have hZ := Lib.hid (hRz.out ht)
    clear ht
    have v8 := k8.out.cell (g := q + 1) (j := 0) (u := .int .i64 Tt) [.int .i64 Tt] (by simp) rfl
    have zs : (Tryz.prog.info? 28).map (·.size) = some (Tryz.zeroCells28).size := by rw [zero_fr]; exact size_fa (F := zF) rfl
    have zo : (Tryz.zeroCells28).all (·.oneCell') = true := by rw [zero_fr]; exact one_fr zF
    go_upto_region 34 with (fail)
    have kd := Lib.hid k8.out.drew
    have j0 : w7.drew.cell? ⟨q + 1, 0, none⟩ = some (.int .i64 Tt) := v8
    have th := kd.out.there (g := w.heap.size + 2) (vs := fC zF) (by simp) 0 136 (by rw [fC_len]; decide)
    have k9 := Lib.hid ((kd.out.sub (L' := [⟨w.heap.size + 2, fC zF⟩]) (by simp)).putA (fC zF) (by simp) (by simp) rfl)
    have j1 := ((kd.out.sub (L' := [⟨w.heap.size + 2, fC zF⟩, ⟨q + 1, [.int .i64 Tt]⟩]) (by simp)).putA (fC zF) (by simp) (fun x hx => by
      simp only [List.mem_cons, List.not_mem_nil, or_false] at hx
      subst hx
      simp only [ne_eq]
      omega) rfl).cell (g := q + 1) (j := 0) (u := .int .i64 Tt) [.int .i64 Tt] (by simp) rfl
    have th' : w7.drew.there (w.heap.size + 2) 0 (Tryz.zeroCells28).size := by rw [show (Tryz.zeroCells28).size = 136 from by rw [zero_fr, List.size_toArray, fC_len]; rfl]; exact th
    have hz : w7.drew.setCells (w.heap.size + 2) 0 (Tryz.zeroCells28).toList = w7.drew.setCells (w.heap.size + 2) 0 (fC zF) := by rw [zero_fr]
    replace hz := Lib.hid hz
    clear th k8 kd v8
    refine wp_region_held_drew (S := fun w' => w'.cell? ⟨q + 1, 0, none⟩ = some (.int .i64 Tt)) (by kernel_rfl) j0 (fun hHeld => ?_)
    refine wpAnyH_take (i := 0) (v := .agg Tryz.zeroCells28) rfl (by kernel_rfl) (by kernel_rfl) (by kernel_rfl) (fun _ _ _ h => h) (Or.inl ⟨by rfl, fun w' hw' => ?_⟩) j0 ?_
    · go_simp
    try simp only [Act.put]
    try simp only [List.setIfInBounds_toArray]
    try simp only [List.set_cons_succ]
    try simp only [List.set_cons_zero]
    refine wpAnyH_take (i := 1) (v := .int .i64 Tt) rfl (by kernel_rfl) (by kernel_rfl) (by kernel_rfl) (fun _ _ _ h => h) (Or.inl ⟨by rfl, fun w' hw' => ?_⟩) j0 ?_
    · dsimp only at hw'
      go_simp
    try simp only [Act.put]
    try simp only [List.setIfInBounds_toArray]
    try simp only [List.set_cons_succ]
    try simp only [List.set_cons_zero]
    refine wpAnyH_ready (rs := [2]) (by kernel_rfl) (by simp) (AllReadyH.cons rfl (fun K hK => ?_) AllReadyH.nil)
    rw [if_pos (by rfl)]
    refine wp_store_mid 28 _ _ rfl (w.heap.size + 1 + 1) 0 Tryz.zeroCells28 rfl rfl th' zs zo ?_
    clear th' zs zo
    change K _ (w7.drew.setCells (w.heap.size + 2) 0 (Tryz.zeroCells28).toList)
    rw [hz.out]
    generalize w7.drew.setCells (w.heap.size + 2) 0 (fC zF) = wf at k9 j1 ⊢
    refine hK.out _ _ j1 (fun hHeld2 => ?_)
    clear hK K
    try simp only [Act.put]
    try simp only [List.setIfInBounds_toArray]
    try simp only [List.set_cons_succ]
    try simp only [List.set_cons_zero]
    refine wpAnyH_ready (rs := [3]) (by kernel_rfl) (by simp) (AllReadyH.cons rfl (fun K hK => ?_) AllReadyH.nil)
    go_simp
    refine hK.out _ _ j1 (fun hHeld3 => ?_)
    clear hK K
    try simp only [Act.put]
    try simp only [List.setIfInBounds_toArray]
    try simp only [List.set_cons_succ]
    try simp only [List.set_cons_zero]
    refine wpAnyH_done (by kernel_rfl) ?_ _
    go_wp2_with fail
    exact bodyPost_ret (v := .tuple #[fV zF, .int .i64 Tt]) (res_two Tryz.results12 rfl rfl (load_fr k9.out (List.mem_cons_self ..) rfl)) rfl (hfin.out _ _ ⟨by rw [hZ.out], k9.out.bl⟩)
end
end Go.Proofs.YtkmgdfcambdeeaaGreatDoor
