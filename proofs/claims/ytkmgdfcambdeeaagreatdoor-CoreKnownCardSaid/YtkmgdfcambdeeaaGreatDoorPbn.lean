/- The program's Do (layer core). No statement is proved here. -/
import Derived.Deep.RegionHeld
import Derived.Deep.RegionHeld3
import Derived.Test.YtkmgdfcambdeeaaGreatDoorPav
import Derived.Test.YtkmgdfcambdeeaaGreatDoorPbg
import Derived.Test.YtkmgdfcambdeeaaGreatDoorPba
import Derived.Test.YtkmgdfcambdeeaaGreatDoorPbf
namespace Go.Proofs.YtkmgdfcambdeeaaGreatDoor
set_option maxRecDepth 100000
open Go.RowKit
set_option linter.unusedVariables false
theorem jmp_ref (c : Cp) : jmpT c = refT c 4 := by
  have h4 : c.pm &&& 4 = 0 ∨ c.pm &&& 4 = 4 := by
    have h := Nat.and_le_right (n := c.pm) (m := 4)
    have e : (c.pm &&& 4) &&& 4 = c.pm &&& 4 := by rw [Nat.and_assoc, Nat.and_self]
    generalize c.pm &&& 4 = x at *
    rcases (show x = 0 ∨ x = 1 ∨ x = 2 ∨ x = 3 ∨ x = 4 by omega) with rfl | rfl | rfl | rfl | rfl <;> simp at e ⊢
  unfold jmpT refT
  by_cases h1 : c.va = false
  · rw [if_pos h1, if_pos h1]
  rw [if_neg h1, if_neg h1]
  by_cases h2 : c.ty ≠ 0
  · rw [if_pos h2, if_pos h2]
  rw [if_neg h2, if_neg h2]
  rcases h4 with h | h <;> rw [h] <;> rfl
section
variable {w : World} {a mb wb bb cc N g : Nat} {f : Nat → Bool} {l : List UInt8}
set_option maxHeartbeats 16000000 in
theorem pDo_jalr (H : ArAt w a mb wb bb cc N g f l) (hT : Tabs w) (F : List Cp) (hF : Fit F) (op A B C m : Int) (hm : mayB ⟨op, A, B, C, m⟩ = true) (h53 : op ≠ 53) (hop : op = 30) : Calls Tryz.prog 12 #[fV F, .agg #[.int .i64 op, .int .i64 A, .int .i64 B, .int .i64 C, .int .i64 m], .pointer (some ⟨a, 0, none⟩)] w (Nxt a mb wb bb cc N g (doG F ⟨op, A, B, C, m⟩ N f) (doL F ⟨op, A, B, C, m⟩ N l) w (.tuple #[fV (doF F ⟨op, A, B, C, m⟩ N f l), .int .i64 (doT F ⟨op, A, B, C, m⟩ N)])) := by
  replace hop := Lib.hid hop
  have k0 := Lib.hid (start_do F op A B C m w)
  have hM := Lib.hid (fun w (h : Tabs w) => pmay_any op A B C m w h)
  rw [hm] at hM
  obtain ⟨_, ⟨hA0, hA1⟩, ⟨hB0, hB1⟩, ⟨hC0, hC1⟩⟩ := may_flds hm
  dsimp only at hA0 hA1 hB0 hB1 hC0 hC1
  obtain ⟨A, rfl⟩ := Int.eq_ofNat_of_zero_le hA0
  obtain ⟨B, rfl⟩ := Int.eq_ofNat_of_zero_le hB0
  obtain ⟨C, rfl⟩ := Int.eq_ofNat_of_zero_le hC0
  replace hA1 : A < 16 := by omega
  replace hB1 : B < 16 := by omega
  replace hC1 : C < 16 := by omega
  clear hA0 hB0 hC0
  have hok : (mayB ⟨op, A, B, C, m⟩ && decide (op ≠ 53)) = true := by rw [hm, decide_eq_true h53]; rfl
  replace hok := Lib.hid hok
  obtain ⟨R, hR⟩ : ∃ R, R = doF F ⟨op, A, B, C, m⟩ N f l := ⟨_, rfl⟩
  obtain ⟨Tt, hTt⟩ : ∃ T, T = doT F ⟨op, A, B, C, m⟩ N := ⟨_, rfl⟩
  obtain ⟨G, hG⟩ : ∃ G, G = doG F ⟨op, A, B, C, m⟩ N f := ⟨_, rfl⟩
  obtain ⟨Ll, hLl⟩ : ∃ Ll, Ll = doL F ⟨op, A, B, C, m⟩ N l := ⟨_, rfl⟩
  rw [← hR, ← hTt, ← hG, ← hLl]
  replace hR := Lib.hid hR
  replace hTt := Lib.hid hTt
  replace hG := Lib.hid hG
  replace hLl := Lib.hid hLl
  have hNx := Lib.hid (fun w => pNext_any F hF w)
  have hN : (nxt F).length = 17 := by unfold nxt; rw [List.length_set]; exact hF.len
  have sz := size_fr hF.len
  obtain ⟨X, hX⟩ : ∃ X, X = nxt F := ⟨_, rfl⟩
  rw [← hX] at hN hNx
  replace hX := Lib.hid hX
  have sX := size_fa hN
  have oX := one_fr X
  have n53 : (op == 53) = false := by simpa using h53
  replace H := Lib.hid H
  replace hT := Lib.hid hT
  unfold fV
  go_enter Tryz.func12, Tryz.ntmps12
  go_upto_region 1 with (fail)
  generalize (((w.alloc (.cells (fC F).toArray 28)).alloc _).alloc _) = w1 at k0 ⊢
  have T1 := Lib.hid (hT.out.below k0.out.bl)
  have i0 := k0.out.cell (g := w.heap.size + 1) (j := 0) (u := .int .i64 op) (ir op A B C m) (by simp) rfl
  have i1 := k0.out.cell (g := w.heap.size + 1) (j := 1) (u := .int .i64 A) (ir op A B C m) (by simp) rfl
  have i2 := k0.out.cell (g := w.heap.size + 1) (j := 2) (u := .int .i64 B) (ir op A B C m) (by simp) rfl
  have i3 := k0.out.cell (g := w.heap.size + 1) (j := 3) (u := .int .i64 C) (ir op A B C m) (by simp) rfl
  have i4 := k0.out.cell (g := w.heap.size + 1) (j := 4) (u := .int .i64 m) (ir op A B C m) (by simp) rfl
  go_wp2_with fail
  refine (hM.out _ T1.out).mono ?_
  rintro ee w2 ⟨rfl, h2⟩
  have k2 := Lib.hid (k0.out.below h2)
  clear h2 k0 i0 i1 i2 i3 i4 hM T1
  have rg := k2.out.range (g := w.heap.size) (vs := fC F) (by simp)
  go_wp2_with ((with_reducible show wpList _ _ _ _ _ _); refine wpList_load_mid rfl 28 _ rfl w.heap.size 0 rfl (fC F) _ rg Tryz.underlying28 rfl sz ?_)
  refine (hNx.out _).mono ?_
  rintro ee w3 ⟨rfl, h3⟩
  have k3 := Lib.hid (k2.out.below h3)
  clear h3 k2 rg hNx
  have q1 := k3.out.lt (g := w.heap.size + 2) (vs := fC zF) (by simp)
  have k4 := (k3.out.push (fC zF) 28).push [.int .i64 0] 39
  rw [← zero_fr, World.size_alloc] at k4
  have th := k4.there (g := w3.heap.size) (vs := fC zF) (by simp) 0 136 (by rw [fC_len]; decide)
  have k5 := Lib.hid (k4.swap.putA (fC X) (by omega) (fun x hx => by
    simp only [List.mem_cons, List.not_mem_nil, or_false] at hx
    rcases hx with rfl | rfl | rfl | rfl <;> simp only [ne_eq] <;> omega) (by rw [fC_len, fC_len, hN]; rfl))
  have th' : ((w3.alloc (.cells Tryz.zeroCells28 28)).alloc (.cells #[.int .i64 0] 39)).there w3.heap.size 0 (fC X).toArray.size := by rw [show (fC X).toArray.size = 136 from by rw [List.size_toArray, fC_len, hN]]; exact th
  clear k4 th k3
  go_upto_region 4 with ((with_reducible show wpList _ _ _ _ _ _); refine wpList_store_mid rfl 28 _ _ rfl w3.heap.size 0 (fC X).toArray rfl rfl th' sX oX ?_; clear th'; change wpList _ _ _ _ _ (((w3.alloc (.cells Tryz.zeroCells28 28)).alloc (.cells #[.int .i64 0] 39)).setCells w3.heap.size 0 (fC X)); generalize ((w3.alloc (.cells Tryz.zeroCells28 28)).alloc (.cells #[.int .i64 0] 39)).setCells w3.heap.size 0 (fC X) = w4 at k5 ⊢; generalize w3.heap.size = q at k5 q1 ⊢; have v8 := k5.out.cell (g := q + 1) (j := 0) (u := .int .i64 0) [.int .i64 0] (by simp) rfl; have f8 := k5.out.soft (g := q + 1) (vs := [.int .i64 0]) (by simp) 0; have hst : w4.setCell ⟨q + 1, 0, none⟩ (.int .i64 0) = w4.setCell ⟨q + 1, 0, none⟩ (.int .i64 0) := rfl)
  have k6 := Lib.hid ((((k5.out.swap.set (by omega) (fun x hx => by
    simp only [List.mem_cons, List.not_mem_nil, or_false] at hx
    rcases hx with rfl | rfl | rfl | rfl <;> simp only [ne_eq] <;> omega) 0 (.int .i64 0) (by simp)) : KR w (⟨q + 1, [.int .i64 0]⟩ :: _) _).sub (L' := [⟨q, fC X⟩, ⟨q + 1, [.int .i64 0]⟩, ⟨w.heap.size + 1, ir op A B C m⟩, ⟨w.heap.size + 2, fC zF⟩, ⟨w.heap.size, fC F⟩]) (by simp)))
  clear k5 hst v8 f8
  generalize w4.setCell ⟨q + 1, 0, none⟩ (.int .i64 0) = w5 at k6 ⊢
  have jA0 : (0 : Int) ≤ (A : Int) := by omega
  have jA1 : (A : Int) < 16 := by omega
  have rg := k6.out.range (g := w.heap.size) (vs := fC F) (by simp)
  have i0 := k6.out.cell (g := w.heap.size + 1) (j := 0) (u := .int .i64 op) (ir op A B C m) (by simp) rfl
  have i1 := k6.out.cell (g := w.heap.size + 1) (j := 1) (u := .int .i64 A) (ir op A B C m) (by simp) rfl
  have i2 := k6.out.cell (g := w.heap.size + 1) (j := 2) (u := .int .i64 B) (ir op A B C m) (by simp) rfl
  have i3 := k6.out.cell (g := w.heap.size + 1) (j := 3) (u := .int .i64 C) (ir op A B C m) (by simp) rfl
  have i4 := k6.out.cell (g := w.heap.size + 1) (j := 4) (u := .int .i64 m) (ir op A B C m) (by simp) rfl
  have hfin := Lib.hid (fun (e : Ending) (w' : World) (h : e = .returned (.tuple #[fV R, .int .i64 Tt]) ∧ Below w.heap.size w w') => (show Nxt a mb wb bb cc N g G Ll w (.tuple #[fV R, .int .i64 Tt]) e w' from by
    rw [hG.out, hLl.out, show doG F ⟨op, A, B, C, m⟩ N f = f from if_neg (fun h => absurd h.2 (by rw [hop.out]; unfold isS; simp)), show doL F ⟨op, A, B, C, m⟩ N l = l from if_neg (fun h => absurd h.2 (by rw [hop.out]; unfold isS; simp))]
    exact nxt_below H.out h))
  replace hop := hop.out
  subst hop
  have hT0 : Tt = refT (reg F B) 4 := by rw [hTt.out]; unfold doT; rw [hok.out, if_neg (by simp), if_neg (by unfold isL isS; simp), if_pos rfl]; exact jmp_ref (reg F B)
  have h16 := Lib.hid (show X[16]? = some (fur F 1) from by
    rw [hX.out]; unfold nxt
    rw [List.getElem?_set_self (by rw [hF.len]; decide)])
  have gb := Lib.hid (reg_get (F := F) (i := B) (by rw [hF.len]; omega))
  have fb := hF.reg B
  have hRx0 : Tt = 0 → R = (X.set A (fur F 1)).set 16 (reg F B) := fun h0 => by
    rw [hR.out]; unfold doF; rw [← hTt.out, h0, if_neg (by simp), if_neg (by unfold isY; simp), if_neg (by simp), if_pos rfl, ← hX.out]; dsimp only; rw [Int.toNat_natCast, Int.toNat_natCast]
  have hRz := Lib.hid (show Tt ≠ 0 → zF = R from fun h0 => by rw [hR.out]; unfold doF; rw [← hTt.out, if_pos h0])
  have hRf := Lib.hid (fun w => pref_any (reg F B) fb 4 (by decide) w)
  rw [← hT0] at hRf
  obtain ⟨c1, hc1⟩ : ∃ c1, c1 = fur F 1 := ⟨_, rfl⟩
  rw [← hc1] at hRx0 h16
  clear hT0 hTt hR hc1 fb
  generalize reg F B = rb at *
  replace hRx0 := Lib.hid hRx0
  have jB0 : (0 : Int) ≤ (B : Int) := by omega
  have jB1 : (B : Int) < 16 := by omega
  obtain ⟨SB, hSB⟩ : ∃ SB : World → Prop, SB = fun w' => ∃ (X' : List Cp) (t' : Int), X'[16]? = some c1 ∧ KR w [⟨q, fC X'⟩, ⟨q + 1, [.int .i64 t']⟩, ⟨w.heap.size + 1, ir 30 A B C m⟩, ⟨w.heap.size + 2, fC zF⟩, ⟨w.heap.size, fC F⟩] w' := ⟨_, rfl⟩
  have toS : ∀ (X' : List Cp) (t' : Int) (w' : World), X'[16]? = some c1 → KR w [⟨q, fC X'⟩, ⟨q + 1, [.int .i64 t']⟩, ⟨w.heap.size + 1, ir 30 A B C m⟩, ⟨w.heap.size + 2, fC zF⟩, ⟨w.heap.size, fC F⟩] w' → SB w' := fun X' t' w' h k => by rw [hSB]; exact ⟨X', t', h, k⟩
  have all : ∀ w', SB w' → (w'.cell? ⟨w.heap.size + 1, 2, none⟩ = some (.int .i64 B) ∧ w'.cell? ⟨q, 128, none⟩ = some (.int .u32 c1.cu) ∧ w'.cell? ⟨q, 129, none⟩ = some (.int .u8 c1.e) ∧ w'.cell? ⟨q, 130, none⟩ = some (.int .u16 c1.b) ∧ w'.cell? ⟨q, 131, none⟩ = some (.int .u16 c1.t) ∧ w'.cell? ⟨q, 132, none⟩ = some (.int .u16 c1.pm) ∧ w'.cell? ⟨q, 133, none⟩ = some (.int .u16 c1.ty) ∧ w'.cell? ⟨q, 134, none⟩ = some (.int .u32 c1.rs) ∧ w'.cell? ⟨q, 135, none⟩ = some (.bool c1.va) ∧ w'.cell? ⟨w.heap.size, B * 8, none⟩ = some (.int .u32 rb.cu) ∧ w'.cell? ⟨w.heap.size, B * 8 + 1, none⟩ = some (.int .u8 rb.e) ∧ w'.cell? ⟨w.heap.size, B * 8 + 2, none⟩ = some (.int .u16 rb.b) ∧ w'.cell? ⟨w.heap.size, B * 8 + 3, none⟩ = some (.int .u16 rb.t) ∧ w'.cell? ⟨w.heap.size, B * 8 + 4, none⟩ = some (.int .u16 rb.pm) ∧ w'.cell? ⟨w.heap.size, B * 8 + 5, none⟩ = some (.int .u16 rb.ty) ∧ w'.cell? ⟨w.heap.size, B * 8 + 6, none⟩ = some (.int .u32 rb.rs) ∧ w'.cell? ⟨w.heap.size, B * 8 + 7, none⟩ = some (.bool rb.va) ∧ SB w') := fun w' h => by
    have h0 := h
    rw [hSB] at h
    obtain ⟨X', t', h1, k⟩ := h
    obtain ⟨b0, b1, b2, b3, b4, b5, b6, b7⟩ := k.reg (g := q) (F := X') (by simp) h1
    simp only [Nat.reduceMul, Nat.reduceAdd] at b0 b1 b2 b3 b4 b5 b6 b7
    obtain ⟨a0, a1, a2, a3, a4, a5, a6, a7⟩ := k.reg (g := w.heap.size) (F := F) (by simp) gb.out
    exact ⟨k.cell (ir 30 A B C m) (by simp) rfl, b0, b1, b2, b3, b4, b5, b6, b7, a0, a1, a2, a3, a4, a5, a6, a7, h0⟩
  have kD := Lib.hid ((k6.out.below ((Below.refl _ w5).alloc (Nat.le_refl _) (.cells #[.int .u16 4] 23))).drew)
  have j0 := all _ (toS X 0 _ h16.out k6.out.drew)
  have j1 := all _ (toS X 0 _ h16.out kD.out)
  have hTg := Lib.hid (fun w' q (h : w'.cell? ⟨q, 0, none⟩ = some (.int .u16 (4 : Nat))) => ptog1 w' q 1 4 (by decide) h)
  have h16A := Lib.hid (show (X.set A c1)[16]? = some c1 from by rw [List.getElem?_set_ne (by omega)]; exact h16.out)
  have hWr := Lib.hid (fun w' (k : KR w [⟨q, fC X⟩, ⟨q + 1, [.int .i64 0]⟩, ⟨w.heap.size + 1, ir 30 A B C m⟩, ⟨w.heap.size + 2, fC zF⟩, ⟨w.heap.size, fC F⟩] w') => pwr_any q (w.heap.size + 1) (q + 1) X hN 30 B C m 0 Tt A hA1 c1 k (by omega) (by omega) (by omega) (by omega) (by omega) (fun x hx => by
    simp only [List.mem_cons, List.not_mem_nil, or_false] at hx
    rcases hx with rfl | rfl <;> simp only [ne_eq] <;> omega))
  replace all := Lib.hid all
  replace toS := Lib.hid toS
  clear hSB
  unfold Cp.V Cp.C cv at hRf hWr
  go_wp2_with fail
  clear i0 i1 i2 i3 i4
  go_region_held3 (fun w' => w'.cell? ⟨w.heap.size + 1, 2, none⟩ = some (.int .i64 B) ∧ w'.cell? ⟨q, 128, none⟩ = some (.int .u32 c1.cu) ∧ w'.cell? ⟨q, 129, none⟩ = some (.int .u8 c1.e) ∧ w'.cell? ⟨q, 130, none⟩ = some (.int .u16 c1.b) ∧ w'.cell? ⟨q, 131, none⟩ = some (.int .u16 c1.t) ∧ w'.cell? ⟨q, 132, none⟩ = some (.int .u16 c1.pm) ∧ w'.cell? ⟨q, 133, none⟩ = some (.int .u16 c1.ty) ∧ w'.cell? ⟨q, 134, none⟩ = some (.int .u32 c1.rs) ∧ w'.cell? ⟨q, 135, none⟩ = some (.bool c1.va) ∧ w'.cell? ⟨w.heap.size, B * 8, none⟩ = some (.int .u32 rb.cu) ∧ w'.cell? ⟨w.heap.size, B * 8 + 1, none⟩ = some (.int .u8 rb.e) ∧ w'.cell? ⟨w.heap.size, B * 8 + 2, none⟩ = some (.int .u16 rb.b) ∧ w'.cell? ⟨w.heap.size, B * 8 + 3, none⟩ = some (.int .u16 rb.t) ∧ w'.cell? ⟨w.heap.size, B * 8 + 4, none⟩ = some (.int .u16 rb.pm) ∧ w'.cell? ⟨w.heap.size, B * 8 + 5, none⟩ = some (.int .u16 rb.ty) ∧ w'.cell? ⟨w.heap.size, B * 8 + 6, none⟩ = some (.int .u32 rb.rs) ∧ w'.cell? ⟨w.heap.size, B * 8 + 7, none⟩ = some (.bool rb.va) ∧ SB w')
    (first | with_reducible exact j0 | with_reducible exact j1 | with_reducible exact j2 | with_reducible exact j3)
    (first
      | (go_at_call 45; ((with_reducible refine (hTg.out _ _ (by simp [go_sem])).mono ?_); rintro ee Z ⟨rfl, rfl⟩))
      | (go_at_call 44; ((refine (hRf.out _).mono ?_); rintro ee Z ⟨rfl, g⟩; have kZ := Lib.hid (kD.out.below g); have j2 := all.out _ (toS.out X 0 _ h16.out kZ.out); clear g))
      | (go_at_call 39; ((with_reducible refine (hWr.out _ kZ.out).mono ?_); rintro ee Z2 ⟨rfl, k_⟩; have kW := Lib.hid k_; have j3 := all.out _ (toS.out (X.set A c1) Tt _ h16A.out kW.out); clear k_)))
  obtain ⟨X2, hX2⟩ : ∃ X2, X2 = X.set A c1 := ⟨_, rfl⟩
  have hN2 : X2.length = 17 := by rw [hX2, List.length_set]; exact hN
  rw [← hX2] at kW hRx0
  have i2 := kW.out.cell (g := w.heap.size + 1) (j := 2) (u := .int .i64 B) (ir _ A B C m) (List.mem_cons_of_mem _ (List.mem_cons_of_mem _ (List.mem_cons_self ..))) rfl
  obtain ⟨a0, a1, a2, a3, a4, a5, a6, a7⟩ := kW.out.reg (g := w.heap.size) (F := F) (by simp) gb.out
  clear j3 kZ kD hTg hWr hRf all toS j0 j1
  have th := kW.out.there (g := q) (vs := fC X2) (by simp) 128 8 (by rw [fC_len, hN2]; decide)
  have kp := Lib.hid (kW.out.putF (by omega) (fun x hx => by
    simp only [List.mem_cons, List.not_mem_nil, or_false] at hx
    rcases hx with rfl | rfl | rfl | rfl <;> simp only [ne_eq] <;> omega) 16 rb (by rw [hN2]; decide))
  have s1 := size_ca rb
  have o1 := one_cp rb
  obtain ⟨Y, hY⟩ : ∃ Y, Y = X2.set 16 rb := ⟨_, rfl⟩
  have hYl : Y.length = 17 := by rw [hY, List.length_set]; exact hN2
  rw [← hY] at kp
  go_upto_region 33 with ((with_reducible show wpList _ _ _ _ _ _); (refine wpList_store_mid rfl 25 _ _ rfl q 128 rb.C.toArray rfl rfl th s1 o1 ?_; clear th s1 o1; change wpList _ _ _ _ _ (Z2.setCells q (16 * 8) rb.C); generalize Z2.setCells q (16 * 8) rb.C = w8 at kp ⊢))
  clear i2 a0 a1 a2 a3 a4 a5 a6 a7
  by_cases ht : Tt = 0
  · subst ht
    have hYR := Lib.hid (show Y = R from by rw [hY, hRx0.out rfl])
    clear hY kW
    have v8 := kp.out.cell (g := q + 1) (j := 0) (u := .int .i64 0) [.int .i64 0] (by simp) rfl
    have rq := kp.out.range (g := q) (vs := fC Y) (by simp)
    have sY := size_fr hYl
    have sa := size_fa hYl
    have oY := one_fr Y
    have th := kp.out.there (g := w.heap.size + 2) (vs := fC zF) (by simp) 0 136 (by rw [fC_len]; decide)
    have th' : w8.there (w.heap.size + 2) 0 (fC Y).toArray.size := by rw [show (fC Y).toArray.size = 136 from by rw [List.size_toArray, fC_len, hYl]]; exact th
    have k9 := Lib.hid ((kp.out.sub (L' := [⟨w.heap.size + 2, fC zF⟩]) (by simp)).putA (fC Y) (by simp) (by simp) (by rw [fC_len, fC_len, hYl]; rfl))
    clear th kp
    go_wp2_with ((with_reducible show wpList _ _ _ _ _ _); first | (refine wpList_load_mid rfl 28 _ rfl q 0 rfl (fC Y) _ rq Tryz.underlying28 rfl sY ?_) | (refine wpList_store_mid rfl 28 _ _ rfl (w.heap.size + 1 + 1) 0 (fC Y).toArray rfl rfl th' sa oY ?_; clear th' rq sa oY sY v8; change wpList _ _ _ _ _ (w8.setCells (w.heap.size + 2) 0 (fC Y)); generalize w8.setCells (w.heap.size + 2) 0 (fC Y) = wf at k9 ⊢))
    exact bodyPost_ret (v := .tuple #[fV Y, .int .i64 0]) (res_two Tryz.results12 rfl rfl (load_fr k9.out (List.mem_cons_self ..) hYl)) rfl (hfin.out _ _ ⟨by rw [hYR.out], k9.out.bl⟩)
  · have ht' : (Tt == 0) = false := by simpa using ht
    have hZ := Lib.hid (hRz.out ht)
    clear ht hY kW
    have v8 := kp.out.cell (g := q + 1) (j := 0) (u := .int .i64 Tt) [.int .i64 Tt] (by simp) rfl
    have zs : (Tryz.prog.info? 28).map (·.size) = some (Tryz.zeroCells28).size := by rw [zero_fr]; exact size_fa (F := zF) rfl
    have zo : (Tryz.zeroCells28).all (·.oneCell') = true := by rw [zero_fr]; exact one_fr zF
    go_upto_region 34 with (fail)
    have kd := Lib.hid kp.out.drew
    have j0 : w8.drew.cell? ⟨q + 1, 0, none⟩ = some (.int .i64 Tt) := v8
    have th := kd.out.there (g := w.heap.size + 2) (vs := fC zF) (by simp) 0 136 (by rw [fC_len]; decide)
    have k9 := Lib.hid ((kd.out.sub (L' := [⟨w.heap.size + 2, fC zF⟩]) (by simp)).putA (fC zF) (by simp) (by simp) rfl)
    have j1 := ((kd.out.sub (L' := [⟨w.heap.size + 2, fC zF⟩, ⟨q + 1, [.int .i64 Tt]⟩]) (by simp)).putA (fC zF) (by simp) (fun x hx => by
      simp only [List.mem_cons, List.not_mem_nil, or_false] at hx
      subst hx
      simp only [ne_eq]
      omega) rfl).cell (g := q + 1) (j := 0) (u := .int .i64 Tt) [.int .i64 Tt] (by simp) rfl
    have th' : w8.drew.there (w.heap.size + 2) 0 (Tryz.zeroCells28).size := by rw [show (Tryz.zeroCells28).size = 136 from by rw [zero_fr, List.size_toArray, fC_len]; rfl]; exact th
    have hz : w8.drew.setCells (w.heap.size + 2) 0 (Tryz.zeroCells28).toList = w8.drew.setCells (w.heap.size + 2) 0 (fC zF) := by rw [zero_fr]
    replace hz := Lib.hid hz
    clear th kp kd v8
    refine wp_region_held_drew (S := fun w' => w'.cell? ⟨q + 1, 0, none⟩ = some (.int .i64 Tt)) (by kernel_rfl) j0 (fun hHeld => ?_)
    refine wpAnyH_take (i := 0) (v := .agg Tryz.zeroCells28) rfl (by kernel_rfl) (by kernel_rfl) (by kernel_rfl) (fun _ _ _ h => h) (Or.inl ⟨by rfl, fun w' hw' => ?_⟩) j0 ?_
    · go_simp
    try simp only [Act.put]
    try simp only [List.setIfInBounds_toArray]
    try simp only [List.set_cons_succ]
    try simp only [List.set_cons_zero]
    refine wpAnyH_take (i := 1) (v := .int .i64 Tt) rfl (by kernel_rfl) (by kernel_rfl) (by kernel_rfl) (fun _ _ _ h => h) (Or.inl ⟨by rfl, fun w' hw' => ?_⟩) j0 ?_
    · dsimp only at hw'
      go_simp
    try simp only [Act.put]
    try simp only [List.setIfInBounds_toArray]
    try simp only [List.set_cons_succ]
    try simp only [List.set_cons_zero]
    refine wpAnyH_ready (rs := [2]) (by kernel_rfl) (by simp) (AllReadyH.cons rfl (fun K hK => ?_) AllReadyH.nil)
    rw [if_pos (by rfl)]
    refine wp_store_mid 28 _ _ rfl (w.heap.size + 1 + 1) 0 Tryz.zeroCells28 rfl rfl th' zs zo ?_
    clear th' zs zo
    change K _ (w8.drew.setCells (w.heap.size + 2) 0 (Tryz.zeroCells28).toList)
    rw [hz.out]
    generalize w8.drew.setCells (w.heap.size + 2) 0 (fC zF) = wf at k9 j1 ⊢
    refine hK.out _ _ j1 (fun hHeld2 => ?_)
    clear hK K
    try simp only [Act.put]
    try simp only [List.setIfInBounds_toArray]
    try simp only [List.set_cons_succ]
    try simp only [List.set_cons_zero]
    refine wpAnyH_ready (rs := [3]) (by kernel_rfl) (by simp) (AllReadyH.cons rfl (fun K hK => ?_) AllReadyH.nil)
    go_simp
    refine hK.out _ _ j1 (fun hHeld3 => ?_)
    clear hK K
    try simp only [Act.put]
    try simp only [List.setIfInBounds_toArray]
    try simp only [List.set_cons_succ]
    try simp only [List.set_cons_zero]
    refine wpAnyH_done (by kernel_rfl) ?_ _
    go_wp2_with fail
    exact bodyPost_ret (v := .tuple #[fV zF, .int .i64 Tt]) (res_two Tryz.results12 rfl rfl (load_fr k9.out (List.mem_cons_self ..) rfl)) rfl (hfin.out _ _ ⟨by rw [hZ.out], k9.out.bl⟩)
end
end Go.Proofs.YtkmgdfcambdeeaaGreatDoor
