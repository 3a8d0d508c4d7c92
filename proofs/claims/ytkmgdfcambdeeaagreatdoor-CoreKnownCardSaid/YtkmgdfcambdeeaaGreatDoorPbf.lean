/- Contracts of layer core: takes, reckon. No statement is proved here. -/
import Derived.Deep.DeepCutAuto
import Derived.Deep.RegionHeld
import Derived.Test.YtkmgdfcambdeeaaGreatDoorPbd
import Derived.Test.YtkmgdfcambdeeaaGreatDoorPbe
import Derived.Test.YtkmgdfcambdeeaaGreatDoorPba
namespace Go.Proofs.YtkmgdfcambdeeaaGreatDoor
set_option maxRecDepth 100000
open Go.RowKit
set_option linter.unusedVariables false
set_option maxHeartbeats 1000000 in
theorem ptakes_any (F : List Cp) (hF : Fit F) (op : Int) (A B : Nat) (C : Int) (hA : A < 16) (hB : B < 16) (m : Int) (W : World) : Calls Tryz.prog 42 #[fV F, .agg #[.int .i64 op, .int .i64 A, .int .i64 B, .int .i64 C, .int .i64 m]] W fun e w' => e = .returned (.bool (takeR op (reg F A).cu (reg F B).cu)) ∧ Below W.heap.size W w' := by
  have k0 := Lib.hid (start_fi F op A B C m W)
  have ga := Lib.hid (reg_get (F := F) (i := A) (by rw [hF.len]; omega))
  have gb := Lib.hid (reg_get (F := F) (i := B) (by rw [hF.len]; omega))
  have hT := Lib.hid (fun w => takes_any op (reg F A).cu (reg F B).cu (hF.reg A).l0 (hF.reg B).l0 w)
  generalize takeR op (reg F A).cu (reg F B).cu = t at *
  generalize isT op = t2 at *
  generalize reg F A = a at *
  generalize reg F B = b at *
  clear hF
  unfold fV
  go_enter Tryz.func42, Tryz.ntmps42
  go_upto_region 1 with (fail)
  generalize ((W.alloc (.cells (fC F).toArray 28)).alloc _) = w1 at k0 ⊢
  obtain ⟨S, hS0⟩ : ∃ S : World → Prop, S = fun w => KR W [⟨W.heap.size + 1, ir op A B C m⟩, ⟨W.heap.size, fC F⟩] w := ⟨_, rfl⟩
  have hK : ∀ w, S w → KR W [⟨W.heap.size + 1, ir op A B C m⟩, ⟨W.heap.size, fC F⟩] w := fun w h => by rw [hS0] at h; exact h
  have hSb : ∀ u v, S u → Below u.heap.size u v → S v := fun u v h k => by rw [hS0] at h ⊢; exact h.below k
  have s0 : S w1 := by rw [hS0]; exact k0.out
  clear hS0
  have cT := Lib.hid (cls_call (S := S) fun w hw => (hT.out w).mono fun e w' k => (⟨k.1, k.2 ▸ hw⟩ : _ ∧ S w'))
  have ii : ∀ (j : Nat) (u : Value), (ir op A B C m)[j]? = some u → ∀ y : Wd S, y.w.cell? ⟨W.heap.size + 1, j, none⟩ = some u := fun j u hu y => (hK _ y.h).cell (ir op A B C m) (by simp) hu
  have i0 := ii 0 _ rfl
  have i1 := ii 1 _ rfl
  have i2 := ii 2 _ rfl
  have a0 : ∀ y : Wd S, y.w.cell? ⟨W.heap.size, A * 8, none⟩ = some (.int .u32 a.cu) := fun y => ((hK _ y.h).reg (g := W.heap.size) (F := F) (by simp) ga.out).1
  have b0 : ∀ y : Wd S, y.w.cell? ⟨W.heap.size, B * 8, none⟩ = some (.int .u32 b.cu) := fun y => ((hK _ y.h).reg (g := W.heap.size) (F := F) (by simp) gb.out).1
  have HS := Lib.hid hSb
  have HK := Lib.hid hK
  clear hK hSb ii hT k0
  go_wp2_with fail
  refine region_cls S (by kernel_rfl) (by kernel_rfl) (HS.out _ _ s0 (Below.refl _ _).drew) ?_
  repeat (first
    | go_big_quiet_skip
    | (go_big_quiet_want
       go_big_quiet_op
       first
       | go_big_quiet_on
       | (apply Exists.intro
          refine ⟨fun y => ?_, ?_⟩
          · first | exact rfl | with_reducible exact cT.out y | exact cT.out y
          go_big_quiet_on)))
  refine wpQuiet_nil ?_
  intro y
  have k1 := Lib.hid (HK.out _ y.h)
  generalize y.w = w2 at k1 ⊢
  clear y i0 i1 i2 a0 b0 cT HS HK s0
  go_wp2_with fail
  go_ret
  exact ⟨rfl, k1.out.bl⟩
theorem pDv_eq (F : List Cp) (op : Int) (b c : Cp) (m : Int) (h : isP op = true) : pDv op b c m = dDer F op b c m := by
  have h' := of_decide_eq_true h
  rcases h' with rfl | rfl | rfl | rfl | rfl | rfl | rfl | rfl | rfl | rfl | rfl <;> rfl
theorem numN_eq (F : List Cp) (op : Int) (b c : Cp) (m : Int) (h : isD op = true) (hp : isP op = false) (h49 : op ≠ 49) : numC (numN op b m) = dDer F op b c m := by
  have h' := of_decide_eq_true h
  have hp' := of_decide_eq_false hp
  rcases h' with rfl | rfl | rfl | rfl | rfl | rfl | rfl | rfl | rfl | rfl | rfl | rfl | rfl | rfl | rfl | rfl | rfl | rfl | rfl | rfl | rfl | rfl
  all_goals first
    | rfl
    | exact absurd rfl h49
    | exact absurd (by decide) hp'
theorem numN_lt (op : Int) (b : Cp) (fb : b.fit) (m : Int) : numN op b m < 4294967296 := by
  obtain ⟨b0, b1, b2, b3⟩ := de_bounds b.e b.b b.t b.cu
  have h0 := fb.l0
  have h4 := fb.l4
  have h5 := fb.l5
  have hz : ∀ t, oneI t < 4294967296 := fun t => by cases t <;> decide
  unfold numN
  repeat' split
  all_goals first
    | omega
    | exact hz _
set_option maxHeartbeats 8000000 in
theorem preck_any (F : List Cp) (hF : Fit F) (op : Int) (A B C : Nat) (hA : A < 16) (hB : B < 16) (hC : C < 16) (m : Int) (hop : isR op = true ∨ isD op = true) (W : World) : Calls Tryz.prog 46 #[fV F, .agg #[.int .i64 op, .int .i64 A, .int .i64 B, .int .i64 C, .int .i64 m]] W fun e w' => e = .returned (.tuple #[(if isR op then numC (valR op (reg F B).cu (reg F C).cu) else dDer F op (reg F B) (reg F C) m).V, .int .i64 (if isR op then trapR op (reg F C).cu else 0)]) ∧ Below W.heap.size W w' := by
  have k0 := Lib.hid (start_fib F op A B C m W)
  obtain ⟨b, hb⟩ : ∃ b, b = reg F B := ⟨_, rfl⟩
  obtain ⟨c, hc⟩ : ∃ c, c = reg F C := ⟨_, rfl⟩
  have gb := reg_get (F := F) (i := B) (by rw [hF.len]; omega)
  have gc := reg_get (F := F) (i := C) (by rw [hF.len]; omega)
  rw [← hb] at gb
  rw [← hc] at gc
  rw [← hb, ← hc]
  have fb : b.fit := hb ▸ hF.reg B
  have fc : c.fit := hc ▸ hF.reg C
  replace gb := Lib.hid gb
  replace gc := Lib.hid gc
  clear hb hc
  obtain ⟨X, hX⟩ : ∃ X, X = if isR op then numC (valR op b.cu c.cu) else dDer F op b c m := ⟨_, rfl⟩
  obtain ⟨T, hTt⟩ : ∃ T, T = if isR op then trapR op c.cu else 0 := ⟨_, rfl⟩
  rw [← hX, ← hTt]
  have hRk := Lib.hid (fun w => reckon_any op b.cu c.cu fb.l0 fc.l0 w)
  have lv : valR op b.cu c.cu < 4294967296 := valR_lt op b.cu c.cu fb.l0 fc.l0
  obtain ⟨v, hv⟩ : ∃ v, v = valR op b.cu c.cu := ⟨_, rfl⟩
  rw [← hv] at hX hRk lv
  obtain ⟨d0, hd0⟩ : ∃ d, d = numC v := ⟨_, rfl⟩
  rw [← hd0] at hX
  have hN := Lib.hid (fun w => hd0 ▸ pNumber_cp v lv w)
  have hDe := Lib.hid (fun w => pder_any op A B C m b c fb fc w)
  replace hX := Lib.hid hX
  replace hTt := Lib.hid hTt
  clear hv hd0 lv
  unfold fV
  go_enter Tryz.func46, Tryz.ntmps46
  go_upto_region 1 with (fail)
  generalize (((W.alloc (.cells (fC F).toArray 28)).alloc _).alloc _) = w1 at k0 ⊢
  have kA : KR W [⟨w1.heap.size, b.C⟩, ⟨w1.heap.size + 1, c.C⟩, ⟨W.heap.size + 2, zC.C⟩, ⟨W.heap.size + 1, ir op A B C m⟩, ⟨W.heap.size, fC F⟩] ((w1.alloc (.cells #[.int .u32 b.cu, .int .u8 b.e, .int .u16 b.b, .int .u16 b.t, .int .u16 b.pm, .int .u16 b.ty, .int .u32 b.rs, .bool b.va] 25)).alloc (.cells #[.int .u32 c.cu, .int .u8 c.e, .int .u16 c.b, .int .u16 c.t, .int .u16 c.pm, .int .u16 c.ty, .int .u32 c.rs, .bool c.va] 25)).drew := by
    have := ((k0.out.push b.C 25).push c.C 25).swap.drew
    rw [show (w1.alloc (.cells b.C.toArray 25)).heap.size = w1.heap.size + 1 from by simp] at this
    exact this
  have kB : KR W [⟨w1.heap.size + 1, b.C⟩, ⟨w1.heap.size, c.C⟩, ⟨W.heap.size + 2, zC.C⟩, ⟨W.heap.size + 1, ir op A B C m⟩, ⟨W.heap.size, fC F⟩] ((w1.alloc (.cells #[.int .u32 c.cu, .int .u8 c.e, .int .u16 c.b, .int .u16 c.t, .int .u16 c.pm, .int .u16 c.ty, .int .u32 c.rs, .bool c.va] 25)).alloc (.cells #[.int .u32 b.cu, .int .u8 b.e, .int .u16 b.b, .int .u16 b.t, .int .u16 b.pm, .int .u16 b.ty, .int .u32 b.rs, .bool b.va] 25)).drew := by
    have := ((k0.out.push c.C 25).push b.C 25).drew
    rw [show (w1.alloc (.cells c.C.toArray 25)).heap.size = w1.heap.size + 1 from by simp] at this
    exact this
  replace kA := Lib.hid kA
  replace kB := Lib.hid kB
  have all : ∀ w', Below w1.heap.size w1 w' → w'.cell? ⟨W.heap.size + 1, 2, none⟩ = some (.int .i64 B) ∧ w'.cell? ⟨W.heap.size + 1, 3, none⟩ = some (.int .i64 C) ∧ w'.cell? ⟨W.heap.size, B * 8, none⟩ = some (.int .u32 b.cu) ∧ w'.cell? ⟨W.heap.size, B * 8 + 1, none⟩ = some (.int .u8 b.e) ∧ w'.cell? ⟨W.heap.size, B * 8 + 2, none⟩ = some (.int .u16 b.b) ∧ w'.cell? ⟨W.heap.size, B * 8 + 3, none⟩ = some (.int .u16 b.t) ∧ w'.cell? ⟨W.heap.size, B * 8 + 4, none⟩ = some (.int .u16 b.pm) ∧ w'.cell? ⟨W.heap.size, B * 8 + 5, none⟩ = some (.int .u16 b.ty) ∧ w'.cell? ⟨W.heap.size, B * 8 + 6, none⟩ = some (.int .u32 b.rs) ∧ w'.cell? ⟨W.heap.size, B * 8 + 7, none⟩ = some (.bool b.va) ∧ w'.cell? ⟨W.heap.size, C * 8, none⟩ = some (.int .u32 c.cu) ∧ w'.cell? ⟨W.heap.size, C * 8 + 1, none⟩ = some (.int .u8 c.e) ∧ w'.cell? ⟨W.heap.size, C * 8 + 2, none⟩ = some (.int .u16 c.b) ∧ w'.cell? ⟨W.heap.size, C * 8 + 3, none⟩ = some (.int .u16 c.t) ∧ w'.cell? ⟨W.heap.size, C * 8 + 4, none⟩ = some (.int .u16 c.pm) ∧ w'.cell? ⟨W.heap.size, C * 8 + 5, none⟩ = some (.int .u16 c.ty) ∧ w'.cell? ⟨W.heap.size, C * 8 + 6, none⟩ = some (.int .u32 c.rs) ∧ w'.cell? ⟨W.heap.size, C * 8 + 7, none⟩ = some (.bool c.va) := fun w' hb =>
    ⟨(k0.out.below hb).cell (ir op A B C m) (by simp) rfl, (k0.out.below hb).cell (ir op A B C m) (by simp) rfl, (((k0.out.below hb).reg (F := F) (by simp) gb.out)).1, ((k0.out.below hb).reg (F := F) (by simp) gb.out).2.1, ((k0.out.below hb).reg (F := F) (by simp) gb.out).2.2.1, ((k0.out.below hb).reg (F := F) (by simp) gb.out).2.2.2.1, ((k0.out.below hb).reg (F := F) (by simp) gb.out).2.2.2.2.1, ((k0.out.below hb).reg (F := F) (by simp) gb.out).2.2.2.2.2.1, ((k0.out.below hb).reg (F := F) (by simp) gb.out).2.2.2.2.2.2.1, ((k0.out.below hb).reg (F := F) (by simp) gb.out).2.2.2.2.2.2.2, (k0.out.below hb).reg (F := F) (by simp) gc.out⟩
  have b0 : Below w1.heap.size w1 w1 := Below.refl _ _
  have j0 := all _ b0.drew
  have j1 := all _ (Below.drew (b0.alloc (Nat.le_refl _) (.cells #[.int .u32 0, .int .u8 0, .int .u16 0, .int .u16 0, .int .u16 0, .int .u16 0, .int .u32 0, .bool false] 25)))
  have j2 := all _ (Below.drew ((b0.alloc (Nat.le_refl _) (.cells #[.int .u32 0, .int .u8 0, .int .u16 0, .int .u16 0, .int .u16 0, .int .u16 0, .int .u32 0, .bool false] 25)).alloc (by simp) (.cells #[.int .u32 0, .int .u8 0, .int .u16 0, .int .u16 0, .int .u16 0, .int .u16 0, .int .u32 0, .bool false] 25)))
  have j3 := all _ (Below.drew ((b0.alloc (Nat.le_refl _) (.cells #[.int .u32 b.cu, .int .u8 b.e, .int .u16 b.b, .int .u16 b.t, .int .u16 b.pm, .int .u16 b.ty, .int .u32 b.rs, .bool b.va] 25)).alloc (by simp) (.cells #[.int .u32 0, .int .u8 0, .int .u16 0, .int .u16 0, .int .u16 0, .int .u16 0, .int .u32 0, .bool false] 25)))
  have j4 := all _ (Below.drew ((b0.alloc (Nat.le_refl _) (.cells #[.int .u32 0, .int .u8 0, .int .u16 0, .int .u16 0, .int .u16 0, .int .u16 0, .int .u32 0, .bool false] 25)).alloc (by simp) (.cells #[.int .u32 b.cu, .int .u8 b.e, .int .u16 b.b, .int .u16 b.t, .int .u16 b.pm, .int .u16 b.ty, .int .u32 b.rs, .bool b.va] 25)))
  have j5 := all _ (Below.drew ((b0.alloc (Nat.le_refl _) (.cells #[.int .u32 b.cu, .int .u8 b.e, .int .u16 b.b, .int .u16 b.t, .int .u16 b.pm, .int .u16 b.ty, .int .u32 b.rs, .bool b.va] 25)).alloc (by simp) (.cells #[.int .u32 c.cu, .int .u8 c.e, .int .u16 c.b, .int .u16 c.t, .int .u16 c.pm, .int .u16 c.ty, .int .u32 c.rs, .bool c.va] 25)))
  have j6 := all _ (Below.drew ((b0.alloc (Nat.le_refl _) (.cells #[.int .u32 c.cu, .int .u8 c.e, .int .u16 c.b, .int .u16 c.t, .int .u16 c.pm, .int .u16 c.ty, .int .u32 c.rs, .bool c.va] 25)).alloc (by simp) (.cells #[.int .u32 b.cu, .int .u8 b.e, .int .u16 b.b, .int .u16 b.t, .int .u16 b.pm, .int .u16 b.ty, .int .u32 b.rs, .bool b.va] 25)))
  replace all := Lib.hid all
  replace b0 := Lib.hid b0
  go_cut [6, 7] (fun vb vc w' => ∃ p q, vb = .pointer (some ⟨p, 0, none⟩) ∧ vc = .pointer (some ⟨q, 0, none⟩) ∧ KR W [⟨p, b.C⟩, ⟨q, c.C⟩, ⟨W.heap.size + 2, zC.C⟩, ⟨W.heap.size + 1, ir op A B C m⟩, ⟨W.heap.size, fC F⟩] w')
  case first =>
    go_region_held (fun w' => w'.cell? ⟨W.heap.size + 1, 2, none⟩ = some (.int .i64 B) ∧ w'.cell? ⟨W.heap.size + 1, 3, none⟩ = some (.int .i64 C) ∧ w'.cell? ⟨W.heap.size, B * 8, none⟩ = some (.int .u32 b.cu) ∧ w'.cell? ⟨W.heap.size, B * 8 + 1, none⟩ = some (.int .u8 b.e) ∧ w'.cell? ⟨W.heap.size, B * 8 + 2, none⟩ = some (.int .u16 b.b) ∧ w'.cell? ⟨W.heap.size, B * 8 + 3, none⟩ = some (.int .u16 b.t) ∧ w'.cell? ⟨W.heap.size, B * 8 + 4, none⟩ = some (.int .u16 b.pm) ∧ w'.cell? ⟨W.heap.size, B * 8 + 5, none⟩ = some (.int .u16 b.ty) ∧ w'.cell? ⟨W.heap.size, B * 8 + 6, none⟩ = some (.int .u32 b.rs) ∧ w'.cell? ⟨W.heap.size, B * 8 + 7, none⟩ = some (.bool b.va) ∧ w'.cell? ⟨W.heap.size, C * 8, none⟩ = some (.int .u32 c.cu) ∧ w'.cell? ⟨W.heap.size, C * 8 + 1, none⟩ = some (.int .u8 c.e) ∧ w'.cell? ⟨W.heap.size, C * 8 + 2, none⟩ = some (.int .u16 c.b) ∧ w'.cell? ⟨W.heap.size, C * 8 + 3, none⟩ = some (.int .u16 c.t) ∧ w'.cell? ⟨W.heap.size, C * 8 + 4, none⟩ = some (.int .u16 c.pm) ∧ w'.cell? ⟨W.heap.size, C * 8 + 5, none⟩ = some (.int .u16 c.ty) ∧ w'.cell? ⟨W.heap.size, C * 8 + 6, none⟩ = some (.int .u32 c.rs) ∧ w'.cell? ⟨W.heap.size, C * 8 + 7, none⟩ = some (.bool c.va)) (first | with_reducible exact j0 | with_reducible exact j1 | with_reducible exact j2 | with_reducible exact j3 | with_reducible exact j4 | with_reducible exact j5 | with_reducible exact j6) (fail)
    all_goals go_wp2_with fail
    all_goals go_meet
    all_goals first | exact ⟨_, _, rfl, rfl, kA.out⟩ | exact ⟨_, _, rfl, rfl, kB.out⟩
  case rest =>
    obtain ⟨p, q, rfl, rfl, k2⟩ := hcut
    clear all b0 j0 j1 j2 j3 j4 j5 j6 kA kB k0
    replace k2 := Lib.hid k2
    have i0 := k2.out.cell (g := W.heap.size + 1) (j := 0) (u := .int .i64 op) (ir op A B C m) (by simp) rfl
    have p0 : wc.cell? ⟨p, 0, none⟩ = some (.int .u32 b.cu) := k2.out.cell (g := p) (j := 0) b.C (by simp) rfl
    have q0 : wc.cell? ⟨q, 0, none⟩ = some (.int .u32 c.cu) := k2.out.cell (g := q) (j := 0) c.C (by simp) rfl
    go_wp2_with fail
    refine (hRk.out _).mono ?_
    rintro ee w3 ⟨rfl, h3⟩
    have k3 := Lib.hid (k2.out.below h3)
    clear h3 k2 hRk i0 p0 q0
    cases hr : isR op
    case true =>
      have hx := Lib.hid (show d0 = X from by rw [hX.out, hr]; rfl)
      have hy := Lib.hid (show trapR op c.cu = T from by rw [hTt.out, hr]; rfl)
      clear hop
      go_wp2_with fail
      refine (hN.out _).mono ?_
      rintro ee w4 ⟨rfl, h4⟩
      have k4 := k3.out.below h4
      clear h4 k3 hN
      have zb := k4.there (g := W.heap.size + 2) (vs := zC.C) (by simp) 0 8 (by decide)
      have hf := Lib.hid ((k4.sub (L' := [⟨W.heap.size + 2, zC.C⟩]) (by simp)).putA d0.C (by simp) (by simp) rfl)
      have s1 := size_ca d0
      have o1 := one_cp d0
      go_wp2_with ((with_reducible show wpList _ _ _ _ _ _); refine wpList_store_mid rfl 25 _ _ rfl (W.heap.size + 1 + 1) 0 d0.C.toArray rfl rfl zb s1 o1 ?_; clear zb s1 o1; change wpList _ _ _ _ _ (w4.setCells (W.heap.size + 2) 0 d0.C); generalize w4.setCells (W.heap.size + 2) 0 d0.C = wf at hf ⊢)
      exact bodyPost_ret (v := .tuple #[d0.V, .int .i64 (trapR op c.cu)]) (res_two Tryz.results46 rfl rfl (load_cp hf.out (List.mem_cons_self ..))) rfl ⟨by rw [hx.out, hy.out], hf.out.bl⟩
    have hD : isD op = true := by
      rcases hop with h | h
      · rw [hr] at h; cases h
      · exact h
    have hx1 : X = dDer F op b c m := by rw [hX.out, hr]; rfl
    have hy : T = 0 := by rw [hTt.out, hr]; rfl
    subst hy
    clear hN hX hTt
    obtain ⟨p0, p1, p2, p3, p4, p5, p6, p7⟩ := (k3.out.cap (g := p) (List.mem_cons_self ..) : CapAt _ _ b.cu b.e b.b b.t b.pm b.ty b.rs b.va)
    obtain ⟨c0, c1, c2, c3, c4, c5, c6, c7⟩ := (k3.out.cap (g := q) (by simp [Cp.C]) : CapAt _ _ c.cu c.e c.b c.t c.pm c.ty c.rs c.va)
    have i0 := k3.out.cell (g := W.heap.size + 1) (j := 0) (u := .int .i64 op) (ir op A B C m) (by simp) rfl
    have i1 := k3.out.cell (g := W.heap.size + 1) (j := 1) (u := .int .i64 A) (ir op A B C m) (by simp) rfl
    have i2 := k3.out.cell (g := W.heap.size + 1) (j := 2) (u := .int .i64 B) (ir op A B C m) (by simp) rfl
    have i3 := k3.out.cell (g := W.heap.size + 1) (j := 3) (u := .int .i64 C) (ir op A B C m) (by simp) rfl
    have i4 := k3.out.cell (g := W.heap.size + 1) (j := 4) (u := .int .i64 m) (ir op A B C m) (by simp) rfl
    go_wp2_with fail
    refine (hDe.out _).mono ?_
    rintro ee w4 ⟨rfl, h4⟩
    have k4 := Lib.hid (k3.out.below h4)
    clear h4 k3 hDe p0 p1 p2 p3 p4 p5 p6 p7 c0 c1 c2 c3 c4 c5 c6 c7 i0 i1 i2 i3 i4
    obtain ⟨d1, hd1⟩ : ∃ d1, d1 = pDv op b c m := ⟨_, rfl⟩
    rw [← hd1]
    have q1 := k4.out.lt (g := p) (vs := b.C) (by simp)
    have q2 := k4.out.lt (g := q) (vs := c.C) (by simp)
    have q3 := k4.out.lt (g := W.heap.size + 2) (vs := zC.C) (by simp)
    have k4a := k4.out.push zC.C 25
    have th := k4a.there (g := w4.heap.size) (vs := zC.C) (List.mem_cons_self ..) 0 8 (by decide)
    have k5 := Lib.hid (k4a.putA d1.C (by omega) (fun x hx => by
      simp only [List.mem_cons, List.not_mem_nil, or_false] at hx
      rcases hx with rfl | rfl | rfl | rfl | rfl <;> simp only [ne_eq] <;> omega) rfl)
    have s1 := size_ca d1
    have o1 := one_cp d1
    clear k4a k4
    cases hP : isP op
    case true =>
      have hx := Lib.hid (show d1 = X from by rw [hd1, hx1, pDv_eq F op b c m hP])
      have s2 := size_ca d1
      have o2 := one_cp d1
      clear hd1 hx1
      go_wp2_with ((with_reducible show wpList _ _ _ _ _ _); first | (refine wpList_store_mid rfl 25 _ _ rfl w4.heap.size 0 d1.C.toArray rfl rfl th s1 o1 ?_; clear th s1 o1; change wpList _ _ _ _ _ ((w4.alloc (.cells zC.C.toArray 25)).setCells w4.heap.size 0 d1.C); generalize (w4.alloc (.cells zC.C.toArray 25)).setCells w4.heap.size 0 d1.C = w5 at k5 ⊢; generalize w4.heap.size = z at k5 q1 q2 q3 ⊢; have rg := k5.out.range (g := z) (vs := d1.C) (List.mem_cons_self ..); have zb := k5.out.there (g := W.heap.size + 2) (vs := zC.C) (by simp) 0 8 (by decide); have hf := Lib.hid ((k5.out.sub (L' := [⟨W.heap.size + 2, zC.C⟩]) (by simp)).putA d1.C (by simp) (by simp) rfl)) | (refine wpList_load_mid rfl 25 _ rfl z 0 rfl d1.C _ rg Tryz.underlying25 rfl (size_cp d1) ?_) | (refine wpList_store_mid rfl 25 _ _ rfl (W.heap.size + 1 + 1) 0 d1.C.toArray rfl rfl zb s2 o2 ?_; clear zb s2 o2; change wpList _ _ _ _ _ (w5.setCells (W.heap.size + 2) 0 d1.C); generalize w5.setCells (W.heap.size + 2) 0 d1.C = wf at hf ⊢))
      exact bodyPost_ret (v := .tuple #[d1.V, .int .i64 0]) (res_two Tryz.results46 rfl rfl (load_cp hf.out (List.mem_cons_self ..))) rfl ⟨by rw [hx.out], hf.out.bl⟩
    by_cases h49 : op = 49
    · subst h49
      obtain ⟨d2, hd2⟩ : ∃ d2, d2 = furC (reg F 16) m := ⟨_, rfl⟩
      have hF2 := Lib.hid (fun w => hd2 ▸ pfur_any (reg F 16) (hF.reg 16) m w)
      have hx := Lib.hid (show d2 = X from by rw [hd2, hx1]; rfl)
      have g16 := Lib.hid (reg_get (F := F) (i := 16) (by rw [hF.len]; decide))
      clear hd2 hx1 hd1
      generalize reg F 16 = e16 at *
      go_upto_region 12 with ((with_reducible show wpList _ _ _ _ _ _); refine wpList_store_mid rfl 25 _ _ rfl w4.heap.size 0 d1.C.toArray rfl rfl th s1 o1 ?_; clear th s1 o1; change wpList _ _ _ _ _ ((w4.alloc (.cells zC.C.toArray 25)).setCells w4.heap.size 0 d1.C); generalize (w4.alloc (.cells zC.C.toArray 25)).setCells w4.heap.size 0 d1.C = w5 at k5 ⊢; generalize w4.heap.size = z at k5 q1 q2 q3 ⊢; have i0 := k5.out.cell (g := W.heap.size + 1) (j := 0) (u := .int .i64 49) (ir 49 A B C m) (by simp) rfl; have i4 := k5.out.cell (g := W.heap.size + 1) (j := 4) (u := .int .i64 m) (ir 49 A B C m) (by simp) rfl; obtain ⟨a0, a1, a2, a3, a4, a5, a6, a7⟩ := k5.out.reg (g := W.heap.size) (F := F) (by simp) g16.out; simp only [Nat.reduceMul, Nat.reduceAdd] at a0 a1 a2 a3 a4 a5 a6 a7)
      go_wp2_with fail
      refine (hF2.out _).mono ?_
      rintro ee w6 ⟨rfl, h6⟩
      have k6 := k5.out.below h6
      clear h6 k5 hF2 i0 i4 a0 a1 a2 a3 a4 a5 a6 a7
      have zb := k6.there (g := W.heap.size + 2) (vs := zC.C) (by simp) 0 8 (by decide)
      have hf := Lib.hid ((k6.sub (L' := [⟨W.heap.size + 2, zC.C⟩]) (by simp)).putA d2.C (by simp) (by simp) rfl)
      have s1 := size_ca d2
      have o1 := one_cp d2
      go_wp2_with ((with_reducible show wpList _ _ _ _ _ _); refine wpList_store_mid rfl 25 _ _ rfl (W.heap.size + 1 + 1) 0 d2.C.toArray rfl rfl zb s1 o1 ?_; clear zb s1 o1; change wpList _ _ _ _ _ (w6.setCells (W.heap.size + 2) 0 d2.C); generalize w6.setCells (W.heap.size + 2) 0 d2.C = wf at hf ⊢)
      exact bodyPost_ret (v := .tuple #[d2.V, .int .i64 0]) (res_two Tryz.results46 rfl rfl (load_cp hf.out (List.mem_cons_self ..))) rfl ⟨by rw [hx.out], hf.out.bl⟩
    · obtain ⟨v, hv⟩ : ∃ v, v = numN op b m := ⟨_, rfl⟩
      have lv : v < 4294967296 := hv ▸ numN_lt op b fb m
      obtain ⟨d2, hd2⟩ : ∃ d2, d2 = numC v := ⟨_, rfl⟩
      have hx := Lib.hid (show d2 = X from by rw [hd2, hv, hx1, numN_eq F op b c m hD hP h49])
      have hNu := Lib.hid (fun w => hv ▸ pnum_any op A B C m b fb w)
      have hNm := Lib.hid (fun w => hd2 ▸ pNumber_cp v lv w)
      have n49 : (op == 49) = false := by simpa using h49
      clear hd2 hx1 hd1 hv h49 lv
      go_upto_region 12 with ((with_reducible show wpList _ _ _ _ _ _); refine wpList_store_mid rfl 25 _ _ rfl w4.heap.size 0 d1.C.toArray rfl rfl th s1 o1 ?_; clear th s1 o1; change wpList _ _ _ _ _ ((w4.alloc (.cells zC.C.toArray 25)).setCells w4.heap.size 0 d1.C); generalize (w4.alloc (.cells zC.C.toArray 25)).setCells w4.heap.size 0 d1.C = w5 at k5 ⊢; generalize w4.heap.size = z at k5 q1 q2 q3 ⊢; have i0 := k5.out.cell (g := W.heap.size + 1) (j := 0) (u := .int .i64 op) (ir op A B C m) (by simp) rfl; have i1 := k5.out.cell (g := W.heap.size + 1) (j := 1) (u := .int .i64 A) (ir op A B C m) (by simp) rfl; have i2 := k5.out.cell (g := W.heap.size + 1) (j := 2) (u := .int .i64 B) (ir op A B C m) (by simp) rfl; have i3 := k5.out.cell (g := W.heap.size + 1) (j := 3) (u := .int .i64 C) (ir op A B C m) (by simp) rfl; have i4 := k5.out.cell (g := W.heap.size + 1) (j := 4) (u := .int .i64 m) (ir op A B C m) (by simp) rfl; obtain ⟨p0, p1, p2, p3, p4, p5, p6, p7⟩ := (k5.out.cap (g := p) (by simp [Cp.C]) : CapAt _ _ b.cu b.e b.b b.t b.pm b.ty b.rs b.va))
      go_wp2_with fail
      refine (hNu.out _).mono ?_
      rintro ee w6 ⟨rfl, h6⟩
      have k6 := Lib.hid (k5.out.below h6)
      clear h6 k5 hNu i0 i1 i2 i3 i4 p0 p1 p2 p3 p4 p5 p6 p7
      go_wp2_with fail
      refine (hNm.out _).mono ?_
      rintro ee w7 ⟨rfl, h7⟩
      have k7 := k6.out.below h7
      clear h7 k6 hNm
      have zb := k7.there (g := W.heap.size + 2) (vs := zC.C) (by simp) 0 8 (by decide)
      have hf := Lib.hid ((k7.sub (L' := [⟨W.heap.size + 2, zC.C⟩]) (by simp)).putA d2.C (by simp) (by simp) rfl)
      have s1 := size_ca d2
      have o1 := one_cp d2
      go_wp2_with ((with_reducible show wpList _ _ _ _ _ _); refine wpList_store_mid rfl 25 _ _ rfl (W.heap.size + 1 + 1) 0 d2.C.toArray rfl rfl zb s1 o1 ?_; clear zb s1 o1; change wpList _ _ _ _ _ (w7.setCells (W.heap.size + 2) 0 d2.C); generalize w7.setCells (W.heap.size + 2) 0 d2.C = wf at hf ⊢)
      exact bodyPost_ret (v := .tuple #[d2.V, .int .i64 0]) (res_two Tryz.results46 rfl rfl (load_cp hf.out (List.mem_cons_self ..))) rfl ⟨by rw [hx.out], hf.out.bl⟩
end Go.Proofs.YtkmgdfcambdeeaaGreatDoor
