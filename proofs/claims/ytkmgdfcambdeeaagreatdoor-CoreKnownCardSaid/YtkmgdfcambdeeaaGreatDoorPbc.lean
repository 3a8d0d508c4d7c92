/- Contracts of layer core: permsOf, wayOf. No statement is proved here.; Contracts of layer core: permsOf, wayOf, mayBe, Touch, Fetch. No statement is proved here. -/
import Derived.Test.YtkmgdfcambdeeaaGreatDoorPbb
import Derived.Test.YtkmgdfcambdeeaaGreatDoorPav
import Derived.Test.YtkmgdfcambdeeaaGreatDoorPax
import Derived.Test.YtkmgdfcambdeeaaGreatDoorPba
namespace Go.Proofs.YtkmgdfcambdeeaaGreatDoor
set_option maxRecDepth 100000
open Go.RowKit
set_option linter.unusedVariables false
theorem ptog1 (W : World) (q c p : Nat) (hb : bits BinOp.or IntKind.u16 0 (p : Int) = p) (h : W.cell? ⟨q, 0, none⟩ = some (.int .u16 p)) : Calls Tryz.prog 45 #[.slice (some ⟨q, 0, none⟩) 1 c] W fun e w' => e = .returned (.int .u16 p) ∧ W = w' :=
  (ptog_any W q c [p] (fun j => if j = 0 then 0 else p) rfl (fun j x hx => by
    have hj : j < 1 := (List.getElem?_eq_some_iff.1 hx).1
    obtain rfl : j = 0 := by omega
    simp only [List.getElem?_cons_zero, Option.some.injEq] at hx
    subst hx
    exact hb) (fun j x hx => by
    have hj : j < 1 := (List.getElem?_eq_some_iff.1 hx).1
    obtain rfl : j = 0 := by omega
    simp only [List.getElem?_cons_zero, Option.some.injEq] at hx
    subst hx
    exact h) (by simp))
theorem ptog2 (W : World) (q c : Nat) (h : W.cell? ⟨q, 0, none⟩ = some (.int .u16 2)) (h' : W.cell? ⟨q, 1, none⟩ = some (.int .u16 16)) : Calls Tryz.prog 45 #[.slice (some ⟨q, 0, none⟩) 2 c] W fun e w' => e = .returned (.int .u16 18) ∧ W = w' :=
  (ptog_any W q c [2, 16] (fun j => if j = 0 then 0 else if j = 1 then 2 else 18) rfl (fun j x hx => by
    have hj : j < 2 := (List.getElem?_eq_some_iff.1 hx).1
    rcases (show j = 0 ∨ j = 1 by omega) with rfl | rfl
    · simp at hx; subst hx; rfl
    · simp at hx; subst hx; rfl) (fun j x hx => by
    have hj : j < 2 := (List.getElem?_eq_some_iff.1 hx).1
    rcases (show j = 0 ∨ j = 1 by omega) with rfl | rfl
    · simp at hx; subst hx; exact h
    · simp at hx; subst hx; exact h') (by simp))
/-- What an operation must be permitted. -/
def needP (op : Int) (c : Cp) : Nat := if op = 20 ∨ op = 21 ∨ op = 22 then 2 else if op = 24 then (if c.va then 18 else 2) else 1
theorem needP_eq (F : List Cp) (op : Int) (A : Nat) : needN F op A = needP op (reg F A) := rfl
theorem pperm_any (op : Int) (c : Cp) (W : World) : Calls Tryz.prog 81 #[.int .i64 op, c.V] W fun e w' => e = .returned (.int .u16 (needP op c : Nat)) ∧ Below W.heap.size W w' := by
  change Calls Tryz.prog 81 #[.int .i64 op, .agg #[.int .u32 c.cu, .int .u8 c.e, .int .u16 c.b, .int .u16 c.t, .int .u16 c.pm, .int .u16 c.ty, .int .u32 c.rs, .bool c.va]] W _
  by_cases h1 : op = 20 ∨ op = 21 ∨ op = 22
  · have hx : needP op c = 2 := if_pos h1
    rw [hx]
    clear hx
    rcases h1 with rfl | rfl | rfl
    all_goals
      go_enter Tryz.func81, Tryz.ntmps81
      go_wp2_with fail
      refine (ptog1 _ _ _ 2 (by decide) (by simp [go_sem])).mono ?_
      rintro ee w2 ⟨rfl, rfl⟩
      go_wp2_with fail
      go_ret
      exact ⟨rfl, by go_grown⟩
  by_cases h2 : op = 24
  · subst h2
    cases hv : c.va
    · have hx : needP 24 c = 2 := by unfold needP; rw [hv]; rfl
      rw [hx]
      clear hx h1
      go_enter Tryz.func81, Tryz.ntmps81
      go_wp2_with fail
      refine (ptog1 _ _ _ 2 (by decide) (by simp [go_sem])).mono ?_
      rintro ee w2 ⟨rfl, rfl⟩
      go_wp2_with fail
      go_ret
      exact ⟨rfl, by go_grown⟩
    · have hx : needP 24 c = 18 := by unfold needP; rw [hv]; rfl
      rw [hx]
      clear hx h1
      go_enter Tryz.func81, Tryz.ntmps81
      go_wp2_with fail
      refine (ptog2 _ _ _ (by simp [go_sem]) (by simp [go_sem])).mono ?_
      rintro ee w2 ⟨rfl, rfl⟩
      go_wp2_with fail
      go_ret
      exact ⟨rfl, by go_grown⟩
  · have hx : needP op c = 1 := by unfold needP; rw [if_neg h1, if_neg h2]
    rw [hx]
    have n0 : (op == 20) = false := by simp; omega
    have n1 : (op == 21) = false := by simp; omega
    have n2 : (op == 22) = false := by simp; omega
    have n3 : (op == 24) = false := by simp; omega
    clear hx h1 h2
    go_enter Tryz.func81, Tryz.ntmps81
    go_wp2_with fail
    refine (ptog1 _ _ _ 1 (by decide) (by simp [go_sem])).mono ?_
    rintro ee w2 ⟨rfl, rfl⟩
    go_wp2_with fail
    go_ret
    exact ⟨rfl, by go_grown⟩
def zW : List Value := wyC zC 0 0 0
theorem start_fiw (F : List Cp) (op A B C m : Int) (W : World) : KR W [⟨W.heap.size + 2, zW⟩, ⟨W.heap.size + 1, ir op A B C m⟩, ⟨W.heap.size, fC F⟩] (((W.alloc (.cells (fC F).toArray 28)).alloc (.cells (ir op A B C m).toArray 30)).alloc (.cells zW.toArray 74)) := by
  have := (((KR.start (W := W)).push (fC F) 28).push (ir op A B C m) 30).push zW 74
  simp only [World.size_alloc, Nat.add_assoc, Nat.reduceAdd] at this
  exact this
theorem size_wa (b : Cp) (x n pm : Nat) : (Tryz.prog.info? 74).map (·.size) = some (wyC b x n pm).toArray.size := by kernel_rfl
theorem size_wc (b : Cp) (x n pm : Nat) : (Tryz.prog.info? 74).map (·.size) = some (wyC b x n pm).length := by kernel_rfl
theorem one_wa (b : Cp) (x n pm : Nat) : (wyC b x n pm).toArray.all (·.oneCell') = true := all_oneCell_toArray (fun v h => by
    unfold wyC at h
    simp only [List.mem_cons, List.not_mem_nil, or_false] at h
    rcases h with rfl | rfl | rfl | rfl | rfl | rfl | rfl | rfl | rfl | rfl | rfl <;> rfl)
/-- The address of a way by register B. -/
def atC (b : Cp) (m : Int) : Nat := ((((b.cu : Nat) : Int) + m % 4294967296) % 4294967296).toNat
set_option maxHeartbeats 2000000 in
theorem pwayOf_any (F : List Cp) (hF : Fit F) (op : Int) (A B : Nat) (C : Int) (hA : A < 16) (hB : B < 16) (m : Int) (W : World) : Calls Tryz.prog 35 #[fV F, .agg #[.int .i64 op, .int .i64 A, .int .i64 B, .int .i64 C, .int .i64 m]] W fun e w' => e = .returned (wyV (reg F B) (atC (reg F B) m) (sizN op) (needP op (reg F A))) ∧ Below W.heap.size W w' := by
  have k0 := Lib.hid (start_fiw F op A B C m W)
  have gb := Lib.hid (reg_get (F := F) (i := B) (by rw [hF.len]; omega))
  have ga := Lib.hid (reg_get (F := F) (i := A) (by rw [hF.len]; omega))
  have hP := Lib.hid (fun w => pperm_any op (reg F A) w)
  have hS := Lib.hid (fun w => psize_any op w)
  generalize reg F A = a at *
  generalize reg F B = b at *
  obtain ⟨x, hx⟩ : ∃ x, x = atC b m := ⟨_, rfl⟩
  have eat : (((b.cu : Nat) : Int) + m % 4294967296) % 4294967296 = ((x : Nat) : Int) := by rw [hx]; unfold atC; omega
  rw [← hx]
  generalize needP op a = pm at *
  generalize sizN op = sz at *
  have fz := size_fr hF.len
  clear hx hF
  unfold fV
  go_enter Tryz.func35, Tryz.ntmps35
  go_upto_region 1 with (fail)
  change Code.wp _ _ _ _ (((W.alloc (.cells (fC F).toArray 28)).alloc (.cells (ir op A B C m).toArray 30)).alloc (.cells zW.toArray 74))
  generalize (((W.alloc (.cells (fC F).toArray 28)).alloc (.cells (ir op A B C m).toArray 30)).alloc (.cells zW.toArray 74)) = w1 at k0 ⊢
  have i2 := k0.out.cell (g := W.heap.size + 1) (j := 2) (u := .int .i64 B) (ir op A B C m) (by simp) rfl
  obtain ⟨a0, a1, a2, a3, a4, a5, a6, a7⟩ := k0.out.reg (g := W.heap.size) (F := F) (by simp) gb.out
  go_upto_region 2 with (fail)
  have k1 := Lib.hid (k0.out.push b.C 25)
  clear i2 a0 a1 a2 a3 a4 a5 a6 a7 k0
  change Code.wp _ _ _ _ (w1.alloc (.cells b.C.toArray 25))
  generalize w1.alloc (.cells b.C.toArray 25) = w2 at k1 ⊢
  generalize w1.heap.size = q at k1 ⊢
  obtain ⟨S, hS0⟩ : ∃ S : World → Prop, S = fun w => KR W [⟨q, b.C⟩, ⟨W.heap.size + 2, zW⟩, ⟨W.heap.size + 1, ir op A B C m⟩, ⟨W.heap.size, fC F⟩] w := ⟨_, rfl⟩
  have hK : ∀ w, S w → KR W [⟨q, b.C⟩, ⟨W.heap.size + 2, zW⟩, ⟨W.heap.size + 1, ir op A B C m⟩, ⟨W.heap.size, fC F⟩] w := fun w h => by rw [hS0] at h; exact h
  have hSb : ∀ u v, S u → Below u.heap.size u v → S v := fun u v h k => by rw [hS0] at h ⊢; exact h.below k
  have s0 : S w2 := by rw [hS0]; exact k1.out
  clear hS0
  have cP := Lib.hid (cls_call (S := S) fun w hw => (hP.out w).mono fun e w' k => (⟨k.1, hSb _ _ hw k.2⟩ : _ ∧ S w'))
  have cS := Lib.hid (cls_call (S := S) fun w hw => (hS.out w).mono fun e w' k => (⟨k.1, k.2 ▸ hw⟩ : _ ∧ S w'))
  have HS := Lib.hid hSb
  have HK := Lib.hid hK
  obtain ⟨p0, p1, p2, p3, p4, p5, p6, p7⟩ := cls_cap (S := S) (bx := q) (cu := b.cu) (e := b.e) (b := b.b) (t := b.t) (pm := b.pm) (ty := b.ty) (rs := b.rs) (va := b.va) (fun w h => (hK w h).cap (List.mem_cons_self ..))
  have ii : ∀ (j : Nat) (u : Value), (ir op A B C m)[j]? = some u → ∀ y : Wd S, y.w.cell? ⟨W.heap.size + 1, j, none⟩ = some u := fun j u hu y => (hK _ y.h).cell (ir op A B C m) (by simp) hu
  have i0 := ii 0 _ rfl
  have i1 := ii 1 _ rfl
  have i4 := ii 4 _ rfl
  have aa := fun y : Wd S => (hK _ y.h).reg (g := W.heap.size) (F := F) (by simp) ga.out
  have a0 := fun y => (aa y).1
  have a1 := fun y => (aa y).2.1
  have a2 := fun y => (aa y).2.2.1
  have a3 := fun y => (aa y).2.2.2.1
  have a4 := fun y => (aa y).2.2.2.2.1
  have a5 := fun y => (aa y).2.2.2.2.2.1
  have a6 := fun y => (aa y).2.2.2.2.2.2.1
  have a7 := fun y => (aa y).2.2.2.2.2.2.2
  clear hK hSb ii aa k1 hP hS
  refine region_cls_tail S 19 (by kernel_rfl) (by kernel_rfl) (HS.out _ _ s0 (Below.refl _ _).drew) ?_
  simp only [List.take_succ_cons, List.take_zero]
  repeat (first
    | go_big_quiet_skip
    | (go_big_quiet_want
       go_big_quiet_op
       first
       | go_big_quiet_on
       | (apply Exists.intro
          refine ⟨fun y => ?_, ?_⟩
          · first | exact rfl | with_reducible exact cS.out y | with_reducible exact cP.out y | exact cS.out y | exact cP.out y
          go_big_quiet_on)))
  refine wpQuiet_nil ?_
  intro y
  simp only [List.drop_succ_cons, List.drop_zero]
  have k2 := HK.out _ y.h
  generalize y.w = w3 at k2 ⊢
  clear y p0 p1 p2 p3 p4 p5 p6 p7 i0 i1 i4 a0 a1 a2 a3 a4 a5 a6 a7 cP cS HS HK s0 ga gb
  have s1 := size_wa b x sz pm
  have o1 := one_wa b x sz pm
  have r := k2.there (g := W.heap.size + 2) (vs := zW) (by simp) 0 11 (by decide)
  have hf := Lib.hid ((k2.sub (L' := [⟨W.heap.size + 2, zW⟩]) (by simp)).putA (wyC b x sz pm) (by simp) (by simp) rfl)
  clear k2
  refine wpList_store_mid rfl 74 _ _ rfl (W.heap.size + 1 + 1) 0 (wyC b x sz pm).toArray rfl rfl r s1 o1 ?_
  clear r s1 o1
  change wpList _ _ _ _ _ (w3.setCells (W.heap.size + 2) 0 (wyC b x sz pm))
  generalize w3.setCells (W.heap.size + 2) 0 (wyC b x sz pm) = wf at hf ⊢
  go_wp2_with fail
  exact bodyPost_ret (v := wyV b x sz pm) (res_one Tryz.results35 rfl (run_loadVar_mid wf (W.heap.size + 2) 0 _ (wyC b x sz pm) _ (hf.out.range (List.mem_cons_self ..)) Tryz.underlying74 rfl (by kernel_rfl))) rfl ⟨rfl, hf.out.bl⟩
end Go.Proofs.YtkmgdfcambdeeaaGreatDoor
namespace Go.Proofs.YtkmgdfcambdeeaaGreatDoor
set_option maxRecDepth 100000
open Go.RowKit
set_option linter.unusedVariables false
theorem pmay_any (op A B C m : Int) (W : World) (hT : Tabs W) : Calls Tryz.prog 34 #[.agg #[.int .i64 op, .int .i64 A, .int .i64 B, .int .i64 C, .int .i64 m]] W fun e w' => e = .returned (.bool (mayB ⟨op, A, B, C, m⟩)) ∧ Below W.heap.size W w' := by
  have k0 := Lib.hid ((KR.start (W := W)).push (ir op A B C m) 30)
  have hE := Lib.hid (fun w (h : Tabs w) => pEncode_any op A B C m w h)
  have hT1 := Lib.hid (hT.below k0.out.bl)
  clear hT
  go_enter Tryz.func34, Tryz.ntmps34
  go_upto_region 1 with (fail)
  change Code.wp _ _ _ _ (W.alloc (.cells (ir op A B C m).toArray 30))
  generalize (W.alloc (.cells (ir op A B C m).toArray 30)) = w1 at k0 hT1 ⊢
  have i0 := k0.out.cell (g := W.heap.size) (j := 0) (u := .int .i64 op) (ir op A B C m) (by simp) rfl
  have i1 := k0.out.cell (g := W.heap.size) (j := 1) (u := .int .i64 A) (ir op A B C m) (by simp) rfl
  have i2 := k0.out.cell (g := W.heap.size) (j := 2) (u := .int .i64 B) (ir op A B C m) (by simp) rfl
  have i3 := k0.out.cell (g := W.heap.size) (j := 3) (u := .int .i64 C) (ir op A B C m) (by simp) rfl
  have i4 := k0.out.cell (g := W.heap.size) (j := 4) (u := .int .i64 m) (ir op A B C m) (by simp) rfl
  go_wp2_with fail
  refine (hE.out _ hT1.out).mono ?_
  rintro ee w2 ⟨rfl, h2⟩
  have k2 := Lib.hid (k0.out.below h2)
  clear h2 k0 hE i0 i1 i2 i3 i4
  cases hm : mayB ⟨op, A, B, C, m⟩
  · go_wp2_with fail
    go_ret
    exact ⟨ret_bool hm.symm, k2.out.bl⟩
  · go_wp2_with fail
    go_ret
    exact ⟨ret_bool hm.symm, k2.out.bl⟩
theorem atC_eq (F : List Cp) (B : Nat) (m : Int) : atN F B m = atC (reg F B) m := rfl
section
variable {w : World} {a mb wb bb cc N g : Nat} {f : Nat → Bool} {l : List UInt8}
set_option maxHeartbeats 4000000 in
theorem pFetch_any (H : ArAt w a mb wb bb cc N g f l) (hT : Tabs w) (F : List Cp) (hF : Fit F) : Calls Tryz.prog 16 #[fV F, .pointer (some ⟨a, 0, none⟩)] w fun e w' => e = .returned (.tuple #[iv (if wayT (reg F 16) (reg F 16).cu 4 4 N = 0 then decW (getB l (reg F 16).cu 4 : Nat) else Ins.zero), .int .i64 (wayT (reg F 16) (reg F 16).cu 4 4 N)]) ∧ Below w.heap.size w w' := by
  have k0 := Lib.hid (start_ft F w)
  have gb := reg_get (F := F) (i := 16) (by rw [hF.len]; decide)
  obtain ⟨b, hb⟩ : ∃ b, b = reg F 16 := ⟨_, rfl⟩
  have fb : b.fit := hb ▸ hF.reg 16
  have hWy := Lib.hid (fun (w : World) (H : ArAt w a mb wb bb cc N g f l) => ptrap_any H b fb b.cu 4 4 fb.l0 (by decide) (by decide))
  have hLd := Lib.hid (fun (w : World) (H : ArAt w a mb wb bb cc N g f l) => aload_any H b.cu 4 fb.l0)
  rw [← hb] at gb ⊢
  generalize wayT b b.cu 4 4 N = t at *
  have lv : getB l b.cu 4 < 4294967296 := getB4_lt l b.cu
  generalize getB l b.cu 4 = v at *
  obtain ⟨D, hD⟩ : ∃ D, D = if t = 0 then decW (v : Nat) else Ins.zero := ⟨_, rfl⟩
  rw [← hD]
  replace hD := Lib.hid hD
  replace gb := Lib.hid gb
  replace H := Lib.hid H
  replace hT := Lib.hid hT
  clear hb
  unfold fV
  go_enter Tryz.func16, Tryz.ntmps16
  go_upto_region 1 with (fail)
  generalize ((w.alloc (.cells (fC F).toArray 28)).alloc _) = w1 at k0 ⊢
  obtain ⟨a0, a1, a2, a3, a4, a5, a6, a7⟩ := k0.out.reg (g := w.heap.size) (F := F) (by simp) gb.out
  simp only [Nat.reduceMul, Nat.reduceAdd] at a0 a1 a2 a3 a4 a5 a6 a7
  have tr : ∀ w', (w'.cell? ⟨w.heap.size, 128, none⟩ = some (.int .u32 b.cu) ∧ w'.cell? ⟨w.heap.size, 129, none⟩ = some (.int .u8 b.e) ∧ w'.cell? ⟨w.heap.size, 130, none⟩ = some (.int .u16 b.b) ∧ w'.cell? ⟨w.heap.size, 131, none⟩ = some (.int .u16 b.t) ∧ w'.cell? ⟨w.heap.size, 132, none⟩ = some (.int .u16 b.pm) ∧ w'.cell? ⟨w.heap.size, 133, none⟩ = some (.int .u16 b.ty) ∧ w'.cell? ⟨w.heap.size, 134, none⟩ = some (.int .u32 b.rs) ∧ w'.cell? ⟨w.heap.size, 135, none⟩ = some (.bool b.va) ∧ KR w [⟨w.heap.size + 1, ir 0 0 0 0 0⟩, ⟨w.heap.size, fC F⟩] w') → KR w [⟨w.heap.size + 1, ir 0 0 0 0 0⟩, ⟨w.heap.size, fC F⟩] w' := fun w' h => h.2.2.2.2.2.2.2.2
  have all : ∀ w', KR w [⟨w.heap.size + 1, ir 0 0 0 0 0⟩, ⟨w.heap.size, fC F⟩] w' → (w'.cell? ⟨w.heap.size, 128, none⟩ = some (.int .u32 b.cu) ∧ w'.cell? ⟨w.heap.size, 129, none⟩ = some (.int .u8 b.e) ∧ w'.cell? ⟨w.heap.size, 130, none⟩ = some (.int .u16 b.b) ∧ w'.cell? ⟨w.heap.size, 131, none⟩ = some (.int .u16 b.t) ∧ w'.cell? ⟨w.heap.size, 132, none⟩ = some (.int .u16 b.pm) ∧ w'.cell? ⟨w.heap.size, 133, none⟩ = some (.int .u16 b.ty) ∧ w'.cell? ⟨w.heap.size, 134, none⟩ = some (.int .u32 b.rs) ∧ w'.cell? ⟨w.heap.size, 135, none⟩ = some (.bool b.va) ∧ KR w [⟨w.heap.size + 1, ir 0 0 0 0 0⟩, ⟨w.heap.size, fC F⟩] w') := fun w' h => by
    obtain ⟨a0, a1, a2, a3, a4, a5, a6, a7⟩ := h.reg (g := w.heap.size) (F := F) (by simp) gb.out
    simp only [Nat.reduceMul, Nat.reduceAdd] at a0 a1 a2 a3 a4 a5 a6 a7
    exact ⟨a0, a1, a2, a3, a4, a5, a6, a7, h⟩
  have al : ∀ w', KR w [⟨w.heap.size + 1, ir 0 0 0 0 0⟩, ⟨w.heap.size, fC F⟩] w' → ∀ (o : Obj), KR w [⟨w.heap.size + 1, ir 0 0 0 0 0⟩, ⟨w.heap.size, fC F⟩] (w'.alloc o) := fun w' h o => h.below ((Below.refl _ w').alloc (Nat.le_refl _) o)
  replace tr := Lib.hid tr
  replace all := Lib.hid all
  have dr : ∀ w', KR w [⟨w.heap.size + 1, ir 0 0 0 0 0⟩, ⟨w.heap.size, fC F⟩] w' → KR w [⟨w.heap.size + 1, ir 0 0 0 0 0⟩, ⟨w.heap.size, fC F⟩] w'.drew := fun w' h => h.below (Below.refl _ _).drew
  replace al := Lib.hid al
  replace dr := Lib.hid dr
  have hTg := Lib.hid (fun w' q (h : w'.cell? ⟨q, 0, none⟩ = some (.int .u16 (4 : Nat))) => ptog1 w' q 1 4 (by decide) h)
  clear a0 a1 a2 a3 a4 a5 a6 a7
  have hA := ((k0.out.below ((Below.refl _ w1).alloc (Nat.le_refl _) (.cells #[.int .u16 4] 23))).push (wyC b b.cu 4 4) 74).below (Below.refl _ _).drew
  have hB := ((k0.out.push (wyC b b.cu 4 4) 74).below ((Below.refl _ (w1.alloc (.cells (wyC b b.cu 4 4).toArray 74))).alloc (Nat.le_refl _) (.cells #[.int .u16 4] 23))).below (Below.refl _ _).drew
  simp only [World.size_alloc] at hA
  replace hA := Lib.hid hA
  replace hB := Lib.hid hB
  go_cut [6] (fun v w' => ∃ q, v = .pointer (some ⟨q, 0, none⟩) ∧ KR w [⟨q, wyC b b.cu 4 4⟩, ⟨w.heap.size + 1, ir 0 0 0 0 0⟩, ⟨w.heap.size, fC F⟩] w')
  case first =>
    go_region_held3 (fun w' => w'.cell? ⟨w.heap.size, 128, none⟩ = some (.int .u32 b.cu) ∧ w'.cell? ⟨w.heap.size, 129, none⟩ = some (.int .u8 b.e) ∧ w'.cell? ⟨w.heap.size, 130, none⟩ = some (.int .u16 b.b) ∧ w'.cell? ⟨w.heap.size, 131, none⟩ = some (.int .u16 b.t) ∧ w'.cell? ⟨w.heap.size, 132, none⟩ = some (.int .u16 b.pm) ∧ w'.cell? ⟨w.heap.size, 133, none⟩ = some (.int .u16 b.ty) ∧ w'.cell? ⟨w.heap.size, 134, none⟩ = some (.int .u32 b.rs) ∧ w'.cell? ⟨w.heap.size, 135, none⟩ = some (.bool b.va) ∧ KR w [⟨w.heap.size + 1, ir 0 0 0 0 0⟩, ⟨w.heap.size, fC F⟩] w')
      (first | with_reducible exact all.out _ (dr.out _ k0.out) | with_reducible exact all.out _ (dr.out _ (al.out _ k0.out _)) | with_reducible exact all.out _ (dr.out _ (al.out _ (al.out _ k0.out _) _)))
      (first
        | (go_at_call 45; ((with_reducible refine (hTg.out _ _ (by simp [go_sem])).mono ?_); rintro ee Z ⟨rfl, rfl⟩)))
    all_goals go_wp2_with fail
    all_goals go_meet
    all_goals first
      | exact ⟨_, rfl, hA.out⟩
      | exact ⟨_, rfl, hB.out⟩
  case rest =>
    obtain ⟨q, rfl, k1⟩ := hcut
    have H1 := Lib.hid (H.out.below k1.bl)
    have T1 := Lib.hid (hT.out.below k1.bl)
    replace k1 := Lib.hid k1
    clear hA hB hTg al dr tr all k0
    have pc := fun j u hu => k1.out.cell (g := q) (j := j) (u := u) (wyC b b.cu 4 4) (by simp) hu
    have p0 := pc 0 _ rfl
    have p1 := pc 1 _ rfl
    have p2 := pc 2 _ rfl
    have p3 := pc 3 _ rfl
    have p4 := pc 4 _ rfl
    have p5 := pc 5 _ rfl
    have p6 := pc 6 _ rfl
    have p7 := pc 7 _ rfl
    have p8 := pc 8 _ rfl
    have p9 := pc 9 _ rfl
    have p10 := pc 10 _ rfl
    clear pc
    go_wp2_with fail
    refine (hWy.out _ H1.out).mono ?_
    rintro ee w2 ⟨rfl, h2⟩
    have k2 := Lib.hid (k1.out.below h2)
    have H2 := Lib.hid (H1.out.below h2)
    have T2 := Lib.hid (T1.out.below h2)
    clear h2 k1 H1 T1 hWy p0 p1 p2 p3 p4 p5 p6 p7 p8 p9 p10
    by_cases ht : t = 0
    · subst ht
      have p8 : w2.cell? ⟨q, 8, none⟩ = some (.int .u32 b.cu) := k2.out.cell (g := q) (j := 8) (wyC b b.cu 4 4) (by simp) rfl
      go_wp2_with fail
      refine (hLd.out _ H2.out).mono ?_
      rintro ee w3 ⟨rfl, h3⟩
      have k3 := Lib.hid (k2.out.below h3)
      have T3 := Lib.hid (T2.out.below h3)
      clear h3 k2 H2 T2 hLd p8
      obtain ⟨d, hd⟩ : ∃ d, d = decW (v : Nat) := ⟨_, rfl⟩
      have hdD := Lib.hid (show d = D from by rw [hd, hD.out]; simp)
      have hDc := Lib.hid (fun w (h : Tabs w) => pDecode_any (v : Nat) (by omega) (by omega) w h)
      unfold DecPost at hDc
      rw [← hd] at hDc
      clear hd hD lv
      go_wp2_with fail
      refine (hDc.out _ T3.out).mono ?_
      rintro ee w4 ⟨rfl, h4⟩
      have k4 := Lib.hid (k3.out.below h4)
      clear h4 k3 hDc T3
      have zb := k4.out.there (g := w.heap.size + 1) (vs := ir 0 0 0 0 0) (by simp) 0 5 (by decide)
      have hf := Lib.hid ((k4.out.sub (L' := [⟨w.heap.size + 1, ir 0 0 0 0 0⟩]) (by simp)).putA (ir d.op d.a d.b d.c d.m) (by simp) (by simp) rfl)
      have s1 := size_ia d
      have o1 := one_in d
      go_wp2_with ((with_reducible show wpList _ _ _ _ _ _); refine wpList_store_mid rfl 30 _ _ rfl (w.heap.size + 1) 0 (ir d.op d.a d.b d.c d.m).toArray rfl rfl zb s1 o1 ?_; clear zb s1 o1; change wpList _ _ _ _ _ (w4.setCells (w.heap.size + 1) 0 (ir d.op d.a d.b d.c d.m)); generalize w4.setCells (w.heap.size + 1) 0 (ir d.op d.a d.b d.c d.m) = wf at hf ⊢)
      exact bodyPost_ret (v := .tuple #[iv d, .int .i64 0]) (res_two Tryz.results16 rfl rfl (load_in hf.out (List.mem_cons_self ..))) rfl ⟨by rw [hdD.out], hf.out.bl⟩
    · have ht' : (t == 0) = false := by simpa using ht
      have hdD := Lib.hid (show Ins.zero = D from by rw [hD.out, if_neg ht])
      clear ht hD hLd H2 T2
      have zb := k2.out.there (g := w.heap.size + 1) (vs := ir 0 0 0 0 0) (by simp) 0 5 (by decide)
      have hf := Lib.hid ((k2.out.sub (L' := [⟨w.heap.size + 1, ir 0 0 0 0 0⟩]) (by simp)).putA (ir 0 0 0 0 0) (by simp) (by simp) rfl)
      have s1 := size_ia Ins.zero
      have o1 := one_in Ins.zero
      go_wp2_with ((with_reducible show wpList _ _ _ _ _ _); refine wpList_store_mid rfl 30 _ _ rfl (w.heap.size + 1) 0 (ir 0 0 0 0 0).toArray rfl rfl zb s1 o1 ?_; clear zb s1 o1; change wpList _ _ _ _ _ (w2.setCells (w.heap.size + 1) 0 (ir 0 0 0 0 0)); generalize w2.setCells (w.heap.size + 1) 0 (ir 0 0 0 0 0) = wf at hf ⊢)
      exact bodyPost_ret (v := .tuple #[iv Ins.zero, .int .i64 t]) (res_two Tryz.results16 rfl rfl (load_in (i := Ins.zero) hf.out (List.mem_cons_self ..))) rfl ⟨by rw [hdD.out], hf.out.bl⟩
set_option maxHeartbeats 4000000 in
theorem pTouch_any (H : ArAt w a mb wb bb cc N g f l) (hT : Tabs w) (F : List Cp) (hF : Fit F) (op A B C m : Int) : Calls Tryz.prog 10 #[fV F, .agg #[.int .i64 op, .int .i64 A, .int .i64 B, .int .i64 C, .int .i64 m], .pointer (some ⟨a, 0, none⟩)] w fun e w' => e = .returned (.tuple #[.int .i64 (touP F ⟨op, A, B, C, m⟩ N : Nat), .bool (touT F ⟨op, A, B, C, m⟩ N)]) ∧ Below w.heap.size w w' := by
  have k0 := Lib.hid (start_fi F op A B C m w)
  have hM := Lib.hid (fun w (h : Tabs w) => pmay_any op A B C m w h)
  obtain ⟨T, hT0⟩ : ∃ T, T = touT F ⟨op, A, B, C, m⟩ N := ⟨_, rfl⟩
  obtain ⟨P, hP⟩ : ∃ P, P = touP F ⟨op, A, B, C, m⟩ N := ⟨_, rfl⟩
  have hPT : P = if T then atN F B.toNat m / 256 else 0 := by rw [hP, hT0]; rfl
  rw [← hT0, ← hP]
  unfold touT at hT0
  dsimp only at hT0
  clear hP
  by_cases h23 : op = 23
  case neg =>
    have hT' : T = false := by rw [hT0, decide_eq_false h23]; rfl
    subst hT'
    have hP' : P = 0 := hPT
    subst hP'
    have e23 : (op == 23) = false := by simpa using h23
    have e24 : (op != 23) = true := by simpa using h23
    clear hT0 hPT h23
    unfold fV
    go_enter Tryz.func10, Tryz.ntmps10
    go_upto_region 1 with (fail)
    generalize ((w.alloc (.cells (fC F).toArray 28)).alloc _) = w1 at k0 ⊢
    have i0 := k0.out.cell (g := w.heap.size + 1) (j := 0) (u := .int .i64 op) (ir op A B C m) (by simp) rfl
    go_wp2_with fail
    go_ret2
    exact ⟨rfl, k0.out.bl⟩
  subst h23
  cases hm : mayB ⟨23, A, B, C, m⟩
  · rw [hm] at hM hT0
    subst hT0
    have hP' : P = 0 := hPT
    subst hP'
    clear hPT hm
    unfold fV
    go_enter Tryz.func10, Tryz.ntmps10
    go_upto_region 1 with (fail)
    generalize ((w.alloc (.cells (fC F).toArray 28)).alloc _) = w1 at k0 ⊢
    have T1 := Lib.hid (hT.below k0.out.bl)
    have i0 := k0.out.cell (g := w.heap.size + 1) (j := 0) (u := .int .i64 23) (ir 23 A B C m) (by simp) rfl
    have i1 := k0.out.cell (g := w.heap.size + 1) (j := 1) (u := .int .i64 A) (ir 23 A B C m) (by simp) rfl
    have i2 := k0.out.cell (g := w.heap.size + 1) (j := 2) (u := .int .i64 B) (ir 23 A B C m) (by simp) rfl
    have i3 := k0.out.cell (g := w.heap.size + 1) (j := 3) (u := .int .i64 C) (ir 23 A B C m) (by simp) rfl
    have i4 := k0.out.cell (g := w.heap.size + 1) (j := 4) (u := .int .i64 m) (ir 23 A B C m) (by simp) rfl
    go_wp2_with fail
    refine (hM.out _ T1.out).mono ?_
    rintro ee w2 ⟨rfl, h2⟩
    have hb := Lib.hid ((k0.out.below h2).bl)
    clear h2 k0
    go_wp2_with fail
    go_ret2
    exact ⟨rfl, hb.out⟩
  · rw [hm] at hM hT0
    obtain ⟨_, ⟨hA0, hA1⟩, ⟨hB0, hB1⟩, _⟩ := may_flds hm
    dsimp only at hA0 hA1 hB0 hB1
    obtain ⟨A, rfl⟩ := Int.eq_ofNat_of_zero_le hA0
    obtain ⟨B, rfl⟩ := Int.eq_ofNat_of_zero_le hB0
    have hA : A < 16 := by omega
    have hB : B < 16 := by omega
    clear hA0 hA1 hB0 hB1
    obtain ⟨b, hb⟩ : ∃ b, b = reg F B := ⟨_, rfl⟩
    have fb : b.fit := hb ▸ hF.reg B
    obtain ⟨x, hx⟩ : ∃ x, x = atN F B m := ⟨_, rfl⟩
    have lx : x < 4294967296 := hx ▸ atN_lt F B m
    have hW := Lib.hid (fun w => pwayOf_any F hF 23 A B C hA hB m w)
    have hWy := Lib.hid (fun (w : World) (H : ArAt w a mb wb bb cc N g f l) => ptrap_any H b fb x 16 1 lx (by decide) (by decide))
    rw [(hx.trans (atC_eq F B m)).symm, ← hb, show sizN 23 = 16 from rfl, show needP 23 (reg F A) = 1 from rfl] at hW
    simp only [Int.toNat_natCast, ← hx, ← hb] at hT0 hPT
    generalize wayT b x 16 1 N = t at *
    replace H := Lib.hid H
    replace hT := Lib.hid hT
    replace hT0 := Lib.hid hT0
    replace hPT := Lib.hid hPT
    have sz := size_fr hF.len
    clear hm hb hx
    unfold fV
    go_enter Tryz.func10, Tryz.ntmps10
    go_upto_region 1 with (fail)
    generalize ((w.alloc (.cells (fC F).toArray 28)).alloc _) = w1 at k0 ⊢
    have T1 := Lib.hid (hT.out.below k0.out.bl)
    have i0 := k0.out.cell (g := w.heap.size + 1) (j := 0) (u := .int .i64 23) (ir 23 A B C m) (by simp) rfl
    have i1 := k0.out.cell (g := w.heap.size + 1) (j := 1) (u := .int .i64 A) (ir 23 A B C m) (by simp) rfl
    have i2 := k0.out.cell (g := w.heap.size + 1) (j := 2) (u := .int .i64 B) (ir 23 A B C m) (by simp) rfl
    have i3 := k0.out.cell (g := w.heap.size + 1) (j := 3) (u := .int .i64 C) (ir 23 A B C m) (by simp) rfl
    have i4 := k0.out.cell (g := w.heap.size + 1) (j := 4) (u := .int .i64 m) (ir 23 A B C m) (by simp) rfl
    go_wp2_with fail
    refine (hM.out _ T1.out).mono ?_
    rintro ee w2 ⟨rfl, h2⟩
    have k2 := Lib.hid (k0.out.below h2)
    clear h2 k0 i0 i1 i2 i3 i4 hM T1
    have rg := k2.out.range (g := w.heap.size) (vs := fC F) (by simp)
    have i0 := k2.out.cell (g := w.heap.size + 1) (j := 0) (u := .int .i64 23) (ir 23 A B C m) (by simp) rfl
    have i1 := k2.out.cell (g := w.heap.size + 1) (j := 1) (u := .int .i64 A) (ir 23 A B C m) (by simp) rfl
    have i2 := k2.out.cell (g := w.heap.size + 1) (j := 2) (u := .int .i64 B) (ir 23 A B C m) (by simp) rfl
    have i3 := k2.out.cell (g := w.heap.size + 1) (j := 3) (u := .int .i64 C) (ir 23 A B C m) (by simp) rfl
    have i4 := k2.out.cell (g := w.heap.size + 1) (j := 4) (u := .int .i64 m) (ir 23 A B C m) (by simp) rfl
    go_wp2_with ((with_reducible show wpList _ _ _ _ _ _); refine wpList_load_mid rfl 28 _ rfl w.heap.size 0 rfl (fC F) _ rg Tryz.underlying28 rfl sz ?_)
    refine (hW.out _).mono ?_
    rintro ee w3 ⟨rfl, h3⟩
    have k3 := Lib.hid (k2.out.below h3)
    clear h3 k2 rg i0 i1 i2 i3 i4 hW
    have k3a := k3.out.push zW 74
    have th := k3a.there (g := w3.heap.size) (vs := zW) (List.mem_cons_self ..) 0 11 (by decide)
    have q1 := k3.out.lt (g := w.heap.size + 1) (vs := ir 23 A B C m) (by simp)
    have q2 := k3.out.lt (g := w.heap.size) (vs := fC F) (by simp)
    have k4 := Lib.hid (k3a.putA (wyC b x 16 1) (by omega) (fun x hx => by
      simp only [List.mem_cons, List.not_mem_nil, or_false] at hx
      rcases hx with rfl | rfl <;> simp only [ne_eq] <;> omega) rfl)
    have s1 := size_wa b x 16 1
    have o1 := one_wa b x 16 1
    clear k3a k3 q1 q2
    have s2 := size_wc b x 16 1
    go_wp2_with ((with_reducible show wpList _ _ _ _ _ _); first | (refine wpList_store_mid rfl 74 _ _ rfl w3.heap.size 0 (wyC b x 16 1).toArray rfl rfl th s1 o1 ?_; clear th s1 o1; change wpList _ _ _ _ _ ((w3.alloc (.cells zW.toArray 74)).setCells w3.heap.size 0 (wyC b x 16 1)); generalize (w3.alloc (.cells zW.toArray 74)).setCells w3.heap.size 0 (wyC b x 16 1) = w4 at k4 ⊢; generalize w3.heap.size = q at k4 ⊢; have rg := k4.out.range (g := q) (vs := wyC b x 16 1) (List.mem_cons_self ..)) | (refine wpList_load_mid rfl 74 _ rfl q 0 rfl (wyC b x 16 1) _ rg Tryz.underlying74 rfl s2 ?_))
    have H4 := Lib.hid (H.out.below k4.out.bl)
    refine (hWy.out _ H4.out).mono ?_
    rintro ee w5 ⟨rfl, h5⟩
    have k5 := Lib.hid (k4.out.below h5)
    clear h5 k4 hWy H4 rg s2
    by_cases ht : t = 0
    · subst ht
      have hTv : T = true := by rw [hT0.out]; rfl
      subst hTv
      have hPv := Lib.hid (show P = x / 256 from by rw [hPT.out]; rfl)
      have p8 : w5.cell? ⟨q, 8, none⟩ = some (.int .u32 x) := k5.out.cell (g := q) (j := 8) (wyC b x 16 1) (by simp) rfl
      go_wp2_with fail
      go_ret2
      exact ⟨by rw [hPv.out]; rfl, k5.out.bl⟩
    · have ht' : (t == 0) = false := by simpa using ht
      have hTv : T = false := by rw [hT0.out, decide_eq_false ht]; rfl
      subst hTv
      have hPv : P = 0 := by rw [hPT.out]; rfl
      subst hPv
      clear ht
      go_wp2_with fail
      go_ret2
      exact ⟨rfl, k5.out.bl⟩
end
end Go.Proofs.YtkmgdfcambdeeaaGreatDoor
