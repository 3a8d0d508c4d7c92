/- For core. -/
import Derived.Test.YtkmgdfcambdeeaaGreatDoorQan
namespace Go.Proofs.YtkmgdfcambdeeaaGreatDoor
open Lib (hid)
open Go.RowKit
set_option linter.unusedVariables false
theorem threeBoxes (W : World) (cu e b t pm ty rs : Nat) (va : Bool) (cu' e' b' t' pm' ty' rs' : Nat) (va' : Bool) : KR W [⟨W.heap.size + 1 + 1, cv 0 0 0 0 0 0 0 false⟩, ⟨W.heap.size + 1, cv cu' e' b' t' pm' ty' rs' va'⟩, ⟨W.heap.size, cv cu e b t pm ty rs va⟩] (((W.alloc (.cells #[.int .u32 cu, .int .u8 e, .int .u16 b, .int .u16 t, .int .u16 pm, .int .u16 ty, .int .u32 rs, .bool va] 25)).alloc (.cells #[.int .u32 cu', .int .u8 e', .int .u16 b', .int .u16 t', .int .u16 pm', .int .u16 ty', .int .u32 rs', .bool va'] 25)).alloc (.cells #[.int .u32 0, .int .u8 0, .int .u16 0, .int .u16 0, .int .u16 0, .int .u16 0, .int .u32 0, .bool false] 25)) := by
 have := (((KR.start (W := W)).push (cv cu e b t pm ty rs va) 25).push (cv cu' e' b' t' pm' ty' rs' va') 25).push (cv 0 0 0 0 0 0 0 false) 25
 rwa [World.size_alloc, World.size_alloc] at this
theorem rSeal_any (cu e b t pm ty rs : Nat) (va : Bool) (cu' e' b' t' pm' ty' rs' : Nat) (va' : Bool) (l0' : cu' < 4294967296) (l1' : e' < 256) (l2' : b' < 65536) (l3' : t' < 65536) (l4' : pm' < 65536) (l5' : ty' < 65536) (l6' : rs' < 4294967296) (W : World) : Calls Tryz.prog 105 #[.agg #[.int .u32 cu, .int .u8 e, .int .u16 b, .int .u16 t, .int .u16 pm, .int .u16 ty, .int .u32 rs, .bool va], .agg #[.int .u32 cu', .int .u8 e', .int .u16 b', .int .u16 t', .int .u16 pm', .int .u16 ty', .int .u32 rs', .bool va']] W fun ee w' => ee = .returned (.agg #[.int .u32 cu, .int .u8 e, .int .u16 b, .int .u16 t, .int .u16 pm, .int .u16 (if (va && decide (ty = 0) && (va' && decide (ty' = 0) && auP e' b' t' cu' pm' cu' 32)) then cu' % 65536 else ty : Nat), .int .u32 rs, .bool (va && (va && decide (ty = 0) && (va' && decide (ty' = 0) && auP e' b' t' cu' pm' cu' 32)))]) ∧ Below W.heap.size W w' := by
 have hk := hid (threeBoxes W cu e b t pm ty rs va cu' e' b' t' pm' ty' rs' va')
 have hF := hid (fun w => rFree_any cu e b t pm ty rs va w)
 have hO : ∀ w, Calls Tryz.prog 159 #[.agg #[.int .u32 cu', .int .u8 e', .int .u16 b', .int .u16 t', .int .u16 pm', .int .u16 ty', .int .u32 rs', .bool va'], .int .u16 32] w fun ee w' => ee = .returned (.bool (va' && decide (ty' = 0) && auP e' b' t' cu' pm' cu' 32)) ∧ Below w.heap.size w w' := fun w => rOver_any cu' e' b' t' pm' ty' rs' va' 32 l0' l1' l2' l3' l4' l5' l6' (by decide) w
 have hM := hid (fun w => rwith_any cu e b t pm ty rs va false w)
 have hwr : IntKind.u16.wrap (cu' : Int) = ((cu' % 65536 : Nat) : Int) := by rw [IntKind.wrap_u16]; omega
 generalize (va && decide (ty = 0)) = q at *
 generalize (va' && decide (ty' = 0) && auP e' b' t' cu' pm' cu' 32) = z at *
 generalize cu' % 65536 = kk at *
 replace hO := hid hO
 cases q
 · simp only [Bool.false_and, Bool.and_false, Bool.false_eq_true, if_false]
   go_enter Tryz.func105, Tryz.ntmps105
   go_wp2_with fail
   refine (hF.out _).mono ?_
   rintro ee w1 ⟨rfl, h1⟩
   have hk1 := hk.out.below h1
   clear h1 hk hF
   obtain ⟨p0, p1, p2, p3, p4, p5, p6, p7⟩ : CapAt w1 W.heap.size cu e b t pm ty rs va := hk1.cap (by simp)
   obtain ⟨y0, y1, y2, y3, y4, y5, y6, y7⟩ : CapAt w1 (W.heap.size + 1) cu' e' b' t' pm' ty' rs' va' := hk1.cap (by simp)
   replace hk1 := hid hk1
   go_wp2_with fail
   refine (hM.out _).mono ?_
   rintro ee w5 ⟨rfl, h1⟩
   have hk6 := hk1.out.below h1
   clear h1 hk1 hM p0 p1 p2 p3 p4 p5 p6 p7 y0 y1 y2 y3 y4 y5 y6 y7
   have r : CapAt w5 (W.heap.size + 1 + 1) 0 0 0 0 0 0 0 false := hk6.cap (by simp)
   have fr := hk6.soft (g := W.heap.size + 1 + 1) (vs := cv 0 0 0 0 0 0 0 false) (by simp)
   obtain ⟨r0, r1, r2, r3, r4, r5, r6, r7⟩ := r
   have hf := hid (hk6.whole (cv cu e b t pm ty rs false) (by omega) (by simp <;> omega) rfl)
   clear hk6
   go_wp2_with fail
   change bodyPost _ _ _ _ _ (setRow (W.heap.size + 1 + 1) 0 (cv cu e b t pm ty rs false) w5)
   clear r0 r1 r2 r3 r4 r5 r6 r7 fr
   generalize setRow (W.heap.size + 1 + 1) 0 (cv cu e b t pm ty rs false) w5 = wf at *
   obtain ⟨z0, z1, z2, z3, z4, z5, z6, z7⟩ := hf.out.cap (g := W.heap.size + 1 + 1) (List.mem_cons_self ..)
   exact bodyPost_ret (v := .agg #[.int .u32 cu, .int .u8 e, .int .u16 b, .int .u16 t, .int .u16 pm, .int .u16 ty, .int .u32 rs, .bool false]) (by simp [results, Tryz.results105, go_sem, z0, z1, z2, z3, z4, z5, z6, z7]) rfl ⟨rfl, hf.out.bl⟩
 · cases z
   · simp only [Bool.and_false, Bool.false_eq_true, if_false]
     go_enter Tryz.func105, Tryz.ntmps105
     go_wp2_with fail
     refine (hF.out _).mono ?_
     rintro ee w1 ⟨rfl, h1⟩
     have hk1 := hk.out.below h1
     clear h1 hk hF
     obtain ⟨p0, p1, p2, p3, p4, p5, p6, p7⟩ : CapAt w1 W.heap.size cu e b t pm ty rs va := hk1.cap (by simp)
     obtain ⟨y0, y1, y2, y3, y4, y5, y6, y7⟩ : CapAt w1 (W.heap.size + 1) cu' e' b' t' pm' ty' rs' va' := hk1.cap (by simp)
     replace hk1 := hid hk1
     go_wp2_with fail
     refine (hO.out _).mono ?_
     rintro ee w2 ⟨rfl, h1⟩
     have hk2 := hk1.out.below h1
     clear h1 hk1 hO p0 p1 p2 p3 p4 p5 p6 p7 y0 y1 y2 y3 y4 y5 y6 y7
     obtain ⟨p0, p1, p2, p3, p4, p5, p6, p7⟩ : CapAt w2 W.heap.size cu e b t pm ty rs va := hk2.cap (by simp)
     obtain ⟨y0, y1, y2, y3, y4, y5, y6, y7⟩ : CapAt w2 (W.heap.size + 1) cu' e' b' t' pm' ty' rs' va' := hk2.cap (by simp)
     replace hk2 := hid hk2
     go_wp2_with fail
     refine (hM.out _).mono ?_
     rintro ee w5 ⟨rfl, h1⟩
     have hk6 := hk2.out.below h1
     clear h1 hk2 hM p0 p1 p2 p3 p4 p5 p6 p7 y0 y1 y2 y3 y4 y5 y6 y7
     have r : CapAt w5 (W.heap.size + 1 + 1) 0 0 0 0 0 0 0 false := hk6.cap (by simp)
     have fr := hk6.soft (g := W.heap.size + 1 + 1) (vs := cv 0 0 0 0 0 0 0 false) (by simp)
     obtain ⟨r0, r1, r2, r3, r4, r5, r6, r7⟩ := r
     have hf := hid (hk6.whole (cv cu e b t pm ty rs false) (by omega) (by simp <;> omega) rfl)
     clear hk6
     go_wp2_with fail
     change bodyPost _ _ _ _ _ (setRow (W.heap.size + 1 + 1) 0 (cv cu e b t pm ty rs false) w5)
     clear r0 r1 r2 r3 r4 r5 r6 r7 fr
     generalize setRow (W.heap.size + 1 + 1) 0 (cv cu e b t pm ty rs false) w5 = wf at *
     obtain ⟨z0, z1, z2, z3, z4, z5, z6, z7⟩ := hf.out.cap (g := W.heap.size + 1 + 1) (List.mem_cons_self ..)
     exact bodyPost_ret (v := .agg #[.int .u32 cu, .int .u8 e, .int .u16 b, .int .u16 t, .int .u16 pm, .int .u16 ty, .int .u32 rs, .bool false]) (by simp [results, Tryz.results105, go_sem, z0, z1, z2, z3, z4, z5, z6, z7]) rfl ⟨rfl, hf.out.bl⟩
   · simp only [Bool.and_true, if_true]
     go_enter Tryz.func105, Tryz.ntmps105
     go_wp2_with fail
     refine (hF.out _).mono ?_
     rintro ee w1 ⟨rfl, h1⟩
     have hk1 := hk.out.below h1
     clear h1 hk hF
     obtain ⟨p0, p1, p2, p3, p4, p5, p6, p7⟩ : CapAt w1 W.heap.size cu e b t pm ty rs va := hk1.cap (by simp)
     obtain ⟨y0, y1, y2, y3, y4, y5, y6, y7⟩ : CapAt w1 (W.heap.size + 1) cu' e' b' t' pm' ty' rs' va' := hk1.cap (by simp)
     replace hk1 := hid hk1
     go_wp2_with fail
     refine (hO.out _).mono ?_
     rintro ee w2 ⟨rfl, h1⟩
     have hk2 := hk1.out.below h1
     clear h1 hk1 hO p0 p1 p2 p3 p4 p5 p6 p7 y0 y1 y2 y3 y4 y5 y6 y7
     obtain ⟨p0, p1, p2, p3, p4, p5, p6, p7⟩ : CapAt w2 W.heap.size cu e b t pm ty rs va := hk2.cap (by simp)
     obtain ⟨y0, y1, y2, y3, y4, y5, y6, y7⟩ : CapAt w2 (W.heap.size + 1) cu' e' b' t' pm' ty' rs' va' := hk2.cap (by simp)
     replace hk2 := hid hk2
     have hk2 := hk2.out
     have fp := hk2.soft (g := W.heap.size) (vs := cv cu e b t pm ty rs va) (by simp)
     have r : CapAt w2 (W.heap.size + 1 + 1) 0 0 0 0 0 0 0 false := hk2.cap (by simp)
     have fr := hk2.soft (g := W.heap.size + 1 + 1) (vs := cv 0 0 0 0 0 0 0 false) (by simp)
     obtain ⟨r0, r1, r2, r3, r4, r5, r6, r7⟩ := r
     have hf : KR W [⟨W.heap.size + 1 + 1, cv cu e b t pm kk rs va⟩, ⟨W.heap.size, cv cu e b t pm kk rs va⟩] (setRow (W.heap.size + 1 + 1) 0 (cv cu e b t pm kk rs va) (w2.setCell ⟨W.heap.size, 5, none⟩ (.int .u16 kk))) :=
       ((((hk2.sub (L' := [⟨W.heap.size, cv cu e b t pm ty rs va⟩, ⟨W.heap.size + 1 + 1, cv 0 0 0 0 0 0 0 false⟩]) (by intro x hx; simp at hx ⊢; rcases hx with rfl | rfl <;> simp)).set (by simp) (by simp <;> omega) 5 (.int .u16 kk) (by simp [cv])).swap).whole (cv cu e b t pm kk rs va) (by omega) (by simp <;> omega) rfl)
     replace hf := hid hf
     clear hk2
     go_wp2_with fail
     change bodyPost _ _ _ _ _ (setRow (W.heap.size + 1 + 1) 0 (cv cu e b t pm kk rs va) (w2.setCell ⟨W.heap.size, 5, none⟩ (.int .u16 kk)))
     clear r0 r1 r2 r3 r4 r5 r6 r7 fr fp p0 p1 p2 p3 p4 p5 p6 p7 y0 y1 y2 y3 y4 y5 y6 y7
     generalize setRow (W.heap.size + 1 + 1) 0 (cv cu e b t pm kk rs va) (w2.setCell ⟨W.heap.size, 5, none⟩ (.int .u16 kk)) = wf at *
     obtain ⟨z0, z1, z2, z3, z4, z5, z6, z7⟩ := hf.out.cap (g := W.heap.size + 1 + 1) (List.mem_cons_self ..)
     exact bodyPost_ret (v := .agg #[.int .u32 cu, .int .u8 e, .int .u16 b, .int .u16 t, .int .u16 pm, .int .u16 kk, .int .u32 rs, .bool va]) (by simp [results, Tryz.results105, go_sem, z0, z1, z2, z3, z4, z5, z6, z7]) rfl ⟨rfl, hf.out.bl⟩
theorem auP_kind (e b t cu pm kind perm : Nat) : auP e b t cu pm kind perm = (auP e b t cu pm cu perm && decide (cu = kind)) := by
 by_cases h : cu = kind
 · subst h; simp
 · rw [decide_eq_false h, Bool.and_false]; unfold auP; rw [decide_eq_false (fun k => h k.2.2.1)]; rfl
theorem rOpen_any (cu e b t pm ty rs : Nat) (va : Bool) (cu' e' b' t' pm' ty' rs' : Nat) (va' : Bool) (l5 : ty < 65536) (l0' : cu' < 4294967296) (l1' : e' < 256) (l2' : b' < 65536) (l3' : t' < 65536) (l4' : pm' < 65536) (l5' : ty' < 65536) (l6' : rs' < 4294967296) (W : World) : Calls Tryz.prog 106 #[.agg #[.int .u32 cu, .int .u8 e, .int .u16 b, .int .u16 t, .int .u16 pm, .int .u16 ty, .int .u32 rs, .bool va], .agg #[.int .u32 cu', .int .u8 e', .int .u16 b', .int .u16 t', .int .u16 pm', .int .u16 ty', .int .u32 rs', .bool va']] W fun ee w' => ee = .returned (.agg #[.int .u32 cu, .int .u8 e, .int .u16 b, .int .u16 t, .int .u16 pm, .int .u16 (if (va && !decide (ty = 0) && (va' && decide (ty' = 0) && auP e' b' t' cu' pm' ty 64)) then 0 else ty : Nat), .int .u32 rs, .bool (va && (va && !decide (ty = 0) && (va' && decide (ty' = 0) && auP e' b' t' cu' pm' ty 64)))]) ∧ Below W.heap.size W w' := by
 have hk := hid (threeBoxes W cu e b t pm ty rs va cu' e' b' t' pm' ty' rs' va')
 have hO : ∀ w, Calls Tryz.prog 159 #[.agg #[.int .u32 cu', .int .u8 e', .int .u16 b', .int .u16 t', .int .u16 pm', .int .u16 ty', .int .u32 rs', .bool va'], .int .u16 64] w fun ee w' => ee = .returned (.bool (va' && decide (ty' = 0) && auP e' b' t' cu' pm' cu' 64)) ∧ Below w.heap.size w w' := fun w => rOver_any cu' e' b' t' pm' ty' rs' va' 64 l0' l1' l2' l3' l4' l5' l6' (by decide) w
 have hM := hid (fun w => rwith_any cu e b t pm ty rs va false w)
 have hwt : IntKind.u32.wrap (ty : Int) = ty := by rw [IntKind.wrap_u32]; omega
 rw [auP_kind e' b' t' cu' pm' ty 64, ← Bool.and_assoc (va' && decide (ty' = 0))]
 generalize (va' && decide (ty' = 0) && auP e' b' t' cu' pm' cu' 64) = z at *
 replace hO := hid hO
 cases va
 · simp only [Bool.false_and, Bool.and_false, Bool.false_eq_true, if_false]
   go_enter Tryz.func106, Tryz.ntmps106
   go_wp2_with fail
   refine (hM.out _).mono ?_
   rintro ee w5 ⟨rfl, h1⟩
   have hk6 := hk.out.below h1
   clear h1 hk hM
   have r : CapAt w5 (W.heap.size + 1 + 1) 0 0 0 0 0 0 0 false := hk6.cap (by simp)
   have fr := hk6.soft (g := W.heap.size + 1 + 1) (vs := cv 0 0 0 0 0 0 0 false) (by simp)
   obtain ⟨r0, r1, r2, r3, r4, r5, r6, r7⟩ := r
   have hf := hid (hk6.whole (cv cu e b t pm ty rs false) (by omega) (by simp <;> omega) rfl)
   clear hk6
   go_wp2_with fail
   change bodyPost _ _ _ _ _ (setRow (W.heap.size + 1 + 1) 0 (cv cu e b t pm ty rs false) w5)
   clear r0 r1 r2 r3 r4 r5 r6 r7 fr
   generalize setRow (W.heap.size + 1 + 1) 0 (cv cu e b t pm ty rs false) w5 = wf at *
   obtain ⟨z0, z1, z2, z3, z4, z5, z6, z7⟩ := hf.out.cap (g := W.heap.size + 1 + 1) (List.mem_cons_self ..)
   exact bodyPost_ret (v := .agg #[.int .u32 cu, .int .u8 e, .int .u16 b, .int .u16 t, .int .u16 pm, .int .u16 ty, .int .u32 rs, .bool false]) (by simp [results, Tryz.results106, go_sem, z0, z1, z2, z3, z4, z5, z6, z7]) rfl ⟨rfl, hf.out.bl⟩
 · by_cases c1 : (ty : Int) = 0
   · rw [decide_eq_true (show ty = 0 by omega)]
     simp only [Bool.not_true, Bool.false_and, Bool.and_false, Bool.false_eq_true, if_false]
     have c1' : ((ty : Int) == 0) = true := by rw [c1]; rfl
     clear c1
     go_enter Tryz.func106, Tryz.ntmps106
     go_wp2_with fail
     refine (hM.out _).mono ?_
     rintro ee w5 ⟨rfl, h1⟩
     have hk6 := hk.out.below h1
     clear h1 hk hM
     have r : CapAt w5 (W.heap.size + 1 + 1) 0 0 0 0 0 0 0 false := hk6.cap (by simp)
     have fr := hk6.soft (g := W.heap.size + 1 + 1) (vs := cv 0 0 0 0 0 0 0 false) (by simp)
     obtain ⟨r0, r1, r2, r3, r4, r5, r6, r7⟩ := r
     have hf := hid (hk6.whole (cv cu e b t pm ty rs false) (by omega) (by simp <;> omega) rfl)
     clear hk6
     go_wp2_with fail
     change bodyPost _ _ _ _ _ (setRow (W.heap.size + 1 + 1) 0 (cv cu e b t pm ty rs false) w5)
     clear r0 r1 r2 r3 r4 r5 r6 r7 fr
     generalize setRow (W.heap.size + 1 + 1) 0 (cv cu e b t pm ty rs false) w5 = wf at *
     obtain ⟨z0, z1, z2, z3, z4, z5, z6, z7⟩ := hf.out.cap (g := W.heap.size + 1 + 1) (List.mem_cons_self ..)
     exact bodyPost_ret (v := .agg #[.int .u32 cu, .int .u8 e, .int .u16 b, .int .u16 t, .int .u16 pm, .int .u16 ty, .int .u32 rs, .bool false]) (by simp [results, Tryz.results106, go_sem, z0, z1, z2, z3, z4, z5, z6, z7]) rfl ⟨rfl, hf.out.bl⟩
   · rw [decide_eq_false (show ¬ ty = 0 by omega)]
     have c1' : ((ty : Int) == 0) = false := by simpa using c1
     cases z
     · simp only [Bool.not_false, Bool.true_and, Bool.false_and, Bool.and_false, Bool.false_eq_true, if_false]
       go_enter Tryz.func106, Tryz.ntmps106
       go_wp2_with fail
       refine (hO.out _).mono ?_
       rintro ee w2 ⟨rfl, h1⟩
       have hk2 := hk.out.below h1
       clear h1 hk hO
       obtain ⟨p0, p1, p2, p3, p4, p5, p6, p7⟩ : CapAt w2 W.heap.size cu e b t pm ty rs true := hk2.cap (by simp)
       obtain ⟨y0, y1, y2, y3, y4, y5, y6, y7⟩ : CapAt w2 (W.heap.size + 1) cu' e' b' t' pm' ty' rs' va' := hk2.cap (by simp)
       replace hk2 := hid hk2
       go_wp2_with fail
       refine (hM.out _).mono ?_
       rintro ee w5 ⟨rfl, h1⟩
       have hk6 := hk2.out.below h1
       clear h1 hk2 hM p0 p1 p2 p3 p4 p5 p6 p7 y0 y1 y2 y3 y4 y5 y6 y7
       have r : CapAt w5 (W.heap.size + 1 + 1) 0 0 0 0 0 0 0 false := hk6.cap (by simp)
       have fr := hk6.soft (g := W.heap.size + 1 + 1) (vs := cv 0 0 0 0 0 0 0 false) (by simp)
       obtain ⟨r0, r1, r2, r3, r4, r5, r6, r7⟩ := r
       have hf := hid (hk6.whole (cv cu e b t pm ty rs false) (by omega) (by simp <;> omega) rfl)
       clear hk6
       go_wp2_with fail
       change bodyPost _ _ _ _ _ (setRow (W.heap.size + 1 + 1) 0 (cv cu e b t pm ty rs false) w5)
       clear r0 r1 r2 r3 r4 r5 r6 r7 fr
       generalize setRow (W.heap.size + 1 + 1) 0 (cv cu e b t pm ty rs false) w5 = wf at *
       obtain ⟨z0, z1, z2, z3, z4, z5, z6, z7⟩ := hf.out.cap (g := W.heap.size + 1 + 1) (List.mem_cons_self ..)
       exact bodyPost_ret (v := .agg #[.int .u32 cu, .int .u8 e, .int .u16 b, .int .u16 t, .int .u16 pm, .int .u16 ty, .int .u32 rs, .bool false]) (by simp [results, Tryz.results106, go_sem, z0, z1, z2, z3, z4, z5, z6, z7]) rfl ⟨rfl, hf.out.bl⟩
     · by_cases c2 : (ty : Int) = cu'
       · rw [decide_eq_true (show cu' = ty by omega)]
         simp only [Bool.not_false, Bool.and_true, if_true]
         have c2' : ((ty : Int) != cu') = false := by simpa using c2
         clear c2
         go_enter Tryz.func106, Tryz.ntmps106
         go_wp2_with fail
         refine (hO.out _).mono ?_
         rintro ee w2 ⟨rfl, h1⟩
         have hk2 := hk.out.below h1
         clear h1 hk hO
         obtain ⟨p0, p1, p2, p3, p4, p5, p6, p7⟩ : CapAt w2 W.heap.size cu e b t pm ty rs true := hk2.cap (by simp)
         obtain ⟨y0, y1, y2, y3, y4, y5, y6, y7⟩ : CapAt w2 (W.heap.size + 1) cu' e' b' t' pm' ty' rs' va' := hk2.cap (by simp)
         replace hk2 := hid hk2
         have hk2 := hk2.out
         have fp := hk2.soft (g := W.heap.size) (vs := cv cu e b t pm ty rs true) (by simp)
         have r : CapAt w2 (W.heap.size + 1 + 1) 0 0 0 0 0 0 0 false := hk2.cap (by simp)
         have fr := hk2.soft (g := W.heap.size + 1 + 1) (vs := cv 0 0 0 0 0 0 0 false) (by simp)
         obtain ⟨r0, r1, r2, r3, r4, r5, r6, r7⟩ := r
         have hf : KR W [⟨W.heap.size + 1 + 1, cv cu e b t pm 0 rs true⟩, ⟨W.heap.size, cv cu e b t pm 0 rs true⟩] (setRow (W.heap.size + 1 + 1) 0 (cv cu e b t pm 0 rs true) (w2.setCell ⟨W.heap.size, 5, none⟩ (.int .u16 0))) :=
           ((((hk2.sub (L' := [⟨W.heap.size, cv cu e b t pm ty rs true⟩, ⟨W.heap.size + 1 + 1, cv 0 0 0 0 0 0 0 false⟩]) (by intro x hx; simp at hx ⊢; rcases hx with rfl | rfl <;> simp)).set (by simp) (by simp <;> omega) 5 (.int .u16 0) (by simp [cv])).swap).whole (cv cu e b t pm 0 rs true) (by omega) (by simp <;> omega) rfl)
         replace hf := hid hf
         clear hk2
         go_wp2_with fail
         change bodyPost _ _ _ _ _ (setRow (W.heap.size + 1 + 1) 0 (cv cu e b t pm 0 rs true) (w2.setCell ⟨W.heap.size, 5, none⟩ (.int .u16 0)))
         clear r0 r1 r2 r3 r4 r5 r6 r7 fr fp p0 p1 p2 p3 p4 p5 p6 p7 y0 y1 y2 y3 y4 y5 y6 y7
         generalize setRow (W.heap.size + 1 + 1) 0 (cv cu e b t pm 0 rs true) (w2.setCell ⟨W.heap.size, 5, none⟩ (.int .u16 0)) = wf at *
         obtain ⟨z0, z1, z2, z3, z4, z5, z6, z7⟩ := hf.out.cap (g := W.heap.size + 1 + 1) (List.mem_cons_self ..)
         exact bodyPost_ret (v := .agg #[.int .u32 cu, .int .u8 e, .int .u16 b, .int .u16 t, .int .u16 pm, .int .u16 0, .int .u32 rs, .bool true]) (by simp [results, Tryz.results106, go_sem, z0, z1, z2, z3, z4, z5, z6, z7]) rfl ⟨rfl, hf.out.bl⟩
       · rw [decide_eq_false (show ¬ cu' = ty by omega)]
         simp only [Bool.not_false, Bool.true_and, Bool.and_false, Bool.false_eq_true, if_false]
         have c2' : ((ty : Int) != cu') = true := by simpa using c2
         go_enter Tryz.func106, Tryz.ntmps106
         go_wp2_with fail
         refine (hO.out _).mono ?_
         rintro ee w2 ⟨rfl, h1⟩
         have hk2 := hk.out.below h1
         clear h1 hk hO
         obtain ⟨p0, p1, p2, p3, p4, p5, p6, p7⟩ : CapAt w2 W.heap.size cu e b t pm ty rs true := hk2.cap (by simp)
         obtain ⟨y0, y1, y2, y3, y4, y5, y6, y7⟩ : CapAt w2 (W.heap.size + 1) cu' e' b' t' pm' ty' rs' va' := hk2.cap (by simp)
         replace hk2 := hid hk2
         go_wp2_with fail
         refine (hM.out _).mono ?_
         rintro ee w5 ⟨rfl, h1⟩
         have hk6 := hk2.out.below h1
         clear h1 hk2 hM p0 p1 p2 p3 p4 p5 p6 p7 y0 y1 y2 y3 y4 y5 y6 y7
         have r : CapAt w5 (W.heap.size + 1 + 1) 0 0 0 0 0 0 0 false := hk6.cap (by simp)
         have fr := hk6.soft (g := W.heap.size + 1 + 1) (vs := cv 0 0 0 0 0 0 0 false) (by simp)
         obtain ⟨r0, r1, r2, r3, r4, r5, r6, r7⟩ := r
         have hf := hid (hk6.whole (cv cu e b t pm ty rs false) (by omega) (by simp <;> omega) rfl)
         clear hk6
         go_wp2_with fail
         change bodyPost _ _ _ _ _ (setRow (W.heap.size + 1 + 1) 0 (cv cu e b t pm ty rs false) w5)
         clear r0 r1 r2 r3 r4 r5 r6 r7 fr
         generalize setRow (W.heap.size + 1 + 1) 0 (cv cu e b t pm ty rs false) w5 = wf at *
         obtain ⟨z0, z1, z2, z3, z4, z5, z6, z7⟩ := hf.out.cap (g := W.heap.size + 1 + 1) (List.mem_cons_self ..)
         exact bodyPost_ret (v := .agg #[.int .u32 cu, .int .u8 e, .int .u16 b, .int .u16 t, .int .u16 pm, .int .u16 ty, .int .u32 rs, .bool false]) (by simp [results, Tryz.results106, go_sem, z0, z1, z2, z3, z4, z5, z6, z7]) rfl ⟨rfl, hf.out.bl⟩
set_option maxHeartbeats 4000000 in
theorem rBuild_any (cu e b t pm ty rs : Nat) (va : Bool) (cu' e' b' t' pm' ty' rs' : Nat) (va' : Bool) (l0 : cu < 4294967296) (l1 : e < 256) (l2 : b < 65536) (l3 : t < 65536) (l4 : pm < 65536) (l5 : ty < 65536) (l6 : rs < 4294967296) (l0' : cu' < 4294967296) (l1' : e' < 256) (l2' : b' < 65536) (l3' : t' < 65536) (l4' : pm' < 65536) (l5' : ty' < 65536) (l6' : rs' < 4294967296) (W : World) : Calls Tryz.prog 107 #[.agg #[.int .u32 cu, .int .u8 e, .int .u16 b, .int .u16 t, .int .u16 pm, .int .u16 ty, .int .u32 rs, .bool va], .agg #[.int .u32 cu', .int .u8 e', .int .u16 b', .int .u16 t', .int .u16 pm', .int .u16 ty', .int .u32 rs', .bool va']] W fun ee w' => ee = .returned (.agg #[.int .u32 cu, .int .u8 e, .int .u16 b, .int .u16 t, .int .u16 pm, .int .u16 ty, .int .u32 rs, .bool (va' && decide (ty' = 0) && buP e b t pm ty rs (wiP pm pm' (deB e b t cu) (deT e b t cu) (deB e' b' t' cu') (deT e' b' t' cu')))]) ∧ Below W.heap.size W w' := by
 have K : KS W (W.heap.size + 1 + 1) [⟨W.heap.size + 1, cv cu' e' b' t' pm' ty' rs' va'⟩, ⟨W.heap.size, cv cu e b t pm ty rs va⟩] (((W.alloc (.cells #[.int .u32 cu, .int .u8 e, .int .u16 b, .int .u16 t, .int .u16 pm, .int .u16 ty, .int .u32 rs, .bool va] 25)).alloc (.cells #[.int .u32 cu', .int .u8 e', .int .u16 b', .int .u16 t', .int .u16 pm', .int .u16 ty', .int .u32 rs', .bool va'] 25)).alloc (.cells #[.int .u32 0, .int .u8 0, .int .u16 0, .int .u16 0, .int .u16 0, .int .u16 0, .int .u32 0, .bool false] 25)) := KS.of (threeBoxes W cu e b t pm ty rs va cu' e' b' t' pm' ty' rs' va') (by omega) (by simp <;> omega)
 have hF := hid (fun w => rFree_any cu' e' b' t' pm' ty' rs' va' w)
 have hSn := hid (fun w => rSound_any cu e b t pm ty rs va w)
 have hI := hid (fun w => rWithin_any cu e b t pm ty rs va cu' e' b' t' pm' ty' rs' va' w l0 l0' l4 l4')
 have hM := hid (fun z w => rwith_any cu e b t pm ty rs va z w)
 generalize wiP pm pm' (deB e b t cu) (deT e b t cu) (deB e' b' t' cu') (deT e' b' t' cu') = i at *
 have hV : buP e b t pm ty rs i = (sndP e b t pm ty rs && decide (ty = 0) && i) := rfl
 generalize buP e b t pm ty rs i = V at *
 generalize sndP e b t pm ty rs = s at *
 generalize (va' && decide (ty' = 0)) = q at *
 have hund : undef = Value.tuple #[] := rfl
 obtain ⟨S, hS0⟩ : ∃ S, S = KS W (W.heap.size + 1 + 1) [⟨W.heap.size + 1, cv cu' e' b' t' pm' ty' rs' va'⟩, ⟨W.heap.size, cv cu e b t pm ty rs va⟩] := ⟨_, rfl⟩
 have hK : ∀ w, S w → KS W (W.heap.size + 1 + 1) [⟨W.heap.size + 1, cv cu' e' b' t' pm' ty' rs' va'⟩, ⟨W.heap.size, cv cu e b t pm ty rs va⟩] w := fun w h => by rw [← hS0]; exact h
 have hS : ∀ w w', S w → Below w.heap.size w w' → S w' := fun w w' h k => by rw [hS0] at h ⊢; exact h.below k
 replace K : S (((W.alloc (.cells #[.int .u32 cu, .int .u8 e, .int .u16 b, .int .u16 t, .int .u16 pm, .int .u16 ty, .int .u32 rs, .bool va] 25)).alloc (.cells #[.int .u32 cu', .int .u8 e', .int .u16 b', .int .u16 t', .int .u16 pm', .int .u16 ty', .int .u32 rs', .bool va'] 25)).alloc (.cells #[.int .u32 0, .int .u8 0, .int .u16 0, .int .u16 0, .int .u16 0, .int .u16 0, .int .u32 0, .bool false] 25)) := by rw [hS0]; exact K
 clear hS0
 have cF := cls_bel hS hF.out
 have cS := cls_bel hS hSn.out
 have cI := cls_bel hS hI.out
 obtain ⟨a0, a1, a2, a3, a4, a5, a6, a7⟩ := cls_cap (S := S) (bx := W.heap.size) (fun w h => (hK w h).k.cap (show (⟨_, cv cu e b t pm ty rs va⟩ : Rw) ∈ _ by simp))
 obtain ⟨d0, d1, d2, d3, d4, d5, d6, d7⟩ := cls_cap (S := S) (bx := W.heap.size + 1) (fun w h => (hK w h).k.cap (show (⟨_, cv cu' e' b' t' pm' ty' rs' va'⟩ : Rw) ∈ _ by simp))
 replace K := hid K
 replace cF := hid cF
 replace cS := hid cS
 replace cI := hid cI
 clear hF hSn hI
 cases q
 · simp only [Bool.false_and]
   clear hV
   go_enter Tryz.func107, Tryz.ntmps107
   go_wp2_with fail
   generalize (((W.alloc (.cells #[.int .u32 cu, .int .u8 e, .int .u16 b, .int .u16 t, .int .u16 pm, .int .u16 ty, .int .u32 rs, .bool va] 25)).alloc (.cells #[.int .u32 cu', .int .u8 e', .int .u16 b', .int .u16 t', .int .u16 pm', .int .u16 ty', .int .u32 rs', .bool va'] 25)).alloc (.cells #[.int .u32 0, .int .u8 0, .int .u16 0, .int .u16 0, .int .u16 0, .int .u16 0, .int .u32 0, .bool false] 25)) = W1 at *
   refine region_cls_tail S 17 (by kernel_rfl) (by kernel_rfl) (hS _ _ K.out (Below.refl _ _).drew) ?_
   simp only [List.take_succ_cons, List.take_zero, List.drop_succ_cons, List.drop_zero]
   repeat (first
     | go_big_quiet_skip
     | (go_big_quiet_want
        go_big_quiet_op
        first
        | go_big_quiet_on
        | (apply Exists.intro
           refine ⟨fun y => ?_, ?_⟩
           · first | exact rfl | with_reducible exact cF.out y | with_reducible exact cS.out y | with_reducible exact cI.out y
           go_big_quiet_on)))
   refine wpQuiet_nil ?_
   intro y
   have ky := hid (hK _ y.h)
   generalize y.w = wy at *
   clear a0 a1 a2 a3 a4 a5 a6 a7 d0 d1 d2 d3 d4 d5 d6 d7
   go_wp2_with fail
   refine (hM.out _ _).mono ?_
   rintro ee X ⟨rfl, g⟩
   have kk := hid (ky.out.below g)
   obtain ⟨v0, v1, v2, v3, v4, v5, v6, v7, r0, r1, r2, r3, r4, r5, r6, r7, fr⟩ := (ky.out.below g).cells
   clear g ky
   have hf := hid (kk.out.store cu e b t pm ty rs false)
   go_wp2_with fail
   change bodyPost _ _ _ _ _ (setRow (W.heap.size + 1 + 1) 0 (cv cu e b t pm ty rs false) X)
   clear r0 r1 r2 r3 r4 r5 r6 r7 fr
   generalize setRow (W.heap.size + 1 + 1) 0 (cv cu e b t pm ty rs false) X = w3 at *
   obtain ⟨z0, z1, z2, z3, z4, z5, z6, z7⟩ := hf.out.cap (g := W.heap.size + 1 + 1) (List.mem_cons_self ..)
   exact bodyPost_ret (v := .agg #[.int .u32 cu, .int .u8 e, .int .u16 b, .int .u16 t, .int .u16 pm, .int .u16 ty, .int .u32 rs, .bool false]) (by simp [results, Tryz.results107, go_sem, z0, z1, z2, z3, z4, z5, z6, z7]) rfl ⟨rfl, hf.out.bl⟩
 · rw [hV]
   clear hV
   cases s
   · simp only [Bool.false_and, Bool.and_false]
     go_enter Tryz.func107, Tryz.ntmps107
     go_wp2_with fail
     generalize (((W.alloc (.cells #[.int .u32 cu, .int .u8 e, .int .u16 b, .int .u16 t, .int .u16 pm, .int .u16 ty, .int .u32 rs, .bool va] 25)).alloc (.cells #[.int .u32 cu', .int .u8 e', .int .u16 b', .int .u16 t', .int .u16 pm', .int .u16 ty', .int .u32 rs', .bool va'] 25)).alloc (.cells #[.int .u32 0, .int .u8 0, .int .u16 0, .int .u16 0, .int .u16 0, .int .u16 0, .int .u32 0, .bool false] 25)) = W1 at *
     refine region_cls_tail S 17 (by kernel_rfl) (by kernel_rfl) (hS _ _ K.out (Below.refl _ _).drew) ?_
     simp only [List.take_succ_cons, List.take_zero, List.drop_succ_cons, List.drop_zero]
     repeat (first
       | go_big_quiet_skip
       | (go_big_quiet_want
          go_big_quiet_op
          first
          | go_big_quiet_on
          | (apply Exists.intro
             refine ⟨fun y => ?_, ?_⟩
             · first | exact rfl | with_reducible exact cF.out y | with_reducible exact cS.out y | with_reducible exact cI.out y
             go_big_quiet_on)))
     refine wpQuiet_nil ?_
     intro y
     have ky := hid (hK _ y.h)
     generalize y.w = wy at *
     clear a0 a1 a2 a3 a4 a5 a6 a7 d0 d1 d2 d3 d4 d5 d6 d7
     go_wp2_with fail
     refine (hM.out _ _).mono ?_
     rintro ee X ⟨rfl, g⟩
     have kk := hid (ky.out.below g)
     obtain ⟨v0, v1, v2, v3, v4, v5, v6, v7, r0, r1, r2, r3, r4, r5, r6, r7, fr⟩ := (ky.out.below g).cells
     clear g ky
     have hf := hid (kk.out.store cu e b t pm ty rs false)
     go_wp2_with fail
     change bodyPost _ _ _ _ _ (setRow (W.heap.size + 1 + 1) 0 (cv cu e b t pm ty rs false) X)
     clear r0 r1 r2 r3 r4 r5 r6 r7 fr
     generalize setRow (W.heap.size + 1 + 1) 0 (cv cu e b t pm ty rs false) X = w3 at *
     obtain ⟨z0, z1, z2, z3, z4, z5, z6, z7⟩ := hf.out.cap (g := W.heap.size + 1 + 1) (List.mem_cons_self ..)
     exact bodyPost_ret (v := .agg #[.int .u32 cu, .int .u8 e, .int .u16 b, .int .u16 t, .int .u16 pm, .int .u16 ty, .int .u32 rs, .bool false]) (by simp [results, Tryz.results107, go_sem, z0, z1, z2, z3, z4, z5, z6, z7]) rfl ⟨rfl, hf.out.bl⟩
   · by_cases c1 : (ty : Int) = 0
     · rw [decide_eq_true (show ty = 0 by omega)]
       simp only [Bool.true_and]
       have c1' : ((ty : Int) == 0) = true := by rw [c1]; rfl
       clear c1
       go_enter Tryz.func107, Tryz.ntmps107
       go_wp2_with fail
       generalize (((W.alloc (.cells #[.int .u32 cu, .int .u8 e, .int .u16 b, .int .u16 t, .int .u16 pm, .int .u16 ty, .int .u32 rs, .bool va] 25)).alloc (.cells #[.int .u32 cu', .int .u8 e', .int .u16 b', .int .u16 t', .int .u16 pm', .int .u16 ty', .int .u32 rs', .bool va'] 25)).alloc (.cells #[.int .u32 0, .int .u8 0, .int .u16 0, .int .u16 0, .int .u16 0, .int .u16 0, .int .u32 0, .bool false] 25)) = W1 at *
       refine region_cls_tail S 17 (by kernel_rfl) (by kernel_rfl) (hS _ _ K.out (Below.refl _ _).drew) ?_
       simp only [List.take_succ_cons, List.take_zero, List.drop_succ_cons, List.drop_zero]
       repeat (first
         | go_big_quiet_skip
         | (go_big_quiet_want
            go_big_quiet_op
            first
            | go_big_quiet_on
            | (apply Exists.intro
               refine ⟨fun y => ?_, ?_⟩
               · first | exact rfl | with_reducible exact cF.out y | with_reducible exact cS.out y | with_reducible exact cI.out y
               go_big_quiet_on)))
       refine wpQuiet_nil ?_
       intro y
       have ky := hid (hK _ y.h)
       generalize y.w = wy at *
       clear a0 a1 a2 a3 a4 a5 a6 a7 d0 d1 d2 d3 d4 d5 d6 d7
       go_wp2_with fail
       refine (hM.out _ _).mono ?_
       rintro ee X ⟨rfl, g⟩
       have kk := hid (ky.out.below g)
       obtain ⟨v0, v1, v2, v3, v4, v5, v6, v7, r0, r1, r2, r3, r4, r5, r6, r7, fr⟩ := (ky.out.below g).cells
       clear g ky
       have hf := hid (kk.out.store cu e b t pm ty rs i)
       go_wp2_with fail
       change bodyPost _ _ _ _ _ (setRow (W.heap.size + 1 + 1) 0 (cv cu e b t pm ty rs i) X)
       clear r0 r1 r2 r3 r4 r5 r6 r7 fr
       generalize setRow (W.heap.size + 1 + 1) 0 (cv cu e b t pm ty rs i) X = w3 at *
       obtain ⟨z0, z1, z2, z3, z4, z5, z6, z7⟩ := hf.out.cap (g := W.heap.size + 1 + 1) (List.mem_cons_self ..)
       exact bodyPost_ret (v := .agg #[.int .u32 cu, .int .u8 e, .int .u16 b, .int .u16 t, .int .u16 pm, .int .u16 ty, .int .u32 rs, .bool i]) (by simp [results, Tryz.results107, go_sem, z0, z1, z2, z3, z4, z5, z6, z7]) rfl ⟨rfl, hf.out.bl⟩
     · rw [decide_eq_false (show ¬ ty = 0 by omega)]
       simp only [Bool.false_and, Bool.and_false]
       have c1' : ((ty : Int) == 0) = false := by simpa using c1
       go_enter Tryz.func107, Tryz.ntmps107
       go_wp2_with fail
       generalize (((W.alloc (.cells #[.int .u32 cu, .int .u8 e, .int .u16 b, .int .u16 t, .int .u16 pm, .int .u16 ty, .int .u32 rs, .bool va] 25)).alloc (.cells #[.int .u32 cu', .int .u8 e', .int .u16 b', .int .u16 t', .int .u16 pm', .int .u16 ty', .int .u32 rs', .bool va'] 25)).alloc (.cells #[.int .u32 0, .int .u8 0, .int .u16 0, .int .u16 0, .int .u16 0, .int .u16 0, .int .u32 0, .bool false] 25)) = W1 at *
       refine region_cls_tail S 17 (by kernel_rfl) (by kernel_rfl) (hS _ _ K.out (Below.refl _ _).drew) ?_
       simp only [List.take_succ_cons, List.take_zero, List.drop_succ_cons, List.drop_zero]
       repeat (first
         | go_big_quiet_skip
         | (go_big_quiet_want
            go_big_quiet_op
            first
            | go_big_quiet_on
            | (apply Exists.intro
               refine ⟨fun y => ?_, ?_⟩
               · first | exact rfl | with_reducible exact cF.out y | with_reducible exact cS.out y | with_reducible exact cI.out y
               go_big_quiet_on)))
       refine wpQuiet_nil ?_
       intro y
       have ky := hid (hK _ y.h)
       generalize y.w = wy at *
       clear a0 a1 a2 a3 a4 a5 a6 a7 d0 d1 d2 d3 d4 d5 d6 d7
       go_wp2_with fail
       refine (hM.out _ _).mono ?_
       rintro ee X ⟨rfl, g⟩
       have kk := hid (ky.out.below g)
       obtain ⟨v0, v1, v2, v3, v4, v5, v6, v7, r0, r1, r2, r3, r4, r5, r6, r7, fr⟩ := (ky.out.below g).cells
       clear g ky
       have hf := hid (kk.out.store cu e b t pm ty rs false)
       go_wp2_with fail
       change bodyPost _ _ _ _ _ (setRow (W.heap.size + 1 + 1) 0 (cv cu e b t pm ty rs false) X)
       clear r0 r1 r2 r3 r4 r5 r6 r7 fr
       generalize setRow (W.heap.size + 1 + 1) 0 (cv cu e b t pm ty rs false) X = w3 at *
       obtain ⟨z0, z1, z2, z3, z4, z5, z6, z7⟩ := hf.out.cap (g := W.heap.size + 1 + 1) (List.mem_cons_self ..)
       exact bodyPost_ret (v := .agg #[.int .u32 cu, .int .u8 e, .int .u16 b, .int .u16 t, .int .u16 pm, .int .u16 ty, .int .u32 rs, .bool false]) (by simp [results, Tryz.results107, go_sem, z0, z1, z2, z3, z4, z5, z6, z7]) rfl ⟨rfl, hf.out.bl⟩
end Go.Proofs.YtkmgdfcambdeeaaGreatDoor
