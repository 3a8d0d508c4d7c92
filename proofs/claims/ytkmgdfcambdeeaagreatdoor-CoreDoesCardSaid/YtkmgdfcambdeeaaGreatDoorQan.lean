/- For core. -/
import Derived.Test.YtkmgdfcambdeeaaGreatDoorQal
namespace Go.Proofs.YtkmgdfcambdeeaaGreatDoor
open Lib (hid)
open Go.RowKit
set_option linter.unusedVariables false
theorem Calls.toBelow {f : FuncId} {args : Array Value} {w : World} {r : Ending} (h : Calls Tryz.prog f args w fun e w' => e = r ∧ ∃ n, w.drewN n = w') : Calls Tryz.prog f args w fun e w' => e = r ∧ Below w.heap.size w w' :=
 h.mono fun _ _ ⟨h, n, e⟩ => ⟨h, e ▸ below_drewN (Below.refl _ _) n⟩
set_option maxHeartbeats 2000000 in
theorem rset_any (cu e b t pm ty rs : Nat) (va : Bool) (v : Nat) (x5 : Bool) (l0 : cu < 4294967296) (l1 : e < 256) (l2 : b < 65536) (l3 : t < 65536) (l4 : pm < 65536) (l5 : ty < 65536) (l6 : rs < 4294967296) (lv : v < 4294967296) (W : World) : Calls Tryz.prog 158 #[.agg #[.int .u32 cu, .int .u8 e, .int .u16 b, .int .u16 t, .int .u16 pm, .int .u16 ty, .int .u32 rs, .bool va], .int .u32 v, .bool x5] W fun ee w' => ee = .returned (.agg #[.int .u32 cu, .int .u8 (bdE e cu v), .int .u16 (bdB b cu v), .int .u16 (bdT t cu v), .int .u16 pm, .int .u16 ty, .int .u32 rs, .bool (va && decide (ty = 0) && (hdP e b t cu v && (enX cu (cu + v) || !x5)))]) ∧ Below W.heap.size W w' := by
 have hk := hid (twoBoxes W cu e b t pm ty rs va 25 0 0 0 0 0 0 0 false 25)
 have hE := hid (fun w => Calls.toBelow (rEncode_any cu (cu + v) w l0 (by omega)))
 have hR := hid (fun w => Calls.toBelow (rRound_any cu (cu + v) w l0 (by omega)))
 have hD := hid (fun w => rRange_any cu e b t pm ty rs va w l0)
 have hF := hid (fun w => rFree_any cu e b t pm ty rs va w)
 have hM := hid (fun z w => rwith_any cu (bdE e cu v) (bdB b cu v) (bdT t cu v) pm ty rs va z w)
 have hM0 := hid (fun z w => rwith_any cu e b t pm ty rs va z w)
 have hbd := de_bounds e b t cu
 have hw : IntKind.u64.wrap ((cu : Int) + v) = ((cu + v : Nat) : Int) := by rw [IntWalk.u64_in _ (by omega)]; omega
 have hw1 : IntKind.u64.wrap (cu : Int) = cu := IntWalk.u64_in _ (by omega)
 have hw2 : IntKind.u64.wrap (v : Int) = v := IntWalk.u64_in _ (by omega)
 have hV : (va && decide (ty = 0) && (hdP e b t cu v && (enX cu (cu + v) || !x5))) = (va && decide (ty = 0) && (may cu (cu + v) && decide (deB e b t cu ≤ (rdB cu (cu + v) : Int) ∧ (rdT cu (cu + v) : Int) ≤ deT e b t cu) && (enX cu (cu + v) || !x5))) := rfl
 generalize (va && decide (ty = 0) && (hdP e b t cu v && (enX cu (cu + v) || !x5))) = V at *
 generalize (va && decide (ty = 0)) = q at *
 have e1 : bdE e cu v = if may cu (cu + v) then enE cu (cu + v) else e := rfl
 have e2 : bdB b cu v = if may cu (cu + v) then enB cu (cu + v) else b := rfl
 have e3 : bdT t cu v = if may cu (cu + v) then enT cu (cu + v) else t := rfl
 generalize bdE e cu v = e2 at *
 generalize bdB b cu v = b2 at *
 generalize bdT t cu v = t2 at *
 generalize enE cu (cu + v) = xx at *
 generalize enB cu (cu + v) = yy at *
 generalize enT cu (cu + v) = zz at *
 generalize deB e b t cu = x at *
 generalize deT e b t cu = y at *
 generalize rdB cu (cu + v) = lo at *
 generalize rdT cu (cu + v) = hi at *
 generalize enX cu (cu + v) = ex at *
 obtain ⟨b1, b2', b3, b4⟩ := hbd
 cases hm : may cu (cu + v)
 · rw [hm] at e1 e2 e3 hE hV
   simp only [Bool.false_eq_true, if_false, Bool.false_and, Bool.and_false] at e1 e2 e3 hV
   rw [e1, e2, e3, hV]
   clear e1 e2 e3 hm hV hM
   generalize ((cu + v : Nat) : Int) = n at *
   clear hR
   go_enter Tryz.func158, Tryz.ntmps158
   go_wp2_with fail
   refine (hE.out _).mono ?_
   rintro ee w1 ⟨rfl, h1⟩
   have hk1 := hk.out.below h1
   clear h1 hk hE
   obtain ⟨p0, p1, p2, p3, p4, p5, p6, p7⟩ : CapAt w1 W.heap.size cu e b t pm ty rs va := hk1.cap (by simp)
   replace hk1 := hid hk1
   go_wp2_with fail
   refine (hM0.out _ _).mono ?_
   rintro ee w5 ⟨rfl, h1⟩
   have hk6 := hk1.out.below h1
   clear h1 hk1 hM0 p0 p1 p2 p3 p4 p5 p6 p7
   have r : CapAt w5 (W.heap.size + 1) 0 0 0 0 0 0 0 false := hk6.cap (by simp)
   have fr := hk6.soft (g := W.heap.size + 1) (vs := cv 0 0 0 0 0 0 0 false) (by simp)
   obtain ⟨r0, r1, r2, r3, r4, r5, r6, r7⟩ := r
   have hf := hid (hk6.whole (cv cu e b t pm ty rs false) (by simp) (by simp <;> omega) rfl)
   clear hk6
   go_wp2_with fail
   change bodyPost _ _ _ _ _ (setRow (W.heap.size + 1) 0 (cv cu e b t pm ty rs false) w5)
   clear r0 r1 r2 r3 r4 r5 r6 r7 fr
   generalize setRow (W.heap.size + 1) 0 (cv cu e b t pm ty rs false) w5 = wf at *
   obtain ⟨z0, z1, z2, z3, z4, z5, z6, z7⟩ := hf.out.cap (g := W.heap.size + 1) (List.mem_cons_self ..)
   exact bodyPost_ret (v := .agg #[.int .u32 cu, .int .u8 e, .int .u16 b, .int .u16 t, .int .u16 pm, .int .u16 ty, .int .u32 rs, .bool false]) (by simp [results, Tryz.results158, go_sem, z0, z1, z2, z3, z4, z5, z6, z7]) rfl ⟨rfl, hf.out.bl⟩
 · rw [hm] at e1 e2 e3 hE hV hR
   simp only [if_true, Bool.true_and] at e1 e2 e3 hV
   subst e1 e2 e3
   clear hm hM0
   generalize ((cu + v : Nat) : Int) = n at *
   have hV2 : (q = false ∧ V = false) ∨ (q = true ∧ ¬ (x ≤ (lo : Int)) ∧ V = false) ∨ (q = true ∧ x ≤ (lo : Int) ∧ ¬ ((hi : Int) ≤ y) ∧ V = false) ∨ (q = true ∧ x ≤ (lo : Int) ∧ (hi : Int) ≤ y ∧ ex = true ∧ V = true) ∨ (q = true ∧ x ≤ (lo : Int) ∧ (hi : Int) ≤ y ∧ ex = false ∧ x5 = true ∧ V = false) ∨ (q = true ∧ x ≤ (lo : Int) ∧ (hi : Int) ≤ y ∧ ex = false ∧ x5 = false ∧ V = true) := by
     rw [hV]
     cases q
     · exact .inl ⟨rfl, rfl⟩
     · by_cases c1 : x ≤ (lo : Int)
       · by_cases c2 : (hi : Int) ≤ y
         · cases ex
           · cases x5
             · exact .inr (.inr (.inr (.inr (.inr ⟨rfl, c1, c2, rfl, rfl, by simp [c1, c2]⟩))))
             · exact .inr (.inr (.inr (.inr (.inl ⟨rfl, c1, c2, rfl, rfl, by simp⟩))))
           · exact .inr (.inr (.inr (.inl ⟨rfl, c1, c2, rfl, by simp [c1, c2]⟩)))
         · exact .inr (.inr (.inl ⟨rfl, c1, c2, by simp [c2]⟩))
       · exact .inr (.inl ⟨rfl, c1, by simp [c1]⟩)
   clear hV
   rcases hV2 with ⟨rfl, rfl⟩ | ⟨rfl, c1, rfl⟩ | ⟨rfl, c1, c2, rfl⟩ | ⟨rfl, c1, c2, rfl, rfl⟩ | ⟨rfl, c1, c2, rfl, rfl, rfl⟩ | ⟨rfl, c1, c2, rfl, rfl, rfl⟩
   · skip
     go_enter Tryz.func158, Tryz.ntmps158
     go_wp2_with fail
     refine (hE.out _).mono ?_
     rintro ee w1 ⟨rfl, h1⟩
     have hk1 := hk.out.below h1
     clear h1 hk hE
     obtain ⟨p0, p1, p2, p3, p4, p5, p6, p7⟩ : CapAt w1 W.heap.size cu e b t pm ty rs va := hk1.cap (by simp)
     replace hk1 := hid hk1
     go_wp2_with fail
     refine (hR.out _).mono ?_
     rintro ee w2 ⟨rfl, h1⟩
     have hk2 := hk1.out.below h1
     clear h1 hk1 hR p0 p1 p2 p3 p4 p5 p6 p7
     obtain ⟨p0, p1, p2, p3, p4, p5, p6, p7⟩ : CapAt w2 W.heap.size cu e b t pm ty rs va := hk2.cap (by simp)
     replace hk2 := hid hk2
     go_wp2_with fail
     refine (hD.out _).mono ?_
     rintro ee w3 ⟨rfl, h1⟩
     have hk3 := hk2.out.below h1
     clear h1 hk2 hD p0 p1 p2 p3 p4 p5 p6 p7
     obtain ⟨p0, p1, p2, p3, p4, p5, p6, p7⟩ : CapAt w3 W.heap.size cu e b t pm ty rs va := hk3.cap (by simp)
     replace hk3 := hid hk3
     go_wp2_with fail
     refine (hF.out _).mono ?_
     rintro ee w4 ⟨rfl, h1⟩
     have hk4 := hk3.out.below h1
     clear h1 hk3 hF p0 p1 p2 p3 p4 p5 p6 p7
     have fp := hk4.soft (g := W.heap.size) (vs := cv cu e b t pm ty rs va) (by simp)
     obtain ⟨p0, p1, p2, p3, p4, p5, p6, p7⟩ : CapAt w4 W.heap.size cu e b t pm ty rs va := hk4.cap (by simp)
     have hk5 := hid ((((hk4.swap.set (by simp) (by simp) 1 (.int .u8 e2) (by simp [cv])).set (by simp) (by simp) 2 (.int .u16 b2) (by simp [cv])).set (by simp) (by simp) 3 (.int .u16 t2) (by simp [cv])).swap)
     clear hk4
     go_wp2_with fail
     refine (hM.out _ _).mono ?_
     rintro ee w5 ⟨rfl, h1⟩
     have hk6 := hk5.out.below h1
     clear h1 hk5 hM p0 p1 p2 p3 p4 p5 p6 p7 fp
     have r : CapAt w5 (W.heap.size + 1) 0 0 0 0 0 0 0 false := hk6.cap (by simp)
     have fr := hk6.soft (g := W.heap.size + 1) (vs := cv 0 0 0 0 0 0 0 false) (by simp)
     obtain ⟨r0, r1, r2, r3, r4, r5, r6, r7⟩ := r
     have hf := hid (hk6.whole (cv cu e2 b2 t2 pm ty rs false) (by simp) (by simp <;> omega) rfl)
     clear hk6
     go_wp2_with fail
     change bodyPost _ _ _ _ _ (setRow (W.heap.size + 1) 0 (cv cu e2 b2 t2 pm ty rs false) w5)
     clear r0 r1 r2 r3 r4 r5 r6 r7 fr
     generalize setRow (W.heap.size + 1) 0 (cv cu e2 b2 t2 pm ty rs false) w5 = wf at *
     obtain ⟨z0, z1, z2, z3, z4, z5, z6, z7⟩ := hf.out.cap (g := W.heap.size + 1) (List.mem_cons_self ..)
     exact bodyPost_ret (v := .agg #[.int .u32 cu, .int .u8 e2, .int .u16 b2, .int .u16 t2, .int .u16 pm, .int .u16 ty, .int .u32 rs, .bool false]) (by simp [results, Tryz.results158, go_sem, z0, z1, z2, z3, z4, z5, z6, z7]) rfl ⟨rfl, hf.out.bl⟩
   · skip
     go_enter Tryz.func158, Tryz.ntmps158
     go_wp2_with fail
     refine (hE.out _).mono ?_
     rintro ee w1 ⟨rfl, h1⟩
     have hk1 := hk.out.below h1
     clear h1 hk hE
     obtain ⟨p0, p1, p2, p3, p4, p5, p6, p7⟩ : CapAt w1 W.heap.size cu e b t pm ty rs va := hk1.cap (by simp)
     replace hk1 := hid hk1
     go_wp2_with fail
     refine (hR.out _).mono ?_
     rintro ee w2 ⟨rfl, h1⟩
     have hk2 := hk1.out.below h1
     clear h1 hk1 hR p0 p1 p2 p3 p4 p5 p6 p7
     obtain ⟨p0, p1, p2, p3, p4, p5, p6, p7⟩ : CapAt w2 W.heap.size cu e b t pm ty rs va := hk2.cap (by simp)
     replace hk2 := hid hk2
     go_wp2_with fail
     refine (hD.out _).mono ?_
     rintro ee w3 ⟨rfl, h1⟩
     have hk3 := hk2.out.below h1
     clear h1 hk2 hD p0 p1 p2 p3 p4 p5 p6 p7
     obtain ⟨p0, p1, p2, p3, p4, p5, p6, p7⟩ : CapAt w3 W.heap.size cu e b t pm ty rs va := hk3.cap (by simp)
     replace hk3 := hid hk3
     go_wp2_with fail
     refine (hF.out _).mono ?_
     rintro ee w4 ⟨rfl, h1⟩
     have hk4 := hk3.out.below h1
     clear h1 hk3 hF p0 p1 p2 p3 p4 p5 p6 p7
     have fp := hk4.soft (g := W.heap.size) (vs := cv cu e b t pm ty rs va) (by simp)
     obtain ⟨p0, p1, p2, p3, p4, p5, p6, p7⟩ : CapAt w4 W.heap.size cu e b t pm ty rs va := hk4.cap (by simp)
     have hk5 := hid ((((hk4.swap.set (by simp) (by simp) 1 (.int .u8 e2) (by simp [cv])).set (by simp) (by simp) 2 (.int .u16 b2) (by simp [cv])).set (by simp) (by simp) 3 (.int .u16 t2) (by simp [cv])).swap)
     clear hk4
     go_wp2_with fail
     refine (hM.out _ _).mono ?_
     rintro ee w5 ⟨rfl, h1⟩
     have hk6 := hk5.out.below h1
     clear h1 hk5 hM p0 p1 p2 p3 p4 p5 p6 p7 fp
     have r : CapAt w5 (W.heap.size + 1) 0 0 0 0 0 0 0 false := hk6.cap (by simp)
     have fr := hk6.soft (g := W.heap.size + 1) (vs := cv 0 0 0 0 0 0 0 false) (by simp)
     obtain ⟨r0, r1, r2, r3, r4, r5, r6, r7⟩ := r
     have hf := hid (hk6.whole (cv cu e2 b2 t2 pm ty rs false) (by simp) (by simp <;> omega) rfl)
     clear hk6
     go_wp2_with fail
     change bodyPost _ _ _ _ _ (setRow (W.heap.size + 1) 0 (cv cu e2 b2 t2 pm ty rs false) w5)
     clear r0 r1 r2 r3 r4 r5 r6 r7 fr
     generalize setRow (W.heap.size + 1) 0 (cv cu e2 b2 t2 pm ty rs false) w5 = wf at *
     obtain ⟨z0, z1, z2, z3, z4, z5, z6, z7⟩ := hf.out.cap (g := W.heap.size + 1) (List.mem_cons_self ..)
     exact bodyPost_ret (v := .agg #[.int .u32 cu, .int .u8 e2, .int .u16 b2, .int .u16 t2, .int .u16 pm, .int .u16 ty, .int .u32 rs, .bool false]) (by simp [results, Tryz.results158, go_sem, z0, z1, z2, z3, z4, z5, z6, z7]) rfl ⟨rfl, hf.out.bl⟩
   · skip
     go_enter Tryz.func158, Tryz.ntmps158
     go_wp2_with fail
     refine (hE.out _).mono ?_
     rintro ee w1 ⟨rfl, h1⟩
     have hk1 := hk.out.below h1
     clear h1 hk hE
     obtain ⟨p0, p1, p2, p3, p4, p5, p6, p7⟩ : CapAt w1 W.heap.size cu e b t pm ty rs va := hk1.cap (by simp)
     replace hk1 := hid hk1
     go_wp2_with fail
     refine (hR.out _).mono ?_
     rintro ee w2 ⟨rfl, h1⟩
     have hk2 := hk1.out.below h1
     clear h1 hk1 hR p0 p1 p2 p3 p4 p5 p6 p7
     obtain ⟨p0, p1, p2, p3, p4, p5, p6, p7⟩ : CapAt w2 W.heap.size cu e b t pm ty rs va := hk2.cap (by simp)
     replace hk2 := hid hk2
     go_wp2_with fail
     refine (hD.out _).mono ?_
     rintro ee w3 ⟨rfl, h1⟩
     have hk3 := hk2.out.below h1
     clear h1 hk2 hD p0 p1 p2 p3 p4 p5 p6 p7
     obtain ⟨p0, p1, p2, p3, p4, p5, p6, p7⟩ : CapAt w3 W.heap.size cu e b t pm ty rs va := hk3.cap (by simp)
     replace hk3 := hid hk3
     go_wp2_with fail
     refine (hF.out _).mono ?_
     rintro ee w4 ⟨rfl, h1⟩
     have hk4 := hk3.out.below h1
     clear h1 hk3 hF p0 p1 p2 p3 p4 p5 p6 p7
     have fp := hk4.soft (g := W.heap.size) (vs := cv cu e b t pm ty rs va) (by simp)
     obtain ⟨p0, p1, p2, p3, p4, p5, p6, p7⟩ : CapAt w4 W.heap.size cu e b t pm ty rs va := hk4.cap (by simp)
     have hk5 := hid ((((hk4.swap.set (by simp) (by simp) 1 (.int .u8 e2) (by simp [cv])).set (by simp) (by simp) 2 (.int .u16 b2) (by simp [cv])).set (by simp) (by simp) 3 (.int .u16 t2) (by simp [cv])).swap)
     clear hk4
     go_wp2_with fail
     refine (hM.out _ _).mono ?_
     rintro ee w5 ⟨rfl, h1⟩
     have hk6 := hk5.out.below h1
     clear h1 hk5 hM p0 p1 p2 p3 p4 p5 p6 p7 fp
     have r : CapAt w5 (W.heap.size + 1) 0 0 0 0 0 0 0 false := hk6.cap (by simp)
     have fr := hk6.soft (g := W.heap.size + 1) (vs := cv 0 0 0 0 0 0 0 false) (by simp)
     obtain ⟨r0, r1, r2, r3, r4, r5, r6, r7⟩ := r
     have hf := hid (hk6.whole (cv cu e2 b2 t2 pm ty rs false) (by simp) (by simp <;> omega) rfl)
     clear hk6
     go_wp2_with fail
     change bodyPost _ _ _ _ _ (setRow (W.heap.size + 1) 0 (cv cu e2 b2 t2 pm ty rs false) w5)
     clear r0 r1 r2 r3 r4 r5 r6 r7 fr
     generalize setRow (W.heap.size + 1) 0 (cv cu e2 b2 t2 pm ty rs false) w5 = wf at *
     obtain ⟨z0, z1, z2, z3, z4, z5, z6, z7⟩ := hf.out.cap (g := W.heap.size + 1) (List.mem_cons_self ..)
     exact bodyPost_ret (v := .agg #[.int .u32 cu, .int .u8 e2, .int .u16 b2, .int .u16 t2, .int .u16 pm, .int .u16 ty, .int .u32 rs, .bool false]) (by simp [results, Tryz.results158, go_sem, z0, z1, z2, z3, z4, z5, z6, z7]) rfl ⟨rfl, hf.out.bl⟩
   · skip
     go_enter Tryz.func158, Tryz.ntmps158
     go_wp2_with fail
     refine (hE.out _).mono ?_
     rintro ee w1 ⟨rfl, h1⟩
     have hk1 := hk.out.below h1
     clear h1 hk hE
     obtain ⟨p0, p1, p2, p3, p4, p5, p6, p7⟩ : CapAt w1 W.heap.size cu e b t pm ty rs va := hk1.cap (by simp)
     replace hk1 := hid hk1
     go_wp2_with fail
     refine (hR.out _).mono ?_
     rintro ee w2 ⟨rfl, h1⟩
     have hk2 := hk1.out.below h1
     clear h1 hk1 hR p0 p1 p2 p3 p4 p5 p6 p7
     obtain ⟨p0, p1, p2, p3, p4, p5, p6, p7⟩ : CapAt w2 W.heap.size cu e b t pm ty rs va := hk2.cap (by simp)
     replace hk2 := hid hk2
     go_wp2_with fail
     refine (hD.out _).mono ?_
     rintro ee w3 ⟨rfl, h1⟩
     have hk3 := hk2.out.below h1
     clear h1 hk2 hD p0 p1 p2 p3 p4 p5 p6 p7
     obtain ⟨p0, p1, p2, p3, p4, p5, p6, p7⟩ : CapAt w3 W.heap.size cu e b t pm ty rs va := hk3.cap (by simp)
     replace hk3 := hid hk3
     go_wp2_with fail
     refine (hF.out _).mono ?_
     rintro ee w4 ⟨rfl, h1⟩
     have hk4 := hk3.out.below h1
     clear h1 hk3 hF p0 p1 p2 p3 p4 p5 p6 p7
     have fp := hk4.soft (g := W.heap.size) (vs := cv cu e b t pm ty rs va) (by simp)
     obtain ⟨p0, p1, p2, p3, p4, p5, p6, p7⟩ : CapAt w4 W.heap.size cu e b t pm ty rs va := hk4.cap (by simp)
     have hk5 := hid ((((hk4.swap.set (by simp) (by simp) 1 (.int .u8 e2) (by simp [cv])).set (by simp) (by simp) 2 (.int .u16 b2) (by simp [cv])).set (by simp) (by simp) 3 (.int .u16 t2) (by simp [cv])).swap)
     clear hk4
     go_wp2_with fail
     refine (hM.out _ _).mono ?_
     rintro ee w5 ⟨rfl, h1⟩
     have hk6 := hk5.out.below h1
     clear h1 hk5 hM p0 p1 p2 p3 p4 p5 p6 p7 fp
     have r : CapAt w5 (W.heap.size + 1) 0 0 0 0 0 0 0 false := hk6.cap (by simp)
     have fr := hk6.soft (g := W.heap.size + 1) (vs := cv 0 0 0 0 0 0 0 false) (by simp)
     obtain ⟨r0, r1, r2, r3, r4, r5, r6, r7⟩ := r
     have hf := hid (hk6.whole (cv cu e2 b2 t2 pm ty rs true) (by simp) (by simp <;> omega) rfl)
     clear hk6
     go_wp2_with fail
     change bodyPost _ _ _ _ _ (setRow (W.heap.size + 1) 0 (cv cu e2 b2 t2 pm ty rs true) w5)
     clear r0 r1 r2 r3 r4 r5 r6 r7 fr
     generalize setRow (W.heap.size + 1) 0 (cv cu e2 b2 t2 pm ty rs true) w5 = wf at *
     obtain ⟨z0, z1, z2, z3, z4, z5, z6, z7⟩ := hf.out.cap (g := W.heap.size + 1) (List.mem_cons_self ..)
     exact bodyPost_ret (v := .agg #[.int .u32 cu, .int .u8 e2, .int .u16 b2, .int .u16 t2, .int .u16 pm, .int .u16 ty, .int .u32 rs, .bool true]) (by simp [results, Tryz.results158, go_sem, z0, z1, z2, z3, z4, z5, z6, z7]) rfl ⟨rfl, hf.out.bl⟩
   · skip
     go_enter Tryz.func158, Tryz.ntmps158
     go_wp2_with fail
     refine (hE.out _).mono ?_
     rintro ee w1 ⟨rfl, h1⟩
     have hk1 := hk.out.below h1
     clear h1 hk hE
     obtain ⟨p0, p1, p2, p3, p4, p5, p6, p7⟩ : CapAt w1 W.heap.size cu e b t pm ty rs va := hk1.cap (by simp)
     replace hk1 := hid hk1
     go_wp2_with fail
     refine (hR.out _).mono ?_
     rintro ee w2 ⟨rfl, h1⟩
     have hk2 := hk1.out.below h1
     clear h1 hk1 hR p0 p1 p2 p3 p4 p5 p6 p7
     obtain ⟨p0, p1, p2, p3, p4, p5, p6, p7⟩ : CapAt w2 W.heap.size cu e b t pm ty rs va := hk2.cap (by simp)
     replace hk2 := hid hk2
     go_wp2_with fail
     refine (hD.out _).mono ?_
     rintro ee w3 ⟨rfl, h1⟩
     have hk3 := hk2.out.below h1
     clear h1 hk2 hD p0 p1 p2 p3 p4 p5 p6 p7
     obtain ⟨p0, p1, p2, p3, p4, p5, p6, p7⟩ : CapAt w3 W.heap.size cu e b t pm ty rs va := hk3.cap (by simp)
     replace hk3 := hid hk3
     go_wp2_with fail
     refine (hF.out _).mono ?_
     rintro ee w4 ⟨rfl, h1⟩
     have hk4 := hk3.out.below h1
     clear h1 hk3 hF p0 p1 p2 p3 p4 p5 p6 p7
     have fp := hk4.soft (g := W.heap.size) (vs := cv cu e b t pm ty rs va) (by simp)
     obtain ⟨p0, p1, p2, p3, p4, p5, p6, p7⟩ : CapAt w4 W.heap.size cu e b t pm ty rs va := hk4.cap (by simp)
     have hk5 := hid ((((hk4.swap.set (by simp) (by simp) 1 (.int .u8 e2) (by simp [cv])).set (by simp) (by simp) 2 (.int .u16 b2) (by simp [cv])).set (by simp) (by simp) 3 (.int .u16 t2) (by simp [cv])).swap)
     clear hk4
     go_wp2_with fail
     refine (hM.out _ _).mono ?_
     rintro ee w5 ⟨rfl, h1⟩
     have hk6 := hk5.out.below h1
     clear h1 hk5 hM p0 p1 p2 p3 p4 p5 p6 p7 fp
     have r : CapAt w5 (W.heap.size + 1) 0 0 0 0 0 0 0 false := hk6.cap (by simp)
     have fr := hk6.soft (g := W.heap.size + 1) (vs := cv 0 0 0 0 0 0 0 false) (by simp)
     obtain ⟨r0, r1, r2, r3, r4, r5, r6, r7⟩ := r
     have hf := hid (hk6.whole (cv cu e2 b2 t2 pm ty rs false) (by simp) (by simp <;> omega) rfl)
     clear hk6
     go_wp2_with fail
     change bodyPost _ _ _ _ _ (setRow (W.heap.size + 1) 0 (cv cu e2 b2 t2 pm ty rs false) w5)
     clear r0 r1 r2 r3 r4 r5 r6 r7 fr
     generalize setRow (W.heap.size + 1) 0 (cv cu e2 b2 t2 pm ty rs false) w5 = wf at *
     obtain ⟨z0, z1, z2, z3, z4, z5, z6, z7⟩ := hf.out.cap (g := W.heap.size + 1) (List.mem_cons_self ..)
     exact bodyPost_ret (v := .agg #[.int .u32 cu, .int .u8 e2, .int .u16 b2, .int .u16 t2, .int .u16 pm, .int .u16 ty, .int .u32 rs, .bool false]) (by simp [results, Tryz.results158, go_sem, z0, z1, z2, z3, z4, z5, z6, z7]) rfl ⟨rfl, hf.out.bl⟩
   · skip
     go_enter Tryz.func158, Tryz.ntmps158
     go_wp2_with fail
     refine (hE.out _).mono ?_
     rintro ee w1 ⟨rfl, h1⟩
     have hk1 := hk.out.below h1
     clear h1 hk hE
     obtain ⟨p0, p1, p2, p3, p4, p5, p6, p7⟩ : CapAt w1 W.heap.size cu e b t pm ty rs va := hk1.cap (by simp)
     replace hk1 := hid hk1
     go_wp2_with fail
     refine (hR.out _).mono ?_
     rintro ee w2 ⟨rfl, h1⟩
     have hk2 := hk1.out.below h1
     clear h1 hk1 hR p0 p1 p2 p3 p4 p5 p6 p7
     obtain ⟨p0, p1, p2, p3, p4, p5, p6, p7⟩ : CapAt w2 W.heap.size cu e b t pm ty rs va := hk2.cap (by simp)
     replace hk2 := hid hk2
     go_wp2_with fail
     refine (hD.out _).mono ?_
     rintro ee w3 ⟨rfl, h1⟩
     have hk3 := hk2.out.below h1
     clear h1 hk2 hD p0 p1 p2 p3 p4 p5 p6 p7
     obtain ⟨p0, p1, p2, p3, p4, p5, p6, p7⟩ : CapAt w3 W.heap.size cu e b t pm ty rs va := hk3.cap (by simp)
     replace hk3 := hid hk3
     go_wp2_with fail
     refine (hF.out _).mono ?_
     rintro ee w4 ⟨rfl, h1⟩
     have hk4 := hk3.out.below h1
     clear h1 hk3 hF p0 p1 p2 p3 p4 p5 p6 p7
     have fp := hk4.soft (g := W.heap.size) (vs := cv cu e b t pm ty rs va) (by simp)
     obtain ⟨p0, p1, p2, p3, p4, p5, p6, p7⟩ : CapAt w4 W.heap.size cu e b t pm ty rs va := hk4.cap (by simp)
     have hk5 := hid ((((hk4.swap.set (by simp) (by simp) 1 (.int .u8 e2) (by simp [cv])).set (by simp) (by simp) 2 (.int .u16 b2) (by simp [cv])).set (by simp) (by simp) 3 (.int .u16 t2) (by simp [cv])).swap)
     clear hk4
     go_wp2_with fail
     refine (hM.out _ _).mono ?_
     rintro ee w5 ⟨rfl, h1⟩
     have hk6 := hk5.out.below h1
     clear h1 hk5 hM p0 p1 p2 p3 p4 p5 p6 p7 fp
     have r : CapAt w5 (W.heap.size + 1) 0 0 0 0 0 0 0 false := hk6.cap (by simp)
     have fr := hk6.soft (g := W.heap.size + 1) (vs := cv 0 0 0 0 0 0 0 false) (by simp)
     obtain ⟨r0, r1, r2, r3, r4, r5, r6, r7⟩ := r
     have hf := hid (hk6.whole (cv cu e2 b2 t2 pm ty rs true) (by simp) (by simp <;> omega) rfl)
     clear hk6
     go_wp2_with fail
     change bodyPost _ _ _ _ _ (setRow (W.heap.size + 1) 0 (cv cu e2 b2 t2 pm ty rs true) w5)
     clear r0 r1 r2 r3 r4 r5 r6 r7 fr
     generalize setRow (W.heap.size + 1) 0 (cv cu e2 b2 t2 pm ty rs true) w5 = wf at *
     obtain ⟨z0, z1, z2, z3, z4, z5, z6, z7⟩ := hf.out.cap (g := W.heap.size + 1) (List.mem_cons_self ..)
     exact bodyPost_ret (v := .agg #[.int .u32 cu, .int .u8 e2, .int .u16 b2, .int .u16 t2, .int .u16 pm, .int .u16 ty, .int .u32 rs, .bool true]) (by simp [results, Tryz.results158, go_sem, z0, z1, z2, z3, z4, z5, z6, z7]) rfl ⟨rfl, hf.out.bl⟩
theorem rSet_any (cu e b t pm ty rs : Nat) (va : Bool) (v : Nat) (l0 : cu < 4294967296) (l1 : e < 256) (l2 : b < 65536) (l3 : t < 65536) (l4 : pm < 65536) (l5 : ty < 65536) (l6 : rs < 4294967296) (lv : v < 4294967296) (W : World) : Calls Tryz.prog 102 #[.agg #[.int .u32 cu, .int .u8 e, .int .u16 b, .int .u16 t, .int .u16 pm, .int .u16 ty, .int .u32 rs, .bool va], .int .u32 v] W fun ee w' => ee = .returned (.agg #[.int .u32 cu, .int .u8 (bdE e cu v), .int .u16 (bdB b cu v), .int .u16 (bdT t cu v), .int .u16 pm, .int .u16 ty, .int .u32 rs, .bool (va && decide (ty = 0) && hdP e b t cu v)]) ∧ Below W.heap.size W w' := by
 have hk := hid (twoBoxes W cu e b t pm ty rs va 25 0 0 0 0 0 0 0 false 25)
 have hM := fun w => rset_any cu e b t pm ty rs va v false l0 l1 l2 l3 l4 l5 l6 lv w
 rw [show (va && decide (ty = 0) && (hdP e b t cu v && (enX cu (cu + v) || !false))) = (va && decide (ty = 0) && hdP e b t cu v) from by simp] at hM
 generalize (va && decide (ty = 0) && hdP e b t cu v) = V at *
 generalize bdE e cu v = e2 at *
 generalize bdB b cu v = b2 at *
 generalize bdT t cu v = t2 at *
 replace hM := hid hM
 go_enter Tryz.func102, Tryz.ntmps102
 go_wp2_with fail
 refine (hM.out _).mono ?_
 rintro ee w1 ⟨rfl, h1⟩
 have hk1 := hk.out.below h1
 clear h1 hk hM
 have r : CapAt w1 (W.heap.size + 1) 0 0 0 0 0 0 0 false := hk1.cap (by simp)
 have fr := hk1.soft (g := W.heap.size + 1) (vs := cv 0 0 0 0 0 0 0 false) (by simp)
 obtain ⟨r0, r1, r2, r3, r4, r5, r6, r7⟩ := r
 have hf := hid (hk1.whole (cv cu e2 b2 t2 pm ty rs V) (by simp) (by simp <;> omega) rfl)
 clear hk1
 go_wp2_with fail
 change bodyPost _ _ _ _ _ (setRow (W.heap.size + 1) 0 (cv cu e2 b2 t2 pm ty rs V) w1)
 clear r0 r1 r2 r3 r4 r5 r6 r7 fr
 generalize setRow (W.heap.size + 1) 0 (cv cu e2 b2 t2 pm ty rs V) w1 = wf at *
 obtain ⟨z0, z1, z2, z3, z4, z5, z6, z7⟩ := hf.out.cap (g := W.heap.size + 1) (List.mem_cons_self ..)
 exact bodyPost_ret (v := .agg #[.int .u32 cu, .int .u8 e2, .int .u16 b2, .int .u16 t2, .int .u16 pm, .int .u16 ty, .int .u32 rs, .bool V]) (by simp [results, Tryz.results102, go_sem, z0, z1, z2, z3, z4, z5, z6, z7]) rfl ⟨rfl, hf.out.bl⟩
theorem rExact_any (cu e b t pm ty rs : Nat) (va : Bool) (v : Nat) (l0 : cu < 4294967296) (l1 : e < 256) (l2 : b < 65536) (l3 : t < 65536) (l4 : pm < 65536) (l5 : ty < 65536) (l6 : rs < 4294967296) (lv : v < 4294967296) (W : World) : Calls Tryz.prog 103 #[.agg #[.int .u32 cu, .int .u8 e, .int .u16 b, .int .u16 t, .int .u16 pm, .int .u16 ty, .int .u32 rs, .bool va], .int .u32 v] W fun ee w' => ee = .returned (.agg #[.int .u32 cu, .int .u8 (bdE e cu v), .int .u16 (bdB b cu v), .int .u16 (bdT t cu v), .int .u16 pm, .int .u16 ty, .int .u32 rs, .bool (va && decide (ty = 0) && (hdP e b t cu v && enX cu (cu + v)))]) ∧ Below W.heap.size W w' := by
 have hk := hid (twoBoxes W cu e b t pm ty rs va 25 0 0 0 0 0 0 0 false 25)
 have hM := fun w => rset_any cu e b t pm ty rs va v true l0 l1 l2 l3 l4 l5 l6 lv w
 rw [show (va && decide (ty = 0) && (hdP e b t cu v && (enX cu (cu + v) || !true))) = (va && decide (ty = 0) && (hdP e b t cu v && enX cu (cu + v))) from by simp] at hM
 generalize (va && decide (ty = 0) && (hdP e b t cu v && enX cu (cu + v))) = V at *
 generalize bdE e cu v = e2 at *
 generalize bdB b cu v = b2 at *
 generalize bdT t cu v = t2 at *
 replace hM := hid hM
 go_enter Tryz.func103, Tryz.ntmps103
 go_wp2_with fail
 refine (hM.out _).mono ?_
 rintro ee w1 ⟨rfl, h1⟩
 have hk1 := hk.out.below h1
 clear h1 hk hM
 have r : CapAt w1 (W.heap.size + 1) 0 0 0 0 0 0 0 false := hk1.cap (by simp)
 have fr := hk1.soft (g := W.heap.size + 1) (vs := cv 0 0 0 0 0 0 0 false) (by simp)
 obtain ⟨r0, r1, r2, r3, r4, r5, r6, r7⟩ := r
 have hf := hid (hk1.whole (cv cu e2 b2 t2 pm ty rs V) (by simp) (by simp <;> omega) rfl)
 clear hk1
 go_wp2_with fail
 change bodyPost _ _ _ _ _ (setRow (W.heap.size + 1) 0 (cv cu e2 b2 t2 pm ty rs V) w1)
 clear r0 r1 r2 r3 r4 r5 r6 r7 fr
 generalize setRow (W.heap.size + 1) 0 (cv cu e2 b2 t2 pm ty rs V) w1 = wf at *
 obtain ⟨z0, z1, z2, z3, z4, z5, z6, z7⟩ := hf.out.cap (g := W.heap.size + 1) (List.mem_cons_self ..)
 exact bodyPost_ret (v := .agg #[.int .u32 cu, .int .u8 e2, .int .u16 b2, .int .u16 t2, .int .u16 pm, .int .u16 ty, .int .u32 rs, .bool V]) (by simp [results, Tryz.results103, go_sem, z0, z1, z2, z3, z4, z5, z6, z7]) rfl ⟨rfl, hf.out.bl⟩
theorem rOver_any (cu e b t pm ty rs : Nat) (va : Bool) (perm : Nat) (l0 : cu < 4294967296) (l1 : e < 256) (l2 : b < 65536) (l3 : t < 65536) (l4 : pm < 65536) (l5 : ty < 65536) (l6 : rs < 4294967296) (lp : perm < 65536) (W : World) : Calls Tryz.prog 159 #[.agg #[.int .u32 cu, .int .u8 e, .int .u16 b, .int .u16 t, .int .u16 pm, .int .u16 ty, .int .u32 rs, .bool va], .int .u16 perm] W fun ee w' => ee = .returned (.bool (va && decide (ty = 0) && auP e b t cu pm cu perm)) ∧ Below W.heap.size W w' := by
 have hk := hid ((KR.start (W := W)).push (cv cu e b t pm ty rs va) 25)
 have hD := hid (fun w => rRange_any cu e b t pm ty rs va w l0)
 have hF := hid (fun w => rFree_any cu e b t pm ty rs va w)
 have hbd := de_bounds e b t cu
 have hand := u16_and_nat pm perm l4 lp
 have hV : (va && decide (ty = 0) && auP e b t cu pm cu perm) = (va && decide (ty = 0) && (decide (1 ≤ cu ∧ cu ≤ 4095 ∧ cu = cu ∧ ¬ pm &&& perm = 0) && decide (deB e b t cu ≤ (cu : Int) ∧ (cu : Int) + (1 : Nat) ≤ deT e b t cu))) := rfl
 generalize (va && decide (ty = 0) && auP e b t cu pm cu perm) = V at *
 generalize (va && decide (ty = 0)) = q at *
 generalize deB e b t cu = x at *
 generalize deT e b t cu = y at *
 generalize pm &&& perm = k at *
 have hw1 : IntKind.u64.wrap (cu : Int) = cu := IntWalk.u64_in _ (by omega)
 obtain ⟨b1, b2, b3, b4⟩ := hbd
 replace hV := hid hV
 cases q
 · go_enter Tryz.func159, Tryz.ntmps159
   go_wp2_with fail
   refine (hD.out _).mono ?_
   rintro ee w1 ⟨rfl, h1⟩
   have hk1 := hk.out.below h1
   clear h1 hk hD
   obtain ⟨p0, p1, p2, p3, p4, p5, p6, p7⟩ : CapAt w1 W.heap.size cu e b t pm ty rs va := hk1.cap (by simp)
   replace hk1 := hid hk1
   go_wp2_with fail
   refine (hF.out _).mono ?_
   rintro ee w2 ⟨rfl, h1⟩
   have hk2 := hid (hk1.out.below h1)
   clear h1 hk1 hF p0 p1 p2 p3 p4 p5 p6 p7
   go_wp2_with fail
   go_ret
   exact ⟨ret_bool (by rw [hV.out]; rfl), hk2.out.bl⟩
 · go_enter Tryz.func159, Tryz.ntmps159
   go_wp2_with fail
   refine (hD.out _).mono ?_
   rintro ee w1 ⟨rfl, h1⟩
   have hk1 := hk.out.below h1
   clear h1 hk hD
   obtain ⟨p0, p1, p2, p3, p4, p5, p6, p7⟩ : CapAt w1 W.heap.size cu e b t pm ty rs va := hk1.cap (by simp)
   replace hk1 := hid hk1
   go_wp2_with fail
   refine (hF.out _).mono ?_
   rintro ee w2 ⟨rfl, h1⟩
   have hk2 := hk1.out.below h1
   clear h1 hk1 hF p0 p1 p2 p3 p4 p5 p6 p7
   obtain ⟨p0, p1, p2, p3, p4, p5, p6, p7⟩ : CapAt w2 W.heap.size cu e b t pm ty rs va := hk2.cap (by simp)
   replace hk2 := hid hk2
   go_wp2_with fail
   all_goals go_ret
   all_goals refine ⟨ret_bool ?_, hk2.out.bl⟩
   all_goals rw [hV.out, Bool.eq_iff_iff]
   all_goals simp
   all_goals omega
end Go.Proofs.YtkmgdfcambdeeaaGreatDoor
