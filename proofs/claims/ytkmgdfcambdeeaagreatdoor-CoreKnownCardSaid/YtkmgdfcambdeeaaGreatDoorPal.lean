/- Contracts of derive's mark, Clear and the methods that change a draft. No statement is proved here.; Contracts of derive's change, bound and of the questions that it asks. No statement is proved here. -/
import Derived.Laws.BitsAllLaws
import Derived.IntWalk
import Derived.Test.YtkmgdfcambdeeaaGreatDoorPak
namespace Go.Proofs.YtkmgdfcambdeeaaGreatDoor
open Go.RowKit
set_option linter.unusedVariables false

theorem pMark_any (cu e b t pm ty rs : Nat) (va : Bool) (q : Value) (bq : Bool) (W : World) (hq : Ques W q bq) :
    Calls Tryz.prog 133 #[.agg #[.int .u32 cu, .int .u8 e, .int .u16 b, .int .u16 t, .int .u16 pm, .int .u16 ty, .int .u32 rs, .bool va], q] W fun ee w' => ee = .returned (.agg #[.int .u32 cu, .int .u8 e, .int .u16 b, .int .u16 t, .int .u16 pm, .int .u16 ty, .int .u32 rs, .bool bq]) ∧ Below W.heap.size W w' := by
  have hk : KR W [⟨W.heap.size + 1, cv 0 0 0 0 0 0 0 false⟩, ⟨W.heap.size, cv cu e b t pm ty rs va⟩] ((W.alloc (.cells #[.int .u32 cu, .int .u8 e, .int .u16 b, .int .u16 t, .int .u16 pm, .int .u16 ty, .int .u32 rs, .bool va] 25)).alloc (.cells #[.int .u32 0, .int .u8 0, .int .u16 0, .int .u16 0, .int .u16 0, .int .u16 0, .int .u32 0, .bool false] 25)) := by
    have := ((KR.start (W := W)).push (cv cu e b t pm ty rs va) 25).push (cv 0 0 0 0 0 0 0 false) 25
    rwa [World.size_alloc] at this
  obtain ⟨f, caps, rfl, hcf, c⟩ := hq
  have c2 := Lib.hid (c _ hk.bl)
  replace hk := Lib.hid hk
  clear c
  go_enter Tryz.func133, Tryz.ntmps133
  go_wp2_with fail
  refine c2.out.mono ?_
  rintro ee w1 ⟨rfl, h1⟩
  have hk1 := hk.out.below h1
  clear h1 hk c2
  have p : CapAt w1 W.heap.size cu e b t pm ty rs va := hk1.cap (by simp)
  have r : CapAt w1 (W.heap.size + 1) 0 0 0 0 0 0 0 false := hk1.cap (by simp)
  have fp := hk1.soft (g := W.heap.size) (vs := cv cu e b t pm ty rs va) (by simp)
  have fr := hk1.soft (g := W.heap.size + 1) (vs := cv 0 0 0 0 0 0 0 false) (by simp)
  obtain ⟨p0, p1, p2, p3, p4, p5, p6, p7⟩ := p
  obtain ⟨r0, r1, r2, r3, r4, r5, r6, r7⟩ := r
  have hk2 := ((hk1.swap.set (by simp) (by simp) 7 (.bool bq) (by simp [cv])).swap.whole (cv cu e b t pm ty rs bq) (by simp) (by simp) rfl)
  replace hk2 := Lib.hid hk2
  clear hk1
  go_wp2_with fail
  change bodyPost _ _ _ _ _ (setRow (W.heap.size + 1) 0 (cv cu e b t pm ty rs bq) (w1.setCell ⟨W.heap.size, 7, none⟩ (.bool bq)))
  clear p0 p1 p2 p3 p4 p5 p6 p7 r0 r1 r2 r3 r4 r5 r6 r7 fp fr hcf
  generalize setRow (W.heap.size + 1) 0 (cv cu e b t pm ty rs bq) (w1.setCell ⟨W.heap.size, 7, none⟩ (.bool bq)) = w3 at *
  obtain ⟨z0, z1, z2, z3, z4, z5, z6, z7⟩ := hk2.out.cap (g := W.heap.size + 1) (List.mem_cons_self ..)
  exact bodyPost_ret (v := .agg #[.int .u32 cu, .int .u8 e, .int .u16 b, .int .u16 t, .int .u16 pm, .int .u16 ty, .int .u32 rs, .bool bq]) (by simp [results, Tryz.results133, go_sem, z0, z1, z2, z3, z4, z5, z6, z7]) rfl ⟨rfl, hk2.out.bl⟩


/-- Frees the end of a call that hands back a capability out of its own box. -/
theorem pClear1_any (w : World) : Calls Tryz.prog 134 #[] w (BPost w false) := by
  go_enter Tryz.func134, Tryz.ntmps134
  go_wp2
  go_ret
  exact ⟨rfl, Below.refl _ _⟩
theorem qClear (w : World) : Ques w (.func (.func 134) #[] #[]) false := ⟨_, _, rfl, fun w' => by kernel_rfl, fun w' k => pClear1_any w'⟩

theorem twoBoxes (W : World) (cu e b t pm ty rs : Nat) (va : Bool) (ty1 : TypeId) (cu' e' b' t' pm' ty' rs' : Nat) (va' : Bool) (ty2 : TypeId) : KR W [⟨W.heap.size + 1, cv cu' e' b' t' pm' ty' rs' va'⟩, ⟨W.heap.size, cv cu e b t pm ty rs va⟩] ((W.alloc (.cells #[.int .u32 cu, .int .u8 e, .int .u16 b, .int .u16 t, .int .u16 pm, .int .u16 ty, .int .u32 rs, .bool va] ty1)).alloc (.cells #[.int .u32 cu', .int .u8 e', .int .u16 b', .int .u16 t', .int .u16 pm', .int .u16 ty', .int .u32 rs', .bool va'] ty2)) := by
  have := ((KR.start (W := W)).push (cv cu e b t pm ty rs va) ty1).push (cv cu' e' b' t' pm' ty' rs' va') ty2
  rwa [World.size_alloc] at this

theorem pClear_any (cu e b t pm ty rs : Nat) (va : Bool) (W : World) : Calls Tryz.prog 88 #[.agg #[.int .u32 cu, .int .u8 e, .int .u16 b, .int .u16 t, .int .u16 pm, .int .u16 ty, .int .u32 rs, .bool va]] W fun ee w' => ee = .returned (.agg #[.int .u32 cu, .int .u8 e, .int .u16 b, .int .u16 t, .int .u16 pm, .int .u16 ty, .int .u32 rs, .bool false]) ∧ Below W.heap.size W w' := by
  have hk := Lib.hid (twoBoxes W cu e b t pm ty rs va 25 0 0 0 0 0 0 0 false 25)
  have hM := Lib.hid (fun w => pMark_any cu e b t pm ty rs va _ _ w (qClear w))
  go_enter Tryz.func88, Tryz.ntmps88
  go_wp2_with fail
  refine (hM.out _).mono ?_
  rintro ee w1 ⟨rfl, h1⟩
  have hk1 := hk.out.below h1
  clear h1 hk hM
  have r : CapAt w1 (W.heap.size + 1) 0 0 0 0 0 0 0 false := hk1.cap (by simp)
  have fr := hk1.soft (g := W.heap.size + 1) (vs := cv 0 0 0 0 0 0 0 false) (by simp)
  obtain ⟨r0, r1, r2, r3, r4, r5, r6, r7⟩ := r
  have hk2 := Lib.hid (hk1.whole (cv cu e b t pm ty rs false) (by simp) (by simp) rfl)
  clear hk1
  go_wp2_with fail
  change bodyPost _ _ _ _ _ (setRow (W.heap.size + 1) 0 (cv cu e b t pm ty rs false) w1)
  clear r0 r1 r2 r3 r4 r5 r6 r7 fr
  generalize setRow (W.heap.size + 1) 0 (cv cu e b t pm ty rs false) w1 = w3 at *
  obtain ⟨z0, z1, z2, z3, z4, z5, z6, z7⟩ := hk2.out.cap (g := W.heap.size + 1) (List.mem_cons_self ..)
  exact bodyPost_ret (v := .agg #[.int .u32 cu, .int .u8 e, .int .u16 b, .int .u16 t, .int .u16 pm, .int .u16 ty, .int .u32 rs, .bool false]) (by simp [results, Tryz.results88, go_sem, z0, z1, z2, z3, z4, z5, z6, z7]) rfl ⟨rfl, hk2.out.bl⟩

theorem pmove_any (cu e b t pm ty rs : Nat) (va : Bool) (v : Nat)  (W : World) : Calls Tryz.prog 140 #[.agg #[.int .u32 cu, .int .u8 e, .int .u16 b, .int .u16 t, .int .u16 pm, .int .u16 ty, .int .u32 rs, .bool va], .int .u32 v] W fun ee w' => ee = .returned (.agg #[.int .u32 v, .int .u8 e, .int .u16 b, .int .u16 t, .int .u16 pm, .int .u16 ty, .int .u32 rs, .bool va]) ∧ Below W.heap.size W w' := by
  go_enter Tryz.func140, Tryz.ntmps140
  go_wp2_with fail
  exact bodyPost_ret (v := .agg #[.int .u32 v, .int .u8 e, .int .u16 b, .int .u16 t, .int .u16 pm, .int .u16 ty, .int .u32 rs, .bool va]) (by simp [results, Tryz.results140, go_sem]) rfl ⟨rfl, by go_grown⟩

theorem pkind_any (cu e b t pm ty rs : Nat) (va : Bool) (v : Nat)  (W : World) : Calls Tryz.prog 215 #[.agg #[.int .u32 cu, .int .u8 e, .int .u16 b, .int .u16 t, .int .u16 pm, .int .u16 ty, .int .u32 rs, .bool va], .int .u32 v] W fun ee w' => ee = .returned (.agg #[.int .u32 cu, .int .u8 e, .int .u16 b, .int .u16 t, .int .u16 pm, .int .u16 (v % 65536 : Nat), .int .u32 rs, .bool va]) ∧ Below W.heap.size W w' := by
  have hwr : IntKind.u16.wrap (v : Int) = ((v % 65536 : Nat) : Int) := by rw [IntKind.wrap_u16]; omega
  generalize v % 65536 = k at *
  go_enter Tryz.func215, Tryz.ntmps215
  go_wp2_with fail
  exact bodyPost_ret (v := .agg #[.int .u32 cu, .int .u8 e, .int .u16 b, .int .u16 t, .int .u16 pm, .int .u16 k, .int .u32 rs, .bool va]) (by simp [results, Tryz.results215, go_sem]) rfl ⟨rfl, by go_grown⟩

theorem pmask_any (cu e b t pm ty rs : Nat) (va : Bool) (v : Nat) (l4 : pm < 65536) (W : World) : Calls Tryz.prog 194 #[.agg #[.int .u32 cu, .int .u8 e, .int .u16 b, .int .u16 t, .int .u16 pm, .int .u16 ty, .int .u32 rs, .bool va], .int .u32 v] W fun ee w' => ee = .returned (.agg #[.int .u32 cu, .int .u8 e, .int .u16 b, .int .u16 t, .int .u16 (pm &&& (v % 65536) : Nat), .int .u16 ty, .int .u32 rs, .bool va]) ∧ Below W.heap.size W w' := by
  have hand := u16_and_nat pm (v % 65536) l4 (by omega)
  have hwr : IntKind.u16.wrap (v : Int) = ((v % 65536 : Nat) : Int) := by rw [IntKind.wrap_u16]; omega
  generalize v % 65536 = k at *
  generalize pm &&& k = j at *
  go_enter Tryz.func194, Tryz.ntmps194
  go_wp2_with fail
  exact bodyPost_ret (v := .agg #[.int .u32 cu, .int .u8 e, .int .u16 b, .int .u16 t, .int .u16 j, .int .u16 ty, .int .u32 rs, .bool va]) (by simp [results, Tryz.results194, go_sem]) rfl ⟨rfl, by go_grown⟩

theorem pspan_any (cu e b t pm ty rs : Nat) (va : Bool) (sz : Nat) (l0 : cu < 4294967296) (l1 : e < 256) (l2 : b < 65536) (l3 : t < 65536) (l4 : pm < 65536) (l5 : ty < 65536) (l6 : rs < 4294967296) (lz : sz < 4294967296) (W : World) : Calls Tryz.prog 211 #[.agg #[.int .u32 cu, .int .u8 e, .int .u16 b, .int .u16 t, .int .u16 pm, .int .u16 ty, .int .u32 rs, .bool va], .int .u32 sz] W fun ee w' => ee = .returned (.tuple #[.int .u32 cu, .int .u64 ((cu + sz : Nat) : Int)]) ∧ Below W.heap.size W w' := by
  have hk := Lib.hid ((KR.start (W := W)).push (cv cu e b t pm ty rs va) 25)
  have hw : IntKind.u64.wrap ((cu : Int) + sz) = ((cu + sz : Nat) : Int) := by rw [IntWalk.u64_in _ (by omega)]; omega
  have hw1 : IntKind.u64.wrap (cu : Int) = cu := IntWalk.u64_in _ (by omega)
  have hw2 : IntKind.u64.wrap (sz : Int) = sz := IntWalk.u64_in _ (by omega)
  go_enter Tryz.func211, Tryz.ntmps211
  go_wp2_with fail
  have q0 := hk.out.cap (g := W.heap.size) (List.mem_cons_self ..) |>.q0
  have hb := hk.out.bl
  clear hk
  change (W.alloc (.cells #[.int .u32 cu, .int .u8 e, .int .u16 b, .int .u16 t, .int .u16 pm, .int .u16 ty, .int .u32 rs, .bool va] 25)).cell? _ = _ at q0
  change Below _ _ (W.alloc (.cells #[.int .u32 cu, .int .u8 e, .int .u16 b, .int .u16 t, .int .u16 pm, .int .u16 ty, .int .u32 rs, .bool va] 25)) at hb
  generalize (W.alloc (.cells #[.int .u32 cu, .int .u8 e, .int .u16 b, .int .u16 t, .int .u16 pm, .int .u16 ty, .int .u32 rs, .bool va] 25)) = w1 at *
  replace hb := Lib.hid hb
  go_quiet (fail)
  go_wp2_with fail
  go_ret2
  exact ⟨rfl, below_drewN hb.out _⟩
end Go.Proofs.YtkmgdfcambdeeaaGreatDoor
namespace Go.Proofs.YtkmgdfcambdeeaaGreatDoor
open Go.RowKit
set_option linter.unusedVariables false

/-- A method expression that turns one capability into another one. -/
structure Meth (f : FuncId) (v : Nat) (A B : Value) : Prop where
  cf : ∀ args w, (callFunc f args).run Tryz.prog w = .ok (.enter f args) w
  run : ∀ w, Calls Tryz.prog f #[A, .int .u32 v] w fun ee w' => ee = .returned B ∧ Below w.heap.size w w'

theorem pchange_any (f : FuncId) (v : Nat) (cu e b t pm ty rs : Nat) (va : Bool) (cu' e' b' t' pm' ty' rs' : Nat) (va' : Bool) (h : Meth f v (.agg #[.int .u32 cu, .int .u8 e, .int .u16 b, .int .u16 t, .int .u16 pm, .int .u16 ty, .int .u32 rs, .bool va]) (.agg #[.int .u32 cu', .int .u8 e', .int .u16 b', .int .u16 t', .int .u16 pm', .int .u16 ty', .int .u32 rs', .bool va'])) (W : World) :
    Calls Tryz.prog 139 #[.agg #[.int .u32 cu, .int .u8 e, .int .u16 b, .int .u16 t, .int .u16 pm, .int .u16 ty, .int .u32 rs, .bool va], .func (.func f) #[] #[], .int .u32 v] W fun ee w' => ee = .returned (.agg #[.int .u32 cu', .int .u8 e', .int .u16 b', .int .u16 t', .int .u16 pm', .int .u16 ty', .int .u32 rs', .bool va']) ∧ Below W.heap.size W w' := by
  have hk := Lib.hid (twoBoxes W cu e b t pm ty rs va 25 0 0 0 0 0 0 0 false 25)
  have hfld : ∀ w, (Instr.field 190 (.agg #[.int .u32 cu', .int .u8 e', .int .u16 b', .int .u16 t', .int .u16 pm', .int .u16 ty', .int .u32 rs', .bool va']) 0).run Tryz.prog w = .ok (.agg #[.int .u32 cu', .int .u8 e', .int .u16 b', .int .u16 t', .int .u16 pm', .int .u16 ty', .int .u32 rs', .bool va']) w := fun w => by kernel_rfl
  obtain ⟨cf, run⟩ := h
  replace run := Lib.hid run
  go_enter Tryz.func139, Tryz.ntmps139
  go_wp2_with fail
  refine (run.out _).mono ?_
  rintro ee w1 ⟨rfl, h1⟩
  have hk1 := hk.out.below h1
  clear h1 hk run cf
  have r : CapAt w1 (W.heap.size + 1) 0 0 0 0 0 0 0 false := hk1.cap (by simp)
  have fr := hk1.soft (g := W.heap.size + 1) (vs := cv 0 0 0 0 0 0 0 false) (by simp)
  obtain ⟨r0, r1, r2, r3, r4, r5, r6, r7⟩ := r
  have hk2 := Lib.hid (hk1.whole (cv cu' e' b' t' pm' ty' rs' va') (by simp) (by simp) rfl)
  clear hk1
  go_wp2_with fail
  change bodyPost _ _ _ _ _ (setRow (W.heap.size + 1) 0 (cv cu' e' b' t' pm' ty' rs' va') w1)
  clear r0 r1 r2 r3 r4 r5 r6 r7 fr
  generalize setRow (W.heap.size + 1) 0 (cv cu' e' b' t' pm' ty' rs' va') w1 = w3 at *
  obtain ⟨z0, z1, z2, z3, z4, z5, z6, z7⟩ := hk2.out.cap (g := W.heap.size + 1) (List.mem_cons_self ..)
  exact bodyPost_ret (v := .agg #[.int .u32 cu', .int .u8 e', .int .u16 b', .int .u16 t', .int .u16 pm', .int .u16 ty', .int .u32 rs', .bool va']) (by simp [results, Tryz.results139, go_sem, z0, z1, z2, z3, z4, z5, z6, z7]) rfl ⟨rfl, hk2.out.bl⟩

theorem mMove (cu e b t pm ty rs : Nat) (va : Bool) (v : Nat) : Meth 140 v (.agg #[.int .u32 cu, .int .u8 e, .int .u16 b, .int .u16 t, .int .u16 pm, .int .u16 ty, .int .u32 rs, .bool va]) (.agg #[.int .u32 v, .int .u8 e, .int .u16 b, .int .u16 t, .int .u16 pm, .int .u16 ty, .int .u32 rs, .bool va]) := ⟨fun args w => by kernel_rfl, fun w => pmove_any cu e b t pm ty rs va v w⟩
theorem mKind (cu e b t pm ty rs : Nat) (va : Bool) (v : Nat) : Meth 215 v (.agg #[.int .u32 cu, .int .u8 e, .int .u16 b, .int .u16 t, .int .u16 pm, .int .u16 ty, .int .u32 rs, .bool va]) (.agg #[.int .u32 cu, .int .u8 e, .int .u16 b, .int .u16 t, .int .u16 pm, .int .u16 (v % 65536 : Nat), .int .u32 rs, .bool va]) := ⟨fun args w => by kernel_rfl, fun w => pkind_any cu e b t pm ty rs va v w⟩
theorem mMask (cu e b t pm ty rs : Nat) (va : Bool) (v : Nat) (l4 : pm < 65536) : Meth 194 v (.agg #[.int .u32 cu, .int .u8 e, .int .u16 b, .int .u16 t, .int .u16 pm, .int .u16 ty, .int .u32 rs, .bool va]) (.agg #[.int .u32 cu, .int .u8 e, .int .u16 b, .int .u16 t, .int .u16 (pm &&& (v % 65536) : Nat), .int .u16 ty, .int .u32 rs, .bool va]) := ⟨fun args w => by kernel_rfl, fun w => pmask_any cu e b t pm ty rs va v l4 w⟩

/-- What new bounds make of E, B and T. -/
def bdE (e cu v : Nat) : Nat := if may cu (cu + v) then enE cu (cu + v) else e
def bdB (b cu v : Nat) : Nat := if may cu (cu + v) then enB cu (cu + v) else b
def bdT (t cu v : Nat) : Nat := if may cu (cu + v) then enT cu (cu + v) else t
theorem pbound_any (cu e b t pm ty rs : Nat) (va : Bool) (v : Nat) (l0 : cu < 4294967296) (l1 : e < 256) (l2 : b < 65536) (l3 : t < 65536) (l4 : pm < 65536) (l5 : ty < 65536) (l6 : rs < 4294967296) (lv : v < 4294967296) (W : World) : Calls Tryz.prog 191 #[.agg #[.int .u32 cu, .int .u8 e, .int .u16 b, .int .u16 t, .int .u16 pm, .int .u16 ty, .int .u32 rs, .bool va], .int .u32 v] W fun ee w' => ee = .returned (.agg #[.int .u32 cu, .int .u8 (bdE e cu v), .int .u16 (bdB b cu v), .int .u16 (bdT t cu v), .int .u16 pm, .int .u16 ty, .int .u32 rs, .bool va]) ∧ Below W.heap.size W w' := by
  have hk := Lib.hid (twoBoxes W cu e b t pm ty rs va 190 0 0 0 0 0 0 0 false 190)
  have hS := Lib.hid (fun w => pspan_any cu e b t pm ty rs va v l0 l1 l2 l3 l4 l5 l6 lv w)
  have hE := Lib.hid (fun w => Encode_any cu (cu + v) w l0 (by omega))
  have e1 : bdE e cu v = if may cu (cu + v) then enE cu (cu + v) else e := rfl
  have e2 : bdB b cu v = if may cu (cu + v) then enB cu (cu + v) else b := rfl
  have e3 : bdT t cu v = if may cu (cu + v) then enT cu (cu + v) else t := rfl
  generalize bdE e cu v = x' at *
  generalize bdB b cu v = y' at *
  generalize bdT t cu v = z' at *
  generalize enE cu (cu + v) = x at *
  generalize enB cu (cu + v) = y at *
  generalize enT cu (cu + v) = z at *
  generalize enX cu (cu + v) = ex at *
  cases hm : may cu (cu + v)
  · rw [hm] at e1 e2 e3 hE
    simp only [Bool.false_eq_true, if_false] at e1 e2 e3
    rw [e1, e2, e3]
    clear e1 e2 e3 hm
    generalize ((cu + v : Nat) : Int) = n at *
    go_enter Tryz.func191, Tryz.ntmps191
    go_wp2_with fail
    refine (hS.out _).mono ?_
    rintro ee w1 ⟨rfl, h1⟩
    replace hk := Lib.hid (hk.out.below h1)
    clear h1 hS
    go_wp2_with fail
    refine (hE.out _).mono ?_
    rintro ee w1 ⟨rfl, h1⟩
    have hk1 := hk.out.below h1
    clear h1 hk hE
    have p : CapAt w1 W.heap.size cu e b t pm ty rs va := hk1.cap (by simp)
    have r : CapAt w1 (W.heap.size + 1) 0 0 0 0 0 0 0 false := hk1.cap (by simp)
    have fr := hk1.soft (g := W.heap.size + 1) (vs := cv 0 0 0 0 0 0 0 false) (by simp)
    obtain ⟨p0, p1, p2, p3, p4, p5, p6, p7⟩ := p
    obtain ⟨r0, r1, r2, r3, r4, r5, r6, r7⟩ := r
    have hk2 := Lib.hid (hk1.whole (cv cu e b t pm ty rs va) (by simp) (by simp) rfl)
    clear hk1
    go_wp2_with fail
    change bodyPost _ _ _ _ _ (setRow (W.heap.size + 1) 0 (cv cu e b t pm ty rs va) w1)
    clear r0 r1 r2 r3 r4 r5 r6 r7 fr p0 p1 p2 p3 p4 p5 p6 p7
    generalize setRow (W.heap.size + 1) 0 (cv cu e b t pm ty rs va) w1 = w3 at *
    obtain ⟨z0, z1, z2, z3, z4, z5, z6, z7⟩ := hk2.out.cap (g := W.heap.size + 1) (List.mem_cons_self ..)
    exact bodyPost_ret (v := .agg #[.int .u32 cu, .int .u8 e, .int .u16 b, .int .u16 t, .int .u16 pm, .int .u16 ty, .int .u32 rs, .bool va]) (by simp [results, Tryz.results191, go_sem, z0, z1, z2, z3, z4, z5, z6, z7]) rfl ⟨rfl, hk2.out.bl⟩
  · rw [hm] at e1 e2 e3 hE
    simp only [if_true] at e1 e2 e3
    subst e1 e2 e3
    clear hm
    generalize ((cu + v : Nat) : Int) = n at *
    go_enter Tryz.func191, Tryz.ntmps191
    go_wp2_with fail
    refine (hS.out _).mono ?_
    rintro ee w1 ⟨rfl, h1⟩
    replace hk := Lib.hid (hk.out.below h1)
    clear h1 hS
    go_wp2_with fail
    refine (hE.out _).mono ?_
    rintro ee w1 ⟨rfl, h1⟩
    have hk1 := hk.out.below h1
    clear h1 hk hE
    have p : CapAt w1 W.heap.size cu e b t pm ty rs va := hk1.cap (by simp)
    have r : CapAt w1 (W.heap.size + 1) 0 0 0 0 0 0 0 false := hk1.cap (by simp)
    have fp := hk1.soft (g := W.heap.size) (vs := cv cu e b t pm ty rs va) (by simp)
    have fr := hk1.soft (g := W.heap.size + 1) (vs := cv 0 0 0 0 0 0 0 false) (by simp)
    obtain ⟨p0, p1, p2, p3, p4, p5, p6, p7⟩ := p
    obtain ⟨r0, r1, r2, r3, r4, r5, r6, r7⟩ := r
    have hk2 := Lib.hid (((((hk1.swap.set (by simp) (by simp) 1 (.int .u8 x') (by simp [cv])).set (by simp) (by simp) 2 (.int .u16 y') (by simp [cv])).set (by simp) (by simp) 3 (.int .u16 z') (by simp [cv])).swap.whole (cv cu x' y' z' pm ty rs va) (by simp) (by simp) rfl))
    clear hk1
    go_wp2_with fail
    change bodyPost _ _ _ _ _ (setRow (W.heap.size + 1) 0 (cv cu x' y' z' pm ty rs va) (((w1.setCell ⟨W.heap.size, 1, none⟩ (.int .u8 x')).setCell ⟨W.heap.size, 2, none⟩ (.int .u16 y')).setCell ⟨W.heap.size, 3, none⟩ (.int .u16 z')))
    clear r0 r1 r2 r3 r4 r5 r6 r7 fr p0 p1 p2 p3 p4 p5 p6 p7 fp
    generalize setRow (W.heap.size + 1) 0 (cv cu x' y' z' pm ty rs va) (((w1.setCell ⟨W.heap.size, 1, none⟩ (.int .u8 x')).setCell ⟨W.heap.size, 2, none⟩ (.int .u16 y')).setCell ⟨W.heap.size, 3, none⟩ (.int .u16 z')) = w3 at *
    obtain ⟨z0, z1, z2, z3, z4, z5, z6, z7⟩ := hk2.out.cap (g := W.heap.size + 1) (List.mem_cons_self ..)
    exact bodyPost_ret (v := .agg #[.int .u32 cu, .int .u8 x', .int .u16 y', .int .u16 z', .int .u16 pm, .int .u16 ty, .int .u32 rs, .bool va]) (by simp [results, Tryz.results191, go_sem, z0, z1, z2, z3, z4, z5, z6, z7]) rfl ⟨rfl, hk2.out.bl⟩
theorem mBound (cu e b t pm ty rs : Nat) (va : Bool) (v : Nat) (l0 : cu < 4294967296) (l1 : e < 256) (l2 : b < 65536) (l3 : t < 65536) (l4 : pm < 65536) (l5 : ty < 65536) (l6 : rs < 4294967296) (lv : v < 4294967296) : Meth 191 v (.agg #[.int .u32 cu, .int .u8 e, .int .u16 b, .int .u16 t, .int .u16 pm, .int .u16 ty, .int .u32 rs, .bool va]) (.agg #[.int .u32 cu, .int .u8 (bdE e cu v), .int .u16 (bdB b cu v), .int .u16 (bdT t cu v), .int .u16 pm, .int .u16 ty, .int .u32 rs, .bool va]) := ⟨fun args w => by kernel_rfl, fun w => pbound_any cu e b t pm ty rs va v l0 l1 l2 l3 l4 l5 l6 lv w⟩

/-- Do the new bounds lie within the old ones? -/
def hdP (e b t cu sz : Nat) : Bool := may cu (cu + sz) && decide (deB e b t cu ≤ (rdB cu (cu + sz) : Int) ∧ (rdT cu (cu + sz) : Int) ≤ deT e b t cu)
theorem pHolds1_any (bx bv : Nat) (cu e b t pm ty rs : Nat) (va : Bool) (sz : Nat) (l0 : cu < 4294967296) (l1 : e < 256) (l2 : b < 65536) (l3 : t < 65536) (l4 : pm < 65536) (l5 : ty < 65536) (l6 : rs < 4294967296) (lz : sz < 4294967296) (w : World) (H : CapAt w bx cu e b t pm ty rs va) (hv : w.cell? ⟨bv, 0, none⟩ = some (.int .u32 sz)) (hx : bx < w.heap.size) :
    Calls Tryz.prog 212 #[.pointer (some ⟨bx, 0, none⟩), .pointer (some ⟨bv, 0, none⟩)] w (BPost w (hdP e b t cu sz)) := by
  have hS := Lib.hid (fun w => pspan_any cu e b t pm ty rs va sz l0 l1 l2 l3 l4 l5 l6 lz w)
  have hR := Lib.hid (fun w => Round_any cu (cu + sz) w l0 (by omega))
  have hD := Lib.hid (fun w => pRange_any cu e b t pm ty rs va l0 l1 l2 l3 l4 l5 l6 w)
  have hbd := de_bounds e b t cu
  have hP : hdP e b t cu sz = (may cu (cu + sz) && decide (deB e b t cu ≤ (rdB cu (cu + sz) : Int) ∧ (rdT cu (cu + sz) : Int) ≤ deT e b t cu)) := rfl
  generalize hdP e b t cu sz = P at *
  generalize deB e b t cu = x at *
  generalize deT e b t cu = y at *
  generalize may cu (cu + sz) = mm at *
  generalize rdB cu (cu + sz) = lo at *
  generalize rdT cu (cu + sz) = hi at *
  generalize ((cu + sz : Nat) : Int) = n at *
  obtain ⟨b1, b2, b3, b4⟩ := hbd
  have H0 := Lib.hid H
  replace hP := Lib.hid hP
  obtain ⟨q0, q1, q2, q3, q4, q5, q6, q7⟩ := H
  go_enter Tryz.func212, Tryz.ntmps212
  go_wp2_with fail
  refine (hS.out _).mono ?_
  rintro ee w1 ⟨rfl, h1⟩
  have H1 := Lib.hid (H0.out.below h1 hx)
  have hb1 := Lib.hid h1
  clear h1 hS q0 q1 q2 q3 q4 q5 q6 q7 hv H0
  go_wp2_with fail
  refine (hR.out _).mono ?_
  rintro ee w2 ⟨rfl, h1⟩
  have H2 := Lib.hid (H1.out.below h1 (Nat.lt_of_lt_of_le hx hb1.out.size))
  have hb2 := Lib.hid (hb1.out.trans (h1.mono hb1.out.size))
  clear h1 hR H1 hb1
  obtain ⟨q0, q1, q2, q3, q4, q5, q6, q7⟩ := id H2.out
  go_wp2_with fail
  refine (hD.out _).mono ?_
  rintro ee w3 ⟨rfl, h1⟩
  have hb3 := Lib.hid (hb2.out.trans (h1.mono hb2.out.size))
  clear h1 hD H2 hb2 q0 q1 q2 q3 q4 q5 q6 q7
  cases mm
  · go_wp2_with fail
    go_ret
    exact ⟨ret_bool (by rw [hP.out]; rfl), hb3.out⟩
  · go_wp2_with fail
    all_goals go_ret
    all_goals refine ⟨ret_bool ?_, hb3.out⟩
    all_goals rw [hP.out, Bool.eq_iff_iff]
    all_goals simp
    all_goals omega
end Go.Proofs.YtkmgdfcambdeeaaGreatDoor
