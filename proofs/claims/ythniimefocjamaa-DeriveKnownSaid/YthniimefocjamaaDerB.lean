/- Contracts of derive's mark, Clear and the methods that change a draft. No statement is proved here. -/
import Derived.Test.YthniimefocjamaaDerA
import Derived.Test.YthniimefocjamaaRow
import Derived.Laws.BitsAllLaws
import Derived.IntWalk
namespace Go.Proofs.Ythniimefocjamaa
open Go.RowKit
set_option linter.unusedVariables false

theorem pMark_any (cu e b t pm ty rs : Nat) (va : Bool) (q : Value) (bq : Bool) (W : World) (hq : Ques W q bq) :
    Calls Try.prog 55 #[.agg #[.int .u32 cu, .int .u8 e, .int .u16 b, .int .u16 t, .int .u16 pm, .int .u16 ty, .int .u32 rs, .bool va], q] W fun ee w' => ee = .returned (.agg #[.int .u32 cu, .int .u8 e, .int .u16 b, .int .u16 t, .int .u16 pm, .int .u16 ty, .int .u32 rs, .bool bq]) ∧ Below W.heap.size W w' := by
  have hk : KR W [⟨W.heap.size + 1, cv 0 0 0 0 0 0 0 false⟩, ⟨W.heap.size, cv cu e b t pm ty rs va⟩] ((W.alloc (.cells #[.int .u32 cu, .int .u8 e, .int .u16 b, .int .u16 t, .int .u16 pm, .int .u16 ty, .int .u32 rs, .bool va] 25)).alloc (.cells #[.int .u32 0, .int .u8 0, .int .u16 0, .int .u16 0, .int .u16 0, .int .u16 0, .int .u32 0, .bool false] 25)) := by
    have := ((KR.start (W := W)).push (cv cu e b t pm ty rs va) 25).push (cv 0 0 0 0 0 0 0 false) 25
    rwa [World.size_alloc] at this
  obtain ⟨f, caps, rfl, hcf, c⟩ := hq
  have c2 := Lib.hid (c _ hk.bl)
  replace hk := Lib.hid hk
  clear c
  go_enter Try.func55, Try.ntmps55
  go_wp2_with fail
  refine c2.out.mono ?_
  rintro ee w1 ⟨rfl, h1⟩
  have hk1 := hk.out.below h1
  clear h1 hk c2
  have p : CapAt w1 W.heap.size cu e b t pm ty rs va := hk1.cap (by simp)
  have r : CapAt w1 (W.heap.size + 1) 0 0 0 0 0 0 0 false := hk1.cap (by simp)
  have fp := hk1.soft (g := W.heap.size) (vs := cv cu e b t pm ty rs va) (by simp)
  have fr := hk1.soft (g := W.heap.size + 1) (vs := cv 0 0 0 0 0 0 0 false) (by simp)
  obtain ⟨p0, p1, p2, p3, p4, p5, p6, p7⟩ := p
  obtain ⟨r0, r1, r2, r3, r4, r5, r6, r7⟩ := r
  have hk2 := ((hk1.swap.set (by simp) (by simp) 7 (.bool bq) (by simp [cv])).swap.whole (cv cu e b t pm ty rs bq) (by simp) (by simp) rfl)
  replace hk2 := Lib.hid hk2
  clear hk1
  go_wp2_with fail
  change bodyPost _ _ _ _ _ (setRow (W.heap.size + 1) 0 (cv cu e b t pm ty rs bq) (w1.setCell ⟨W.heap.size, 7, none⟩ (.bool bq)))
  clear p0 p1 p2 p3 p4 p5 p6 p7 r0 r1 r2 r3 r4 r5 r6 r7 fp fr hcf
  generalize setRow (W.heap.size + 1) 0 (cv cu e b t pm ty rs bq) (w1.setCell ⟨W.heap.size, 7, none⟩ (.bool bq)) = w3 at *
  obtain ⟨z0, z1, z2, z3, z4, z5, z6, z7⟩ := hk2.out.cap (g := W.heap.size + 1) (List.mem_cons_self ..)
  exact bodyPost_ret (v := .agg #[.int .u32 cu, .int .u8 e, .int .u16 b, .int .u16 t, .int .u16 pm, .int .u16 ty, .int .u32 rs, .bool bq]) (by simp [results, Try.results55, go_sem, z0, z1, z2, z3, z4, z5, z6, z7]) rfl ⟨rfl, hk2.out.bl⟩


/-- Frees the end of a call that hands back a capability out of its own box. -/
theorem pClear1_any (w : World) : Calls Try.prog 64 #[] w (BPost w false) := by
  go_enter Try.func64, Try.ntmps64
  go_wp2
  go_ret
  exact ⟨rfl, Below.refl _ _⟩
theorem qClear (w : World) : Ques w (.func (.func 64) #[] #[]) false := ⟨_, _, rfl, fun w' => by kernel_rfl, fun w' k => pClear1_any w'⟩

theorem twoBoxes (W : World) (cu e b t pm ty rs : Nat) (va : Bool) (ty1 : TypeId) (cu' e' b' t' pm' ty' rs' : Nat) (va' : Bool) (ty2 : TypeId) : KR W [⟨W.heap.size + 1, cv cu' e' b' t' pm' ty' rs' va'⟩, ⟨W.heap.size, cv cu e b t pm ty rs va⟩] ((W.alloc (.cells #[.int .u32 cu, .int .u8 e, .int .u16 b, .int .u16 t, .int .u16 pm, .int .u16 ty, .int .u32 rs, .bool va] ty1)).alloc (.cells #[.int .u32 cu', .int .u8 e', .int .u16 b', .int .u16 t', .int .u16 pm', .int .u16 ty', .int .u32 rs', .bool va'] ty2)) := by
  have := ((KR.start (W := W)).push (cv cu e b t pm ty rs va) ty1).push (cv cu' e' b' t' pm' ty' rs' va') ty2
  rwa [World.size_alloc] at this

theorem pClear_any (cu e b t pm ty rs : Nat) (va : Bool) (W : World) : Calls Try.prog 29 #[.agg #[.int .u32 cu, .int .u8 e, .int .u16 b, .int .u16 t, .int .u16 pm, .int .u16 ty, .int .u32 rs, .bool va]] W fun ee w' => ee = .returned (.agg #[.int .u32 cu, .int .u8 e, .int .u16 b, .int .u16 t, .int .u16 pm, .int .u16 ty, .int .u32 rs, .bool false]) ∧ Below W.heap.size W w' := by
  have hk := Lib.hid (twoBoxes W cu e b t pm ty rs va 25 0 0 0 0 0 0 0 false 25)
  have hM := Lib.hid (fun w => pMark_any cu e b t pm ty rs va _ _ w (qClear w))
  go_enter Try.func29, Try.ntmps29
  go_wp2_with fail
  refine (hM.out _).mono ?_
  rintro ee w1 ⟨rfl, h1⟩
  have hk1 := hk.out.below h1
  clear h1 hk hM
  have r : CapAt w1 (W.heap.size + 1) 0 0 0 0 0 0 0 false := hk1.cap (by simp)
  have fr := hk1.soft (g := W.heap.size + 1) (vs := cv 0 0 0 0 0 0 0 false) (by simp)
  obtain ⟨r0, r1, r2, r3, r4, r5, r6, r7⟩ := r
  have hk2 := Lib.hid (hk1.whole (cv cu e b t pm ty rs false) (by simp) (by simp) rfl)
  clear hk1
  go_wp2_with fail
  change bodyPost _ _ _ _ _ (setRow (W.heap.size + 1) 0 (cv cu e b t pm ty rs false) w1)
  clear r0 r1 r2 r3 r4 r5 r6 r7 fr
  generalize setRow (W.heap.size + 1) 0 (cv cu e b t pm ty rs false) w1 = w3 at *
  obtain ⟨z0, z1, z2, z3, z4, z5, z6, z7⟩ := hk2.out.cap (g := W.heap.size + 1) (List.mem_cons_self ..)
  exact bodyPost_ret (v := .agg #[.int .u32 cu, .int .u8 e, .int .u16 b, .int .u16 t, .int .u16 pm, .int .u16 ty, .int .u32 rs, .bool false]) (by simp [results, Try.results29, go_sem, z0, z1, z2, z3, z4, z5, z6, z7]) rfl ⟨rfl, hk2.out.bl⟩

theorem pmove_any (cu e b t pm ty rs : Nat) (va : Bool) (v : Nat)  (W : World) : Calls Try.prog 57 #[.agg #[.int .u32 cu, .int .u8 e, .int .u16 b, .int .u16 t, .int .u16 pm, .int .u16 ty, .int .u32 rs, .bool va], .int .u32 v] W fun ee w' => ee = .returned (.agg #[.int .u32 v, .int .u8 e, .int .u16 b, .int .u16 t, .int .u16 pm, .int .u16 ty, .int .u32 rs, .bool va]) ∧ Below W.heap.size W w' := by
  go_enter Try.func57, Try.ntmps57
  go_wp2_with fail
  exact bodyPost_ret (v := .agg #[.int .u32 v, .int .u8 e, .int .u16 b, .int .u16 t, .int .u16 pm, .int .u16 ty, .int .u32 rs, .bool va]) (by simp [results, Try.results57, go_sem]) rfl ⟨rfl, by go_grown⟩

theorem pkind_any (cu e b t pm ty rs : Nat) (va : Bool) (v : Nat)  (W : World) : Calls Try.prog 95 #[.agg #[.int .u32 cu, .int .u8 e, .int .u16 b, .int .u16 t, .int .u16 pm, .int .u16 ty, .int .u32 rs, .bool va], .int .u32 v] W fun ee w' => ee = .returned (.agg #[.int .u32 cu, .int .u8 e, .int .u16 b, .int .u16 t, .int .u16 pm, .int .u16 (v % 65536 : Nat), .int .u32 rs, .bool va]) ∧ Below W.heap.size W w' := by
  have hwr : IntKind.u16.wrap (v : Int) = ((v % 65536 : Nat) : Int) := by rw [IntKind.wrap_u16]; omega
  generalize v % 65536 = k at *
  go_enter Try.func95, Try.ntmps95
  go_wp2_with fail
  exact bodyPost_ret (v := .agg #[.int .u32 cu, .int .u8 e, .int .u16 b, .int .u16 t, .int .u16 pm, .int .u16 k, .int .u32 rs, .bool va]) (by simp [results, Try.results95, go_sem]) rfl ⟨rfl, by go_grown⟩

theorem pmask_any (cu e b t pm ty rs : Nat) (va : Bool) (v : Nat) (l4 : pm < 65536) (W : World) : Calls Try.prog 63 #[.agg #[.int .u32 cu, .int .u8 e, .int .u16 b, .int .u16 t, .int .u16 pm, .int .u16 ty, .int .u32 rs, .bool va], .int .u32 v] W fun ee w' => ee = .returned (.agg #[.int .u32 cu, .int .u8 e, .int .u16 b, .int .u16 t, .int .u16 (pm &&& (v % 65536) : Nat), .int .u16 ty, .int .u32 rs, .bool va]) ∧ Below W.heap.size W w' := by
  have hand := u16_and_nat pm (v % 65536) l4 (by omega)
  have hwr : IntKind.u16.wrap (v : Int) = ((v % 65536 : Nat) : Int) := by rw [IntKind.wrap_u16]; omega
  generalize v % 65536 = k at *
  generalize pm &&& k = j at *
  go_enter Try.func63, Try.ntmps63
  go_wp2_with fail
  exact bodyPost_ret (v := .agg #[.int .u32 cu, .int .u8 e, .int .u16 b, .int .u16 t, .int .u16 j, .int .u16 ty, .int .u32 rs, .bool va]) (by simp [results, Try.results63, go_sem]) rfl ⟨rfl, by go_grown⟩

theorem pspan_any (cu e b t pm ty rs : Nat) (va : Bool) (sz : Nat) (l0 : cu < 4294967296) (l1 : e < 256) (l2 : b < 65536) (l3 : t < 65536) (l4 : pm < 65536) (l5 : ty < 65536) (l6 : rs < 4294967296) (lz : sz < 4294967296) (W : World) : Calls Try.prog 88 #[.agg #[.int .u32 cu, .int .u8 e, .int .u16 b, .int .u16 t, .int .u16 pm, .int .u16 ty, .int .u32 rs, .bool va], .int .u32 sz] W fun ee w' => ee = .returned (.tuple #[.int .u32 cu, .int .u64 ((cu + sz : Nat) : Int)]) ∧ Below W.heap.size W w' := by
  have hk := Lib.hid ((KR.start (W := W)).push (cv cu e b t pm ty rs va) 25)
  have hw : IntKind.u64.wrap ((cu : Int) + sz) = ((cu + sz : Nat) : Int) := by rw [IntWalk.u64_in _ (by omega)]; omega
  have hw1 : IntKind.u64.wrap (cu : Int) = cu := IntWalk.u64_in _ (by omega)
  have hw2 : IntKind.u64.wrap (sz : Int) = sz := IntWalk.u64_in _ (by omega)
  go_enter Try.func88, Try.ntmps88
  go_wp2_with fail
  have q0 := hk.out.cap (g := W.heap.size) (List.mem_cons_self ..) |>.q0
  have hb := hk.out.bl
  clear hk
  change (W.alloc (.cells #[.int .u32 cu, .int .u8 e, .int .u16 b, .int .u16 t, .int .u16 pm, .int .u16 ty, .int .u32 rs, .bool va] 25)).cell? _ = _ at q0
  change Below _ _ (W.alloc (.cells #[.int .u32 cu, .int .u8 e, .int .u16 b, .int .u16 t, .int .u16 pm, .int .u16 ty, .int .u32 rs, .bool va] 25)) at hb
  generalize (W.alloc (.cells #[.int .u32 cu, .int .u8 e, .int .u16 b, .int .u16 t, .int .u16 pm, .int .u16 ty, .int .u32 rs, .bool va] 25)) = w1 at *
  replace hb := Lib.hid hb
  go_quiet (fail)
  go_wp2_with fail
  go_ret2
  exact ⟨rfl, below_drewN hb.out _⟩
end Go.Proofs.Ythniimefocjamaa
