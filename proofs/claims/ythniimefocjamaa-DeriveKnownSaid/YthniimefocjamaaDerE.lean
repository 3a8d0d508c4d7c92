/- Contracts of derive's authority and retype; questions gathered. No statement is proved here. -/
import Derived.Test.YthniimefocjamaaDerD
namespace Go.Proofs.Ythniimefocjamaa
open Go.RowKit
set_option linter.unusedVariables false

theorem Ques.fn {w : World} {v : Value} {b : Bool} (h : Ques w v b) : ∃ f caps, v = .func (.func f) #[] caps := let ⟨f, caps, e, _⟩ := h; ⟨f, caps, e⟩
theorem QsAt.two {w : World} {u v : Value} {a b : Bool} (h : Ques w u a) (k : Ques w v b) (ty : TypeId) : QsAt (w.alloc (.cells #[u, v] ty)) w.heap.size [(u, a), (v, b)] := fun j p hp => by
  have bl := (Below.refl w.heap.size w).alloc (Nat.le_refl _) (.cells #[u, v] ty)
  have hj : j < 2 := by simpa using (List.getElem?_eq_some_iff.1 hp).1
  have : j = 0 ∨ j = 1 := by omega
  rcases this with rfl | rfl <;> (simp at hp; subst hp; refine ⟨?_, ?_⟩)
  · rw [World.cell?_alloc_at (hn := rfl)]; rfl
  · exact h.below bl
  · rw [World.cell?_alloc_at (hn := rfl)]; rfl
  · exact k.below bl
theorem QsAt.three {w : World} {u v x : Value} {a b c : Bool} (h : Ques w u a) (k : Ques w v b) (m : Ques w x c) (ty : TypeId) : QsAt (w.alloc (.cells #[u, v, x] ty)) w.heap.size [(u, a), (v, b), (x, c)] := fun j p hp => by
  have bl := (Below.refl w.heap.size w).alloc (Nat.le_refl _) (.cells #[u, v, x] ty)
  have hj : j < 3 := by simpa using (List.getElem?_eq_some_iff.1 hp).1
  have : j = 0 ∨ j = 1 ∨ j = 2 := by omega
  rcases this with rfl | rfl | rfl <;> (simp at hp; subst hp; refine ⟨?_, ?_⟩)
  · rw [World.cell?_alloc_at (hn := rfl)]; rfl
  · exact h.below bl
  · rw [World.cell?_alloc_at (hn := rfl)]; rfl
  · exact k.below bl
  · rw [World.cell?_alloc_at (hn := rfl)]; rfl
  · exact m.below bl
theorem pAll2_any {w : World} {u v : Value} {a b : Bool} (h : Ques w u a) (k : Ques w v b) (ty : TypeId) :
    Calls Try.prog 58 #[.slice (some ⟨w.heap.size, 0, none⟩) 2 2] (w.alloc (.cells #[u, v] ty)) (QPost (w.alloc (.cells #[u, v] ty)) (a && b)) := by
  have := pAll_any w.heap.size [(u, a), (v, b)] (w.alloc (.cells #[u, v] ty)) (by simp) (by simp) (QsAt.two h k ty)
  simpa using this
theorem pAll3_any {w : World} {u v x : Value} {a b c : Bool} (h : Ques w u a) (k : Ques w v b) (m : Ques w x c) (ty : TypeId) :
    Calls Try.prog 58 #[.slice (some ⟨w.heap.size, 0, none⟩) 3 3] (w.alloc (.cells #[u, v, x] ty)) (QPost (w.alloc (.cells #[u, v, x] ty)) (a && (b && c))) := by
  have := pAll_any w.heap.size [(u, a), (v, b), (x, c)] (w.alloc (.cells #[u, v, x] ty)) (by simp) (by simp) (QsAt.three h k m ty)
  simpa using this

theorem pauthority_any (cu e b t pm ty rs : Nat) (va : Bool) (kind perm : Nat) (l0 : cu < 4294967296) (l1 : e < 256) (l2 : b < 65536) (l3 : t < 65536) (l4 : pm < 65536) (l5 : ty < 65536) (l6 : rs < 4294967296) (lk : kind < 4294967296) (lp : perm < 65536) (W : World) :
    Calls Try.prog 70 #[.agg #[.int .u32 cu, .int .u8 e, .int .u16 b, .int .u16 t, .int .u16 pm, .int .u16 ty, .int .u32 rs, .bool va], .int .u32 kind, .int .u16 perm] W (QPost W (va && decide (ty = 0) && auP e b t cu pm kind perm)) := by
  have hk := (((KR.start (W := W)).push (cv cu e b t pm ty rs va) 25).push [.int .u32 kind] 22).push [.int .u16 perm] 23
  rw [World.size_alloc, World.size_alloc] at hk
  have hQ : Ques (((W.alloc (.cells #[.int .u32 cu, .int .u8 e, .int .u16 b, .int .u16 t, .int .u16 pm, .int .u16 ty, .int .u32 rs, .bool va] 25)).alloc (.cells #[.int .u32 kind] 22)).alloc (.cells #[.int .u16 perm] 23)) (.func (.func 96) #[] #[.pointer (some ⟨W.heap.size + 1, 0, none⟩), .pointer (some ⟨W.heap.size, 0, none⟩), .pointer (some ⟨W.heap.size + 1 + 1, 0, none⟩)]) (auP e b t cu pm kind perm) :=
    ⟨_, _, rfl, fun w' => by kernel_rfl, fun w' k => pAuth1_any _ _ _ cu e b t pm ty rs va kind perm l0 l1 l2 l3 l4 l5 l6 lk lp w' ((hk.below k).cap (by simp)) ((hk.below k).cell [.int .u32 kind] (by simp) rfl) ((hk.below k).cell [.int .u16 perm] (by simp) rfl)⟩
  have hO := Lib.hid (fun w => pOpen_any cu e b t pm ty rs va w)
  generalize auP e b t cu pm kind perm = P at *
  generalize (va && decide (ty = 0)) = q at *
  replace hQ := Lib.hid hQ
  replace hk := Lib.hid hk.bl
  go_enter Try.func70, Try.ntmps70
  go_wp2_with fail
  refine (hO.out _).mono ?_
  rintro ee w1 ⟨v1, rfl, hq, h1⟩
  have hq2 := Lib.hid (hQ.out.below h1)
  obtain ⟨f1, c1, rfl⟩ := hq.fn
  have hb1 := Lib.hid (hk.out.trans (h1.mono hk.out.size))
  replace hq := Lib.hid hq
  clear h1 hO hQ hk
  go_wp2_with fail
  refine (pAll2_any hq.out hq2.out _).mono ?_
  rintro ee w2 ⟨v2, rfl, hq3, h2⟩
  have hb2 := Lib.hid ((hb1.out.alloc hb1.out.size _).trans (h2.mono (by have := hb1.out.size; simp; omega)))
  replace hq3 := Lib.hid hq3
  clear h2 hb1 hq hq2
  go_wp2_with fail
  go_ret
  exact ⟨_, rfl, hq3.out, hb2.out⟩

theorem pretype_no (cu e b t pm ty rs : Nat) (va : Bool) (kind : Nat) (q : Value) (W : World) (hq : Ques W q false) :
    Calls Try.prog 69 #[.agg #[.int .u32 cu, .int .u8 e, .int .u16 b, .int .u16 t, .int .u16 pm, .int .u16 ty, .int .u32 rs, .bool va], .int .u32 kind, q] W fun ee w' => ee = .returned (.agg #[.int .u32 cu, .int .u8 e, .int .u16 b, .int .u16 t, .int .u16 pm, .int .u16 ty, .int .u32 rs, .bool false]) ∧ Below W.heap.size W w' := by
  have hk := twoBoxes W cu e b t pm ty rs va 25 0 0 0 0 0 0 0 false 25
  have hM := Lib.hid (fun w => pClear_any cu e b t pm ty rs va w)
  obtain ⟨f, caps, rfl, hcf, c⟩ := hq
  have c2 := Lib.hid (c _ hk.bl)
  replace hk := Lib.hid hk
  clear c
  go_enter Try.func69, Try.ntmps69
  go_wp2_with fail
  refine c2.out.mono ?_
  rintro ee w1 ⟨rfl, h1⟩
  have hk1 := Lib.hid (hk.out.below h1)
  obtain ⟨p0, p1, p2, p3, p4, p5, p6, p7⟩ : CapAt w1 W.heap.size cu e b t pm ty rs va := hk1.out.cap (by simp)
  clear h1 hk c2
  go_wp2_with fail
  refine (hM.out _).mono ?_
  rintro ee w2 ⟨rfl, h1⟩
  have hk2 := hk1.out.below h1
  clear h1 hk1 hM p0 p1 p2 p3 p4 p5 p6 p7
  have r : CapAt w2 (W.heap.size + 1) 0 0 0 0 0 0 0 false := hk2.cap (by simp)
  have fr := hk2.soft (g := W.heap.size + 1) (vs := cv 0 0 0 0 0 0 0 false) (by simp)
  obtain ⟨r0, r1, r2, r3, r4, r5, r6, r7⟩ := r
  replace hk2 := Lib.hid (hk2.whole (cv cu e b t pm ty rs false) (by simp) (by simp) rfl)
  go_wp2_with fail
  change bodyPost _ _ _ _ _ (setRow (W.heap.size + 1) 0 (cv cu e b t pm ty rs false) w2)
  clear r0 r1 r2 r3 r4 r5 r6 r7 fr
  generalize setRow (W.heap.size + 1) 0 (cv cu e b t pm ty rs false) w2 = w3 at *
  obtain ⟨z0, z1, z2, z3, z4, z5, z6, z7⟩ := hk2.out.cap (g := W.heap.size + 1) (List.mem_cons_self ..)
  exact bodyPost_ret (v := .agg #[.int .u32 cu, .int .u8 e, .int .u16 b, .int .u16 t, .int .u16 pm, .int .u16 ty, .int .u32 rs, .bool false]) (by simp [results, Try.results69, go_sem, z0, z1, z2, z3, z4, z5, z6, z7]) rfl ⟨rfl, hk2.out.bl⟩
theorem pretype_yes (cu e b t pm ty rs : Nat) (va : Bool) (kind : Nat) (q : Value) (W : World) (hq : Ques W q true) :
    Calls Try.prog 69 #[.agg #[.int .u32 cu, .int .u8 e, .int .u16 b, .int .u16 t, .int .u16 pm, .int .u16 ty, .int .u32 rs, .bool va], .int .u32 kind, q] W fun ee w' => ee = .returned (.agg #[.int .u32 cu, .int .u8 e, .int .u16 b, .int .u16 t, .int .u16 pm, .int .u16 (kind % 65536 : Nat), .int .u32 rs, .bool va]) ∧ Below W.heap.size W w' := by
  have hk := twoBoxes W cu e b t pm ty rs va 25 0 0 0 0 0 0 0 false 25
  have hM := Lib.hid (fun w => pchange_any _ kind cu e b t pm ty rs va cu e b t pm (kind % 65536) rs va (mKind cu e b t pm ty rs va kind) w)
  generalize kind % 65536 = k at *
  obtain ⟨f, caps, rfl, hcf, c⟩ := hq
  have c2 := Lib.hid (c _ hk.bl)
  replace hk := Lib.hid hk
  clear c
  go_enter Try.func69, Try.ntmps69
  go_wp2_with fail
  refine c2.out.mono ?_
  rintro ee w1 ⟨rfl, h1⟩
  have hk1 := Lib.hid (hk.out.below h1)
  obtain ⟨p0, p1, p2, p3, p4, p5, p6, p7⟩ : CapAt w1 W.heap.size cu e b t pm ty rs va := hk1.out.cap (by simp)
  clear h1 hk c2
  go_wp2_with fail
  refine (hM.out _).mono ?_
  rintro ee w2 ⟨rfl, h1⟩
  have hk2 := hk1.out.below h1
  clear h1 hk1 hM p0 p1 p2 p3 p4 p5 p6 p7
  have r : CapAt w2 (W.heap.size + 1) 0 0 0 0 0 0 0 false := hk2.cap (by simp)
  have fr := hk2.soft (g := W.heap.size + 1) (vs := cv 0 0 0 0 0 0 0 false) (by simp)
  obtain ⟨r0, r1, r2, r3, r4, r5, r6, r7⟩ := r
  replace hk2 := Lib.hid (hk2.whole (cv cu e b t pm k rs va) (by simp) (by simp) rfl)
  go_wp2_with fail
  change bodyPost _ _ _ _ _ (setRow (W.heap.size + 1) 0 (cv cu e b t pm k rs va) w2)
  clear r0 r1 r2 r3 r4 r5 r6 r7 fr
  generalize setRow (W.heap.size + 1) 0 (cv cu e b t pm k rs va) w2 = w3 at *
  obtain ⟨z0, z1, z2, z3, z4, z5, z6, z7⟩ := hk2.out.cap (g := W.heap.size + 1) (List.mem_cons_self ..)
  exact bodyPost_ret (v := .agg #[.int .u32 cu, .int .u8 e, .int .u16 b, .int .u16 t, .int .u16 pm, .int .u16 k, .int .u32 rs, .bool va]) (by simp [results, Try.results69, go_sem, z0, z1, z2, z3, z4, z5, z6, z7]) rfl ⟨rfl, hk2.out.bl⟩
end Go.Proofs.Ythniimefocjamaa
