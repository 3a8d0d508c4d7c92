/- The program's derived (layer core): what an operation makes of capabilities. No statement is proved here.; Contracts of layer core: load, store. No statement is proved here. -/
import Derived.StillTailTactics
import Derived.Test.YtkmgdfcambdeeaaGreatDoorPav
import Derived.Test.YtkmgdfcambdeeaaGreatDoorPaz
import Derived.Test.YtkmgdfcambdeeaaGreatDoorPbc
import Derived.Test.YtkmgdfcambdeeaaGreatDoorPaw
import Derived.Test.YtkmgdfcambdeeaaGreatDoorPan
namespace Go.Proofs.YtkmgdfcambdeeaaGreatDoor
set_option maxRecDepth 100000
open Go.RowKit
set_option linter.unusedVariables false
theorem pAnd_cp (c : Cp) (h : c.fit) (n : Nat) (ln : n < 4294967296) (W : World) : Calls Tryz.prog 147 #[c.V, .int .u32 n] W fun ee w' => ee = .returned (cAnd c n).V ∧ Below W.heap.size W w' :=
  pAnd_any c.cu c.e c.b c.t c.pm c.ty c.rs c.va n h.l4 W
theorem pSet_cp (c : Cp) (h : c.fit) (n : Nat) (ln : n < 4294967296) (W : World) : Calls Tryz.prog 145 #[c.V, .int .u32 n] W fun ee w' => ee = .returned (cSet c n).V ∧ Below W.heap.size W w' :=
  pSet_any c.cu c.e c.b c.t c.pm c.ty c.rs c.va n h.l0 h.l1 h.l2 h.l3 h.l4 h.l5 h.l6 ln W
theorem pExact_cp (c : Cp) (h : c.fit) (n : Nat) (ln : n < 4294967296) (W : World) : Calls Tryz.prog 146 #[c.V, .int .u32 n] W fun ee w' => ee = .returned (cExact c n).V ∧ Below W.heap.size W w' :=
  pExact_any c.cu c.e c.b c.t c.pm c.ty c.rs c.va n h.l0 h.l1 h.l2 h.l3 h.l4 h.l5 h.l6 ln W
theorem pClear_cp (c : Cp) (h : c.fit) (W : World) : Calls Tryz.prog 88 #[c.V] W fun ee w' => ee = .returned (cClear c).V ∧ Below W.heap.size W w' :=
  pClear_any c.cu c.e c.b c.t c.pm c.ty c.rs c.va W
theorem pSeal_cp (c y : Cp) (h : c.fit) (k : y.fit) (W : World) : Calls Tryz.prog 148 #[c.V, y.V] W fun ee w' => ee = .returned (cSeal c y).V ∧ Below W.heap.size W w' :=
  pSeal_any c.cu c.e c.b c.t c.pm c.ty c.rs c.va y.cu y.e y.b y.t y.pm y.ty y.rs y.va k.l0 k.l1 k.l2 k.l3 k.l4 k.l5 k.l6 W
theorem pOpen_cp (c y : Cp) (h : c.fit) (k : y.fit) (W : World) : Calls Tryz.prog 149 #[c.V, y.V] W fun ee w' => ee = .returned (cOpen c y).V ∧ Below W.heap.size W w' :=
  pOpens_any c.cu c.e c.b c.t c.pm c.ty c.rs c.va y.cu y.e y.b y.t y.pm y.ty y.rs y.va h.l5 k.l0 k.l1 k.l2 k.l3 k.l4 k.l5 k.l6 W
theorem pBuild_cp (c y : Cp) (h : c.fit) (k : y.fit) (W : World) : Calls Tryz.prog 150 #[c.V, y.V] W fun ee w' => ee = .returned (cBuild c y).V ∧ Below W.heap.size W w' :=
  pBuild_any c.cu c.e c.b c.t c.pm c.ty c.rs c.va y.cu y.e y.b y.t y.pm y.ty y.rs y.va h.l0 h.l1 h.l2 h.l3 h.l4 h.l5 h.l6 k.l0 k.l1 k.l2 k.l3 k.l4 k.l5 k.l6 W
theorem start_ibc (op A B C m : Int) (b c : Cp) (W : World) : KR W [⟨W.heap.size + 3, zC.C⟩, ⟨W.heap.size + 2, c.C⟩, ⟨W.heap.size + 1, b.C⟩, ⟨W.heap.size, ir op A B C m⟩] ((((W.alloc (.cells (ir op A B C m).toArray 30)).alloc (.cells b.C.toArray 25)).alloc (.cells c.C.toArray 25)).alloc (.cells zC.C.toArray 25)) := by
  have := ((((KR.start (W := W)).push (ir op A B C m) 30).push b.C 25).push c.C 25).push zC.C 25
  simp only [World.size_alloc, Nat.add_assoc, Nat.reduceAdd] at this
  exact this
/-- What an operation makes of capabilities; is it one that does? -/
def isP (op : Int) : Bool := decide (op = 31 ∨ op = 41 ∨ op = 32 ∨ op = 33 ∨ op = 34 ∨ op = 35 ∨ op = 36 ∨ op = 37 ∨ op = 38 ∨ op = 39 ∨ op = 40)
def pDv (op : Int) (b c : Cp) (m : Int) : Cp :=
  if op = 31 then b
  else if op = 41 then cClear b
  else if op = 32 then cAddr b (((b.cu : Int) + (c.cu : Int)) % 4294967296).toNat
  else if op = 33 then cAddr b (((b.cu : Int) + m % 4294967296) % 4294967296).toNat
  else if op = 34 then cAddr b c.cu
  else if op = 35 then cSet b c.cu
  else if op = 36 then cExact b c.cu
  else if op = 37 then cAnd b c.cu
  else if op = 38 then cSeal b c
  else if op = 39 then cOpen b c
  else if op = 40 then cBuild c b
  else zC
set_option maxHeartbeats 8000000 in
theorem pder_any (op A B C m : Int) (b c : Cp) (fb : b.fit) (fc : c.fit) (W : World) : Calls Tryz.prog 92 #[.agg #[.int .i64 op, .int .i64 A, .int .i64 B, .int .i64 C, .int .i64 m], b.V, c.V] W fun e w' => e = .returned (.tuple #[(pDv op b c m).V, .bool (isP op)]) ∧ Below W.heap.size W w' := by
  have k0 := Lib.hid (start_ibc op A B C m b c W)
  obtain ⟨X, hX⟩ : ∃ X, X = pDv op b c m := ⟨_, rfl⟩
  obtain ⟨T, hT⟩ : ∃ T, T = isP op := ⟨_, rfl⟩
  rw [← hX, ← hT]
  replace hX := Lib.hid hX
  replace hT := Lib.hid hT
  unfold Cp.V Cp.C cv
  go_enter Tryz.func92, Tryz.ntmps92
  go_upto_region 1 with (fail)
  change Code.wp _ _ _ _ ((((W.alloc (.cells (ir op A B C m).toArray 30)).alloc (.cells b.C.toArray 25)).alloc (.cells c.C.toArray 25)).alloc (.cells zC.C.toArray 25))
  generalize ((((W.alloc (.cells (ir op A B C m).toArray 30)).alloc (.cells b.C.toArray 25)).alloc (.cells c.C.toArray 25)).alloc (.cells zC.C.toArray 25)) = w1 at k0 ⊢
  obtain ⟨p0, p1, p2, p3, p4, p5, p6, p7⟩ := (k0.out.cap (g := W.heap.size + 1) (by simp [Cp.C]) : CapAt _ _ b.cu b.e b.b b.t b.pm b.ty b.rs b.va)
  obtain ⟨c0, c1, c2, c3, c4, c5, c6, c7⟩ := (k0.out.cap (g := W.heap.size + 2) (by simp [Cp.C]) : CapAt _ _ c.cu c.e c.b c.t c.pm c.ty c.rs c.va)
  have i0 := k0.out.cell (g := W.heap.size) (j := 0) (u := .int .i64 op) (ir op A B C m) (by simp) rfl
  have i4 := k0.out.cell (g := W.heap.size) (j := 4) (u := .int .i64 m) (ir op A B C m) (by simp) rfl
  by_cases hop : op = 31 ∨ op = 41 ∨ op = 32 ∨ op = 33 ∨ op = 34 ∨ op = 35 ∨ op = 36 ∨ op = 37 ∨ op = 38 ∨ op = 39 ∨ op = 40
  · rcases hop with rfl | rfl | rfl | rfl | rfl | rfl | rfl | rfl | rfl | rfl | rfl
    · have hT1 : T = true := by rw [hT.out]; rfl
      subst hT1
      have hx := Lib.hid (show b = X from by rw [hX.out]; rfl)
      have s1 := size_ca b
      have o1 := one_cp b
      have zr := (k0.out.there (g := W.heap.size + 3) (vs := zC.C) (by simp) 0 8 (by decide))
      have hf := Lib.hid ((k0.out.sub (L' := [⟨W.heap.size + 3, zC.C⟩]) (by simp)).putA b.C (by simp) (by simp) rfl)
      go_wp2_with ((with_reducible show wpList _ _ _ _ _ _); refine wpList_store_mid rfl 25 _ _ rfl (W.heap.size + 1 + 1 + 1) 0 b.C.toArray rfl rfl zr s1 o1 ?_; clear zr s1 o1; change wpList _ _ _ _ _ (w1.setCells (W.heap.size + 3) 0 b.C); generalize w1.setCells (W.heap.size + 3) 0 b.C = wf at hf ⊢)
      exact bodyPost_ret (v := .tuple #[b.V, .bool true]) (res_two Tryz.results92 rfl rfl (load_cp hf.out (List.mem_cons_self ..))) rfl ⟨by rw [← hx.out]; rfl, hf.out.bl⟩
    · have hT1 : T = true := by rw [hT.out]; rfl
      subst hT1
      obtain ⟨d, hd⟩ : ∃ d : Cp, d = cClear b := ⟨_, rfl⟩
      have hC : Hid (∀ w, Calls Tryz.prog 88 #[b.V] w fun e w' => e = .returned d.V ∧ Below w.heap.size w w') := Lib.hid (fun w => hd ▸ pClear_cp b fb w)
      have hx := Lib.hid (show d = X from by rw [hd, hX.out]; rfl)
      clear hd
      go_wp2_with fail
      refine (hC.out _).mono ?_
      rintro ee w4 ⟨rfl, h1⟩
      have hk4 := k0.out.below h1
      clear h1 hC k0 i0 i4 p0 p1 p2 p3 p4 p5 p6 p7 c0 c1 c2 c3 c4 c5 c6 c7
      have s1 := size_ca d
      have o1 := one_cp d
      have zr := (hk4.there (g := W.heap.size + 3) (vs := zC.C) (by simp) 0 8 (by decide))
      have hf := Lib.hid ((hk4.sub (L' := [⟨W.heap.size + 3, zC.C⟩]) (by simp)).putA d.C (by simp) (by simp) rfl)
      go_wp2_with ((with_reducible show wpList _ _ _ _ _ _); refine wpList_store_mid rfl 25 _ _ rfl (W.heap.size + 1 + 1 + 1) 0 d.C.toArray rfl rfl zr s1 o1 ?_; clear zr s1 o1; change wpList _ _ _ _ _ (w4.setCells (W.heap.size + 3) 0 d.C); generalize w4.setCells (W.heap.size + 3) 0 d.C = wf at hf ⊢)
      exact bodyPost_ret (v := .tuple #[d.V, .bool true]) (res_two Tryz.results92 rfl rfl (load_cp hf.out (List.mem_cons_self ..))) rfl ⟨by rw [hx.out]; rfl, hf.out.bl⟩
    · have hT1 : T = true := by rw [hT.out]; rfl
      subst hT1
      obtain ⟨n, hn, ln⟩ : ∃ n : Nat, ((b.cu : Int) + (c.cu : Int)) % 4294967296 = (n : Int) ∧ n < 4294967296 := ⟨(((b.cu : Int) + (c.cu : Int)) % 4294967296).toNat, by omega, by omega⟩
      obtain ⟨d, hd⟩ : ∃ d : Cp, d = cAddr b n := ⟨_, rfl⟩
      have hC : Hid (∀ w, Calls Tryz.prog 90 #[b.V, .int .u32 n] w fun e w' => e = .returned d.V ∧ Below w.heap.size w w') := Lib.hid (fun w => hd ▸ pAddr_cp b fb n ln w)
      have hx := Lib.hid (show d = X from by rw [hd, hX.out, show n = (((b.cu : Int) + (c.cu : Int)) % 4294967296).toNat from by rw [hn]; rfl]; rfl)
      clear hd
      go_wp2_with fail
      refine (hC.out _).mono ?_
      rintro ee w4 ⟨rfl, h1⟩
      have hk4 := k0.out.below h1
      clear h1 hC k0 i0 i4 p0 p1 p2 p3 p4 p5 p6 p7 c0 c1 c2 c3 c4 c5 c6 c7
      have s1 := size_ca d
      have o1 := one_cp d
      have zr := (hk4.there (g := W.heap.size + 3) (vs := zC.C) (by simp) 0 8 (by decide))
      have hf := Lib.hid ((hk4.sub (L' := [⟨W.heap.size + 3, zC.C⟩]) (by simp)).putA d.C (by simp) (by simp) rfl)
      go_wp2_with ((with_reducible show wpList _ _ _ _ _ _); refine wpList_store_mid rfl 25 _ _ rfl (W.heap.size + 1 + 1 + 1) 0 d.C.toArray rfl rfl zr s1 o1 ?_; clear zr s1 o1; change wpList _ _ _ _ _ (w4.setCells (W.heap.size + 3) 0 d.C); generalize w4.setCells (W.heap.size + 3) 0 d.C = wf at hf ⊢)
      exact bodyPost_ret (v := .tuple #[d.V, .bool true]) (res_two Tryz.results92 rfl rfl (load_cp hf.out (List.mem_cons_self ..))) rfl ⟨by rw [hx.out]; rfl, hf.out.bl⟩
    · have hT1 : T = true := by rw [hT.out]; rfl
      subst hT1
      obtain ⟨n, hn, ln⟩ : ∃ n : Nat, ((b.cu : Int) + m % 4294967296) % 4294967296 = (n : Int) ∧ n < 4294967296 := ⟨(((b.cu : Int) + m % 4294967296) % 4294967296).toNat, by omega, by omega⟩
      obtain ⟨d, hd⟩ : ∃ d : Cp, d = cAddr b n := ⟨_, rfl⟩
      have hC : Hid (∀ w, Calls Tryz.prog 90 #[b.V, .int .u32 n] w fun e w' => e = .returned d.V ∧ Below w.heap.size w w') := Lib.hid (fun w => hd ▸ pAddr_cp b fb n ln w)
      have hx := Lib.hid (show d = X from by rw [hd, hX.out, show n = (((b.cu : Int) + m % 4294967296) % 4294967296).toNat from by rw [hn]; rfl]; rfl)
      clear hd
      go_wp2_with fail
      refine (hC.out _).mono ?_
      rintro ee w4 ⟨rfl, h1⟩
      have hk4 := k0.out.below h1
      clear h1 hC k0 i0 i4 p0 p1 p2 p3 p4 p5 p6 p7 c0 c1 c2 c3 c4 c5 c6 c7
      have s1 := size_ca d
      have o1 := one_cp d
      have zr := (hk4.there (g := W.heap.size + 3) (vs := zC.C) (by simp) 0 8 (by decide))
      have hf := Lib.hid ((hk4.sub (L' := [⟨W.heap.size + 3, zC.C⟩]) (by simp)).putA d.C (by simp) (by simp) rfl)
      go_wp2_with ((with_reducible show wpList _ _ _ _ _ _); refine wpList_store_mid rfl 25 _ _ rfl (W.heap.size + 1 + 1 + 1) 0 d.C.toArray rfl rfl zr s1 o1 ?_; clear zr s1 o1; change wpList _ _ _ _ _ (w4.setCells (W.heap.size + 3) 0 d.C); generalize w4.setCells (W.heap.size + 3) 0 d.C = wf at hf ⊢)
      exact bodyPost_ret (v := .tuple #[d.V, .bool true]) (res_two Tryz.results92 rfl rfl (load_cp hf.out (List.mem_cons_self ..))) rfl ⟨by rw [hx.out]; rfl, hf.out.bl⟩
    · have hT1 : T = true := by rw [hT.out]; rfl
      subst hT1
      obtain ⟨d, hd⟩ : ∃ d : Cp, d = cAddr b c.cu := ⟨_, rfl⟩
      have hC : Hid (∀ w, Calls Tryz.prog 90 #[b.V, .int .u32 c.cu] w fun e w' => e = .returned d.V ∧ Below w.heap.size w w') := Lib.hid (fun w => hd ▸ pAddr_cp b fb c.cu fc.l0 w)
      have hx := Lib.hid (show d = X from by rw [hd, hX.out]; rfl)
      clear hd
      go_wp2_with fail
      refine (hC.out _).mono ?_
      rintro ee w4 ⟨rfl, h1⟩
      have hk4 := k0.out.below h1
      clear h1 hC k0 i0 i4 p0 p1 p2 p3 p4 p5 p6 p7 c0 c1 c2 c3 c4 c5 c6 c7
      have s1 := size_ca d
      have o1 := one_cp d
      have zr := (hk4.there (g := W.heap.size + 3) (vs := zC.C) (by simp) 0 8 (by decide))
      have hf := Lib.hid ((hk4.sub (L' := [⟨W.heap.size + 3, zC.C⟩]) (by simp)).putA d.C (by simp) (by simp) rfl)
      go_wp2_with ((with_reducible show wpList _ _ _ _ _ _); refine wpList_store_mid rfl 25 _ _ rfl (W.heap.size + 1 + 1 + 1) 0 d.C.toArray rfl rfl zr s1 o1 ?_; clear zr s1 o1; change wpList _ _ _ _ _ (w4.setCells (W.heap.size + 3) 0 d.C); generalize w4.setCells (W.heap.size + 3) 0 d.C = wf at hf ⊢)
      exact bodyPost_ret (v := .tuple #[d.V, .bool true]) (res_two Tryz.results92 rfl rfl (load_cp hf.out (List.mem_cons_self ..))) rfl ⟨by rw [hx.out]; rfl, hf.out.bl⟩
    · have hT1 : T = true := by rw [hT.out]; rfl
      subst hT1
      obtain ⟨d, hd⟩ : ∃ d : Cp, d = cSet b c.cu := ⟨_, rfl⟩
      have hC : Hid (∀ w, Calls Tryz.prog 145 #[b.V, .int .u32 c.cu] w fun e w' => e = .returned d.V ∧ Below w.heap.size w w') := Lib.hid (fun w => hd ▸ pSet_cp b fb c.cu fc.l0 w)
      have hx := Lib.hid (show d = X from by rw [hd, hX.out]; rfl)
      clear hd
      go_wp2_with fail
      refine (hC.out _).mono ?_
      rintro ee w4 ⟨rfl, h1⟩
      have hk4 := k0.out.below h1
      clear h1 hC k0 i0 i4 p0 p1 p2 p3 p4 p5 p6 p7 c0 c1 c2 c3 c4 c5 c6 c7
      have s1 := size_ca d
      have o1 := one_cp d
      have zr := (hk4.there (g := W.heap.size + 3) (vs := zC.C) (by simp) 0 8 (by decide))
      have hf := Lib.hid ((hk4.sub (L' := [⟨W.heap.size + 3, zC.C⟩]) (by simp)).putA d.C (by simp) (by simp) rfl)
      go_wp2_with ((with_reducible show wpList _ _ _ _ _ _); refine wpList_store_mid rfl 25 _ _ rfl (W.heap.size + 1 + 1 + 1) 0 d.C.toArray rfl rfl zr s1 o1 ?_; clear zr s1 o1; change wpList _ _ _ _ _ (w4.setCells (W.heap.size + 3) 0 d.C); generalize w4.setCells (W.heap.size + 3) 0 d.C = wf at hf ⊢)
      exact bodyPost_ret (v := .tuple #[d.V, .bool true]) (res_two Tryz.results92 rfl rfl (load_cp hf.out (List.mem_cons_self ..))) rfl ⟨by rw [hx.out]; rfl, hf.out.bl⟩
    · have hT1 : T = true := by rw [hT.out]; rfl
      subst hT1
      obtain ⟨d, hd⟩ : ∃ d : Cp, d = cExact b c.cu := ⟨_, rfl⟩
      have hC : Hid (∀ w, Calls Tryz.prog 146 #[b.V, .int .u32 c.cu] w fun e w' => e = .returned d.V ∧ Below w.heap.size w w') := Lib.hid (fun w => hd ▸ pExact_cp b fb c.cu fc.l0 w)
      have hx := Lib.hid (show d = X from by rw [hd, hX.out]; rfl)
      clear hd
      go_wp2_with fail
      refine (hC.out _).mono ?_
      rintro ee w4 ⟨rfl, h1⟩
      have hk4 := k0.out.below h1
      clear h1 hC k0 i0 i4 p0 p1 p2 p3 p4 p5 p6 p7 c0 c1 c2 c3 c4 c5 c6 c7
      have s1 := size_ca d
      have o1 := one_cp d
      have zr := (hk4.there (g := W.heap.size + 3) (vs := zC.C) (by simp) 0 8 (by decide))
      have hf := Lib.hid ((hk4.sub (L' := [⟨W.heap.size + 3, zC.C⟩]) (by simp)).putA d.C (by simp) (by simp) rfl)
      go_wp2_with ((with_reducible show wpList _ _ _ _ _ _); refine wpList_store_mid rfl 25 _ _ rfl (W.heap.size + 1 + 1 + 1) 0 d.C.toArray rfl rfl zr s1 o1 ?_; clear zr s1 o1; change wpList _ _ _ _ _ (w4.setCells (W.heap.size + 3) 0 d.C); generalize w4.setCells (W.heap.size + 3) 0 d.C = wf at hf ⊢)
      exact bodyPost_ret (v := .tuple #[d.V, .bool true]) (res_two Tryz.results92 rfl rfl (load_cp hf.out (List.mem_cons_self ..))) rfl ⟨by rw [hx.out]; rfl, hf.out.bl⟩
    · have hT1 : T = true := by rw [hT.out]; rfl
      subst hT1
      obtain ⟨d, hd⟩ : ∃ d : Cp, d = cAnd b c.cu := ⟨_, rfl⟩
      have hC : Hid (∀ w, Calls Tryz.prog 147 #[b.V, .int .u32 c.cu] w fun e w' => e = .returned d.V ∧ Below w.heap.size w w') := Lib.hid (fun w => hd ▸ pAnd_cp b fb c.cu fc.l0 w)
      have hx := Lib.hid (show d = X from by rw [hd, hX.out]; rfl)
      clear hd
      go_wp2_with fail
      refine (hC.out _).mono ?_
      rintro ee w4 ⟨rfl, h1⟩
      have hk4 := k0.out.below h1
      clear h1 hC k0 i0 i4 p0 p1 p2 p3 p4 p5 p6 p7 c0 c1 c2 c3 c4 c5 c6 c7
      have s1 := size_ca d
      have o1 := one_cp d
      have zr := (hk4.there (g := W.heap.size + 3) (vs := zC.C) (by simp) 0 8 (by decide))
      have hf := Lib.hid ((hk4.sub (L' := [⟨W.heap.size + 3, zC.C⟩]) (by simp)).putA d.C (by simp) (by simp) rfl)
      go_wp2_with ((with_reducible show wpList _ _ _ _ _ _); refine wpList_store_mid rfl 25 _ _ rfl (W.heap.size + 1 + 1 + 1) 0 d.C.toArray rfl rfl zr s1 o1 ?_; clear zr s1 o1; change wpList _ _ _ _ _ (w4.setCells (W.heap.size + 3) 0 d.C); generalize w4.setCells (W.heap.size + 3) 0 d.C = wf at hf ⊢)
      exact bodyPost_ret (v := .tuple #[d.V, .bool true]) (res_two Tryz.results92 rfl rfl (load_cp hf.out (List.mem_cons_self ..))) rfl ⟨by rw [hx.out]; rfl, hf.out.bl⟩
    · have hT1 : T = true := by rw [hT.out]; rfl
      subst hT1
      obtain ⟨d, hd⟩ : ∃ d : Cp, d = cSeal b c := ⟨_, rfl⟩
      have hC : Hid (∀ w, Calls Tryz.prog 148 #[b.V, c.V] w fun e w' => e = .returned d.V ∧ Below w.heap.size w w') := Lib.hid (fun w => hd ▸ pSeal_cp b c fb fc w)
      have hx := Lib.hid (show d = X from by rw [hd, hX.out]; rfl)
      clear hd
      go_wp2_with fail
      refine (hC.out _).mono ?_
      rintro ee w4 ⟨rfl, h1⟩
      have hk4 := k0.out.below h1
      clear h1 hC k0 i0 i4 p0 p1 p2 p3 p4 p5 p6 p7 c0 c1 c2 c3 c4 c5 c6 c7
      have s1 := size_ca d
      have o1 := one_cp d
      have zr := (hk4.there (g := W.heap.size + 3) (vs := zC.C) (by simp) 0 8 (by decide))
      have hf := Lib.hid ((hk4.sub (L' := [⟨W.heap.size + 3, zC.C⟩]) (by simp)).putA d.C (by simp) (by simp) rfl)
      go_wp2_with ((with_reducible show wpList _ _ _ _ _ _); refine wpList_store_mid rfl 25 _ _ rfl (W.heap.size + 1 + 1 + 1) 0 d.C.toArray rfl rfl zr s1 o1 ?_; clear zr s1 o1; change wpList _ _ _ _ _ (w4.setCells (W.heap.size + 3) 0 d.C); generalize w4.setCells (W.heap.size + 3) 0 d.C = wf at hf ⊢)
      exact bodyPost_ret (v := .tuple #[d.V, .bool true]) (res_two Tryz.results92 rfl rfl (load_cp hf.out (List.mem_cons_self ..))) rfl ⟨by rw [hx.out]; rfl, hf.out.bl⟩
    · have hT1 : T = true := by rw [hT.out]; rfl
      subst hT1
      obtain ⟨d, hd⟩ : ∃ d : Cp, d = cOpen b c := ⟨_, rfl⟩
      have hC : Hid (∀ w, Calls Tryz.prog 149 #[b.V, c.V] w fun e w' => e = .returned d.V ∧ Below w.heap.size w w') := Lib.hid (fun w => hd ▸ pOpen_cp b c fb fc w)
      have hx := Lib.hid (show d = X from by rw [hd, hX.out]; rfl)
      clear hd
      go_wp2_with fail
      refine (hC.out _).mono ?_
      rintro ee w4 ⟨rfl, h1⟩
      have hk4 := k0.out.below h1
      clear h1 hC k0 i0 i4 p0 p1 p2 p3 p4 p5 p6 p7 c0 c1 c2 c3 c4 c5 c6 c7
      have s1 := size_ca d
      have o1 := one_cp d
      have zr := (hk4.there (g := W.heap.size + 3) (vs := zC.C) (by simp) 0 8 (by decide))
      have hf := Lib.hid ((hk4.sub (L' := [⟨W.heap.size + 3, zC.C⟩]) (by simp)).putA d.C (by simp) (by simp) rfl)
      go_wp2_with ((with_reducible show wpList _ _ _ _ _ _); refine wpList_store_mid rfl 25 _ _ rfl (W.heap.size + 1 + 1 + 1) 0 d.C.toArray rfl rfl zr s1 o1 ?_; clear zr s1 o1; change wpList _ _ _ _ _ (w4.setCells (W.heap.size + 3) 0 d.C); generalize w4.setCells (W.heap.size + 3) 0 d.C = wf at hf ⊢)
      exact bodyPost_ret (v := .tuple #[d.V, .bool true]) (res_two Tryz.results92 rfl rfl (load_cp hf.out (List.mem_cons_self ..))) rfl ⟨by rw [hx.out]; rfl, hf.out.bl⟩
    · have hT1 : T = true := by rw [hT.out]; rfl
      subst hT1
      obtain ⟨d, hd⟩ : ∃ d : Cp, d = cBuild c b := ⟨_, rfl⟩
      have hC : Hid (∀ w, Calls Tryz.prog 150 #[c.V, b.V] w fun e w' => e = .returned d.V ∧ Below w.heap.size w w') := Lib.hid (fun w => hd ▸ pBuild_cp c b fc fb w)
      have hx := Lib.hid (show d = X from by rw [hd, hX.out]; rfl)
      clear hd
      go_wp2_with fail
      refine (hC.out _).mono ?_
      rintro ee w4 ⟨rfl, h1⟩
      have hk4 := k0.out.below h1
      clear h1 hC k0 i0 i4 p0 p1 p2 p3 p4 p5 p6 p7 c0 c1 c2 c3 c4 c5 c6 c7
      have s1 := size_ca d
      have o1 := one_cp d
      have zr := (hk4.there (g := W.heap.size + 3) (vs := zC.C) (by simp) 0 8 (by decide))
      have hf := Lib.hid ((hk4.sub (L' := [⟨W.heap.size + 3, zC.C⟩]) (by simp)).putA d.C (by simp) (by simp) rfl)
      go_wp2_with ((with_reducible show wpList _ _ _ _ _ _); refine wpList_store_mid rfl 25 _ _ rfl (W.heap.size + 1 + 1 + 1) 0 d.C.toArray rfl rfl zr s1 o1 ?_; clear zr s1 o1; change wpList _ _ _ _ _ (w4.setCells (W.heap.size + 3) 0 d.C); generalize w4.setCells (W.heap.size + 3) 0 d.C = wf at hf ⊢)
      exact bodyPost_ret (v := .tuple #[d.V, .bool true]) (res_two Tryz.results92 rfl rfl (load_cp hf.out (List.mem_cons_self ..))) rfl ⟨by rw [hx.out]; rfl, hf.out.bl⟩
  · have hx := Lib.hid (show zC = X from by rw [hX.out]; unfold pDv; repeat rw [if_neg (by omega)])
    have hT1 : T = false := by rw [hT.out]; exact decide_eq_false hop
    subst hT1
    have n31 : (op == 31) = false := by simp; omega
    have n41 : (op == 41) = false := by simp; omega
    have n32 : (op == 32) = false := by simp; omega
    have n33 : (op == 33) = false := by simp; omega
    have n34 : (op == 34) = false := by simp; omega
    have n35 : (op == 35) = false := by simp; omega
    have n36 : (op == 36) = false := by simp; omega
    have n37 : (op == 37) = false := by simp; omega
    have n38 : (op == 38) = false := by simp; omega
    have n39 : (op == 39) = false := by simp; omega
    have n40 : (op == 40) = false := by simp; omega
    clear hop
    have s1 := size_ca zC
    have o1 := one_cp zC
    have zr := (k0.out.there (g := W.heap.size + 3) (vs := zC.C) (by simp) 0 8 (by decide))
    have hf := Lib.hid ((k0.out.sub (L' := [⟨W.heap.size + 3, zC.C⟩]) (by simp)).putA zC.C (by simp) (by simp) rfl)
    go_wp2_with ((with_reducible show wpList _ _ _ _ _ _); refine wpList_store_mid rfl 25 _ _ rfl (W.heap.size + 1 + 1 + 1) 0 zC.C.toArray rfl rfl zr s1 o1 ?_; clear zr s1 o1; change wpList _ _ _ _ _ (w1.setCells (W.heap.size + 3) 0 zC.C); generalize w1.setCells (W.heap.size + 3) 0 zC.C = wf at hf ⊢)
    exact bodyPost_ret (v := .tuple #[zC.V, .bool false]) (res_two Tryz.results92 rfl rfl (load_cp hf.out (List.mem_cons_self ..))) rfl ⟨by rw [← hx.out]; rfl, hf.out.bl⟩
end Go.Proofs.YtkmgdfcambdeeaaGreatDoor
namespace Go.Proofs.YtkmgdfcambdeeaaGreatDoor
set_option maxRecDepth 100000
open Go.RowKit
set_option linter.unusedVariables false
theorem pNumber_cp (v : Nat) (lv : v < 4294967296) (W : World) : Calls Tryz.prog 28 #[.int .u32 v] W fun ee w' => ee = .returned (numC v).V ∧ Below W.heap.size W w' := pNumber_any v lv W
theorem getB_lt (l : List UInt8) (x n : Nat) (h : n ≤ 4) : getB l x n < 4294967296 := by
  unfold getB
  split
  · have h1 := le_lt ((l.drop (x : Int).toNat).take (n : Int).toNat)
    exact Nat.lt_of_lt_of_le h1 (Nat.pow_le_pow_right (n := 256) (by decide) (show ((l.drop (x : Int).toNat).take (n : Int).toNat).length ≤ 4 by simp; omega))
  · decide
theorem ldC_fit (l : List UInt8) (f : Nat → Bool) (x : Nat) : (ldC l f x).fit :=
  ⟨nm_lt _ _ 4, nm_lt _ _ 1, nm_lt _ _ 2, nm_lt _ _ 2, nm_lt _ _ 2, nm_lt _ _ 2, Nat.lt_trans (nm_lt _ _ 3) (by decide)⟩
section
variable {w : World} {a mb wb bb cc N g : Nat} {f : Nat → Bool} {l : List UInt8}
theorem alcap_cp (H : ArAt w a mb wb bb cc N g f l) (x : Nat) (lx : x < 4294967296) (h0 : grn N x = true) : Calls Tryz.prog 62 #[.pointer (some ⟨a, 0, none⟩), .int .u32 x] w fun e w' => e = .returned (.tuple #[(ldC l f x).V, .bool true]) ∧ Below w.heap.size w w' := alcap_yes H x lx h0
set_option maxHeartbeats 4000000 in
theorem pload_any (H : ArAt w a mb wb bb cc N g f l) (F : List Cp) (hF : Fit F) (op : Int) (A B C : Nat) (hA : A < 16) (hB : B < 16) (m : Int) (n : Nat) (hn : sizN op = n) (hop : op = 17 ∨ op = 18 ∨ op = 19 ∨ op = 23) : Calls Tryz.prog 40 #[fV F, .agg #[.int .i64 op, .int .i64 A, .int .i64 B, .int .i64 C, .int .i64 m], .pointer (some ⟨a, 0, none⟩)] w fun e w' => e = .returned (.tuple #[(if wayT (reg F B) (atN F B m) n (needN F op A) N = 0 then ldV l f (reg F B) (atN F B m) op n else zC).V, .int .i64 (wayT (reg F B) (atN F B m) n (needN F op A) N)]) ∧ Below w.heap.size w w' := by
  have k0 := Lib.hid (start_fib F op A B C m w)
  have hn1 : 0 < n ∧ n ≤ 16 := by
    rw [← hn]
    rcases hop with rfl | rfl | rfl | rfl <;> decide
  have hW := Lib.hid (fun w => pwayOf_any F hF op A B C hA hB m w)
  obtain ⟨b, hb⟩ : ∃ b, b = reg F B := ⟨_, rfl⟩
  have fb : b.fit := hb ▸ hF.reg B
  obtain ⟨x, hx⟩ : ∃ x, x = atN F B m := ⟨_, rfl⟩
  have lx : x < 4294967296 := hx ▸ atN_lt F B m
  have lp := needN_lt F op A
  rw [(hx.trans (atC_eq F B m)).symm, ← hb, ← needP_eq, hn] at hW
  rw [← hb, ← hx]
  generalize needN F op A = pm at *
  have hWy := Lib.hid (fun (w : World) (H : ArAt w a mb wb bb cc N g f l) => ptrap_any H b fb x n pm lx hn1 lp)
  have hwo := Lib.hid (fun h => way_open (c := b) (a := x) (n := n) (pm := pm) (N := N) h)
  generalize wayT b x n pm N = t at *
  obtain ⟨D, hD⟩ : ∃ D, D = if t = 0 then ldV l f b x op n else zC := ⟨_, rfl⟩
  rw [← hD]
  replace hD := Lib.hid hD
  replace H := Lib.hid H
  have sz := size_fr hF.len
  clear lp hb hx
  unfold fV
  go_enter Tryz.func40, Tryz.ntmps40
  go_upto_region 1 with (fail)
  generalize (((w.alloc (.cells (fC F).toArray 28)).alloc _).alloc _) = w1 at k0 ⊢
  have rg := k0.out.range (g := w.heap.size) (vs := fC F) (by simp)
  have i0 := k0.out.cell (g := w.heap.size + 1) (j := 0) (u := .int .i64 op) (ir op A B C m) (by simp) rfl
  have i1 := k0.out.cell (g := w.heap.size + 1) (j := 1) (u := .int .i64 A) (ir op A B C m) (by simp) rfl
  have i2 := k0.out.cell (g := w.heap.size + 1) (j := 2) (u := .int .i64 B) (ir op A B C m) (by simp) rfl
  have i3 := k0.out.cell (g := w.heap.size + 1) (j := 3) (u := .int .i64 C) (ir op A B C m) (by simp) rfl
  have i4 := k0.out.cell (g := w.heap.size + 1) (j := 4) (u := .int .i64 m) (ir op A B C m) (by simp) rfl
  go_wp2_with ((with_reducible show wpList _ _ _ _ _ _); refine wpList_load_mid rfl 28 _ rfl w.heap.size 0 rfl (fC F) _ rg Tryz.underlying28 rfl sz ?_)
  refine (hW.out _).mono ?_
  rintro ee w3 ⟨rfl, h3⟩
  have k3 := Lib.hid (k0.out.below h3)
  clear h3 k0 rg i0 i1 i2 i3 i4 hW
  have k3a := k3.out.push zW 74
  have th := k3a.there (g := w3.heap.size) (vs := zW) (List.mem_cons_self ..) 0 11 (by decide)
  have q1 := k3.out.lt (g := w.heap.size + 2) (vs := zC.C) (by simp)
  have k4 := Lib.hid (k3a.putA (wyC b x n pm) (by omega) (fun x hx => by
    simp only [List.mem_cons, List.not_mem_nil, or_false] at hx
    rcases hx with rfl | rfl | rfl <;> simp only [ne_eq] <;> omega) rfl)
  have s1 := size_wa b x n pm
  have o1 := one_wa b x n pm
  clear k3a k3
  have s2 := size_wc b x n pm
  go_wp2_with ((with_reducible show wpList _ _ _ _ _ _); first | (refine wpList_store_mid rfl 74 _ _ rfl w3.heap.size 0 (wyC b x n pm).toArray rfl rfl th s1 o1 ?_; clear th s1 o1; change wpList _ _ _ _ _ ((w3.alloc (.cells zW.toArray 74)).setCells w3.heap.size 0 (wyC b x n pm)); generalize (w3.alloc (.cells zW.toArray 74)).setCells w3.heap.size 0 (wyC b x n pm) = w4 at k4 ⊢; generalize w3.heap.size = q at k4 q1 ⊢; have rg := k4.out.range (g := q) (vs := wyC b x n pm) (List.mem_cons_self ..)) | (refine wpList_load_mid rfl 74 _ rfl q 0 rfl (wyC b x n pm) _ rg Tryz.underlying74 rfl s2 ?_))
  have H4 := Lib.hid (H.out.below k4.out.bl)
  refine (hWy.out _ H4.out).mono ?_
  rintro ee w5 ⟨rfl, h5⟩
  have k5 := Lib.hid (k4.out.below h5)
  clear h5 k4 hWy H4 rg s2
  by_cases ht : t = 0
  case neg =>
    have ht' : (t == 0) = false := by simpa using ht
    have zb := k5.out.there (g := w.heap.size + 2) (vs := zC.C) (by simp) 0 8 (by decide)
    have hf := Lib.hid ((k5.out.sub (L' := [⟨w.heap.size + 2, zC.C⟩]) (by simp)).putA zC.C (by simp) (by simp) rfl)
    have s1 := size_ca zC
    have o1 := one_cp zC
    clear ht
    go_wp2_with ((with_reducible show wpList _ _ _ _ _ _); refine wpList_store_mid rfl 25 _ _ rfl (w.heap.size + 1 + 1) 0 zC.C.toArray rfl rfl zb s1 o1 ?_; clear zb s1 o1; change wpList _ _ _ _ _ (w5.setCells (w.heap.size + 2) 0 zC.C); generalize w5.setCells (w.heap.size + 2) 0 zC.C = wf at hf ⊢)
    exact bodyPost_ret (v := .tuple #[zC.V, .int .i64 t]) (res_two Tryz.results40 rfl rfl (load_cp hf.out (List.mem_cons_self ..))) rfl ⟨by rw [hD.out, if_neg (by simpa using ht')], hf.out.bl⟩
  subst ht
  have H5 := Lib.hid (H.out.below k5.out.bl)
  have i0 := k5.out.cell (g := w.heap.size + 1) (j := 0) (u := .int .i64 op) (ir op A B C m) (by simp) rfl
  have p8 : w5.cell? ⟨q, 8, none⟩ = some (.int .u32 x) := k5.out.cell (g := q) (j := 8) (wyC b x n pm) (by simp) rfl
  have p9 : w5.cell? ⟨q, 9, none⟩ = some (.int .u32 n) := k5.out.cell (g := q) (j := 9) (wyC b x n pm) (by simp) rfl
  by_cases h23 : op = 23
  case neg =>
    have e23 : (op == 23) = false := by simpa using h23
    have e24 : (op != 23) = true := by simpa using h23
    have hn4 : n ≤ 4 := by
      rw [← hn]
      rcases hop with rfl | rfl | rfl | rfl
      · decide
      · decide
      · decide
      · exact absurd rfl h23
    have hLd := Lib.hid (fun (w : World) (H : ArAt w a mb wb bb cc N g f l) => aload_any H x n lx)
    have lv := getB_lt l x n hn4
    have hdD := Lib.hid (show numC (getB l x n) = D from by rw [hD.out, if_pos rfl]; unfold ldV; rw [if_neg h23])
    generalize getB l x n = v at *
    generalize inB N x n = vb at hLd
    obtain ⟨d, hd⟩ : ∃ d, d = numC v := ⟨_, rfl⟩
    have hNm := Lib.hid (fun w => hd ▸ pNumber_cp v lv w)
    rw [← hd] at hdD
    clear hd hop h23
    go_wp2_with fail
    refine (hLd.out _ H5.out).mono ?_
    rintro ee w6 ⟨rfl, h6⟩
    have k6 := Lib.hid (k5.out.below h6)
    clear h6 k5 H5 hLd i0 p8 p9
    go_wp2_with fail
    refine (hNm.out _).mono ?_
    rintro ee w7 ⟨rfl, h7⟩
    have k7 := k6.out.below h7
    clear h7 k6 hNm
    have zb := k7.there (g := w.heap.size + 2) (vs := zC.C) (by simp) 0 8 (by decide)
    have hf := Lib.hid ((k7.sub (L' := [⟨w.heap.size + 2, zC.C⟩]) (by simp)).putA d.C (by simp) (by simp) rfl)
    have s1 := size_ca d
    have o1 := one_cp d
    clear k7
    go_wp2_with ((with_reducible show wpList _ _ _ _ _ _); refine wpList_store_mid rfl 25 _ _ rfl (w.heap.size + 1 + 1) 0 d.C.toArray rfl rfl zb s1 o1 ?_; clear zb s1 o1; change wpList _ _ _ _ _ (w7.setCells (w.heap.size + 2) 0 d.C); generalize w7.setCells (w.heap.size + 2) 0 d.C = wf at hf ⊢)
    exact bodyPost_ret (v := .tuple #[d.V, .int .i64 0]) (res_two Tryz.results40 rfl rfl (load_cp hf.out (List.mem_cons_self ..))) rfl ⟨by rw [hdD.out], hf.out.bl⟩
  subst h23
  have hn16 : n = 16 := by rw [← hn]; rfl
  subst hn16
  have hgr : grn N x = true := by
    have h := hwo.out rfl
    have hN := H5.out.hn
    simp only [grn, thr, Bool.and_eq_true, decide_eq_true_eq]
    omega
  have hL := Lib.hid (fun w (H : ArAt w a mb wb bb cc N g f l) => alcap_cp H x lx hgr)
  obtain ⟨d, hd⟩ : ∃ d, d = ldC l f x := ⟨_, rfl⟩
  have hdD := Lib.hid (show (if b.pm &&& 8 = 0 then cClear d else d) = D from by rw [hd, hD.out, if_pos rfl]; rfl)
  rw [← hd] at hL
  have fd : d.fit := hd ▸ ldC_fit l f x
  clear hd hD hop hwo hn hgr p9
  have eP := u16_and_nat b.pm 8 fb.l4 (by decide)
  go_wp2_with fail
  refine (hL.out _ H5.out).mono ?_
  rintro ee w6 ⟨rfl, h6⟩
  have k6 := Lib.hid (k5.out.below h6)
  clear h6 k5 H5 hL i0 p8
  have q2 := k6.out.lt (g := q) (vs := wyC b x 16 pm) (by simp)
  have q3 := k6.out.lt (g := w.heap.size + 2) (vs := zC.C) (by simp)
  have k6a := k6.out.push zC.C 25
  have th := k6a.there (g := w6.heap.size) (vs := zC.C) (List.mem_cons_self ..) 0 8 (by decide)
  have k7 := Lib.hid (k6a.putA d.C (by omega) (fun x hx => by
    simp only [List.mem_cons, List.not_mem_nil, or_false] at hx
    rcases hx with rfl | rfl | rfl | rfl <;> simp only [ne_eq] <;> omega) rfl)
  have s1 := size_ca d
  have o1 := one_cp d
  clear k6a k6
  by_cases hp : b.pm &&& 8 = 0
  · have e1 : (bits BinOp.and IntKind.u16 (b.pm : Int) 8 == 0) = true := by rw [show bits BinOp.and IntKind.u16 (b.pm : Int) 8 = ((b.pm &&& 8 : Nat) : Int) from eP, hp]; rfl
    obtain ⟨y, hy⟩ : ∃ y, y = cClear d := ⟨_, rfl⟩
    have hC := Lib.hid (fun w => hy ▸ pClear_cp d fd w)
    have hdE := Lib.hid (show y = D from by rw [hy, ← hdD.out, if_pos hp])
    clear eP hp hdD hy
    go_wp2_with ((with_reducible show wpList _ _ _ _ _ _); first | (refine wpList_store_mid rfl 25 _ _ rfl w6.heap.size 0 d.C.toArray rfl rfl th s1 o1 ?_; clear th s1 o1; change wpList _ _ _ _ _ ((w6.alloc (.cells zC.C.toArray 25)).setCells w6.heap.size 0 d.C); generalize (w6.alloc (.cells zC.C.toArray 25)).setCells w6.heap.size 0 d.C = w7 at k7 ⊢; generalize w6.heap.size = z at k7 q2 q3 ⊢; have p4 : w7.cell? ⟨q, 4, none⟩ = some (.int .u16 b.pm) := k7.out.cell (g := q) (j := 4) (wyC b x 16 pm) (by simp) rfl; have rg := k7.out.range (g := z) (vs := d.C) (List.mem_cons_self ..)) | (refine wpList_load_mid rfl 25 _ rfl z 0 rfl d.C _ rg Tryz.underlying25 rfl (size_cp d) ?_))
    refine (hC.out _).mono ?_
    rintro ee w8 ⟨rfl, h8⟩
    have k8 := k7.out.below h8
    have th := k8.there (g := z) (vs := d.C) (List.mem_cons_self ..) 0 8 (by rw [Cp.C_len]; decide)
    have q4 := k7.out.bl.size
    clear h8 k7 p4 rg hC
    have k9 := Lib.hid (k8.putA y.C (by omega) (fun x hx => by
      simp only [List.mem_cons, List.not_mem_nil, or_false] at hx
      rcases hx with rfl | rfl | rfl | rfl <;> simp only [ne_eq] <;> omega) rfl)
    have s1 := size_ca y
    have o1 := one_cp y
    have s2 := size_ca y
    have o2 := one_cp y
    clear k8
    go_wp2_with ((with_reducible show wpList _ _ _ _ _ _); first | (refine wpList_store_mid rfl 25 _ _ rfl z 0 y.C.toArray rfl rfl th s1 o1 ?_; clear th s1 o1; change wpList _ _ _ _ _ (w8.setCells z 0 y.C); generalize w8.setCells z 0 y.C = w9 at k9 ⊢; have rg := k9.out.range (g := z) (vs := y.C) (List.mem_cons_self ..); have zb := k9.out.there (g := w.heap.size + 2) (vs := zC.C) (by simp) 0 8 (by decide); have hf := Lib.hid ((k9.out.sub (L' := [⟨w.heap.size + 2, zC.C⟩]) (by simp)).putA y.C (by simp) (by simp) rfl)) | (refine wpList_load_mid rfl 25 _ rfl z 0 rfl y.C _ rg Tryz.underlying25 rfl (size_cp y) ?_) | (refine wpList_store_mid rfl 25 _ _ rfl (w.heap.size + 1 + 1) 0 y.C.toArray rfl rfl zb s2 o2 ?_; clear zb s2 o2; change wpList _ _ _ _ _ (w9.setCells (w.heap.size + 2) 0 y.C); generalize w9.setCells (w.heap.size + 2) 0 y.C = wf at hf ⊢))
    exact bodyPost_ret (v := .tuple #[y.V, .int .i64 0]) (res_two Tryz.results40 rfl rfl (load_cp hf.out (List.mem_cons_self ..))) rfl ⟨by rw [hdE.out], hf.out.bl⟩
  · have e1 : (bits BinOp.and IntKind.u16 (b.pm : Int) 8 == 0) = false := by rw [show bits BinOp.and IntKind.u16 (b.pm : Int) 8 = ((b.pm &&& 8 : Nat) : Int) from eP]; simp; omega
    have hdE := Lib.hid (show d = D from by rw [← hdD.out, if_neg hp])
    clear eP hp hdD
    have s2 := size_ca d
    have o2 := one_cp d
    go_wp2_with ((with_reducible show wpList _ _ _ _ _ _); first | (refine wpList_store_mid rfl 25 _ _ rfl w6.heap.size 0 d.C.toArray rfl rfl th s1 o1 ?_; clear th s1 o1; change wpList _ _ _ _ _ ((w6.alloc (.cells zC.C.toArray 25)).setCells w6.heap.size 0 d.C); generalize (w6.alloc (.cells zC.C.toArray 25)).setCells w6.heap.size 0 d.C = w7 at k7 ⊢; generalize w6.heap.size = z at k7 q2 q3 ⊢; have p4 : w7.cell? ⟨q, 4, none⟩ = some (.int .u16 b.pm) := k7.out.cell (g := q) (j := 4) (wyC b x 16 pm) (by simp) rfl; have rg := k7.out.range (g := z) (vs := d.C) (List.mem_cons_self ..); have zb := k7.out.there (g := w.heap.size + 2) (vs := zC.C) (by simp) 0 8 (by decide); have hf := Lib.hid ((k7.out.sub (L' := [⟨w.heap.size + 2, zC.C⟩]) (by simp)).putA d.C (by simp) (by simp) rfl)) | (refine wpList_load_mid rfl 25 _ rfl z 0 rfl d.C _ rg Tryz.underlying25 rfl (size_cp d) ?_) | (refine wpList_store_mid rfl 25 _ _ rfl (w.heap.size + 1 + 1) 0 d.C.toArray rfl rfl zb s2 o2 ?_; clear zb s2 o2; change wpList _ _ _ _ _ (w7.setCells (w.heap.size + 2) 0 d.C); generalize w7.setCells (w.heap.size + 2) 0 d.C = wf at hf ⊢))
    exact bodyPost_ret (v := .tuple #[d.V, .int .i64 0]) (res_two Tryz.results40 rfl rfl (load_cp hf.out (List.mem_cons_self ..))) rfl ⟨by rw [hdE.out], hf.out.bl⟩
set_option maxHeartbeats 4000000 in
theorem pstore_any (H : ArAt w a mb wb bb cc N g f l) (F : List Cp) (hF : Fit F) (op : Int) (A B C : Nat) (hA : A < 16) (hB : B < 16) (m : Int) (n : Nat) (hn : sizN op = n) (hop : op = 20 ∨ op = 21 ∨ op = 22 ∨ op = 24) : Calls Tryz.prog 41 #[fV F, .agg #[.int .i64 op, .int .i64 A, .int .i64 B, .int .i64 C, .int .i64 m], .pointer (some ⟨a, 0, none⟩)] w (Nxt a mb wb bb cc N g (if wayT (reg F B) (atN F B m) n (needN F op A) N = 0 then stoF N f (reg F A) (atN F B m) op n else f) (if wayT (reg F B) (atN F B m) n (needN F op A) N = 0 then stoL N l (reg F A) (atN F B m) op n else l) w (.int .i64 (wayT (reg F B) (atN F B m) n (needN F op A) N))) := by
  have k0 := Lib.hid (start_fi F op A B C m w)
  have hn1 : 0 < n ∧ n ≤ 16 := by
    rw [← hn]
    rcases hop with rfl | rfl | rfl | rfl <;> decide
  have hW := Lib.hid (fun w => pwayOf_any F hF op A B C hA hB m w)
  obtain ⟨b, hb⟩ : ∃ b, b = reg F B := ⟨_, rfl⟩
  have fb : b.fit := hb ▸ hF.reg B
  obtain ⟨x, hx⟩ : ∃ x, x = atN F B m := ⟨_, rfl⟩
  have lx : x < 4294967296 := hx ▸ atN_lt F B m
  have lp := needN_lt F op A
  rw [(hx.trans (atC_eq F B m)).symm, ← hb, ← needP_eq, hn] at hW
  rw [← hb, ← hx]
  generalize needN F op A = pm at *
  have hWy := Lib.hid (fun (w : World) (H : ArAt w a mb wb bb cc N g f l) => ptrap_any H b fb x n pm lx hn1 lp)
  have hwo := Lib.hid (fun h => way_open (c := b) (a := x) (n := n) (pm := pm) (N := N) h)
  generalize wayT b x n pm N = t at *
  obtain ⟨o, ho⟩ : ∃ o, o = reg F A := ⟨_, rfl⟩
  have fo : o.fit := ho ▸ hF.reg A
  have ga := reg_get (F := F) (i := A) (by rw [hF.len]; omega)
  rw [← ho] at ga ⊢
  replace ga := Lib.hid ga
  clear ho
  obtain ⟨f2, hf2⟩ : ∃ f2, f2 = if t = 0 then stoF N f o x op n else f := ⟨_, rfl⟩
  obtain ⟨l2, hl2⟩ : ∃ l2, l2 = if t = 0 then stoL N l o x op n else l := ⟨_, rfl⟩
  rw [← hf2, ← hl2]
  replace hf2 := Lib.hid hf2
  replace hl2 := Lib.hid hl2
  replace H := Lib.hid H
  have sz := size_fr hF.len
  clear lp hb hx
  unfold fV
  go_enter Tryz.func41, Tryz.ntmps41
  go_upto_region 1 with (fail)
  generalize ((w.alloc (.cells (fC F).toArray 28)).alloc _) = w1 at k0 ⊢
  have rg := k0.out.range (g := w.heap.size) (vs := fC F) (by simp)
  have i0 := k0.out.cell (g := w.heap.size + 1) (j := 0) (u := .int .i64 op) (ir op A B C m) (by simp) rfl
  have i1 := k0.out.cell (g := w.heap.size + 1) (j := 1) (u := .int .i64 A) (ir op A B C m) (by simp) rfl
  have i2 := k0.out.cell (g := w.heap.size + 1) (j := 2) (u := .int .i64 B) (ir op A B C m) (by simp) rfl
  have i3 := k0.out.cell (g := w.heap.size + 1) (j := 3) (u := .int .i64 C) (ir op A B C m) (by simp) rfl
  have i4 := k0.out.cell (g := w.heap.size + 1) (j := 4) (u := .int .i64 m) (ir op A B C m) (by simp) rfl
  go_wp2_with ((with_reducible show wpList _ _ _ _ _ _); refine wpList_load_mid rfl 28 _ rfl w.heap.size 0 rfl (fC F) _ rg Tryz.underlying28 rfl sz ?_)
  refine (hW.out _).mono ?_
  rintro ee w3 ⟨rfl, h3⟩
  have k3 := Lib.hid (k0.out.below h3)
  clear h3 k0 rg i0 i1 i2 i3 i4 hW
  have k3a := k3.out.push zW 74
  have th := k3a.there (g := w3.heap.size) (vs := zW) (List.mem_cons_self ..) 0 11 (by decide)
  have q1 := k3.out.lt (g := w.heap.size + 1) (vs := ir op A B C m) (by simp)
  have k4 := Lib.hid (k3a.putA (wyC b x n pm) (by omega) (fun x hx => by
    simp only [List.mem_cons, List.not_mem_nil, or_false] at hx
    rcases hx with rfl | rfl <;> simp only [ne_eq] <;> omega) rfl)
  have s1 := size_wa b x n pm
  have o1 := one_wa b x n pm
  clear k3a k3
  have s2 := size_wc b x n pm
  go_wp2_with ((with_reducible show wpList _ _ _ _ _ _); first | (refine wpList_store_mid rfl 74 _ _ rfl w3.heap.size 0 (wyC b x n pm).toArray rfl rfl th s1 o1 ?_; clear th s1 o1; change wpList _ _ _ _ _ ((w3.alloc (.cells zW.toArray 74)).setCells w3.heap.size 0 (wyC b x n pm)); generalize (w3.alloc (.cells zW.toArray 74)).setCells w3.heap.size 0 (wyC b x n pm) = w4 at k4 ⊢; generalize w3.heap.size = q at k4 q1 ⊢; have rg := k4.out.range (g := q) (vs := wyC b x n pm) (List.mem_cons_self ..)) | (refine wpList_load_mid rfl 74 _ rfl q 0 rfl (wyC b x n pm) _ rg Tryz.underlying74 rfl s2 ?_))
  have H4 := Lib.hid (H.out.below k4.out.bl)
  refine (hWy.out _ H4.out).mono ?_
  rintro ee w5 ⟨rfl, h5⟩
  have k5 := Lib.hid (k4.out.below h5)
  clear h5 k4 hWy H4 rg s2
  by_cases ht : t = 0
  case neg =>
    have ht' : (t == 0) = false := by simpa using ht
    have e1 : f2 = f := by rw [hf2.out, if_neg ht]
    have e2 : l2 = l := by rw [hl2.out, if_neg ht]
    subst e1 e2
    clear ht
    go_wp2_with fail
    go_ret
    exact nxt_below H.out ⟨rfl, k5.out.bl⟩
  subst ht
  have H5 := Lib.hid (H.out.below k5.out.bl)
  have i0 := k5.out.cell (g := w.heap.size + 1) (j := 0) (u := .int .i64 op) (ir op A B C m) (by simp) rfl
  have i1 := k5.out.cell (g := w.heap.size + 1) (j := 1) (u := .int .i64 A) (ir op A B C m) (by simp) rfl
  have p8 : w5.cell? ⟨q, 8, none⟩ = some (.int .u32 x) := k5.out.cell (g := q) (j := 8) (wyC b x n pm) (by simp) rfl
  have p9 : w5.cell? ⟨q, 9, none⟩ = some (.int .u32 n) := k5.out.cell (g := q) (j := 9) (wyC b x n pm) (by simp) rfl
  obtain ⟨a0, a1, a2, a3, a4, a5, a6, a7⟩ := k5.out.reg (g := w.heap.size) (F := F) (by simp) ga.out
  have jA0 : (0 : Int) ≤ (A : Int) := by omega
  have jA1 : (A : Int) < 16 := by omega
  have jn0 : (0 : Int) ≤ (n : Int) := by omega
  have jn1 : (n : Int) ≤ 16 := by omega
  by_cases h24 : op = 24
  case neg =>
    have e24 : (op == 24) = false := by simpa using h24
    have hn4 : n = 1 ∨ n = 2 ∨ n = 4 := by
      rw [← hn]
      rcases hop with rfl | rfl | rfl | rfl
      · exact .inl rfl
      · exact .inr (.inl rfl)
      · exact .inr (.inr rfl)
      · exact absurd rfl h24
    have hSt := Lib.hid (fun (w : World) (H : ArAt w a mb wb bb cc N g f l) => astore_any H (n : Int) o.cu x lx fo.l0)
    have e1 := Lib.hid (show f2 = _ from (hf2.out.trans (if_pos rfl)).trans (if_neg h24))
    have e2 := Lib.hid (show l2 = _ from (hl2.out.trans (if_pos rfl)).trans (if_neg h24))
    clear hop h24
    go_wp2_with fail
    go_still_tail 12, (by kernel_rfl)
    repeat still_step
    change wpList _ _ _ _ _ w5.drew
    have HD := Lib.hid H5.out.drew
    go_wp2_with fail
    refine (hSt.out _ HD.out).mono ?_
    rintro ee w6 ⟨rfl, H6, h6⟩
    have hO := Lib.hid ((Of2.of_below (x := wb) (y := bb) (k5.out.bl.trans ((Below.refl _ _).drew))).step h6)
    clear HD
    replace H6 := Lib.hid H6
    clear h6 k5 H5 hSt i0 i1 p8 p9 a0 a1 a2 a3 a4 a5 a6 a7
    go_wp2_with fail
    go_ret
    exact ⟨rfl, H6.out.ext (fun k => by rw [e1.out]) e2.out.symm, hO.out⟩
  subst h24
  have hSt := Lib.hid (fun (w : World) (H : ArAt w a mb wb bb cc N g f l) => ascap_any H o.cu o.e o.b o.t o.pm o.ty o.rs o.va x fo.l0 fo.l1 fo.l2 fo.l3 fo.l4 fo.l5 fo.l6 lx)
  have e1 := Lib.hid (show f2 = _ from (hf2.out.trans (if_pos rfl)).trans (if_pos rfl))
  have e2 := Lib.hid (show l2 = _ from (hl2.out.trans (if_pos rfl)).trans (if_pos rfl))
  clear hop
  go_wp2_with fail
  go_still_tail 8, (by kernel_rfl)
  repeat still_step
  change wpList _ _ _ _ _ w5.drew
  have HD := Lib.hid H5.out.drew
  go_wp2_with fail
  refine (hSt.out _ HD.out).mono ?_
  rintro ee w6 ⟨rfl, H6, h6⟩
  have hO := Lib.hid ((Of2.of_below (x := wb) (y := bb) (k5.out.bl.trans ((Below.refl _ _).drew))).step h6)
  clear HD
  replace H6 := Lib.hid H6
  clear h6 k5 H5 hSt i0 i1 p8 p9 a0 a1 a2 a3 a4 a5 a6 a7
  go_wp2_with fail
  go_ret
  exact ⟨rfl, H6.out.ext (fun k => by rw [e1.out]) e2.out.symm, hO.out⟩
end
end Go.Proofs.YtkmgdfcambdeeaaGreatDoor
