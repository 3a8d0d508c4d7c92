/- For core. -/
import Derived.Laws.ResultCell
import Derived.Test.YtkmgdfcambdeeaaGreatDoorQat
namespace Go.Proofs.YtkmgdfcambdeeaaGreatDoor
open Lib (hid)
set_option maxRecDepth 100000
open Go.RowKit
set_option linter.unusedVariables false
theorem res_two {P : Program} {fn : Func} {p u : Tmp} {ty : TypeId} (h : fn.results = #[.cell p ty, .tmp u]) {tmps : Array Value} {w : World} {g : Nat} {v x : Value} (hp : tmps.getD p undef = .pointer (some ⟨g, 0, none⟩)) (hu : tmps.getD u undef = x) (hl : (loadVar ty ⟨g, 0, none⟩).run P w = .ok v w) : (results fn tmps).run P w = .ok (.tuple #[v, x]) w := by
 rw [results_cell_tmp h, hp, hu]
 simp [asAddr, hl]
theorem rAnd_cp (c : Cp) (h : c.fit) (n : Nat) (ln : n < 4294967296) (W : World) : Calls Tryz.prog 104 #[c.V, .int .u32 n] W fun ee w' => ee = .returned (cAnd c n).V ∧ Below W.heap.size W w' :=
 rAnd_any c.cu c.e c.b c.t c.pm c.ty c.rs c.va n h.l4 ln W
theorem rSet_cp (c : Cp) (h : c.fit) (n : Nat) (ln : n < 4294967296) (W : World) : Calls Tryz.prog 102 #[c.V, .int .u32 n] W fun ee w' => ee = .returned (cSet c n).V ∧ Below W.heap.size W w' :=
 rSet_any c.cu c.e c.b c.t c.pm c.ty c.rs c.va n h.l0 h.l1 h.l2 h.l3 h.l4 h.l5 h.l6 ln W
theorem rExact_cp (c : Cp) (h : c.fit) (n : Nat) (ln : n < 4294967296) (W : World) : Calls Tryz.prog 103 #[c.V, .int .u32 n] W fun ee w' => ee = .returned (cExact c n).V ∧ Below W.heap.size W w' :=
 rExact_any c.cu c.e c.b c.t c.pm c.ty c.rs c.va n h.l0 h.l1 h.l2 h.l3 h.l4 h.l5 h.l6 ln W
theorem rClear_cp (c : Cp) (W : World) : Calls Tryz.prog 101 #[c.V] W fun ee w' => ee = .returned (cClear c).V ∧ Below W.heap.size W w' :=
 rClear_any c.cu c.e c.b c.t c.pm c.ty c.rs c.va W
theorem rSeal_cp (c y : Cp) (h : c.fit) (k : y.fit) (W : World) : Calls Tryz.prog 105 #[c.V, y.V] W fun ee w' => ee = .returned (cSeal c y).V ∧ Below W.heap.size W w' :=
 rSeal_any c.cu c.e c.b c.t c.pm c.ty c.rs c.va y.cu y.e y.b y.t y.pm y.ty y.rs y.va k.l0 k.l1 k.l2 k.l3 k.l4 k.l5 k.l6 W
theorem rOpen_cp (c y : Cp) (h : c.fit) (k : y.fit) (W : World) : Calls Tryz.prog 106 #[c.V, y.V] W fun ee w' => ee = .returned (cOpen c y).V ∧ Below W.heap.size W w' :=
 rOpen_any c.cu c.e c.b c.t c.pm c.ty c.rs c.va y.cu y.e y.b y.t y.pm y.ty y.rs y.va h.l5 k.l0 k.l1 k.l2 k.l3 k.l4 k.l5 k.l6 W
theorem rBuild_cp (c y : Cp) (h : c.fit) (k : y.fit) (W : World) : Calls Tryz.prog 107 #[c.V, y.V] W fun ee w' => ee = .returned (cBuild c y).V ∧ Below W.heap.size W w' :=
 rBuild_any c.cu c.e c.b c.t c.pm c.ty c.rs c.va y.cu y.e y.b y.t y.pm y.ty y.rs y.va h.l0 h.l1 h.l2 h.l3 h.l4 h.l5 h.l6 k.l0 k.l1 k.l2 k.l3 k.l4 k.l5 k.l6 W
theorem rIsNumber_cp (c : Cp) (W : World) : Calls Tryz.prog 109 #[c.V] W fun ee w' => ee = .returned (.bool (isNumP c.e c.b c.t c.pm c.ty c.rs c.va)) ∧ Below W.heap.size W w' :=
 rIsNumber_any c.cu c.e c.b c.t c.pm c.ty c.rs c.va W
theorem start_der (F : List Cp) (op A B C m : Int) (W : World) : KR W [⟨W.heap.size + 2, zC.C⟩, ⟨W.heap.size + 1, ir op A B C m⟩, ⟨W.heap.size, fC F⟩] (((W.alloc (.cells (fC F).toArray 28)).alloc (.cells #[.int .i64 op, .int .i64 A, .int .i64 B, .int .i64 C, .int .i64 m] 30)).alloc (.cells #[.int .u32 0, .int .u8 0, .int .u16 0, .int .u16 0, .int .u16 0, .int .u16 0, .int .u32 0, .bool false] 25)) := by
 have := (((KR.start (W := W)).push (fC F) 28).push (ir op A B C m) 30).push zC.C 25
 rw [show ((W.alloc (Obj.cells (fC F).toArray 28)).alloc (Obj.cells (ir op A B C m).toArray 30)).heap.size = W.heap.size + 2 from by simp, show (W.alloc (Obj.cells (fC F).toArray 28)).heap.size = W.heap.size + 1 from by simp] at this
 exact this
def dDer (F : List Cp) (op : Int) (b c : Cp) (m : Int) : Cp :=
 if op = 1 then numC (m % 4294967296).toNat
 else if op = 2 then numC (m % 4294967296 * 4096 % 4294967296).toNat
 else if op = 16 then numC (((b.cu : Int) + m % 4294967296) % 4294967296).toNat
 else if op = 31 then b
 else if op = 41 then cClear b
 else if op = 32 then cAddr b (((b.cu : Int) + (c.cu : Int)) % 4294967296).toNat
 else if op = 33 then cAddr b (((b.cu : Int) + m % 4294967296) % 4294967296).toNat
 else if op = 34 then cAddr b c.cu
 else if op = 35 then cSet b c.cu
 else if op = 36 then cExact b c.cu
 else if op = 37 then cAnd b c.cu
 else if op = 38 then cSeal b c
 else if op = 39 then cOpen b c
 else if op = 40 then cBuild c b
 else if op = 42 then numC b.cu
 else if op = 43 then numC (deB b.e b.b b.t b.cu).toNat
 else if op = 44 then numC (min (deT b.e b.b b.t b.cu - deB b.e b.b b.t b.cu) 4294967295).toNat
 else if op = 45 then numC b.pm
 else if op = 46 then numC b.ty
 else if op = 47 then numC (if b.va then 1 else 0)
 else if op = 48 then numC (if isNumP b.e b.b b.t b.pm b.ty b.rs b.va then 1 else 0)
 else if op = 49 then fur F m
 else zC
def isD (op : Int) : Bool := decide (op = 1 ∨ op = 2 ∨ op = 16 ∨ op = 31 ∨ op = 41 ∨ op = 32 ∨ op = 33 ∨ op = 34 ∨ op = 35 ∨ op = 36 ∨ op = 37 ∨ op = 38 ∨ op = 39 ∨ op = 40 ∨ op = 42 ∨ op = 43 ∨ op = 44 ∨ op = 45 ∨ op = 46 ∨ op = 47 ∨ op = 48 ∨ op = 49)
set_option maxHeartbeats 40000000 in
theorem rDer_any (F : List Cp) (hF : Fit F) (op : Int) (A B C : Nat) (hA : A < 16) (hB : B < 16) (hC : C < 16) (m : Int) (W : World) : Calls Tryz.prog 54 #[fV F, .agg #[.int .i64 op, .int .i64 A, .int .i64 B, .int .i64 C, .int .i64 m]] W fun e w' => e = .returned (.tuple #[(dDer F op (reg F B) (reg F C) m).V, .bool (isD op)]) ∧ Below W.heap.size W w' := by
 have k0 := hid (start_der F op A B C m W)
 obtain ⟨b, hb⟩ : ∃ b, b = reg F B := ⟨_, rfl⟩
 obtain ⟨c, hc⟩ : ∃ c, c = reg F C := ⟨_, rfl⟩
 have gb := reg_get (F := F) (i := B) (by rw [hF.len]; omega)
 have gc := reg_get (F := F) (i := C) (by rw [hF.len]; omega)
 rw [← hb] at gb
 rw [← hc] at gc
 rw [← hb, ← hc]
 have fb : b.fit := hb ▸ hF.reg B
 have fc : c.fit := hc ▸ hF.reg C
 replace gb := hid gb
 replace gc := hid gc
 clear hb hc
 unfold fV
 go_enter Tryz.func54, Tryz.ntmps54
 go_upto_region 1 with (fail)
 generalize (((W.alloc (.cells (fC F).toArray 28)).alloc _).alloc _) = w1 at k0 ⊢
 rename_i K aK
 have hcont : ∀ (bb cc : Nat) (w' : World), KR W [⟨bb, b.C⟩, ⟨cc, c.C⟩, ⟨W.heap.size + 2, zC.C⟩, ⟨W.heap.size + 1, ir op A B C m⟩, ⟨W.heap.size, fC F⟩] w' → K ⟨#[.agg (fC F).toArray, .agg #[.int .i64 op, .int .i64 A, .int .i64 B, .int .i64 C, .int .i64 m], .pointer (some ⟨W.heap.size, 0, none⟩), .pointer (some ⟨W.heap.size + 1, 0, none⟩), .pointer (some ⟨W.heap.size + 1 + 1, 0, none⟩), .bool false, .pointer (some ⟨bb, 0, none⟩), .pointer (some ⟨cc, 0, none⟩), undef, undef, .pointer (some ⟨W.heap.size + 1, 2, none⟩), .int .i64 B, .pointer (some ⟨W.heap.size, 0, none⟩), .pointer (some ⟨W.heap.size, B * 8, none⟩), .agg #[.int .u32 b.cu, .int .u8 b.e, .int .u16 b.b, .int .u16 b.t, .int .u16 b.pm, .int .u16 b.ty, .int .u32 b.rs, .bool b.va], .pointer (some ⟨W.heap.size + 1, 3, none⟩), .int .i64 C, .pointer (some ⟨W.heap.size, 0, none⟩), .pointer (some ⟨W.heap.size, C * 8, none⟩), .agg #[.int .u32 c.cu, .int .u8 c.e, .int .u16 c.b, .int .u16 c.t, .int .u16 c.pm, .int .u16 c.ty, .int .u32 c.rs, .bool c.va], undef, undef, undef, undef, undef, undef, undef, undef, undef, undef, undef, undef, undef, undef, undef, undef, undef, undef, undef, undef, undef, undef, undef, undef, undef, undef, undef, undef, undef, undef, undef, undef, undef, undef, undef, undef, undef, undef, undef, undef, undef, undef, undef, undef, undef, undef, undef, undef, undef, undef, undef, undef, undef, undef, undef, undef, undef, undef, undef, undef, undef, undef, undef, undef, undef, undef, undef, undef, undef, undef, undef, undef, undef, undef, undef, undef, undef, undef, undef, undef, undef, undef, undef, undef, undef, undef, undef, undef, undef, undef, undef, undef, undef, undef, undef, undef, undef, undef, undef, undef, undef, undef, undef, undef, undef, undef, undef, undef, undef, undef, undef, undef, undef, undef, undef, undef, undef, undef, undef, undef, undef, undef, undef, undef, undef, undef, undef, undef, undef, undef, undef, undef, undef, undef, undef, undef, undef, undef, undef, undef, undef], []⟩ w' := by
   intro bb cc w2 hk
   obtain ⟨p0, p1, p2, p3, p4, p5, p6, p7⟩ := (hk.cap (g := bb) (List.mem_cons_self ..) : CapAt _ _ b.cu b.e b.b b.t b.pm b.ty b.rs b.va)
   replace hk := hid hk
   go_wp2_with fail
   refine (rRange_any b.cu b.e b.b b.t b.pm b.ty b.rs b.va _ fb.l0).mono ?_
   rintro ee w3 ⟨rfl, h1⟩
   have hk3 := hk.out.below h1
   clear h1 hk p0 p1 p2 p3 p4 p5 p6 p7
   obtain ⟨b0, b1, b2, b3⟩ := de_bounds b.e b.b b.t b.cu
   obtain ⟨lo, hlo⟩ : ∃ x, x = deB b.e b.b b.t b.cu := ⟨_, rfl⟩
   obtain ⟨hi, hhi⟩ : ∃ x, x = deT b.e b.b b.t b.cu := ⟨_, rfl⟩
   rw [← hlo] at b0 b1 b2 ⊢
   rw [← hhi] at b2 b3 ⊢
   replace hlo := hid hlo
   replace hhi := hid hhi
   obtain ⟨p0, p1, p2, p3, p4, p5, p6, p7⟩ := (hk3.cap (g := bb) (List.mem_cons_self ..) : CapAt _ _ b.cu b.e b.b b.t b.pm b.ty b.rs b.va)
   obtain ⟨c0, c1, c2, c3, c4, c5, c6, c7⟩ := (hk3.cap (g := cc) (by simp [Cp.C]) : CapAt _ _ c.cu c.e c.b c.t c.pm c.ty c.rs c.va)
   have i0 := hk3.cell (g := W.heap.size + 1) (j := 0) (u := .int .i64 op) (ir op A B C m) (by simp) rfl
   have i4 := hk3.cell (g := W.heap.size + 1) (j := 4) (u := .int .i64 m) (ir op A B C m) (by simp) rfl
   have zr := hk3.there (g := W.heap.size + 2) (vs := zC.C) (by simp) 0 8 (by decide)
   replace hk3 := hid hk3
   replace zr := hid zr
   by_cases hop : op = 1 ∨ op = 2 ∨ op = 16 ∨ op = 31 ∨ op = 41 ∨ op = 32 ∨ op = 33 ∨ op = 34 ∨ op = 35 ∨ op = 36 ∨ op = 37 ∨ op = 38 ∨ op = 39 ∨ op = 40 ∨ op = 42 ∨ op = 43 ∨ op = 44 ∨ op = 45 ∨ op = 46 ∨ op = 47 ∨ op = 48 ∨ op = 49
   · clear zr
     rcases hop with rfl | rfl | rfl | rfl | rfl | rfl | rfl | rfl | rfl | rfl | rfl | rfl | rfl | rfl | rfl | rfl | rfl | rfl | rfl | rfl | rfl | rfl
     · obtain ⟨n, hn, ln⟩ : ∃ n : Nat, m % 4294967296 = (n : Int) ∧ n < 4294967296 := ⟨(m % 4294967296).toNat, by omega, by omega⟩
       obtain ⟨d, hd⟩ : ∃ d : Cp, d = numC n := ⟨_, rfl⟩
       have hC : Hid (∀ w, Calls Tryz.prog 53 #[.int .u32 n] w fun e w' => e = .returned d.V ∧ Below w.heap.size w w') := hid (fun w => hd ▸ rNumber_any n w)
       have hx := hid (show d = dDer F 1 b c m from by rw [hd, show n = (m % 4294967296).toNat from by rw [hn]; rfl]; rfl)
       clear hd
       go_wp2_with fail
       refine (hC.out _).mono ?_
       rintro ee w4 ⟨rfl, h1⟩
       have hk4 := hk3.out.below h1
       clear h1 hC hk3 p0 p1 p2 p3 p4 p5 p6 p7 c0 c1 c2 c3 c4 c5 c6 c7 i0 i4
       have s1 := size_ca d
       have o1 := one_cp d
       have zr := (hk4.there (g := W.heap.size + 2) (vs := zC.C) (by simp) 0 8 (by decide))
       have hf := hid ((hk4.sub (L' := [⟨W.heap.size + 2, zC.C⟩]) (by simp)).putA d.C (by simp) (by simp) rfl)
       go_wp2_with ((with_reducible show wpList _ _ _ _ _ _); refine wpList_store_mid rfl 25 _ _ rfl (W.heap.size + 1 + 1) 0 d.C.toArray rfl rfl zr s1 o1 ?_; clear zr s1 o1; change wpList _ _ _ _ _ (w4.setCells (W.heap.size + 2) 0 d.C); generalize w4.setCells (W.heap.size + 2) 0 d.C = wf at hf ⊢)
       exact bodyPost_ret (v := .tuple #[d.V, .bool true]) (res_two Tryz.results54 rfl rfl (load_cp hf.out (List.mem_cons_self ..))) rfl ⟨by rw [hx.out]; rfl, hf.out.bl⟩
     · obtain ⟨n, hn, ln⟩ : ∃ n : Nat, m % 4294967296 * 4096 % 4294967296 = (n : Int) ∧ n < 4294967296 := ⟨(m % 4294967296 * 4096 % 4294967296).toNat, by omega, by omega⟩
       obtain ⟨d, hd⟩ : ∃ d : Cp, d = numC n := ⟨_, rfl⟩
       have hC : Hid (∀ w, Calls Tryz.prog 53 #[.int .u32 n] w fun e w' => e = .returned d.V ∧ Below w.heap.size w w') := hid (fun w => hd ▸ rNumber_any n w)
       have hx := hid (show d = dDer F 2 b c m from by rw [hd, show n = (m % 4294967296 * 4096 % 4294967296).toNat from by rw [hn]; rfl]; rfl)
       clear hd
       go_wp2_with fail
       refine (hC.out _).mono ?_
       rintro ee w4 ⟨rfl, h1⟩
       have hk4 := hk3.out.below h1
       clear h1 hC hk3 p0 p1 p2 p3 p4 p5 p6 p7 c0 c1 c2 c3 c4 c5 c6 c7 i0 i4
       have s1 := size_ca d
       have o1 := one_cp d
       have zr := (hk4.there (g := W.heap.size + 2) (vs := zC.C) (by simp) 0 8 (by decide))
       have hf := hid ((hk4.sub (L' := [⟨W.heap.size + 2, zC.C⟩]) (by simp)).putA d.C (by simp) (by simp) rfl)
       go_wp2_with ((with_reducible show wpList _ _ _ _ _ _); refine wpList_store_mid rfl 25 _ _ rfl (W.heap.size + 1 + 1) 0 d.C.toArray rfl rfl zr s1 o1 ?_; clear zr s1 o1; change wpList _ _ _ _ _ (w4.setCells (W.heap.size + 2) 0 d.C); generalize w4.setCells (W.heap.size + 2) 0 d.C = wf at hf ⊢)
       exact bodyPost_ret (v := .tuple #[d.V, .bool true]) (res_two Tryz.results54 rfl rfl (load_cp hf.out (List.mem_cons_self ..))) rfl ⟨by rw [hx.out]; rfl, hf.out.bl⟩
     · obtain ⟨n, hn, ln⟩ : ∃ n : Nat, ((b.cu : Int) + m % 4294967296) % 4294967296 = (n : Int) ∧ n < 4294967296 := ⟨(((b.cu : Int) + m % 4294967296) % 4294967296).toNat, by omega, by omega⟩
       obtain ⟨d, hd⟩ : ∃ d : Cp, d = numC n := ⟨_, rfl⟩
       have hC : Hid (∀ w, Calls Tryz.prog 53 #[.int .u32 n] w fun e w' => e = .returned d.V ∧ Below w.heap.size w w') := hid (fun w => hd ▸ rNumber_any n w)
       have hx := hid (show d = dDer F 16 b c m from by rw [hd, show n = (((b.cu : Int) + m % 4294967296) % 4294967296).toNat from by rw [hn]; rfl]; rfl)
       clear hd
       go_wp2_with fail
       refine (hC.out _).mono ?_
       rintro ee w4 ⟨rfl, h1⟩
       have hk4 := hk3.out.below h1
       clear h1 hC hk3 p0 p1 p2 p3 p4 p5 p6 p7 c0 c1 c2 c3 c4 c5 c6 c7 i0 i4
       have s1 := size_ca d
       have o1 := one_cp d
       have zr := (hk4.there (g := W.heap.size + 2) (vs := zC.C) (by simp) 0 8 (by decide))
       have hf := hid ((hk4.sub (L' := [⟨W.heap.size + 2, zC.C⟩]) (by simp)).putA d.C (by simp) (by simp) rfl)
       go_wp2_with ((with_reducible show wpList _ _ _ _ _ _); refine wpList_store_mid rfl 25 _ _ rfl (W.heap.size + 1 + 1) 0 d.C.toArray rfl rfl zr s1 o1 ?_; clear zr s1 o1; change wpList _ _ _ _ _ (w4.setCells (W.heap.size + 2) 0 d.C); generalize w4.setCells (W.heap.size + 2) 0 d.C = wf at hf ⊢)
       exact bodyPost_ret (v := .tuple #[d.V, .bool true]) (res_two Tryz.results54 rfl rfl (load_cp hf.out (List.mem_cons_self ..))) rfl ⟨by rw [hx.out]; rfl, hf.out.bl⟩
     · have s1 := size_ca b
       have o1 := one_cp b
       have zr := (hk3.out.there (g := W.heap.size + 2) (vs := zC.C) (by simp) 0 8 (by decide))
       have hf := hid ((hk3.out.sub (L' := [⟨W.heap.size + 2, zC.C⟩]) (by simp)).putA b.C (by simp) (by simp) rfl)
       go_wp2_with ((with_reducible show wpList _ _ _ _ _ _); refine wpList_store_mid rfl 25 _ _ rfl (W.heap.size + 1 + 1) 0 b.C.toArray rfl rfl zr s1 o1 ?_; clear zr s1 o1; change wpList _ _ _ _ _ (w3.setCells (W.heap.size + 2) 0 b.C); generalize w3.setCells (W.heap.size + 2) 0 b.C = wf at hf ⊢)
       exact bodyPost_ret (v := .tuple #[b.V, .bool true]) (res_two Tryz.results54 rfl rfl (load_cp hf.out (List.mem_cons_self ..))) rfl ⟨rfl, hf.out.bl⟩
     · obtain ⟨d, hd⟩ : ∃ d : Cp, d = cClear b := ⟨_, rfl⟩
       have hC : Hid (∀ w, Calls Tryz.prog 101 #[b.V] w fun e w' => e = .returned d.V ∧ Below w.heap.size w w') := hid (fun w => hd ▸ rClear_cp b w)
       have hx := hid (show d = dDer F 41 b c m from by rw [hd]; rfl)
       clear hd
       go_wp2_with fail
       refine (hC.out _).mono ?_
       rintro ee w4 ⟨rfl, h1⟩
       have hk4 := hk3.out.below h1
       clear h1 hC hk3 p0 p1 p2 p3 p4 p5 p6 p7 c0 c1 c2 c3 c4 c5 c6 c7 i0 i4
       have s1 := size_ca d
       have o1 := one_cp d
       have zr := (hk4.there (g := W.heap.size + 2) (vs := zC.C) (by simp) 0 8 (by decide))
       have hf := hid ((hk4.sub (L' := [⟨W.heap.size + 2, zC.C⟩]) (by simp)).putA d.C (by simp) (by simp) rfl)
       go_wp2_with ((with_reducible show wpList _ _ _ _ _ _); refine wpList_store_mid rfl 25 _ _ rfl (W.heap.size + 1 + 1) 0 d.C.toArray rfl rfl zr s1 o1 ?_; clear zr s1 o1; change wpList _ _ _ _ _ (w4.setCells (W.heap.size + 2) 0 d.C); generalize w4.setCells (W.heap.size + 2) 0 d.C = wf at hf ⊢)
       exact bodyPost_ret (v := .tuple #[d.V, .bool true]) (res_two Tryz.results54 rfl rfl (load_cp hf.out (List.mem_cons_self ..))) rfl ⟨by rw [hx.out]; rfl, hf.out.bl⟩
     · obtain ⟨n, hn, ln⟩ : ∃ n : Nat, ((b.cu : Int) + (c.cu : Int)) % 4294967296 = (n : Int) ∧ n < 4294967296 := ⟨(((b.cu : Int) + (c.cu : Int)) % 4294967296).toNat, by omega, by omega⟩
       obtain ⟨d, hd⟩ : ∃ d : Cp, d = cAddr b n := ⟨_, rfl⟩
       have hC : Hid (∀ w, Calls Tryz.prog 94 #[b.V, .int .u32 n] w fun e w' => e = .returned d.V ∧ Below w.heap.size w w') := hid (fun w => hd ▸ rAddr_cp b fb n ln w)
       have hx := hid (show d = dDer F 32 b c m from by rw [hd, show n = (((b.cu : Int) + (c.cu : Int)) % 4294967296).toNat from by rw [hn]; rfl]; rfl)
       clear hd
       go_wp2_with fail
       refine (hC.out _).mono ?_
       rintro ee w4 ⟨rfl, h1⟩
       have hk4 := hk3.out.below h1
       clear h1 hC hk3 p0 p1 p2 p3 p4 p5 p6 p7 c0 c1 c2 c3 c4 c5 c6 c7 i0 i4
       have s1 := size_ca d
       have o1 := one_cp d
       have zr := (hk4.there (g := W.heap.size + 2) (vs := zC.C) (by simp) 0 8 (by decide))
       have hf := hid ((hk4.sub (L' := [⟨W.heap.size + 2, zC.C⟩]) (by simp)).putA d.C (by simp) (by simp) rfl)
       go_wp2_with ((with_reducible show wpList _ _ _ _ _ _); refine wpList_store_mid rfl 25 _ _ rfl (W.heap.size + 1 + 1) 0 d.C.toArray rfl rfl zr s1 o1 ?_; clear zr s1 o1; change wpList _ _ _ _ _ (w4.setCells (W.heap.size + 2) 0 d.C); generalize w4.setCells (W.heap.size + 2) 0 d.C = wf at hf ⊢)
       exact bodyPost_ret (v := .tuple #[d.V, .bool true]) (res_two Tryz.results54 rfl rfl (load_cp hf.out (List.mem_cons_self ..))) rfl ⟨by rw [hx.out]; rfl, hf.out.bl⟩
     · obtain ⟨n, hn, ln⟩ : ∃ n : Nat, ((b.cu : Int) + m % 4294967296) % 4294967296 = (n : Int) ∧ n < 4294967296 := ⟨(((b.cu : Int) + m % 4294967296) % 4294967296).toNat, by omega, by omega⟩
       obtain ⟨d, hd⟩ : ∃ d : Cp, d = cAddr b n := ⟨_, rfl⟩
       have hC : Hid (∀ w, Calls Tryz.prog 94 #[b.V, .int .u32 n] w fun e w' => e = .returned d.V ∧ Below w.heap.size w w') := hid (fun w => hd ▸ rAddr_cp b fb n ln w)
       have hx := hid (show d = dDer F 33 b c m from by rw [hd, show n = (((b.cu : Int) + m % 4294967296) % 4294967296).toNat from by rw [hn]; rfl]; rfl)
       clear hd
       go_wp2_with fail
       refine (hC.out _).mono ?_
       rintro ee w4 ⟨rfl, h1⟩
       have hk4 := hk3.out.below h1
       clear h1 hC hk3 p0 p1 p2 p3 p4 p5 p6 p7 c0 c1 c2 c3 c4 c5 c6 c7 i0 i4
       have s1 := size_ca d
       have o1 := one_cp d
       have zr := (hk4.there (g := W.heap.size + 2) (vs := zC.C) (by simp) 0 8 (by decide))
       have hf := hid ((hk4.sub (L' := [⟨W.heap.size + 2, zC.C⟩]) (by simp)).putA d.C (by simp) (by simp) rfl)
       go_wp2_with ((with_reducible show wpList _ _ _ _ _ _); refine wpList_store_mid rfl 25 _ _ rfl (W.heap.size + 1 + 1) 0 d.C.toArray rfl rfl zr s1 o1 ?_; clear zr s1 o1; change wpList _ _ _ _ _ (w4.setCells (W.heap.size + 2) 0 d.C); generalize w4.setCells (W.heap.size + 2) 0 d.C = wf at hf ⊢)
       exact bodyPost_ret (v := .tuple #[d.V, .bool true]) (res_two Tryz.results54 rfl rfl (load_cp hf.out (List.mem_cons_self ..))) rfl ⟨by rw [hx.out]; rfl, hf.out.bl⟩
     · obtain ⟨d, hd⟩ : ∃ d : Cp, d = cAddr b c.cu := ⟨_, rfl⟩
       have hC : Hid (∀ w, Calls Tryz.prog 94 #[b.V, .int .u32 c.cu] w fun e w' => e = .returned d.V ∧ Below w.heap.size w w') := hid (fun w => hd ▸ rAddr_cp b fb c.cu fc.l0 w)
       have hx := hid (show d = dDer F 34 b c m from by rw [hd]; rfl)
       clear hd
       go_wp2_with fail
       refine (hC.out _).mono ?_
       rintro ee w4 ⟨rfl, h1⟩
       have hk4 := hk3.out.below h1
       clear h1 hC hk3 p0 p1 p2 p3 p4 p5 p6 p7 c0 c1 c2 c3 c4 c5 c6 c7 i0 i4
       have s1 := size_ca d
       have o1 := one_cp d
       have zr := (hk4.there (g := W.heap.size + 2) (vs := zC.C) (by simp) 0 8 (by decide))
       have hf := hid ((hk4.sub (L' := [⟨W.heap.size + 2, zC.C⟩]) (by simp)).putA d.C (by simp) (by simp) rfl)
       go_wp2_with ((with_reducible show wpList _ _ _ _ _ _); refine wpList_store_mid rfl 25 _ _ rfl (W.heap.size + 1 + 1) 0 d.C.toArray rfl rfl zr s1 o1 ?_; clear zr s1 o1; change wpList _ _ _ _ _ (w4.setCells (W.heap.size + 2) 0 d.C); generalize w4.setCells (W.heap.size + 2) 0 d.C = wf at hf ⊢)
       exact bodyPost_ret (v := .tuple #[d.V, .bool true]) (res_two Tryz.results54 rfl rfl (load_cp hf.out (List.mem_cons_self ..))) rfl ⟨by rw [hx.out]; rfl, hf.out.bl⟩
     · obtain ⟨d, hd⟩ : ∃ d : Cp, d = cSet b c.cu := ⟨_, rfl⟩
       have hC : Hid (∀ w, Calls Tryz.prog 102 #[b.V, .int .u32 c.cu] w fun e w' => e = .returned d.V ∧ Below w.heap.size w w') := hid (fun w => hd ▸ rSet_cp b fb c.cu fc.l0 w)
       have hx := hid (show d = dDer F 35 b c m from by rw [hd]; rfl)
       clear hd
       go_wp2_with fail
       refine (hC.out _).mono ?_
       rintro ee w4 ⟨rfl, h1⟩
       have hk4 := hk3.out.below h1
       clear h1 hC hk3 p0 p1 p2 p3 p4 p5 p6 p7 c0 c1 c2 c3 c4 c5 c6 c7 i0 i4
       have s1 := size_ca d
       have o1 := one_cp d
       have zr := (hk4.there (g := W.heap.size + 2) (vs := zC.C) (by simp) 0 8 (by decide))
       have hf := hid ((hk4.sub (L' := [⟨W.heap.size + 2, zC.C⟩]) (by simp)).putA d.C (by simp) (by simp) rfl)
       go_wp2_with ((with_reducible show wpList _ _ _ _ _ _); refine wpList_store_mid rfl 25 _ _ rfl (W.heap.size + 1 + 1) 0 d.C.toArray rfl rfl zr s1 o1 ?_; clear zr s1 o1; change wpList _ _ _ _ _ (w4.setCells (W.heap.size + 2) 0 d.C); generalize w4.setCells (W.heap.size + 2) 0 d.C = wf at hf ⊢)
       exact bodyPost_ret (v := .tuple #[d.V, .bool true]) (res_two Tryz.results54 rfl rfl (load_cp hf.out (List.mem_cons_self ..))) rfl ⟨by rw [hx.out]; rfl, hf.out.bl⟩
     · obtain ⟨d, hd⟩ : ∃ d : Cp, d = cExact b c.cu := ⟨_, rfl⟩
       have hC : Hid (∀ w, Calls Tryz.prog 103 #[b.V, .int .u32 c.cu] w fun e w' => e = .returned d.V ∧ Below w.heap.size w w') := hid (fun w => hd ▸ rExact_cp b fb c.cu fc.l0 w)
       have hx := hid (show d = dDer F 36 b c m from by rw [hd]; rfl)
       clear hd
       go_wp2_with fail
       refine (hC.out _).mono ?_
       rintro ee w4 ⟨rfl, h1⟩
       have hk4 := hk3.out.below h1
       clear h1 hC hk3 p0 p1 p2 p3 p4 p5 p6 p7 c0 c1 c2 c3 c4 c5 c6 c7 i0 i4
       have s1 := size_ca d
       have o1 := one_cp d
       have zr := (hk4.there (g := W.heap.size + 2) (vs := zC.C) (by simp) 0 8 (by decide))
       have hf := hid ((hk4.sub (L' := [⟨W.heap.size + 2, zC.C⟩]) (by simp)).putA d.C (by simp) (by simp) rfl)
       go_wp2_with ((with_reducible show wpList _ _ _ _ _ _); refine wpList_store_mid rfl 25 _ _ rfl (W.heap.size + 1 + 1) 0 d.C.toArray rfl rfl zr s1 o1 ?_; clear zr s1 o1; change wpList _ _ _ _ _ (w4.setCells (W.heap.size + 2) 0 d.C); generalize w4.setCells (W.heap.size + 2) 0 d.C = wf at hf ⊢)
       exact bodyPost_ret (v := .tuple #[d.V, .bool true]) (res_two Tryz.results54 rfl rfl (load_cp hf.out (List.mem_cons_self ..))) rfl ⟨by rw [hx.out]; rfl, hf.out.bl⟩
     · obtain ⟨d, hd⟩ : ∃ d : Cp, d = cAnd b c.cu := ⟨_, rfl⟩
       have hC : Hid (∀ w, Calls Tryz.prog 104 #[b.V, .int .u32 c.cu] w fun e w' => e = .returned d.V ∧ Below w.heap.size w w') := hid (fun w => hd ▸ rAnd_cp b fb c.cu fc.l0 w)
       have hx := hid (show d = dDer F 37 b c m from by rw [hd]; rfl)
       clear hd
       go_wp2_with fail
       refine (hC.out _).mono ?_
       rintro ee w4 ⟨rfl, h1⟩
       have hk4 := hk3.out.below h1
       clear h1 hC hk3 p0 p1 p2 p3 p4 p5 p6 p7 c0 c1 c2 c3 c4 c5 c6 c7 i0 i4
       have s1 := size_ca d
       have o1 := one_cp d
       have zr := (hk4.there (g := W.heap.size + 2) (vs := zC.C) (by simp) 0 8 (by decide))
       have hf := hid ((hk4.sub (L' := [⟨W.heap.size + 2, zC.C⟩]) (by simp)).putA d.C (by simp) (by simp) rfl)
       go_wp2_with ((with_reducible show wpList _ _ _ _ _ _); refine wpList_store_mid rfl 25 _ _ rfl (W.heap.size + 1 + 1) 0 d.C.toArray rfl rfl zr s1 o1 ?_; clear zr s1 o1; change wpList _ _ _ _ _ (w4.setCells (W.heap.size + 2) 0 d.C); generalize w4.setCells (W.heap.size + 2) 0 d.C = wf at hf ⊢)
       exact bodyPost_ret (v := .tuple #[d.V, .bool true]) (res_two Tryz.results54 rfl rfl (load_cp hf.out (List.mem_cons_self ..))) rfl ⟨by rw [hx.out]; rfl, hf.out.bl⟩
     · obtain ⟨d, hd⟩ : ∃ d : Cp, d = cSeal b c := ⟨_, rfl⟩
       have hC : Hid (∀ w, Calls Tryz.prog 105 #[b.V, c.V] w fun e w' => e = .returned d.V ∧ Below w.heap.size w w') := hid (fun w => hd ▸ rSeal_cp b c fb fc w)
       have hx := hid (show d = dDer F 38 b c m from by rw [hd]; rfl)
       clear hd
       go_wp2_with fail
       refine (hC.out _).mono ?_
       rintro ee w4 ⟨rfl, h1⟩
       have hk4 := hk3.out.below h1
       clear h1 hC hk3 p0 p1 p2 p3 p4 p5 p6 p7 c0 c1 c2 c3 c4 c5 c6 c7 i0 i4
       have s1 := size_ca d
       have o1 := one_cp d
       have zr := (hk4.there (g := W.heap.size + 2) (vs := zC.C) (by simp) 0 8 (by decide))
       have hf := hid ((hk4.sub (L' := [⟨W.heap.size + 2, zC.C⟩]) (by simp)).putA d.C (by simp) (by simp) rfl)
       go_wp2_with ((with_reducible show wpList _ _ _ _ _ _); refine wpList_store_mid rfl 25 _ _ rfl (W.heap.size + 1 + 1) 0 d.C.toArray rfl rfl zr s1 o1 ?_; clear zr s1 o1; change wpList _ _ _ _ _ (w4.setCells (W.heap.size + 2) 0 d.C); generalize w4.setCells (W.heap.size + 2) 0 d.C = wf at hf ⊢)
       exact bodyPost_ret (v := .tuple #[d.V, .bool true]) (res_two Tryz.results54 rfl rfl (load_cp hf.out (List.mem_cons_self ..))) rfl ⟨by rw [hx.out]; rfl, hf.out.bl⟩
     · obtain ⟨d, hd⟩ : ∃ d : Cp, d = cOpen b c := ⟨_, rfl⟩
       have hC : Hid (∀ w, Calls Tryz.prog 106 #[b.V, c.V] w fun e w' => e = .returned d.V ∧ Below w.heap.size w w') := hid (fun w => hd ▸ rOpen_cp b c fb fc w)
       have hx := hid (show d = dDer F 39 b c m from by rw [hd]; rfl)
       clear hd
       go_wp2_with fail
       refine (hC.out _).mono ?_
       rintro ee w4 ⟨rfl, h1⟩
       have hk4 := hk3.out.below h1
       clear h1 hC hk3 p0 p1 p2 p3 p4 p5 p6 p7 c0 c1 c2 c3 c4 c5 c6 c7 i0 i4
       have s1 := size_ca d
       have o1 := one_cp d
       have zr := (hk4.there (g := W.heap.size + 2) (vs := zC.C) (by simp) 0 8 (by decide))
       have hf := hid ((hk4.sub (L' := [⟨W.heap.size + 2, zC.C⟩]) (by simp)).putA d.C (by simp) (by simp) rfl)
       go_wp2_with ((with_reducible show wpList _ _ _ _ _ _); refine wpList_store_mid rfl 25 _ _ rfl (W.heap.size + 1 + 1) 0 d.C.toArray rfl rfl zr s1 o1 ?_; clear zr s1 o1; change wpList _ _ _ _ _ (w4.setCells (W.heap.size + 2) 0 d.C); generalize w4.setCells (W.heap.size + 2) 0 d.C = wf at hf ⊢)
       exact bodyPost_ret (v := .tuple #[d.V, .bool true]) (res_two Tryz.results54 rfl rfl (load_cp hf.out (List.mem_cons_self ..))) rfl ⟨by rw [hx.out]; rfl, hf.out.bl⟩
     · obtain ⟨d, hd⟩ : ∃ d : Cp, d = cBuild c b := ⟨_, rfl⟩
       have hC : Hid (∀ w, Calls Tryz.prog 107 #[c.V, b.V] w fun e w' => e = .returned d.V ∧ Below w.heap.size w w') := hid (fun w => hd ▸ rBuild_cp c b fc fb w)
       have hx := hid (show d = dDer F 40 b c m from by rw [hd]; rfl)
       clear hd
       go_wp2_with fail
       refine (hC.out _).mono ?_
       rintro ee w4 ⟨rfl, h1⟩
       have hk4 := hk3.out.below h1
       clear h1 hC hk3 p0 p1 p2 p3 p4 p5 p6 p7 c0 c1 c2 c3 c4 c5 c6 c7 i0 i4
       have s1 := size_ca d
       have o1 := one_cp d
       have zr := (hk4.there (g := W.heap.size + 2) (vs := zC.C) (by simp) 0 8 (by decide))
       have hf := hid ((hk4.sub (L' := [⟨W.heap.size + 2, zC.C⟩]) (by simp)).putA d.C (by simp) (by simp) rfl)
       go_wp2_with ((with_reducible show wpList _ _ _ _ _ _); refine wpList_store_mid rfl 25 _ _ rfl (W.heap.size + 1 + 1) 0 d.C.toArray rfl rfl zr s1 o1 ?_; clear zr s1 o1; change wpList _ _ _ _ _ (w4.setCells (W.heap.size + 2) 0 d.C); generalize w4.setCells (W.heap.size + 2) 0 d.C = wf at hf ⊢)
       exact bodyPost_ret (v := .tuple #[d.V, .bool true]) (res_two Tryz.results54 rfl rfl (load_cp hf.out (List.mem_cons_self ..))) rfl ⟨by rw [hx.out]; rfl, hf.out.bl⟩
     · obtain ⟨d, hd⟩ : ∃ d : Cp, d = numC b.cu := ⟨_, rfl⟩
       have hC : Hid (∀ w, Calls Tryz.prog 53 #[.int .u32 b.cu] w fun e w' => e = .returned d.V ∧ Below w.heap.size w w') := hid (fun w => hd ▸ rNumber_any b.cu w)
       have hx := hid (show d = dDer F 42 b c m from by rw [hd]; rfl)
       clear hd
       go_wp2_with fail
       refine (hC.out _).mono ?_
       rintro ee w4 ⟨rfl, h1⟩
       have hk4 := hk3.out.below h1
       clear h1 hC hk3 p0 p1 p2 p3 p4 p5 p6 p7 c0 c1 c2 c3 c4 c5 c6 c7 i0 i4
       have s1 := size_ca d
       have o1 := one_cp d
       have zr := (hk4.there (g := W.heap.size + 2) (vs := zC.C) (by simp) 0 8 (by decide))
       have hf := hid ((hk4.sub (L' := [⟨W.heap.size + 2, zC.C⟩]) (by simp)).putA d.C (by simp) (by simp) rfl)
       go_wp2_with ((with_reducible show wpList _ _ _ _ _ _); refine wpList_store_mid rfl 25 _ _ rfl (W.heap.size + 1 + 1) 0 d.C.toArray rfl rfl zr s1 o1 ?_; clear zr s1 o1; change wpList _ _ _ _ _ (w4.setCells (W.heap.size + 2) 0 d.C); generalize w4.setCells (W.heap.size + 2) 0 d.C = wf at hf ⊢)
       exact bodyPost_ret (v := .tuple #[d.V, .bool true]) (res_two Tryz.results54 rfl rfl (load_cp hf.out (List.mem_cons_self ..))) rfl ⟨by rw [hx.out]; rfl, hf.out.bl⟩
     · obtain ⟨n, hn, ln⟩ : ∃ n : Nat, lo = (n : Int) ∧ n < 4294967296 := ⟨(lo).toNat, by omega, by omega⟩
       obtain ⟨d, hd⟩ : ∃ d : Cp, d = numC n := ⟨_, rfl⟩
       have hC : Hid (∀ w, Calls Tryz.prog 53 #[.int .u32 n] w fun e w' => e = .returned d.V ∧ Below w.heap.size w w') := hid (fun w => hd ▸ rNumber_any n w)
       have hx := hid (show d = dDer F 43 b c m from by rw [hd, show n = (lo).toNat from by rw [hn]; rfl]; rw [hlo.out]; rfl)
       clear hd
       go_wp2_with fail
       refine (hC.out _).mono ?_
       rintro ee w4 ⟨rfl, h1⟩
       have hk4 := hk3.out.below h1
       clear h1 hC hk3 p0 p1 p2 p3 p4 p5 p6 p7 c0 c1 c2 c3 c4 c5 c6 c7 i0 i4
       have s1 := size_ca d
       have o1 := one_cp d
       have zr := (hk4.there (g := W.heap.size + 2) (vs := zC.C) (by simp) 0 8 (by decide))
       have hf := hid ((hk4.sub (L' := [⟨W.heap.size + 2, zC.C⟩]) (by simp)).putA d.C (by simp) (by simp) rfl)
       go_wp2_with ((with_reducible show wpList _ _ _ _ _ _); refine wpList_store_mid rfl 25 _ _ rfl (W.heap.size + 1 + 1) 0 d.C.toArray rfl rfl zr s1 o1 ?_; clear zr s1 o1; change wpList _ _ _ _ _ (w4.setCells (W.heap.size + 2) 0 d.C); generalize w4.setCells (W.heap.size + 2) 0 d.C = wf at hf ⊢)
       exact bodyPost_ret (v := .tuple #[d.V, .bool true]) (res_two Tryz.results54 rfl rfl (load_cp hf.out (List.mem_cons_self ..))) rfl ⟨by rw [hx.out]; rfl, hf.out.bl⟩
     · by_cases hm : hi - lo ≤ 4294967295
       · obtain ⟨n, hn, ln⟩ : ∃ n : Nat, hi - lo = (n : Int) ∧ n < 4294967296 := ⟨(hi - lo).toNat, by omega, by omega⟩
         obtain ⟨d, hd⟩ : ∃ d : Cp, d = numC n := ⟨_, rfl⟩
         have hC : Hid (∀ w, Calls Tryz.prog 53 #[.int .u32 n] w fun e w' => e = .returned d.V ∧ Below w.heap.size w w') := hid (fun w => hd ▸ rNumber_any n w)
         have hx := hid (show d = dDer F 44 b c m from by rw [hd, show n = (hi - lo).toNat from by rw [hn]; rfl]; show _ = numC (min (deT b.e b.b b.t b.cu - deB b.e b.b b.t b.cu) 4294967295).toNat; rw [← hlo.out, ← hhi.out]; rw [show min (hi - lo) 4294967295 = hi - lo from by omega])
         clear hd
         go_wp2_with fail
         refine (hC.out _).mono ?_
         rintro ee w4 ⟨rfl, h1⟩
         have hk4 := hk3.out.below h1
         clear h1 hC hk3 p0 p1 p2 p3 p4 p5 p6 p7 c0 c1 c2 c3 c4 c5 c6 c7 i0 i4
         have s1 := size_ca d
         have o1 := one_cp d
         have zr := (hk4.there (g := W.heap.size + 2) (vs := zC.C) (by simp) 0 8 (by decide))
         have hf := hid ((hk4.sub (L' := [⟨W.heap.size + 2, zC.C⟩]) (by simp)).putA d.C (by simp) (by simp) rfl)
         go_wp2_with ((with_reducible show wpList _ _ _ _ _ _); refine wpList_store_mid rfl 25 _ _ rfl (W.heap.size + 1 + 1) 0 d.C.toArray rfl rfl zr s1 o1 ?_; clear zr s1 o1; change wpList _ _ _ _ _ (w4.setCells (W.heap.size + 2) 0 d.C); generalize w4.setCells (W.heap.size + 2) 0 d.C = wf at hf ⊢)
         exact bodyPost_ret (v := .tuple #[d.V, .bool true]) (res_two Tryz.results54 rfl rfl (load_cp hf.out (List.mem_cons_self ..))) rfl ⟨by rw [hx.out]; rfl, hf.out.bl⟩
       · obtain ⟨d, hd⟩ : ∃ d : Cp, d = numC 4294967295 := ⟨_, rfl⟩
         have hC : Hid (∀ w, Calls Tryz.prog 53 #[.int .u32 4294967295] w fun e w' => e = .returned d.V ∧ Below w.heap.size w w') := hid (fun w => hd ▸ rNumber_any 4294967295 w)
         have hx := hid (show d = dDer F 44 b c m from by rw [hd]; show _ = numC (min (deT b.e b.b b.t b.cu - deB b.e b.b b.t b.cu) 4294967295).toNat; rw [← hlo.out, ← hhi.out]; rw [show min (hi - lo) 4294967295 = 4294967295 from by omega]; rfl)
         clear hd
         go_wp2_with fail
         refine (hC.out _).mono ?_
         rintro ee w4 ⟨rfl, h1⟩
         have hk4 := hk3.out.below h1
         clear h1 hC hk3 p0 p1 p2 p3 p4 p5 p6 p7 c0 c1 c2 c3 c4 c5 c6 c7 i0 i4
         have s1 := size_ca d
         have o1 := one_cp d
         have zr := (hk4.there (g := W.heap.size + 2) (vs := zC.C) (by simp) 0 8 (by decide))
         have hf := hid ((hk4.sub (L' := [⟨W.heap.size + 2, zC.C⟩]) (by simp)).putA d.C (by simp) (by simp) rfl)
         go_wp2_with ((with_reducible show wpList _ _ _ _ _ _); refine wpList_store_mid rfl 25 _ _ rfl (W.heap.size + 1 + 1) 0 d.C.toArray rfl rfl zr s1 o1 ?_; clear zr s1 o1; change wpList _ _ _ _ _ (w4.setCells (W.heap.size + 2) 0 d.C); generalize w4.setCells (W.heap.size + 2) 0 d.C = wf at hf ⊢)
         exact bodyPost_ret (v := .tuple #[d.V, .bool true]) (res_two Tryz.results54 rfl rfl (load_cp hf.out (List.mem_cons_self ..))) rfl ⟨by rw [hx.out]; rfl, hf.out.bl⟩
     · obtain ⟨d, hd⟩ : ∃ d : Cp, d = numC b.pm := ⟨_, rfl⟩
       have hC : Hid (∀ w, Calls Tryz.prog 53 #[.int .u32 b.pm] w fun e w' => e = .returned d.V ∧ Below w.heap.size w w') := hid (fun w => hd ▸ rNumber_any b.pm w)
       have hx := hid (show d = dDer F 45 b c m from by rw [hd]; rfl)
       clear hd
       have hm : ((b.pm : Nat) : Int) % 4294967296 = ((b.pm : Nat) : Int) := by have := fb.l4; omega
       go_wp2_with fail
       refine (hC.out _).mono ?_
       rintro ee w4 ⟨rfl, h1⟩
       have hk4 := hk3.out.below h1
       clear h1 hC hk3 p0 p1 p2 p3 p4 p5 p6 p7 c0 c1 c2 c3 c4 c5 c6 c7 i0 i4
       have s1 := size_ca d
       have o1 := one_cp d
       have zr := (hk4.there (g := W.heap.size + 2) (vs := zC.C) (by simp) 0 8 (by decide))
       have hf := hid ((hk4.sub (L' := [⟨W.heap.size + 2, zC.C⟩]) (by simp)).putA d.C (by simp) (by simp) rfl)
       go_wp2_with ((with_reducible show wpList _ _ _ _ _ _); refine wpList_store_mid rfl 25 _ _ rfl (W.heap.size + 1 + 1) 0 d.C.toArray rfl rfl zr s1 o1 ?_; clear zr s1 o1; change wpList _ _ _ _ _ (w4.setCells (W.heap.size + 2) 0 d.C); generalize w4.setCells (W.heap.size + 2) 0 d.C = wf at hf ⊢)
       exact bodyPost_ret (v := .tuple #[d.V, .bool true]) (res_two Tryz.results54 rfl rfl (load_cp hf.out (List.mem_cons_self ..))) rfl ⟨by rw [hx.out]; rfl, hf.out.bl⟩
     · obtain ⟨d, hd⟩ : ∃ d : Cp, d = numC b.ty := ⟨_, rfl⟩
       have hC : Hid (∀ w, Calls Tryz.prog 53 #[.int .u32 b.ty] w fun e w' => e = .returned d.V ∧ Below w.heap.size w w') := hid (fun w => hd ▸ rNumber_any b.ty w)
       have hx := hid (show d = dDer F 46 b c m from by rw [hd]; rfl)
       clear hd
       have hm : ((b.ty : Nat) : Int) % 4294967296 = ((b.ty : Nat) : Int) := by have := fb.l5; omega
       go_wp2_with fail
       refine (hC.out _).mono ?_
       rintro ee w4 ⟨rfl, h1⟩
       have hk4 := hk3.out.below h1
       clear h1 hC hk3 p0 p1 p2 p3 p4 p5 p6 p7 c0 c1 c2 c3 c4 c5 c6 c7 i0 i4
       have s1 := size_ca d
       have o1 := one_cp d
       have zr := (hk4.there (g := W.heap.size + 2) (vs := zC.C) (by simp) 0 8 (by decide))
       have hf := hid ((hk4.sub (L' := [⟨W.heap.size + 2, zC.C⟩]) (by simp)).putA d.C (by simp) (by simp) rfl)
       go_wp2_with ((with_reducible show wpList _ _ _ _ _ _); refine wpList_store_mid rfl 25 _ _ rfl (W.heap.size + 1 + 1) 0 d.C.toArray rfl rfl zr s1 o1 ?_; clear zr s1 o1; change wpList _ _ _ _ _ (w4.setCells (W.heap.size + 2) 0 d.C); generalize w4.setCells (W.heap.size + 2) 0 d.C = wf at hf ⊢)
       exact bodyPost_ret (v := .tuple #[d.V, .bool true]) (res_two Tryz.results54 rfl rfl (load_cp hf.out (List.mem_cons_self ..))) rfl ⟨by rw [hx.out]; rfl, hf.out.bl⟩
     · obtain ⟨d, hd⟩ : ∃ d : Cp, d = numC (if b.va then 1 else 0) := ⟨_, rfl⟩
       have hC : Hid (∀ w, Calls Tryz.prog 108 #[.bool b.va] w fun e w' => e = .returned d.V ∧ Below w.heap.size w w') := hid (fun w => hd ▸ rtruth_any b.va w)
       have hx := hid (show d = dDer F 47 b c m from by rw [hd]; rfl)
       clear hd
       go_wp2_with fail
       refine (hC.out _).mono ?_
       rintro ee w4 ⟨rfl, h1⟩
       have hk4 := hk3.out.below h1
       clear h1 hC hk3 p0 p1 p2 p3 p4 p5 p6 p7 c0 c1 c2 c3 c4 c5 c6 c7 i0 i4
       have s1 := size_ca d
       have o1 := one_cp d
       have zr := (hk4.there (g := W.heap.size + 2) (vs := zC.C) (by simp) 0 8 (by decide))
       have hf := hid ((hk4.sub (L' := [⟨W.heap.size + 2, zC.C⟩]) (by simp)).putA d.C (by simp) (by simp) rfl)
       go_wp2_with ((with_reducible show wpList _ _ _ _ _ _); refine wpList_store_mid rfl 25 _ _ rfl (W.heap.size + 1 + 1) 0 d.C.toArray rfl rfl zr s1 o1 ?_; clear zr s1 o1; change wpList _ _ _ _ _ (w4.setCells (W.heap.size + 2) 0 d.C); generalize w4.setCells (W.heap.size + 2) 0 d.C = wf at hf ⊢)
       exact bodyPost_ret (v := .tuple #[d.V, .bool true]) (res_two Tryz.results54 rfl rfl (load_cp hf.out (List.mem_cons_self ..))) rfl ⟨by rw [hx.out]; rfl, hf.out.bl⟩
     · obtain ⟨d, hd⟩ : ∃ d : Cp, d = numC (if isNumP b.e b.b b.t b.pm b.ty b.rs b.va then 1 else 0) := ⟨_, rfl⟩
       have hC : Hid (∀ w, Calls Tryz.prog 108 #[.bool (isNumP b.e b.b b.t b.pm b.ty b.rs b.va)] w fun e w' => e = .returned d.V ∧ Below w.heap.size w w') := hid (fun w => hd ▸ rtruth_any _ w)
       have hx := hid (show d = dDer F 48 b c m from by rw [hd]; rfl)
       clear hd
       have hI := hid (fun w => rIsNumber_cp b w)
       go_wp2_with fail
       refine (hI.out _).mono ?_
       rintro ee w5 ⟨rfl, h1⟩
       replace hk3 := hid (hk3.out.below h1)
       clear h1 hI p0 p1 p2 p3 p4 p5 p6 p7 c0 c1 c2 c3 c4 c5 c6 c7 i0 i4
       go_wp2_with fail
       refine (hC.out _).mono ?_
       rintro ee w4 ⟨rfl, h1⟩
       have hk4 := hk3.out.below h1
       clear h1 hC hk3
       have s1 := size_ca d
       have o1 := one_cp d
       have zr := (hk4.there (g := W.heap.size + 2) (vs := zC.C) (by simp) 0 8 (by decide))
       have hf := hid ((hk4.sub (L' := [⟨W.heap.size + 2, zC.C⟩]) (by simp)).putA d.C (by simp) (by simp) rfl)
       go_wp2_with ((with_reducible show wpList _ _ _ _ _ _); refine wpList_store_mid rfl 25 _ _ rfl (W.heap.size + 1 + 1) 0 d.C.toArray rfl rfl zr s1 o1 ?_; clear zr s1 o1; change wpList _ _ _ _ _ (w4.setCells (W.heap.size + 2) 0 d.C); generalize w4.setCells (W.heap.size + 2) 0 d.C = wf at hf ⊢)
       exact bodyPost_ret (v := .tuple #[d.V, .bool true]) (res_two Tryz.results54 rfl rfl (load_cp hf.out (List.mem_cons_self ..))) rfl ⟨by rw [hx.out]; rfl, hf.out.bl⟩
     · obtain ⟨d, hd⟩ : ∃ d : Cp, d = fur F m := ⟨_, rfl⟩
       have hC : Hid (∀ w, Calls Tryz.prog 47 #[fV F, .int .i64 m] w fun e w' => e = .returned d.V ∧ Below w.heap.size w w') := hid (fun w => hd ▸ rfurther_any F hF m w)
       have hx := hid (show d = dDer F 49 b c m from by rw [hd]; rfl)
       clear hd
       have rg := hk3.out.range (g := W.heap.size) (vs := fC F) (by simp)
       have sz := size_fr hF.len
       go_wp2_with ((with_reducible show wpList _ _ _ _ _ _); refine wpList_load_mid rfl 28 _ rfl W.heap.size 0 rfl (fC F) _ rg Tryz.underlying28 rfl sz ?_)
       refine (hC.out _).mono ?_
       rintro ee w4 ⟨rfl, h1⟩
       have hk4 := hk3.out.below h1
       clear h1 hC hk3 p0 p1 p2 p3 p4 p5 p6 p7 c0 c1 c2 c3 c4 c5 c6 c7 i0 i4 rg sz
       have s1 := size_ca d
       have o1 := one_cp d
       have zr := (hk4.there (g := W.heap.size + 2) (vs := zC.C) (by simp) 0 8 (by decide))
       have hf := hid ((hk4.sub (L' := [⟨W.heap.size + 2, zC.C⟩]) (by simp)).putA d.C (by simp) (by simp) rfl)
       go_wp2_with ((with_reducible show wpList _ _ _ _ _ _); refine wpList_store_mid rfl 25 _ _ rfl (W.heap.size + 1 + 1) 0 d.C.toArray rfl rfl zr s1 o1 ?_; clear zr s1 o1; change wpList _ _ _ _ _ (w4.setCells (W.heap.size + 2) 0 d.C); generalize w4.setCells (W.heap.size + 2) 0 d.C = wf at hf ⊢)
       exact bodyPost_ret (v := .tuple #[d.V, .bool true]) (res_two Tryz.results54 rfl rfl (load_cp hf.out (List.mem_cons_self ..))) rfl ⟨by rw [hx.out]; rfl, hf.out.bl⟩
   · have hx := hid (show dDer F op b c m = zC from by unfold dDer; repeat rw [if_neg (by omega)])
     have hy := hid (show isD op = false from decide_eq_false hop)
     have n1 : (op == 1) = false := by simp; omega
     have n2 : (op == 2) = false := by simp; omega
     have n16 : (op == 16) = false := by simp; omega
     have n31 : (op == 31) = false := by simp; omega
     have n41 : (op == 41) = false := by simp; omega
     have n32 : (op == 32) = false := by simp; omega
     have n33 : (op == 33) = false := by simp; omega
     have n34 : (op == 34) = false := by simp; omega
     have n35 : (op == 35) = false := by simp; omega
     have n36 : (op == 36) = false := by simp; omega
     have n37 : (op == 37) = false := by simp; omega
     have n38 : (op == 38) = false := by simp; omega
     have n39 : (op == 39) = false := by simp; omega
     have n40 : (op == 40) = false := by simp; omega
     have n42 : (op == 42) = false := by simp; omega
     have n43 : (op == 43) = false := by simp; omega
     have n44 : (op == 44) = false := by simp; omega
     have n45 : (op == 45) = false := by simp; omega
     have n46 : (op == 46) = false := by simp; omega
     have n47 : (op == 47) = false := by simp; omega
     have n48 : (op == 48) = false := by simp; omega
     have n49 : (op == 49) = false := by simp; omega
     clear zr hop
     have s1 := size_ca zC
     have o1 := one_cp zC
     have zr := (hk3.out.there (g := W.heap.size + 2) (vs := zC.C) (by simp) 0 8 (by decide))
     have hf := hid ((hk3.out.sub (L' := [⟨W.heap.size + 2, zC.C⟩]) (by simp)).putA zC.C (by simp) (by simp) rfl)
     go_wp2_with ((with_reducible show wpList _ _ _ _ _ _); refine wpList_store_mid rfl 25 _ _ rfl (W.heap.size + 1 + 1) 0 zC.C.toArray rfl rfl zr s1 o1 ?_; clear zr s1 o1; change wpList _ _ _ _ _ (w3.setCells (W.heap.size + 2) 0 zC.C); generalize w3.setCells (W.heap.size + 2) 0 zC.C = wf at hf ⊢)
     exact bodyPost_ret (v := .tuple #[zC.V, .bool false]) (res_two Tryz.results54 rfl rfl (load_cp hf.out (List.mem_cons_self ..))) rfl ⟨by rw [hx.out, hy.out], hf.out.bl⟩
 have kA : KR W [⟨w1.heap.size, b.C⟩, ⟨w1.heap.size + 1, c.C⟩, ⟨W.heap.size + 2, zC.C⟩, ⟨W.heap.size + 1, ir op A B C m⟩, ⟨W.heap.size, fC F⟩] ((w1.alloc (.cells #[.int .u32 b.cu, .int .u8 b.e, .int .u16 b.b, .int .u16 b.t, .int .u16 b.pm, .int .u16 b.ty, .int .u32 b.rs, .bool b.va] 25)).alloc (.cells #[.int .u32 c.cu, .int .u8 c.e, .int .u16 c.b, .int .u16 c.t, .int .u16 c.pm, .int .u16 c.ty, .int .u32 c.rs, .bool c.va] 25)).drew := by
   have := ((k0.out.push b.C 25).push c.C 25).swap.drew
   rw [show (w1.alloc (.cells b.C.toArray 25)).heap.size = w1.heap.size + 1 from by simp] at this
   exact this
 have kB : KR W [⟨w1.heap.size + 1, b.C⟩, ⟨w1.heap.size, c.C⟩, ⟨W.heap.size + 2, zC.C⟩, ⟨W.heap.size + 1, ir op A B C m⟩, ⟨W.heap.size, fC F⟩] ((w1.alloc (.cells #[.int .u32 c.cu, .int .u8 c.e, .int .u16 c.b, .int .u16 c.t, .int .u16 c.pm, .int .u16 c.ty, .int .u32 c.rs, .bool c.va] 25)).alloc (.cells #[.int .u32 b.cu, .int .u8 b.e, .int .u16 b.b, .int .u16 b.t, .int .u16 b.pm, .int .u16 b.ty, .int .u32 b.rs, .bool b.va] 25)).drew := by
   have := ((k0.out.push c.C 25).push b.C 25).drew
   rw [show (w1.alloc (.cells c.C.toArray 25)).heap.size = w1.heap.size + 1 from by simp] at this
   exact this
 replace kA := hid kA
 replace kB := hid kB
 replace hcont := hid hcont
 have all : ∀ w', Below w1.heap.size w1 w' → w'.cell? ⟨W.heap.size + 1, 2, none⟩ = some (.int .i64 B) ∧ w'.cell? ⟨W.heap.size + 1, 3, none⟩ = some (.int .i64 C) ∧ w'.cell? ⟨W.heap.size, B * 8, none⟩ = some (.int .u32 b.cu) ∧ w'.cell? ⟨W.heap.size, B * 8 + 1, none⟩ = some (.int .u8 b.e) ∧ w'.cell? ⟨W.heap.size, B * 8 + 2, none⟩ = some (.int .u16 b.b) ∧ w'.cell? ⟨W.heap.size, B * 8 + 3, none⟩ = some (.int .u16 b.t) ∧ w'.cell? ⟨W.heap.size, B * 8 + 4, none⟩ = some (.int .u16 b.pm) ∧ w'.cell? ⟨W.heap.size, B * 8 + 5, none⟩ = some (.int .u16 b.ty) ∧ w'.cell? ⟨W.heap.size, B * 8 + 6, none⟩ = some (.int .u32 b.rs) ∧ w'.cell? ⟨W.heap.size, B * 8 + 7, none⟩ = some (.bool b.va) ∧ w'.cell? ⟨W.heap.size, C * 8, none⟩ = some (.int .u32 c.cu) ∧ w'.cell? ⟨W.heap.size, C * 8 + 1, none⟩ = some (.int .u8 c.e) ∧ w'.cell? ⟨W.heap.size, C * 8 + 2, none⟩ = some (.int .u16 c.b) ∧ w'.cell? ⟨W.heap.size, C * 8 + 3, none⟩ = some (.int .u16 c.t) ∧ w'.cell? ⟨W.heap.size, C * 8 + 4, none⟩ = some (.int .u16 c.pm) ∧ w'.cell? ⟨W.heap.size, C * 8 + 5, none⟩ = some (.int .u16 c.ty) ∧ w'.cell? ⟨W.heap.size, C * 8 + 6, none⟩ = some (.int .u32 c.rs) ∧ w'.cell? ⟨W.heap.size, C * 8 + 7, none⟩ = some (.bool c.va) := fun w' hb =>
   ⟨(k0.out.below hb).cell (ir op A B C m) (by simp) rfl, (k0.out.below hb).cell (ir op A B C m) (by simp) rfl, (((k0.out.below hb).reg (F := F) (by simp) gb.out)).1, ((k0.out.below hb).reg (F := F) (by simp) gb.out).2.1, ((k0.out.below hb).reg (F := F) (by simp) gb.out).2.2.1, ((k0.out.below hb).reg (F := F) (by simp) gb.out).2.2.2.1, ((k0.out.below hb).reg (F := F) (by simp) gb.out).2.2.2.2.1, ((k0.out.below hb).reg (F := F) (by simp) gb.out).2.2.2.2.2.1, ((k0.out.below hb).reg (F := F) (by simp) gb.out).2.2.2.2.2.2.1, ((k0.out.below hb).reg (F := F) (by simp) gb.out).2.2.2.2.2.2.2, (k0.out.below hb).reg (F := F) (by simp) gc.out⟩
 have b0 : Below w1.heap.size w1 w1 := Below.refl _ _
 have j0 := all _ b0.drew
 have j1 := all _ (Below.drew (b0.alloc (Nat.le_refl _) (.cells #[.int .u32 0, .int .u8 0, .int .u16 0, .int .u16 0, .int .u16 0, .int .u16 0, .int .u32 0, .bool false] 25)))
 have j2 := all _ (Below.drew ((b0.alloc (Nat.le_refl _) (.cells #[.int .u32 0, .int .u8 0, .int .u16 0, .int .u16 0, .int .u16 0, .int .u16 0, .int .u32 0, .bool false] 25)).alloc (by simp) (.cells #[.int .u32 0, .int .u8 0, .int .u16 0, .int .u16 0, .int .u16 0, .int .u16 0, .int .u32 0, .bool false] 25)))
 have j3 := all _ (Below.drew ((b0.alloc (Nat.le_refl _) (.cells #[.int .u32 b.cu, .int .u8 b.e, .int .u16 b.b, .int .u16 b.t, .int .u16 b.pm, .int .u16 b.ty, .int .u32 b.rs, .bool b.va] 25)).alloc (by simp) (.cells #[.int .u32 0, .int .u8 0, .int .u16 0, .int .u16 0, .int .u16 0, .int .u16 0, .int .u32 0, .bool false] 25)))
 have j4 := all _ (Below.drew ((b0.alloc (Nat.le_refl _) (.cells #[.int .u32 0, .int .u8 0, .int .u16 0, .int .u16 0, .int .u16 0, .int .u16 0, .int .u32 0, .bool false] 25)).alloc (by simp) (.cells #[.int .u32 b.cu, .int .u8 b.e, .int .u16 b.b, .int .u16 b.t, .int .u16 b.pm, .int .u16 b.ty, .int .u32 b.rs, .bool b.va] 25)))
 have j5 := all _ (Below.drew ((b0.alloc (Nat.le_refl _) (.cells #[.int .u32 b.cu, .int .u8 b.e, .int .u16 b.b, .int .u16 b.t, .int .u16 b.pm, .int .u16 b.ty, .int .u32 b.rs, .bool b.va] 25)).alloc (by simp) (.cells #[.int .u32 c.cu, .int .u8 c.e, .int .u16 c.b, .int .u16 c.t, .int .u16 c.pm, .int .u16 c.ty, .int .u32 c.rs, .bool c.va] 25)))
 have j6 := all _ (Below.drew ((b0.alloc (Nat.le_refl _) (.cells #[.int .u32 c.cu, .int .u8 c.e, .int .u16 c.b, .int .u16 c.t, .int .u16 c.pm, .int .u16 c.ty, .int .u32 c.rs, .bool c.va] 25)).alloc (by simp) (.cells #[.int .u32 b.cu, .int .u8 b.e, .int .u16 b.b, .int .u16 b.t, .int .u16 b.pm, .int .u16 b.ty, .int .u32 b.rs, .bool b.va] 25)))
 replace all := hid all
 replace b0 := hid b0
 go_region_held (fun w' => w'.cell? ⟨W.heap.size + 1, 2, none⟩ = some (.int .i64 B) ∧ w'.cell? ⟨W.heap.size + 1, 3, none⟩ = some (.int .i64 C) ∧ w'.cell? ⟨W.heap.size, B * 8, none⟩ = some (.int .u32 b.cu) ∧ w'.cell? ⟨W.heap.size, B * 8 + 1, none⟩ = some (.int .u8 b.e) ∧ w'.cell? ⟨W.heap.size, B * 8 + 2, none⟩ = some (.int .u16 b.b) ∧ w'.cell? ⟨W.heap.size, B * 8 + 3, none⟩ = some (.int .u16 b.t) ∧ w'.cell? ⟨W.heap.size, B * 8 + 4, none⟩ = some (.int .u16 b.pm) ∧ w'.cell? ⟨W.heap.size, B * 8 + 5, none⟩ = some (.int .u16 b.ty) ∧ w'.cell? ⟨W.heap.size, B * 8 + 6, none⟩ = some (.int .u32 b.rs) ∧ w'.cell? ⟨W.heap.size, B * 8 + 7, none⟩ = some (.bool b.va) ∧ w'.cell? ⟨W.heap.size, C * 8, none⟩ = some (.int .u32 c.cu) ∧ w'.cell? ⟨W.heap.size, C * 8 + 1, none⟩ = some (.int .u8 c.e) ∧ w'.cell? ⟨W.heap.size, C * 8 + 2, none⟩ = some (.int .u16 c.b) ∧ w'.cell? ⟨W.heap.size, C * 8 + 3, none⟩ = some (.int .u16 c.t) ∧ w'.cell? ⟨W.heap.size, C * 8 + 4, none⟩ = some (.int .u16 c.pm) ∧ w'.cell? ⟨W.heap.size, C * 8 + 5, none⟩ = some (.int .u16 c.ty) ∧ w'.cell? ⟨W.heap.size, C * 8 + 6, none⟩ = some (.int .u32 c.rs) ∧ w'.cell? ⟨W.heap.size, C * 8 + 7, none⟩ = some (.bool c.va)) (first | with_reducible exact j0 | with_reducible exact j1 | with_reducible exact j2 | with_reducible exact j3 | with_reducible exact j4 | with_reducible exact j5 | with_reducible exact j6) (fail)
 all_goals first | exact hcont.out _ _ _ kA.out | exact hcont.out _ _ _ kB.out
end Go.Proofs.YtkmgdfcambdeeaaGreatDoor
