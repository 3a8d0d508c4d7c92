/- For core. -/
import Derived.Test.YtkmgdfcambdeeaaGreatDoorQau
import Derived.Test.YtkmgdfcambdeeaaGreatDoorQav
import Derived.Test.YtkmgdfcambdeeaaGreatDoorQaw
namespace Go.Proofs.YtkmgdfcambdeeaaGreatDoor
open Lib (hid)
set_option maxRecDepth 100000
open Go.RowKit
set_option linter.unusedVariables false
def wyC (c : Cp) (x n pm : Nat) : List Value := [.int .u32 c.cu, .int .u8 c.e, .int .u16 c.b, .int .u16 c.t, .int .u16 c.pm, .int .u16 c.ty, .int .u32 c.rs, .bool c.va, .int .u32 x, .int .u32 n, .int .u16 pm]
def wyV (c : Cp) (x n pm : Nat) : Value := .agg (wyC c x n pm).toArray
section
variable {w : World} {a mb wb bb cc N g : Nat} {f : Nat → Bool} {l : List UInt8}
theorem pthere_any (H : ArAt w a mb wb bb cc N g f l) (c : Cp) (x n pm : Nat) (lx : x < 4294967296) (ln : n < 4294967296) : Calls Tryz.prog 83 #[wyV c x n pm, .pointer (some ⟨a, 0, none⟩)] w fun e w' => e = .returned (.bool (decide (x + n ≤ N))) ∧ Below w.heap.size w w' := by
 have k0 := hid ((KR.start (W := w)).push (wyC c x n pm) 74)
 have hS := hid (fun w (H : ArAt w a mb wb bb cc N g f l) => asize_any H)
 have hn := H.hn
 have hi := H.hi
 replace H := hid H
 change Calls Tryz.prog 83 #[.agg #[.int .u32 c.cu, .int .u8 c.e, .int .u16 c.b, .int .u16 c.t, .int .u16 c.pm, .int .u16 c.ty, .int .u32 c.rs, .bool c.va, .int .u32 x, .int .u32 n, .int .u16 pm], _] w _
 go_enter Tryz.func83, Tryz.ntmps83
 go_upto_region 1 with (fail)
 change Code.wp _ _ _ _ (w.alloc (.cells (wyC c x n pm).toArray 74))
 generalize (w.alloc (.cells (wyC c x n pm).toArray 74)) = w1 at k0 ⊢
 have H1 := hid (H.out.below k0.out.bl)
 obtain ⟨S, hS0⟩ : ∃ S : World → Prop, S = fun v => KR w [⟨w.heap.size, wyC c x n pm⟩] v := ⟨_, rfl⟩
 have hK : ∀ v, S v → KR w [⟨w.heap.size, wyC c x n pm⟩] v := fun v h => by rw [hS0] at h; exact h
 have hSb : ∀ u v, S u → Below u.heap.size u v → S v := fun u v h k => by rw [hS0] at h ⊢; exact h.below k
 have s0 : S w1 := by rw [hS0]; exact k0.out
 clear hS0
 have cS := hid (cls_call (S := S) fun v hv => (hS.out v (H.out.below (hK _ hv).bl)).mono fun e w' k => (⟨k.1, hSb _ _ hv k.2⟩ : _ ∧ S w'))
 have p8 : ∀ y : Wd S, y.w.cell? ⟨w.heap.size, 8, none⟩ = some (.int .u32 x) := fun y => (hK _ y.h).cell (wyC c x n pm) (by simp) rfl
 have p9 : ∀ y : Wd S, y.w.cell? ⟨w.heap.size, 9, none⟩ = some (.int .u32 n) := fun y => (hK _ y.h).cell (wyC c x n pm) (by simp) rfl
 have HS := hid hSb
 have HK := hid hK
 clear hK hSb hS H1 k0
 refine region_cls S (by kernel_rfl) (by kernel_rfl) (HS.out _ _ s0 (Below.refl _ _).drew) ?_
 repeat (first
   | go_big_quiet_skip
   | (go_big_quiet_want
      go_big_quiet_op
      first
      | go_big_quiet_on
      | (apply Exists.intro
         refine ⟨fun y => ?_, ?_⟩
         · first | exact rfl | with_reducible exact cS.out y | exact cS.out y
         go_big_quiet_on)))
 refine wpQuiet_nil ?_
 intro y
 have k1 := hid (HK.out _ y.h)
 generalize y.w = w2 at k1 ⊢
 clear y p8 p9 cS HS HK s0
 go_wp2_with fail
 go_ret
 exact ⟨ret_bool (by show decide ((x : Int) + n ≤ 16 * g) = _; rw [decide_eq_decide]; omega), k1.out.bl⟩
set_option maxHeartbeats 1000000 in
theorem ptrap_any (H : ArAt w a mb wb bb cc N g f l) (c : Cp) (hc : c.fit) (x n pm : Nat) (lx : x < 4294967296) (hn : 0 < n ∧ n ≤ 16) (lp : pm < 65536) : Calls Tryz.prog 36 #[wyV c x n pm, .pointer (some ⟨a, 0, none⟩)] w fun e w' => e = .returned (.int .i64 (wayT c x n pm N)) ∧ Below w.heap.size w w' := by
 have k0 := hid ((KR.start (W := w)).push (wyC c x n pm) 74)
 have hT := hid (fun w (H : ArAt w a mb wb bb cc N g f l) => pthere_any H c x n pm lx (by omega))
 have hR := hid (fun w => pref_any c hc pm lp w)
 have hH := hid (fun w => pHolds_cp c hc x n lx (by omega) w)
 have hz : wayT c x n pm N = if refT c pm ≠ 0 then refT c pm else if hoP c.lo c.hi x n = false ∨ ¬ x + n ≤ N then 4 else if x % n ≠ 0 then 5 else 0 := by
   unfold wayT refT
   by_cases h1 : c.va = false
   · rw [if_pos h1, if_pos h1]; rfl
   rw [if_neg h1, if_neg h1]
   by_cases h2 : c.ty ≠ 0
   · rw [if_pos h2, if_pos h2]; rfl
   rw [if_neg h2, if_neg h2]
   by_cases h3 : c.pm &&& pm ≠ pm
   · rw [if_pos h3, if_pos h3]; rfl
   rw [if_neg h3, if_neg h3, if_neg (show ¬ (0 : Int) ≠ 0 by simp)]
   simp only [Nat.not_le]
 generalize wayT c x n pm N = z at hz ⊢
 generalize refT c pm = rt at *
 generalize hoP c.lo c.hi x n = ho at *
 replace H := hid H
 replace hz := hid hz
 clear hc
 change Calls Tryz.prog 36 #[.agg #[.int .u32 c.cu, .int .u8 c.e, .int .u16 c.b, .int .u16 c.t, .int .u16 c.pm, .int .u16 c.ty, .int .u32 c.rs, .bool c.va, .int .u32 x, .int .u32 n, .int .u16 pm], _] w _
 go_enter Tryz.func36, Tryz.ntmps36
 go_upto_region 1 with (fail)
 change Code.wp _ _ _ _ (w.alloc (.cells (wyC c x n pm).toArray 74))
 generalize (w.alloc (.cells (wyC c x n pm).toArray 74)) = w1 at k0 ⊢
 obtain ⟨p0, p1, p2, p3, p4, p5, p6, p7⟩ : CapAt w1 w.heap.size c.cu c.e c.b c.t c.pm c.ty c.rs c.va := ⟨k0.out.cell (wyC c x n pm) (by simp) rfl, k0.out.cell (wyC c x n pm) (by simp) rfl, k0.out.cell (wyC c x n pm) (by simp) rfl, k0.out.cell (wyC c x n pm) (by simp) rfl, k0.out.cell (wyC c x n pm) (by simp) rfl, k0.out.cell (wyC c x n pm) (by simp) rfl, k0.out.cell (wyC c x n pm) (by simp) rfl, k0.out.cell (wyC c x n pm) (by simp) rfl⟩
 have p10 : w1.cell? ⟨w.heap.size, 10, none⟩ = some (.int .u16 pm) := k0.out.cell (wyC c x n pm) (by simp) rfl
 go_wp2_with fail
 refine (hR.out _).mono ?_
 rintro ee w2 ⟨rfl, h2⟩
 have k2 := hid (k0.out.below h2)
 clear h2 k0 hR p0 p1 p2 p3 p4 p5 p6 p7 p10
 by_cases hr : rt = 0
 case neg =>
   have hr' : (rt == 0) = false := by simpa using hr
   have hz1 := hid (show z = rt from by rw [hz.out, if_pos hr])
   clear hr
   go_wp2_with fail
   go_ret
   exact ⟨ret_int hz1.out.symm, k2.out.bl⟩
 subst hr
 have H2 := hid (H.out.below k2.out.bl)
 obtain ⟨p0, p1, p2, p3, p4, p5, p6, p7⟩ : CapAt w2 w.heap.size c.cu c.e c.b c.t c.pm c.ty c.rs c.va := ⟨k2.out.cell (wyC c x n pm) (by simp) rfl, k2.out.cell (wyC c x n pm) (by simp) rfl, k2.out.cell (wyC c x n pm) (by simp) rfl, k2.out.cell (wyC c x n pm) (by simp) rfl, k2.out.cell (wyC c x n pm) (by simp) rfl, k2.out.cell (wyC c x n pm) (by simp) rfl, k2.out.cell (wyC c x n pm) (by simp) rfl, k2.out.cell (wyC c x n pm) (by simp) rfl⟩
 have p8 : w2.cell? ⟨w.heap.size, 8, none⟩ = some (.int .u32 x) := k2.out.cell (wyC c x n pm) (by simp) rfl
 have p9 : w2.cell? ⟨w.heap.size, 9, none⟩ = some (.int .u32 n) := k2.out.cell (wyC c x n pm) (by simp) rfl
 have p10 : w2.cell? ⟨w.heap.size, 10, none⟩ = some (.int .u16 pm) := k2.out.cell (wyC c x n pm) (by simp) rfl
 go_wp2_with fail
 refine (hH.out _).mono ?_
 rintro ee w3 ⟨rfl, h3⟩
 have k3 := hid (k2.out.below h3)
 clear h3 k2 H2 p0 p1 p2 p3 p4 p5 p6 p7 p8 p9 p10
 cases ho
 case false =>
   have hz1 := hid (show z = 4 from by rw [hz.out]; simp)
   go_wp2_with fail
   go_ret
   exact ⟨ret_int hz1.out.symm, k3.out.bl⟩
 have H3 := hid (H.out.below k3.out.bl)
 obtain ⟨p0, p1, p2, p3, p4, p5, p6, p7⟩ : CapAt w3 w.heap.size c.cu c.e c.b c.t c.pm c.ty c.rs c.va := ⟨k3.out.cell (wyC c x n pm) (by simp) rfl, k3.out.cell (wyC c x n pm) (by simp) rfl, k3.out.cell (wyC c x n pm) (by simp) rfl, k3.out.cell (wyC c x n pm) (by simp) rfl, k3.out.cell (wyC c x n pm) (by simp) rfl, k3.out.cell (wyC c x n pm) (by simp) rfl, k3.out.cell (wyC c x n pm) (by simp) rfl, k3.out.cell (wyC c x n pm) (by simp) rfl⟩
 have p8 : w3.cell? ⟨w.heap.size, 8, none⟩ = some (.int .u32 x) := k3.out.cell (wyC c x n pm) (by simp) rfl
 have p9 : w3.cell? ⟨w.heap.size, 9, none⟩ = some (.int .u32 n) := k3.out.cell (wyC c x n pm) (by simp) rfl
 have p10 : w3.cell? ⟨w.heap.size, 10, none⟩ = some (.int .u16 pm) := k3.out.cell (wyC c x n pm) (by simp) rfl
 go_wp2_with fail
 refine (hT.out _ H3.out).mono ?_
 rintro ee w4 ⟨rfl, h4⟩
 have k4 := hid (k3.out.below h4)
 clear h4 k3 H3 hH hT p0 p1 p2 p3 p4 p5 p6 p7 p8 p9 p10
 by_cases hN : x + n ≤ N
 case neg =>
   have hN' : decide (x + n ≤ N) = false := decide_eq_false hN
   have hz1 := hid (show z = 4 from by rw [hz.out]; simp [hN])
   clear hN
   go_wp2_with fail
   go_ret
   exact ⟨ret_int hz1.out.symm, k4.out.bl⟩
 have hN' : decide (x + n ≤ N) = true := decide_eq_true hN
 have p8 : w4.cell? ⟨w.heap.size, 8, none⟩ = some (.int .u32 x) := k4.out.cell (wyC c x n pm) (by simp) rfl
 have p9 : w4.cell? ⟨w.heap.size, 9, none⟩ = some (.int .u32 n) := k4.out.cell (wyC c x n pm) (by simp) rfl
 have hl0 := hn.1
 have hl1 := hn.2
 have hm := hid (Int.natCast_emod x n)
 have hNh := hid hN
 clear hN
 go_wp2_with fail
 · rename_i h
   have h0 : x % n ≠ 0 := by
     intro h0
     rw [← hm.out, h0] at h
     simp at h
   have hz1 : z = 5 := by rw [hz.out]; simp [hNh.out, h0]
   go_ret
   exact ⟨ret_int hz1.symm, k4.out.bl⟩
 · rename_i h
   have h0 : x % n = 0 := by
     rw [← hm.out] at h
     simp at h
     omega
   have hz1 : z = 0 := by rw [hz.out]; simp [hNh.out, h0]
   go_ret
   exact ⟨ret_int hz1.symm, k4.out.bl⟩
end
theorem quiet_load_mid {P : Program} {C : World → Prop} {o : Oper} {a : Act} {K : Act → Prop} (ty : TypeId) (x : Operand) (ho : o.op = .load ty x) (b k : Nat) (hx : a.eval x = .pointer (some ⟨b, k, none⟩)) (cs : List Value) (d : TypeDesc)
   (hc : ∀ w, C w → w.rangeAt b k cs) (hu : P.underlying ty = some d) (hd : d.isRow = true) (hi : (P.info? ty).map (·.size) = some cs.length) (hk : K (a.put o.dst (.agg cs.toArray))) : o.quiet P a C K :=
 ⟨_, fun w hw => by
   unfold Oper.quietAt execOp
   simp only [ho, hx, Instr.loadAt, Instr.sureAddr, Sem.run_bind, Sem.run_pure, Result.andThen_ok, run_loadVar_mid w b k ty cs d (hc w hw) hu hd hi]
   exact ⟨rfl, rfl⟩, hk⟩
theorem start_fi (F : List Cp) (op A B C m : Int) (W : World) : KR W [⟨W.heap.size + 1, ir op A B C m⟩, ⟨W.heap.size, fC F⟩] ((W.alloc (.cells (fC F).toArray 28)).alloc (.cells #[.int .i64 op, .int .i64 A, .int .i64 B, .int .i64 C, .int .i64 m] 30)) := by
 have := ((KR.start (W := W)).push (fC F) 28).push (ir op A B C m) 30
 rw [show (W.alloc (Obj.cells (fC F).toArray 28)).heap.size = W.heap.size + 1 from by simp] at this
 exact this
def needN (F : List Cp) (op : Int) (A : Nat) : Nat := if op = 20 ∨ op = 21 ∨ op = 22 then 2 else if op = 24 then (if (reg F A).va then 18 else 2) else 1
theorem needN_lt (F : List Cp) (op : Int) (A : Nat) : needN F op A < 65536 := by
 unfold needN
 by_cases h1 : op = 20 ∨ op = 21 ∨ op = 22
 · rw [if_pos h1]; decide
 · rw [if_neg h1]
   by_cases h2 : op = 24
   · rw [if_pos h2]; cases (reg F A).va <;> decide
   · rw [if_neg h2]; decide
set_option maxHeartbeats 1000000 in
theorem rNeeds_any (F : List Cp) (hF : Fit F) (op : Int) (A B C : Nat) (hA : A < 16) (m : Int) (W : World) : Calls Tryz.prog 95 #[fV F, .agg #[.int .i64 op, .int .i64 A, .int .i64 B, .int .i64 C, .int .i64 m]] W fun e w' => e = .returned (.int .u16 (needN F op A : Nat)) ∧ Below W.heap.size W w' := by
 have k0 := hid (start_fi F op A B C m W)
 have ga := reg_get (F := F) (i := A) (by rw [hF.len]; omega)
 obtain ⟨x, hx⟩ : ∃ x, x = needN F op A := ⟨_, rfl⟩
 rw [← hx]
 unfold needN at hx
 generalize reg F A = c at ga hx
 replace ga := hid ga
 replace hx := hid hx
 unfold fV
 go_enter Tryz.func95, Tryz.ntmps95
 go_upto_region 1 with (fail)
 generalize ((W.alloc (.cells (fC F).toArray 28)).alloc _) = w1 at k0 ⊢
 have i0 := k0.out.cell (g := W.heap.size + 1) (j := 0) (u := .int .i64 op) (ir op A B C m) (by simp) rfl
 have i1 := k0.out.cell (g := W.heap.size + 1) (j := 1) (u := .int .i64 A) (ir op A B C m) (by simp) rfl
 obtain ⟨a0, a1, a2, a3, a4, a5, a6, a7⟩ := k0.out.reg (g := W.heap.size) (F := F) (by simp) ga.out
 clear a0 a1 a2 a3 a4 a5 a6
 go_wp2_with fail
 all_goals go_ret
 all_goals refine ⟨ret_int ?_, k0.out.bl⟩
 all_goals rw [hx.out]
 all_goals simp only [beq_iff_eq, beq_eq_false_iff_ne, ne_eq] at *
 all_goals simp_all
theorem start_fib (F : List Cp) (op A B C m : Int) (W : World) : KR W [⟨W.heap.size + 2, zC.C⟩, ⟨W.heap.size + 1, ir op A B C m⟩, ⟨W.heap.size, fC F⟩] (((W.alloc (.cells (fC F).toArray 28)).alloc (.cells #[.int .i64 op, .int .i64 A, .int .i64 B, .int .i64 C, .int .i64 m] 30)).alloc (.cells #[.int .u32 0, .int .u8 0, .int .u16 0, .int .u16 0, .int .u16 0, .int .u16 0, .int .u32 0, .bool false] 25)) := by
 have := (((KR.start (W := W)).push (fC F) 28).push (ir op A B C m) 30).push zC.C 25
 rw [show ((W.alloc (Obj.cells (fC F).toArray 28)).alloc (Obj.cells (ir op A B C m).toArray 30)).heap.size = W.heap.size + 2 from by simp, show (W.alloc (Obj.cells (fC F).toArray 28)).heap.size = W.heap.size + 1 from by simp] at this
 exact this
def atN (F : List Cp) (B : Nat) (m : Int) : Nat := (((((reg F B).cu : Nat) : Int) + m % 4294967296) % 4294967296).toNat
theorem atN_lt (F : List Cp) (B : Nat) (m : Int) : atN F B m < 4294967296 := by unfold atN; omega
def ldC (l : List UInt8) (f : Nat → Bool) (a : Nat) : Cp := ⟨nm ((l.drop a).take 16) 0 4, nm ((l.drop a).take 16) 4 1, nm ((l.drop a).take 16) 5 2, nm ((l.drop a).take 16) 7 2, nm ((l.drop a).take 16) 9 2, nm ((l.drop a).take 16) 11 2, nm ((l.drop a).take 16) 13 3,
 f (a / 16) && sndP (nm ((l.drop a).take 16) 4 1) (nm ((l.drop a).take 16) 5 2) (nm ((l.drop a).take 16) 7 2) (nm ((l.drop a).take 16) 9 2) (nm ((l.drop a).take 16) 11 2) (nm ((l.drop a).take 16) 13 3)⟩
def ldV (l : List UInt8) (f : Nat → Bool) (b : Cp) (a : Nat) (op : Int) (n : Nat) : Cp := if op = 23 then (if b.pm &&& 8 = 0 then cClear (ldC l f a) else ldC l f a) else numC (getB l a n)
theorem way_open {c : Cp} {a n pm N : Nat} (h : wayT c a n pm N = 0) : a + n ≤ N ∧ a % n = 0 := by
 unfold wayT at h
 by_cases h1 : c.va = false
 · rw [if_pos h1] at h; omega
 rw [if_neg h1] at h
 by_cases h2 : c.ty ≠ 0
 · rw [if_pos h2] at h; omega
 rw [if_neg h2] at h
 by_cases h3 : c.pm &&& pm ≠ pm
 · rw [if_pos h3] at h; omega
 rw [if_neg h3] at h
 by_cases h4 : hoP c.lo c.hi a n = false ∨ N < a + n
 · rw [if_pos h4] at h; omega
 rw [if_neg h4] at h
 by_cases h5 : a % n ≠ 0
 · rw [if_pos h5] at h; omega
 exact ⟨by omega, by omega⟩
section
variable {W : World} {r rb tb N g : Nat} {f : Nat → Bool} {l : List UInt8}
set_option maxHeartbeats 4000000 in
theorem rmem_load (H : RfAt W r rb tb N g f l) (F : List Cp) (hF : Fit F) (op : Int) (A B C : Nat) (hA : A < 16) (hB : B < 16) (m : Int) (n : Nat) (hn : widI op = (n : Int)) (hn1 : 0 < n ∧ n ≤ 16) (hop : op = 17 ∨ op = 18 ∨ op = 19 ∨ op = 23) : Calls Tryz.prog 50 #[fV F, .agg #[.int .i64 op, .int .i64 A, .int .i64 B, .int .i64 C, .int .i64 m], .pointer (some ⟨r, 0, none⟩)] W fun e w' => e = .returned (.tuple #[(if wayT (reg F B) (atN F B m) n (needN F op A) N = 0 then ldV l f (reg F B) (atN F B m) op n else zC).V, .int .i64 (wayT (reg F B) (atN F B m) n (needN F op A) N)]) ∧ Below W.heap.size W w' := by
 have k0 := hid (start_fib F op A B C m W)
 have gb := reg_get (F := F) (i := B) (by rw [hF.len]; omega)
 obtain ⟨b, hb⟩ : ∃ b, b = reg F B := ⟨_, rfl⟩
 have fb : b.fit := hb ▸ hF.reg B
 obtain ⟨at_, hat⟩ : ∃ x, x = atN F B m := ⟨_, rfl⟩
 have lat : at_ < 4294967296 := hat ▸ atN_lt F B m
 have eat : (((b.cu : Nat) : Int) + m % 4294967296) % 4294967296 = ((at_ : Nat) : Int) := by rw [hat, hb]; unfold atN; omega
 have hN := hid (fun w => rNeeds_any F hF op A B C hA m w)
 have lp := needN_lt F op A
 generalize needN F op A = pm at *
 have hWd := hid (fun w => rWidth_any op w)
 rw [hn] at hWd
 have hwd := hid hn
 have hWy := hid (fun (w : World) (H : RfAt w r rb tb N g f l) => rWay_any H b fb at_ n pm lat hn1 lp)
 have hwo := hid (fun h => way_open (c := b) (a := at_) (n := n) (pm := pm) (N := N) h)
 rw [← hb] at gb ⊢
 rw [← hat]
 generalize wayT b at_ n pm N = t at *
 obtain ⟨D, hD⟩ : ∃ D, D = if t = 0 then ldV l f b at_ op n else zC := ⟨_, rfl⟩
 rw [← hD]
 replace hD := hid hD
 replace gb := hid gb
 replace H := hid H
 have sz := size_fr hF.len
 clear hn lp hb hat
 unfold fV
 go_enter Tryz.func50, Tryz.ntmps50
 go_upto_region 1 with (fail)
 generalize (((W.alloc (.cells (fC F).toArray 28)).alloc _).alloc _) = w1 at k0 ⊢
 have i2 := k0.out.cell (g := W.heap.size + 1) (j := 2) (u := .int .i64 B) (ir op A B C m) (by simp) rfl
 obtain ⟨a0, a1, a2, a3, a4, a5, a6, a7⟩ := k0.out.reg (g := W.heap.size) (F := F) (by simp) gb.out
 go_upto_region 2 with (fail)
 have k1 := hid (k0.out.push b.C 25)
 clear i2 a0 a1 a2 a3 a4 a5 a6 a7 k0
 change Code.wp _ _ _ _ (w1.alloc (.cells b.C.toArray 25))
 generalize w1.alloc (.cells b.C.toArray 25) = w2 at k1 ⊢
 generalize w1.heap.size = q at k1 ⊢
 have p0 : w2.cell? ⟨q, 0, none⟩ = some (.int .u32 b.cu) := k1.out.cell (g := q) (j := 0) b.C (by simp) rfl
 have i4 := k1.out.cell (g := W.heap.size + 1) (j := 4) (u := .int .i64 m) (ir op A B C m) (by simp) rfl
 have i0 := k1.out.cell (g := W.heap.size + 1) (j := 0) (u := .int .i64 op) (ir op A B C m) (by simp) rfl
 go_upto_region 3 with (fail)
 clear p0 i4
 go_wp2_with fail
 refine (hWd.out _).mono ?_
 rintro ee w3 ⟨rfl, rfl⟩
 clear i0
 go_upto_region 4 with (fail)
 obtain ⟨S, hS0⟩ : ∃ S : World → Prop, S = fun w => KR W [⟨q, b.C⟩, ⟨W.heap.size + 2, zC.C⟩, ⟨W.heap.size + 1, ir op A B C m⟩, ⟨W.heap.size, fC F⟩] w := ⟨_, rfl⟩
 have hK : ∀ w, S w → KR W [⟨q, b.C⟩, ⟨W.heap.size + 2, zC.C⟩, ⟨W.heap.size + 1, ir op A B C m⟩, ⟨W.heap.size, fC F⟩] w := fun w h => by rw [hS0] at h; exact h
 have hS : ∀ u v, S u → Below u.heap.size u v → S v := fun u v h k => by rw [hS0] at h ⊢; exact h.below k
 have s0 : S w2 := by rw [hS0]; exact k1.out
 clear hS0
 have cN := hid (cls_call (S := S) fun w hw => (hN.out w).mono fun e w' k => (⟨k.1, hS _ _ hw k.2⟩ : _ ∧ S w'))
 have cW := hid (cls_call (S := S) fun w hw => (hWy.out w (H.out.below (hK _ hw).bl)).mono fun e w' k => (⟨k.1, hS _ _ hw k.2⟩ : _ ∧ S w'))
 have rF : ∀ w, (∃ y : Wd S, w = y.w) → w.rangeAt W.heap.size 0 (fC F) := fun w ⟨y, e⟩ => e ▸ (hK _ y.h).range (by simp)
 have HS := hid hS
 have HK := hid hK
 obtain ⟨p0, p1, p2, p3, p4, p5, p6, p7⟩ := cls_cap (S := S) (bx := q) (cu := b.cu) (e := b.e) (b := b.b) (t := b.t) (pm := b.pm) (ty := b.ty) (rs := b.rs) (va := b.va) (fun w h => (hK w h).cap (List.mem_cons_self ..))
 have ii : ∀ (j : Nat) (u : Value), (ir op A B C m)[j]? = some u → ∀ y : Wd S, y.w.cell? ⟨W.heap.size + 1, j, none⟩ = some u := fun j u hu y => (hK _ y.h).cell (ir op A B C m) (by simp) hu
 have i0 := ii 0 _ rfl
 have i1 := ii 1 _ rfl
 have i2 := ii 2 _ rfl
 have i3 := ii 3 _ rfl
 have i4 := ii 4 _ rfl
 clear hK hS ii
 refine region_cls S (by kernel_rfl) (by kernel_rfl) (HS.out _ _ s0 (Below.refl _ _).drew) ?_
 repeat (first
   | go_big_quiet_skip
   | (go_big_quiet_want
      first
      | (refine quiet_load_mid 28 _ rfl W.heap.size 0 rfl (fC F) _ rF Tryz.underlying28 rfl sz ?_
         simp only [Act.put, List.setIfInBounds_toArray, List.set_cons_zero, List.set_cons_succ]
         go_big_quiet_on)
      | (go_big_quiet_op
         first
         | go_big_quiet_on
         | (apply Exists.intro
            refine ⟨fun y => ?_, ?_⟩
            · first | exact rfl | with_reducible exact cN.out y | exact cN.out y | exact cW.out y
            go_big_quiet_on))))
 refine wpQuiet_nil ?_
 intro y
 have hk := HK.out _ y.h
 generalize y.w = w4 at hk ⊢
 clear y cN cW rF HS HK p0 p1 p2 p3 p4 p5 p6 p7 i0 i1 i2 i3 i4 s0 hWy hN hWd k1
 replace hk := hid hk
 by_cases ht : t = 0
 case neg =>
   have zb := hk.out.there (g := W.heap.size + 2) (vs := zC.C) (by simp) 0 8 (by decide)
   have hf := hid ((hk.out.sub (L' := [⟨W.heap.size + 2, zC.C⟩]) (by simp)).putA zC.C (by simp) (by simp) rfl)
   have s1 := size_ca zC
   have o1 := one_cp zC
   have ht' : (t == 0) = false := by simpa using ht
   clear ht
   go_wp2_with ((with_reducible show wpList _ _ _ _ _ _); refine wpList_store_mid rfl 25 _ _ rfl (W.heap.size + 1 + 1) 0 zC.C.toArray rfl rfl zb s1 o1 ?_; clear zb s1 o1; change wpList _ _ _ _ _ (w4.setCells (W.heap.size + 2) 0 zC.C); generalize w4.setCells (W.heap.size + 2) 0 zC.C = wf at hf ⊢)
   exact bodyPost_ret (v := .tuple #[zC.V, .int .i64 t]) (res_two Tryz.results50 rfl rfl (load_cp hf.out (List.mem_cons_self ..))) rfl ⟨by rw [hD.out, if_neg (by simpa using ht')], hf.out.bl⟩
 case pos =>
   subst ht
   have ga := reg_get (F := F) (i := A) (by rw [hF.len]; omega)
   obtain ⟨o, ho⟩ : ∃ o, o = reg F A := ⟨_, rfl⟩
   have fo : o.fit := ho ▸ hF.reg A
   rw [← ho] at ga
   replace ga := hid ga
   have i0 := hk.out.cell (g := W.heap.size + 1) (j := 0) (u := .int .i64 op) (ir op A B C m) (by simp) rfl
   have i1 := hk.out.cell (g := W.heap.size + 1) (j := 1) (u := .int .i64 A) (ir op A B C m) (by simp) rfl
   obtain ⟨a0, a1, a2, a3, a4, a5, a6, a7⟩ := hk.out.reg (g := W.heap.size) (F := F) (by simp) ga.out
   replace ho := hid ho
   go_upto_region 8 with (fail)
   have k5 := hid (hk.out.push o.C 25)
   clear i0 i1 a0 a1 a2 a3 a4 a5 a6 a7 hk
   change Code.wp _ _ _ _ (w4.alloc (.cells o.C.toArray 25))
   generalize w4.alloc (.cells o.C.toArray 25) = w5 at k5 ⊢
   generalize w4.heap.size = y at k5 ⊢
   have i0 := k5.out.cell (g := W.heap.size + 1) (j := 0) (u := .int .i64 op) (ir op A B C m) (by simp) rfl
   have H5 := hid (H.out.below k5.out.bl)
   clear ga ho fo
   by_cases h23 : op = 23
   · subst h23
     have hn16 : n = 16 := by
       have h := hwd.out
       unfold widI at h
       simp at h
       omega
     subst hn16
     have hgr : grn N at_ = true := by
       have h := hwo.out rfl
       have hN := H5.out.ln
       simp only [grn, thr, Bool.and_eq_true, decide_eq_true_eq]
       omega
     have hL : Hid (∀ w, RfAt w r rb tb N g f l → Calls Tryz.prog 96 #[.pointer (some ⟨r, 0, none⟩), .int .u32 at_] w fun e w' => e = .returned (.tuple #[(ldC l f at_).V, .bool true]) ∧ Below w.heap.size w w') := hid (fun w H => rlcap_yes H at_ lat hgr)
     obtain ⟨d, hd⟩ : ∃ d, d = ldC l f at_ := ⟨_, rfl⟩
     have hdD := hid (show (if b.pm &&& 8 = 0 then cClear d else d) = D from by rw [hd, hD.out, if_pos rfl]; rfl)
     rw [← hd] at hL
     clear hd hD hop hwo hwd hgr
     obtain ⟨dcu, de, db, dt, dpm, dty, drs, dva⟩ := d
     unfold Cp.V Cp.C cv at hL
     have eP := u16_and_nat b.pm 8 fb.l4 (by decide)
     go_wp2_with fail
     refine (hL.out _ H5.out).mono ?_
     rintro ee w6 ⟨rfl, h6⟩
     have k6 := hid (k5.out.below h6)
     clear h6 k5 H5 hL i0
     by_cases hp : b.pm &&& 8 = 0
     · have e1 : (bits BinOp.and IntKind.u16 (b.pm : Int) 8 == 0) = true := by rw [show bits BinOp.and IntKind.u16 (b.pm : Int) 8 = ((b.pm &&& 8 : Nat) : Int) from eP, hp]; rfl
       have hdE := hid (show (⟨dcu, de, db, dt, dpm, dty, drs, false⟩ : Cp) = D from by rw [← hdD.out, if_pos hp]; rfl)
       clear eP hp hdD
       go_upto_region 19 with (fail)
       have k7 := k6.out.push (⟨dcu, de, db, dt, dpm, dty, drs, dva⟩ : Cp).C 25
       change Code.wp _ _ _ _ (w6.alloc (.cells (⟨dcu, de, db, dt, dpm, dty, drs, dva⟩ : Cp).C.toArray 25))
       generalize w6.alloc (.cells (⟨dcu, de, db, dt, dpm, dty, drs, dva⟩ : Cp).C.toArray 25) = w7 at k7 ⊢
       have q1 := k6.out.lt (g := y) (vs := o.C) (by simp)
       have q2 := k6.out.lt (g := q) (vs := b.C) (by simp)
       have q3 := k6.out.lt (g := W.heap.size + 2) (vs := zC.C) (by simp)
       clear k6
       generalize w6.heap.size = z at k7 q1 q2 q3 ⊢
       have p4 : w7.cell? ⟨q, 4, none⟩ = some (.int .u16 b.pm) := k7.cell (g := q) (j := 4) b.C (by simp) rfl
       have c7 : w7.cell? ⟨z, 7, none⟩ = some (.bool dva) := k7.cell (g := z) (j := 7) (⟨dcu, de, db, dt, dpm, dty, drs, dva⟩ : Cp).C (by simp) rfl
       have f7 : w7.frozen? ⟨z, 7, none⟩ = false := k7.soft (g := z) (List.mem_cons_self ..) 7
       have k8 := hid (k7.set (by omega) (fun x hx => by
         simp only [List.mem_cons, List.not_mem_nil, or_false] at hx
         rcases hx with rfl | rfl | rfl | rfl | rfl <;> simp only [ne_eq] <;> omega) 7 (.bool false) (by rw [Cp.C_len]; decide))
       clear k7
       go_upto_region 21 with (fail)
       clear p4 c7 f7
       generalize w7.setCell ⟨z, 7, none⟩ (.bool false) = w8 at k8 ⊢
       replace k8 : KR W (⟨z, (⟨dcu, de, db, dt, dpm, dty, drs, false⟩ : Cp).C⟩ :: _) w8 := k8.out
       have zb := k8.there (g := W.heap.size + 2) (vs := zC.C) (by simp) 0 8 (by decide)
       have hf := hid ((k8.sub (L' := [⟨W.heap.size + 2, zC.C⟩]) (by simp)).putA (⟨dcu, de, db, dt, dpm, dty, drs, false⟩ : Cp).C (by simp) (by simp) rfl)
       have s1 := size_ca ⟨dcu, de, db, dt, dpm, dty, drs, false⟩
       have o1 := one_cp ⟨dcu, de, db, dt, dpm, dty, drs, false⟩
       obtain ⟨p0, p1, p2, p3, p4, p5, p6, p7⟩ := (k8.cap (g := z) (List.mem_cons_self ..) : CapAt _ _ dcu de db dt dpm dty drs false)
       clear k8
       go_wp2_with ((with_reducible show wpList _ _ _ _ _ _); refine wpList_store_mid rfl 25 _ _ rfl (W.heap.size + 1 + 1) 0 (⟨dcu, de, db, dt, dpm, dty, drs, false⟩ : Cp).C.toArray rfl rfl zb s1 o1 ?_; clear zb s1 o1 p0 p1 p2 p3 p4 p5 p6 p7; change wpList _ _ _ _ _ (w8.setCells (W.heap.size + 2) 0 (⟨dcu, de, db, dt, dpm, dty, drs, false⟩ : Cp).C); generalize w8.setCells (W.heap.size + 2) 0 (⟨dcu, de, db, dt, dpm, dty, drs, false⟩ : Cp).C = wf at hf ⊢)
       exact bodyPost_ret (v := .tuple #[(⟨dcu, de, db, dt, dpm, dty, drs, false⟩ : Cp).V, .int .i64 0]) (res_two Tryz.results50 rfl rfl (load_cp hf.out (List.mem_cons_self ..))) rfl ⟨by rw [hdE.out], hf.out.bl⟩
     · have e1 : (bits BinOp.and IntKind.u16 (b.pm : Int) 8 == 0) = false := by rw [show bits BinOp.and IntKind.u16 (b.pm : Int) 8 = ((b.pm &&& 8 : Nat) : Int) from eP]; simp; omega
       have hdE := hid (show (⟨dcu, de, db, dt, dpm, dty, drs, dva⟩ : Cp) = D from by rw [← hdD.out, if_neg hp])
       clear eP hp hdD
       go_upto_region 19 with (fail)
       have k7 := k6.out.push (⟨dcu, de, db, dt, dpm, dty, drs, dva⟩ : Cp).C 25
       change Code.wp _ _ _ _ (w6.alloc (.cells (⟨dcu, de, db, dt, dpm, dty, drs, dva⟩ : Cp).C.toArray 25))
       generalize w6.alloc (.cells (⟨dcu, de, db, dt, dpm, dty, drs, dva⟩ : Cp).C.toArray 25) = w7 at k7 ⊢
       have q1 := k6.out.lt (g := y) (vs := o.C) (by simp)
       have q2 := k6.out.lt (g := q) (vs := b.C) (by simp)
       have q3 := k6.out.lt (g := W.heap.size + 2) (vs := zC.C) (by simp)
       clear k6
       generalize w6.heap.size = z at k7 q1 q2 q3 ⊢
       have p4 : w7.cell? ⟨q, 4, none⟩ = some (.int .u16 b.pm) := k7.cell (g := q) (j := 4) b.C (by simp) rfl
       go_upto_region 21 with (fail)
       clear p4
       have k8 := k7
       clear k7
       have zb := k8.there (g := W.heap.size + 2) (vs := zC.C) (by simp) 0 8 (by decide)
       have hf := hid ((k8.sub (L' := [⟨W.heap.size + 2, zC.C⟩]) (by simp)).putA (⟨dcu, de, db, dt, dpm, dty, drs, dva⟩ : Cp).C (by simp) (by simp) rfl)
       have s1 := size_ca ⟨dcu, de, db, dt, dpm, dty, drs, dva⟩
       have o1 := one_cp ⟨dcu, de, db, dt, dpm, dty, drs, dva⟩
       obtain ⟨p0, p1, p2, p3, p4, p5, p6, p7⟩ := (k8.cap (g := z) (List.mem_cons_self ..) : CapAt _ _ dcu de db dt dpm dty drs dva)
       clear k8
       go_wp2_with ((with_reducible show wpList _ _ _ _ _ _); refine wpList_store_mid rfl 25 _ _ rfl (W.heap.size + 1 + 1) 0 (⟨dcu, de, db, dt, dpm, dty, drs, dva⟩ : Cp).C.toArray rfl rfl zb s1 o1 ?_; clear zb s1 o1 p0 p1 p2 p3 p4 p5 p6 p7; change wpList _ _ _ _ _ (w7.setCells (W.heap.size + 2) 0 (⟨dcu, de, db, dt, dpm, dty, drs, dva⟩ : Cp).C); generalize w7.setCells (W.heap.size + 2) 0 (⟨dcu, de, db, dt, dpm, dty, drs, dva⟩ : Cp).C = wf at hf ⊢)
       exact bodyPost_ret (v := .tuple #[(⟨dcu, de, db, dt, dpm, dty, drs, dva⟩ : Cp).V, .int .i64 0]) (res_two Tryz.results50 rfl rfl (load_cp hf.out (List.mem_cons_self ..))) rfl ⟨by rw [hdE.out], hf.out.bl⟩
   · have hL := hid (fun w (H : RfAt w r rb tb N g f l) => rload_any H at_ n lat (by omega))
     obtain ⟨d, hd⟩ : ∃ d, d = numC (getB l at_ n) := ⟨_, rfl⟩
     have hdD := hid (show d = D from by rw [hd, hD.out, if_pos rfl]; unfold ldV; rw [if_neg h23])
     have hNm := hid (fun w => hd ▸ rNumber_any (getB l at_ n) w)
     clear hd hD
     generalize inB N at_ n = vb at hL
     generalize getB l at_ n = v at hL hNm
     have j24 : (op == 24) = false := by simp; omega
     have j20 : (op == 20) = false := by simp; omega
     have j21 : (op == 21) = false := by simp; omega
     have j22 : (op == 22) = false := by simp; omega
     have j23 : (op == 23) = false := by simp; omega
     clear hop h23
     go_wp2_with fail
     refine (hL.out _ H5.out).mono ?_
     rintro ee w6 ⟨rfl, h6⟩
     have k6 := hid (k5.out.below h6)
     clear h6 k5 H5 hL i0
     go_wp2_with fail
     refine (hNm.out _).mono ?_
     rintro ee w7 ⟨rfl, h7⟩
     have k7 := k6.out.below h7
     clear h7 k6 hNm
     have zb := k7.there (g := W.heap.size + 2) (vs := zC.C) (by simp) 0 8 (by decide)
     have hf := hid ((k7.sub (L' := [⟨W.heap.size + 2, zC.C⟩]) (by simp)).putA d.C (by simp) (by simp) rfl)
     have s1 := size_ca d
     have o1 := one_cp d
     clear k7
     go_wp2_with ((with_reducible show wpList _ _ _ _ _ _); refine wpList_store_mid rfl 25 _ _ rfl (W.heap.size + 1 + 1) 0 d.C.toArray rfl rfl zb s1 o1 ?_; clear zb s1 o1; change wpList _ _ _ _ _ (w7.setCells (W.heap.size + 2) 0 d.C); generalize w7.setCells (W.heap.size + 2) 0 d.C = wf at hf ⊢)
     exact bodyPost_ret (v := .tuple #[d.V, .int .i64 0]) (res_two Tryz.results50 rfl rfl (load_cp hf.out (List.mem_cons_self ..))) rfl ⟨by rw [hdD.out], hf.out.bl⟩
end
theorem start_ft (F : List Cp) (W : World) : KR W [⟨W.heap.size + 1, ir 0 0 0 0 0⟩, ⟨W.heap.size, fC F⟩] ((W.alloc (.cells (fC F).toArray 28)).alloc (.cells #[.int .i64 0, .int .i64 0, .int .i64 0, .int .i64 0, .int .i64 0] 30)) := start_fi F 0 0 0 0 0 W
theorem getB4_lt (l : List UInt8) (a : Nat) : getB l a 4 < 4294967296 := by
 unfold getB
 split
 · have h := le_lt ((l.drop (a : Int).toNat).take (4 : Int).toNat)
   exact Nat.lt_of_lt_of_le h (Nat.pow_le_pow_right (n := 256) (by decide) (show ((l.drop (a : Int).toNat).take (4 : Int).toNat).length ≤ 4 by simp; omega))
 · decide
theorem size_in (i : Ins) : (Tryz.prog.info? 30).map (·.size) = some (ir i.op i.a i.b i.c i.m).length := by kernel_rfl
theorem size_ia (i : Ins) : (Tryz.prog.info? 30).map (·.size) = some (ir i.op i.a i.b i.c i.m).toArray.size := by kernel_rfl
theorem one_in (i : Ins) : (ir i.op i.a i.b i.c i.m).toArray.all (·.oneCell') = true := all_oneCell_toArray (fun v h => by
 unfold ir at h
 simp only [List.mem_cons, List.not_mem_nil, or_false] at h
 rcases h with rfl | rfl | rfl | rfl | rfl <;> rfl)
theorem load_in {W w : World} {L : List Rw} (h : KR W L w) {g : Nat} {i : Ins} (hx : (⟨g, ir i.op i.a i.b i.c i.m⟩ : Rw) ∈ L) : (loadVar 30 ⟨g, 0, none⟩).run Tryz.prog w = .ok (iv i) w :=
 run_loadVar_mid w g 0 _ (ir i.op i.a i.b i.c i.m) _ (h.range hx) Tryz.underlying30 rfl (size_in i)
section
variable {W : World} {r rb tb N g : Nat} {f : Nat → Bool} {l : List UInt8}
set_option maxHeartbeats 4000000 in
theorem rFetch_any (H : RfAt W r rb tb N g f l) (F : List Cp) (hF : Fit F) : Calls Tryz.prog 17 #[fV F, .pointer (some ⟨r, 0, none⟩)] W fun e w' => e = .returned (.tuple #[iv (if wayT (reg F 16) (reg F 16).cu 4 4 N = 0 then decW (getB l (reg F 16).cu 4 : Nat) else Ins.zero), .int .i64 (wayT (reg F 16) (reg F 16).cu 4 4 N)]) ∧ Below W.heap.size W w' := by
 have k0 := hid (start_ft F W)
 have gb := reg_get (F := F) (i := 16) (by rw [hF.len]; decide)
 obtain ⟨b, hb⟩ : ∃ b, b = reg F 16 := ⟨_, rfl⟩
 have fb : b.fit := hb ▸ hF.reg 16
 have hWy := hid (fun (w : World) (H : RfAt w r rb tb N g f l) => rWay_any H b fb b.cu 4 4 fb.l0 (by decide) (by decide))
 have hLd := hid (fun (w : World) (H : RfAt w r rb tb N g f l) => rload_any H b.cu 4 fb.l0 (by decide))
 rw [← hb] at gb ⊢
 generalize wayT b b.cu 4 4 N = t at *
 have lv : getB l b.cu 4 < 4294967296 := getB4_lt l b.cu
 generalize getB l b.cu 4 = v at *
 obtain ⟨D, hD⟩ : ∃ D, D = if t = 0 then decW (v : Nat) else Ins.zero := ⟨_, rfl⟩
 rw [← hD]
 replace hD := hid hD
 replace gb := hid gb
 replace H := hid H
 clear hb
 unfold fV
 go_enter Tryz.func17, Tryz.ntmps17
 go_upto_region 1 with (fail)
 generalize ((W.alloc (.cells (fC F).toArray 28)).alloc _) = w1 at k0 ⊢
 obtain ⟨a0, a1, a2, a3, a4, a5, a6, a7⟩ := k0.out.reg (g := W.heap.size) (F := F) (by simp) gb.out
 simp only [Nat.reduceMul, Nat.reduceAdd] at a0 a1 a2 a3 a4 a5 a6 a7
 have H1 := hid (H.out.below k0.out.bl)
 go_wp2_with fail
 refine (hWy.out _ H1.out).mono ?_
 rintro ee w2 ⟨rfl, h2⟩
 have k2 := hid (k0.out.below h2)
 have H2 := hid (H1.out.below h2)
 clear h2 k0 H1 hWy a0 a1 a2 a3 a4 a5 a6 a7
 by_cases ht : t = 0
 · subst ht
   obtain ⟨a0, a1, a2, a3, a4, a5, a6, a7⟩ := k2.out.reg (g := W.heap.size) (F := F) (by simp) gb.out
   simp only [Nat.reduceMul, Nat.reduceAdd] at a0 a1 a2 a3 a4 a5 a6 a7
   go_wp2_with fail
   refine (hLd.out _ H2.out).mono ?_
   rintro ee w3 ⟨rfl, h3⟩
   have k3 := hid (k2.out.below h3)
   clear h3 k2 H2 hLd a0 a1 a2 a3 a4 a5 a6 a7
   obtain ⟨d, hd⟩ : ∃ d, d = decW (v : Nat) := ⟨_, rfl⟩
   have hdD := hid (show d = D from by rw [hd, hD.out]; simp)
   have hDc : Hid (∀ w, Calls Tryz.prog 60 #[.int .u32 (v : Nat)] w fun e w' => e = .returned (iv (decW (v : Nat))) ∧ Below w.heap.size w w') := hid (fun w => iRDecode_any (v : Nat) (by omega) (by omega) w)
   rw [← hd] at hDc
   clear hd hD lv
   go_wp2_with fail
   refine (hDc.out _).mono ?_
   rintro ee w4 ⟨rfl, h4⟩
   have k4 := hid (k3.out.below h4)
   clear h4 k3 hDc
   have zb := k4.out.there (g := W.heap.size + 1) (vs := ir 0 0 0 0 0) (by simp) 0 5 (by decide)
   have hf := hid ((k4.out.sub (L' := [⟨W.heap.size + 1, ir 0 0 0 0 0⟩]) (by simp)).putA (ir d.op d.a d.b d.c d.m) (by simp) (by simp) rfl)
   have s1 := size_ia d
   have o1 := one_in d
   go_wp2_with ((with_reducible show wpList _ _ _ _ _ _); refine wpList_store_mid rfl 30 _ _ rfl (W.heap.size + 1) 0 (ir d.op d.a d.b d.c d.m).toArray rfl rfl zb s1 o1 ?_; clear zb s1 o1; change wpList _ _ _ _ _ (w4.setCells (W.heap.size + 1) 0 (ir d.op d.a d.b d.c d.m)); generalize w4.setCells (W.heap.size + 1) 0 (ir d.op d.a d.b d.c d.m) = wf at hf ⊢)
   exact bodyPost_ret (v := .tuple #[iv d, .int .i64 0]) (res_two Tryz.results17 rfl rfl (load_in hf.out (List.mem_cons_self ..))) rfl ⟨by rw [hdD.out], hf.out.bl⟩
 · have ht' : (t == 0) = false := by simpa using ht
   obtain ⟨d, hd⟩ : ∃ d, d = Ins.zero := ⟨_, rfl⟩
   have hdD := hid (show Ins.zero = D from by rw [hD.out, if_neg ht])
   clear ht hD hLd H2
   have zb := k2.out.there (g := W.heap.size + 1) (vs := ir 0 0 0 0 0) (by simp) 0 5 (by decide)
   have hf := hid ((k2.out.sub (L' := [⟨W.heap.size + 1, ir 0 0 0 0 0⟩]) (by simp)).putA (ir 0 0 0 0 0) (by simp) (by simp) rfl)
   have s1 := size_ia Ins.zero
   have o1 := one_in Ins.zero
   go_wp2_with ((with_reducible show wpList _ _ _ _ _ _); refine wpList_store_mid rfl 30 _ _ rfl (W.heap.size + 1) 0 (ir 0 0 0 0 0).toArray rfl rfl zb s1 o1 ?_; clear zb s1 o1; change wpList _ _ _ _ _ (w2.setCells (W.heap.size + 1) 0 (ir 0 0 0 0 0)); generalize w2.setCells (W.heap.size + 1) 0 (ir 0 0 0 0 0) = wf at hf ⊢)
   exact bodyPost_ret (v := .tuple #[iv Ins.zero, .int .i64 t]) (res_two Tryz.results17 rfl rfl (load_in (i := Ins.zero) hf.out (List.mem_cons_self ..))) rfl ⟨by rw [hdD.out], hf.out.bl⟩
end
section
variable {W w : World} {L : List Rw}
set_option maxHeartbeats 4000000 in
theorem pwr_any (q gi gt : Nat) (X : List Cp) (hX : X.length = 17) (op B C m t0 why : Int) (A : Nat) (hA : A < 16) (c : Cp)
   (K : KR W (⟨q, fC X⟩ :: ⟨gt, [.int .i64 t0]⟩ :: ⟨gi, ir op A B C m⟩ :: L) w) (hq : W.heap.size ≤ q) (ht : W.heap.size ≤ gt) (n1 : gt ≠ q) (n2 : gi ≠ q) (n3 : gi ≠ gt) (n4 : ∀ x, x ∈ L → x.g ≠ q ∧ x.g ≠ gt) :
   Calls Tryz.prog 39 #[c.V, .int .i64 why, .pointer (some ⟨q, 0, none⟩), .pointer (some ⟨gi, 0, none⟩), .pointer (some ⟨gt, 0, none⟩)] w fun e w' => e = .returned (.tuple #[]) ∧ KR W (⟨q, fC (X.set A c)⟩ :: ⟨gt, [.int .i64 why]⟩ :: ⟨gi, ir op A B C m⟩ :: L) w' := by
 have k0 := hid (K.push c.C 25)
 have lt := hid (fun (x : Rw) (hx : x ∈ (⟨q, fC X⟩ :: ⟨gt, [.int .i64 t0]⟩ :: ⟨gi, ir op A B C m⟩ :: L)) => K.lt (g := x.g) (vs := x.vs) hx)
 clear K
 change Calls Tryz.prog 39 #[.agg #[.int .u32 c.cu, .int .u8 c.e, .int .u16 c.b, .int .u16 c.t, .int .u16 c.pm, .int .u16 c.ty, .int .u32 c.rs, .bool c.va], _, _, _, _] w _
 go_enter Tryz.func39, Tryz.ntmps39
 go_upto_region 1 with (fail)
 change Code.wp _ _ _ _ (w.alloc (.cells c.C.toArray 25))
 generalize (w.alloc (.cells c.C.toArray 25)) = w1 at k0 ⊢
 have nq : w.heap.size ≠ q := by have := lt.out ⟨q, fC X⟩ (by simp); simp only at this; omega
 have ngt : w.heap.size ≠ gt := by have := lt.out ⟨gt, [.int .i64 t0]⟩ (by simp); simp only at this; omega
 obtain ⟨p0, p1, p2, p3, p4, p5, p6, p7⟩ := (k0.out.cap (g := w.heap.size) (List.mem_cons_self ..) : CapAt _ _ c.cu c.e c.b c.t c.pm c.ty c.rs c.va)
 have i1 := k0.out.cell (g := gi) (j := 1) (u := .int .i64 A) (ir op A B C m) (by simp) rfl
 have th := k0.out.there (g := q) (vs := fC X) (by simp) (A * 8) 8 (by rw [fC_len, hX]; omega)
 have kq : KR W (⟨q, fC X⟩ :: ⟨w.heap.size, c.C⟩ :: ⟨gt, [.int .i64 t0]⟩ :: ⟨gi, ir op A B C m⟩ :: L) w1 := k0.out.swap
 have k1 := hid (kq.putF hq (fun x hx => by
   simp only [List.mem_cons] at hx
   rcases hx with rfl | rfl | rfl | hx
   · exact nq
   · exact n1
   · exact n2
   · exact (n4 x hx).1) A c (by rw [hX]; omega))
 have s1 := size_ca c
 have o1 := one_cp c
 clear kq k0
 go_wp2_with ((with_reducible show wpList _ _ _ _ _ _); refine wpList_store_mid rfl 25 _ _ rfl q (A * 8) c.C.toArray rfl rfl th s1 o1 ?_; clear th s1 o1 i1 p0 p1 p2 p3 p4 p5 p6 p7; change wpList _ _ _ _ _ (w1.setCells q (A * 8) c.C); generalize w1.setCells q (A * 8) c.C = w2 at k1 ⊢; have v8 := k1.out.cell (g := gt) (j := 0) (u := .int .i64 t0) [.int .i64 t0] (by simp) rfl; have f8 := k1.out.soft (g := gt) (vs := [.int .i64 t0]) (by simp) 0)
 go_end0
 have k2 : KR W (⟨gt, [.int .i64 t0]⟩ :: ⟨q, fC (X.set A c)⟩ :: ⟨gi, ir op A B C m⟩ :: L) w2 := k1.out.sub (by
   intro x hx
   simp only [List.mem_cons] at hx ⊢
   rcases hx with rfl | rfl | rfl | hx
   · simp
   · simp
   · simp
   · simp [hx])
 exact ⟨rfl, (k2.set ht (fun x hx => by
   simp only [List.mem_cons] at hx
   rcases hx with rfl | rfl | hx
   · exact Ne.symm n1
   · exact n3
   · exact (n4 x hx).2) 0 (.int .i64 why) (by simp)).swap⟩
end
end Go.Proofs.YtkmgdfcambdeeaaGreatDoor
