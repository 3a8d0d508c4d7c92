/- For core. -/
import Derived.Test.YtkmgdfcambdeeaaGreatDoorQar
import Derived.Test.YtkmgdfcambdeeaaGreatDoorQas
namespace Go.Proofs.YtkmgdfcambdeeaaGreatDoor
open Lib (hid)
set_option maxRecDepth 100000
open Go.RowKit
set_option linter.unusedVariables false
theorem rAddr_cp (c : Cp) (h : c.fit) (n : Nat) (ln : n < 4294967296) (W : World) : Calls Tryz.prog 94 #[c.V, .int .u32 n] W fun ee w' => ee = .returned (cAddr c n).V ∧ Below W.heap.size W w' :=
 rAddr_any c.cu c.e c.b c.t c.pm c.ty c.rs c.va n h.l0 ln W
def fur (F : List Cp) (n : Int) : Cp := cAddr (reg F 16) ((((reg F 16).cu : Int) + 4 * (n % 4294967296) % 4294967296) % 4294967296).toNat
theorem rfurther_any (F : List Cp) (hF : Fit F) (n : Int) (W : World) : Calls Tryz.prog 47 #[fV F, .int .i64 n] W fun e w' => e = .returned (fur F n).V ∧ Below W.heap.size W w' := by
 have k0 := start_fc F W
 have hl : 16 < F.length := by rw [hF.len]; decide
 obtain ⟨N, hN, hN4⟩ : ∃ N : Nat, ((((reg F 16).cu : Int) + 4 * (n % 4294967296) % 4294967296) % 4294967296) = (N : Int) ∧ N < 4294967296 := ⟨((((reg F 16).cu : Int) + 4 * (n % 4294967296) % 4294967296) % 4294967296).toNat, by omega, by omega⟩
 have hA := hid (fun w => rAddr_cp (reg F 16) (hF.reg 16) N hN4 w)
 have he : cAddr (reg F 16) N = fur F n := by unfold fur; rw [hN]; rfl
 rw [he] at hA
 obtain ⟨d, hd⟩ : ∃ d, d = fur F n := ⟨_, rfl⟩
 rw [← hd] at hA ⊢
 clear he hN4 hd
 replace k0 := hid k0
 unfold fV
 go_enter Tryz.func47, Tryz.ntmps47
 go_upto_region 1 with (fail)
 generalize ((W.alloc (.cells (fC F).toArray 28)).alloc _) = w1 at k0 ⊢
 have pc := k0.out.reg (List.mem_cons_of_mem _ (List.mem_cons_self ..)) (reg_get hl)
 generalize reg F 16 = c at *
 obtain ⟨p0, p1, p2, p3, p4, p5, p6, p7⟩ := pc
 simp only [Nat.reduceMul, Nat.reduceAdd] at p0 p1 p2 p3 p4 p5 p6 p7
 go_wp2_with fail
 refine (hA.out _).mono ?_
 rintro ee w2 ⟨rfl, h1⟩
 have hk1 := k0.out.below h1
 clear h1 k0 hA p0 p1 p2 p3 p4 p5 p6 p7
 obtain ⟨r0, r1, r2, r3, r4, r5, r6, r7⟩ := (hk1.cap (g := W.heap.size + 1) (List.mem_cons_self ..) : CapAt _ _ 0 0 0 0 0 0 0 false)
 have fr := hk1.soft (g := W.heap.size + 1) (List.mem_cons_self ..)
 have hf := hid (hk1.whole d.C (by simp) (by simp) rfl)
 clear hk1
 unfold Cp.V Cp.C cv
 go_wp2_with fail
 change bodyPost _ _ _ _ _ (setRow (W.heap.size + 1) 0 d.C w2)
 clear r0 r1 r2 r3 r4 r5 r6 r7 fr
 generalize setRow (W.heap.size + 1) 0 d.C w2 = wf at *
 obtain ⟨z0, z1, z2, z3, z4, z5, z6, z7⟩ := hf.out.cap (g := W.heap.size + 1) (List.mem_cons_self ..)
 exact bodyPost_ret (v := d.V) (by simp [results, Tryz.results47, go_sem, z0, z1, z2, z3, z4, z5, z6, z7]; rfl) rfl ⟨rfl, hf.out.bl⟩
def nxt (F : List Cp) : List Cp := F.set 16 (fur F 1)
theorem res_one {P : Program} {fn : Func} {p : Tmp} {ty : TypeId} (h : fn.results = #[.cell p ty]) {tmps : Array Value} {w : World} {g : Nat} {v : Value} (hp : tmps.getD p undef = .pointer (some ⟨g, 0, none⟩)) (hl : (loadVar ty ⟨g, 0, none⟩).run P w = .ok v w) : (results fn tmps).run P w = .ok v w := by
 have hp' : tmps[p]?.getD undef = .pointer (some ⟨g, 0, none⟩) := by simpa using hp
 simp [results, h, asAddr, hp', hl]
set_option maxHeartbeats 1000000 in
theorem rNext_any (F : List Cp) (hF : Fit F) (W : World) : Calls Tryz.prog 19 #[fV F] W fun e w' => e = .returned (fV (nxt F)) ∧ Below W.heap.size W w' := by
 have k0 := hid (start_ff F W)
 have hA := hid (fun w => rfurther_any F hF 1 w)
 have sz := size_fr hF.len
 unfold fV
 go_enter Tryz.func19, Tryz.ntmps19
 go_upto_region 1 with (fail)
 generalize ((W.alloc (.cells (fC F).toArray 28)).alloc _) = w1 at k0 ⊢
 have rg := k0.out.range (g := W.heap.size) (vs := fC F) (by simp)
 go_wp2_with (refine wpList_load_mid rfl 28 _ rfl W.heap.size 0 rfl (fC F) _ rg Tryz.underlying28 rfl sz ?_)
 refine (hA.out _).mono ?_
 rintro ee w2 ⟨rfl, h1⟩
 have hk1 := (k0.out.below h1).swap
 clear h1 k0 hA rg
 obtain ⟨d, hd⟩ : ∃ d, d = fur F 1 := ⟨_, rfl⟩
 rw [← hd]
 replace hd := hid hd
 have th := hk1.there (g := W.heap.size) (vs := fC F) (by simp) 128 8 (by rw [fC_len, hF.len]; decide)
 have hk2 := hid (hk1.putF (by simp) (by simp <;> omega) 16 d (by rw [hF.len]; decide))
 clear hk1
 have s1 := size_ca d
 have o1 := one_cp d
 go_upto_region 2 with (refine wpList_store_mid rfl 25 _ _ rfl W.heap.size 128 d.C.toArray rfl rfl th s1 o1 ?_)
 change Code.wp _ _ _ _ (w2.setCells W.heap.size (16 * 8) d.C)
 clear th s1 o1 sz
 generalize w2.setCells W.heap.size (16 * 8) d.C = w3 at hk2 ⊢
 have hn : nxt F = F.set 16 d := by rw [hd.out]; rfl
 rw [← hn] at hk2
 have hN : (nxt F).length = 17 := by unfold nxt; rw [List.length_set]; exact hF.len
 have sz := size_fr hN
 have sa := size_fa hN
 have o2 := one_fr (nxt F)
 have rg := hk2.out.range (g := W.heap.size) (vs := fC (nxt F)) (by simp)
 have hk3 := hk2.out.swap
 have th := hk3.there (g := W.heap.size + 1) (vs := fC zF) (by simp) 0 136 (by rw [fC_len]; decide)
 have hk4 := hid (hk3.putA (fC (nxt F)) (by simp) (by simp) (by rw [fC_len, fC_len, hN]; rfl))
 have th' : w3.there (W.heap.size + 1) 0 (fC (nxt F)).toArray.size := by rw [show (fC (nxt F)).toArray.size = 136 from by rw [List.size_toArray, fC_len, hN]]; exact th
 clear hk3 hk2 th
 go_wp2_with (first | (refine wpList_load_mid rfl 28 _ rfl W.heap.size 0 rfl (fC (nxt F)) _ rg Tryz.underlying28 rfl sz ?_) | (refine wpList_store_mid rfl 28 _ _ rfl (W.heap.size + 1) 0 (fC (nxt F)).toArray rfl rfl th' sa o2 ?_))
 clear rg th' sz sa o2
 generalize w3.setCells (W.heap.size + 1) 0 (fC (nxt F)) = w4 at hk4 ⊢
 have ld := load_fr hk4.out (g := W.heap.size + 1) (List.mem_cons_self ..) hN
 refine bodyPost_ret (v := fV (nxt F)) ?_ rfl ⟨rfl, hk4.out.bl⟩
 exact res_one Tryz.results19 rfl ld
end Go.Proofs.YtkmgdfcambdeeaaGreatDoor
namespace Go.Proofs.YtkmgdfcambdeeaaGreatDoor
open Lib (hid)
open Go.RowKit
set_option linter.unusedVariables false
section
variable {r rb tb n g : Nat} {f : Nat → Bool} {l : List UInt8} {w : World}
set_option maxRecDepth 100000 in
set_option maxHeartbeats 1000000 in
theorem rtag_any (H : RfAt w r rb tb n g f l) (p : Int) (hp : -9223372036854775808 ≤ p ∧ p < 9223372036854775808) : Calls Tryz.prog 56 #[.pointer (some ⟨r, 0, none⟩), .int .i64 p] w (ListPost w (tgP f g p)) := by
 obtain ⟨i0, hi, hz0, hz1, hz2⟩ := info_parts info32
 have hH := hid H
 have hg := H.hi
 clear H
 go_enter Tryz.func56, Tryz.ntmps56
 go_wp2_with fail
 go_loopw [5, 6] (fun b i wr => ∃ j : Nat, j ≤ g ∧ i = .int .i64 j ∧ wr.ownsRow w.heap.size 22 1 b (tgl (fun i => f i && decide (((i / 16 : Nat) : Int) = p)) 0 j).length ((tgl (fun i => f i && decide (((i / 16 : Nat) : Int) = p)) 0 j).map u32v) ∧ Below w.heap.size w wr) (fun _ i _ => g - (intOf i).toNat)
 case atStart => exact ⟨0, by omega, rfl, World.ownsRow_nil _ _ _ _, Below.refl _ _⟩
 case round =>
   obtain ⟨j, hj, rfl, hown2, hbl⟩ := hrel
   have hL := hid hbl
   have hOw := hid hown2
   have R := hH.out.below hbl
   have q1 := R.q1
   have jg : (j : Int) ≤ g := by omega
   by_cases hlt : j < g
   · have jlt : (j : Int) < g := by omega
     have c0 := (R.tg j hlt).1
     have hstep : tgl (fun i => f i && decide (((i / 16 : Nat) : Int) = p)) 0 (j + 1) = tgl (fun i => f i && decide (((i / 16 : Nat) : Int) = p)) 0 j ++ (if f j && decide (((j / 16 : Nat) : Int) = p) then [16 * j] else []) := by
       rw [tgl, Nat.zero_add]
     have hlen := hid (tgl_len (fun i => f i && decide (((i / 16 : Nat) : Int) = p)) 0 j)
     generalize tgl (fun i => f i && decide (((i / 16 : Nat) : Int) = p)) 0 j = L at *
     clear R hown2 hbl
     by_cases hv : f j = true ∧ (j : Int) / 16 = p
     · rw [hv.1, decide_eq_true (show ((j / 16 : Nat) : Int) = p by omega)] at hstep
       rw [hv.1] at c0
       have hv2 := hv.2
       have hE := hid (show tgl (fun i => f i && decide (((i / 16 : Nat) : Int) = p)) 0 (j + 1) = L ++ [16 * j] from hstep)
       have s3 : IntKind.i64.wrap (16 * (j : Int)) = 16 * (j : Int) := by rw [IntKind.wrap_i64]; omega
       have s4 : IntKind.u32.wrap (16 * (j : Int)) = 16 * (j : Int) := by rw [IntKind.wrap_u32]; omega
       clear hv hstep
       go_wp2_with (at_builtin; refine wpList_append_own _ rfl _ _ 101 rfl w.heap.size 22 i0 (.int .u32 0) 1 4 Tryz.underlying101 hi hz0 hz1 hz2 rfl (by decide) _ _ _ rfl (hOw.out.alloc _) ⟨wr.heap.size, 0, none⟩ 1 1 [.int .u32 (16 * (j : Int))] rfl rfl ?c1 ?c2 ?c3 ?c4 ?c5 ?_)
       case c1 =>
         intro i u hu
         match i, hu with
         | 0, hu => simp at hu; subst hu; simp [Addr.add]
       case c2 => intro u hu; simp at hu; subst hu; rfl
       case c3 => have := hlen.out; unfold maxLen; omega
       case c4 => have := hlen.out; omega
       case c5 => have := hL.out.size; simp; omega
       · intro v' w7 hown' hgrow _
         have hlo := hOw.out.lt
         have hL1 : Below w.heap.size w w7 := below_own (hL.out.alloc hL.out.size _) hgrow (fun q hq => (hlo q hq).1) (by have := hL.out.size; simp; omega)
         have hO1 : w7.ownsRow w.heap.size 22 1 v' (tgl (fun i => f i && decide (((i / 16 : Nat) : Int) = p)) 0 (j + 1)).length ((tgl (fun i => f i && decide (((i / 16 : Nat) : Int) = p)) 0 (j + 1)).map u32v) := by
           rw [hE.out, List.map_append, List.length_append]
           have e1 : List.map u32v [16 * j] = [.int .u32 (16 * (j : Int))] := by
             simp only [List.map_cons, List.map_nil, u32v]
             rw [show ((16 * j : Nat) : Int) = 16 * (j : Int) from by omega]
           rw [e1]; exact hown'
         replace hL1 := hid hL1
         replace hO1 := hid hO1
         clear hown' hgrow hlo
         go_wp2
         go_roundw
         case rel => exact ⟨j + 1, by omega, by go_num, hO1.out, hL1.out⟩
         case measure => simp [intOf]; omega
     · have hE := hid (show tgl (fun i => f i && decide (((i / 16 : Nat) : Int) = p)) 0 (j + 1) = L from by
         rw [hstep, if_neg, List.append_nil]
         simp
         intro h1 h2
         exact hv ⟨h1, by omega⟩)
       clear hstep
       rcases hf : f j with _ | _
       · rw [hf] at c0
         clear hf hv
         go_wp2
         go_roundw
         case rel => exact ⟨j + 1, by omega, by go_num, by rw [hE.out]; exact hOw.out, hL.out⟩
         case measure => simp [intOf]; omega
       · rw [hf] at c0
         have hv2 : ¬ (j : Int) / 16 = p := fun h => hv ⟨hf, h⟩
         clear hf hv
         go_wp2
         go_roundw
         case rel => exact ⟨j + 1, by omega, by go_num, by rw [hE.out]; exact hOw.out, hL.out⟩
         case measure => simp [intOf]; omega
   · obtain rfl : j = g := by omega
     clear R hown2 hbl
     go_wp2_with fail
     go_ret
     exact ⟨_, rfl, hOw.out, hL.out⟩
end
end Go.Proofs.YtkmgdfcambdeeaaGreatDoor
namespace Go.Proofs.YtkmgdfcambdeeaaGreatDoor
open Lib (hid)
open Go.RowKit
set_option linter.unusedVariables false
section
variable {r rb tb n g : Nat} {f : Nat → Bool} {l : List UInt8} {w : World}
end
end Go.Proofs.YtkmgdfcambdeeaaGreatDoor
namespace Go.Proofs.YtkmgdfcambdeeaaGreatDoor
open Lib (hid)
open Go.RowKit
set_option linter.unusedVariables false
section
variable {r rb tb n g : Nat} {f : Nat → Bool} {l : List UInt8} {w : World}
set_option maxRecDepth 100000 in
set_option maxHeartbeats 4000000 in
theorem rlcap_yes (H : RfAt w r rb tb n g f l) (at_ : Nat) (la : at_ < 4294967296) (h0 : grn n at_ = true) :
   Calls Tryz.prog 96 #[.pointer (some ⟨r, 0, none⟩), .int .u32 at_] w fun e w' => e = .returned (.tuple #[capV ((l.drop at_).take 16) (f (at_ / 16)), .bool true]) ∧ Below w.heap.size w w' := by
 have h1 : at_ % 16 = 0 ∧ at_ + 16 ≤ n := by
   simp only [grn, Bool.and_eq_true, decide_eq_true_eq] at h0
   exact ⟨h0.1, (thr_iff (k := 16)).1 h0.2⟩
 have hn := H.ln
 have K0 := (KR.start (W := w)).push (cv 0 0 0 0 0 0 0 false) 25
 have H1 := H.below ((Below.refl _ w).alloc (Nat.le_refl _) (.cells #[.int .u32 0, .int .u8 0, .int .u16 0, .int .u16 0, .int .u16 0, .int .u16 0, .int .u32 0, .bool false] 25))
 have hT := hid (rthere_any H1 at_ 16 la (by omega))
 rw [show thr n at_ 16 = true from (thr_iff (k := 16)).2 h1.2] at hT
 have i0 : (at_ : Int) % 16 = 0 := by omega
 have i1 : (at_ : Int) + 16 ≤ n := by omega
 have hlen : ((l.drop at_).take 16).length = 16 := by have := H.len; simp; omega
 have hconv : ∀ (w' : World), RfAt w' r rb tb n g f l → ∀ cp, (convert 97 9 (.slice (some ⟨rb, at_, none⟩) 16 cp)).run Tryz.prog w' = .ok (.string ⟨((l.drop at_).take 16).toArray⟩) w' := fun w' h' cp => by
   have := run_convert_bytes_back (P := Tryz.prog) w' 97 9 5 ⟨rb, at_, none⟩ cp ((l.drop at_).take 16) Tryz.underlying97 Tryz.underlying5 Tryz.underlying9 (fun j hj => by
     rw [Addr.add_lit]
     rw [hlen] at hj
     refine (h'.by_ (at_ + j) _ ?_).trans rfl
     rw [List.getElem_take, List.getElem_drop]
     exact List.getElem?_eq_getElem _)
   rwa [hlen] at this
 obtain ⟨p, hp⟩ : ∃ p, p = at_ / 16 := ⟨_, rfl⟩
 have ep : (at_ : Int) / 16 = (p : Int) := by omega
 have hpg : p < g := by have := H.hn; omega
 have jp : (p : Int) < g := by omega
 rw [← hp]
 have hOf := fun v w' => rOf_yes ((l.drop at_).take 16) v w' hlen
 have hV : ∀ v, capV ((l.drop at_).take 16) v = capV ((l.drop at_).take 16) v := fun _ => rfl
 conv at hV => intro v; rhs; unfold capV
 generalize hs : (l.drop at_).take 16 = s at *
 generalize hz : sndP (nm s 4 1) (nm s 5 2) (nm s 7 2) (nm s 9 2) (nm s 11 2) (nm s 13 3) = z at *
 have hfv : ∀ (w' : World), RfAt w' r rb tb n g f l → w'.cell? ⟨tb, p, none⟩ = some (.bool (f p)) := fun w' h' => (h'.tg p hpg).1
 generalize f p = fv at *
 have hV' := hid (hV fv)
 clear hs hz hV hp h0 h1
 generalize nm s 0 4 = m0 at *
 generalize nm s 4 1 = m1 at *
 generalize nm s 5 2 = m2 at *
 generalize nm s 7 2 = m3 at *
 generalize nm s 9 2 = m4 at *
 generalize nm s 11 2 = m5 at *
 generalize nm s 13 3 = m6 at *
 obtain ⟨S, hS0⟩ : ∃ S, S = fun w' => KR w [⟨w.heap.size, cv 0 0 0 0 0 0 0 false⟩] w' ∧ RfAt w' r rb tb n g f l := ⟨_, rfl⟩
 have hK : ∀ w', S w' → KR w [⟨w.heap.size, cv 0 0 0 0 0 0 0 false⟩] w' ∧ RfAt w' r rb tb n g f l := fun w' h => by rw [hS0] at h; exact h
 have hS : ∀ w1 w', S w1 → Below w1.heap.size w1 w' → S w' := fun w1 w' h k => by rw [hS0] at h ⊢; exact ⟨h.1.below k, h.2.below k⟩
 have K2 := hid (show S (w.alloc (.cells #[.int .u32 0, .int .u8 0, .int .u16 0, .int .u16 0, .int .u16 0, .int .u16 0, .int .u32 0, .bool false] 25)) by rw [hS0]; exact ⟨K0, H1⟩)
 clear hS0 K0 H1 H
 have b0 : ∀ y : Wd S, y.w.cell? ⟨r, 0, none⟩ = some (.slice (some ⟨rb, 0, none⟩) n n) := fun y => (hK _ y.h).2.q0
 have b1 : ∀ y : Wd S, y.w.cell? ⟨r, 1, none⟩ = some (.slice (some ⟨tb, 0, none⟩) g g) := fun y => (hK _ y.h).2.q1
 have b2 : ∀ y : Wd S, y.w.cell? ⟨tb, p, none⟩ = some (.bool fv) := fun y => hfv _ (hK _ y.h).2
 have b3 : ∀ (y : Wd S) cp, (convert 97 9 (.slice (some ⟨rb, at_, none⟩) 16 cp)).run Tryz.prog y.w = .ok (.string ⟨s.toArray⟩) y.w := fun y cp => hconv _ (hK _ y.h).2 cp
 have cF := hid (cls_bel hS (fun w => hOf fv w))
 have hfin := hid (fun w' (h : KR w [⟨w.heap.size, cv 0 0 0 0 0 0 0 false⟩] w') => (show KR w [⟨w.heap.size, [.int .u32 m0, .int .u8 m1, .int .u16 m2, .int .u16 m3, .int .u16 m4, .int .u16 m5, .int .u32 m6, .bool (fv && z)]⟩] _ from h.whole [.int .u32 m0, .int .u8 m1, .int .u16 m2, .int .u16 m3, .int .u16 m4, .int .u16 m5, .int .u32 m6, .bool (fv && z)] (Nat.le_refl _) (fun x hx => by cases hx) rfl))
 have hund : undef = Value.tuple #[] := rfl
 have e3 : IntKind.u32.wrap ((at_ : Int) + 16) = (at_ : Int) + 16 := by rw [IntKind.wrap_u32]; omega
 have e4 : ((at_ : Int) + 16).toNat = at_ + 16 := by omega
 have e5 : at_ + 16 - at_ = 16 := by omega
 have e6 : 0 ≤ (at_ : Int) + 16 := by omega
 have e7 : (at_ : Int) < n := by omega
 clear hOf hconv hfv
 go_enter Tryz.func96, Tryz.ntmps96
 go_wp2_with fail
 refine hT.out.mono ?_
 rintro e w2 ⟨rfl, rfl⟩
 generalize (w.alloc (.cells #[.int .u32 0, .int .u8 0, .int .u16 0, .int .u16 0, .int .u16 0, .int .u16 0, .int .u32 0, .bool false] 25)) = w4 at *
 go_wp2_with fail
 refine region_cls_tail S 20 (by kernel_rfl) (by kernel_rfl) (hS _ _ K2.out (Below.refl _ _).drew) ?_
 simp only [List.take_succ_cons, List.take_zero, List.drop_succ_cons, List.drop_zero]
 repeat (first
   | go_big_quiet_skip
   | (go_big_quiet_want
      go_big_quiet_op
      first
      | go_big_quiet_on
      | (apply Exists.intro
         refine ⟨fun y => ?_, ?_⟩
         · first | exact rfl | with_reducible exact cF.out y
         go_big_quiet_on)))
 refine wpQuiet_nil ?_
 intro y
 have hk := hid (hK _ y.h)
 generalize y.w = wy at *
 clear b0 b1 b2 b3
 obtain ⟨r0, r1, r2, r3, r4, r5, r6, r7, fr⟩ := hk.out.1.cells8 (g := w.heap.size) (cu := 0) (e := 0) (b := 0) (t := 0) (pm := 0) (ty := 0) (rs := 0) (va := false) (by simp)
 have hf := hid (hfin.out _ hk.out.1)
 go_wp2_with fail
 change bodyPost _ _ _ _ _ (setRow w.heap.size 0 [.int .u32 m0, .int .u8 m1, .int .u16 m2, .int .u16 m3, .int .u16 m4, .int .u16 m5, .int .u32 m6, .bool (fv && z)] wy)
 clear r0 r1 r2 r3 r4 r5 r6 r7 fr
 generalize setRow w.heap.size 0 [.int .u32 m0, .int .u8 m1, .int .u16 m2, .int .u16 m3, .int .u16 m4, .int .u16 m5, .int .u32 m6, .bool (fv && z)] wy = w5 at *
 obtain ⟨z0, z1, z2, z3, z4, z5, z6, z7⟩ := hf.out.cap (g := w.heap.size) (cu := m0) (e := m1) (b := m2) (t := m3) (pm := m4) (ty := m5) (rs := m6) (va := fv && z) (List.mem_cons_self ..)
 refine bodyPost_ret (v := .tuple #[.agg #[.int .u32 m0, .int .u8 m1, .int .u16 m2, .int .u16 m3, .int .u16 m4, .int .u16 m5, .int .u32 m6, .bool (fv && z)], .bool true]) (by simp [results, Tryz.results96, go_sem, z0, z1, z2, z3, z4, z5, z6, z7]) rfl ⟨?_, hf.out.bl⟩
 rw [hV'.out]
end
end Go.Proofs.YtkmgdfcambdeeaaGreatDoor
namespace Go.Proofs.YtkmgdfcambdeeaaGreatDoor
open Lib (hid)
open Go.RowKit
set_option linter.unusedVariables false
section
variable {r rb tb n g : Nat} {f : Nat → Bool} {l : List UInt8} {w : World}
set_option maxRecDepth 100000 in
theorem rscap_no (H : RfAt w r rb tb n g f l) (cu e b t pm ty rs : Nat) (va : Bool) (at_ : Nat) (l0 : cu < 4294967296) (l1 : e < 256) (l2 : b < 65536) (l3 : t < 65536) (l4 : pm < 65536) (l5 : ty < 65536) (l6 : rs < 4294967296) (la : at_ < 4294967296) (h0 : grn n at_ = false) :
   Calls Tryz.prog 33 #[.pointer (some ⟨r, 0, none⟩), .int .u32 at_, .agg #[.int .u32 cu, .int .u8 e, .int .u16 b, .int .u16 t, .int .u16 pm, .int .u16 ty, .int .u32 rs, .bool va]] w fun e w' => e = .returned (.bool false) ∧ Below w.heap.size w w' := by
 have hb := hid ((Below.refl w.heap.size w).alloc (Nat.le_refl _) (.cells #[.int .u32 cu, .int .u8 e, .int .u16 b, .int .u16 t, .int .u16 pm, .int .u16 ty, .int .u32 rs, .bool va] 25))
 have hT := hid (rthere_any (H.below ((Below.refl _ w).alloc (Nat.le_refl _) (.cells #[.int .u32 cu, .int .u8 e, .int .u16 b, .int .u16 t, .int .u16 pm, .int .u16 ty, .int .u32 rs, .bool va] 25))) at_ 16 la (by omega))
 by_cases h1 : at_ % 16 = 0
 · have ht : thr n at_ 16 = false := by simpa [grn, h1] using h0
   rw [ht] at hT
   have i0 : (at_ : Int) % 16 = 0 := by omega
   clear H h0 h1 ht
   go_enter Tryz.func33, Tryz.ntmps33
   go_wp2_with fail
   refine hT.out.mono ?_
   rintro ee w2 ⟨rfl, rfl⟩
   go_wp2
   go_ret
   exact ⟨rfl, hb.out⟩
 · have i0 : ¬ (at_ : Int) % 16 = 0 := by omega
   clear H h0 h1
   go_enter Tryz.func33, Tryz.ntmps33
   go_wp2
   go_ret
   exact ⟨rfl, hb.out⟩
set_option maxRecDepth 100000 in
set_option maxHeartbeats 4000000 in
theorem rscap_yes (H : RfAt w r rb tb n g f l) (cu e b t pm ty rs : Nat) (va : Bool) (at_ : Nat) (l0 : cu < 4294967296) (l1 : e < 256) (l2 : b < 65536) (l3 : t < 65536) (l4 : pm < 65536) (l5 : ty < 65536) (l6 : rs < 4294967296) (la : at_ < 4294967296) (h0 : grn n at_ = true) :
   Calls Tryz.prog 33 #[.pointer (some ⟨r, 0, none⟩), .int .u32 at_, .agg #[.int .u32 cu, .int .u8 e, .int .u16 b, .int .u16 t, .int .u16 pm, .int .u16 ty, .int .u32 rs, .bool va]] w (Rxt r rb tb n g (upd (clr f at_ 16) (at_ / 16) (va && sndP e b t pm ty rs)) (ovr l at_ (bytesC cu e b t pm ty rs)) w (.bool true)) := by
 have h1 : at_ % 16 = 0 ∧ at_ + 16 ≤ n := by
   simp only [grn, Bool.and_eq_true, decide_eq_true_eq] at h0
   exact ⟨h0.1, (thr_iff (k := 16)).1 h0.2⟩
 have hn := H.ln
 have hH := hid H
 have hb := hid ((Below.refl w.heap.size w).alloc (Nat.le_refl _) (.cells #[.int .u32 cu, .int .u8 e, .int .u16 b, .int .u16 t, .int .u16 pm, .int .u16 ty, .int .u32 rs, .bool va] 25))
 have H1 := H.below ((Below.refl _ w).alloc (Nat.le_refl _) (.cells #[.int .u32 cu, .int .u8 e, .int .u16 b, .int .u16 t, .int .u16 pm, .int .u16 ty, .int .u32 rs, .bool va] 25))
 have hT := hid (rthere_any H1 at_ 16 la (by omega))
 rw [show thr n at_ 16 = true from (thr_iff (k := 16)).2 h1.2] at hT
 have K0 := hid (show RS [⟨w.heap.size, cv cu e b t pm ty rs va⟩] (w.alloc (.cells #[.int .u32 cu, .int .u8 e, .int .u16 b, .int .u16 t, .int .u16 pm, .int .u16 ty, .int .u32 rs, .bool va] 25)) from (RS.nil w).push (cv cu e b t pm ty rs va) 25)
 have i0 : (at_ : Int) % 16 = 0 := by omega
 have hBy := hid (fun w => rBytes_any cu e b t pm ty rs va w l0 l1 l2 l3 l4 l5 l6)
 have hSn := hid (fun w => rSound_any cu e b t pm ty rs va w)
 have hl := bytesC_length cu e b t pm ty rs
 generalize bytesC cu e b t pm ty rs = s at *
 obtain ⟨p, hp⟩ : ∃ p, p = at_ / 16 := ⟨_, rfl⟩
 have ep : (at_ : Int) / 16 = (p : Int) := by omega
 have hpg : p < g := by have := H.hn; omega
 have jp : (p : Int) < g := by omega
 rw [← hp]
 have hl' := hid hl
 have h1' := hid h1
 have H1' := hid H1
 clear H H1 h0 h1 hl hp
 go_enter Tryz.func33, Tryz.ntmps33
 go_wp2_with fail
 refine hT.out.mono ?_
 rintro ee w2 ⟨rfl, rfl⟩
 generalize (w.alloc (.cells #[.int .u32 cu, .int .u8 e, .int .u16 b, .int .u16 t, .int .u16 pm, .int .u16 ty, .int .u32 rs, .bool va] 25)) = w3 at *
 obtain ⟨a0, a1, a2, a3, a4, a5, a6, a7⟩ := K0.out.cap (g := w.heap.size) (cu := cu) (e := e) (b := b) (t := t) (pm := pm) (ty := ty) (rs := rs) (va := va) (by simp)
 go_wp2_with fail
 refine (hBy.out _).mono ?_
 rintro ee w4 ⟨rfl, k⟩
 have K1 := hid (K0.out.below k)
 have H2 := hid (H1'.out.below k)
 have B2 := hid (hb.out.trans (k.mono hb.out.size))
 clear k a0 a1 a2 a3 a4 a5 a6 a7
 go_wp2_with fail
 refine (rwrite_yes H2.out at_ s la (by rw [hl'.out]; exact h1'.out.2)).mono ?_
 rintro ee w5 ⟨rfl, k1, k2⟩
 rw [hl'.out] at k1
 have K2 := K1.out.of2 k2 (fun x hx => by
   have h1 := hH.out.lb
   have h2 := hH.out.lt
   simp at hx
   subst hx
   simp
   omega)
 obtain ⟨S, hS0⟩ : ∃ S, S = fun w' => RS [⟨w.heap.size, cv cu e b t pm ty rs va⟩] w' ∧ RfAt w' r rb tb n g (clr f at_ 16) (ovr l at_ s) ∧ Of2 w.heap.size rb tb w w' := ⟨_, rfl⟩
 have hK : ∀ w', S w' → RS [⟨w.heap.size, cv cu e b t pm ty rs va⟩] w' ∧ RfAt w' r rb tb n g (clr f at_ 16) (ovr l at_ s) ∧ Of2 w.heap.size rb tb w w' := fun w' h => by rw [hS0] at h; exact h
 have hS : ∀ w1 w', S w1 → Below w1.heap.size w1 w' → S w' := fun w1 w' h k => by
   rw [hS0] at h ⊢
   exact ⟨h.1.below k, h.2.1.below k, h.2.2.trans (Of2.of_below (k.mono h.2.2.size))⟩
 have KS := hid (show S w5 by rw [hS0]; exact ⟨K2, k1, (Of2.of_below B2.out).step k2⟩)
 have cS := hid (cls_bel hS hSn.out)
 obtain ⟨a0, a1, a2, a3, a4, a5, a6, a7⟩ := cls_cap (S := S) (bx := w.heap.size) (fun w h => (hK w h).1.cap (show (⟨_, cv cu e b t pm ty rs va⟩ : Rw) ∈ _ by simp))
 have b1 : ∀ y : Wd S, y.w.cell? ⟨r, 1, none⟩ = some (.slice (some ⟨tb, 0, none⟩) g g) := fun y => (hK _ y.h).2.1.q1
 have hund : undef = Value.tuple #[] := rfl
 clear k1 k2 K2 hS0 hSn
 go_wp2_with fail
 cases va
 all_goals
   refine region_cls_tail S 13 (by kernel_rfl) (by kernel_rfl) (hS _ _ KS.out (Below.refl _ _).drew) ?_
   simp only [List.take_succ_cons, List.take_zero, List.drop_succ_cons, List.drop_zero]
   repeat (first
     | go_big_quiet_skip
     | (go_big_quiet_want
        go_big_quiet_op
        first
        | go_big_quiet_on
        | (apply Exists.intro
           refine ⟨fun y => ?_, ?_⟩
           · first | exact rfl | with_reducible exact cS.out y
           go_big_quiet_on)))
   refine wpQuiet_nil ?_
   intro y
   have hk := hid (hK _ y.h)
   generalize y.w = wy at *
   clear a0 a1 a2 a3 a4 a5 a6 a7 b1
   obtain ⟨c0, c1⟩ := hk.out.2.1.tg p hpg
   have hE := hid (fun z => And.intro (hk.out.2.1.tag hpg z) (hk.out.2.2.setCell (p := ⟨tb, p, none⟩) (.inr (.inr rfl)) (.bool z)))
   go_wp2
   go_ret
   exact ⟨rfl, (hE.out _).1, (hE.out _).2⟩
theorem rscap_any (H : RfAt w r rb tb n g f l) (cu e b t pm ty rs : Nat) (va : Bool) (at_ : Nat) (l0 : cu < 4294967296) (l1 : e < 256) (l2 : b < 65536) (l3 : t < 65536) (l4 : pm < 65536) (l5 : ty < 65536) (l6 : rs < 4294967296) (la : at_ < 4294967296) :
   Calls Tryz.prog 33 #[.pointer (some ⟨r, 0, none⟩), .int .u32 at_, .agg #[.int .u32 cu, .int .u8 e, .int .u16 b, .int .u16 t, .int .u16 pm, .int .u16 ty, .int .u32 rs, .bool va]] w (Rxt r rb tb n g (scF n f at_ (va && sndP e b t pm ty rs)) (scL n l at_ (bytesC cu e b t pm ty rs)) w (.bool (grn n at_))) := by
 rcases hg : grn n at_ with _ | _
 · refine (rscap_no H cu e b t pm ty rs va at_ l0 l1 l2 l3 l4 l5 l6 la hg).mono fun ee w' k => ?_
   have := rxt_below H k
   simpa [scF, scL, hg] using this
 · refine (rscap_yes H cu e b t pm ty rs va at_ l0 l1 l2 l3 l4 l5 l6 la hg).mono fun ee w' k => ?_
   simpa [scF, scL, hg] using k
end
end Go.Proofs.YtkmgdfcambdeeaaGreatDoor
namespace Go.Proofs.YtkmgdfcambdeeaaGreatDoor
open Lib (hid)
open Go.RowKit
set_option linter.unusedVariables false
theorem info_bool : (Tryz.prog.info? 4).map (fun i => (i.zero, i.size, i.bytes)) = some (some (.bool false), 1, 1) := by kernel_rfl
def RMade (w : World) (g : Nat) (f : Nat → Bool) (l : List UInt8) (r : Nat) (w' : World) : Prop :=
 ∃ rb tb, RfAt w' r rb tb (16 * g) g f l ∧ Below w.heap.size w w' ∧ w.heap.size ≤ r ∧ w.heap.size ≤ rb ∧ w.heap.size ≤ tb
theorem RMade.drew {w w' : World} {g r : Nat} {f : Nat → Bool} {l : List UInt8} (h : RMade w g f l r w') : RMade w g f l r w'.drew := by
 obtain ⟨rb, tb, h1, h2, h3⟩ := h
 exact ⟨rb, tb, h1.drew, h2.drew, h3⟩
theorem made_b (w : World) (n j : Nat) (hj : j < n) : (w.alloc (.cells (madeCells #[.int .u8 0] n) 5)).cell? ⟨w.heap.size, j, none⟩ = some (.int .u8 0) := by simp [madeCells, hj, Nat.mod_one]
theorem made_t (w : World) (n j : Nat) (hj : j < n) : (w.alloc (.cells (madeCells #[.bool false] n) 4)).cell? ⟨w.heap.size, j, none⟩ = some (.bool false) := by simp [madeCells, hj, Nat.mod_one]
theorem RfAt.made {V : World} {rb tb g : Nat} (hb : ∀ j, j < 16 * g → V.cell? ⟨rb, j, none⟩ = some (.int .u8 0) ∧ V.frozen? ⟨rb, j, none⟩ = false) (ht : ∀ j, j < g → V.cell? ⟨tb, j, none⟩ = some (.bool false) ∧ V.frozen? ⟨tb, j, none⟩ = false)
   (lo : 256 ≤ g) (hi : g ≤ 16384) (n3 : rb ≠ tb) (lb : rb < V.heap.size) (lt : tb < V.heap.size) (T : TypeId) :
   RfAt (V.alloc (.cells #[.slice (some ⟨rb, 0, none⟩) (16 * g) (16 * g), .slice (some ⟨tb, 0, none⟩) g g] T)) V.heap.size rb tb (16 * g) g (fun _ => false) (List.replicate (16 * g) 0) := by
 refine ⟨by simp, by simp, fun j u hu => ?_, fun j hj => ?_, fun j hj => ⟨?_, ?_⟩, by simp, rfl, lo, hi, by omega, by omega, n3, by simp, by simp; omega, by simp; omega⟩
 · have hj : j < 16 * g := by simpa using (List.getElem?_eq_some_iff.1 hu).1
   have hu0 : u = 0 := by simpa [List.getElem?_replicate, hj] using hu.symm
   subst hu0
   exact (World.cell?_alloc_lt _ _ _ (by exact lb)).trans ((hb j hj).1)
 · exact (((Below.refl _ V).alloc (Nat.le_refl _) _).frozen (p := ⟨rb, j, none⟩) lb).trans (hb j hj).2
 · exact (World.cell?_alloc_lt _ _ _ (by exact lt)).trans (ht j hj).1
 · exact (((Below.refl _ V).alloc (Nat.le_refl _) _).frozen (p := ⟨tb, j, none⟩) lt).trans (ht j hj).2
set_option maxRecDepth 100000 in
set_option maxHeartbeats 1000000 in
theorem rnew_yes (p : Nat) (w : World) (h1 : 16 ≤ p) (h2 : p ≤ 1024) : Calls Tryz.prog 29 #[.int .i64 p] w fun e w' => ∃ r, e = .returned (.tuple #[.pointer (some ⟨r, 0, none⟩), .int .i64 0]) ∧ RMade w (16 * p) (fun _ => false) (List.replicate (256 * p) 0) r w' := by
 have hmk : ∀ w, (Instr.makeSlice 97 (.int .i64 ((p : Int) * 256)) (.int .i64 ((p : Int) * 256))).run Tryz.prog w = .ok (.slice (some ⟨w.heap.size, 0, none⟩) (256 * p) (256 * p)) (w.alloc (.cells (madeCells #[.int .u8 0] (256 * p)) 5)) := fun w => by
   have e : (p : Int) * 256 = ((256 * p : Nat) : Int) := by omega
   rw [e]
   exact run_make_row' 97 5 (.int .u8 0) 1 Tryz.underlying97 info_u8 rfl .i64 .i64 (256 * p) (by omega) (by omega) w
 have hmk2 : ∀ w, (Instr.makeSlice 98 (.int .i64 ((p : Int) * 256 / 16)) (.int .i64 ((p : Int) * 256 / 16))).run Tryz.prog w = .ok (.slice (some ⟨w.heap.size, 0, none⟩) (16 * p) (16 * p)) (w.alloc (.cells (madeCells #[.bool false] (16 * p)) 4)) := fun w => by
   have e : (p : Int) * 256 / 16 = ((16 * p : Nat) : Int) := by omega
   rw [e]
   exact run_make_row' 98 4 (.bool false) 1 Tryz.underlying98 info_bool rfl .i64 .i64 (16 * p) (by omega) (by omega) w
 have i1 : ¬ (p : Int) < 16 := by omega
 have i2 : ¬ (p : Int) > 1024 := by omega
 have i4 : IntKind.i64.wrap ((p : Int) * 256) = (p : Int) * 256 := by rw [IntKind.wrap_i64]; omega
 have i5 : IntKind.i64.wrap ((p : Int) * 256 / 16) = (p : Int) * 256 / 16 := by rw [IntKind.wrap_i64]; omega
 have i6 : ((p : Int) * 256).tdiv 16 = (p : Int) * 256 / 16 := Int.tdiv_eq_ediv_of_nonneg (by omega)
 have hfin : ∀ V rb tb T, (∀ j, j < 256 * p → V.cell? ⟨rb, j, none⟩ = some (.int .u8 0) ∧ V.frozen? ⟨rb, j, none⟩ = false) → (∀ j, j < 16 * p → V.cell? ⟨tb, j, none⟩ = some (.bool false) ∧ V.frozen? ⟨tb, j, none⟩ = false) → rb ≠ tb → rb < V.heap.size → tb < V.heap.size → Below w.heap.size w V → w.heap.size ≤ rb → w.heap.size ≤ tb →
     RMade w (16 * p) (fun _ => false) (List.replicate (256 * p) 0) V.heap.size (V.alloc (.cells #[.slice (some ⟨rb, 0, none⟩) (256 * p) (256 * p), .slice (some ⟨tb, 0, none⟩) (16 * p) (16 * p)] T)) := fun V rb tb T hb ht n3 lb lt hbl x1 x2 => by
   have e : 256 * p = 16 * (16 * p) := by omega
   rw [e] at hb ⊢
   exact ⟨rb, tb, RfAt.made hb ht (by omega) (by omega) n3 lb lt T, hbl.alloc hbl.size _, hbl.size, x1, x2⟩
 have hA := hid (hfin ((w.alloc (.cells (madeCells #[.int .u8 0] (256 * p)) 5)).alloc (.cells (madeCells #[.bool false] (16 * p)) 4)) w.heap.size (w.heap.size + 1) 100
   (fun j hj => ⟨(World.cell?_alloc_lt _ _ _ (by simp)).trans (made_b w _ j hj), (((Below.refl _ _).alloc (Nat.le_refl _) _).frozen (p := ⟨w.heap.size, j, none⟩) (by simp)).trans (by simp)⟩)
   (fun j hj => by have := made_t (w.alloc (.cells (madeCells #[.int .u8 0] (256 * p)) 5)) (16 * p) j hj; rw [World.size_alloc] at this; exact ⟨this, by rw [World.frozen?_alloc_at (hn := by simp)]⟩) (by omega) (by simp; omega) (by simp)
   (((Below.refl _ w).alloc (Nat.le_refl _) _).alloc (by simp) _) (by omega) (by omega))
 have hB := hid (hfin ((w.alloc (.cells (madeCells #[.bool false] (16 * p)) 4)).alloc (.cells (madeCells #[.int .u8 0] (256 * p)) 5)) (w.heap.size + 1) w.heap.size 100
   (fun j hj => by have := made_b (w.alloc (.cells (madeCells #[.bool false] (16 * p)) 4)) (256 * p) j hj; rw [World.size_alloc] at this; exact ⟨this, by rw [World.frozen?_alloc_at (hn := by simp)]⟩)
   (fun j hj => ⟨(World.cell?_alloc_lt _ _ _ (by simp)).trans (made_t w _ j hj), (((Below.refl _ _).alloc (Nat.le_refl _) _).frozen (p := ⟨w.heap.size, j, none⟩) (by simp)).trans (by simp)⟩) (by omega) (by simp) (by simp; omega)
   (((Below.refl _ w).alloc (Nat.le_refl _) _).alloc (by simp) _) (by omega) (by omega))
 clear h1 h2 hfin
 go_enter Tryz.func29, Tryz.ntmps29
 go_wp2_with fail
 go_region_with (fail)
 · go_wp2
   go_ret2
   exact ⟨_, rfl, by have := hA.out; simp only [World.size_alloc] at this; exact this.drew⟩
 · go_wp2
   go_ret2
   exact ⟨_, rfl, by have := hB.out; simp only [World.size_alloc] at this; exact this.drew⟩
end Go.Proofs.YtkmgdfcambdeeaaGreatDoor
namespace Go.Proofs.YtkmgdfcambdeeaaGreatDoor
open Lib (hid)
set_option maxRecDepth 100000
open Go.RowKit
set_option linter.unusedVariables false
theorem rHolds_cp (c : Cp) (h : c.fit) (a n : Nat) (la : a < 4294967296) (ln : n < 4294967296) (W : World) : Calls Tryz.prog 87 #[c.V, .agg #[.int .u32 a, .int .u32 n]] W fun ee w' => ee = .returned (.bool (hoP c.lo c.hi a n)) ∧ Below W.heap.size W w' :=
 rHolds_any c.cu c.e c.b c.t c.pm c.ty c.rs a n c.va W h.l0 la ln
def wayT (c : Cp) (a n pm N : Nat) : Int :=
 if c.va = false then 1 else if c.ty ≠ 0 then 2 else if c.pm &&& pm ≠ pm then 3 else if hoP c.lo c.hi a n = false ∨ N < a + n then 4 else if a % n ≠ 0 then 5 else 0
section
variable {w : World} {r rb tb N g : Nat} {f : Nat → Bool} {l : List UInt8}
set_option maxHeartbeats 1000000 in
theorem rWay_any (H : RfAt w r rb tb N g f l) (c : Cp) (hc : c.fit) (a n pm : Nat) (la : a < 4294967296) (hn : 0 < n ∧ n ≤ 16) (lp : pm < 65536) :
   Calls Tryz.prog 38 #[c.V, .int .u32 a, .int .i64 n, .int .u16 pm, .pointer (some ⟨r, 0, none⟩)] w fun e w' => e = .returned (.int .i64 (wayT c a n pm N)) ∧ Below w.heap.size w w' := by
 have hH := hid (fun w => rHolds_cp c hc a n la (by omega) w)
 have eA := u16_and_nat c.pm pm hc.l4 lp
 have hln := H.ln
 have hH0 := hid H
 clear H hc
 obtain ⟨x, hx⟩ : ∃ x, x = hoP c.lo c.hi a n := ⟨_, rfl⟩
 have hz : wayT c a n pm N = if c.va = false then 1 else if c.ty ≠ 0 then 2 else if c.pm &&& pm ≠ pm then 3 else if x = false ∨ N < a + n then 4 else if a % n ≠ 0 then 5 else 0 := by rw [hx]; rfl
 rw [← hx] at hH
 generalize wayT c a n pm N = z at hz ⊢
 clear hx
 obtain ⟨cu, e, b, t, q, ty, rs, va⟩ := c
 unfold Cp.V Cp.C cv at hH ⊢
 dsimp only at *
 cases va
 · rw [if_pos rfl] at hz
   subst hz
   go_enter Tryz.func38, Tryz.ntmps38
   go_wp2_with fail
   go_ret
   exact ⟨rfl, by go_grown⟩
 rw [if_neg (by simp)] at hz
 by_cases h2 : ty = 0
 case neg =>
   rw [if_pos h2] at hz
   subst hz
   have h2' : ((ty : Int) == 0) = false := by simp; omega
   go_enter Tryz.func38, Tryz.ntmps38
   go_wp2_with fail
   go_ret
   exact ⟨rfl, by go_grown⟩
 subst h2
 rw [if_neg (by simp)] at hz
 by_cases h3 : q &&& pm = pm
 case neg =>
   rw [if_pos h3] at hz
   subst hz
   have h3' : (bits BinOp.and IntKind.u16 (q : Int) (pm : Int) == (pm : Int)) = false := by rw [eA]; simp; omega
   clear h3 eA
   go_enter Tryz.func38, Tryz.ntmps38
   go_wp2_with fail
   go_ret
   exact ⟨rfl, by go_grown⟩
 rw [if_neg (by simpa using h3)] at hz
 have h3' : (bits BinOp.and IntKind.u16 (q : Int) (pm : Int) == (pm : Int)) = true := by rw [eA]; simp [h3]
 clear h3 eA
 have hb0 := hid ((Below.refl w.heap.size w).alloc (Nat.le_refl _) (.cells #[.int .u32 cu, .int .u8 e, .int .u16 b, .int .u16 t, .int .u16 q, .int .u16 0, .int .u32 rs, .bool true] 25))
 cases x
 · rw [if_pos (.inl rfl)] at hz
   subst hz
   go_enter Tryz.func38, Tryz.ntmps38
   go_wp2_with fail
   refine (hH.out _).mono ?_
   rintro ee w1 ⟨rfl, k1⟩
   have hb1 := hid (hb0.out.trans (k1.mono hb0.out.size))
   clear k1 hb0 hH
   go_wp2_with fail
   go_ret
   exact ⟨rfl, hb1.out⟩
 have hz' : z = if N < a + n then 4 else if a % n ≠ 0 then 5 else 0 := by rw [hz]; simp
 replace hz := hid hz'
 clear hz'
 go_enter Tryz.func38, Tryz.ntmps38
 go_wp2_with fail
 refine (hH.out _).mono ?_
 rintro ee w1 ⟨rfl, k1⟩
 have H1 := (hH0.out.below hb0.out).below k1
 have hb1 := hid (hb0.out.trans (k1.mono hb0.out.size))
 have q0 := H1.q0
 have hl0 := hn.1
 have hl1 := hn.2
 have hm := hid (Int.natCast_emod a n)
 clear k1 hb0 hH H1
 go_wp2_with fail
 · rename_i h
   go_ret
   exact ⟨ret_int (by rw [hz.out, if_pos (by omega)]), hb1.out⟩
 · rename_i h' h
   have h0 : a % n ≠ 0 := by
     intro h0
     rw [← hm.out, h0] at h
     simp at h
   go_ret
   exact ⟨ret_int (by rw [hz.out, if_neg (by omega), if_pos h0]), hb1.out⟩
 · rename_i h' h
   have h0 : a % n = 0 := by
     rw [← hm.out] at h
     have := eq_of_beq (show ((((a % n : Nat) : Int)) == 0) = true by simpa using h)
     omega
   go_ret
   exact ⟨ret_int (by rw [hz.out, if_neg (by omega), if_neg (by simpa using h0)]), hb1.out⟩
end
def numC (v : Nat) : Cp := ⟨v, 0, 0, 0, 0, 0, 0, false⟩
theorem numC_fit {v : Nat} (h : v < 4294967296) : (numC v).fit := ⟨h, (by decide : 0 < 256), (by decide : 0 < 65536), (by decide : 0 < 65536), (by decide : 0 < 65536), (by decide : 0 < 65536), (by decide : 0 < 4294967296)⟩
theorem rNumber_any (v : Nat) (W : World) : Calls Tryz.prog 53 #[.int .u32 v] W fun e w' => e = .returned (numC v).V ∧ Below W.heap.size W w' := by
 go_enter Tryz.func53, Tryz.ntmps53
 go_wp2_with fail
 exact bodyPost_ret (v := (numC v).V) (by simp [results, Tryz.results53, go_sem]; rfl) rfl ⟨rfl, by go_grown⟩
theorem load_cp {W w : World} {L : List Rw} (h : KR W L w) {g : Nat} {c : Cp} (hx : (⟨g, c.C⟩ : Rw) ∈ L) : (loadVar 25 ⟨g, 0, none⟩).run Tryz.prog w = .ok c.V w :=
 run_loadVar_mid w g 0 _ c.C _ (h.range hx) Tryz.underlying25 rfl (size_cp c)
theorem box_c (W : World) : KR W [⟨W.heap.size, zC.C⟩] (W.alloc (.cells #[.int .u32 0, .int .u8 0, .int .u16 0, .int .u16 0, .int .u16 0, .int .u16 0, .int .u32 0, .bool false] 25)) := (KR.start (W := W)).push zC.C 25
set_option maxHeartbeats 2000000 in
theorem rtruth_any (t : Bool) (W : World) : Calls Tryz.prog 108 #[.bool t] W fun e w' => e = .returned (numC (if t then 1 else 0)).V ∧ Below W.heap.size W w' := by
 have hk := hid (box_c W)
 cases t
 case false =>
   obtain ⟨d, hd⟩ : ∃ d, d = numC 0 := ⟨_, rfl⟩
   have h0 : Hid (∀ w, Calls Tryz.prog 53 #[.int .u32 0] w fun e w' => e = .returned d.V ∧ Below w.heap.size w w') := hid (hd ▸ rNumber_any 0)
   change Calls Tryz.prog 108 _ W fun e w' => e = .returned (numC 0).V ∧ Below W.heap.size W w'
   rw [← hd]
   clear hd
   go_enter Tryz.func108, Tryz.ntmps108
   go_wp2_with fail
   refine (h0.out _).mono ?_
   rintro ee w1 ⟨rfl, k⟩
   have hk1 := hk.out.below k
   clear k hk h0
   have r := hk1.there (g := W.heap.size) (vs := zC.C) (by simp) 0 8 (by decide)
   have s1 := size_ca d
   have o1 := one_cp d
   have hf := hid (hk1.putA d.C (by simp) (by simp) rfl)
   clear hk1
   go_wp2_with ((with_reducible show wpList _ _ _ _ _ _); refine wpList_store_mid rfl 25 _ _ rfl W.heap.size 0 d.C.toArray rfl rfl r s1 o1 ?_; change wpList _ _ _ _ _ (w1.setCells W.heap.size 0 d.C); generalize w1.setCells W.heap.size 0 d.C = wf at hf ⊢)
   exact bodyPost_ret (v := d.V) (res_one Tryz.results108 rfl (load_cp hf.out (List.mem_cons_self ..))) rfl ⟨rfl, hf.out.bl⟩
 case true =>
   obtain ⟨d, hd⟩ : ∃ d, d = numC 1 := ⟨_, rfl⟩
   have h0 : Hid (∀ w, Calls Tryz.prog 53 #[.int .u32 1] w fun e w' => e = .returned d.V ∧ Below w.heap.size w w') := hid (hd ▸ rNumber_any 1)
   change Calls Tryz.prog 108 _ W fun e w' => e = .returned (numC 1).V ∧ Below W.heap.size W w'
   rw [← hd]
   clear hd
   go_enter Tryz.func108, Tryz.ntmps108
   go_wp2_with fail
   refine (h0.out _).mono ?_
   rintro ee w1 ⟨rfl, k⟩
   have hk1 := hk.out.below k
   clear k hk h0
   have r := hk1.there (g := W.heap.size) (vs := zC.C) (by simp) 0 8 (by decide)
   have s1 := size_ca d
   have o1 := one_cp d
   have hf := hid (hk1.putA d.C (by simp) (by simp) rfl)
   clear hk1
   go_wp2_with ((with_reducible show wpList _ _ _ _ _ _); refine wpList_store_mid rfl 25 _ _ rfl W.heap.size 0 d.C.toArray rfl rfl r s1 o1 ?_; change wpList _ _ _ _ _ (w1.setCells W.heap.size 0 d.C); generalize w1.setCells W.heap.size 0 d.C = wf at hf ⊢)
   exact bodyPost_ret (v := d.V) (res_one Tryz.results108 rfl (load_cp hf.out (List.mem_cons_self ..))) rfl ⟨rfl, hf.out.bl⟩
def widI (op : Int) : Int := if op = 17 ∨ op = 20 then 1 else if op = 18 ∨ op = 21 then 2 else if op = 19 ∨ op = 22 then 4 else if op = 23 ∨ op = 24 then 16 else 0
theorem rWidth_any (op : Int) (W : World) : Calls Tryz.prog 49 #[.int .i64 op] W fun e w' => e = .returned (.int .i64 (widI op)) ∧ W = w' := by
 go_enter Tryz.func49, Tryz.ntmps49
 go_wp2_with fail
 all_goals go_ret
 all_goals refine ⟨ret_int ?_, rfl⟩
 all_goals simp only [beq_iff_eq, beq_eq_false_iff_ne, ne_eq] at *
 all_goals unfold widI
 all_goals first
   | (subst_vars; rfl)
   | (rw [if_neg (by omega), if_neg (by omega), if_neg (by omega), if_neg (by omega)])
def jmpT (c : Cp) : Int := if c.va = false then 1 else if c.ty ≠ 0 then 2 else if c.pm &&& 4 = 0 then 3 else 0
theorem rjumper_any (c : Cp) (hc : c.fit) (W : World) : Calls Tryz.prog 48 #[c.V] W fun e w' => e = .returned (.int .i64 (jmpT c)) ∧ Below W.heap.size W w' := by
 have eA := u16_and_nat c.pm 4 hc.l4 (by decide)
 obtain ⟨z, hz⟩ : ∃ z, z = jmpT c := ⟨_, rfl⟩
 rw [← hz]
 unfold jmpT at hz
 clear hc
 obtain ⟨cu, e, b, t, q, ty, rs, va⟩ := c
 unfold Cp.V Cp.C cv
 dsimp only at *
 have eB : (bits BinOp.and IntKind.u16 (q : Int) 4 == 0) = decide (q &&& 4 = 0) := by rw [show bits BinOp.and IntKind.u16 (q : Int) 4 = ((q &&& 4 : Nat) : Int) from eA, Bool.eq_iff_iff]; simp
 replace hz := hid hz
 replace eB := hid eB
 clear eA
 go_enter Tryz.func48, Tryz.ntmps48
 go_wp2_with fail
 all_goals go_ret
 all_goals refine ⟨ret_int ?_, by go_grown⟩
 all_goals rw [hz.out]
 all_goals have eB := eB.out
 all_goals simp_all
theorem cut_base0 {w6 : World} {B : Nat} (h : B ≤ w6.heap.size) : ∃ V : World, V.heap.size = B ∧ Below B V w6 :=
 ⟨{ w6 with heap := w6.heap.extract 0 B }, by simp; omega, rfl, rfl, rfl, by simp [Nat.min_le_right], fun k hk => by
   simp only [Array.getElem?_extract]
   rw [if_pos (by omega)]
   simp⟩
theorem lt_of_block0 {W W' : World} {k : Nat} (h : W'.heap[k]? = W.heap[k]?) (hk : k < W.heap.size) : k < W'.heap.size := by
 rw [Array.getElem?_eq_getElem hk] at h
 exact (Array.getElem?_eq_some_iff.1 h).1
theorem RfAt.keep2 {W W' : World} {r rb tb n g : Nat} {f : Nat → Bool} {l : List UInt8} (h : RfAt W r rb tb n g f l) (hk : ∀ k, k = r ∨ k = rb ∨ k = tb → W'.heap[k]? = W.heap[k]?) : RfAt W' r rb tb n g f l :=
 ⟨(World.cell?_of_block (hk r (.inl rfl))).trans h.q0, (World.cell?_of_block (hk r (.inl rfl))).trans h.q1, fun j u hu => (World.cell?_of_block (hk rb (.inr (.inl rfl)))).trans (h.by_ j u hu),
   fun j hj => (World.frozen?_of_block (hk rb (.inr (.inl rfl)))).trans (h.bf j hj), fun j hj => ⟨(World.cell?_of_block (hk tb (.inr (.inr rfl)))).trans (h.tg j hj).1, (World.frozen?_of_block (hk tb (.inr (.inr rfl)))).trans (h.tg j hj).2⟩,
   h.len, h.hn, h.lo, h.hi, h.n1, h.n2, h.n3, lt_of_block0 (hk r (.inl rfl)) h.la, lt_of_block0 (hk rb (.inr (.inl rfl))) h.lb, lt_of_block0 (hk tb (.inr (.inr rfl))) h.lt⟩
theorem rxt_cut {V w w6 w' : World} {r rb tb N g : Nat} {f0 G : Nat → Bool} {l0 Ll : List UInt8} {v : Value} {e : Ending} (A6 : RfAt w6 r rb tb N g G Ll) (hO : Of2 w.heap.size rb tb w w6) (H : RfAt w r rb tb N g f0 l0) (hV : V.heap.size = w.heap.size) (hVb : Below w.heap.size V w6)
   (h : e = .returned v ∧ Below V.heap.size V w') : Rxt r rb tb N g G Ll w v e w' := by
 obtain ⟨he, hb⟩ := h
 rw [hV] at hb
 have hk : ∀ k, k < w.heap.size → w'.heap[k]? = w6.heap[k]? := fun k hk => (hb.block k hk).trans (hVb.block k hk).symm
 have q1 := H.la
 have q2 := H.lb
 have q3 := H.lt
 have q5 := hb.size
 exact ⟨he, A6.keep2 (fun k hk' => hk k (by omega)), ⟨hb.os.trans (hVb.os.symm.trans hO.os), hb.tape.trans (hVb.tape.symm.trans hO.tape), hb.output.trans (hVb.output.symm.trans hO.output), by omega, fun k hk1 h1 h2 => (hk k hk1).trans (hO.block k hk1 h1 h2)⟩⟩
end Go.Proofs.YtkmgdfcambdeeaaGreatDoor
