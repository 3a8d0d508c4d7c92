/- For core. -/
import Derived.Test.YtkmgdfcambdeeaaGreatDoorQax
namespace Go.Proofs.YtkmgdfcambdeeaaGreatDoor
open Lib (hid)
set_option maxRecDepth 100000
open Go.RowKit
set_option linter.unusedVariables false
def stoF (N : Nat) (f : Nat → Bool) (o : Cp) (a : Nat) (op : Int) (n : Nat) : Nat → Bool := if op = 24 then scF N f a (o.va && sndP o.e o.b o.t o.pm o.ty o.rs) else stF N f a (putB [] n o.cu).length
def stoL (N : Nat) (l : List UInt8) (o : Cp) (a : Nat) (op : Int) (n : Nat) : List UInt8 := if op = 24 then scL N l a (bytesC o.cu o.e o.b o.t o.pm o.ty o.rs) else stL N l a (putB [] n o.cu)
theorem below_setCells {B g : Nat} (hg : B ≤ g) : ∀ (us : List Value) (k : Nat) (w : World), Below B w (w.setCells g k us)
 | [], _, w => Below.refl _ _
 | u :: us, k, w => ((Below.refl B w).setCell (p := ⟨g, k, none⟩) hg u).trans (below_setCells hg us (k + 1) _)
theorem at_there {x : Rw} {w : World} (h : x.at w) (n : Nat) (hn : n ≤ x.vs.length) : w.there x.g 0 n := fun j hj => by
 rw [Nat.zero_add]
 exact ⟨by rw [h.2.2 j _ (List.getElem?_eq_getElem (show j < x.vs.length by omega))]; rfl, h.2.1 j⟩
section
variable {W : World} {r rb tb N g : Nat} {f : Nat → Bool} {l : List UInt8}
set_option maxHeartbeats 4000000 in
theorem rmem_store (H : RfAt W r rb tb N g f l) (F : List Cp) (hF : Fit F) (op : Int) (A B C : Nat) (hA : A < 16) (hB : B < 16) (m : Int) (n : Nat) (hn : widI op = (n : Int)) (hn1 : 0 < n ∧ n ≤ 16) (hop : op = 20 ∨ op = 21 ∨ op = 22 ∨ op = 24) : Calls Tryz.prog 50 #[fV F, .agg #[.int .i64 op, .int .i64 A, .int .i64 B, .int .i64 C, .int .i64 m], .pointer (some ⟨r, 0, none⟩)] W (Rxt r rb tb N g (if wayT (reg F B) (atN F B m) n (needN F op A) N = 0 then stoF N f (reg F A) (atN F B m) op n else f) (if wayT (reg F B) (atN F B m) n (needN F op A) N = 0 then stoL N l (reg F A) (atN F B m) op n else l) W (.tuple #[(if wayT (reg F B) (atN F B m) n (needN F op A) N = 0 then reg F A else zC).V, .int .i64 (wayT (reg F B) (atN F B m) n (needN F op A) N)])) := by
 have k0 := hid (start_fib F op A B C m W)
 have gb := reg_get (F := F) (i := B) (by rw [hF.len]; omega)
 obtain ⟨b, hb⟩ : ∃ b, b = reg F B := ⟨_, rfl⟩
 have fb : b.fit := hb ▸ hF.reg B
 obtain ⟨at_, hat⟩ : ∃ x, x = atN F B m := ⟨_, rfl⟩
 have lat : at_ < 4294967296 := hat ▸ atN_lt F B m
 have eat : (((b.cu : Nat) : Int) + m % 4294967296) % 4294967296 = ((at_ : Nat) : Int) := by rw [hat, hb]; unfold atN; omega
 have hN := hid (fun w => rNeeds_any F hF op A B C hA m w)
 have lp := needN_lt F op A
 generalize needN F op A = pm at *
 have hWd := hid (fun w => rWidth_any op w)
 rw [hn] at hWd
 have hwd := hid hn
 have hWy := hid (fun (w : World) (H : RfAt w r rb tb N g f l) => rWay_any H b fb at_ n pm lat hn1 lp)
 have hwo := hid (fun h => way_open (c := b) (a := at_) (n := n) (pm := pm) (N := N) h)
 rw [← hb] at gb ⊢
 rw [← hat]
 generalize wayT b at_ n pm N = t at *
 obtain ⟨o, ho⟩ : ∃ o, o = reg F A := ⟨_, rfl⟩
 have fo : o.fit := ho ▸ hF.reg A
 have ga := reg_get (F := F) (i := A) (by rw [hF.len]; omega)
 rw [← ho] at ga ⊢
 replace ga := hid ga
 clear ho
 obtain ⟨D, hD⟩ : ∃ D, D = if t = 0 then o else zC := ⟨_, rfl⟩
 obtain ⟨f2, hf2⟩ : ∃ f2, f2 = if t = 0 then stoF N f o at_ op n else f := ⟨_, rfl⟩
 obtain ⟨l2, hl2⟩ : ∃ l2, l2 = if t = 0 then stoL N l o at_ op n else l := ⟨_, rfl⟩
 rw [← hD, ← hf2, ← hl2]
 replace hD := hid hD
 replace hf2 := hid hf2
 replace hl2 := hid hl2
 replace gb := hid gb
 replace H := hid H
 have sz := size_fr hF.len
 clear hn lp hb hat
 unfold fV
 go_enter Tryz.func50, Tryz.ntmps50
 go_upto_region 1 with (fail)
 generalize (((W.alloc (.cells (fC F).toArray 28)).alloc _).alloc _) = w1 at k0 ⊢
 have i2 := k0.out.cell (g := W.heap.size + 1) (j := 2) (u := .int .i64 B) (ir op A B C m) (by simp) rfl
 obtain ⟨a0, a1, a2, a3, a4, a5, a6, a7⟩ := k0.out.reg (g := W.heap.size) (F := F) (by simp) gb.out
 go_upto_region 2 with (fail)
 have k1 := hid (k0.out.push b.C 25)
 clear i2 a0 a1 a2 a3 a4 a5 a6 a7 k0
 change Code.wp _ _ _ _ (w1.alloc (.cells b.C.toArray 25))
 generalize w1.alloc (.cells b.C.toArray 25) = w2 at k1 ⊢
 generalize w1.heap.size = q at k1 ⊢
 have p0 : w2.cell? ⟨q, 0, none⟩ = some (.int .u32 b.cu) := k1.out.cell (g := q) (j := 0) b.C (by simp) rfl
 have i4 := k1.out.cell (g := W.heap.size + 1) (j := 4) (u := .int .i64 m) (ir op A B C m) (by simp) rfl
 have i0 := k1.out.cell (g := W.heap.size + 1) (j := 0) (u := .int .i64 op) (ir op A B C m) (by simp) rfl
 go_upto_region 3 with (fail)
 clear p0 i4
 go_wp2_with fail
 refine (hWd.out _).mono ?_
 rintro ee w3 ⟨rfl, rfl⟩
 clear i0
 go_upto_region 4 with (fail)
 obtain ⟨S, hS0⟩ : ∃ S : World → Prop, S = fun w => KR W [⟨q, b.C⟩, ⟨W.heap.size + 2, zC.C⟩, ⟨W.heap.size + 1, ir op A B C m⟩, ⟨W.heap.size, fC F⟩] w := ⟨_, rfl⟩
 have hK : ∀ w, S w → KR W [⟨q, b.C⟩, ⟨W.heap.size + 2, zC.C⟩, ⟨W.heap.size + 1, ir op A B C m⟩, ⟨W.heap.size, fC F⟩] w := fun w h => by rw [hS0] at h; exact h
 have hS : ∀ u v, S u → Below u.heap.size u v → S v := fun u v h k => by rw [hS0] at h ⊢; exact h.below k
 have s0 : S w2 := by rw [hS0]; exact k1.out
 clear hS0
 have cN := hid (cls_call (S := S) fun w hw => (hN.out w).mono fun e w' k => (⟨k.1, hS _ _ hw k.2⟩ : _ ∧ S w'))
 have cW := hid (cls_call (S := S) fun w hw => (hWy.out w (H.out.below (hK _ hw).bl)).mono fun e w' k => (⟨k.1, hS _ _ hw k.2⟩ : _ ∧ S w'))
 have rF : ∀ w, (∃ y : Wd S, w = y.w) → w.rangeAt W.heap.size 0 (fC F) := fun w ⟨y, e⟩ => e ▸ (hK _ y.h).range (by simp)
 have HS := hid hS
 have HK := hid hK
 obtain ⟨p0, p1, p2, p3, p4, p5, p6, p7⟩ := cls_cap (S := S) (bx := q) (cu := b.cu) (e := b.e) (b := b.b) (t := b.t) (pm := b.pm) (ty := b.ty) (rs := b.rs) (va := b.va) (fun w h => (hK w h).cap (List.mem_cons_self ..))
 have ii : ∀ (j : Nat) (u : Value), (ir op A B C m)[j]? = some u → ∀ y : Wd S, y.w.cell? ⟨W.heap.size + 1, j, none⟩ = some u := fun j u hu y => (hK _ y.h).cell (ir op A B C m) (by simp) hu
 have i0 := ii 0 _ rfl
 have i1 := ii 1 _ rfl
 have i2 := ii 2 _ rfl
 have i3 := ii 3 _ rfl
 have i4 := ii 4 _ rfl
 clear hK hS ii
 refine region_cls S (by kernel_rfl) (by kernel_rfl) (HS.out _ _ s0 (Below.refl _ _).drew) ?_
 repeat (first
   | go_big_quiet_skip
   | (go_big_quiet_want
      first
      | (refine quiet_load_mid 28 _ rfl W.heap.size 0 rfl (fC F) _ rF Tryz.underlying28 rfl sz ?_
         simp only [Act.put, List.setIfInBounds_toArray, List.set_cons_zero, List.set_cons_succ]
         go_big_quiet_on)
      | (go_big_quiet_op
         first
         | go_big_quiet_on
         | (apply Exists.intro
            refine ⟨fun y => ?_, ?_⟩
            · first | exact rfl | with_reducible exact cN.out y | exact cN.out y | exact cW.out y
            go_big_quiet_on))))
 refine wpQuiet_nil ?_
 intro y
 have hk := HK.out _ y.h
 generalize y.w = w4 at hk ⊢
 clear y cN cW rF HS HK p0 p1 p2 p3 p4 p5 p6 p7 i0 i1 i2 i3 i4 s0 hWy hN hWd k1
 replace hk := hid hk
 by_cases ht : t = 0
 case neg =>
   have zb := hk.out.there (g := W.heap.size + 2) (vs := zC.C) (by simp) 0 8 (by decide)
   have hf := hid ((hk.out.sub (L' := [⟨W.heap.size + 2, zC.C⟩]) (by simp)).putA zC.C (by simp) (by simp) rfl)
   have s1 := size_ca zC
   have o1 := one_cp zC
   have ht' : (t == 0) = false := by simpa using ht
   clear ht
   go_wp2_with ((with_reducible show wpList _ _ _ _ _ _); refine wpList_store_mid rfl 25 _ _ rfl (W.heap.size + 1 + 1) 0 zC.C.toArray rfl rfl zb s1 o1 ?_; clear zb s1 o1; change wpList _ _ _ _ _ (w4.setCells (W.heap.size + 2) 0 zC.C); generalize w4.setCells (W.heap.size + 2) 0 zC.C = wf at hf ⊢)
   have e1 : f2 = f := by rw [hf2.out, if_neg (by simpa using ht')]
   have e2 : l2 = l := by rw [hl2.out, if_neg (by simpa using ht')]
   refine bodyPost_ret (v := .tuple #[zC.V, .int .i64 t]) (res_two Tryz.results50 rfl rfl (load_cp hf.out (List.mem_cons_self ..))) rfl ?_
   rw [e1, e2]
   exact rxt_below H.out ⟨by rw [hD.out, if_neg (by simpa using ht')], hf.out.bl⟩
 case pos =>
   subst ht
   have i0 := hk.out.cell (g := W.heap.size + 1) (j := 0) (u := .int .i64 op) (ir op A B C m) (by simp) rfl
   have i1 := hk.out.cell (g := W.heap.size + 1) (j := 1) (u := .int .i64 A) (ir op A B C m) (by simp) rfl
   obtain ⟨a0, a1, a2, a3, a4, a5, a6, a7⟩ := hk.out.reg (g := W.heap.size) (F := F) (by simp) ga.out
   go_upto_region 8 with (fail)
   have k5 := hid (hk.out.push o.C 25)
   have hk4 := hk.out.bl.size
   clear i0 i1 a0 a1 a2 a3 a4 a5 a6 a7 hk
   change Code.wp _ _ _ _ (w4.alloc (.cells o.C.toArray 25))
   generalize w4.alloc (.cells o.C.toArray 25) = w5 at k5 ⊢
   have hy : W.heap.size ≤ w4.heap.size := hk4
   generalize w4.heap.size = y at k5 hy ⊢
   have i0 := k5.out.cell (g := W.heap.size + 1) (j := 0) (u := .int .i64 op) (ir op A B C m) (by simp) rfl
   have H5 := hid (H.out.below k5.out.bl)
   have k5b := hid k5.out.bl
   have k5l := hid (show W.heap.size ≤ y from hy)
   have rs5 := hid (show RS [⟨y, o.C⟩, ⟨W.heap.size + 2, zC.C⟩] w5 from fun x hx => k5.out.al x (by
     simp only [List.mem_cons, List.not_mem_nil, or_false] at hx
     rcases hx with rfl | rfl <;> simp))
   obtain ⟨c0, c1, c2, c3, c4, c5, c6, c7⟩ := (k5.out.cap (g := y) (List.mem_cons_self ..) : CapAt _ _ o.cu o.e o.b o.t o.pm o.ty o.rs o.va)
   clear ga k5
   by_cases h24 : op = 24
   · subst h24
     have hS := hid (fun w (H : RfAt w r rb tb N g f l) => rscap_any H o.cu o.e o.b o.t o.pm o.ty o.rs o.va at_ fo.l0 fo.l1 fo.l2 fo.l3 fo.l4 fo.l5 fo.l6 lat)
     go_wp2_with fail
     refine (hS.out _ H5.out).mono ?_
     rintro ee w6 ⟨rfl, H6, h6⟩
     have rs6 := rs5.out.of2 h6 (by
       intro x hx
       simp only [List.mem_cons, List.not_mem_nil, or_false] at hx
       have := H.out.lb
       have := H.out.lt
       have := k5l.out
       rcases hx with rfl | rfl <;> simp only [ne_eq] <;> omega)
     have hO := hid (Of2.trans (Of2.of_below k5b.out) (h6.mono k5b.out.size))
     obtain ⟨c0, c1, c2, c3, c4, c5, c6, c7⟩ := (rs6.cap (g := y) (List.mem_cons_self ..) : CapAt _ _ o.cu o.e o.b o.t o.pm o.ty o.rs o.va)
     have zb := at_there (rs6 _ (List.mem_cons_of_mem _ (List.mem_cons_self ..))) 8 (by show 8 ≤ zC.C.length; decide)
     have hlk := World.rangeAt_setCells_same w6 (W.heap.size + 2) 0 o.C zb
     have hbl := hid (below_setCells (B := W.heap.size) (g := W.heap.size + 2) (by omega) o.C 0 w6)
     replace H6 := hid H6
     replace hlk := hid hlk
     have s1 := size_ca o
     have o1 := one_cp o
     clear h6 rs6 rs5 k5l k5b H5 i0
     go_wp2_with ((with_reducible show wpList _ _ _ _ _ _); refine wpList_store_mid rfl 25 _ _ rfl (W.heap.size + 1 + 1) 0 o.C.toArray rfl rfl zb s1 o1 ?_; clear zb s1 o1 c0 c1 c2 c3 c4 c5 c6 c7; change wpList _ _ _ _ _ (w6.setCells (W.heap.size + 2) 0 o.C); generalize w6.setCells (W.heap.size + 2) 0 o.C = wf at hlk hbl ⊢)
     refine bodyPost_ret (v := .tuple #[o.V, .int .i64 0]) (res_two Tryz.results50 rfl rfl (run_loadVar_mid wf (W.heap.size + 2) 0 _ o.C _ hlk.out Tryz.underlying25 rfl (size_cp o))) rfl ⟨by rw [hD.out]; simp, ?_, hO.out.trans (Of2.of_below hbl.out)⟩
     have q1 := H.out.la
     have q2 := H.out.lb
     have q3 := H.out.lt
     refine (H6.out.keep (fun k hk => hbl.out.block k (by omega)) hbl.out.size).ext (fun k _ => ?_) ?_
     · rw [hf2.out]; rfl
     · rw [hl2.out]; rfl
   · have j24 : (op == 24) = false := by simp; omega
     have hS := hid (fun w (H : RfAt w r rb tb N g f l) => rstore_any H n o.cu at_ lat fo.l0)
     have e1 := hid (show stoF N f o at_ op n = _ from if_neg h24)
     have e2 := hid (show stoL N l o at_ op n = _ from if_neg h24)
     rcases hop with rfl | rfl | rfl | hh
     · go_wp2_with fail
       refine (hS.out _ H5.out).mono ?_
       rintro ee w6 ⟨rfl, H6, h6⟩
       have rs6 := rs5.out.of2 h6 (by
         intro x hx
         simp only [List.mem_cons, List.not_mem_nil, or_false] at hx
         have := H.out.lb
         have := H.out.lt
         have := k5l.out
         rcases hx with rfl | rfl <;> simp only [ne_eq] <;> omega)
       have hO := hid (Of2.trans (Of2.of_below k5b.out) (h6.mono k5b.out.size))
       obtain ⟨c0, c1, c2, c3, c4, c5, c6, c7⟩ := (rs6.cap (g := y) (List.mem_cons_self ..) : CapAt _ _ o.cu o.e o.b o.t o.pm o.ty o.rs o.va)
       have zb := at_there (rs6 _ (List.mem_cons_of_mem _ (List.mem_cons_self ..))) 8 (by show 8 ≤ zC.C.length; decide)
       have hlk := World.rangeAt_setCells_same w6 (W.heap.size + 2) 0 o.C zb
       have hbl := hid (below_setCells (B := W.heap.size) (g := W.heap.size + 2) (by omega) o.C 0 w6)
       replace H6 := hid H6
       replace hlk := hid hlk
       have s1 := size_ca o
       have o1 := one_cp o
       clear h6 rs6 rs5 k5l k5b H5 i0
       go_wp2_with ((with_reducible show wpList _ _ _ _ _ _); refine wpList_store_mid rfl 25 _ _ rfl (W.heap.size + 1 + 1) 0 o.C.toArray rfl rfl zb s1 o1 ?_; clear zb s1 o1 c0 c1 c2 c3 c4 c5 c6 c7; change wpList _ _ _ _ _ (w6.setCells (W.heap.size + 2) 0 o.C); generalize w6.setCells (W.heap.size + 2) 0 o.C = wf at hlk hbl ⊢)
       refine bodyPost_ret (v := .tuple #[o.V, .int .i64 0]) (res_two Tryz.results50 rfl rfl (run_loadVar_mid wf (W.heap.size + 2) 0 _ o.C _ hlk.out Tryz.underlying25 rfl (size_cp o))) rfl ⟨by rw [hD.out]; simp, ?_, hO.out.trans (Of2.of_below hbl.out)⟩
       have q1 := H.out.la
       have q2 := H.out.lb
       have q3 := H.out.lt
       refine (H6.out.keep (fun k hk => hbl.out.block k (by omega)) hbl.out.size).ext (fun k _ => ?_) ?_
       · rw [hf2.out, if_pos trivial, e1.out]
       · rw [hl2.out, if_pos trivial, e2.out]
     · go_wp2_with fail
       refine (hS.out _ H5.out).mono ?_
       rintro ee w6 ⟨rfl, H6, h6⟩
       have rs6 := rs5.out.of2 h6 (by
         intro x hx
         simp only [List.mem_cons, List.not_mem_nil, or_false] at hx
         have := H.out.lb
         have := H.out.lt
         have := k5l.out
         rcases hx with rfl | rfl <;> simp only [ne_eq] <;> omega)
       have hO := hid (Of2.trans (Of2.of_below k5b.out) (h6.mono k5b.out.size))
       obtain ⟨c0, c1, c2, c3, c4, c5, c6, c7⟩ := (rs6.cap (g := y) (List.mem_cons_self ..) : CapAt _ _ o.cu o.e o.b o.t o.pm o.ty o.rs o.va)
       have zb := at_there (rs6 _ (List.mem_cons_of_mem _ (List.mem_cons_self ..))) 8 (by show 8 ≤ zC.C.length; decide)
       have hlk := World.rangeAt_setCells_same w6 (W.heap.size + 2) 0 o.C zb
       have hbl := hid (below_setCells (B := W.heap.size) (g := W.heap.size + 2) (by omega) o.C 0 w6)
       replace H6 := hid H6
       replace hlk := hid hlk
       have s1 := size_ca o
       have o1 := one_cp o
       clear h6 rs6 rs5 k5l k5b H5 i0
       go_wp2_with ((with_reducible show wpList _ _ _ _ _ _); refine wpList_store_mid rfl 25 _ _ rfl (W.heap.size + 1 + 1) 0 o.C.toArray rfl rfl zb s1 o1 ?_; clear zb s1 o1 c0 c1 c2 c3 c4 c5 c6 c7; change wpList _ _ _ _ _ (w6.setCells (W.heap.size + 2) 0 o.C); generalize w6.setCells (W.heap.size + 2) 0 o.C = wf at hlk hbl ⊢)
       refine bodyPost_ret (v := .tuple #[o.V, .int .i64 0]) (res_two Tryz.results50 rfl rfl (run_loadVar_mid wf (W.heap.size + 2) 0 _ o.C _ hlk.out Tryz.underlying25 rfl (size_cp o))) rfl ⟨by rw [hD.out]; simp, ?_, hO.out.trans (Of2.of_below hbl.out)⟩
       have q1 := H.out.la
       have q2 := H.out.lb
       have q3 := H.out.lt
       refine (H6.out.keep (fun k hk => hbl.out.block k (by omega)) hbl.out.size).ext (fun k _ => ?_) ?_
       · rw [hf2.out, if_pos trivial, e1.out]
       · rw [hl2.out, if_pos trivial, e2.out]
     · go_wp2_with fail
       refine (hS.out _ H5.out).mono ?_
       rintro ee w6 ⟨rfl, H6, h6⟩
       have rs6 := rs5.out.of2 h6 (by
         intro x hx
         simp only [List.mem_cons, List.not_mem_nil, or_false] at hx
         have := H.out.lb
         have := H.out.lt
         have := k5l.out
         rcases hx with rfl | rfl <;> simp only [ne_eq] <;> omega)
       have hO := hid (Of2.trans (Of2.of_below k5b.out) (h6.mono k5b.out.size))
       obtain ⟨c0, c1, c2, c3, c4, c5, c6, c7⟩ := (rs6.cap (g := y) (List.mem_cons_self ..) : CapAt _ _ o.cu o.e o.b o.t o.pm o.ty o.rs o.va)
       have zb := at_there (rs6 _ (List.mem_cons_of_mem _ (List.mem_cons_self ..))) 8 (by show 8 ≤ zC.C.length; decide)
       have hlk := World.rangeAt_setCells_same w6 (W.heap.size + 2) 0 o.C zb
       have hbl := hid (below_setCells (B := W.heap.size) (g := W.heap.size + 2) (by omega) o.C 0 w6)
       replace H6 := hid H6
       replace hlk := hid hlk
       have s1 := size_ca o
       have o1 := one_cp o
       clear h6 rs6 rs5 k5l k5b H5 i0
       go_wp2_with ((with_reducible show wpList _ _ _ _ _ _); refine wpList_store_mid rfl 25 _ _ rfl (W.heap.size + 1 + 1) 0 o.C.toArray rfl rfl zb s1 o1 ?_; clear zb s1 o1 c0 c1 c2 c3 c4 c5 c6 c7; change wpList _ _ _ _ _ (w6.setCells (W.heap.size + 2) 0 o.C); generalize w6.setCells (W.heap.size + 2) 0 o.C = wf at hlk hbl ⊢)
       refine bodyPost_ret (v := .tuple #[o.V, .int .i64 0]) (res_two Tryz.results50 rfl rfl (run_loadVar_mid wf (W.heap.size + 2) 0 _ o.C _ hlk.out Tryz.underlying25 rfl (size_cp o))) rfl ⟨by rw [hD.out]; simp, ?_, hO.out.trans (Of2.of_below hbl.out)⟩
       have q1 := H.out.la
       have q2 := H.out.lb
       have q3 := H.out.lt
       refine (H6.out.keep (fun k hk => hbl.out.block k (by omega)) hbl.out.size).ext (fun k _ => ?_) ?_
       · rw [hf2.out, if_pos trivial, e1.out]
       · rw [hl2.out, if_pos trivial, e2.out]
     · exact absurd hh h24
end
end Go.Proofs.YtkmgdfcambdeeaaGreatDoor
