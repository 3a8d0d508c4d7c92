/- For core. -/
import Derived.Test.YtkmgdfcambdeeaaGreatDoorQbo
namespace Go.Proofs.YtkmgdfcambdeeaaGreatDoor
open Lib (hid)
open Go.RowKit
set_option linter.unusedVariables false
theorem list_form6 {w : World} {base : Nat} {v : Value} {lst : List Nat} (o : w.ownsRow base 22 1 v lst.length (lst.map u32v)) : ∃ Aq c', v = .slice Aq lst.length c' ∧ lst.length ≤ c' ∧ ∀ (i u : Nat), lst[i]? = some u → ∃ q, Aq = some ⟨q, 0, none⟩ ∧ w.cell? ⟨q, i, none⟩ = some (.int .u32 (u : Int)) := by
 rcases o.2 with ⟨rfl, hn⟩ | ⟨q, cap, cur, rfl, h1, h2, h3, _⟩
 · exact ⟨none, 0, by rw [hn], by omega, fun i u hu => by have := (List.getElem?_eq_some_iff.1 hu).1; omega⟩
 · refine ⟨_, cap, rfl, h3, fun i u hu => ⟨q, rfl, ?_⟩⟩
   have := o.cells (g := q) rfl i (u32v u) (by simp [hu])
   rwa [Addr.add_lit, Nat.zero_add] at this
section
variable {a mb wb bb c r rb tb n g : Nat} {f : Nat → Bool} {l : List UInt8} {w : World}
end
structure Two (B a mb wb bb c r rb tb n g : Nat) (f : Nat → Bool) (l : List UInt8) (w : World) : Prop where
 ar : ArAt w a mb wb bb c n g f l
 rf : RfAt w r rb tb n g f l
 d1 : r ≠ wb ∧ rb ≠ wb ∧ tb ≠ wb
 d2 : r ≠ bb ∧ rb ≠ bb ∧ tb ≠ bb
 d3 : a ≠ rb ∧ mb ≠ rb ∧ wb ≠ rb ∧ bb ≠ rb
 d4 : a ≠ tb ∧ mb ≠ tb ∧ wb ≠ tb ∧ bb ≠ tb
 l1 : B ≤ wb ∧ B ≤ bb ∧ B ≤ rb ∧ B ≤ tb ∧ B ≤ w.heap.size
section
variable {B a mb wb bb c r rb tb n g : Nat} {f f' : Nat → Bool} {l l' : List UInt8} {w w' w2 : World}
theorem Two.below (h : Two B a mb wb bb c r rb tb n g f l w) (k : Below w.heap.size w w') : Two B a mb wb bb c r rb tb n g f l w' :=
 ⟨h.ar.below k, h.rf.below k, h.d1, h.d2, h.d3, h.d4, by have := h.l1; have := k.size; omega⟩
theorem Two.both (h : Two B a mb wb bb c r rb tb n g f l w) (k1 : ArAt w' a mb wb bb c n g f' l' ∧ Of2 w.heap.size wb bb w w') (k2 : RfAt w2 r rb tb n g f' l' ∧ Of2 w'.heap.size rb tb w' w2) : Two B a mb wb bb c r rb tb n g f' l' w2 ∧ Below B w w2 :=
 ⟨⟨k1.1.of2 k2.2 h.d3 h.d4, k2.1, h.d1, h.d2, h.d3, h.d4, by have := h.l1; have := k1.2.size; have := k2.2.size; omega⟩,
   (k1.2.below h.l1.2.2.2.2 h.l1.1 h.l1.2.1).trans (k2.2.below (by have := h.l1; have := k1.2.size; omega) h.l1.2.2.1 h.l1.2.2.2.1)⟩
theorem Two.mid (h : Two B a mb wb bb c r rb tb n g f l w) (k : Of2 w.heap.size wb bb w w') : RfAt w' r rb tb n g f l := h.rf.of2 k h.d1 h.d2
end
section
variable {B a mb wb bb c r rb tb n g : Nat} {f : Nat → Bool} {l : List UInt8} {w : World}
end
set_option maxRecDepth 100000
def MemPost (W : World) (e : Ending) (w' : World) : Prop := ∃ (a mb wb bb c r rb tb : Nat) (f : Nat → Bool) (l : List UInt8), e = .returned (.tuple #[.pointer (some ⟨a, 0, none⟩), .pointer (some ⟨r, 0, none⟩)]) ∧ Two W.heap.size a mb wb bb c r rb tb 4096 256 f l w' ∧ Below W.heap.size W w' ∧ W.heap.size ≤ a ∧ W.heap.size ≤ mb ∧ W.heap.size ≤ r
set_option maxHeartbeats 8000000 in
theorem mem_any (A : Option Addr) (len cap : Nat) (hlen : len ≤ 9223372036854775807) (hcap : len ≤ cap) (W : World) (hP : PutsIn W W.heap.size A len) :
   Calls Tryz.prog 9 #[.slice A len cap] W (MemPost W) := by
 have hA := hid (anew_yes 16 W (by decide) (by decide))
 have hR := hid (fun w => rnew_yes 16 w (by decide) (by decide))
 generalize hL0 : List.replicate (256 * 16) (0 : UInt8) = L0 at *
 clear hL0
 generalize (fun _ : Nat => false) = f0 at *
 replace hP := hid hP
 go_enter Tryz.func9, Tryz.ntmps9
 go_wp2_with fail
 refine hA.out.mono ?_
 rintro e w1 ⟨a, rfl, mb, wb, bb, c, ha, hb1, x1, x2, x3, x4⟩
 replace ha := hid ha
 have hx := hid (And.intro hb1 (And.intro x1 (And.intro x2 (And.intro x3 x4))))
 clear hA hb1 x1 x2 x3 x4
 go_wp2_with fail
 refine (hR.out w1).mono ?_
 rintro e w2 ⟨r, rfl, rb, tb, hr, hb2, y1, y2, y3⟩
 have N2 := hid (show W.heap.size ≤ a ∧ W.heap.size ≤ mb ∧ W.heap.size ≤ r from by
   obtain ⟨z1, z2, z3, z4, z5⟩ := hx.out
   have z6 := z1.size
   omega)
 have T2 := hid (show Two W.heap.size a mb wb bb c r rb tb 4096 256 f0 L0 w2 ∧ Below W.heap.size W w2 from by
   have q1 := ha.out.m.lw
   have q2 := ha.out.lb
   have q3 := ha.out.la
   have q4 := ha.out.m.lb
   obtain ⟨z1, z2, z3, z4, z5⟩ := hx.out
   have z6 := z1.size
   have z7 := hb2.size
   exact ⟨⟨ha.out.below hb2, hr, by omega, by omega, by omega, by omega, by omega⟩, z1.trans (hb2.mono z6)⟩)
 clear hR ha hx hr hb2 y1 y2 y3
 go_wp2_with fail
 go_loopw [8] (fun i wr => ∃ (k : Nat) (f : Nat → Bool) (l : List UInt8), k ≤ len ∧ k ≤ 100 ∧ i = .int .i64 k ∧ Hid (Two W.heap.size a mb wb bb c r rb tb 4096 256 f l wr ∧ Below W.heap.size W wr)) (fun i _ => 101 - (intOf i).toNat)
 case atStart => exact ⟨0, f0, L0, by omega, by omega, rfl, T2⟩
 case round =>
   clear T2
   obtain ⟨k, f, l, hk, hk30, rfl, HT⟩ := hrel
   by_cases hlt : k < len ∧ k < 100
   · have j1 : (k : Int) < (len : Int) := by omega
     have j2 : (k : Int) < 100 := by omega
     obtain ⟨bq, off, rfl, hbq, at_, wd, v, cu, e, b, t, pm, ty, rs, va, hok, hc⟩ := (hP.out.below HT.out.2) k hlt.1
     obtain ⟨m0, m2, l0, l1, l2, l3, l4, l5, l6⟩ := hok
     have c0 : wr.cell? ⟨bq, off + k * 11, none⟩ = some (.int .u16 at_) := hc 0 _ rfl
     have c1 := hc 1 _ rfl
     have c2 := hc 2 _ rfl
     have c3 := hc 3 _ rfl
     have c4 := hc 4 _ rfl
     have c5 := hc 5 _ rfl
     have c6 := hc 6 _ rfl
     have c7 := hc 7 _ rfl
     have c8 := hc 8 _ rfl
     have c9 := hc 9 _ rfl
     have c10 := hc 10 _ rfl
     have K5 := hid ((RS.nil wr).push (prow at_ wd v cu e b t pm ty rs va) 67)
     have H5 := hid (show Two W.heap.size a mb wb bb c r rb tb 4096 256 f l (wr.alloc (.cells (prow at_ wd v cu e b t pm ty rs va).toArray 67)) ∧ Below W.heap.size W (wr.alloc (.cells (prow at_ wd v cu e b t pm ty rs va).toArray 67)) from
       ⟨HT.out.1.below ((Below.refl _ wr).alloc (Nat.le_refl _) _), HT.out.2.alloc HT.out.2.size _⟩)
     have hX := hid (show wb < wr.heap.size ∧ bb < wr.heap.size ∧ rb < wr.heap.size ∧ tb < wr.heap.size from ⟨HT.out.1.ar.m.lw, HT.out.1.ar.lb, HT.out.1.rf.lb, HT.out.1.rf.lt⟩)
     have hlt' := hid hlt
     clear hc hlt hk hk30 hbq HT
     go_upto_region 9 with (fail)
     change Code.wp _ _ _ _ (wr.alloc (.cells (prow at_ wd v cu e b t pm ty rs va).toArray 67))
     generalize (wr.alloc (.cells (prow at_ wd v cu e b t pm ty rs va).toArray 67)) = W5 at K5 H5 ⊢
     clear c0 c1 c2 c3 c4 c5 c6 c7 c8 c9 c10
     have pc := fun j u hu => K5.out.cell (g := wr.heap.size) (j := j) (u := u) (prow at_ wd v cu e b t pm ty rs va) (by simp) hu
     have p0 := pc 0 _ rfl
     have p1 := pc 1 _ rfl
     have p2 := pc 2 _ rfl
     have p3 := pc 3 _ rfl
     have p4 := pc 4 _ rfl
     have p5 := pc 5 _ rfl
     have p6 := pc 6 _ rfl
     have p7 := pc 7 _ rfl
     have p8 := pc 8 _ rfl
     have p9 := pc 9 _ rfl
     have p10 := pc 10 _ rfl
     clear pc
     cases wd
     · obtain ⟨x, hx⟩ : ∃ x : Nat, x = 16 * (at_ % 256) := ⟨_, rfl⟩
       have ex : 16 * ((at_ : Int) % 256) = (x : Int) := by omega
       have lx : x < 4096 := by omega
       clear hx
       go_wp2_with fail
       refine (ascap_any H5.out.1.ar cu e b t pm ty rs va x l0 l1 l2 l3 l4 l5 l6 (by omega)).mono ?_
       rintro ee W6 ⟨rfl, g1, g2⟩
       have K6 := hid (K5.out.of2 g2 (fun y hy => by
         have := hX.out
         simp at hy
         subst hy
         simp
         omega))
       have R6 := hid (H5.out.1.mid g2)
       have G6 := hid (And.intro g1 g2)
       clear g1 g2 p0 p1 p2 p3 p4 p5 p6 p7 p8 p9 p10
       have pc := fun j u hu => K6.out.cell (g := wr.heap.size) (j := j) (u := u) (prow at_ false v cu e b t pm ty rs va) (by simp) hu
       have p3 := pc 3 _ rfl
       have p4 := pc 4 _ rfl
       have p5 := pc 5 _ rfl
       have p6 := pc 6 _ rfl
       have p7 := pc 7 _ rfl
       have p8 := pc 8 _ rfl
       have p9 := pc 9 _ rfl
       have p10 := pc 10 _ rfl
       clear pc
       go_wp2_with fail
       refine (rscap_any R6.out cu e b t pm ty rs va x l0 l1 l2 l3 l4 l5 l6 (by omega)).mono ?_
       rintro ee W7 ⟨rfl, g1, g2⟩
       have E7 := hid (H5.out.1.both G6.out ⟨g1, g2⟩)
       clear g1 g2 p3 p4 p5 p6 p7 p8 p9 p10 K6 R6 G6 K5
       go_wp2_with fail
       go_roundw
       case rel => exact ⟨k + 1, _, _, by have := hlt'.out.1; omega, by have := hlt'.out.2; omega, by go_num, hid ⟨E7.out.1, H5.out.2.trans E7.out.2⟩⟩
       case measure => have := hlt'.out.2; simp [intOf]; omega
     · obtain ⟨x, hx⟩ : ∃ x : Nat, x = 4 * (at_ % 1024) := ⟨_, rfl⟩
       have ex : 4 * ((at_ : Int) % 1024) = (x : Int) := by omega
       have lx : x < 4096 := by omega
       clear hx
       go_wp2_with fail
       refine (astore_any H5.out.1.ar 4 v x (by omega) m2).mono ?_
       rintro ee W6 ⟨rfl, g1, g2⟩
       have K6 := hid (K5.out.of2 g2 (fun y hy => by
         have := hX.out
         simp at hy
         subst hy
         simp
         omega))
       have R6 := hid (H5.out.1.mid g2)
       have G6 := hid (And.intro g1 g2)
       clear g1 g2 p0 p1 p2 p3 p4 p5 p6 p7 p8 p9 p10
       have p2 : W6.cell? ⟨wr.heap.size, 2, none⟩ = some (.int .u32 v) := K6.out.cell (g := wr.heap.size) (j := 2) (prow at_ true v cu e b t pm ty rs va) (by simp) rfl
       go_wp2_with fail
       refine (rstore_any R6.out 4 v x (by omega) m2).mono ?_
       rintro ee W7 ⟨rfl, g1, g2⟩
       have E7 := hid (H5.out.1.both G6.out ⟨g1, g2⟩)
       clear g1 g2 p2 K6 R6 G6 K5
       go_wp2_with fail
       go_roundw
       case rel => exact ⟨k + 1, _, _, by have := hlt'.out.1; omega, by have := hlt'.out.2; omega, by go_num, hid ⟨E7.out.1, H5.out.2.trans E7.out.2⟩⟩
       case measure => have := hlt'.out.2; simp [intOf]; omega
   · rcases Nat.lt_or_ge k len with hk1 | hk1
     · have j1 : (k : Int) < (len : Int) := by omega
       have j2 : ¬ (k : Int) < 100 := by omega
       clear hk hlt hk30
       go_wp2_with fail
       go_ret2
       exact ⟨a, mb, wb, bb, c, r, rb, tb, f, l, rfl, HT.out.1, HT.out.2, N2.out⟩
     · have j1 : ¬ (k : Int) < (len : Int) := by omega
       clear hk hlt hk30
       go_wp2_with fail
       go_ret2
       exact ⟨a, mb, wb, bb, c, r, rb, tb, f, l, rfl, HT.out.1, HT.out.2, N2.out⟩
structure Bo (W : World) (a mb wb bb c r rb tb : Nat) (f : Nat → Bool) (l : List UInt8) (fr : Nat → Bool) (lr : List UInt8) (L : List Rw) (w : World) : Prop where
 ar : ArAt w a mb wb bb c 4096 256 f l
 rf : RfAt w r rb tb 4096 256 fr lr
 d1 : r ≠ wb ∧ rb ≠ wb ∧ tb ≠ wb
 d2 : r ≠ bb ∧ rb ≠ bb ∧ tb ≠ bb
 d3 : a ≠ rb ∧ mb ≠ rb ∧ wb ≠ rb ∧ bb ≠ rb
 d4 : a ≠ tb ∧ mb ≠ tb ∧ wb ≠ tb ∧ bb ≠ tb
 lo : W.heap.size ≤ wb ∧ W.heap.size ≤ bb ∧ W.heap.size ≤ rb ∧ W.heap.size ≤ tb
 bl : Below W.heap.size W w
 rs : RS L w
 ne : ∀ x, x ∈ L → W.heap.size ≤ x.g ∧ x.g ≠ a ∧ x.g ≠ mb ∧ x.g ≠ wb ∧ x.g ≠ bb ∧ x.g ≠ r ∧ x.g ≠ rb ∧ x.g ≠ tb
section
variable {W w w' w1 : World} {a mb wb bb c r rb tb : Nat} {f f' fr fr' : Nat → Bool} {l l' lr lr' : List UInt8} {L : List Rw}
theorem Bo.start (h : Two w1.heap.size a mb wb bb c r rb tb 4096 256 f l w) (hn : w1.heap.size ≤ a ∧ w1.heap.size ≤ mb ∧ w1.heap.size ≤ r) (hb : Below w1.heap.size w1 w) (k : KR W L w1) (hL : ∀ x, x ∈ L → W.heap.size ≤ x.g) :
   Bo W a mb wb bb c r rb tb f l f l L w := by
 have hs := k.bl.size
 obtain ⟨q1, q2, q3, q4, q5⟩ := h.l1
 refine ⟨h.ar, h.rf, h.d1, h.d2, h.d3, h.d4, ⟨by omega, by omega, by omega, by omega⟩, k.bl.trans (hb.mono hs), RS.below (fun x hx => k.al x hx) hb, fun x hx => ?_⟩
 have h1 := (k.al x hx).1
 have h2 := hL x hx
 exact ⟨h2, by omega, by omega, by omega, by omega, by omega, by omega, by omega⟩
theorem Bo.below (h : Bo W a mb wb bb c r rb tb f l fr lr L w) (k : Below w.heap.size w w') : Bo W a mb wb bb c r rb tb f l fr lr L w' :=
 ⟨h.ar.below k, h.rf.below k, h.d1, h.d2, h.d3, h.d4, h.lo, h.bl.trans (k.mono h.bl.size), h.rs.below k, h.ne⟩
theorem Bo.nxt (h : Bo W a mb wb bb c r rb tb f l fr lr L w) (k : ArAt w' a mb wb bb c 4096 256 f' l' ∧ Of2 w.heap.size wb bb w w') : Bo W a mb wb bb c r rb tb f' l' fr lr L w' :=
 ⟨k.1, h.rf.of2 k.2 h.d1 h.d2, h.d1, h.d2, h.d3, h.d4, h.lo, h.bl.trans (k.2.below h.bl.size h.lo.1 h.lo.2.1), h.rs.of2 k.2 (fun x hx => ⟨(h.ne x hx).2.2.2.1, (h.ne x hx).2.2.2.2.1⟩), h.ne⟩
theorem Bo.rxt (h : Bo W a mb wb bb c r rb tb f l fr lr L w) (k : RfAt w' r rb tb 4096 256 fr' lr' ∧ Of2 w.heap.size rb tb w w') : Bo W a mb wb bb c r rb tb f l fr' lr' L w' :=
 ⟨h.ar.of2 k.2 h.d3 h.d4, k.1, h.d1, h.d2, h.d3, h.d4, h.lo, h.bl.trans (k.2.below h.bl.size h.lo.2.2.1 h.lo.2.2.2), h.rs.of2 k.2 (fun x hx => ⟨(h.ne x hx).2.2.2.2.2.2.1, (h.ne x hx).2.2.2.2.2.2.2⟩), h.ne⟩
theorem Bo.push (h : Bo W a mb wb bb c r rb tb f l fr lr L w) (vs : List Value) (ty : TypeId) : Bo W a mb wb bb c r rb tb f l fr lr (⟨w.heap.size, vs⟩ :: L) (w.alloc (.cells vs.toArray ty)) := by
 have hA := h.below ((Below.refl _ w).alloc (Nat.le_refl _) (.cells vs.toArray ty))
 refine ⟨hA.ar, hA.rf, h.d1, h.d2, h.d3, h.d4, h.lo, hA.bl, h.rs.push vs ty, fun x hx => ?_⟩
 rcases List.mem_cons.1 hx with rfl | hx
 · have k1 := h.ar.la
   have k2 := h.ar.lb
   have k3 := h.ar.m.lb
   have k4 := h.ar.m.lw
   have k5 := h.rf.la
   have k6 := h.rf.lb
   have k7 := h.rf.lt
   have k8 := h.bl.size
   show W.heap.size ≤ w.heap.size ∧ w.heap.size ≠ a ∧ w.heap.size ≠ mb ∧ w.heap.size ≠ wb ∧ w.heap.size ≠ bb ∧ w.heap.size ≠ r ∧ w.heap.size ≠ rb ∧ w.heap.size ≠ tb
   omega
 · exact h.ne x hx
theorem Bo.sub {L' : List Rw} (h : Bo W a mb wb bb c r rb tb f l fr lr L w) (hs : ∀ x, x ∈ L' → x ∈ L) : Bo W a mb wb bb c r rb tb f l fr lr L' w :=
 ⟨h.ar, h.rf, h.d1, h.d2, h.d3, h.d4, h.lo, h.bl, fun x hx => h.rs x (hs x hx), fun x hx => h.ne x (hs x hx)⟩
theorem Bo.kr (h : Bo W a mb wb bb c r rb tb f l fr lr L w) : KR W L w := ⟨h.bl, h.rs⟩
theorem Bo.put {g : Nat} {vs : List Value} (h : Bo W a mb wb bb c r rb tb f l fr lr (⟨g, vs⟩ :: L) w) (hn : ∀ x, x ∈ L → x.g ≠ g) (k : Nat) (us : List Value) (hk : k + us.length ≤ vs.length) :
   Bo W a mb wb bb c r rb tb f l fr lr (⟨g, vs.take k ++ us ++ vs.drop (k + us.length)⟩ :: L) (w.setCells g k us) := by
 obtain ⟨n0, n1, n2, n3, n4, n5, n6, n7⟩ := h.ne _ (List.mem_cons_self ..)
 have n0' : W.heap.size ≤ g := n0
 have n1' : g ≠ a := n1
 have n2' : g ≠ mb := n2
 have n3' : g ≠ wb := n3
 have n4' : g ≠ bb := n4
 have n5' : g ≠ r := n5
 have n6' : g ≠ rb := n6
 have n7' : g ≠ tb := n7
 have k2 := h.kr.put n0' hn k us hk
 have hs := (below_setCells n0' us k w).size
 refine ⟨h.ar.keep (fun j hj => heap_setCells_ne g us k w j (by omega)) hs, h.rf.keep (fun j hj => heap_setCells_ne g us k w j (by omega)) hs, h.d1, h.d2, h.d3, h.d4, h.lo, k2.bl, fun x hx => k2.al x hx, fun x hx => ?_⟩
 rcases List.mem_cons.1 hx with rfl | hx
 · exact ⟨n0, n1, n2, n3, n4, n5, n6, n7⟩
 · exact h.ne x (List.mem_cons_of_mem _ hx)
theorem Bo.putA {g : Nat} {vs : List Value} (h : Bo W a mb wb bb c r rb tb f l fr lr (⟨g, vs⟩ :: L) w) (hn : ∀ x, x ∈ L → x.g ≠ g) (us : List Value) (hl : us.length = vs.length) :
   Bo W a mb wb bb c r rb tb f l fr lr (⟨g, us⟩ :: L) (w.setCells g 0 us) := by
 have := h.put hn 0 us (by omega)
 rwa [List.take_zero, List.nil_append, Nat.zero_add, List.drop_eq_nil_of_le (by omega), List.append_nil] at this
theorem Bo.there (h : Bo W a mb wb bb c r rb tb f l fr lr L w) {g : Nat} {vs : List Value} (hx : (⟨g, vs⟩ : Rw) ∈ L) (o n : Nat) (hn : o + n ≤ vs.length) : w.there g o n := h.kr.there hx o n hn
theorem Bo.range (h : Bo W a mb wb bb c r rb tb f l fr lr L w) {g : Nat} {vs : List Value} (hx : (⟨g, vs⟩ : Rw) ∈ L) : w.rangeAt g 0 vs := h.kr.range hx
theorem Bo.cell (h : Bo W a mb wb bb c r rb tb f l fr lr L w) {g j : Nat} {u : Value} (vs : List Value) (hx : (⟨g, vs⟩ : Rw) ∈ L) (hu : vs[j]? = some u) : w.cell? ⟨g, j, none⟩ = some u := h.kr.cell vs hx hu
theorem Bo.lt (h : Bo W a mb wb bb c r rb tb f l fr lr L w) {x : Rw} (hx : x ∈ L) : x.g < w.heap.size := (h.rs x hx).1
end
theorem PutsIn.more {w : World} {B B' : Nat} {A : Option Addr} {n : Nat} (h : PutsIn w B A n) (hB : B ≤ B') : PutsIn w B' A n := fun i hi => by
 obtain ⟨bq, off, e, hlt, k⟩ := h i hi
 exact ⟨bq, off, e, by omega, k⟩
section
variable {a mb wb bb c r rb tb n g : Nat} {f : Nat → Bool} {l : List UInt8} {w : World}
set_option maxRecDepth 100000 in
set_option maxHeartbeats 4000000 in
theorem same10_any (HA : ArAt w a mb wb bb c n g f l) (HR : RfAt w r rb tb n g f l) (hg : g % 16 = 0) :
   Calls Tryz.prog 14 #[.pointer (some ⟨a, 0, none⟩), .pointer (some ⟨r, 0, none⟩)] w fun e w' => e = .returned (.bool true) ∧ Below w.heap.size w w' := by
 have hn := HA.ln
 have hl := HA.len
 have hA := hid HA
 have hR := hid HR
 have hg' := hid hg
 have hcv : ∀ (w' : World), RfAt w' r rb tb n g f l → (convert 97 9 (.slice (some ⟨rb, 0, none⟩) n n)).run Tryz.prog w' = .ok (.string ⟨l.toArray⟩) w' := fun w' h' => by
   have := run_convert_bytes_back (P := Tryz.prog) w' 97 9 5 ⟨rb, 0, none⟩ n l Tryz.underlying97 Tryz.underlying5 Tryz.underlying9 (fun j hj => by
     rw [Addr.add_lit, Nat.zero_add]
     exact h'.by_ j _ (List.getElem?_eq_getElem hj))
   rwa [hl] at this
 replace hcv := hid hcv
 have htk := hid (show (l.drop 0).take n = l by rw [List.drop_zero, List.take_of_length_le (by omega)])
 clear HA HR hg hl
 go_enter Tryz.func14, Tryz.ntmps14
 go_wp2_with fail
 refine (asize_any hA.out).mono ?_
 rintro e w2 ⟨rfl, k⟩
 have B2 := hid k
 clear k
 go_wp2_with fail
 have h1 := aread_yes (hA.out.below B2.out) 0 n (by decide) (by omega)
 rw [htk.out] at h1
 refine h1.mono ?_
 rintro e w3 ⟨rfl, k⟩
 have B3 := hid (B2.out.trans (k.mono B2.out.size))
 clear k B2 h1
 have q0 := (hR.out.below B3.out).q0
 have hc3 := hcv.out w3 (hR.out.below B3.out)
 go_wp2_with fail
 clear q0 hc3
 go_loopw [7] (fun p wr => ∃ j : Nat, j ≤ 16 ∧ p = .int .i64 (j : Int) ∧ Below w.heap.size w wr) (fun p _ => 17 - (intOf p).toNat)
 case atStart => exact ⟨0, by omega, rfl, B3.out⟩
 case round =>
   obtain ⟨j, hj, rfl, hB⟩ := hrel
   have B4 := hid hB
   have jn : (j : Int) ≤ 16 := by omega
   clear hB B3
   by_cases hlt : j < 16
   · have jl : (j : Int) < 16 := by omega
     go_wp2_with fail
     refine (atag_any (hA.out.below B4.out) hg'.out (j : Int) (by omega)).mono ?_
     intro e w5 hL
     obtain ⟨vv, rfl, o, kb⟩ := hL
     obtain ⟨Aq, c8, rfl, hc8, hform⟩ := list_form6 o
     have B5 := hid (B4.out.trans (kb.mono B4.out.size))
     have F5 := hid hform
     clear kb o hform
     go_wp2_with fail
     refine (rtag_any (hR.out.below B5.out) (j : Int) (by omega)).mono ?_
     intro e w6 hL
     obtain ⟨vv, rfl, o, kb⟩ := hL
     obtain ⟨Aq2, c9, rfl, hc9, hform2⟩ := list_form6 o
     have B6 := hid (B5.out.trans (kb.mono B5.out.size))
     have F5' := hid (fun (i u : Nat) (hu : (tgP f g (j : Int))[i]? = some u) => (show ∃ q, Aq = some ⟨q, 0, none⟩ ∧ w6.cell? ⟨q, i, none⟩ = some (.int .u32 (u : Int)) from by
       obtain ⟨q, h1, h2⟩ := F5.out i u hu
       exact ⟨q, h1, (kb.cell (p := ⟨q, i, none⟩) (World.block_lt_of_cell? w5 ⟨q, i, none⟩ h2)).trans h2⟩))
     have F6 := hid hform2
     have hll := tgl_len (fun i => f i && decide (((i / 16 : Nat) : Int) = (j : Int))) 0 g
     have hgi := hA.out.hi
     clear kb o hform2 F5 B5
     have hle : (tgP f g (j : Int)).length ≤ 16384 := by unfold tgP; omega
     generalize tgP f g (j : Int) = lst at *
     obtain ⟨ln, hln⟩ : ∃ ln, ln = lst.length := ⟨_, rfl⟩
     rw [← hln] at hc8 hc9 hle ⊢
     have hln' := hid hln
     have jll : (ln : Int) ≤ 16384 := by omega
     clear hll hgi hln
     go_wp2_with fail
     go_loopw [10] (fun i wy => ∃ k : Nat, k ≤ ln ∧ i = .int .i64 k ∧ Below w6.heap.size w6 wy) (fun i _ => ln - (intOf i).toNat)
     case atStart => exact ⟨0, by omega, rfl, Below.refl _ _⟩
     case round =>
       obtain ⟨k, hk, rfl, hB7⟩ := hrel
       have B7 := hid hB7
       have jk : (k : Int) ≤ ln := by omega
       by_cases hkl : k < ln
       · have jkl : (k : Int) < ln := by omega
         have hk2 : k < lst.length := by have := hln'.out; omega
         obtain ⟨q, rfl, h1⟩ := F5'.out k _ (List.getElem?_eq_getElem hk2)
         obtain ⟨q2, rfl, h2⟩ := F6.out k _ (List.getElem?_eq_getElem hk2)
         generalize lst[k] = u at h1 h2
         obtain ⟨S, hS0⟩ : ∃ S, S = fun w' => Below w6.heap.size w6 w' := ⟨_, rfl⟩
         have hK : ∀ w', S w' → Below w6.heap.size w6 w' := fun w' h => by rw [hS0] at h; exact h
         have hS : ∀ w1 w', S w1 → Below w1.heap.size w1 w' → S w' := fun w1 w' h k => by rw [hS0] at h ⊢; exact h.trans (k.mono h.size)
         have K7 := hid (show S _ by rw [hS0]; exact hB7)
         have b0 : ∀ y : Wd S, y.w.cell? ⟨q, k, none⟩ = some (.int .u32 (u : Int)) := fun y => ((hK _ y.h).cell (p := ⟨q, k, none⟩) (World.block_lt_of_cell? w6 ⟨q, k, none⟩ h1)).trans h1
         have b1 : ∀ y : Wd S, y.w.cell? ⟨q2, k, none⟩ = some (.int .u32 (u : Int)) := fun y => ((hK _ y.h).cell (p := ⟨q2, k, none⟩) (World.block_lt_of_cell? w6 ⟨q2, k, none⟩ h2)).trans h2
         have hund : undef = Value.tuple #[] := rfl
         clear hS0 hB7 B7 h1 h2 hk2
         go_wp2_with fail
         refine region_cls S (by kernel_rfl) (by kernel_rfl) (hS _ _ K7.out (Below.refl _ _).drew) ?_
         repeat (first
           | go_big_quiet_skip
           | (go_big_quiet_want
              go_big_quiet_op
              first
              | go_big_quiet_on
              | (apply Exists.intro
                 refine ⟨fun y => ?_, ?_⟩
                 · first | exact rfl
                 go_big_quiet_on)))
         refine wpQuiet_nil ?_
         intro y
         have Ky := hid (hK _ y.h)
         generalize y.w = wy at *
         clear b0 b1 hS hK K7
         go_wp2_with fail
         go_roundw
         case rel => exact ⟨k + 1, by omega, by go_num, Ky.out⟩
         case measure => simp [intOf]; omega
       · obtain rfl : k = ln := by omega
         have B8 := hid (B6.out.trans (hB7.mono B6.out.size))
         clear hB7 B7
         go_wp2_with fail
         go_roundw
         case rel => exact ⟨j + 1, by omega, by go_num, B8.out⟩
         case measure => simp [intOf]; omega
   · obtain rfl : j = 16 := by omega
     go_wp2_with fail
     go_ret
     exact ⟨rfl, B4.out⟩
end
end Go.Proofs.YtkmgdfcambdeeaaGreatDoor
