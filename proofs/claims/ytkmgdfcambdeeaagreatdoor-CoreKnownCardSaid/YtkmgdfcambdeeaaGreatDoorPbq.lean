/- Contract of the laws' own 'same': the program's arena and the document's have the same bytes and tags. No statement is proved here.; Contract of the laws' own 'step': one step of both arenas. No statement is proved here.; Contract of the laws' own 'memory' (layer core): an arena and the document's, in which stands what came in. No statement is proved here.; Both arenas, and boxes, in a world that came of W (layer core's laws). Plain lemmas; no statement is proved here. -/
import Derived.Deep.LoopGhost
import Derived.Deep.RegionHeld
import Derived.Test.YtkmgdfcambdeeaaGreatDoorPao
import Derived.Test.YtkmgdfcambdeeaaGreatDoorPbp
import Derived.Test.YtkmgdfcambdeeaaGreatDoorPar
import Derived.Test.YtkmgdfcambdeeaaGreatDoorPaq
namespace Go.Proofs.YtkmgdfcambdeeaaGreatDoor
open Go.RowKit
set_option linter.unusedVariables false

/-- A list that a call has handed back, as a slice and its cells. -/
theorem list_form6 {w : World} {base : Nat} {v : Value} {lst : List Nat} (o : w.ownsRow base 22 1 v lst.length (lst.map u32v)) : ∃ Aq c', v = .slice Aq lst.length c' ∧ lst.length ≤ c' ∧ ∀ (i u : Nat), lst[i]? = some u → ∃ q, Aq = some ⟨q, 0, none⟩ ∧ w.cell? ⟨q, i, none⟩ = some (.int .u32 (u : Int)) := by
  rcases o.2 with ⟨rfl, hn⟩ | ⟨q, cap, cur, rfl, h1, h2, h3, _⟩
  · exact ⟨none, 0, by rw [hn], by omega, fun i u hu => by have := (List.getElem?_eq_some_iff.1 hu).1; omega⟩
  · refine ⟨_, cap, rfl, h3, fun i u hu => ⟨q, rfl, ?_⟩⟩
    have := o.cells (g := q) rfl i (u32v u) (by simp [hu])
    rwa [Addr.add_lit, Nat.zero_add] at this
section
variable {a mb wb bb c r rb tb n g : Nat} {f : Nat → Bool} {l : List UInt8} {w : World}
end
end Go.Proofs.YtkmgdfcambdeeaaGreatDoor
namespace Go.Proofs.YtkmgdfcambdeeaaGreatDoor
open Go.RowKit
set_option linter.unusedVariables false
/-- Both arenas, with the same tags and bytes; their blocks lie from B on. -/
structure Two (B a mb wb bb c r rb tb n g : Nat) (f : Nat → Bool) (l : List UInt8) (w : World) : Prop where
  ar : ArAt w a mb wb bb c n g f l
  rf : RfAt w r rb tb n g f l
  d1 : r ≠ wb ∧ rb ≠ wb ∧ tb ≠ wb
  d2 : r ≠ bb ∧ rb ≠ bb ∧ tb ≠ bb
  d3 : a ≠ rb ∧ mb ≠ rb ∧ wb ≠ rb ∧ bb ≠ rb
  d4 : a ≠ tb ∧ mb ≠ tb ∧ wb ≠ tb ∧ bb ≠ tb
  l1 : B ≤ wb ∧ B ≤ bb ∧ B ≤ rb ∧ B ≤ tb ∧ B ≤ w.heap.size
section
variable {B a mb wb bb c r rb tb n g : Nat} {f f' : Nat → Bool} {l l' : List UInt8} {w w' w2 : World}
theorem Two.below (h : Two B a mb wb bb c r rb tb n g f l w) (k : Below w.heap.size w w') : Two B a mb wb bb c r rb tb n g f l w' :=
  ⟨h.ar.below k, h.rf.below k, h.d1, h.d2, h.d3, h.d4, by have := h.l1; have := k.size; omega⟩
/-- A call on the one, then the same on the other. -/
theorem Two.both (h : Two B a mb wb bb c r rb tb n g f l w) (k1 : ArAt w' a mb wb bb c n g f' l' ∧ Of2 w.heap.size wb bb w w') (k2 : RfAt w2 r rb tb n g f' l' ∧ Of2 w'.heap.size rb tb w' w2) : Two B a mb wb bb c r rb tb n g f' l' w2 ∧ Below B w w2 :=
  ⟨⟨k1.1.of2 k2.2 h.d3 h.d4, k2.1, h.d1, h.d2, h.d3, h.d4, by have := h.l1; have := k1.2.size; have := k2.2.size; omega⟩,
    (k1.2.below h.l1.2.2.2.2 h.l1.1 h.l1.2.1).trans (k2.2.below (by have := h.l1; have := k1.2.size; omega) h.l1.2.2.1 h.l1.2.2.2.1)⟩
theorem Two.mid (h : Two B a mb wb bb c r rb tb n g f l w) (k : Of2 w.heap.size wb bb w w') : RfAt w' r rb tb n g f l := h.rf.of2 k h.d1 h.d2
end
section
variable {B a mb wb bb c r rb tb n g : Nat} {f : Nat → Bool} {l : List UInt8} {w : World}
end
end Go.Proofs.YtkmgdfcambdeeaaGreatDoor
namespace Go.Proofs.YtkmgdfcambdeeaaGreatDoor
set_option maxRecDepth 100000
open Go.RowKit
set_option linter.unusedVariables false
/-- Both arenas stand, with the same tags and bytes. -/
def MemPost (W : World) (e : Ending) (w' : World) : Prop := ∃ (a mb wb bb c r rb tb : Nat) (f : Nat → Bool) (l : List UInt8), e = .returned (.tuple #[.pointer (some ⟨a, 0, none⟩), .pointer (some ⟨r, 0, none⟩)]) ∧ Two W.heap.size a mb wb bb c r rb tb 4096 256 f l w' ∧ Below W.heap.size W w' ∧ W.heap.size ≤ a ∧ W.heap.size ≤ mb ∧ W.heap.size ≤ r
set_option maxHeartbeats 8000000 in
theorem mem_any (A : Option Addr) (len cap : Nat) (hlen : len ≤ 9223372036854775807) (hcap : len ≤ cap) (W : World) (hP : PutsIn W W.heap.size A len) :
    Calls Tryz.prog 9 #[.slice A len cap] W (MemPost W) := by
  have hA := Lib.hid (anew_yes 16 W (by decide) (by decide))
  have hR := Lib.hid (fun w => rnew_yes 16 w (by decide) (by decide))
  generalize hL0 : List.replicate (256 * 16) (0 : UInt8) = L0 at *
  clear hL0
  generalize (fun _ : Nat => false) = f0 at *
  replace hP := Lib.hid hP
  go_enter Tryz.func9, Tryz.ntmps9
  go_wp2_with fail
  refine hA.out.mono ?_
  rintro e w1 ⟨a, rfl, mb, wb, bb, c, ha, hb1, x1, x2, x3, x4⟩
  replace ha := Lib.hid ha
  have hx := Lib.hid (And.intro hb1 (And.intro x1 (And.intro x2 (And.intro x3 x4))))
  clear hA hb1 x1 x2 x3 x4
  go_wp2_with fail
  refine (hR.out w1).mono ?_
  rintro e w2 ⟨r, rfl, rb, tb, hr, hb2, y1, y2, y3⟩
  have N2 := Lib.hid (show W.heap.size ≤ a ∧ W.heap.size ≤ mb ∧ W.heap.size ≤ r from by
    obtain ⟨z1, z2, z3, z4, z5⟩ := hx.out
    have z6 := z1.size
    omega)
  have T2 := Lib.hid (show Two W.heap.size a mb wb bb c r rb tb 4096 256 f0 L0 w2 ∧ Below W.heap.size W w2 from by
    have q1 := ha.out.m.lw
    have q2 := ha.out.lb
    have q3 := ha.out.la
    have q4 := ha.out.m.lb
    obtain ⟨z1, z2, z3, z4, z5⟩ := hx.out
    have z6 := z1.size
    have z7 := hb2.size
    exact ⟨⟨ha.out.below hb2, hr, by omega, by omega, by omega, by omega, by omega⟩, z1.trans (hb2.mono z6)⟩)
  clear hR ha hx hr hb2 y1 y2 y3
  go_wp2_with fail
  go_loopw [8] (fun i wr => ∃ (k : Nat) (f : Nat → Bool) (l : List UInt8), k ≤ len ∧ k ≤ 100 ∧ i = .int .i64 k ∧ Hid (Two W.heap.size a mb wb bb c r rb tb 4096 256 f l wr ∧ Below W.heap.size W wr)) (fun i _ => 101 - (intOf i).toNat)
  case atStart => exact ⟨0, f0, L0, by omega, by omega, rfl, T2⟩
  case round =>
    clear T2
    obtain ⟨k, f, l, hk, hk30, rfl, HT⟩ := hrel
    by_cases hlt : k < len ∧ k < 100
    · have j1 : (k : Int) < (len : Int) := by omega
      have j2 : (k : Int) < 100 := by omega
      obtain ⟨bq, off, rfl, hbq, at_, wd, v, cu, e, b, t, pm, ty, rs, va, hok, hc⟩ := (hP.out.below HT.out.2) k hlt.1
      obtain ⟨m0, m2, l0, l1, l2, l3, l4, l5, l6⟩ := hok
      have c0 : wr.cell? ⟨bq, off + k * 11, none⟩ = some (.int .u16 at_) := hc 0 _ rfl
      have c1 := hc 1 _ rfl
      have c2 := hc 2 _ rfl
      have c3 := hc 3 _ rfl
      have c4 := hc 4 _ rfl
      have c5 := hc 5 _ rfl
      have c6 := hc 6 _ rfl
      have c7 := hc 7 _ rfl
      have c8 := hc 8 _ rfl
      have c9 := hc 9 _ rfl
      have c10 := hc 10 _ rfl
      have K5 := Lib.hid ((RS.nil wr).push (prow at_ wd v cu e b t pm ty rs va) 67)
      have H5 := Lib.hid (show Two W.heap.size a mb wb bb c r rb tb 4096 256 f l (wr.alloc (.cells (prow at_ wd v cu e b t pm ty rs va).toArray 67)) ∧ Below W.heap.size W (wr.alloc (.cells (prow at_ wd v cu e b t pm ty rs va).toArray 67)) from
        ⟨HT.out.1.below ((Below.refl _ wr).alloc (Nat.le_refl _) _), HT.out.2.alloc HT.out.2.size _⟩)
      have hX := Lib.hid (show wb < wr.heap.size ∧ bb < wr.heap.size ∧ rb < wr.heap.size ∧ tb < wr.heap.size from ⟨HT.out.1.ar.m.lw, HT.out.1.ar.lb, HT.out.1.rf.lb, HT.out.1.rf.lt⟩)
      have hlt' := Lib.hid hlt
      clear hc hlt hk hk30 hbq HT
      go_upto_region 9 with (fail)
      change Code.wp _ _ _ _ (wr.alloc (.cells (prow at_ wd v cu e b t pm ty rs va).toArray 67))
      generalize (wr.alloc (.cells (prow at_ wd v cu e b t pm ty rs va).toArray 67)) = W5 at K5 H5 ⊢
      clear c0 c1 c2 c3 c4 c5 c6 c7 c8 c9 c10
      have pc := fun j u hu => K5.out.cell (g := wr.heap.size) (j := j) (u := u) (prow at_ wd v cu e b t pm ty rs va) (by simp) hu
      have p0 := pc 0 _ rfl
      have p1 := pc 1 _ rfl
      have p2 := pc 2 _ rfl
      have p3 := pc 3 _ rfl
      have p4 := pc 4 _ rfl
      have p5 := pc 5 _ rfl
      have p6 := pc 6 _ rfl
      have p7 := pc 7 _ rfl
      have p8 := pc 8 _ rfl
      have p9 := pc 9 _ rfl
      have p10 := pc 10 _ rfl
      clear pc
      cases wd
      · obtain ⟨x, hx⟩ : ∃ x : Nat, x = 16 * (at_ % 256) := ⟨_, rfl⟩
        have ex : 16 * ((at_ : Int) % 256) = (x : Int) := by omega
        have lx : x < 4096 := by omega
        clear hx
        go_wp2_with fail
        refine (ascap_any H5.out.1.ar cu e b t pm ty rs va x l0 l1 l2 l3 l4 l5 l6 (by omega)).mono ?_
        rintro ee W6 ⟨rfl, g1, g2⟩
        have K6 := Lib.hid (K5.out.of2 g2 (fun y hy => by
          have := hX.out
          simp at hy
          subst hy
          simp
          omega))
        have R6 := Lib.hid (H5.out.1.mid g2)
        have G6 := Lib.hid (And.intro g1 g2)
        clear g1 g2 p0 p1 p2 p3 p4 p5 p6 p7 p8 p9 p10
        have pc := fun j u hu => K6.out.cell (g := wr.heap.size) (j := j) (u := u) (prow at_ false v cu e b t pm ty rs va) (by simp) hu
        have p3 := pc 3 _ rfl
        have p4 := pc 4 _ rfl
        have p5 := pc 5 _ rfl
        have p6 := pc 6 _ rfl
        have p7 := pc 7 _ rfl
        have p8 := pc 8 _ rfl
        have p9 := pc 9 _ rfl
        have p10 := pc 10 _ rfl
        clear pc
        go_wp2_with fail
        refine (rscap_any R6.out cu e b t pm ty rs va x l0 l1 l2 l3 l4 l5 l6 (by omega)).mono ?_
        rintro ee W7 ⟨rfl, g1, g2⟩
        have E7 := Lib.hid (H5.out.1.both G6.out ⟨g1, g2⟩)
        clear g1 g2 p3 p4 p5 p6 p7 p8 p9 p10 K6 R6 G6 K5
        go_wp2_with fail
        go_roundw
        case rel => exact ⟨k + 1, _, _, by have := hlt'.out.1; omega, by have := hlt'.out.2; omega, by go_num, Lib.hid ⟨E7.out.1, H5.out.2.trans E7.out.2⟩⟩
        case measure => have := hlt'.out.2; simp [intOf]; omega
      · obtain ⟨x, hx⟩ : ∃ x : Nat, x = 4 * (at_ % 1024) := ⟨_, rfl⟩
        have ex : 4 * ((at_ : Int) % 1024) = (x : Int) := by omega
        have lx : x < 4096 := by omega
        clear hx
        go_wp2_with fail
        refine (astore_any H5.out.1.ar 4 v x (by omega) m2).mono ?_
        rintro ee W6 ⟨rfl, g1, g2⟩
        have K6 := Lib.hid (K5.out.of2 g2 (fun y hy => by
          have := hX.out
          simp at hy
          subst hy
          simp
          omega))
        have R6 := Lib.hid (H5.out.1.mid g2)
        have G6 := Lib.hid (And.intro g1 g2)
        clear g1 g2 p0 p1 p2 p3 p4 p5 p6 p7 p8 p9 p10
        have p2 : W6.cell? ⟨wr.heap.size, 2, none⟩ = some (.int .u32 v) := K6.out.cell (g := wr.heap.size) (j := 2) (prow at_ true v cu e b t pm ty rs va) (by simp) rfl
        go_wp2_with fail
        refine (rstore_any R6.out 4 v x (by omega) m2).mono ?_
        rintro ee W7 ⟨rfl, g1, g2⟩
        have E7 := Lib.hid (H5.out.1.both G6.out ⟨g1, g2⟩)
        clear g1 g2 p2 K6 R6 G6 K5
        go_wp2_with fail
        go_roundw
        case rel => exact ⟨k + 1, _, _, by have := hlt'.out.1; omega, by have := hlt'.out.2; omega, by go_num, Lib.hid ⟨E7.out.1, H5.out.2.trans E7.out.2⟩⟩
        case measure => have := hlt'.out.2; simp [intOf]; omega
    · rcases Nat.lt_or_ge k len with hk1 | hk1
      · have j1 : (k : Int) < (len : Int) := by omega
        have j2 : ¬ (k : Int) < 100 := by omega
        clear hk hlt hk30
        go_wp2_with fail
        go_ret2
        exact ⟨a, mb, wb, bb, c, r, rb, tb, f, l, rfl, HT.out.1, HT.out.2, N2.out⟩
      · have j1 : ¬ (k : Int) < (len : Int) := by omega
        clear hk hlt hk30
        go_wp2_with fail
        go_ret2
        exact ⟨a, mb, wb, bb, c, r, rb, tb, f, l, rfl, HT.out.1, HT.out.2, N2.out⟩
end Go.Proofs.YtkmgdfcambdeeaaGreatDoor
namespace Go.Proofs.YtkmgdfcambdeeaaGreatDoor
open Go.RowKit
set_option linter.unusedVariables false
/-- The program's arena, the document's, and boxes; nothing that was there at W has changed. -/
structure Bo (W : World) (a mb wb bb c r rb tb : Nat) (f : Nat → Bool) (l : List UInt8) (fr : Nat → Bool) (lr : List UInt8) (L : List Rw) (w : World) : Prop where
  ar : ArAt w a mb wb bb c 4096 256 f l
  rf : RfAt w r rb tb 4096 256 fr lr
  d1 : r ≠ wb ∧ rb ≠ wb ∧ tb ≠ wb
  d2 : r ≠ bb ∧ rb ≠ bb ∧ tb ≠ bb
  d3 : a ≠ rb ∧ mb ≠ rb ∧ wb ≠ rb ∧ bb ≠ rb
  d4 : a ≠ tb ∧ mb ≠ tb ∧ wb ≠ tb ∧ bb ≠ tb
  lo : W.heap.size ≤ wb ∧ W.heap.size ≤ bb ∧ W.heap.size ≤ rb ∧ W.heap.size ≤ tb
  bl : Below W.heap.size W w
  rs : RS L w
  ne : ∀ x, x ∈ L → W.heap.size ≤ x.g ∧ x.g ≠ a ∧ x.g ≠ mb ∧ x.g ≠ wb ∧ x.g ≠ bb ∧ x.g ≠ r ∧ x.g ≠ rb ∧ x.g ≠ tb
section
variable {W w w' w1 : World} {a mb wb bb c r rb tb : Nat} {f f' fr fr' : Nat → Bool} {l l' lr lr' : List UInt8} {L : List Rw}
theorem Bo.start (h : Two w1.heap.size a mb wb bb c r rb tb 4096 256 f l w) (hn : w1.heap.size ≤ a ∧ w1.heap.size ≤ mb ∧ w1.heap.size ≤ r) (hb : Below w1.heap.size w1 w) (k : KR W L w1) (hL : ∀ x, x ∈ L → W.heap.size ≤ x.g) :
    Bo W a mb wb bb c r rb tb f l f l L w := by
  have hs := k.bl.size
  obtain ⟨q1, q2, q3, q4, q5⟩ := h.l1
  refine ⟨h.ar, h.rf, h.d1, h.d2, h.d3, h.d4, ⟨by omega, by omega, by omega, by omega⟩, k.bl.trans (hb.mono hs), RS.below (fun x hx => k.al x hx) hb, fun x hx => ?_⟩
  have h1 := (k.al x hx).1
  have h2 := hL x hx
  exact ⟨h2, by omega, by omega, by omega, by omega, by omega, by omega, by omega⟩
theorem Bo.below (h : Bo W a mb wb bb c r rb tb f l fr lr L w) (k : Below w.heap.size w w') : Bo W a mb wb bb c r rb tb f l fr lr L w' :=
  ⟨h.ar.below k, h.rf.below k, h.d1, h.d2, h.d3, h.d4, h.lo, h.bl.trans (k.mono h.bl.size), h.rs.below k, h.ne⟩
theorem Bo.nxt (h : Bo W a mb wb bb c r rb tb f l fr lr L w) (k : ArAt w' a mb wb bb c 4096 256 f' l' ∧ Of2 w.heap.size wb bb w w') : Bo W a mb wb bb c r rb tb f' l' fr lr L w' :=
  ⟨k.1, h.rf.of2 k.2 h.d1 h.d2, h.d1, h.d2, h.d3, h.d4, h.lo, h.bl.trans (k.2.below h.bl.size h.lo.1 h.lo.2.1), h.rs.of2 k.2 (fun x hx => ⟨(h.ne x hx).2.2.2.1, (h.ne x hx).2.2.2.2.1⟩), h.ne⟩
theorem Bo.rxt (h : Bo W a mb wb bb c r rb tb f l fr lr L w) (k : RfAt w' r rb tb 4096 256 fr' lr' ∧ Of2 w.heap.size rb tb w w') : Bo W a mb wb bb c r rb tb f l fr' lr' L w' :=
  ⟨h.ar.of2 k.2 h.d3 h.d4, k.1, h.d1, h.d2, h.d3, h.d4, h.lo, h.bl.trans (k.2.below h.bl.size h.lo.2.2.1 h.lo.2.2.2), h.rs.of2 k.2 (fun x hx => ⟨(h.ne x hx).2.2.2.2.2.2.1, (h.ne x hx).2.2.2.2.2.2.2⟩), h.ne⟩
theorem Bo.push (h : Bo W a mb wb bb c r rb tb f l fr lr L w) (vs : List Value) (ty : TypeId) : Bo W a mb wb bb c r rb tb f l fr lr (⟨w.heap.size, vs⟩ :: L) (w.alloc (.cells vs.toArray ty)) := by
  have hA := h.below ((Below.refl _ w).alloc (Nat.le_refl _) (.cells vs.toArray ty))
  refine ⟨hA.ar, hA.rf, h.d1, h.d2, h.d3, h.d4, h.lo, hA.bl, h.rs.push vs ty, fun x hx => ?_⟩
  rcases List.mem_cons.1 hx with rfl | hx
  · have k1 := h.ar.la
    have k2 := h.ar.lb
    have k3 := h.ar.m.lb
    have k4 := h.ar.m.lw
    have k5 := h.rf.la
    have k6 := h.rf.lb
    have k7 := h.rf.lt
    have k8 := h.bl.size
    show W.heap.size ≤ w.heap.size ∧ w.heap.size ≠ a ∧ w.heap.size ≠ mb ∧ w.heap.size ≠ wb ∧ w.heap.size ≠ bb ∧ w.heap.size ≠ r ∧ w.heap.size ≠ rb ∧ w.heap.size ≠ tb
    omega
  · exact h.ne x hx
theorem Bo.drew (h : Bo W a mb wb bb c r rb tb f l fr lr L w) : Bo W a mb wb bb c r rb tb f l fr lr L w.drew := h.below (Below.refl _ _).drew
theorem Bo.sub {L' : List Rw} (h : Bo W a mb wb bb c r rb tb f l fr lr L w) (hs : ∀ x, x ∈ L' → x ∈ L) : Bo W a mb wb bb c r rb tb f l fr lr L' w :=
  ⟨h.ar, h.rf, h.d1, h.d2, h.d3, h.d4, h.lo, h.bl, fun x hx => h.rs x (hs x hx), fun x hx => h.ne x (hs x hx)⟩
theorem Bo.kr (h : Bo W a mb wb bb c r rb tb f l fr lr L w) : KR W L w := ⟨h.bl, h.rs⟩
/-- A part of the first row is stored. -/
theorem Bo.put {g : Nat} {vs : List Value} (h : Bo W a mb wb bb c r rb tb f l fr lr (⟨g, vs⟩ :: L) w) (hn : ∀ x, x ∈ L → x.g ≠ g) (k : Nat) (us : List Value) (hk : k + us.length ≤ vs.length) :
    Bo W a mb wb bb c r rb tb f l fr lr (⟨g, vs.take k ++ us ++ vs.drop (k + us.length)⟩ :: L) (w.setCells g k us) := by
  obtain ⟨n0, n1, n2, n3, n4, n5, n6, n7⟩ := h.ne _ (List.mem_cons_self ..)
  have n0' : W.heap.size ≤ g := n0
  have n1' : g ≠ a := n1
  have n2' : g ≠ mb := n2
  have n3' : g ≠ wb := n3
  have n4' : g ≠ bb := n4
  have n5' : g ≠ r := n5
  have n6' : g ≠ rb := n6
  have n7' : g ≠ tb := n7
  have k2 := h.kr.put n0' hn k us hk
  have hs := (below_setCells n0' us k w).size
  refine ⟨h.ar.keep (fun j hj => heap_setCells_ne g us k w j (by omega)) hs, h.rf.keep (fun j hj => heap_setCells_ne g us k w j (by omega)) hs, h.d1, h.d2, h.d3, h.d4, h.lo, k2.bl, fun x hx => k2.al x hx, fun x hx => ?_⟩
  rcases List.mem_cons.1 hx with rfl | hx
  · exact ⟨n0, n1, n2, n3, n4, n5, n6, n7⟩
  · exact h.ne x (List.mem_cons_of_mem _ hx)
theorem Bo.putA {g : Nat} {vs : List Value} (h : Bo W a mb wb bb c r rb tb f l fr lr (⟨g, vs⟩ :: L) w) (hn : ∀ x, x ∈ L → x.g ≠ g) (us : List Value) (hl : us.length = vs.length) :
    Bo W a mb wb bb c r rb tb f l fr lr (⟨g, us⟩ :: L) (w.setCells g 0 us) := by
  have := h.put hn 0 us (by omega)
  rwa [List.take_zero, List.nil_append, Nat.zero_add, List.drop_eq_nil_of_le (by omega), List.append_nil] at this
theorem Bo.putF {g : Nat} {F : List Cp} (h : Bo W a mb wb bb c r rb tb f l fr lr (⟨g, fC F⟩ :: L) w) (hn : ∀ x, x ∈ L → x.g ≠ g) (i : Nat) (d : Cp) (hi : i < F.length) :
    Bo W a mb wb bb c r rb tb f l fr lr (⟨g, fC (F.set i d)⟩ :: L) (w.setCells g (i * 8) d.C) := by
  have := h.put hn (i * 8) d.C (by rw [fC_len, Cp.C_len]; omega)
  rwa [Cp.C_len, fC_set F i d hi] at this
theorem Bo.there (h : Bo W a mb wb bb c r rb tb f l fr lr L w) {g : Nat} {vs : List Value} (hx : (⟨g, vs⟩ : Rw) ∈ L) (o n : Nat) (hn : o + n ≤ vs.length) : w.there g o n := h.kr.there hx o n hn
theorem Bo.range (h : Bo W a mb wb bb c r rb tb f l fr lr L w) {g : Nat} {vs : List Value} (hx : (⟨g, vs⟩ : Rw) ∈ L) : w.rangeAt g 0 vs := h.kr.range hx
theorem Bo.cell (h : Bo W a mb wb bb c r rb tb f l fr lr L w) {g j : Nat} {u : Value} (vs : List Value) (hx : (⟨g, vs⟩ : Rw) ∈ L) (hu : vs[j]? = some u) : w.cell? ⟨g, j, none⟩ = some u := h.kr.cell vs hx hu
theorem Bo.lt (h : Bo W a mb wb bb c r rb tb f l fr lr L w) {x : Rw} (hx : x ∈ L) : x.g < w.heap.size := (h.rs x hx).1
end
/-- A load that is guarded, and wanted. -/
theorem wpList_load_midg {P : Program} {ops : Array Oper} {rest : List Oper} {op : Oper} {a : Act} {w : World} {Q : Exit → Act → World → Prop} (hw : Region.wanted op (yielded ops a.tmps) = true) (ty : TypeId) (x : Operand) (ho : op.op = .load ty x)
    (b o : Nat) (hx : a.eval x = .pointer (some ⟨b, o, none⟩)) (cs : List Value) (d : TypeDesc) (hc : w.rangeAt b o cs)
    (hu : P.underlying ty = some d) (hd : d.isRow = true) (hi : (P.info? ty).map (·.size) = some cs.length)
    (h : wpList P ops Q rest (a.put op.dst (.agg cs.toArray)) w) : wpList P ops Q (op :: rest) a w := by
  rw [wpList, if_pos hw]
  exact .inl (wp_load_mid ty x ho b o hx cs d hc hu hd hi h)
theorem PutsIn.more {w : World} {B B' : Nat} {A : Option Addr} {n : Nat} (h : PutsIn w B A n) (hB : B ≤ B') : PutsIn w B' A n := fun i hi => by
  obtain ⟨bq, off, e, hlt, k⟩ := h i hi
  exact ⟨bq, off, e, by omega, k⟩
end Go.Proofs.YtkmgdfcambdeeaaGreatDoor
