/- Contracts of layer core: there, trap. No statement is proved here.; Words for an instruction by value and in a box. Plain lemmas; no statement is proved here.; The document's Needs (layer core). No statement is proved here.; Words for a loop over a string whose rounds write boxes; the state of a word that is taken apart, or put together, letter by letter. Plain lemmas; no statement is proved here.; Instructions compared; what the program makes of an instruction. No statement is proved here.; Contract of the closure that writes a register (layer core). No statement is proved here. -/
import Derived.BigQuiet
import Derived.Lib.OthersKept
import Derived.Deep.RegionHeld
import Derived.Test.YtkmgdfcambdeeaaGreatDoorPaa
import Derived.Test.YtkmgdfcambdeeaaGreatDoorPau
import Derived.Test.YtkmgdfcambdeeaaGreatDoorPat
import Derived.Test.YtkmgdfcambdeeaaGreatDoorPas
import Derived.Test.YtkmgdfcambdeeaaGreatDoorPak
namespace Go.Proofs.YtkmgdfcambdeeaaGreatDoor
set_option maxRecDepth 100000
open Go.RowKit
set_option linter.unusedVariables false
/-- A way, as a row of cells, as a value. -/
def wyC (c : Cp) (x n pm : Nat) : List Value := [.int .u32 c.cu, .int .u8 c.e, .int .u16 c.b, .int .u16 c.t, .int .u16 c.pm, .int .u16 c.ty, .int .u32 c.rs, .bool c.va, .int .u32 x, .int .u32 n, .int .u16 pm]
def wyV (c : Cp) (x n pm : Nat) : Value := .agg (wyC c x n pm).toArray
section
variable {w : World} {a mb wb bb cc N g : Nat} {f : Nat → Bool} {l : List UInt8}
theorem pthere_any (H : ArAt w a mb wb bb cc N g f l) (c : Cp) (x n pm : Nat) (lx : x < 4294967296) (ln : n < 4294967296) : Calls Tryz.prog 83 #[wyV c x n pm, .pointer (some ⟨a, 0, none⟩)] w fun e w' => e = .returned (.bool (decide (x + n ≤ N))) ∧ Below w.heap.size w w' := by
  have k0 := Lib.hid ((KR.start (W := w)).push (wyC c x n pm) 74)
  have hS := Lib.hid (fun w (H : ArAt w a mb wb bb cc N g f l) => asize_any H)
  have hn := H.hn
  have hi := H.hi
  replace H := Lib.hid H
  change Calls Tryz.prog 83 #[.agg #[.int .u32 c.cu, .int .u8 c.e, .int .u16 c.b, .int .u16 c.t, .int .u16 c.pm, .int .u16 c.ty, .int .u32 c.rs, .bool c.va, .int .u32 x, .int .u32 n, .int .u16 pm], _] w _
  go_enter Tryz.func83, Tryz.ntmps83
  go_upto_region 1 with (fail)
  change Code.wp _ _ _ _ (w.alloc (.cells (wyC c x n pm).toArray 74))
  generalize (w.alloc (.cells (wyC c x n pm).toArray 74)) = w1 at k0 ⊢
  have H1 := Lib.hid (H.out.below k0.out.bl)
  obtain ⟨S, hS0⟩ : ∃ S : World → Prop, S = fun v => KR w [⟨w.heap.size, wyC c x n pm⟩] v := ⟨_, rfl⟩
  have hK : ∀ v, S v → KR w [⟨w.heap.size, wyC c x n pm⟩] v := fun v h => by rw [hS0] at h; exact h
  have hSb : ∀ u v, S u → Below u.heap.size u v → S v := fun u v h k => by rw [hS0] at h ⊢; exact h.below k
  have s0 : S w1 := by rw [hS0]; exact k0.out
  clear hS0
  have cS := Lib.hid (cls_call (S := S) fun v hv => (hS.out v (H.out.below (hK _ hv).bl)).mono fun e w' k => (⟨k.1, hSb _ _ hv k.2⟩ : _ ∧ S w'))
  have p8 : ∀ y : Wd S, y.w.cell? ⟨w.heap.size, 8, none⟩ = some (.int .u32 x) := fun y => (hK _ y.h).cell (wyC c x n pm) (by simp) rfl
  have p9 : ∀ y : Wd S, y.w.cell? ⟨w.heap.size, 9, none⟩ = some (.int .u32 n) := fun y => (hK _ y.h).cell (wyC c x n pm) (by simp) rfl
  have HS := Lib.hid hSb
  have HK := Lib.hid hK
  clear hK hSb hS H1 k0
  refine region_cls S (by kernel_rfl) (by kernel_rfl) (HS.out _ _ s0 (Below.refl _ _).drew) ?_
  repeat (first
    | go_big_quiet_skip
    | (go_big_quiet_want
       go_big_quiet_op
       first
       | go_big_quiet_on
       | (apply Exists.intro
          refine ⟨fun y => ?_, ?_⟩
          · first | exact rfl | with_reducible exact cS.out y | exact cS.out y
          go_big_quiet_on)))
  refine wpQuiet_nil ?_
  intro y
  have k1 := Lib.hid (HK.out _ y.h)
  generalize y.w = w2 at k1 ⊢
  clear y p8 p9 cS HS HK s0
  go_wp2_with fail
  go_ret
  exact ⟨ret_bool (by show decide ((x : Int) + n ≤ 16 * g) = _; rw [decide_eq_decide]; omega), k1.out.bl⟩
set_option maxHeartbeats 1000000 in
theorem ptrap_any (H : ArAt w a mb wb bb cc N g f l) (c : Cp) (hc : c.fit) (x n pm : Nat) (lx : x < 4294967296) (hn : 0 < n ∧ n ≤ 16) (lp : pm < 65536) : Calls Tryz.prog 36 #[wyV c x n pm, .pointer (some ⟨a, 0, none⟩)] w fun e w' => e = .returned (.int .i64 (wayT c x n pm N)) ∧ Below w.heap.size w w' := by
  have k0 := Lib.hid ((KR.start (W := w)).push (wyC c x n pm) 74)
  have hT := Lib.hid (fun w (H : ArAt w a mb wb bb cc N g f l) => pthere_any H c x n pm lx (by omega))
  have hR := Lib.hid (fun w => pref_any c hc pm lp w)
  have hH := Lib.hid (fun w => pHolds_cp c hc x n lx (by omega) w)
  have hz : wayT c x n pm N = if refT c pm ≠ 0 then refT c pm else if hoP c.lo c.hi x n = false ∨ ¬ x + n ≤ N then 4 else if x % n ≠ 0 then 5 else 0 := by
    unfold wayT refT
    by_cases h1 : c.va = false
    · rw [if_pos h1, if_pos h1]; rfl
    rw [if_neg h1, if_neg h1]
    by_cases h2 : c.ty ≠ 0
    · rw [if_pos h2, if_pos h2]; rfl
    rw [if_neg h2, if_neg h2]
    by_cases h3 : c.pm &&& pm ≠ pm
    · rw [if_pos h3, if_pos h3]; rfl
    rw [if_neg h3, if_neg h3, if_neg (show ¬ (0 : Int) ≠ 0 by simp)]
    simp only [Nat.not_le]
  generalize wayT c x n pm N = z at hz ⊢
  generalize refT c pm = rt at *
  generalize hoP c.lo c.hi x n = ho at *
  replace H := Lib.hid H
  replace hz := Lib.hid hz
  clear hc
  change Calls Tryz.prog 36 #[.agg #[.int .u32 c.cu, .int .u8 c.e, .int .u16 c.b, .int .u16 c.t, .int .u16 c.pm, .int .u16 c.ty, .int .u32 c.rs, .bool c.va, .int .u32 x, .int .u32 n, .int .u16 pm], _] w _
  go_enter Tryz.func36, Tryz.ntmps36
  go_upto_region 1 with (fail)
  change Code.wp _ _ _ _ (w.alloc (.cells (wyC c x n pm).toArray 74))
  generalize (w.alloc (.cells (wyC c x n pm).toArray 74)) = w1 at k0 ⊢
  obtain ⟨p0, p1, p2, p3, p4, p5, p6, p7⟩ : CapAt w1 w.heap.size c.cu c.e c.b c.t c.pm c.ty c.rs c.va := ⟨k0.out.cell (wyC c x n pm) (by simp) rfl, k0.out.cell (wyC c x n pm) (by simp) rfl, k0.out.cell (wyC c x n pm) (by simp) rfl, k0.out.cell (wyC c x n pm) (by simp) rfl, k0.out.cell (wyC c x n pm) (by simp) rfl, k0.out.cell (wyC c x n pm) (by simp) rfl, k0.out.cell (wyC c x n pm) (by simp) rfl, k0.out.cell (wyC c x n pm) (by simp) rfl⟩
  have p10 : w1.cell? ⟨w.heap.size, 10, none⟩ = some (.int .u16 pm) := k0.out.cell (wyC c x n pm) (by simp) rfl
  go_wp2_with fail
  refine (hR.out _).mono ?_
  rintro ee w2 ⟨rfl, h2⟩
  have k2 := Lib.hid (k0.out.below h2)
  clear h2 k0 hR p0 p1 p2 p3 p4 p5 p6 p7 p10
  by_cases hr : rt = 0
  case neg =>
    have hr' : (rt == 0) = false := by simpa using hr
    have hz1 := Lib.hid (show z = rt from by rw [hz.out, if_pos hr])
    clear hr
    go_wp2_with fail
    go_ret
    exact ⟨ret_int hz1.out.symm, k2.out.bl⟩
  subst hr
  have H2 := Lib.hid (H.out.below k2.out.bl)
  obtain ⟨p0, p1, p2, p3, p4, p5, p6, p7⟩ : CapAt w2 w.heap.size c.cu c.e c.b c.t c.pm c.ty c.rs c.va := ⟨k2.out.cell (wyC c x n pm) (by simp) rfl, k2.out.cell (wyC c x n pm) (by simp) rfl, k2.out.cell (wyC c x n pm) (by simp) rfl, k2.out.cell (wyC c x n pm) (by simp) rfl, k2.out.cell (wyC c x n pm) (by simp) rfl, k2.out.cell (wyC c x n pm) (by simp) rfl, k2.out.cell (wyC c x n pm) (by simp) rfl, k2.out.cell (wyC c x n pm) (by simp) rfl⟩
  have p8 : w2.cell? ⟨w.heap.size, 8, none⟩ = some (.int .u32 x) := k2.out.cell (wyC c x n pm) (by simp) rfl
  have p9 : w2.cell? ⟨w.heap.size, 9, none⟩ = some (.int .u32 n) := k2.out.cell (wyC c x n pm) (by simp) rfl
  have p10 : w2.cell? ⟨w.heap.size, 10, none⟩ = some (.int .u16 pm) := k2.out.cell (wyC c x n pm) (by simp) rfl
  go_wp2_with fail
  refine (hH.out _).mono ?_
  rintro ee w3 ⟨rfl, h3⟩
  have k3 := Lib.hid (k2.out.below h3)
  clear h3 k2 H2 p0 p1 p2 p3 p4 p5 p6 p7 p8 p9 p10
  cases ho
  case false =>
    have hz1 := Lib.hid (show z = 4 from by rw [hz.out]; simp)
    go_wp2_with fail
    go_ret
    exact ⟨ret_int hz1.out.symm, k3.out.bl⟩
  have H3 := Lib.hid (H.out.below k3.out.bl)
  obtain ⟨p0, p1, p2, p3, p4, p5, p6, p7⟩ : CapAt w3 w.heap.size c.cu c.e c.b c.t c.pm c.ty c.rs c.va := ⟨k3.out.cell (wyC c x n pm) (by simp) rfl, k3.out.cell (wyC c x n pm) (by simp) rfl, k3.out.cell (wyC c x n pm) (by simp) rfl, k3.out.cell (wyC c x n pm) (by simp) rfl, k3.out.cell (wyC c x n pm) (by simp) rfl, k3.out.cell (wyC c x n pm) (by simp) rfl, k3.out.cell (wyC c x n pm) (by simp) rfl, k3.out.cell (wyC c x n pm) (by simp) rfl⟩
  have p8 : w3.cell? ⟨w.heap.size, 8, none⟩ = some (.int .u32 x) := k3.out.cell (wyC c x n pm) (by simp) rfl
  have p9 : w3.cell? ⟨w.heap.size, 9, none⟩ = some (.int .u32 n) := k3.out.cell (wyC c x n pm) (by simp) rfl
  have p10 : w3.cell? ⟨w.heap.size, 10, none⟩ = some (.int .u16 pm) := k3.out.cell (wyC c x n pm) (by simp) rfl
  go_wp2_with fail
  refine (hT.out _ H3.out).mono ?_
  rintro ee w4 ⟨rfl, h4⟩
  have k4 := Lib.hid (k3.out.below h4)
  clear h4 k3 H3 hH hT p0 p1 p2 p3 p4 p5 p6 p7 p8 p9 p10
  by_cases hN : x + n ≤ N
  case neg =>
    have hN' : decide (x + n ≤ N) = false := decide_eq_false hN
    have hz1 := Lib.hid (show z = 4 from by rw [hz.out]; simp [hN])
    clear hN
    go_wp2_with fail
    go_ret
    exact ⟨ret_int hz1.out.symm, k4.out.bl⟩
  have hN' : decide (x + n ≤ N) = true := decide_eq_true hN
  have p8 : w4.cell? ⟨w.heap.size, 8, none⟩ = some (.int .u32 x) := k4.out.cell (wyC c x n pm) (by simp) rfl
  have p9 : w4.cell? ⟨w.heap.size, 9, none⟩ = some (.int .u32 n) := k4.out.cell (wyC c x n pm) (by simp) rfl
  have hl0 := hn.1
  have hl1 := hn.2
  have hm := Lib.hid (Int.natCast_emod x n)
  have hNh := Lib.hid hN
  clear hN
  go_wp2_with fail
  · rename_i h
    have h0 : x % n ≠ 0 := by
      intro h0
      rw [← hm.out, h0] at h
      simp at h
    have hz1 : z = 5 := by rw [hz.out]; simp [hNh.out, h0]
    go_ret
    exact ⟨ret_int hz1.symm, k4.out.bl⟩
  · rename_i h
    have h0 : x % n = 0 := by
      rw [← hm.out] at h
      simp at h
      omega
    have hz1 : z = 0 := by rw [hz.out]; simp [hNh.out, h0]
    go_ret
    exact ⟨ret_int hz1.symm, k4.out.bl⟩
end
end Go.Proofs.YtkmgdfcambdeeaaGreatDoor
namespace Go.Proofs.YtkmgdfcambdeeaaGreatDoor
open Go.RowKit
set_option linter.unusedVariables false

/-- An instruction by value, and in a row of cells. -/
def iv (i : Ins) : Value := .agg #[.int .i64 i.op, .int .i64 i.a, .int .i64 i.b, .int .i64 i.c, .int .i64 i.m]
def ir (op a b c m : Int) : List Value := [.int .i64 op, .int .i64 a, .int .i64 b, .int .i64 c, .int .i64 m]
theorem KR.set5 {W w : World} {L : List Rw} {g : Nat} {v0 v1 v2 v3 v4 : Value} (h : KR W (⟨g, [v0, v1, v2, v3, v4]⟩ :: L) w) (hg : W.heap.size ≤ g) (hn : ∀ x, x ∈ L → x.g ≠ g) (u0 u1 u2 u3 u4 : Value) :
    KR W (⟨g, [u0, u1, u2, u3, u4]⟩ :: L) (((((w.setCell ⟨g, 0, none⟩ u0).setCell ⟨g, 1, none⟩ u1).setCell ⟨g, 2, none⟩ u2).setCell ⟨g, 3, none⟩ u3).setCell ⟨g, 4, none⟩ u4) :=
  ((((h.set hg hn 0 u0 (by simp)).set hg hn 1 u1 (by simp)).set hg hn 2 u2 (by simp)).set hg hn 3 u3 (by simp)).set hg hn 4 u4 (by simp)
theorem KR.cells5 {W w : World} {L : List Rw} {g : Nat} {v0 v1 v2 v3 v4 : Value} (h : KR W L w) (hx : (⟨g, [v0, v1, v2, v3, v4]⟩ : Rw) ∈ L) :
    w.cell? ⟨g, 0, none⟩ = some v0 ∧ w.cell? ⟨g, 1, none⟩ = some v1 ∧ w.cell? ⟨g, 2, none⟩ = some v2 ∧ w.cell? ⟨g, 3, none⟩ = some v3 ∧ w.cell? ⟨g, 4, none⟩ = some v4 ∧ ∀ j, w.frozen? ⟨g, j, none⟩ = false :=
  ⟨h.cell _ hx rfl, h.cell _ hx rfl, h.cell _ hx rfl, h.cell _ hx rfl, h.cell _ hx rfl, h.soft hx⟩
def DecPost (W : World) (x : Int) (e : Ending) (w' : World) : Prop := e = .returned (iv (decW x)) ∧ Below W.heap.size W w'
theorem DecPost.mk {W w' : World} {x : Int} {i : Ins} {e : Ending} (h : i = decW x) (he : e = .returned (iv i)) (k : Below W.heap.size W w') : DecPost W x e w' := ⟨by rw [he, h], k⟩
/-- What a call leaves that tells a word and a number. -/
def EncPost (W : World) (i : Ins) (e : Ending) (w' : World) : Prop := e = .returned (.tuple #[.int .u32 (if mayB i then encW i else 0), .int .i64 (if mayB i then 0 else 2)]) ∧ Below W.heap.size W w'
theorem EncPost.yes {W w' : World} {i : Ins} {x : Int} {e : Ending} (h : mayB i = true) (hx : x = encW i) (he : e = .returned (.tuple #[.int .u32 x, .int .i64 0])) (k : Below W.heap.size W w') : EncPost W i e w' := by
  subst he hx
  unfold EncPost
  rw [h]
  exact ⟨rfl, k⟩
theorem EncPost.no {W w' : World} {i : Ins} {e : Ending} (h : mayB i = false) (he : e = .returned (.tuple #[.int .u32 0, .int .i64 2])) (k : Below W.heap.size W w') : EncPost W i e w' := by
  subst he
  unfold EncPost
  rw [h]
  exact ⟨rfl, k⟩
end Go.Proofs.YtkmgdfcambdeeaaGreatDoor
namespace Go.Proofs.YtkmgdfcambdeeaaGreatDoor
set_option maxRecDepth 100000
open Go.RowKit
set_option linter.unusedVariables false
theorem quiet_load_mid {P : Program} {C : World → Prop} {o : Oper} {a : Act} {K : Act → Prop} (ty : TypeId) (x : Operand) (ho : o.op = .load ty x) (b k : Nat) (hx : a.eval x = .pointer (some ⟨b, k, none⟩)) (cs : List Value) (d : TypeDesc)
    (hc : ∀ w, C w → w.rangeAt b k cs) (hu : P.underlying ty = some d) (hd : d.isRow = true) (hi : (P.info? ty).map (·.size) = some cs.length) (hk : K (a.put o.dst (.agg cs.toArray))) : o.quiet P a C K :=
  ⟨_, fun w hw => by
    unfold Oper.quietAt execOp
    simp only [ho, hx, Instr.loadAt, Instr.sureAddr, Sem.run_bind, Sem.run_pure, Result.andThen_ok, run_loadVar_mid w b k ty cs d (hc w hw) hu hd hi]
    exact ⟨rfl, rfl⟩, hk⟩
theorem start_fi (F : List Cp) (op A B C m : Int) (W : World) : KR W [⟨W.heap.size + 1, ir op A B C m⟩, ⟨W.heap.size, fC F⟩] ((W.alloc (.cells (fC F).toArray 28)).alloc (.cells #[.int .i64 op, .int .i64 A, .int .i64 B, .int .i64 C, .int .i64 m] 30)) := by
  have := ((KR.start (W := W)).push (fC F) 28).push (ir op A B C m) 30
  rw [show (W.alloc (Obj.cells (fC F).toArray 28)).heap.size = W.heap.size + 1 from by simp] at this
  exact this
/-- The permissions that an operation needs. -/
def needN (F : List Cp) (op : Int) (A : Nat) : Nat := if op = 20 ∨ op = 21 ∨ op = 22 then 2 else if op = 24 then (if (reg F A).va then 18 else 2) else 1
theorem needN_lt (F : List Cp) (op : Int) (A : Nat) : needN F op A < 65536 := by
  unfold needN
  by_cases h1 : op = 20 ∨ op = 21 ∨ op = 22
  · rw [if_pos h1]; decide
  · rw [if_neg h1]
    by_cases h2 : op = 24
    · rw [if_pos h2]; cases (reg F A).va <;> decide
    · rw [if_neg h2]; decide
theorem start_fib (F : List Cp) (op A B C m : Int) (W : World) : KR W [⟨W.heap.size + 2, zC.C⟩, ⟨W.heap.size + 1, ir op A B C m⟩, ⟨W.heap.size, fC F⟩] (((W.alloc (.cells (fC F).toArray 28)).alloc (.cells #[.int .i64 op, .int .i64 A, .int .i64 B, .int .i64 C, .int .i64 m] 30)).alloc (.cells #[.int .u32 0, .int .u8 0, .int .u16 0, .int .u16 0, .int .u16 0, .int .u16 0, .int .u32 0, .bool false] 25)) := by
  have := (((KR.start (W := W)).push (fC F) 28).push (ir op A B C m) 30).push zC.C 25
  rw [show ((W.alloc (Obj.cells (fC F).toArray 28)).alloc (Obj.cells (ir op A B C m).toArray 30)).heap.size = W.heap.size + 2 from by simp, show (W.alloc (Obj.cells (fC F).toArray 28)).heap.size = W.heap.size + 1 from by simp] at this
  exact this
end Go.Proofs.YtkmgdfcambdeeaaGreatDoor
namespace Go.Proofs.YtkmgdfcambdeeaaGreatDoor
open Go.RowKit
set_option linter.unusedVariables false

/-- The rows L lie; the iterator in block 'it' stands at p. -/
structure LP (W : World) (L : List Rw) (it : Nat) (s : ByteArray) (p : Nat) (w : World) : Prop where
  k : KR W L w
  i : w.heap[it]? = some (.stringIter s p)
  hi : W.heap.size ≤ it
  hn : ∀ x, x ∈ L → x.g ≠ it
section
variable {W w w' : World} {L : List Rw} {it p : Nat} {s : ByteArray}
theorem LP.lt (h : LP W L it s p w) : it < w.heap.size := (Array.getElem?_eq_some_iff.1 h.i).1
theorem LP.start (h : KR W L w) (s : ByteArray) : LP W L w.heap.size s 0 (w.iter s 0) :=
  ⟨h.alloc _, World.iter_heap w s 0, h.bl.size, fun x hx => Nat.ne_of_lt (h.al x hx).1⟩
theorem LP.below (h : LP W L it s p w) (k : Below w.heap.size w w') : LP W L it s p w' := ⟨h.k.below k, (k.block it h.lt).trans h.i, h.hi, h.hn⟩
theorem cell_iterAt (w : World) (it : Nat) (s : ByteArray) (p g j : Nat) (h : g ≠ it) : (w.iterAt it s p).cell? ⟨g, j, none⟩ = w.cell? ⟨g, j, none⟩ := by
  simp [World.cell?, Lib.iterAt_other _ _ _ _ _ h]
theorem frozen_iterAt (w : World) (it : Nat) (s : ByteArray) (p g j : Nat) (h : g ≠ it) : (w.iterAt it s p).frozen? ⟨g, j, none⟩ = w.frozen? ⟨g, j, none⟩ := by
  simp [World.frozen?, Lib.iterAt_other _ _ _ _ _ h]
theorem LP.next (h : LP W L it s p w) (p' : Nat) : LP W L it s p' (w.iterAt it s p') :=
  ⟨⟨Lib.below_iterAt h.k.bl h.hi s p', fun x hx => ⟨by rw [Lib.iterAt_size]; exact (h.k.al x hx).1, fun j => (frozen_iterAt w it s p' x.g j (h.hn x hx)).trans ((h.k.al x hx).2.1 j), fun j u hu => (cell_iterAt w it s p' x.g j (h.hn x hx)).trans ((h.k.al x hx).2.2 j u hu)⟩⟩,
    Lib.iterAt_heap w it s p p' h.i, h.hi, h.hn⟩
theorem LP.swap {a b : Rw} (h : LP W (a :: b :: L) it s p w) : LP W (b :: a :: L) it s p w := ⟨h.k.swap, h.i, h.hi, fun x hx => h.hn x (by
  rcases List.mem_cons.1 hx with rfl | hx
  · exact List.mem_cons_of_mem _ (List.mem_cons_self ..)
  · rcases List.mem_cons.1 hx with rfl | hx
    · exact List.mem_cons_self ..
    · exact List.mem_cons_of_mem _ (List.mem_cons_of_mem _ hx))⟩
theorem LP.set {g : Nat} {vs : List Value} (h : LP W (⟨g, vs⟩ :: L) it s p w) (hg : W.heap.size ≤ g) (hd : ∀ x, x ∈ L → x.g ≠ g) (j : Nat) (u : Value) (hj : j < vs.length) : LP W (⟨g, vs.set j u⟩ :: L) it s p (w.setCell ⟨g, j, none⟩ u) :=
  ⟨h.k.set hg hd j u hj, by rw [Below.heap_setCell _ _ _ _ (fun e => h.hn _ (List.mem_cons_self ..) e.symm)]; exact h.i, h.hi, fun x hx => by
    rcases List.mem_cons.1 hx with rfl | hx
    · exact h.hn (⟨g, vs⟩ : Rw) (List.mem_cons_self ..)
    · exact h.hn x (List.mem_cons_of_mem _ hx)⟩
theorem LP.sto {g : Nat} {x u : Value} (h : LP W (⟨g, [x]⟩ :: L) it s p w) (hg : W.heap.size ≤ g) (hd : ∀ x, x ∈ L → x.g ≠ g) (k : Sto w g u w') : LP W (⟨g, [u]⟩ :: L) it s p w' :=
  let ⟨w1, k1, k2⟩ := k
  ((h.below k1).set hg hd 0 u (by simp)).below (by rw [World.size_setCell]; exact k2)
theorem LP.pos (h : LP W L it s p w) : w.iterPos it = p := by simp [World.iterPos, h.i]
end

theorem next_at {P : Program} {w : World} {it : Nat} {l : List UInt8} {p : Nat} (ch : UInt8) (n : Int) (hi : w.heap[it]? = some (.stringIter ⟨l.toArray⟩ p)) (hp : p < l.length) (hc : ch = l[p]) (hn : n = (ch.toNat : Int)) (hs : ch.toNat < 128) :
    ∀ ty, (Instr.next (.pointer (some ⟨it, 0, none⟩)) true ty).run P w = .ok (.tuple #[.bool true, .int .i64 p, .int .i32 n]) (w.iterAt it ⟨l.toArray⟩ (p + 1)) := fun ty => by
  have hz : p < (⟨l.toArray⟩ : ByteArray).size := by simpa [ByteArray.size] using hp
  have e : (⟨l.toArray⟩ : ByteArray)[p]'hz = l[p] := by
    show l.toArray[p]'(by simpa using hp) = l[p]
    simp
  have := Lib.run_next_ascii_at (P := P) w it ⟨l.toArray⟩ p ty hi hz (by rw [e, ← hc]; exact hs)
  rw [e, ← hc, ← hn] at this
  exact this
theorem next_end {P : Program} {w : World} {it : Nat} {l : List UInt8} {p : Nat} (hi : w.heap[it]? = some (.stringIter ⟨l.toArray⟩ p)) (hp : ¬ p < l.length) :
    ∀ ty, (Instr.next (.pointer (some ⟨it, 0, none⟩)) true ty).run P w = .ok (.tuple #[.bool false]) w := fun ty =>
  Lib.run_next_end_at (P := P) w it ⟨l.toArray⟩ p ty hi (by simpa [ByteArray.size] using hp)
theorem form_letters (op : Int) : ∀ x, x ∈ formAt op → x = 97 ∨ x = 98 ∨ x = 99 ∨ x = 105 ∨ x = 106 := by
  rcases form_cases op with h | h | h | h | h | h | h <;> rw [h] <;> decide

/-- A word that is taken apart: what has been found, and what is left. -/
structure DSt where
  a : Int
  b : Int
  c : Int
  m : Int
  r : Int
def tkS (t : DSt) (x : UInt8) : DSt :=
  if x = 97 then { t with a := t.r / 1048576 % 16, r := t.r - t.r / 1048576 % 16 * 1048576 }
  else if x = 98 then { t with b := t.r / 65536 % 16, r := t.r - t.r / 65536 % 16 * 65536 }
  else if x = 99 then { t with c := t.r / 4096 % 16, r := t.r - t.r / 4096 % 16 * 4096 }
  else if x = 105 then { t with m := sx 4096 2048 (t.r % 4096), r := t.r - t.r % 4096 }
  else { t with m := sx 1048576 524288 (t.r % 1048576), r := t.r - t.r % 1048576 }
theorem tkS_low {t : DSt} (x : UInt8) (h : 0 ≤ t.r ∧ t.r < 4294967296) : 0 ≤ (tkS t x).r ∧ (tkS t x).r < 4294967296 := by
  unfold tkS
  repeat' split
  all_goals (dsimp only; omega)
theorem tk_low (l : List UInt8) : ∀ {t : DSt}, 0 ≤ t.r ∧ t.r < 4294967296 → 0 ≤ (l.foldl tkS t).r ∧ (l.foldl tkS t).r < 4294967296 := by
  induction l with
  | nil => exact fun h => h
  | cons x l ih => exact fun h => ih (tkS_low x h)
theorem fold_snoc {α β : Type} (f : β → α → β) (z : β) (l : List α) (p : Nat) (h : p < l.length) : (l.take (p + 1)).foldl f z = f ((l.take p).foldl f z) l[p] := by
  rw [List.take_succ_eq_append_getElem h, List.foldl_append]; rfl
/-- What the program makes of a word. -/
def decP (x : Int) : Ins :=
  let t := (formAt (x / 16777216 % 256)).foldl tkS ⟨0, 0, 0, 0, x - x / 16777216 % 256 * 16777216⟩
  if (1 ≤ x / 16777216 % 256 ∧ x / 16777216 % 256 ≤ 53) ∧ t.r = 0 then ⟨x / 16777216 % 256, t.a, t.b, t.c, t.m⟩ else Ins.zero
theorem dec_yes' {i : Ins} {x : Int} (h : mayB i = true) (e : encW i = x) : decW x = i := by rw [← e, dec_enc h]
theorem rd_op (y : Int) : (rdW y).op = y / 16777216 := by unfold rdW; split <;> rfl
theorem enc_op {i : Ins} (h : mayB i = true) : encW i / 16777216 = i.op := by rw [← rd_op, rd_enc h]
set_option maxHeartbeats 4000000 in
theorem decP_is (x : Int) (h0 : 0 ≤ x) (h1 : x < 4294967296) : decP x = decW x := by
  have hop : x / 16777216 % 256 = x / 16777216 := by omega
  unfold decP
  rw [hop]
  dsimp only
  by_cases hin : 1 ≤ x / 16777216 ∧ x / 16777216 ≤ 53
  · by_cases hr : ((formAt (x / 16777216)).foldl tkS ⟨0, 0, 0, 0, x - x / 16777216 * 16777216⟩).r = 0
    · rw [if_pos ⟨hin, hr⟩]
      refine (dec_yes' ?_ ?_).symm
      · refine imay_of ⟨hin.1, hin.2, ?_⟩
        dsimp only
        rcases form_cases (x / 16777216) with e | e | e | e | e | e | e <;> rw [e] at hr ⊢ <;> simp [tkS, fldB, immB, sx] at hr ⊢ <;> (try split) <;> omega
      · unfold encW immW
        dsimp only
        rcases form_cases (x / 16777216) with e | e | e | e | e | e | e <;> rw [e] at hr ⊢ <;> simp [tkS, sx] at hr ⊢ <;> (repeat' split) <;> omega
    · rw [if_neg (fun k => hr k.2)]
      rcases decW_zero_or x with h | ⟨hm, he⟩
      · exact h.symm
      · exfalso
        apply hr
        have hod := enc_op hm
        rw [he] at hod
        generalize decW x = d at *
        obtain ⟨op, a, b, c, m⟩ := d
        obtain ⟨k1, k2, ha, hb, hc, hmm⟩ := may_parts hm
        have a1 := fld_in ha; have b1 := fld_in hb; have c1 := fld_in hc; have m1 := imm_in hmm
        dsimp only at hod a1 b1 c1 m1
        rw [hod]
        unfold encW immW at he
        dsimp only at he
        clear hr hm ha hb hc hmm
        rcases form_cases op with e | e | e | e | e | e | e <;> rw [e] at a1 b1 c1 m1 he ⊢ <;> simp [tkS] at a1 b1 c1 m1 he ⊢ <;> (split at he <;> omega)
  · rw [if_neg (fun k => hin k.1)]
    rcases decW_zero_or x with h | ⟨hm, he⟩
    · exact h.symm
    · exfalso
      have hod := enc_op hm
      rw [he] at hod
      obtain ⟨k1, k2, -⟩ := may_parts hm
      omega
end Go.Proofs.YtkmgdfcambdeeaaGreatDoor
namespace Go.Proofs.YtkmgdfcambdeeaaGreatDoor
open Go.RowKit
set_option linter.unusedVariables false

theorem ins_eq' (d : Nat) (op a b c m op' a' b' c' m' : Int) (w : World) :
    (Op.equalIn (d + 1 + 1) 30 (.agg #[.int .i64 op, .int .i64 a, .int .i64 b, .int .i64 c, .int .i64 m]) (.agg #[.int .i64 op', .int .i64 a', .int .i64 b', .int .i64 c', .int .i64 m'])).run Tryz.prog w = .ok ((op == op') && ((a == a') && ((b == b') && ((c == c') && ((m == m') && true))))) w := by
  rw [run_equalIn_struct w (d + 1) 30 _ _ (by kernel_rfl) (by kernel_rfl)]
  have hf : (Tryz.prog.fieldsOf 30).toList.map (fun f => (f.name, f.type, f.offset)) = [("Op", 3, 0), ("A", 3, 1), ("B", 3, 2), ("C", 3, 3), ("Imm", 3, 4)] := by kernel_rfl
  have i64 : ∀ (x y : Int) w, (Op.equalIn (d + 1) 3 (.int .i64 x) (.int .i64 y)).run Tryz.prog w = .ok (x == y) w := fun x y w => run_equalIn_int w d 3 .i64 .i64 x y (by kernel_rfl)
  generalize (Tryz.prog.fieldsOf 30).toList = fs at *
  obtain ⟨f0, fs, rfl, hf0, hf⟩ := List.map_eq_cons_iff.1 hf
  obtain ⟨f1, fs, rfl, hf1, hf⟩ := List.map_eq_cons_iff.1 hf
  obtain ⟨f2, fs, rfl, hf2, hf⟩ := List.map_eq_cons_iff.1 hf
  obtain ⟨f3, fs, rfl, hf3, hf⟩ := List.map_eq_cons_iff.1 hf
  obtain ⟨f4, fs, rfl, hf4, hf⟩ := List.map_eq_cons_iff.1 hf
  obtain rfl := List.map_eq_nil_iff.1 hf
  simp only [Prod.mk.injEq] at hf0 hf1 hf2 hf3 hf4
  refine eqF_step hf0 (by decide) (by kernel_rfl) (by kernel_rfl) (i64 _ _ _) ?_
  refine eqF_step hf1 (by decide) (by kernel_rfl) (by kernel_rfl) (i64 _ _ _) ?_
  refine eqF_step hf2 (by decide) (by kernel_rfl) (by kernel_rfl) (i64 _ _ _) ?_
  refine eqF_step hf3 (by decide) (by kernel_rfl) (by kernel_rfl) (i64 _ _ _) ?_
  exact eqF_step hf4 (by decide) (by kernel_rfl) (by kernel_rfl) (i64 _ _ _) eqF_nil
/-- Two instructions are compared. -/
theorem ins_eq (i j : Ins) (w : World) : (Op.equalIn 10000 30 (iv i) (iv j)).run Tryz.prog w = .ok (decide (i = j)) w := by
  obtain ⟨op, a, b, c, m⟩ := i
  obtain ⟨op', a', b', c', m'⟩ := j
  have := ins_eq' 9998 op a b c m op' a' b' c' m' w
  rw [show decide ((⟨op, a, b, c, m⟩ : Ins) = ⟨op', a', b', c', m'⟩) = ((op == op') && ((a == a') && ((b == b') && ((c == c') && ((m == m') && true))))) from by
    rw [Bool.eq_iff_iff]; simp [Ins.mk.injEq]]
  exact this

/-- A word that is put together. -/
def ptS (i : Ins) (w : Int) (x : UInt8) : Int :=
  if x = 97 then bits .or .u32 w (i.a % 16 * 1048576)
  else if x = 98 then bits .or .u32 w (i.b % 16 * 65536)
  else if x = 99 then bits .or .u32 w (i.c % 16 * 4096)
  else if x = 105 then bits .or .u32 w (i.m % 4096)
  else bits .or .u32 w (i.m % 1048576)
def encP (i : Ins) : Int := (formAt i.op).foldl (ptS i) (bits .or .u32 0 (i.op % 256 * 16777216))
theorem orJ (k : Nat) (x y : Int) (hx : x % 2 ^ k = 0) (h0 : 0 ≤ x) (h1 : x < 4294967296) (h2 : 0 ≤ y) (h3 : y < 2 ^ k) (h4 : y < 4294967296) : bits .or .u32 x y = x + y :=
  bits_join .u32 32 (by decide) wraps_u32b k x y h0 hx h1 h2 h3 h4
theorem or0 (y : Int) (h2 : 0 ≤ y) (h3 : y < 4294967296) : bits .or .u32 0 y = y := by
  have := orJ 32 0 y (by decide) (by decide) (by decide) h2 (by simpa using h3) h3
  simpa using this
theorem or24 (x y : Int) (hx : x % 16777216 = 0) (h0 : 0 ≤ x) (h1 : x < 4294967296) (h2 : 0 ≤ y) (h3 : y < 16777216) : bits .or .u32 x y = x + y := orJ 24 x y hx h0 h1 h2 h3 (by omega)
theorem or20 (x y : Int) (hx : x % 1048576 = 0) (h0 : 0 ≤ x) (h1 : x < 4294967296) (h2 : 0 ≤ y) (h3 : y < 1048576) : bits .or .u32 x y = x + y := orJ 20 x y hx h0 h1 h2 h3 (by omega)
theorem or16 (x y : Int) (hx : x % 65536 = 0) (h0 : 0 ≤ x) (h1 : x < 4294967296) (h2 : 0 ≤ y) (h3 : y < 65536) : bits .or .u32 x y = x + y := orJ 16 x y hx h0 h1 h2 h3 (by omega)
set_option maxHeartbeats 4000000 in
theorem encP_val (i : Ins) : 0 ≤ encP i ∧ encP i < 4294967296 ∧ (mayB i = true → encP i = encW i) := by
  have low : ∀ {x y : Int}, 0 ≤ bits .or .u32 x y ∧ bits .or .u32 x y < 4294967296 := fun {x y} => by
    show 0 ≤ IntKind.u32.wrap _ ∧ IntKind.u32.wrap _ < 4294967296
    rw [IntKind.wrap_u32]
    omega
  refine ⟨?_, ?_, fun h => ?_⟩
  · unfold encP
    rcases form_cases i.op with e | e | e | e | e | e | e <;> rw [e] <;> simp only [List.foldl, ptS] <;> (try simp) <;> exact low.1
  · unfold encP
    rcases form_cases i.op with e | e | e | e | e | e | e <;> rw [e] <;> simp only [List.foldl, ptS] <;> (try simp) <;> exact low.2
  · obtain ⟨h1, h2, ha, hb, hc, hm⟩ := may_parts h
    have a1 := fld_in ha; have b1 := fld_in hb; have c1 := fld_in hc; have m1 := imm_in hm
    unfold encP encW immW
    obtain ⟨op, a, b, c, m⟩ := i
    dsimp only at *
    rw [or0 _ (by omega) (by omega)]
    rcases form_cases op with e | e | e | e | e | e | e <;> rw [e] at a1 b1 c1 m1 ⊢ <;> simp only [List.foldl, ptS] <;> simp at a1 b1 c1 m1 ⊢
    · split <;> omega
    · rw [or24 (op % 256 * 16777216) (a % 16 * 1048576) (by omega) (by omega) (by omega) (by omega) (by omega), or20 _ _ (by omega) (by omega) (by omega) (by omega) (by omega)]
      split <;> omega
    · rw [or24 (op % 256 * 16777216) (a % 16 * 1048576) (by omega) (by omega) (by omega) (by omega) (by omega), or20 _ _ (by omega) (by omega) (by omega) (by omega) (by omega)]
      split <;> omega
    · rw [or24 (op % 256 * 16777216) (a % 16 * 1048576) (by omega) (by omega) (by omega) (by omega) (by omega), or20 _ (b % 16 * 65536) (by omega) (by omega) (by omega) (by omega) (by omega), or16 _ _ (by omega) (by omega) (by omega) (by omega) (by omega)]
      split <;> omega
    · rw [or24 (op % 256 * 16777216) (a % 16 * 1048576) (by omega) (by omega) (by omega) (by omega) (by omega), or20 _ (b % 16 * 65536) (by omega) (by omega) (by omega) (by omega) (by omega), or16 _ _ (by omega) (by omega) (by omega) (by omega) (by omega)]
      split <;> omega
    · rw [or24 (op % 256 * 16777216) (a % 16 * 1048576) (by omega) (by omega) (by omega) (by omega) (by omega), or20 _ _ (by omega) (by omega) (by omega) (by omega) (by omega)]
      split <;> omega
    · rw [or24 _ _ (by omega) (by omega) (by omega) (by omega) (by omega)]
      split <;> omega
/-- The program's test: its word read again is the instruction. -/
theorem enc_test {i : Ins} (h0 : i.op ≠ 0) : decide (decW (encP i) = i) = mayB i := by
  rw [Bool.eq_iff_iff, decide_eq_true_iff]
  constructor
  · intro h
    rcases decW_zero_or (encP i) with k | k
    · rw [k] at h; rw [← h] at h0; exact absurd rfl h0
    · rw [← h]; exact k.1
  · intro h
    rw [(encP_val i).2.2 h, dec_enc h]
end Go.Proofs.YtkmgdfcambdeeaaGreatDoor
namespace Go.Proofs.YtkmgdfcambdeeaaGreatDoor
set_option maxRecDepth 100000
open Go.RowKit
set_option linter.unusedVariables false
section
variable {W w : World} {L : List Rw}
set_option maxHeartbeats 4000000 in
theorem pwr_any (q gi gt : Nat) (X : List Cp) (hX : X.length = 17) (op B C m t0 why : Int) (A : Nat) (hA : A < 16) (c : Cp)
    (K : KR W (⟨q, fC X⟩ :: ⟨gt, [.int .i64 t0]⟩ :: ⟨gi, ir op A B C m⟩ :: L) w) (hq : W.heap.size ≤ q) (ht : W.heap.size ≤ gt) (n1 : gt ≠ q) (n2 : gi ≠ q) (n3 : gi ≠ gt) (n4 : ∀ x, x ∈ L → x.g ≠ q ∧ x.g ≠ gt) :
    Calls Tryz.prog 39 #[c.V, .int .i64 why, .pointer (some ⟨q, 0, none⟩), .pointer (some ⟨gi, 0, none⟩), .pointer (some ⟨gt, 0, none⟩)] w fun e w' => e = .returned (.tuple #[]) ∧ KR W (⟨q, fC (X.set A c)⟩ :: ⟨gt, [.int .i64 why]⟩ :: ⟨gi, ir op A B C m⟩ :: L) w' := by
  have k0 := Lib.hid (K.push c.C 25)
  have lt := Lib.hid (fun (x : Rw) (hx : x ∈ (⟨q, fC X⟩ :: ⟨gt, [.int .i64 t0]⟩ :: ⟨gi, ir op A B C m⟩ :: L)) => K.lt (g := x.g) (vs := x.vs) hx)
  clear K
  change Calls Tryz.prog 39 #[.agg #[.int .u32 c.cu, .int .u8 c.e, .int .u16 c.b, .int .u16 c.t, .int .u16 c.pm, .int .u16 c.ty, .int .u32 c.rs, .bool c.va], _, _, _, _] w _
  go_enter Tryz.func39, Tryz.ntmps39
  go_upto_region 1 with (fail)
  change Code.wp _ _ _ _ (w.alloc (.cells c.C.toArray 25))
  generalize (w.alloc (.cells c.C.toArray 25)) = w1 at k0 ⊢
  have nq : w.heap.size ≠ q := by have := lt.out ⟨q, fC X⟩ (by simp); simp only at this; omega
  have ngt : w.heap.size ≠ gt := by have := lt.out ⟨gt, [.int .i64 t0]⟩ (by simp); simp only at this; omega
  obtain ⟨p0, p1, p2, p3, p4, p5, p6, p7⟩ := (k0.out.cap (g := w.heap.size) (List.mem_cons_self ..) : CapAt _ _ c.cu c.e c.b c.t c.pm c.ty c.rs c.va)
  have i1 := k0.out.cell (g := gi) (j := 1) (u := .int .i64 A) (ir op A B C m) (by simp) rfl
  have th := k0.out.there (g := q) (vs := fC X) (by simp) (A * 8) 8 (by rw [fC_len, hX]; omega)
  have kq : KR W (⟨q, fC X⟩ :: ⟨w.heap.size, c.C⟩ :: ⟨gt, [.int .i64 t0]⟩ :: ⟨gi, ir op A B C m⟩ :: L) w1 := k0.out.swap
  have k1 := Lib.hid (kq.putF hq (fun x hx => by
    simp only [List.mem_cons] at hx
    rcases hx with rfl | rfl | rfl | hx
    · exact nq
    · exact n1
    · exact n2
    · exact (n4 x hx).1) A c (by rw [hX]; omega))
  have s1 := size_ca c
  have o1 := one_cp c
  clear kq k0
  go_wp2_with ((with_reducible show wpList _ _ _ _ _ _); refine wpList_store_mid rfl 25 _ _ rfl q (A * 8) c.C.toArray rfl rfl th s1 o1 ?_; clear th s1 o1 i1 p0 p1 p2 p3 p4 p5 p6 p7; change wpList _ _ _ _ _ (w1.setCells q (A * 8) c.C); generalize w1.setCells q (A * 8) c.C = w2 at k1 ⊢; have v8 := k1.out.cell (g := gt) (j := 0) (u := .int .i64 t0) [.int .i64 t0] (by simp) rfl; have f8 := k1.out.soft (g := gt) (vs := [.int .i64 t0]) (by simp) 0)
  go_end0
  have k2 : KR W (⟨gt, [.int .i64 t0]⟩ :: ⟨q, fC (X.set A c)⟩ :: ⟨gi, ir op A B C m⟩ :: L) w2 := k1.out.sub (by
    intro x hx
    simp only [List.mem_cons] at hx ⊢
    rcases hx with rfl | rfl | rfl | hx
    · simp
    · simp
    · simp
    · simp [hx])
  exact ⟨rfl, (k2.set ht (fun x hx => by
    simp only [List.mem_cons] at hx
    rcases hx with rfl | rfl | hx
    · exact Ne.symm n1
    · exact n3
    · exact (n4 x hx).2) 0 (.int .i64 why) (by simp)).swap⟩
end
end Go.Proofs.YtkmgdfcambdeeaaGreatDoor
