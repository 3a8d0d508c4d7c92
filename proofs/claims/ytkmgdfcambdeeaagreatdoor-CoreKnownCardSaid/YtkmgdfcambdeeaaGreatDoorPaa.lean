/- Words for memory: a slice that reads as a list of bytes, and what is kept of it over draws, new blocks and calls that write nothing old. Plain lemmas; no statement is proved here.; A region that draws its order, whose own operations only read and whose callees keep a class of worlds: one walk in the order of the text serves (the library's quiet walk, at a class of one's own). Plain lemmas; no statement is proved here.; Numbers as bytes, the lowest first: plain lemmas on lists. No statement is proved here.; Contracts of the document's answers for layer caps: laid, taken. No statement is proved here.; Contracts of the document's answers for layer caps: Bytes, Of. No statement is proved here.; Words for structs that are compared field by field. Plain lemmas; no statement is proved here.; Plain mathematics of layer tags: how many bits of a word are set, as math/bits reckons it; words of a se -/
import Derived.Below
import Derived.Laws.OwnMore
import Derived.Deep.AppendLies
import Derived.Deep.Draws
import Derived.Laws.Rows
import Derived.Lib.Hide
import Derived.BigQuiet
import Derived.StillTail
import Derived.Laws.BitsAllLaws
import Derived.WalkKit
import Derived.Lib.ConvBytes
import Derived.Test.YtkmgdfcambdeeaaGreatDoorChecked
import Derived.WalkSpells
import Derived.WalkLawsBesides
import Derived.Handy
import Derived.Deep.LoopGhost
import Derived.Deep.DeepCutAuto
import Derived.Laws.AppendOwn
import Derived.Laws.StructEq
import Derived.Lib.BitFns
import Derived.Deep.QuietTactic
import Derived.Laws.Bits64b
import Derived.Laws.BitsLemmas
import Derived.Deep.OwnRows
import Derived.Deep.RegionWith
import Derived.StillTailTactics
namespace Go.Proofs.YtkmgdfcambdeeaaGreatDoor
open Go.RowKit


/-- The slice at A reads as the bytes l; it lies below block B. -/
def RB (w : World) (B : Nat) (A : Option Addr) (l : List UInt8) : Prop :=
  0 < l.length → ∃ b off, A = some ⟨b, off, none⟩ ∧ b < B ∧ ∀ j u, l[j]? = some u → w.cell? ⟨b, off + j, none⟩ = some (.int .u8 (u.toNat : Int))

section
variable {w w' : World} {B B' : Nat} {A : Option Addr} {l : List UInt8}
theorem RB.nil : RB w B A [] := fun h => absurd h (by simp)
theorem RB.keep (h : RB w B A l) (hk : ∀ p : Addr, p.block < B → w'.cell? p = w.cell? p) : RB w' B A l := fun hn => by
  obtain ⟨b, off, e, hb, hc⟩ := h hn
  exact ⟨b, off, e, hb, fun j u hu => (hk _ hb).trans (hc j u hu)⟩
theorem RB.more (h : RB w B A l) (hB : B ≤ B') : RB w B' A l := fun hn => by
  obtain ⟨b, off, e, hb, hc⟩ := h hn
  exact ⟨b, off, e, by omega, hc⟩
theorem RB.below (h : RB w B A l) (hb : Below B w w') : RB w' B A l := h.keep fun _ hp => hb.cell hp
theorem RB.drew (h : RB w B A l) : RB w.drew B A l := h
theorem RB.drewN (h : RB w B A l) (k : Nat) : RB (w.drewN k) B A l := h
theorem RB.alloc (h : RB w B A l) (hB : B ≤ w.heap.size) (o : Obj) : RB (w.alloc o) B A l := h.keep fun p hp => World.cell?_alloc_lt w o p (by omega)
theorem RB.setCell (h : RB w B A l) {p : Addr} (hB : B ≤ p.block) (u : Value) : RB (w.setCell p u) B A l :=
  h.keep fun q hq => World.cell?_setCell_other w p q u (fun e => by subst e; omega)
end

theorem below_drewN {B : Nat} {a w : World} (h : Below B a w) (n : Nat) : Below B a (w.drewN n) := ⟨h.os, h.tape, h.output, h.size, h.block⟩
theorem ret_int {k : IntKind} {a b : Int} (h : a = b) : Ending.returned (.int k a) = .returned (.int k b) := by rw [h]
theorem ret_bool {a b : Bool} (h : a = b) : Ending.returned (.bool a) = .returned (.bool b) := by rw [h]

end Go.Proofs.YtkmgdfcambdeeaaGreatDoor
namespace Go.Proofs.YtkmgdfcambdeeaaGreatDoor
open Go.RowKit

/-- A world of the class. -/
structure Wd (S : World → Prop) where
  w : World
  h : S w
theorem region_cls {P : Program} (S : World → Prop) {id : Nat} {Q : Exit → Act → World → Prop} {a : Act} {w : World} {l : List Oper} (hm : P.follows .mixedOrders = true) (hB : Region.lexB .any l.toArray = true) (h0 : S w.drew)
    (h : wpQuiet P l.toArray (fun w' => ∃ y : Wd S, w' = y.w) (fun a' => ∀ y : Wd S, Q .normal a' y.w) l a) : (Code.region id l.toArray true).wp P Q a w :=
  wp_region_quiet (C := fun w' => ∃ y : Wd S, w' = y.w) hm hB ⟨⟨w.drew, h0⟩, rfl⟩ (by
    have e : (fun a' => ∀ y : Wd S, Q .normal a' y.w) = (fun a' => ∀ w', (∃ y : Wd S, w' = y.w) → Q .normal a' w') := by
      funext a'
      exact propext ⟨fun k w' ⟨y, hy⟩ => hy ▸ k y, fun k y => k y.w ⟨y, rfl⟩⟩
    rw [e] at h
    simpa using h)
theorem cls_call {P : Program} {S : World → Prop} {f : FuncId} {args : Array Value} {v : Value} (h : ∀ w, S w → Calls P f args w fun e w' => e = .returned v ∧ S w') (y : Wd S) :
    Calls P f args y.w fun e w' => e = .returned v ∧ ∃ y' : Wd S, w' = y'.w :=
  (h y.w y.h).mono fun _ w' k => ⟨k.1, ⟨w', k.2⟩, rfl⟩

/-! A head of operations of this kind, in whatever order; behind it the others, in the order of the text. -/
section
variable {P : Program} {ops : Array Oper} {md : Region.Mode} {C : World → Prop}

/-- Some operations ahead of number n come up, in whatever order; then L. -/
def anyQL (P : Program) (md : Region.Mode) (ops : Array Oper) (C : World → Prop) (n : Nat) (L : Array Bool → Act → Prop) : Nat → Array Bool → Act → Prop
  | 0, s, a => L s a
  | f + 1, s, a => Region.ready md ops s ≠ [] ∧ ∀ i ∈ Region.ready md ops s, i < n ∧ qOp P ops C i (anyQL P md ops C n L f (s.setIfInBounds i true)) a

theorem anyQL_out {n g : Nat} {L : Array Bool → Act → Prop} {Q : Exit → Act → World → Prop} (hL : ∀ s a w, C w → L s a → wpAny P md ops Q g s a w) :
    ∀ (f : Nat) (s : Array Bool) (a : Act) (w : World), C w → anyQL P md ops C n L f s a → wpAny P md ops Q (f + g) s a w
  | 0, s, a, w, hw, h => by rw [Nat.zero_add]; exact hL _ _ _ hw h
  | f + 1, s, a, w, hw, h => by
    rw [show f + 1 + g = (f + g) + 1 by omega]
    exact ⟨fun h0 => absurd h0 h.1, fun i hi => wpOp_of_qOp hw (fun a' w' hw' h' => anyQL_out hL f _ a' w' hw' h') (h.2 i hi).2⟩

theorem anyQL_first {n i : Nat} {oi : Oper} {v : Value} {L : Array Bool → Act → Prop} (hi : ops[i]? = some oi) (hsel : ∀ (j : Nat) (o : Oper) cs b, ops[j]? = some o → o.op ≠ .select cs b)
    (hs : Region.sinkB md ops n = true) (hc : Region.chainB md ops n = true) (hn : n < ops.size) (hin : i < n) (hdone : ∀ s a, L s a → ∀ j ∈ Region.ready md ops s, n ≤ j) :
    ∀ (f : Nat) (s : Array Bool) (a : Act), HeadInv md ops n s →
      (∀ j oj, ops[j]? = some oj → j ≠ i → s.getD j true = false → (∀ e ∈ oj.after, Region.binds md e = true → e.on ≠ i) → oi.apart ops oj = true) →
      i ∈ Region.ready md ops s → YieldsIn P ops C oi v a → anyQL P md ops C n L f (s.setIfInBounds i true) (a.put oi.dst v) → anyQL P md ops C n L (f + 1) s a := by
  intro f
  induction f with
  | zero =>
    intro s a inv _ hr hy H
    refine ⟨fun h => (by rw [h] at hr; cases hr), fun j hj => ?_⟩
    have hjn : j < n := Nat.lt_of_not_le fun h => tail_waits hs hc hn inv _ i rfl hin (mem_ready.1 hr).1 j h hj
    refine ⟨hjn, ?_⟩
    by_cases hji : j = i
    · subst hji; exact hy.qOp hi H
    · have := hdone _ _ H j (ready_mono hj hji)
      omega
  | succ f ih =>
    intro s a inv hfree hr hy H
    have hun := (mem_ready.1 hr).1
    refine ⟨fun h => (by rw [h] at hr; cases hr), fun j hj => ?_⟩
    have hjn : j < n := Nat.lt_of_not_le fun h => tail_waits hs hc hn inv _ i rfl hin hun j h hj
    refine ⟨hjn, ?_⟩
    by_cases hji : j = i
    · subst hji; exact hy.qOp hi H
    · obtain ⟨hjun, oj, hoj, hall⟩ := mem_ready.1 hj
      have hnot : ∀ e ∈ oj.after, Region.binds md e = true → e.on ≠ i := fun e he hb heq => by
        have h1 := hall e he hb
        rw [heq, getD_both hun] at h1
        cases h1
      refine qOp_mono (fun a' h3 => ih (s.setIfInBounds j true) a' (inv.set hj hjn) (fun k ok hk hki hku hno => hfree k ok hk hki ?_ hno) (ready_mono hr (Ne.symm hji)) h3.1 ?_)
        (qOp_put hoj (hfree j oj hoj hji hjun hnot) (fun cs b => hsel i oi cs b hi) (fun cs b => hsel j oj cs b hoj) hy ((H.2 j (ready_mono hj hji)).2))
      · by_cases hjk : j = k
        · subst hjk; exact hjun
        · rw [getD_set_ne true hjk] at hku; exact hku
      · rw [Array.setIfInBounds_comm _ _ hji]
        exact h3.2

theorem anyQL_lex {n g : Nat} {T : Act → Prop} (hsel : Region.noSelect ops = true) (hs : Region.sinkB md ops n = true) (hc : Region.chainB md ops n = true) (hn : n < ops.size) :
    ∀ (l : List Oper) (k : Nat) (s : Array Bool) (a : Act), (∀ j, j < l.length → l[j]? = ops[k + j]?) → k + l.length = n → HeadInv md ops n s →
    Region.lexHead md ops g l.length k s = true → wpQuiet P ops C T l a → anyQL P md ops C n (fun s' a' => Region.seqB md ops g n s' = true ∧ T a') l.length s a
  | [], k, s, a, _, hk, _, hB, h => by
    obtain rfl : k = n := by simpa using hk
    exact ⟨by simpa [Region.lexHead] using hB, h⟩
  | o :: l, k, s, a, hl, hk, inv, hB, h => by
    have h0 : ops[k]? = some o := by simpa using (hl 0 (by simp)).symm
    simp only [List.length_cons, Region.lexHead, Bool.and_eq_true] at hB
    simp only [List.length_cons] at hk
    have hr : k ∈ Region.ready md ops s := by simpa using hB.1.1
    obtain ⟨v, hy, hK⟩ := yieldsIn_of_qOp h0 (show qOp P ops C k (wpQuiet P ops C T l) a by unfold qOp; simp only [h0]; exact h)
    exact anyQL_first h0 (Region.noSelect_spec hsel) hs hc hn (by omega) (fun s' a' hL => seqB_ready hL.1) l.length s a inv (Region.free_spec h0 hB.1.2) hr hy
      (anyQL_lex hsel hs hc hn l (k + 1) _ _ (fun j hj => by have := hl (j + 1) (by simp; omega); simpa [Nat.add_assoc, Nat.add_comm 1 j] using this) (by omega) (inv.set hr (by omega)) hB.2 hK)
end
/-- Such a region: its first n operations keep the class; the others come behind them, in the order of the text. -/
theorem region_cls_tail {P : Program} (S : World → Prop) {id : Nat} {Q : Exit → Act → World → Prop} {a : Act} {w : World} {l : List Oper} (n : Nat) (hm : P.follows .mixedOrders = true) (hB : Region.lexTailB .any l.toArray n = true) (h0 : S w.drew)
    (h : wpQuiet P l.toArray (fun w' => ∃ y : Wd S, w' = y.w) (fun a' => ∀ y : Wd S, wpList P l.toArray Q (l.drop n) a' y.w) (l.take n) a) : (Code.region id l.toArray true).wp P Q a w := by
  simp only [Region.lexTailB, Bool.and_eq_true, decide_eq_true_eq] at hB
  obtain ⟨⟨⟨⟨hsel, hn⟩, hs⟩, hc⟩, hlex⟩ := hB
  have hn' : n < l.length := by simpa using hn
  have htl : (l.take n).length = n := by simp; omega
  have hdl : (l.drop n).length = l.toArray.size - n := by simp
  have inv0 : HeadInv .any l.toArray n (Array.replicate l.toArray.size false) :=
    ⟨by simp, fun j oj _ hl => (by rw [getD_replicate_false] at hl; cases hl), fun t _ ht => getD_in (by simpa using ht) (getD_replicate_false _ _)⟩
  have H := anyQL_lex (md := .any) (g := l.toArray.size - n) hsel hs hc hn (l.take n) 0 _ a (fun j hj => by
    have hj' : j < n := by rw [htl] at hj; exact hj
    simp [hj']) (by simpa using htl) inv0 (by rw [htl]; exact hlex) h
  refine wp_region_any hm ?_
  have := anyQL_out (Q := Q) (g := l.toArray.size - n) (fun s a' w' hw' hL => by
    obtain ⟨y, rfl⟩ := hw'
    have := wpAny_of_seq (md := .any) (Q' := Q) (l.drop n) n s a' y.w (fun j => by simp [List.getElem?_drop]) (by rw [hdl]; exact hL.1) (hL.2 y)
    rwa [hdl] at this) _ _ _ w.drew ⟨⟨w.drew, h0⟩, rfl⟩ H
  rw [htl, show n + (l.toArray.size - n) = l.toArray.size by omega] at this
  exact this
/-- A callee that writes nothing old keeps a class that asks nothing of new blocks. -/
theorem cls_bel {P : Program} {S : World → Prop} {f : FuncId} {args : Array Value} {v : Value} (hS : ∀ w w', S w → Below w.heap.size w w' → S w')
    (h : ∀ w, Calls P f args w fun e w' => e = .returned v ∧ Below w.heap.size w w') (y : Wd S) : Calls P f args y.w fun e w' => e = .returned v ∧ ∃ y' : Wd S, w' = y'.w :=
  cls_call (fun w hw => (h w).mono fun _ _ k => ⟨k.1, hS _ _ hw k.2⟩) y
end Go.Proofs.YtkmgdfcambdeeaaGreatDoor
namespace Go.Proofs.YtkmgdfcambdeeaaGreatDoor
open Go.RowKit
set_option linter.unusedVariables false

def isW (n : Int) : Bool := n == 1 || n == 2 || n == 4
theorem isW_cases {n : Int} (h : isW n = true) : n = 1 ∨ n = 2 ∨ n = 4 := by
  simp [isW] at h; omega
def le : List UInt8 → Nat
  | [] => 0
  | b :: r => b.toNat + 256 * le r
def leB : Nat → Nat → List UInt8
  | 0, _ => []
  | n + 1, v => UInt8.ofNat v :: leB n (v / 256)
theorem leB_length (n v : Nat) : (leB n v).length = n := by
  induction n generalizing v with
  | zero => rfl
  | succ n ih => simp [leB, ih]
theorem le_leB (n v : Nat) : le (leB n v) = v % 256 ^ n := by
  induction n generalizing v with
  | zero => simp [leB, le, Nat.mod_one]
  | succ n ih =>
    simp only [leB, le, ih, UInt8.toNat_ofNat']
    rw [show 256 ^ (n + 1) = 256 * 256 ^ n from by rw [Nat.pow_succ, Nat.mul_comm], Nat.mod_mul]
theorem le_lt (l : List UInt8) : le l < 256 ^ l.length := by
  induction l with
  | nil => simp [le]
  | cons b r ih =>
    have := b.toNat_lt
    simp only [le, List.length_cons, Nat.pow_succ]
    omega
def numOf (l : List UInt8) : Nat := if l.length = 1 ∨ l.length = 2 ∨ l.length = 4 then le l else 0
theorem or_add (a b k : Nat) (h : b < 2 ^ k) : (a * 2 ^ k) ||| b = a * 2 ^ k + b := by
  rw [Nat.mul_comm]; exact (Nat.two_pow_add_eq_or_of_lt h a).symm
theorem or4 (x0 x1 x2 x3 : Nat) (h0 : x0 < 256) (h1 : x1 < 256) (h2 : x2 < 256) (h3 : x3 < 256) :
    bits BinOp.or IntKind.u32 (bits BinOp.or IntKind.u32 (bits BinOp.or IntKind.u32 ((x3 : Int) * 16777216) ((x2 : Int) * 65536)) ((x1 : Int) * 256)) (x0 : Int) = ((x0 + 256 * (x1 + 256 * (x2 + 256 * x3)) : Nat) : Int) := by
  have e3 : ((x3 : Int) * 16777216) = ((x3 * 16777216 : Nat) : Int) := by omega
  have e2 : ((x2 : Int) * 65536) = ((x2 * 65536 : Nat) : Int) := by omega
  have e1 : ((x1 : Int) * 256) = ((x1 * 256 : Nat) : Int) := by omega
  rw [e3, e2, e1, u32_or_nat _ _ (by omega) (by omega)]
  have a3 : x3 * 16777216 ||| x2 * 65536 = x3 * 16777216 + x2 * 65536 := or_add x3 (x2 * 65536) 24 (by omega)
  rw [a3, u32_or_nat _ _ (by omega) (by omega)]
  have a2 : x3 * 16777216 + x2 * 65536 ||| x1 * 256 = x3 * 16777216 + x2 * 65536 + x1 * 256 := by
    have := or_add (x3 * 256 + x2) (x1 * 256) 16 (by omega)
    rw [show x3 * 16777216 + x2 * 65536 = (x3 * 256 + x2) * 2 ^ 16 from by omega]
    exact this
  rw [a2, u32_or_nat _ _ (by omega) (by omega)]
  have a1 : x3 * 16777216 + x2 * 65536 + x1 * 256 ||| x0 = x3 * 16777216 + x2 * 65536 + x1 * 256 + x0 := by
    have := or_add (x3 * 65536 + x2 * 256 + x1) x0 8 (by omega)
    rw [show x3 * 16777216 + x2 * 65536 + x1 * 256 = (x3 * 65536 + x2 * 256 + x1) * 2 ^ 8 from by omega]
    exact this
  rw [a1]
  omega
theorem or00 : bits BinOp.or IntKind.u32 0 0 = 0 := by rfl
theorem or2 (x0 x1 : Nat) (h0 : x0 < 256) (h1 : x1 < 256) :
    bits BinOp.or IntKind.u32 (bits BinOp.or IntKind.u32 0 ((x1 : Int) * 256)) (x0 : Int) = ((x0 + 256 * x1 : Nat) : Int) := by
  have := or4 x0 x1 0 0 h0 h1 (by omega) (by omega)
  simpa [or00] using this
theorem or1 (x0 : Nat) (h0 : x0 < 256) : bits BinOp.or IntKind.u32 0 (x0 : Int) = (x0 : Int) := by
  have := or4 x0 0 0 0 h0 (by omega) (by omega) (by omega)
  simpa [or00] using this

/-- The world with the bytes laid from a place on. -/
def layW (w : World) (b off : Nat) : List UInt8 → World
  | [] => w
  | x :: r => (layW w b (off + 1) r).setCell ⟨b, off, none⟩ (.int .u8 (x.toNat : Int))

theorem layW_off (b : Nat) : ∀ (l : List UInt8) (off : Nat) (w : World) (q : Addr), (q.block = b → q.spot = none → q.off < off ∨ off + l.length ≤ q.off) → (layW w b off l).cell? q = w.cell? q
  | [], _, _, _, _ => rfl
  | x :: r, off, w, q, h => by
    rw [layW, World.cell?_setCell_other _ _ _ _ (fun e => by subst e; have := h rfl rfl; simp at this; omega), layW_off b r (off + 1) w q (fun h1 h2 => by have := h h1 h2; simp at this; omega)]
theorem layW_at (b : Nat) : ∀ (l : List UInt8) (off : Nat) (w : World), (∀ j, j < l.length → ∃ x, w.cell? ⟨b, off + j, none⟩ = some x) → ∀ j u, l[j]? = some u → (layW w b off l).cell? ⟨b, off + j, none⟩ = some (.int .u8 (u.toNat : Int))
  | [], _, _, _, j, u, hu => by simp at hu
  | x :: r, off, w, h, 0, u, hu => by
    obtain ⟨y, hy⟩ := h 0 (by simp)
    simp at hu
    subst hu
    have h0 : (layW w b (off + 1) r).cell? ⟨b, off, none⟩ = some y := (layW_off b r (off + 1) w _ (fun _ _ => .inl (by simp))).trans hy
    exact World.cell?_setCell_same _ _ _ h0
  | x :: r, off, w, h, j + 1, u, hu => by
    rw [layW, World.cell?_setCell_other _ _ _ _ (fun e => by simp at e)]
    have := layW_at b r (off + 1) w (fun j hj => by obtain ⟨y, hy⟩ := h (j + 1) (by simpa using hj); exact ⟨y, by rw [← hy]; congr 2; omega⟩) j u (by simpa using hu)
    rw [← this]; congr 2; omega
theorem layW_below {B b : Nat} (hB : B ≤ b) : ∀ (l : List UInt8) (off : Nat) {a w : World}, Below B a w → Below B a (layW w b off l)
  | [], _, _, _, h => h
  | x :: r, off, _, _, h => (layW_below hB r (off + 1) h).setCell hB _
theorem layW_frozen (b : Nat) : ∀ (l : List UInt8) (off : Nat) (w : World) (q : Addr), (layW w b off l).frozen? q = w.frozen? q
  | [], _, _, _ => rfl
  | x :: r, off, w, q => by rw [layW, World.frozen?_setCell]; exact layW_frozen b r (off + 1) w q
theorem size_list (l : List UInt8) : (⟨l.toArray⟩ : ByteArray).size = l.length := rfl

/-! The world behind a string's conversion to bytes. -/
theorem bw_below (w : World) (e : TypeId) (s : ByteArray) : Below w.heap.size w (Lib.bytesWorld w e s) :=
  ⟨rfl, rfl, rfl, by rw [Lib.bytesWorld_size]; omega, fun j hj => Lib.bytesWorld_at_old w e s j hj⟩
theorem bw_cell (w : World) (e : TypeId) (l : List UInt8) (j : Nat) (u : UInt8) (hu : l[j]? = some u) : (Lib.bytesWorld w e ⟨l.toArray⟩).cell? ⟨w.heap.size, j, none⟩ = some (.int .u8 (u.toNat : Int)) := by
  have hj : j < l.length := (List.getElem?_eq_some_iff.1 hu).1
  rw [Lib.bytesWorld_cell w e _ j (by simpa [ByteArray.size] using hj)]
  simp [List.getD, hu]
theorem bw_free (w : World) (e : TypeId) (l : List UInt8) (j : Nat) (hj : j < l.length) : (Lib.bytesWorld w e ⟨l.toArray⟩).frozen? ⟨w.heap.size, j, none⟩ = false := by
  have h : j < (Lib.bytesCells w e ⟨l.toArray⟩).size := by simp [Lib.bytesCells]; omega
  simp [World.frozen?, Lib.bytesWorld_at_new]
  omega

end Go.Proofs.YtkmgdfcambdeeaaGreatDoor
namespace Go.Proofs.YtkmgdfcambdeeaaGreatDoor
open Go.RowKit
set_option linter.unusedVariables false

def vb (u : UInt8) : Value := .int .u8 (u.toNat : Int)
theorem leB_snoc : ∀ (j n : Nat), leB (j + 1) n = leB j n ++ [UInt8.ofNat (n / 256 ^ j)]
  | 0, n => by simp [leB]
  | j + 1, n => by
    rw [leB, leB_snoc j (n / 256), leB, Nat.div_div_eq_div_mul]
    simp [Nat.pow_succ, Nat.mul_comm]

/-- What 'laid' leaves: a row of the call's own. -/
def LaidPost (base : Nat) (w : World) (l : List UInt8) (e : Ending) (w' : World) : Prop :=
  ∃ v, e = .returned v ∧ w'.ownsRow base 5 1 v l.length (l.map vb) ∧ Below base w w'

theorem info8 : (Tryz.prog.info? 5).map (fun i => (i.zero, i.size, i.bytes)) = some (some (.int .u8 0), 1, 1) := by kernel_rfl

theorem below_own {base : Nat} {w w1 w2 : World} {v : Value} (h : Below base w w1) (hg : w1.grownBy w2 v.ownBlock) (hv : ∀ k, v.ownBlock = some k → base ≤ k) (hb : base ≤ w1.heap.size) : Below base w w2 :=
  h.trans ((Below.refl _ _).grown hg hb (fun k hk => hv k hk))

theorem laid_any (base : Nat) (v : Value) (l : List UInt8) (n k : Nat) (w : World) (hk : k ≤ 4) (hl : l.length ≤ 1000) (hn : n < 4294967296) (hown : w.ownsRow base 5 1 v l.length (l.map vb)) (hbase : base ≤ w.heap.size) :
    Calls Tryz.prog 131 #[v, .int .u32 n, .int .i64 k] w (LaidPost base w (l ++ leB k n)) := by
  obtain ⟨i0, hi, hz0, hz1, hz2⟩ := info_parts info8
  go_enter Tryz.func131, Tryz.ntmps131
  go_wp2_with fail
  go_loopw [0, 7] (fun b i wr => ∃ j : Nat, j ≤ k ∧ i = .int .i64 j ∧ wr.ownsRow base 5 1 b (l ++ leB j n).length ((l ++ leB j n).map vb) ∧ Below base w wr) (fun _ i _ => k - (intOf i).toNat)
  case atStart => exact ⟨0, by omega, rfl, by simpa [leB] using hown, Below.refl _ _⟩
  case round =>
    obtain ⟨j, hj, rfl, hown2, hbl⟩ := hrel
    have hB : ((n : Int) / 2 ^ (8 * j) % 256) = ((UInt8.ofNat (n / 256 ^ j)).toNat : Int) := by
      rw [UInt8.toNat_ofNat', show (256 : Nat) ^ j = 2 ^ (8 * j) from by rw [show (256 : Nat) = 2 ^ 8 from rfl, ← Nat.pow_mul], show ((2 : Int) ^ (8 * j)) = ((2 ^ (8 * j) : Nat) : Int) from by simp, ← Int.natCast_ediv]
      omega
    replace hB := Lib.hid hB
    have hlen : (l ++ leB j n).length = l.length + j := by rw [List.length_append, leB_length]
    have hO := Lib.hid hown2
    have hL := Lib.hid hbl
    have hW := Lib.hid hown
    clear hown2 hbl hown
    by_cases hlt : j < k
    · have hlt' : (j : Int) < k := by omega
      have hj8 : (j : Int) ≤ 3 := by omega
      replace hlen := Lib.hid hlen
      go_wp2_with (at_builtin; refine wpList_append_own _ rfl _ _ 97 rfl base 5 i0 (.int .u8 0) 1 1 Tryz.underlying97 hi hz0 hz1 hz2 rfl (by decide) _ _ _ rfl (hO.out.alloc _) ⟨wr.heap.size, 0, none⟩ 1 1 [.int .u8 ((n : Int) / 2 ^ (8 * j) % 256)] rfl rfl ?c1 ?c2 ?c3 ?c4 ?c5 ?_)
      case c1 =>
        intro i u hu
        match i, hu with
        | 0, hu => simp at hu; subst hu; simp [Addr.add]
      case c2 => intro u hu; simp at hu; subst hu; rfl
      case c3 => rw [hlen.out]; unfold maxLen; omega
      case c4 => rw [hlen.out]; omega
      case c5 => have := hL.out.size; simp; omega
      · intro v' w1 hown' hgrow _
        have hlo := hO.out.lt
        have hL1 : Below base w w1 := below_own (hL.out.alloc (Nat.le_trans hbase hL.out.size) _) hgrow (fun q hq => (hlo q hq).1) (by have := hL.out.size; simp; omega)
        have hO1 : w1.ownsRow base 5 1 v' (l ++ leB (j + 1) n).length ((l ++ leB (j + 1) n).map vb) := by
          have e1 : (l ++ leB (j + 1) n).map vb = l.map vb ++ ((leB j n).map vb ++ [.int .u8 ((n : Int) / 2 ^ (8 * j) % 256)]) := by
            rw [leB_snoc, hB.out, List.map_append, List.map_append]; rfl
          have e2 : (l ++ leB (j + 1) n).length = l.length + (leB j n).length + 1 := by rw [List.length_append, leB_length, leB_length]; omega
          rw [e1, e2]; exact hown'
        replace hL1 := Lib.hid hL1
        replace hO1 := Lib.hid hO1
        clear hown' hgrow hlo
        go_wp2
        go_roundw
        case rel => exact ⟨j + 1, by omega, by go_num, hO1.out, hL1.out⟩
        case measure => simp [intOf]; omega
    · obtain rfl : j = k := by omega
      go_wp2_with fail
      go_ret
      exact ⟨_, rfl, hO.out, hL.out⟩

theorem le_snoc : ∀ (l : List UInt8) (b : UInt8), le (l ++ [b]) = le l + b.toNat * 256 ^ l.length
  | [], b => by simp [le]
  | c :: l, b => by
    show c.toNat + 256 * le (l ++ [b]) = c.toNat + 256 * le l + b.toNat * 256 ^ (l.length + 1)
    rw [le_snoc l b, Nat.pow_succ, Nat.mul_add, ← Nat.mul_assoc, Nat.mul_comm (256 ^ l.length) 256, ← Nat.mul_assoc, Nat.mul_comm 256 b.toNat]
    omega
theorem take_more {l : List UInt8} {a j : Nat} (h : a + j < l.length) : (l.drop a).take (j + 1) = (l.drop a).take j ++ [l[a + j]] := by
  rw [List.take_add_one, List.getElem?_drop, List.getElem?_eq_getElem h]; rfl
end Go.Proofs.YtkmgdfcambdeeaaGreatDoor
namespace Go.Proofs.YtkmgdfcambdeeaaGreatDoor
open Go.RowKit
set_option linter.unusedVariables false

/-- A capability's bytes. -/
def bytesC (cu e b t pm ty rs : Nat) : List UInt8 := leB 4 cu ++ leB 1 e ++ leB 2 b ++ leB 2 t ++ leB 2 pm ++ leB 2 ty ++ leB 3 rs
theorem bytesC_length (cu e b t pm ty rs : Nat) : (bytesC cu e b t pm ty rs).length = 16 := by simp [bytesC, leB_length]

/-- A capability in a box. -/
structure CapAt (w : World) (bx : Nat) (cu e b t pm ty rs : Nat) (va : Bool) : Prop where
  q0 : w.cell? ⟨bx, 0, none⟩ = some (.int .u32 cu)
  q1 : w.cell? ⟨bx, 1, none⟩ = some (.int .u8 e)
  q2 : w.cell? ⟨bx, 2, none⟩ = some (.int .u16 b)
  q3 : w.cell? ⟨bx, 3, none⟩ = some (.int .u16 t)
  q4 : w.cell? ⟨bx, 4, none⟩ = some (.int .u16 pm)
  q5 : w.cell? ⟨bx, 5, none⟩ = some (.int .u16 ty)
  q6 : w.cell? ⟨bx, 6, none⟩ = some (.int .u32 rs)
  q7 : w.cell? ⟨bx, 7, none⟩ = some (.bool va)
theorem CapAt.below {w w' : World} {bx B : Nat} {cu e b t pm ty rs : Nat} {va : Bool} (h : CapAt w bx cu e b t pm ty rs va) (k : Below B w w') (hb : bx < B) : CapAt w' bx cu e b t pm ty rs va :=
  ⟨(k.cell hb).trans h.q0, (k.cell hb).trans h.q1, (k.cell hb).trans h.q2, (k.cell hb).trans h.q3, (k.cell hb).trans h.q4, (k.cell hb).trans h.q5, (k.cell hb).trans h.q6, (k.cell hb).trans h.q7⟩

theorem own_conv {w : World} {base : Nat} {v : Value} {l : List UInt8} (h : w.ownsRow base 5 1 v l.length (l.map vb)) (hl : 0 < l.length) :
    (convert 97 9 v).run Tryz.prog w = .ok (.string ⟨l.toArray⟩) w := by
  have h0 := h
  rcases h.2 with ⟨_, hn⟩ | ⟨g, cap, cur, rfl, _, _, _, _, _⟩
  · omega
  · refine run_convert_bytes_back (P := Tryz.prog) w 97 9 5 ⟨g, 0, none⟩ cap l Tryz.underlying97 Tryz.underlying5 Tryz.underlying9 (fun j hj => ?_)
    rw [Addr.add_lit, Nat.zero_add]
    have := h0.cellAt j (by omega)
    rw [this, List.getElem?_map, List.getElem?_eq_getElem hj]
    rfl

theorem rBytes_any (cu e b t pm ty rs : Nat) (va : Bool) (W : World) (l0 : cu < 4294967296) (l1 : e < 256) (l2 : b < 65536) (l3 : t < 65536) (l4 : pm < 65536) (l5 : ty < 65536) (l6 : rs < 4294967296) :
    Calls Tryz.prog 77 #[.agg #[.int .u32 cu, .int .u8 e, .int .u16 b, .int .u16 t, .int .u16 pm, .int .u16 ty, .int .u32 rs, .bool va]] W fun e' w' => e' = .returned (.string ⟨(bytesC cu e b t pm ty rs).toArray⟩) ∧ Below W.heap.size W w' := by
  have step := Lib.hid (fun v l n k w (hk : k ≤ 4) (hl : l.length ≤ 1000) (hn : n < 4294967296) hown hbase => laid_any (W.heap.size + 1) v l n k w hk hl hn hown hbase)
  have C0 : CapAt (W.alloc (.cells #[.int .u32 cu, .int .u8 e, .int .u16 b, .int .u16 t, .int .u16 pm, .int .u16 ty, .int .u32 rs, .bool va] 25)) W.heap.size cu e b t pm ty rs va :=
    ⟨by simp [go_sem], by simp [go_sem], by simp [go_sem], by simp [go_sem], by simp [go_sem], by simp [go_sem], by simp [go_sem], by simp [go_sem]⟩
  have hb0 := Lib.hid ((Below.refl W.heap.size W).alloc (Nat.le_refl _) (.cells #[.int .u32 cu, .int .u8 e, .int .u16 b, .int .u16 t, .int .u16 pm, .int .u16 ty, .int .u32 rs, .bool va] 25))
  have hs0 := Lib.hid (show W.heap.size + 1 ≤ (W.alloc (.cells #[.int .u32 cu, .int .u8 e, .int .u16 b, .int .u16 t, .int .u16 pm, .int .u16 ty, .int .u32 rs, .bool va] 25)).heap.size from by simp)
  go_enter Tryz.func77, Tryz.ntmps77
  go_wp2_with fail
  generalize W.alloc (.cells #[.int .u32 cu, .int .u8 e, .int .u16 b, .int .u16 t, .int .u16 pm, .int .u16 ty, .int .u32 rs, .bool va] 25) = w0 at C0 hb0 hs0 ⊢
  refine (step.out (.slice none 0 0) [] cu 4 w0 (by omega) (by simp) (by omega) (World.ownsRow_nil _ _ _ _) hs0.out).mono ?_
  rintro e' w1 ⟨v1, rfl, ho, hl⟩
  have O1 := Lib.hid ho
  have C1 := C0.below hl (Nat.lt_succ_self _)
  have hb1 := Lib.hid (hb0.out.trans (hl.mono (Nat.le_succ _)))
  have hs1 := Lib.hid (Nat.le_trans hs0.out hl.size)
  clear ho hl C0
  obtain ⟨q0, q1, q2, q3, q4, q5, q6, q7⟩ := id C1
  go_wp2_with fail
  clear q0 q1 q2 q3 q4 q5 q6 q7
  refine (step.out v1 ([] ++ leB 4 cu) e 1 w1 (by omega) (by simp [leB_length]) (by omega) O1.out hs1.out).mono ?_
  rintro e' w2 ⟨v2, rfl, ho, hl⟩
  have O2 := Lib.hid ho
  have C2 := C1.below hl (Nat.lt_succ_self _)
  have hb2 := Lib.hid (hb1.out.trans (hl.mono (Nat.le_succ _)))
  have hs2 := Lib.hid (Nat.le_trans hs1.out hl.size)
  clear ho hl C1 O1
  obtain ⟨q0, q1, q2, q3, q4, q5, q6, q7⟩ := id C2
  go_wp2_with fail
  clear q0 q1 q2 q3 q4 q5 q6 q7
  refine (step.out v2 (([] ++ leB 4 cu) ++ leB 1 e) b 2 w2 (by omega) (by simp [leB_length]) (by omega) O2.out hs2.out).mono ?_
  rintro e' w3 ⟨v3, rfl, ho, hl⟩
  have O3 := Lib.hid ho
  have C3 := C2.below hl (Nat.lt_succ_self _)
  have hb3 := Lib.hid (hb2.out.trans (hl.mono (Nat.le_succ _)))
  have hs3 := Lib.hid (Nat.le_trans hs2.out hl.size)
  clear ho hl C2 O2
  obtain ⟨q0, q1, q2, q3, q4, q5, q6, q7⟩ := id C3
  go_wp2_with fail
  clear q0 q1 q2 q3 q4 q5 q6 q7
  refine (step.out v3 ((([] ++ leB 4 cu) ++ leB 1 e) ++ leB 2 b) t 2 w3 (by omega) (by simp [leB_length]) (by omega) O3.out hs3.out).mono ?_
  rintro e' w4 ⟨v4, rfl, ho, hl⟩
  have O4 := Lib.hid ho
  have C4 := C3.below hl (Nat.lt_succ_self _)
  have hb4 := Lib.hid (hb3.out.trans (hl.mono (Nat.le_succ _)))
  have hs4 := Lib.hid (Nat.le_trans hs3.out hl.size)
  clear ho hl C3 O3
  obtain ⟨q0, q1, q2, q3, q4, q5, q6, q7⟩ := id C4
  go_wp2_with fail
  clear q0 q1 q2 q3 q4 q5 q6 q7
  refine (step.out v4 (((([] ++ leB 4 cu) ++ leB 1 e) ++ leB 2 b) ++ leB 2 t) pm 2 w4 (by omega) (by simp [leB_length]) (by omega) O4.out hs4.out).mono ?_
  rintro e' w5 ⟨v5, rfl, ho, hl⟩
  have O5 := Lib.hid ho
  have C5 := C4.below hl (Nat.lt_succ_self _)
  have hb5 := Lib.hid (hb4.out.trans (hl.mono (Nat.le_succ _)))
  have hs5 := Lib.hid (Nat.le_trans hs4.out hl.size)
  clear ho hl C4 O4
  obtain ⟨q0, q1, q2, q3, q4, q5, q6, q7⟩ := id C5
  go_wp2_with fail
  clear q0 q1 q2 q3 q4 q5 q6 q7
  refine (step.out v5 ((((([] ++ leB 4 cu) ++ leB 1 e) ++ leB 2 b) ++ leB 2 t) ++ leB 2 pm) ty 2 w5 (by omega) (by simp [leB_length]) (by omega) O5.out hs5.out).mono ?_
  rintro e' w6 ⟨v6, rfl, ho, hl⟩
  have O6 := Lib.hid ho
  have C6 := C5.below hl (Nat.lt_succ_self _)
  have hb6 := Lib.hid (hb5.out.trans (hl.mono (Nat.le_succ _)))
  have hs6 := Lib.hid (Nat.le_trans hs5.out hl.size)
  clear ho hl C5 O5
  obtain ⟨q0, q1, q2, q3, q4, q5, q6, q7⟩ := id C6
  go_wp2_with fail
  clear q0 q1 q2 q3 q4 q5 q6 q7
  refine (step.out v6 (((((([] ++ leB 4 cu) ++ leB 1 e) ++ leB 2 b) ++ leB 2 t) ++ leB 2 pm) ++ leB 2 ty) rs 3 w6 (by omega) (by simp [leB_length]) (by omega) O6.out hs6.out).mono ?_
  rintro e' w7 ⟨v7, rfl, ho, hl⟩
  have O7 := Lib.hid ho
  have C7 := C6.below hl (Nat.lt_succ_self _)
  have hb7 := Lib.hid (hb6.out.trans (hl.mono (Nat.le_succ _)))
  have hs7 := Lib.hid (Nat.le_trans hs6.out hl.size)
  clear ho hl C6 O6
  have hcv := own_conv (l := bytesC cu e b t pm ty rs) O7.out (by rw [bytesC_length]; omega)
  go_wp2
  go_ret
  exact ⟨rfl, hb7.out⟩
/-- Is it sound? -/
def sndP (e b t pm ty rs : Nat) : Bool := decide (e ≤ 21 ∧ b < 4096 ∧ t < 4096 ∧ pm ≤ 255 ∧ ty < 4096 ∧ rs < 16777216)
theorem first6 (a b c d e f : Prop) : (a ∧ b ∧ c ∧ d ∧ e ∧ f) ∨ ¬ a ∨ (a ∧ ¬ b) ∨ (a ∧ b ∧ ¬ c) ∨ (a ∧ b ∧ c ∧ ¬ d) ∨ (a ∧ b ∧ c ∧ d ∧ ¬ e) ∨ (a ∧ b ∧ c ∧ d ∧ e ∧ ¬ f) := by
  by_cases a <;> by_cases b <;> by_cases c <;> by_cases d <;> by_cases e <;> by_cases f <;> simp [*]
theorem rSound_any (cu e b t pm ty rs : Nat) (va : Bool) (W : World) :
    Calls Tryz.prog 78 #[.agg #[.int .u32 cu, .int .u8 e, .int .u16 b, .int .u16 t, .int .u16 pm, .int .u16 ty, .int .u32 rs, .bool va]] W fun e' w' => e' = .returned (.bool (sndP e b t pm ty rs)) ∧ Below W.heap.size W w' := by
  obtain ⟨z, hz⟩ : ∃ z, z = sndP e b t pm ty rs := ⟨_, rfl⟩
  rw [← hz]
  rcases first6 ((e : Int) ≤ 21) ((b : Int) < 4096) ((t : Int) < 4096) ((pm : Int) ≤ 255) ((ty : Int) < 4096) ((rs : Int) < 16777216) with ⟨c1, c2, c3, c4, c5, c6⟩ | c1 | ⟨c1, c2⟩ | ⟨c1, c2, c3⟩ | ⟨c1, c2, c3, c4⟩ | ⟨c1, c2, c3, c4, c5⟩ | ⟨c1, c2, c3, c4, c5, c6⟩
  · rw [show z = true from by rw [hz]; exact decide_eq_true (by omega)]
    clear hz
    go_enter Tryz.func78, Tryz.ntmps78
    go_wp2
    go_ret
    refine ⟨?_, by go_grown⟩
    first | rfl | (show Ending.returned (.bool (decide ((rs : Int) < 16777216))) = _; rw [decide_eq_true c6])
  all_goals
    rw [show z = false from by rw [hz]; exact decide_eq_false (by omega)]
    clear hz
    go_enter Tryz.func78, Tryz.ntmps78
    go_wp2
    go_ret
    refine ⟨?_, by go_grown⟩
    first | rfl | (show Ending.returned (.bool (decide ((rs : Int) < 16777216))) = _; rw [decide_eq_false (by omega)])

end Go.Proofs.YtkmgdfcambdeeaaGreatDoor
namespace Go.Proofs.YtkmgdfcambdeeaaGreatDoor
open Go.RowKit
theorem eqF_step {P : Program} {d : Nat} {xs ys : Array Value} {f : Field} {fs : List Field} {w : World} {n : String} {ty off : Nat} {x y : Value} {r s : Bool}
    (hf : f.name = n ∧ f.type = ty ∧ f.offset = off) (hn : n ≠ "_") (hx : (part ty xs off).run P w = .ok x w) (hy : (part ty ys off).run P w = .ok y w) (hr : (Op.equalIn d ty x y).run P w = .ok r w)
    (h : (Op.eqFields d xs ys fs).run P w = .ok s w) : (Op.eqFields d xs ys (f :: fs)).run P w = .ok (r && s) w := by
  obtain ⟨rfl, rfl, rfl⟩ := hf
  unfold Op.eqFields
  rw [if_pos hn]
  simp only [Sem.run_bind, hx, hy, hr, Result.andThen_ok, Sem.run_ite]
  cases r
  · simp
  · simpa using h
theorem eqF_nil {P : Program} {d : Nat} {xs ys : Array Value} {w : World} : (Op.eqFields d xs ys []).run P w = .ok true w := rfl
end Go.Proofs.YtkmgdfcambdeeaaGreatDoor
namespace Go.Proofs.YtkmgdfcambdeeaaGreatDoor
open Go
set_option linter.unusedVariables false

/-- The number of k bytes a. -/
def mB (a : Nat) : Nat → Nat
  | 0 => 0
  | k + 1 => a + 256 * mB a k

theorem mB_succ (a k : Nat) : mB a (k + 1) = a + 256 * mB a k := rfl

theorem land_split (r a q m : Nat) (hr : r < 256) (ha : a < 256) : (r + 256 * q) &&& (a + 256 * m) = (r &&& a) + 256 * (q &&& m) := by
  have hra : r &&& a < 256 := Nat.lt_of_le_of_lt Nat.and_le_left hr
  apply Nat.eq_of_testBit_eq
  intro j
  rw [Nat.testBit_and, Nat.add_comm r, Nat.add_comm a, Nat.add_comm (r &&& a), show 256 = 2 ^ 8 from rfl,
    Nat.testBit_two_pow_mul_add q hr, Nat.testBit_two_pow_mul_add m ha, Nat.testBit_two_pow_mul_add (q &&& m) hra]
  split <;> simp [Nat.testBit_and]

/-- What a byte holds after each of the three steps. -/
def t1 (r : Nat) : Nat := (r / 2 &&& 0x55) + (r &&& 0x55)
def t2 (r : Nat) : Nat := (r / 4 &&& 0x33) + (r &&& 0x33)
def t3 (r : Nat) : Nat := (r / 16 + r) &&& 0x0f

theorem t1_lt : ∀ r, r < 256 → t1 r < 256 := by decide +kernel
theorem t2_lt : ∀ r, r < 256 → t2 (t1 r) < 256 ∧ t2 (t1 r) / 16 ≤ 4 ∧ t2 (t1 r) % 16 ≤ 4 := by decide +kernel
theorem t3_eq : ∀ r, r < 256 → t3 (t2 (t1 r)) = Lib.popAux 8 r ∧ Lib.popAux 8 r ≤ 8 := by decide +kernel
theorem c1 : ∀ r, r < 256 → ∀ c, c < 2 → (r / 2 + 128 * c) &&& 0x55 = r / 2 &&& 0x55 := by decide +kernel
theorem c2 : ∀ r, r < 256 → ∀ c, c < 4 → (r / 4 + 64 * c) &&& 0x33 = r / 4 &&& 0x33 := by decide +kernel
theorem c3 : ∀ r, r < 256 → t2 (t1 r) / 16 + t2 (t1 r) < 256 - 64 ∧ ∀ c, c ≤ 4 → (t2 (t1 r) / 16 + 16 * c + t2 (t1 r)) &&& 0x0f = t3 (t2 (t1 r)) := by decide +kernel

def p1 (k x : Nat) : Nat := (x / 2 &&& mB 0x55 k) + (x &&& mB 0x55 k)
def p2 (k x : Nat) : Nat := (x / 4 &&& mB 0x33 k) + (x &&& mB 0x33 k)
def p3 (k x : Nat) : Nat := (x / 16 + x) &&& mB 0x0f k

theorem p1_succ (k r q : Nat) (hr : r < 256) : p1 (k + 1) (r + 256 * q) = t1 r + 256 * p1 k q := by
  simp only [p1, mB_succ, t1]
  have e : (r + 256 * q) / 2 = (r / 2 + 128 * (q % 2)) + 256 * (q / 2) := by omega
  rw [e, land_split _ _ _ _ (by omega) (by omega), land_split _ _ _ _ hr (by omega), c1 r hr (q % 2) (by omega)]
  omega
theorem p2_succ (k r q : Nat) (hr : r < 256) : p2 (k + 1) (r + 256 * q) = t2 r + 256 * p2 k q := by
  simp only [p2, mB_succ, t2]
  have e : (r + 256 * q) / 4 = (r / 4 + 64 * (q % 4)) + 256 * (q / 4) := by omega
  rw [e, land_split _ _ _ _ (by omega) (by omega), land_split _ _ _ _ hr (by omega), c2 r hr (q % 4) (by omega)]
  omega
theorem p21_low : ∀ (k x : Nat), p2 k (p1 k x) % 16 ≤ 4
  | 0, x => by simp [p2, p1, mB]
  | k + 1, x => by
    have hr : x % 256 < 256 := by omega
    have e : x = x % 256 + 256 * (x / 256) := by omega
    rw [e, p1_succ k _ _ hr, p2_succ k _ _ (t1_lt _ hr)]
    have := (t2_lt _ hr).2.2
    omega
theorem p3_succ (k r y : Nat) (hr : r < 256) (hy : y % 16 ≤ 4) : p3 (k + 1) (t2 (t1 r) + 256 * y) = t3 (t2 (t1 r)) + 256 * p3 k y := by
  simp only [p3, mB_succ]
  have hs := (t2_lt r hr).1
  obtain ⟨h1, h2⟩ := c3 r hr
  have e : (t2 (t1 r) + 256 * y) / 16 + (t2 (t1 r) + 256 * y) = (t2 (t1 r) / 16 + 16 * (y % 16) + t2 (t1 r)) + 256 * (y / 16 + y) := by omega
  rw [e, land_split _ _ _ _ (by omega) (by omega), h2 _ hy]

theorem pop_add : ∀ (a b x : Nat), Lib.popAux (a + b) x = Lib.popAux a x + Lib.popAux b (x / 2 ^ a)
  | 0, b, x => by simp [Lib.popAux]
  | a + 1, b, x => by
    rw [show a + 1 + b = (a + b) + 1 by omega, Lib.popAux, pop_add a b, Lib.popAux, Nat.div_div_eq_div_mul, Nat.pow_succ, Nat.mul_comm 2]
    omega
theorem pop_mod : ∀ (a x : Nat), Lib.popAux a x = Lib.popAux a (x % 2 ^ a)
  | 0, x => rfl
  | a + 1, x => by
    rw [Lib.popAux, Lib.popAux, pop_mod a (x / 2), pop_mod a (x % 2 ^ (a + 1) / 2)]
    have e1 : x % 2 ^ (a + 1) % 2 = x % 2 := by rw [Nat.pow_succ, Nat.mod_mul_left_mod]
    have e2 : x % 2 ^ (a + 1) / 2 % 2 ^ a = x / 2 % 2 ^ a := by
      rw [Nat.pow_succ, Nat.mul_comm, Nat.mod_mul_right_div_self, Nat.mod_mod]
    rw [e1, e2]

/-- The three steps at k bytes: a byte holds how many of its bits are set. -/
theorem steps_succ (k x : Nat) : p3 (k + 1) (p2 (k + 1) (p1 (k + 1) x)) = Lib.popAux 8 (x % 256) + 256 * p3 k (p2 k (p1 k (x / 256))) := by
  have hr : x % 256 < 256 := by omega
  have e : x = x % 256 + 256 * (x / 256) := by omega
  conv => lhs; rw [e]
  rw [p1_succ k _ _ hr, p2_succ k _ _ (t1_lt _ hr), p3_succ k _ _ hr (p21_low k _), (t3_eq _ hr).1]
theorem steps_zero (x : Nat) : p3 0 (p2 0 (p1 0 x)) = 0 := by simp [p3, mB]

theorem sum1 (a0 a1 a2 a3 a4 a5 a6 a7 : Nat) (h0 : a0 ≤ 8) (h1 : a1 ≤ 8) (h2 : a2 ≤ 8) (h3 : a3 ≤ 8) (h4 : a4 ≤ 8) (h5 : a5 ≤ 8) (h6 : a6 ≤ 8) (h7 : a7 ≤ 8) :
    let y := a0 + 256 * (a1 + 256 * (a2 + 256 * (a3 + 256 * (a4 + 256 * (a5 + 256 * (a6 + 256 * a7))))))
    y + y / 256 = (a0 + a1) + 256 * ((a1 + a2) + 256 * ((a2 + a3) + 256 * ((a3 + a4) + 256 * ((a4 + a5) + 256 * ((a5 + a6) + 256 * ((a6 + a7) + 256 * a7)))))) := by
  intro y
  have : y / 256 = a1 + 256 * (a2 + 256 * (a3 + 256 * (a4 + 256 * (a5 + 256 * (a6 + 256 * a7))))) := by simp only [y]; omega
  rw [this]; simp only [y]; omega
theorem sum2 (a0 a1 a2 a3 a4 a5 a6 a7 : Nat) (h0 : a0 ≤ 16) (h1 : a1 ≤ 16) (h2 : a2 ≤ 16) (h3 : a3 ≤ 16) (h4 : a4 ≤ 16) (h5 : a5 ≤ 16) (h6 : a6 ≤ 16) (h7 : a7 ≤ 16) :
    let y := a0 + 256 * (a1 + 256 * (a2 + 256 * (a3 + 256 * (a4 + 256 * (a5 + 256 * (a6 + 256 * a7))))))
    y + y / 65536 = (a0 + a2) + 256 * ((a1 + a3) + 256 * ((a2 + a4) + 256 * ((a3 + a5) + 256 * ((a4 + a6) + 256 * ((a5 + a7) + 256 * (a6 + 256 * a7)))))) := by
  intro y
  have : y / 65536 = a2 + 256 * (a3 + 256 * (a4 + 256 * (a5 + 256 * (a6 + 256 * a7)))) := by simp only [y]; omega
  rw [this]; simp only [y]; omega
theorem sum3 (a0 a1 a2 a3 a4 a5 a6 a7 : Nat) (h0 : a0 ≤ 32) (h1 : a1 ≤ 32) (h2 : a2 ≤ 32) (h3 : a3 ≤ 32) (h4 : a4 ≤ 32) (h5 : a5 ≤ 32) (h6 : a6 ≤ 32) (h7 : a7 ≤ 32) :
    let y := a0 + 256 * (a1 + 256 * (a2 + 256 * (a3 + 256 * (a4 + 256 * (a5 + 256 * (a6 + 256 * a7))))))
    y + y / 4294967296 = (a0 + a4) + 256 * ((a1 + a5) + 256 * ((a2 + a6) + 256 * ((a3 + a7) + 256 * (a4 + 256 * (a5 + 256 * (a6 + 256 * a7)))))) := by
  intro y
  have : y / 4294967296 = a4 + 256 * (a5 + 256 * (a6 + 256 * a7)) := by simp only [y]; omega
  rw [this]; simp only [y]; omega

/-- The steps at eight bytes, and the sums behind them. -/
theorem ones_all (x : Nat) (hx : x < 2 ^ 64) : ∃ y, p3 8 (p2 8 (p1 8 x)) = y ∧ y + y / 256 < 2 ^ 64 ∧ (y + y / 256) + (y + y / 256) / 65536 < 2 ^ 64 ∧
    ((y + y / 256) + (y + y / 256) / 65536) + ((y + y / 256) + (y + y / 256) / 65536) / 4294967296 < 2 ^ 63 ∧
    (((y + y / 256) + (y + y / 256) / 65536) + ((y + y / 256) + (y + y / 256) / 65536) / 4294967296) % 128 = Lib.onesCount x := by
  refine ⟨_, rfl, ?_⟩
  have hp : ∀ z, Lib.popAux 8 (z % 256) ≤ 8 := fun z => (t3_eq _ (by omega)).2
  have hc : Lib.onesCount x = Lib.popAux 8 (x % 256) + (Lib.popAux 8 (x / 256 % 256) + (Lib.popAux 8 (x / 256 / 256 % 256) + (Lib.popAux 8 (x / 256 / 256 / 256 % 256) +
      (Lib.popAux 8 (x / 256 / 256 / 256 / 256 % 256) + (Lib.popAux 8 (x / 256 / 256 / 256 / 256 / 256 % 256) + (Lib.popAux 8 (x / 256 / 256 / 256 / 256 / 256 / 256 % 256) + Lib.popAux 8 (x / 256 / 256 / 256 / 256 / 256 / 256 / 256 % 256))))))) := by
    have h8 : ∀ b z, Lib.popAux (8 + b) z = Lib.popAux 8 (z % 256) + Lib.popAux b (z / 256) := fun b z => by rw [pop_add, pop_mod 8 z]
    unfold Lib.onesCount
    rw [show 64 = 8 + (8 + (8 + (8 + (8 + (8 + (8 + 8)))))) from rfl, h8, h8, h8, h8, h8, h8, h8, pop_mod 8 (x / 256 / 256 / 256 / 256 / 256 / 256 / 256)]
  simp only [steps_succ, steps_zero, hc]
  have b0 := hp x
  have b1 := hp (x / 256)
  have b2 := hp (x / 256 / 256)
  have b3 := hp (x / 256 / 256 / 256)
  have b4 := hp (x / 256 / 256 / 256 / 256)
  have b5 := hp (x / 256 / 256 / 256 / 256 / 256)
  have b6 := hp (x / 256 / 256 / 256 / 256 / 256 / 256)
  have b7 := hp (x / 256 / 256 / 256 / 256 / 256 / 256 / 256)
  clear hc
  generalize Lib.popAux 8 (x % 256) = a0 at *
  generalize Lib.popAux 8 (x / 256 % 256) = a1 at *
  generalize Lib.popAux 8 (x / 256 / 256 % 256) = a2 at *
  generalize Lib.popAux 8 (x / 256 / 256 / 256 % 256) = a3 at *
  generalize Lib.popAux 8 (x / 256 / 256 / 256 / 256 % 256) = a4 at *
  generalize Lib.popAux 8 (x / 256 / 256 / 256 / 256 / 256 % 256) = a5 at *
  generalize Lib.popAux 8 (x / 256 / 256 / 256 / 256 / 256 / 256 % 256) = a6 at *
  generalize Lib.popAux 8 (x / 256 / 256 / 256 / 256 / 256 / 256 / 256 % 256) = a7 at *
  simp only [Nat.mul_zero, Nat.add_zero]
  rw [sum1 a0 a1 a2 a3 a4 a5 a6 a7 b0 b1 b2 b3 b4 b5 b6 b7,
    sum2 (a0 + a1) (a1 + a2) (a2 + a3) (a3 + a4) (a4 + a5) (a5 + a6) (a6 + a7) a7 (by omega) (by omega) (by omega) (by omega) (by omega) (by omega) (by omega) (by omega),
    sum3 (a0 + a1 + (a2 + a3)) (a1 + a2 + (a3 + a4)) (a2 + a3 + (a4 + a5)) (a3 + a4 + (a5 + a6)) (a4 + a5 + (a6 + a7)) (a5 + a6 + a7) (a6 + a7) a7 (by omega) (by omega) (by omega) (by omega) (by omega) (by omega) (by omega) (by omega)]
  omega
/-- How many of the first k places are set. -/
def cnt (g : Nat → Bool) : Nat → Nat
  | 0 => 0
  | k + 1 => cnt g k + (g k).toNat
theorem cnt_front (k : Nat) : ∀ g : Nat → Bool, cnt g (k + 1) = (g 0).toNat + cnt (fun j => g (j + 1)) k := by
  induction k with
  | zero => intro g; simp [cnt]
  | succ k ih => intro g; rw [cnt, ih, cnt]; omega
theorem cnt_le (g : Nat → Bool) : ∀ k, cnt g k ≤ k
  | 0 => Nat.le_refl _
  | k + 1 => by have := cnt_le g k; have := Bool.toNat_le (g k); simp only [cnt]; omega
theorem cnt_congr {g h : Nat → Bool} : ∀ {k : Nat}, (∀ j, j < k → g j = h j) → cnt g k = cnt h k
  | 0, _ => rfl
  | k + 1, e => by rw [cnt, cnt, cnt_congr (fun j hj => e j (by omega)), e k (by omega)]
theorem cnt_add (g : Nat → Bool) (a : Nat) : ∀ b, cnt g (a + b) = cnt g a + cnt (fun j => g (a + j)) b
  | 0 => rfl
  | b + 1 => by rw [← Nat.add_assoc, cnt, cnt_add g a b, cnt]; omega
theorem cnt_zero {g : Nat → Bool} : ∀ {k : Nat}, (∀ j, j < k → g j = false) → cnt g k = 0
  | 0, _ => rfl
  | k + 1, e => by rw [cnt, cnt_zero (fun j hj => e j (by omega)), e k (by omega)]; rfl
theorem cnt_off {g : Nat → Bool} {n : Nat} (h : ∀ j, n ≤ j → g j = false) {m : Nat} (hm : n ≤ m) : cnt g m = cnt g n := by
  obtain ⟨d, rfl⟩ : ∃ d, m = n + d := ⟨m - n, by omega⟩
  rw [cnt_add, cnt_zero (g := fun j => g (n + j)) (fun j _ => h _ (by omega))]
  rfl
/-- The number whose lowest k bits are g 0, g 1, .. -/
def wd : (Nat → Bool) → Nat → Nat
  | _, 0 => 0
  | g, k + 1 => (g 0).toNat + 2 * wd (fun j => g (j + 1)) k
theorem wd_lt : ∀ (k : Nat) (g : Nat → Bool), wd g k < 2 ^ k
  | 0, _ => by simp [wd]
  | k + 1, g => by have := wd_lt k (fun j => g (j + 1)); have := Bool.toNat_le (g 0); rw [wd, Nat.pow_succ]; omega
theorem wd_bit : ∀ (k : Nat) (g : Nat → Bool) (j : Nat), (wd g k).testBit j = (decide (j < k) && g j)
  | 0, g, j => by simp [wd]
  | k + 1, g, 0 => by
    rw [wd, Nat.testBit_zero]
    cases g 0 <;> simp [Bool.toNat] <;> omega
  | k + 1, g, j + 1 => by
    rw [wd, Nat.testBit_succ, show ((g 0).toNat + 2 * wd (fun j => g (j + 1)) k) / 2 = wd (fun j => g (j + 1)) k by have := Bool.toNat_le (g 0); omega, wd_bit k]
    simp
theorem wd_pop : ∀ (k : Nat) (g : Nat → Bool), Lib.popAux k (wd g k) = cnt g k
  | 0, _ => rfl
  | k + 1, g => by
    rw [Lib.popAux, cnt_front, wd]
    have := Bool.toNat_le (g 0)
    rw [show ((g 0).toNat + 2 * wd (fun j => g (j + 1)) k) / 2 = wd (fun j => g (j + 1)) k by omega, wd_pop k]
    omega
theorem wd_congr {k : Nat} {g h : Nat → Bool} (e : ∀ j, j < k → g j = h j) : wd g k = wd h k := by
  apply Nat.eq_of_testBit_eq
  intro j
  rw [wd_bit, wd_bit]
  by_cases hj : j < k
  · rw [e j hj]
  · simp [hj]
theorem wd_zero {k : Nat} {g : Nat → Bool} : wd g k = 0 ↔ ∀ j, j < k → g j = false := by
  constructor
  · intro h j hj
    have := wd_bit k g j
    rw [h] at this
    simpa [hj] using this.symm
  · intro h
    apply Nat.eq_of_testBit_eq
    intro j
    rw [wd_bit]
    by_cases hj : j < k
    · simp [h j hj]
    · simp [hj]
theorem wd_and (k : Nat) (g h : Nat → Bool) : wd g k &&& wd h k = wd (fun j => g j && h j) k := by
  apply Nat.eq_of_testBit_eq
  intro j
  rw [Nat.testBit_and, wd_bit, wd_bit, wd_bit]
  by_cases hj : j < k <;> simp [hj]
theorem wd_or_bit (g : Nat → Bool) (r : Nat) (hr : r < 64) : wd g 64 ||| 2 ^ r = wd (fun j => g j || j == r) 64 := by
  apply Nat.eq_of_testBit_eq
  intro j
  rw [Nat.testBit_or, wd_bit, wd_bit, Nat.testBit_two_pow]
  by_cases hj : j < 64
  · by_cases e : r = j
    · subst e; simp [hj]
    · have e' : j ≠ r := fun h => e h.symm
      simp [hj, e, e']
  · have e : ¬ r = j := by omega
    simp [hj, e]
theorem wd_one (r : Nat) (hr : r < 64) : 2 ^ r = wd (fun j => j == r) 64 := by
  have := wd_or_bit (fun _ => false) r hr
  rw [wd_zero.2 (fun _ _ => rfl)] at this
  simpa using this
theorem wd_below (k : Nat) (hk : k ≤ 64) : 2 ^ k - 1 = wd (fun j => decide (j < k)) 64 := by
  apply Nat.eq_of_testBit_eq
  intro j
  rw [Nat.testBit_two_pow_sub_one, wd_bit]
  by_cases hj : j < 64
  · simp [hj]
  · have : ¬ j < k := by omega
    simp [hj, this]
theorem ones_wd (g : Nat → Bool) : Lib.onesCount (wd g 64) = cnt g 64 := wd_pop 64 g

/-- Word number i of a set of places. -/
def wdo (f : Nat → Bool) (i : Nat) : Nat := wd (fun j => f (64 * i + j)) 64
theorem wdo_lt (f : Nat → Bool) (i : Nat) : wdo f i < 2 ^ 64 := wd_lt _ _
theorem wdo_congr {f g : Nat → Bool} {i : Nat} (e : ∀ k, k / 64 = i → f k = g k) : wdo f i = wdo g i := wd_congr fun j hj => e _ (by omega)
theorem wdo_none (i : Nat) : wdo (fun _ => false) i = 0 := wd_zero.2 fun _ _ => rfl
/-- One place put. -/
def upd (f : Nat → Bool) (a : Nat) (v : Bool) : Nat → Bool := fun k => if k = a then v else f k
theorem upd_same (f : Nat → Bool) (a : Nat) (v : Bool) : upd f a v a = v := by simp [upd]
theorem upd_ne (f : Nat → Bool) {a k : Nat} (v : Bool) (h : k ≠ a) : upd f a v k = f k := by simp [upd, h]
theorem wdo_upd_ne (f : Nat → Bool) {a i : Nat} (v : Bool) (h : i ≠ a / 64) : wdo (upd f a v) i = wdo f i := wdo_congr fun k hk => upd_ne f v (by omega)
theorem wdo_set (f : Nat → Bool) (a : Nat) : wdo f (a / 64) ||| 2 ^ (a % 64) = wdo (upd f a true) (a / 64) := by
  unfold wdo
  rw [wd_or_bit _ _ (by omega)]
  refine wd_congr fun j hj => ?_
  by_cases e : j = a % 64
  · have : 64 * (a / 64) + j = a := by omega
    simp [upd, e]; omega
  · have : 64 * (a / 64) + j ≠ a := by omega
    simp [upd, e, this]
theorem wdo_get (f : Nat → Bool) (a : Nat) : wdo f (a / 64) &&& 2 ^ (a % 64) = if f a then 2 ^ (a % 64) else 0 := by
  have ha : 64 * (a / 64) + a % 64 = a := by omega
  rw [wd_one _ (by omega : a % 64 < 64)]
  unfold wdo
  rw [wd_and]
  by_cases h : f a = true
  · rw [if_pos h]
    refine wd_congr fun j hj => ?_
    by_cases e : j = a % 64
    · subst e; simp [ha, h]
    · simp [e]
  · rw [if_neg h]
    refine wd_zero.2 fun j hj => ?_
    by_cases e : j = a % 64
    · subst e; simp [ha, h]
    · simp [e]

/-- The places from lo on, below hi. -/
def inr (lo hi : Nat) : Nat → Bool := fun k => decide (lo ≤ k) && decide (k < hi)

/-- Words cleared one behind the other, of the places from lo on below hi: what is left, and how many were set. -/
def cstep (lo hi : Nat) (s : (Nat → Bool) × Nat) (x : Nat) : (Nat → Bool) × Nat :=
  (fun k => s.1 k && !(inr lo hi k && k / 64 == x), s.2 + cnt (fun j => s.1 (64 * x + j) && inr lo hi (64 * x + j)) 64)
def cfold (lo hi : Nat) (f : Nat → Bool) (l : List Nat) : (Nat → Bool) × Nat := l.foldl (cstep lo hi) (f, 0)
theorem cfold_snoc (lo hi : Nat) (f : Nat → Bool) (l : List Nat) (x : Nat) : cfold lo hi f (l ++ [x]) = cstep lo hi (cfold lo hi f l) x := by simp [cfold]
theorem cfold_range (lo hi : Nat) (f : Nat → Bool) : ∀ m, (∀ k, (cfold lo hi f ((List.range m).map (lo / 64 + ·))).1 k = (f k && !(inr lo hi k && decide (k < 64 * (lo / 64 + m))))) ∧
    (cfold lo hi f ((List.range m).map (lo / 64 + ·))).2 = cnt (fun k => f k && inr lo hi k) (64 * (lo / 64 + m))
  | 0 => by
    constructor
    · intro k
      have : (inr lo hi k && decide (k < 64 * (lo / 64 + 0))) = false := by
        simp only [inr, Bool.and_eq_false_iff, decide_eq_false_iff_not]; omega
      rw [this]; simp [cfold]
    · rw [cnt_zero]
      · rfl
      · intro j hj
        have : inr lo hi j = false := by simp only [inr, Bool.and_eq_false_iff, decide_eq_false_iff_not]; omega
        simp [this]
  | m + 1 => by
    obtain ⟨h1, h2⟩ := cfold_range lo hi f m
    rw [List.range_succ, List.map_append, List.map_singleton, cfold_snoc]
    constructor
    · intro k
      simp only [cstep, h1]
      by_cases hk : k / 64 = lo / 64 + m
      · have e1 : decide (k < 64 * (lo / 64 + (m + 1))) = true := by simp; omega
        have e2 : (k / 64 == lo / 64 + m) = true := by simp [hk]
        rw [e1, e2]
        cases f k <;> cases inr lo hi k <;> simp
      · have e2 : (k / 64 == lo / 64 + m) = false := by simp [hk]
        have e1 : decide (k < 64 * (lo / 64 + (m + 1))) = decide (k < 64 * (lo / 64 + m)) := by
          rw [decide_eq_decide]; omega
        rw [e1, e2]
        simp
    · simp only [cstep, h2]
      rw [show 64 * (lo / 64 + (m + 1)) = 64 * (lo / 64 + m) + 64 by omega, cnt_add]
      congr 1
      refine cnt_congr fun j hj => ?_
      rw [h1]
      have : decide (64 * (lo / 64 + m) + j < 64 * (lo / 64 + m)) = false := by simp
      rw [this]; simp
/-- All words that hold places from lo on, below hi. -/
theorem cfold_all (lo hi m n : Nat) (f : Nat → Bool) (hm : hi ≤ 64 * (lo / 64 + m)) (hn : hi ≤ n) :
    (∀ k, (cfold lo hi f ((List.range m).map (lo / 64 + ·))).1 k = (f k && !inr lo hi k)) ∧ (cfold lo hi f ((List.range m).map (lo / 64 + ·))).2 = cnt (fun k => f k && inr lo hi k) n := by
  obtain ⟨h1, h2⟩ := cfold_range lo hi f m
  constructor
  · intro k
    rw [h1]
    by_cases hk : k < 64 * (lo / 64 + m)
    · simp [hk]
    · have : inr lo hi k = false := by simp only [inr, Bool.and_eq_false_iff, decide_eq_false_iff_not]; omega
      simp [this]
  · rw [h2]
    have off : ∀ j, hi ≤ j → (f j && inr lo hi j) = false := fun j hj => by
      have : inr lo hi j = false := by simp only [inr, Bool.and_eq_false_iff, decide_eq_false_iff_not]; omega
      simp [this]
    rw [cnt_off off hm, cnt_off off hn]

theorem cfold_le (lo hi : Nat) (f : Nat → Bool) (l : List Nat) : (cfold lo hi f l).2 ≤ 64 * l.length := by
  have : ∀ (l : List Nat) (s : (Nat → Bool) × Nat), (l.foldl (cstep lo hi) s).2 ≤ s.2 + 64 * l.length := by
    intro l
    induction l with
    | nil => intro s; simp
    | cons x l ih =>
      intro s
      have h1 := ih (cstep lo hi s x)
      have h2 := cnt_le (fun j => s.1 (64 * x + j) && inr lo hi (64 * x + j)) 64
      simp only [cstep, List.foldl_cons, List.length_cons] at *
      omega
  have := this l (f, 0)
  simpa [cfold] using this
/-- What is left of a word, and what is left of the others. -/
theorem cstep_same (lo hi : Nat) (s : (Nat → Bool) × Nat) (x : Nat) : wdo (cstep lo hi s x).1 x = wd (fun j => s.1 (64 * x + j) && !inr lo hi (64 * x + j)) 64 := by
  refine wd_congr fun j hj => ?_
  have : ((64 * x + j) / 64 == x) = true := by simp; omega
  simp [cstep, this]
theorem cstep_ne (lo hi : Nat) (s : (Nat → Bool) × Nat) {x i : Nat} (h : i ≠ x) : wdo (cstep lo hi s x).1 i = wdo s.1 i := by
  refine wdo_congr fun k hk => ?_
  have : (k / 64 == x) = false := by simp; omega
  simp [cstep, this]
end Go.Proofs.YtkmgdfcambdeeaaGreatDoor
namespace Go.Proofs.YtkmgdfcambdeeaaGreatDoor
open Go.RowKit
set_option linter.unusedVariables false


theorem pow_min (k : Nat) : IntKind.u64.wrap (IntKind.u64.wrap (2 ^ min k 64) - 1) = ((2 ^ min k 64 - 1 : Nat) : Int) := by
  rw [IntKind.wrap_u64, IntKind.wrap_u64]
  by_cases h : 64 ≤ k
  · rw [Nat.min_eq_right h]; rfl
  · have h' : min k 64 < 64 := by omega
    have hp : 2 ^ min k 64 ≤ 2 ^ 63 := Nat.pow_le_pow_right (by decide) (by omega)
    have h1 : 1 ≤ 2 ^ min k 64 := Nat.one_le_two_pow
    have hc : ((2 : Int) ^ min k 64) = ((2 ^ min k 64 : Nat) : Int) := by simp
    rw [hc]
    generalize 2 ^ min k 64 = p at *
    omega
theorem and_wd (g h : Nat → Bool) : bits .and .u64 (wd g 64 : Nat) (wd h 64 : Nat) = (wd (fun j => g j && h j) 64 : Nat) := by
  rw [bits_and_u64_nat _ _ (wd_lt _ _) (wd_lt _ _), wd_and]
theorem andnot_wd (g h : Nat → Bool) : bits .andNot .u64 (wd g 64 : Nat) (wd h 64 : Nat) = (wd (fun j => g j && !h j) 64 : Nat) := by
  have e : (BitVec.ofInt 64 ((wd g 64 : Nat) : Int) &&& ~~~BitVec.ofInt 64 ((wd h 64 : Nat) : Int)).toNat = wd (fun j => g j && !h j) 64 := by
    apply Nat.eq_of_testBit_eq
    intro j
    rw [BitVec.testBit_toNat, BitVec.ofInt_natCast, BitVec.ofInt_natCast, wd_bit]
    by_cases hj : j < 64
    · simp only [BitVec.getLsbD_and, BitVec.getLsbD_not, BitVec.getLsbD_ofNat, wd_bit, hj]
      simp
    · simp [hj]
  show IntKind.u64.wrap ((BitVec.ofInt 64 ((wd g 64 : Nat) : Int) &&& ~~~BitVec.ofInt 64 ((wd h 64 : Nat) : Int)).toNat : Int) = _
  rw [e, IntKind.wrap_u64]
  have := wd_lt 64 (fun j => g j && !h j)
  omega

theorem bit_any (k : Nat) (w : World) (hk : k ≤ 1048576) : Calls Tryz.prog 130 #[.int .i64 k] w fun e w' => e = .returned (.int .u64 (2 ^ (k % 64) : Nat)) ∧ w = w' := by
  have hp : IntKind.u64.wrap (2 ^ (k % 64)) = ((2 ^ (k % 64) : Nat) : Int) := by
    have h1 : 2 ^ (k % 64) ≤ 2 ^ 63 := Nat.pow_le_pow_right (by decide) (by omega)
    have hc : ((2 : Int) ^ (k % 64)) = ((2 ^ (k % 64) : Nat) : Int) := by simp
    rw [IntKind.wrap_u64, hc]
    generalize 2 ^ (k % 64) = p at *
    omega
  have H := Lib.hid hp
  clear hp
  go_enter Tryz.func130, Tryz.ntmps130
  go_wp2
  go_ret
  exact ⟨ret_int H.out, rfl⟩

theorem below_any (k : Int) (w : World) (h0 : -10000000 < k) (hk : k ≤ 10000000) : Calls Tryz.prog 208 #[.int .i64 k] w fun e w' => e = .returned (.int .u64 (wd (fun j => decide ((j : Int) < k)) 64 : Nat)) ∧ w = w' := by
  have H := Lib.hid (pow_min k.toNat)
  have e1 := Lib.hid (wd_below (min k.toNat 64) (by omega))
  by_cases hlt : k < 0
  · go_enter Tryz.func208, Tryz.ntmps208
    go_wp2
    go_ret
    refine ⟨ret_int ?_, rfl⟩
    rw [wd_zero.2 (fun j _ => by simp; omega)]; rfl
  · have hge : 0 ≤ k := by omega
    go_enter Tryz.func208, Tryz.ntmps208
    go_wp2
    go_ret
    refine ⟨ret_int ?_, rfl⟩
    show IntKind.u64.wrap (IntKind.u64.wrap (2 ^ min k.toNat 64) - 1) = _
    rw [H.out, e1.out]
    exact congrArg Nat.cast (wd_congr fun j hj => by rw [decide_eq_decide]; omega)

theorem ones_c (x : Nat) (w : World) (hx : x < 2 ^ 64) : Calls Tryz.prog 171 #[.int .u64 x] w fun e w' => e = .returned (.int .i64 (Lib.onesCount x)) ∧ w = w' := by
  obtain ⟨y, hy, s1, s2, s3, s4⟩ := ones_all x hx
  have l1 : p1 8 x < 18446744073709551616 ∧ x / 2 &&& mB 0x55 8 ≤ mB 0x55 8 ∧ x &&& mB 0x55 8 ≤ mB 0x55 8 := by
    have a : x / 2 &&& mB 0x55 8 ≤ mB 0x55 8 := Nat.and_le_right
    have b : x &&& mB 0x55 8 ≤ mB 0x55 8 := Nat.and_le_right
    refine ⟨?_, a, b⟩
    have : mB 0x55 8 = 6148914691236517205 := by rfl
    unfold p1; omega
  have l2 : p2 8 (p1 8 x) < 7600000000000000000 := by
    have a : p1 8 x / 4 &&& mB 0x33 8 ≤ mB 0x33 8 := Nat.and_le_right
    have b : p1 8 x &&& mB 0x33 8 ≤ mB 0x33 8 := Nat.and_le_right
    have : mB 0x33 8 = 3689348814741910323 := by rfl
    rw [show p2 8 (p1 8 x) = (p1 8 x / 4 &&& mB 0x33 8) + (p1 8 x &&& mB 0x33 8) from rfl]; omega
  have e1 : IntKind.u64.wrap (bits BinOp.and IntKind.u64 ((x : Int) / 2) 6148914691236517205 + bits BinOp.and IntKind.u64 (x : Int) 6148914691236517205) = (p1 8 x : Nat) := by
    have a := bits_and_u64_nat (x / 2) 6148914691236517205 (by omega) (by decide)
    have b := bits_and_u64_nat x 6148914691236517205 (by omega) (by decide)
    have a' : bits BinOp.and IntKind.u64 ((x : Int) / 2) 6148914691236517205 = ((x / 2 &&& mB 0x55 8 : Nat) : Int) := a
    have b' : bits BinOp.and IntKind.u64 (x : Int) 6148914691236517205 = ((x &&& mB 0x55 8 : Nat) : Int) := b
    rw [a', b', IntKind.wrap_u64]
    have := l1.1
    unfold p1 at *
    omega
  have e2 : IntKind.u64.wrap (bits BinOp.and IntKind.u64 ((p1 8 x : Int) / 4) 3689348814741910323 + bits BinOp.and IntKind.u64 (p1 8 x : Int) 3689348814741910323) = (p2 8 (p1 8 x) : Nat) := by
    have a := bits_and_u64_nat (p1 8 x / 4) 3689348814741910323 (by omega) (by decide)
    have b := bits_and_u64_nat (p1 8 x) 3689348814741910323 (by omega) (by decide)
    have a' : bits BinOp.and IntKind.u64 ((p1 8 x : Int) / 4) 3689348814741910323 = ((p1 8 x / 4 &&& mB 0x33 8 : Nat) : Int) := a
    have b' : bits BinOp.and IntKind.u64 (p1 8 x : Int) 3689348814741910323 = ((p1 8 x &&& mB 0x33 8 : Nat) : Int) := b
    rw [a', b', IntKind.wrap_u64]
    have h2 := l2
    rw [show p2 8 (p1 8 x) = (p1 8 x / 4 &&& mB 0x33 8) + (p1 8 x &&& mB 0x33 8) from rfl] at h2 ⊢
    omega
  generalize hz : p2 8 (p1 8 x) = z at *
  have e3 : bits BinOp.and IntKind.u64 (IntKind.u64.wrap ((z : Int) / 16 + z)) 1085102592571150095 = (y : Nat) := by
    have e : IntKind.u64.wrap ((z : Int) / 16 + z) = ((z / 16 + z : Nat) : Int) := by rw [IntKind.wrap_u64]; omega
    rw [e]
    have a := bits_and_u64_nat (z / 16 + z) 1085102592571150095 (by omega) (by decide)
    have hy' : z / 16 + z &&& 1085102592571150095 = y := hy
    rw [hy'] at a
    exact a
  have e4 : IntKind.u64.wrap ((y : Int) + (y : Int) / 256) = ((y + y / 256 : Nat) : Int) := by rw [IntKind.wrap_u64]; omega
  generalize hz4 : y + y / 256 = z4 at *
  have e5 : IntKind.u64.wrap ((z4 : Int) + (z4 : Int) / 65536) = ((z4 + z4 / 65536 : Nat) : Int) := by rw [IntKind.wrap_u64]; omega
  generalize hz5 : z4 + z4 / 65536 = z5 at *
  have e6 : IntKind.u64.wrap ((z5 : Int) + (z5 : Int) / 4294967296) = ((z5 + z5 / 4294967296 : Nat) : Int) := by rw [IntKind.wrap_u64]; omega
  generalize hz6 : z5 + z5 / 4294967296 = z6 at *
  have H := Lib.hid s4
  have hz7 : (z6 : Int) < 9223372036854775808 := by omega
  clear hz hz4 hz5 hz6 hy s1 s2 s3 s4 l1 l2
  go_enter Tryz.func171, Tryz.ntmps171
  go_wp2
  go_ret
  refine ⟨ret_int ?_, rfl⟩
  show bits BinOp.and IntKind.i64 (z6 : Int) 127 = _
  rw [← H.out]
  exact bits_mask .i64 63 (by decide) (fun n h0 h1 => by rw [IntKind.wrap_i64]; omega) 7 (by decide) z6 (by omega) (by omega)

/-- Below block number B, and but for block wb, the world is as it was. -/
structure Off (B wb : Nat) (w w' : World) : Prop where
  os : w'.os = w.os
  tape : w'.tape = w.tape
  output : w'.output = w.output
  size : w.heap.size ≤ w'.heap.size
  block : ∀ k, k < B → k ≠ wb → w'.heap[k]? = w.heap[k]?
section
variable {B wb : Nat} {a b c w w' : World}
theorem Off.refl (B wb : Nat) (w : World) : Off B wb w w := ⟨rfl, rfl, rfl, Nat.le_refl _, fun _ _ _ => rfl⟩
theorem Off.trans (h : Off B wb a b) (k : Off B wb b c) : Off B wb a c :=
  ⟨k.os.trans h.os, k.tape.trans h.tape, k.output.trans h.output, Nat.le_trans h.size k.size, fun i hi hn => (k.block i hi hn).trans (h.block i hi hn)⟩
theorem Off.mono (h : Off B wb w w') {B' : Nat} (hB : B' ≤ B) : Off B' wb w w' := ⟨h.os, h.tape, h.output, h.size, fun k hk hn => h.block k (by omega) hn⟩
theorem Off.drew (h : Off B wb a w) : Off B wb a w.drew := ⟨h.os, h.tape, h.output, h.size, h.block⟩
theorem Off.drewN (h : Off B wb a w) (n : Nat) : Off B wb a (w.drewN n) := ⟨h.os, h.tape, h.output, h.size, h.block⟩
theorem Off.of_below (h : Below B w w') : Off B wb w w' := ⟨h.os, h.tape, h.output, h.size, fun k hk _ => h.block k hk⟩
theorem Off.below (h : Off B wb w w') {B' : Nat} (hB : B' ≤ B) (hw : B' ≤ wb) : Below B' w w' := ⟨h.os, h.tape, h.output, h.size, fun k hk => h.block k (by omega) (by omega)⟩
theorem Off.alloc (h : Off B wb a w) (hB : B ≤ w.heap.size) (o : Obj) : Off B wb a (w.alloc o) := h.trans (Off.of_below ((Below.refl B w).alloc hB o))
theorem Off.setCell (h : Off B wb a w) {p : Addr} (hp : B ≤ p.block ∨ p.block = wb) (u : Value) : Off B wb a (w.setCell p u) :=
  h.trans ⟨rfl, rfl, rfl, by simp [World.setCell], fun k hk hn => Below.heap_setCell _ _ _ _ (by omega)⟩
theorem Off.cell (h : Off B wb w w') {p : Addr} (hp : p.block < B) (hn : p.block ≠ wb) : w'.cell? p = w.cell? p := World.cell?_of_block (w := w) (h.block p.block hp hn)
theorem Off.frozen (h : Off B wb w w') {p : Addr} (hp : p.block < B) (hn : p.block ≠ wb) : w'.frozen? p = w.frozen? p := World.frozen?_of_block (w := w) (h.block p.block hp hn)
end

/-- At block b stands a map of n places, its words in block wb; f tells which are set. -/
structure MapAt (W : World) (b wb n : Nat) (f : Nat → Bool) : Prop where
  h0 : W.cell? ⟨b, 0, none⟩ = some (.slice (some ⟨wb, 0, none⟩) ((n + 63) / 64) ((n + 63) / 64))
  h1 : W.cell? ⟨b, 1, none⟩ = some (.int .i64 n)
  h2 : W.cell? ⟨b, 2, none⟩ = some (.bool true)
  ws : ∀ i, i < (n + 63) / 64 → W.cell? ⟨wb, i, none⟩ = some (.int .u64 (wdo f i : Nat)) ∧ W.frozen? ⟨wb, i, none⟩ = false
  ne : b ≠ wb
  lb : b < W.heap.size
  lw : wb < W.heap.size
  off : ∀ k, n ≤ k → f k = false
  le : n ≤ 1048576
section
variable {W W' : World} {b wb n B : Nat} {f g : Nat → Bool}
theorem MapAt.drew (h : MapAt W b wb n f) : MapAt W.drew b wb n f := ⟨h.h0, h.h1, h.h2, h.ws, h.ne, h.lb, h.lw, h.off, h.le⟩
theorem MapAt.drewN (h : MapAt W b wb n f) (k : Nat) : MapAt (W.drewN k) b wb n f := ⟨h.h0, h.h1, h.h2, h.ws, h.ne, h.lb, h.lw, h.off, h.le⟩
theorem MapAt.keep (h : MapAt W b wb n f) (hk : ∀ k, k = b ∨ k = wb → W'.heap[k]? = W.heap[k]?) (hs : W.heap.size ≤ W'.heap.size) : MapAt W' b wb n f :=
  ⟨(World.cell?_of_block (hk b (.inl rfl))).trans h.h0, (World.cell?_of_block (hk b (.inl rfl))).trans h.h1, (World.cell?_of_block (hk b (.inl rfl))).trans h.h2,
    fun i hi => ⟨(World.cell?_of_block (hk wb (.inr rfl))).trans (h.ws i hi).1, (World.frozen?_of_block (hk wb (.inr rfl))).trans (h.ws i hi).2⟩, h.ne, Nat.lt_of_lt_of_le h.lb hs, Nat.lt_of_lt_of_le h.lw hs, h.off, h.le⟩
theorem MapAt.below (h : MapAt W b wb n f) (hb : Below B W W') (h1 : b < B) (h2 : wb < B) : MapAt W' b wb n f :=
  h.keep (fun k hk => hb.block k (by rcases hk with rfl | rfl <;> omega)) hb.size
theorem MapAt.alloc (h : MapAt W b wb n f) (o : Obj) : MapAt (W.alloc o) b wb n f :=
  h.below ((Below.refl _ W).alloc (Nat.le_refl _) o) h.lb h.lw
theorem MapAt.setOther (h : MapAt W b wb n f) {p : Addr} (h1 : p.block ≠ b) (h2 : p.block ≠ wb) (u : Value) : MapAt (W.setCell p u) b wb n f :=
  h.keep (fun k hk => Below.heap_setCell _ _ _ _ (by rcases hk with rfl | rfl <;> omega)) (by simp [World.setCell])
theorem MapAt.congr (h : MapAt W b wb n f) (e : ∀ k, f k = g k) : MapAt W b wb n g := by
  have : f = g := funext e
  exact this ▸ h
/-- One word stored: the others stand as they stood. -/
theorem MapAt.store (h : MapAt W b wb n f) {i : Nat} (hi : i < (n + 63) / 64) (hne : ∀ j, j ≠ i → wdo g j = wdo f j) (hoff : ∀ k, n ≤ k → g k = false) :
    MapAt (W.setCell ⟨wb, i, none⟩ (.int .u64 (wdo g i : Nat))) b wb n g := by
  have hb : ∀ o, (W.setCell ⟨wb, i, none⟩ (.int .u64 (wdo g i : Nat))).cell? ⟨b, o, none⟩ = W.cell? ⟨b, o, none⟩ := fun o => World.cell?_setCell_other _ _ _ _ (fun e => h.ne (by simpa using (congrArg Addr.block e).symm))
  refine ⟨(hb 0).trans h.h0, (hb 1).trans h.h1, (hb 2).trans h.h2, fun j hj => ⟨?_, ?_⟩, h.ne, by simpa [World.setCell] using h.lb, by simpa [World.setCell] using h.lw, hoff, h.le⟩
  · by_cases e : j = i
    · subst e
      exact World.cell?_setCell_same' _ _ _ (by rw [(h.ws j hj).1]; rfl)
    · rw [World.cell?_setCell_other _ _ _ _ (fun e' => e (by simpa using (congrArg Addr.off e').symm)), (h.ws j hj).1, hne j e]
  · rw [World.frozen?_setCell]; exact (h.ws j hj).2
end

theorem info64 : (Tryz.prog.info? 140).map (fun i => (i.zero, i.size, i.bytes)) = some (some (.int .u64 0), 1, 8) := by kernel_rfl
theorem made_map (n : Nat) (w : World) (h : n ≤ 1048576) : MapAt ((w.alloc (.cells (madeCells #[.int .u64 0] ((n + 63) / 64)) 140)).alloc (.cells #[.slice (some ⟨w.heap.size, 0, none⟩) ((n + 63) / 64) ((n + 63) / 64), .int .i64 n, .bool true] 170)) (w.heap.size + 1) w.heap.size n (fun _ => false) := by
  obtain ⟨w1, hw1⟩ : ∃ w1, w1 = w.alloc (.cells (madeCells #[.int .u64 0] ((n + 63) / 64)) 140) := ⟨_, rfl⟩
  have hs : w1.heap.size = w.heap.size + 1 := by rw [hw1]; simp
  rw [← hw1]
  have hold : ∀ i, (w1.alloc (.cells #[.slice (some ⟨w.heap.size, 0, none⟩) ((n + 63) / 64) ((n + 63) / 64), .int .i64 n, .bool true] 170)).cell? ⟨w.heap.size, i, none⟩ = w1.cell? ⟨w.heap.size, i, none⟩ := fun i => World.cell?_alloc_lt _ _ _ (by show w.heap.size < _; omega)
  refine ⟨by rw [← hs]; simp, by rw [← hs]; simp, by rw [← hs]; simp, fun i hi => ⟨?_, ?_⟩, by omega, by simp [hs], by simp [hs]; omega, fun _ _ => rfl, h⟩
  · rw [hold, hw1, wdo_none]
    simp [madeCells, hi, Nat.mod_one]
  · rw [((Below.refl _ w1).alloc (Nat.le_refl _) _).frozen (p := ⟨w.heap.size, i, none⟩) (by show w.heap.size < _; omega), hw1]
    simp
theorem new_yes (n : Nat) (w : World) (h : n ≤ 1048576) : Calls Tryz.prog 67 #[.int .i64 n] w fun e w' => e = .returned (.pointer (some ⟨w.heap.size + 1, 0, none⟩)) ∧ MapAt w' (w.heap.size + 1) w.heap.size n (fun _ => false) ∧ Below w.heap.size w w' ∧ w.heap.size + 2 = w'.heap.size := by
  have hmk : ∀ w, (Instr.makeSlice 168 (.int .i64 (((n : Int) + 64 - 1) / 64)) (.int .i64 (((n : Int) + 64 - 1) / 64))).run Tryz.prog w = .ok (.slice (some ⟨w.heap.size, 0, none⟩) ((n + 63) / 64) ((n + 63) / 64)) (w.alloc (.cells (madeCells #[.int .u64 0] ((n + 63) / 64)) 140)) := fun w => by
    have e : ((n : Int) + 64 - 1) / 64 = (((n + 63) / 64 : Nat) : Int) := by omega
    rw [e]
    exact run_make_row' 168 140 (.int .u64 0) 8 Tryz.underlying168 info64 rfl .i64 .i64 ((n + 63) / 64) (by omega) (by omega) w
  have H := Lib.hid (made_map n w h)
  go_enter Tryz.func67, Tryz.ntmps67
  go_wp2
  go_ret
  refine ⟨rfl, H.out, ((Below.refl _ w).alloc (Nat.le_refl _) _).alloc (by simp) _, by simp⟩

theorem len_any (b wb n : Nat) (f : Nat → Bool) (w : World) (H : MapAt w b wb n f) : Calls Tryz.prog 110 #[.pointer (some ⟨b, 0, none⟩)] w fun e w' => e = .returned (.int .i64 n) ∧ w = w' := by
  have c1 := H.h1
  clear H
  go_enter Tryz.func110, Tryz.ntmps110
  go_wp2
  go_ret
  exact ⟨rfl, rfl⟩
theorem has_yes (b wb n : Nat) (f : Nat → Bool) (a : Nat) (w : World) (H : MapAt w b wb n f) (h : a < n) : Calls Tryz.prog 129 #[.pointer (some ⟨b, 0, none⟩), .int .i64 a] w fun e w' => e = .returned (.bool true) ∧ w = w' := by
  have hL := Lib.hid (len_any b wb n f w H)
  clear H
  go_enter Tryz.func129, Tryz.ntmps129
  go_wp2_with fail
  refine hL.out.mono ?_
  rintro e w' ⟨rfl, rfl⟩
  go_wp2
  go_ret
  exact ⟨rfl, rfl⟩
theorem or_wdo (f : Nat → Bool) (a : Nat) : bits BinOp.or IntKind.u64 (wdo f (a / 64) : Nat) (2 ^ (a % 64)) = (wdo (upd f a true) (a / 64) : Nat) := by
  have hp : 2 ^ (a % 64) ≤ 2 ^ 63 := Nat.pow_le_pow_right (by decide) (by omega)
  have hc : ((2 : Int) ^ (a % 64)) = ((2 ^ (a % 64) : Nat) : Int) := by simp
  rw [hc, bits_or_u64_nat _ _ (wdo_lt _ _) (by omega), wdo_set]
theorem andnot_wdo (f : Nat → Bool) (a : Nat) : bits BinOp.andNot IntKind.u64 (wdo f (a / 64) : Nat) (2 ^ (a % 64)) = (wdo (upd f a false) (a / 64) : Nat) := by
  have hc : ((2 : Int) ^ (a % 64)) = ((wd (fun j => j == a % 64) 64 : Nat) : Int) := by rw [← wd_one _ (by omega : a % 64 < 64)]; simp
  rw [hc]
  refine (andnot_wd _ _).trans (congrArg Nat.cast (wd_congr fun j hj => ?_))
  by_cases e : j = a % 64
  · have e2 : 64 * (a / 64) + j = a := by omega
    rw [e2, upd_same]; simp [e]
  · rw [upd_ne f false (by omega)]; simp [e]
theorem and_wdo (f : Nat → Bool) (a : Nat) : bits BinOp.and IntKind.u64 (wdo f (a / 64) : Nat) (2 ^ (a % 64)) = ((if f a then 2 ^ (a % 64) else 0 : Nat) : Int) := by
  have hp : 2 ^ (a % 64) ≤ 2 ^ 63 := Nat.pow_le_pow_right (by decide) (by omega)
  have hc : ((2 : Int) ^ (a % 64)) = ((2 ^ (a % 64) : Nat) : Int) := by simp
  rw [hc, bits_and_u64_nat _ _ (wdo_lt _ _) (by omega), wdo_get]
set_option maxRecDepth 100000 in
theorem put_set (b wb n : Nat) (f : Nat → Bool) (a : Nat) (w : World) (H : MapAt w b wb n f) (h : a < n) : Calls Tryz.prog 74 #[.pointer (some ⟨b, 0, none⟩), .int .i64 a, .bool true] w fun e w' => e = .returned (.bool true) ∧ MapAt w' b wb n (upd f a true) ∧ Off w.heap.size wb w w' := by
  have hL := Lib.hid (has_yes b wb n f a w H h)
  have hle := H.le
  have hH := Lib.hid H
  have c0 := H.h0
  have hi : a / 64 < (n + 63) / 64 := by omega
  obtain ⟨cw, fw⟩ := H.ws (a / 64) hi
  clear H
  obtain ⟨m, hm⟩ : ∃ m, m = (n + 63) / 64 := ⟨_, rfl⟩
  rw [← hm] at c0
  have i1 : (a : Int) / 64 < (m : Int) := by omega
  have i0 : 0 ≤ (a : Int) / 64 := by omega
  clear hi hm
  go_enter Tryz.func74, Tryz.ntmps74
  go_wp2_with fail
  refine hL.out.mono ?_
  rintro e w' ⟨rfl, rfl⟩
  clear hL
  have hB := fun w => bit_any a w (by omega)
  have hB' := Lib.hid hB
  clear hB
  go_wp2_with fail
  have hq : IntKind.i64.wrap ((a : Int) / 64) = (a : Int) / 64 := by rw [IntKind.wrap_i64]; omega
  have hq2 : ((a : Int) / 64).toNat = a / 64 := by omega
  have hor := or_wdo f a
  go_still_tail 12, (by kernel_rfl)
  still_call ((hB'.out _).mono fun e w' h => ⟨h.1, h.2.symm⟩)
  repeat still_step
  refine wpStill_nil ?_
  change wpList _ _ _ _ _ w.drew
  have cw2 : w.drew.cell? ⟨wb, a / 64, none⟩ = some (.int .u64 (wdo f (a / 64) : Nat)) := cw
  have fw2 : w.drew.frozen? ⟨wb, a / 64, none⟩ = false := fw
  have H2 := Lib.hid (And.intro (hH.out.drew) ((Off.refl w.heap.size wb w).drew))
  have hoff := Lib.hid hH.out.off
  generalize w.drew = w2 at cw2 fw2 H2 ⊢
  clear hH cw fw c0 hor hq hq2
  go_wp2
  go_ret
  refine ⟨rfl, H2.out.1.store (g := upd f a true) (by omega) (fun j hj => wdo_upd_ne f _ hj) (fun k hk => by rw [upd_ne _ _ (by omega)]; exact hoff.out k hk), H2.out.2.setCell (.inr rfl) _⟩
set_option maxRecDepth 100000 in
theorem put_clr (b wb n : Nat) (f : Nat → Bool) (a : Nat) (w : World) (H : MapAt w b wb n f) (h : a < n) : Calls Tryz.prog 74 #[.pointer (some ⟨b, 0, none⟩), .int .i64 a, .bool false] w fun e w' => e = .returned (.bool true) ∧ MapAt w' b wb n (upd f a false) ∧ Off w.heap.size wb w w' := by
  have hL := Lib.hid (has_yes b wb n f a w H h)
  have hle := H.le
  have hH := Lib.hid H
  have c0 := H.h0
  have hi : a / 64 < (n + 63) / 64 := by omega
  obtain ⟨cw, fw⟩ := H.ws (a / 64) hi
  clear H
  obtain ⟨m, hm⟩ : ∃ m, m = (n + 63) / 64 := ⟨_, rfl⟩
  rw [← hm] at c0
  have i1 : (a : Int) / 64 < (m : Int) := by omega
  have i0 : 0 ≤ (a : Int) / 64 := by omega
  clear hi hm
  go_enter Tryz.func74, Tryz.ntmps74
  go_wp2_with fail
  refine hL.out.mono ?_
  rintro e w' ⟨rfl, rfl⟩
  clear hL
  have hB := fun w => bit_any a w (by omega)
  have hB' := Lib.hid hB
  clear hB
  go_wp2_with fail
  have hq : IntKind.i64.wrap ((a : Int) / 64) = (a : Int) / 64 := by rw [IntKind.wrap_i64]; omega
  have hq2 : ((a : Int) / 64).toNat = a / 64 := by omega
  have hor := andnot_wdo f a
  go_still_tail 12, (by kernel_rfl)
  still_call ((hB'.out _).mono fun e w' h => ⟨h.1, h.2.symm⟩)
  repeat still_step
  refine wpStill_nil ?_
  change wpList _ _ _ _ _ w.drew
  have cw2 : w.drew.cell? ⟨wb, a / 64, none⟩ = some (.int .u64 (wdo f (a / 64) : Nat)) := cw
  have fw2 : w.drew.frozen? ⟨wb, a / 64, none⟩ = false := fw
  have H2 := Lib.hid (And.intro (hH.out.drew) ((Off.refl w.heap.size wb w).drew))
  have hoff := Lib.hid hH.out.off
  generalize w.drew = w2 at cw2 fw2 H2 ⊢
  clear hH cw fw c0 hor hq hq2
  go_wp2
  go_ret
  refine ⟨rfl, H2.out.1.store (g := upd f a false) (by omega) (fun j hj => wdo_upd_ne f _ hj) (fun k hk => by rw [upd_ne _ _ (by omega)]; exact hoff.out k hk), H2.out.2.setCell (.inr rfl) _⟩
theorem tput_any (b wb n : Nat) (f : Nat → Bool) (a : Nat) (v : Bool) (w : World) (H : MapAt w b wb n f) (h : a < n) : Calls Tryz.prog 74 #[.pointer (some ⟨b, 0, none⟩), .int .i64 a, .bool v] w fun e w' => e = .returned (.bool true) ∧ MapAt w' b wb n (upd f a v) ∧ Off w.heap.size wb w w' := by
  cases v
  · exact put_clr b wb n f a w H h
  · exact put_set b wb n f a w H h

theorem get_yes (b wb n : Nat) (f : Nat → Bool) (a : Nat) (w : World) (H : MapAt w b wb n f) (h : a < n) : Calls Tryz.prog 111 #[.pointer (some ⟨b, 0, none⟩), .int .i64 a] w fun e w' => e = .returned (.bool (f a)) ∧ ∃ k, w.drewN k = w' := by
  have hL := Lib.hid (fun k => has_yes b wb n f a (w.drewN k) (H.drewN k) h)
  have hle := H.le
  have c0 := H.h0
  have hi : a / 64 < (n + 63) / 64 := by omega
  have cw := (H.ws (a / 64) hi).1
  clear H
  obtain ⟨m, hm⟩ : ∃ m, m = (n + 63) / 64 := ⟨_, rfl⟩
  rw [← hm] at c0
  have i1 : (a : Int) / 64 < (m : Int) := by omega
  have i0 : 0 ≤ (a : Int) / 64 := by omega
  have hB := fun w => bit_any a w (by omega)
  have hB' := Lib.hid hB
  clear hi hm hB
  have hq : IntKind.i64.wrap ((a : Int) / 64) = (a : Int) / 64 := by rw [IntKind.wrap_i64]; omega
  have hq2 : ((a : Int) / 64).toNat = a / 64 := by omega
  have hor := and_wdo f a
  cases hv : f a
  all_goals
    rw [hv] at hor
    simp only [if_true, Bool.false_eq_true, if_false] at hor
    clear hv
    go_enter Tryz.func111, Tryz.ntmps111
    go_wp2_with fail
    go_quiet ((first | (go_at_call 129; exact Calls.quiet_of_same ((hL.out _).mono fun _ _ h => ⟨h.1, h.2.symm⟩)) | (go_at_call 130; exact Calls.quiet_of_same ((hB'.out _).mono fun _ _ h => ⟨h.1, h.2.symm⟩))))
    go_wp2
    go_ret
    first
      | exact ⟨rfl, _, rfl⟩
      | exact ⟨ret_bool (by rw [bne_iff_ne]; have := Nat.two_pow_pos (a % 64); have hc : ((2 : Int) ^ (a % 64)) = ((2 ^ (a % 64) : Nat) : Int) := (by simp); rw [hc]; omega), _, rfl⟩
end Go.Proofs.YtkmgdfcambdeeaaGreatDoor
