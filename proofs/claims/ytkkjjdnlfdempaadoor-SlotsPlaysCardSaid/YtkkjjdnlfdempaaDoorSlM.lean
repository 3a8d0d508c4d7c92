/- Plain matter of layer slots: a page's slots as bits of a number of 16; what is left off. No statement is proved here. -/
import Derived.Test.YtkkjjdnlfdempaaDoorChecked
import Derived.Test.YtkkjjdnlfdempaaDoorTagN
import Derived.Test.YtkkjjdnlfdempaaDoorMem
import Derived.WalkSpells
import Derived.WalkLawsBesides
import Derived.Deep.QuietTactic
import Derived.BigQuiet
import Derived.Handy
import Derived.Below
import Derived.Laws.Bits64b
import Derived.Laws.BitsLemmas
import Derived.Lib.Hide
import Derived.Deep.OwnRows
import Derived.Deep.RegionWith
import Derived.StillTailTactics
import Derived.RangeFuncNested
import Derived.RangeFuncBound
import Derived.RangeFuncBox
import Derived.RangeFuncCalls
import Derived.RangeFuncLeaves
import Derived.Shelf.Abstract
import Derived.Shelf.RegionOpen
import Derived.Shelf.Spec.TrailingZeros
import Derived.OwnWalkIn
import Derived.TacticsInMore
import Derived.LoopNIn
import Derived.LoopIn
import Derived.Deep.RegionHeld3
namespace Go.Proofs.YtkkjjdnlfdempaaDoor
open Go.RowKit Go.Shelf
set_option linter.unusedVariables false

theorem new_cell {w : World} {vs : Array Value} {t : TypeId} {v : Value} (h : vs[0]? = some v) (B : Nat) (hB : B = w.heap.size) :
    (w.alloc (.cells vs t)).cell? ⟨B, 0, none⟩ = some v ∧ (w.alloc (.cells vs t)).frozen? ⟨B, 0, none⟩ = false := by
  subst hB
  exact ⟨by simp [h], by simp⟩
theorem old_cell {w : World} {o : Obj} {B : Nat} {v : Value} (h : w.cell? ⟨B, 0, none⟩ = some v ∧ w.frozen? ⟨B, 0, none⟩ = false) (hB : B < w.heap.size) :
    (w.alloc o).cell? ⟨B, 0, none⟩ = some v ∧ (w.alloc o).frozen? ⟨B, 0, none⟩ = false := by
  have hb := (Below.refl w.heap.size w).alloc (Nat.le_refl _) o
  exact ⟨(hb.cell (p := ⟨B, 0, none⟩) hB).trans h.1, (hb.frozen (p := ⟨B, 0, none⟩) hB).trans h.2⟩
/-- Below block number B, and but for block wb, the world is as it was. -/
structure Off (B wb : Nat) (w w' : World) : Prop where
  os : w'.os = w.os
  tape : w'.tape = w.tape
  output : w'.output = w.output
  size : w.heap.size ≤ w'.heap.size
  block : ∀ k, k < B → k ≠ wb → w'.heap[k]? = w.heap[k]?
section
variable {B wb : Nat} {a b c w w' : World}
theorem Off.refl (B wb : Nat) (w : World) : Off B wb w w := ⟨rfl, rfl, rfl, Nat.le_refl _, fun _ _ _ => rfl⟩
theorem Off.trans (h : Off B wb a b) (k : Off B wb b c) : Off B wb a c :=
  ⟨k.os.trans h.os, k.tape.trans h.tape, k.output.trans h.output, Nat.le_trans h.size k.size, fun i hi hn => (k.block i hi hn).trans (h.block i hi hn)⟩
theorem Off.mono (h : Off B wb w w') {B' : Nat} (hB : B' ≤ B) : Off B' wb w w' := ⟨h.os, h.tape, h.output, h.size, fun k hk hn => h.block k (by omega) hn⟩
theorem Off.drew (h : Off B wb a w) : Off B wb a w.drew := ⟨h.os, h.tape, h.output, h.size, h.block⟩
theorem Off.drewN (h : Off B wb a w) (n : Nat) : Off B wb a (w.drewN n) := ⟨h.os, h.tape, h.output, h.size, h.block⟩
theorem Off.of_below (h : Below B w w') : Off B wb w w' := ⟨h.os, h.tape, h.output, h.size, fun k hk _ => h.block k hk⟩
theorem Off.below (h : Off B wb w w') {B' : Nat} (hB : B' ≤ B) (hw : B' ≤ wb) : Below B' w w' := ⟨h.os, h.tape, h.output, h.size, fun k hk => h.block k (by omega) (by omega)⟩
theorem Off.alloc (h : Off B wb a w) (hB : B ≤ w.heap.size) (o : Obj) : Off B wb a (w.alloc o) := h.trans (Off.of_below ((Below.refl B w).alloc hB o))
theorem Off.setCell (h : Off B wb a w) {p : Addr} (hp : B ≤ p.block ∨ p.block = wb) (u : Value) : Off B wb a (w.setCell p u) :=
  h.trans ⟨rfl, rfl, rfl, by simp [World.setCell], fun k hk hn => Below.heap_setCell _ _ _ _ (by omega)⟩
theorem Off.cell (h : Off B wb w w') {p : Addr} (hp : p.block < B) (hn : p.block ≠ wb) : w'.cell? p = w.cell? p := World.cell?_of_block (w := w) (h.block p.block hp hn)
theorem Off.frozen (h : Off B wb w w') {p : Addr} (hp : p.block < B) (hn : p.block ≠ wb) : w'.frozen? p = w.frozen? p := World.frozen?_of_block (w := w) (h.block p.block hp hn)
theorem Off.step (h : Off a.heap.size wb a b) (k : Off b.heap.size wb b c) : Off a.heap.size wb a c := h.trans (k.mono h.size)
end

/-! ### Numbers of 16 bits -/
theorem IntKind.wrap_u16' (n : Int) : IntKind.u16.wrap n = n % 65536 := by simp [IntKind.wrap, IntKind.signed, IntKind.bits]
/-- A page's free slots as a number. -/
def w16 (h : Nat → Bool) : Nat := wd h 16
theorem w16_lt (h : Nat → Bool) : w16 h < 65536 := wd_lt 16 h
theorem w16_bit (h : Nat → Bool) (j : Nat) : (w16 h).testBit j = (decide (j < 16) && h j) := wd_bit 16 h j
theorem w16_congr {h k : Nat → Bool} (e : ∀ j, j < 16 → h j = k j) : w16 h = w16 k := wd_congr e
theorem w16_eq {h k : Nat → Bool} (e : w16 h = w16 k) : ∀ j, j < 16 → h j = k j := fun j hj => by
  have := congrArg (fun x => x.testBit j) e
  simpa [w16_bit, hj] using this
theorem ofInt16 (x : Nat) (hx : x < 65536) : (BitVec.ofInt 16 (x : Int)).toNat = x := by
  rw [BitVec.ofInt_natCast, BitVec.toNat_ofNat]; exact Nat.mod_eq_of_lt (by omega)
theorem bits16 (op : BinOp) (x y z : Nat) (hx : x < 65536) (hy : y < 65536) (hz : z < 65536)
    (h : bits op .u16 (x : Int) (y : Int) = IntKind.u16.wrap (z : Int)) : bits op .u16 (x : Int) (y : Int) = (z : Int) := by
  rw [h, IntKind.wrap_u16']; omega
theorem pow16 {s : Nat} (hs : s < 16) : (2 : Nat) ^ s < 65536 := by
  have : 2 ^ s ≤ 2 ^ 15 := Nat.pow_le_pow_right (by decide) (by omega)
  omega
/-- One slot taken. -/
theorem w16_clear (h : Nat → Bool) (s : Nat) (hs : s < 16) : bits .andNot .u16 (w16 h : Nat) (2 ^ s : Nat) = (w16 (upd h s false) : Nat) := by
  have e : (BitVec.ofInt 16 ((w16 h : Nat) : Int) &&& ~~~BitVec.ofInt 16 ((2 ^ s : Nat) : Int)).toNat = w16 (upd h s false) := by
    apply Nat.eq_of_testBit_eq
    intro j
    rw [BitVec.testBit_toNat, BitVec.ofInt_natCast, BitVec.ofInt_natCast, w16_bit]
    by_cases hj : j < 16
    · rw [BitVec.getLsbD_and, BitVec.getLsbD_not, BitVec.getLsbD_ofNat, BitVec.getLsbD_ofNat, w16_bit, Nat.testBit_two_pow]
      simp only [hj, decide_true, Bool.true_and]
      by_cases e : j = s
      · subst e; simp [upd]
      · have e' : ¬ s = j := fun x => e x.symm
        simp [upd, e, e']
    · simp [hj]
  show IntKind.u16.wrap ((BitVec.ofInt 16 ((w16 h : Nat) : Int) &&& ~~~BitVec.ofInt 16 ((2 ^ s : Nat) : Int)).toNat : Int) = _
  rw [e, IntKind.wrap_u16']
  have := w16_lt (upd h s false)
  omega
/-- One slot free again. -/
theorem w16_set (h : Nat → Bool) (s : Nat) (hs : s < 16) : bits .or .u16 (w16 h : Nat) (2 ^ s : Nat) = (w16 (upd h s true) : Nat) := by
  have e : (BitVec.ofInt 16 ((w16 h : Nat) : Int) ||| BitVec.ofInt 16 ((2 ^ s : Nat) : Int)).toNat = w16 (upd h s true) := by
    apply Nat.eq_of_testBit_eq
    intro j
    rw [BitVec.testBit_toNat, BitVec.ofInt_natCast, BitVec.ofInt_natCast, w16_bit]
    by_cases hj : j < 16
    · rw [BitVec.getLsbD_or, BitVec.getLsbD_ofNat, BitVec.getLsbD_ofNat, w16_bit, Nat.testBit_two_pow]
      simp only [hj, decide_true, Bool.true_and]
      by_cases e : j = s
      · subst e; simp [upd]
      · have e' : ¬ s = j := fun x => e x.symm
        simp [upd, e, e']
    · have h1 : ∀ x : Nat, (BitVec.ofNat 16 x).getLsbD j = false := fun x => by simp [BitVec.getLsbD_ofNat, hj]
      rw [BitVec.getLsbD_or, h1, h1]; simp [hj]
  show IntKind.u16.wrap ((BitVec.ofInt 16 ((w16 h : Nat) : Int) ||| BitVec.ofInt 16 ((2 ^ s : Nat) : Int)).toNat : Int) = _
  rw [e, IntKind.wrap_u16']
  have := w16_lt (upd h s true)
  omega
/-- Is the slot free? -/
theorem w16_get (h : Nat → Bool) (s : Nat) (hs : s < 16) : bits .and .u16 ((w16 h : Nat) / 2 ^ s) 1 = ((h s).toNat : Int) := by
  have hx := w16_lt h
  have hq : (w16 h) / 2 ^ s < 65536 := Nat.lt_of_le_of_lt (Nat.div_le_self _ _) hx
  have hq' : ((w16 h : Nat) : Int) / 2 ^ s = ((w16 h / 2 ^ s : Nat) : Int) := by simp
  have e := bits_mask .u16 16 (by decide) (fun n h0 h1 => by rw [IntKind.wrap_u16']; omega) 1 (by decide) ((w16 h / 2 ^ s : Nat) : Int) (Int.natCast_nonneg _) (by have : ((w16 h / 2 ^ s : Nat) : Int) < 65536 := Int.ofNat_lt.2 hq; simpa using this)
  have e2 : w16 h / 2 ^ s % 2 = (h s).toNat := by
    have := w16_bit h s
    rw [Nat.testBit_eq_decide_div_mod_eq] at this
    simp only [hs, decide_true, Bool.true_and] at this
    cases hv : h s <;> simp_all
  rw [hq']
  have e3 : ((2 : Int) ^ 1 - 1) = 1 := rfl
  rw [e3] at e
  rw [e]
  omega
/-- All the slots of a page. -/
def full (per : Nat) : Nat → Bool := fun s => decide (s < per)
theorem w16_full (per : Nat) (hp : per ≤ 16) : w16 (full per) = 2 ^ per - 1 := by
  apply Nat.eq_of_testBit_eq
  intro j
  rw [w16_bit, Nat.testBit_two_pow_sub_one]
  unfold full
  by_cases h : j < per
  · have : j < 16 := by omega
    simp [h, this]
  · simp [h]
theorem whole16 (per : Nat) (hp : per ≤ 16) : IntKind.u16.wrap (IntKind.u16.wrap (2 ^ per) - 1) = ((w16 (full per) : Nat) : Int) := by
  rw [w16_full per hp, IntKind.wrap_u16', IntKind.wrap_u16']
  by_cases h : per = 16
  · subst h; rfl
  · have hp := pow16 (s := per) (by omega)
    have h1 : 1 ≤ 2 ^ per := Nat.one_le_two_pow
    have hc : ((2 : Int) ^ per) = ((2 ^ per : Nat) : Int) := by simp
    rw [hc]
    generalize 2 ^ per = p at *
    omega
theorem one16 (s : Nat) (hs : s < 16) : IntKind.u16.wrap (2 ^ s) = ((2 ^ s : Nat) : Int) := by
  have hc : ((2 : Int) ^ s) = ((2 ^ s : Nat) : Int) := by simp
  have := pow16 hs
  rw [hc, IntKind.wrap_u16']
  generalize 2 ^ s = p at *
  omega
theorem w16_zero {h : Nat → Bool} : w16 h = 0 ↔ ∀ j, j < 16 → h j = false := wd_zero
/-- The lowest bit that is set. -/
theorem low16 (h : Nat → Bool) (s : Nat) (hs : s < 16) (h1 : h s = true) (hl : ∀ j, j < s → h j = false) : w16 h &&& (65536 - w16 h) = 2 ^ s := by
  have h0 : w16 h ≠ 0 := fun e => by rw [w16_zero.1 e s hs] at h1; cases h1
  obtain ⟨e, hk⟩ := Lib.lowest_bit 16 (w16 h) h0 (w16_lt h)
  obtain ⟨m, hm, hk'⟩ := Lib.ctzFrom_spec 16 (w16 h) (by omega) (w16_lt h)
  have hx : ∀ j, j < 16 → h j = (decide (Lib.ctz 16 (w16 h) ≤ j) && (2 * m + 1).testBit (j - Lib.ctz 16 (w16 h))) := fun j hj => by
    have e1 : Lib.ctz 16 (w16 h) = Lib.ctzFrom 16 (w16 h) := by unfold Lib.ctz; rw [if_neg h0]
    rw [e1]
    have := w16_bit h j
    rw [hm, Nat.testBit_two_pow_mul] at this
    simpa [hj] using this.symm
  obtain ⟨k, hkk⟩ : ∃ k, k = Lib.ctz 16 (w16 h) := ⟨_, rfl⟩
  rw [← hkk] at hx hk e
  have hks : k = s := by
    rcases Nat.lt_trichotomy k s with hlt | heq | hgt
    · have := hx k (by omega)
      rw [hl k hlt] at this
      simp at this
    · exact heq
    · have := hx s hs
      rw [h1] at this
      have h2 : decide (k ≤ s) = false := decide_eq_false (by omega)
      rw [h2] at this
      cases this
  rw [← hks]
  exact e
/-- How many are free, of all pages. -/
def tot (f : Nat → Nat → Bool) : Nat → Nat
  | 0 => 0
  | k + 1 => tot f k + cnt (f k) 16
theorem tot_le (f : Nat → Nat → Bool) : ∀ k, tot f k ≤ 16 * k
  | 0 => Nat.le_refl _
  | k + 1 => by have := tot_le f k; have := cnt_le (f k) 16; simp only [tot]; omega
theorem tot_congr {f g : Nat → Nat → Bool} : ∀ {k : Nat}, (∀ p s, p < k → s < 16 → f p s = g p s) → tot f k = tot g k
  | 0, _ => rfl
  | k + 1, e => by simp only [tot]; rw [tot_congr (fun p s hp hs => e p s (by omega) hs), cnt_congr (fun s hs => e k s (by omega) hs)]
/-- What the pages of a list have. -/
def tsum (f : Nat → Nat → Bool) (l : List Nat) : Nat := (l.map fun p => cnt (f p) 16).sum
theorem tsum_snoc (f : Nat → Nat → Bool) (l : List Nat) (p : Nat) : tsum f (l ++ [p]) = tsum f l + cnt (f p) 16 := by simp [tsum]
theorem tsum_le (f : Nat → Nat → Bool) : ∀ l : List Nat, tsum f l ≤ 16 * l.length
  | [] => Nat.le_refl _
  | a :: l => by
    have := tsum_le f l
    have := cnt_le (f a) 16
    simp only [tsum, List.map_cons, List.sum_cons, List.length_cons] at *
    omega
theorem tsum_setL (f : Nat → Nat → Bool) (g : Nat → Bool) : ∀ n, (∀ p s, p < n → g p = false → f p s = false) → tsum f (setL g n) = tot f n
  | 0, _ => rfl
  | n + 1, h => by
    have ih := tsum_setL f g n (fun p s hp => h p s (by omega))
    cases hv : g n
    · rw [setL_skip (a := n) (b := n + 1) (by omega) (fun j h1 h2 => (show j = n by omega) ▸ hv), ih]
      simp only [tot]
      rw [cnt_zero (fun s _ => h n s (by omega) hv)]
      rfl
    · rw [setL_snoc hv, tsum_snoc, ih]
      rfl
/-- One slot of one page. -/
def upd2 (f : Nat → Nat → Bool) (p s : Nat) (v : Bool) : Nat → Nat → Bool := fun k => if k = p then upd (f k) s v else f k
/-- One page. -/
def updP (f : Nat → Nat → Bool) (p : Nat) (h : Nat → Bool) : Nat → Nat → Bool := fun k => if k = p then h else f k
theorem updP_same (f : Nat → Nat → Bool) (p : Nat) (h : Nat → Bool) : updP f p h p = h := by simp [updP]
theorem updP_ne (f : Nat → Nat → Bool) {p k : Nat} (h : Nat → Bool) (e : k ≠ p) : updP f p h k = f k := by simp [updP, e]
theorem upd2_updP (f : Nat → Nat → Bool) (p s : Nat) (v : Bool) : upd2 f p s v = updP f p (upd (f p) s v) := by
  funext k
  unfold upd2 updP
  by_cases e : k = p
  · subst e; simp
  · simp [e]
end Go.Proofs.YtkkjjdnlfdempaaDoor
