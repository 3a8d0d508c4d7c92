/- The arena in memory, and what is kept of it. Plain lemmas; no statement is proved here.; Contracts of layer arena: own, granule, there, cut, lay. No statement is proved here.; Contracts of layer arena: lay, the one way in which bytes come in. No statement is proved here.; Contracts of layer arena: Size, Load, Read, Write, Store. No statement is proved here. -/
import Derived.Test.YtpopfmboonjplaaTagE
import Derived.Test.YtpopfmboonjplaaCapP
import Derived.Test.YtpopfmboonjplaaCapN
import Derived.Test.YtpopfmboonjplaaRow
import Derived.Test.YtpopfmboonjplaaOctC
import Derived.Laws.CopyOwn
import Derived.StillTailTactics
import Derived.Deep.RegionHeld3
namespace Go.Proofs.Ytpopfmboonjplaa
open Go.RowKit
set_option linter.unusedVariables false

/-- Below block B, and but for the blocks x and y, the world is as it was. -/
structure Of2 (B x y : Nat) (w w' : World) : Prop where
  os : w'.os = w.os
  tape : w'.tape = w.tape
  output : w'.output = w.output
  size : w.heap.size ≤ w'.heap.size
  block : ∀ k, k < B → k ≠ x → k ≠ y → w'.heap[k]? = w.heap[k]?
section
variable {B x y : Nat} {a b c w w' : World}
theorem Of2.refl (B x y : Nat) (w : World) : Of2 B x y w w := ⟨rfl, rfl, rfl, Nat.le_refl _, fun _ _ _ _ => rfl⟩
theorem Of2.trans (h : Of2 B x y a b) (k : Of2 B x y b c) : Of2 B x y a c :=
  ⟨k.os.trans h.os, k.tape.trans h.tape, k.output.trans h.output, Nat.le_trans h.size k.size, fun i hi h1 h2 => (k.block i hi h1 h2).trans (h.block i hi h1 h2)⟩
theorem Of2.mono (h : Of2 B x y w w') {B' : Nat} (hB : B' ≤ B) : Of2 B' x y w w' := ⟨h.os, h.tape, h.output, h.size, fun k hk h1 h2 => h.block k (by omega) h1 h2⟩
theorem Of2.step (h : Of2 a.heap.size x y a b) (k : Of2 b.heap.size x y b c) : Of2 a.heap.size x y a c := h.trans (k.mono h.size)
theorem Of2.drew (h : Of2 B x y a w) : Of2 B x y a w.drew := ⟨h.os, h.tape, h.output, h.size, h.block⟩
theorem Of2.of_below (h : Below B w w') : Of2 B x y w w' := ⟨h.os, h.tape, h.output, h.size, fun k hk _ _ => h.block k hk⟩
theorem Of2.of_off (h : Off B x w w') : Of2 B x y w w' := ⟨h.os, h.tape, h.output, h.size, fun k hk h1 _ => h.block k hk h1⟩
theorem Of2.below (h : Of2 B x y w w') {B' : Nat} (hB : B' ≤ B) (hx : B' ≤ x) (hy : B' ≤ y) : Below B' w w' := ⟨h.os, h.tape, h.output, h.size, fun k hk => h.block k (by omega) (by omega) (by omega)⟩
theorem Of2.alloc (h : Of2 B x y a w) (hB : B ≤ w.heap.size) (o : Obj) : Of2 B x y a (w.alloc o) := h.trans (Of2.of_below ((Below.refl B w).alloc hB o))
theorem Of2.setCell (h : Of2 B x y a w) {p : Addr} (hp : B ≤ p.block ∨ p.block = x ∨ p.block = y) (u : Value) : Of2 B x y a (w.setCell p u) :=
  h.trans ⟨rfl, rfl, rfl, by simp [World.setCell], fun k hk h1 h2 => Below.heap_setCell _ _ _ _ (by omega)⟩
theorem Of2.setRow (h : Of2 B x y a w) {g : Nat} (hp : B ≤ g ∨ g = x ∨ g = y) (u : Array Value) : Of2 B x y a (w.setRow g u) :=
  h.trans ⟨rfl, rfl, rfl, by simp [World.setRow], fun k hk h1 h2 => Go.setRow_other w g k u (by omega)⟩
theorem Of2.cell (h : Of2 B x y w w') {p : Addr} (hp : p.block < B) (h1 : p.block ≠ x) (h2 : p.block ≠ y) : w'.cell? p = w.cell? p := World.cell?_of_block (w := w) (h.block p.block hp h1 h2)
theorem Of2.frozen (h : Of2 B x y w w') {p : Addr} (hp : p.block < B) (h1 : p.block ≠ x) (h2 : p.block ≠ y) : w'.frozen? p = w.frozen? p := World.frozen?_of_block (w := w) (h.block p.block hp h1 h2)
end

theorem ownsRow_block {w w' : World} {base b n c : Nat} {e : TypeId} {xs : List Value} (h : w.ownsRow base e 1 (.slice (some ⟨b, 0, none⟩) n c) n xs) (hb : w'.heap[b]? = w.heap[b]?) : w'.ownsRow base e 1 (.slice (some ⟨b, 0, none⟩) n c) n xs := by
  refine ⟨h.1, ?_⟩
  rcases h.2 with ⟨e, _⟩ | ⟨g, cap, cur, e, h1, h2, h3⟩
  · cases e
  · cases e
    exact .inr ⟨_, _, cur, rfl, h1, hb.trans h2, h3⟩

/-- b laid over l from place k on. -/
def ovr (l : List UInt8) (k : Nat) (b : List UInt8) : List UInt8 := l.take k ++ (b ++ l.drop (k + b.length))
theorem ovr_length {l b : List UInt8} {k : Nat} (h : k + b.length ≤ l.length) : (ovr l k b).length = l.length := by simp [ovr]; omega
theorem ovr_nil (l : List UInt8) (k : Nat) : ovr l k [] = l := by simp [ovr]
/-- Granule j is touched by k bytes from place at_ on. -/
def tch (at_ k : Nat) : Nat → Bool := fun j => decide (0 < k) && decide (at_ < 16 * (j + 1)) && decide (16 * j < at_ + k)
def clr (f : Nat → Bool) (at_ k : Nat) : Nat → Bool := fun j => f j && !tch at_ k j
theorem clr_zero (f : Nat → Bool) (at_ : Nat) : clr f at_ 0 = f := by funext j; simp [clr, tch]

/-- At block a stands an arena of n bytes l, of g granules, whose tags are as f tells: its map in the blocks mb and wb, its bytes in bb. -/
structure ArAt (W : World) (a mb wb bb c n g : Nat) (f : Nat → Bool) (l : List UInt8) : Prop where
  q0 : W.cell? ⟨a, 0, none⟩ = some (.pointer (some ⟨mb, 0, none⟩))
  q1 : W.cell? ⟨a, 1, none⟩ = some (.slice (some ⟨bb, 0, none⟩) n c)
  m : MapAt W mb wb g f
  own : W.ownsRow 0 5 1 (.slice (some ⟨bb, 0, none⟩) n c) n (l.map vb)
  hn : n = 16 * g
  lo : 256 ≤ g
  hi : g ≤ 16384
  la : a < W.heap.size
  n1 : a ≠ wb
  n2 : a ≠ bb
  n3 : mb ≠ bb
  n4 : wb ≠ bb
section
variable {W W' : World} {a mb wb bb c n g B : Nat} {f f' : Nat → Bool} {l l' : List UInt8}
theorem ArAt.lb (h : ArAt W a mb wb bb c n g f l) : bb < W.heap.size := (h.own.lt bb rfl).2
theorem ArAt.len (h : ArAt W a mb wb bb c n g f l) : l.length = n := by simpa using h.own.1
theorem ArAt.caps (h : ArAt W a mb wb bb c n g f l) : n ≤ c ∧ c ≤ maxLen := by
  rcases h.own.2 with ⟨e, _⟩ | ⟨g, cap, cur, e, h1, h2, h3, h4, _⟩
  · cases e
  · cases e; exact ⟨h3, h4⟩
theorem ArAt.keep (h : ArAt W a mb wb bb c n g f l) (hk : ∀ k, k = a ∨ k = mb ∨ k = wb ∨ k = bb → W'.heap[k]? = W.heap[k]?) (hs : W.heap.size ≤ W'.heap.size) : ArAt W' a mb wb bb c n g f l :=
  ⟨(World.cell?_of_block (hk a (.inl rfl))).trans h.q0, (World.cell?_of_block (hk a (.inl rfl))).trans h.q1, h.m.keep (fun k hk' => hk k (hk'.elim (fun e => .inr (.inl e)) (fun e => .inr (.inr (.inl e))))) hs,
    ownsRow_block h.own (hk bb (.inr (.inr (.inr rfl)))), h.hn, h.lo, h.hi, Nat.lt_of_lt_of_le h.la hs, h.n1, h.n2, h.n3, h.n4⟩
theorem ArAt.below (h : ArAt W a mb wb bb c n g f l) (hb : Below W.heap.size W W') : ArAt W' a mb wb bb c n g f l :=
  h.keep (fun k hk => hb.block k (by have := h.la; have := h.lb; have := h.m.lb; have := h.m.lw; omega)) hb.size
theorem ArAt.of2 {x y : Nat} (h : ArAt W a mb wb bb c n g f l) (hb : Of2 W.heap.size x y W W') (hx : a ≠ x ∧ mb ≠ x ∧ wb ≠ x ∧ bb ≠ x) (hy : a ≠ y ∧ mb ≠ y ∧ wb ≠ y ∧ bb ≠ y) : ArAt W' a mb wb bb c n g f l :=
  h.keep (fun k hk => hb.block k (by have := h.la; have := h.lb; have := h.m.lb; have := h.m.lw; omega) (by omega) (by omega)) hb.size
theorem ArAt.drew (h : ArAt W a mb wb bb c n g f l) : ArAt W.drew a mb wb bb c n g f l := h.keep (fun _ _ => rfl) (Nat.le_refl _)
theorem ArAt.alloc (h : ArAt W a mb wb bb c n g f l) (o : Obj) : ArAt (W.alloc o) a mb wb bb c n g f l := h.below ((Below.refl _ W).alloc (Nat.le_refl _) o)
theorem ArAt.cell (h : ArAt W a mb wb bb c n g f l) {j : Nat} {u : UInt8} (hu : l[j]? = some u) : W.cell? ⟨bb, j, none⟩ = some (vb u) := by
  have := h.own.cells (g := bb) rfl j (vb u) (by simp [hu])
  rwa [Addr.add_lit, Nat.zero_add] at this
theorem ArAt.rb (h : ArAt W a mb wb bb c n g f l) : RB W W.heap.size (some ⟨bb, 0, none⟩) l := fun _ =>
  ⟨bb, 0, rfl, h.lb, fun j u hu => by rw [Nat.zero_add]; exact h.cell hu⟩
theorem ArAt.ext (h : ArAt W a mb wb bb c n g f l) (e : ∀ k, f k = f' k) (e2 : l = l') : ArAt W a mb wb bb c n g f' l' :=
  e2 ▸ ⟨h.q0, h.q1, h.m.congr e, h.own, h.hn, h.lo, h.hi, h.la, h.n1, h.n2, h.n3, h.n4⟩
/-- Another map in the same blocks. -/
theorem ArAt.map (h : ArAt W a mb wb bb c n g f l) (hm : MapAt W' mb wb g f') (ho : Off W.heap.size wb W W') : ArAt W' a mb wb bb c n g f' l :=
  have hk : ∀ k, k = a ∨ k = bb → W'.heap[k]? = W.heap[k]? := fun k hk => ho.block k (by have := h.la; have := h.lb; omega) (by have := h.n1; have := h.n4; omega)
  ⟨(World.cell?_of_block (hk a (.inl rfl))).trans h.q0, (World.cell?_of_block (hk a (.inl rfl))).trans h.q1, hm, ownsRow_block h.own (hk bb (.inr rfl)), h.hn, h.lo, h.hi, Nat.lt_of_lt_of_le h.la ho.size, h.n1, h.n2, h.n3, h.n4⟩
theorem splice_take {L A cs : List Value} {n k : Nat} (hA : L.take n = A) (hn : A.length = n) (hk : k + cs.length ≤ n) : (L.take k ++ (cs ++ L.drop (k + cs.length))).take n = A.take k ++ (cs ++ A.drop (k + cs.length)) := by
  obtain ⟨R, hR⟩ : ∃ R, L = A ++ R := ⟨L.drop n, by rw [← hA, List.take_append_drop]⟩
  have e1 : (A ++ R).take k = A.take k := List.take_append_of_le_length (by omega)
  have e2 : (A ++ R).drop (k + cs.length) = A.drop (k + cs.length) ++ R := List.drop_append_of_le_length (by omega)
  rw [hR, e1, e2, ← List.append_assoc cs, ← List.append_assoc (A.take k)]
  have hl : (A.take k ++ (cs ++ A.drop (k + cs.length))).length = n := by simp; omega
  rw [List.take_append_of_le_length (by omega), List.take_of_length_le (by omega)]
/-- Bytes laid over the arena's. -/
theorem ArAt.lay (h : ArAt W a mb wb bb c n g f l) {k : Nat} {b : List UInt8} (hk : k + b.length ≤ n) {cur : Array Value} (hc : W.heap[bb]? = some (.cells cur 5 (0, 0))) :
    ArAt (W.setRow bb (cur.toList.take k ++ (b.map vb ++ cur.toList.drop (k + (b.map vb).length))).toArray) a mb wb bb c n g f (ovr l k b) := by
  have hrow := setRow_heap W bb cur (cur.toList.take k ++ (b.map vb ++ cur.toList.drop (k + (b.map vb).length))).toArray 5 (0, 0) hc
  generalize hW : W.setRow bb _ = W2 at hrow ⊢
  have ho : ∀ k, k ≠ bb → W2.heap[k]? = W.heap[k]? := fun k hk => by rw [← hW]; exact Go.setRow_other W bb k _ hk
  have hsz : W2.heap.size = W.heap.size := by rw [← hW]; simp [World.setRow]
  refine ⟨(World.cell?_of_block (ho a h.n2)).trans h.q0, (World.cell?_of_block (ho a h.n2)).trans h.q1, h.m.keep (fun k hk => ho k (by have := h.n3; have := h.n4; omega)) (by omega), ?_, h.hn, h.lo, h.hi, by rw [hsz]; exact h.la, h.n1, h.n2, h.n3, h.n4⟩
  have hl := h.len
  refine ⟨by simp [ovr]; omega, ?_⟩
  rcases h.own.2 with ⟨e, _⟩ | ⟨g', cap, cur', e, h1, h2, h3, h4, h5, h6⟩
  · cases e
  · cases e
    rw [hc] at h2
    cases h2
    refine .inr ⟨_, _, _, rfl, h1, hrow, h3, h4, ?_, ?_⟩
    · have : cur.toList.length = cur.size := by simp
      simp; omega
    · rw [Nat.mul_one] at h6 ⊢
      have hs := splice_take (L := cur.toList) (cs := b.map vb) (k := k) h6 (by simp [hl]) (by simpa using hk)
      rw [List.toList_toArray, hs]
      simp [ovr]
theorem ArAt.row (h : ArAt W a mb wb bb c n g f l) : ∃ cur : Array Value, W.heap[bb]? = some (.cells cur 5 (0, 0)) ∧ n ≤ cur.size := by
  rcases h.own.2 with ⟨e, _⟩ | ⟨g', cap, cur, e, h1, h2, h3, h4, h5, h6⟩
  · cases e
  · cases e
    exact ⟨cur, h2, by omega⟩
end

/-- A call on an arena has answered v; its tags are as f tells, its bytes l; nothing else has turned. -/
def Nxt (a mb wb bb c n g : Nat) (f : Nat → Bool) (l : List UInt8) (w : World) (v : Value) (e : Ending) (w' : World) : Prop :=
  e = .returned v ∧ ArAt w' a mb wb bb c n g f l ∧ Of2 w.heap.size wb bb w w'
theorem nxt_below {a mb wb bb c n g : Nat} {f : Nat → Bool} {l : List UInt8} {w w' : World} {v : Value} {e : Ending} (H : ArAt w a mb wb bb c n g f l) (h : e = .returned v ∧ Below w.heap.size w w') : Nxt a mb wb bb c n g f l w v e w' :=
  ⟨h.1, H.below h.2, Of2.of_below h.2⟩
end Go.Proofs.Ytpopfmboonjplaa
namespace Go.Proofs.Ytpopfmboonjplaa
open Go.RowKit
set_option linter.unusedVariables false

theorem own_any (a : Nat) (p A : Option Addr) (n c : Nat) (w : World) (h0 : w.cell? ⟨a, 0, none⟩ = some (.pointer p)) (h1 : w.cell? ⟨a, 1, none⟩ = some (.slice A n c)) (ha : a < w.heap.size) :
    Calls Try.prog 42 #[.pointer (some ⟨a, 0, none⟩)] w fun e w' => e = .returned (.agg #[.pointer p, .slice A n c]) ∧ Below w.heap.size w w' := by
  have hb := fun o => Lib.hid ((Below.refl w.heap.size w).alloc (Nat.le_refl _) o)
  go_enter Try.func42, Try.ntmps42
  go_wp2
  exact bodyPost_ret (v := .agg #[.pointer p, .slice A n c]) (by simp [results, Try.results42, go_sem]) rfl ⟨rfl, (hb _).out⟩
theorem own_nil (w : World) : Calls Try.prog 42 #[.pointer none] w fun e w' => e = .returned (.agg #[.pointer none, .slice none 0 0]) ∧ Below w.heap.size w w' := by
  have hb := fun o => Lib.hid ((Below.refl w.heap.size w).alloc (Nat.le_refl _) o)
  go_enter Try.func42, Try.ntmps42
  go_wp2
  exact bodyPost_ret (v := .agg #[.pointer none, .slice none 0 0]) (by simp [results, Try.results42, go_sem]) rfl ⟨rfl, (hb _).out⟩
theorem granule_any (v : Nat) (w : World) (lv : v < 4294967296) : Calls Try.prog 47 #[.int .u32 v] w fun e w' => e = .returned (.int .i64 (v / 16 : Nat)) ∧ w = w' := by
  go_enter Try.func47, Try.ntmps47
  go_wp2
  go_ret
  exact ⟨ret_int (by simp), rfl⟩
theorem granule_int (v : Int) (w : World) (h0 : 0 ≤ v) (lv : v < 4294967296) : Calls Try.prog 47 #[.int .u32 v] w fun e w' => e = .returned (.int .i64 (v / 16)) ∧ w = w' := by
  obtain ⟨v, rfl⟩ := Int.eq_ofNat_of_zero_le h0
  exact (granule_any v w (by omega)).mono fun e w' h => ⟨h.1.trans (ret_int (by simp)), h.2⟩
theorem there_none (S : Value) (at_ : Nat) (k : Int) (w : World) : Calls Try.prog 61 #[.agg #[.pointer none, S], .int .u32 at_, .int .i64 k] w fun e w' => e = .returned (.bool false) ∧ Below w.heap.size w w' := by
  have hb := fun o => Lib.hid ((Below.refl w.heap.size w).alloc (Nat.le_refl _) o)
  go_enter Try.func61, Try.ntmps61
  go_wp2
  go_ret
  exact ⟨rfl, (hb _).out⟩
/-- Are k bytes from at_ on there, in n? -/
def thr (n at_ : Nat) (k : Int) : Bool := decide (0 ≤ k) && decide ((at_ : Int) + k ≤ n)
theorem there_any (mb : Addr) (A : Option Addr) (n c at_ : Nat) (k : Int) (w : World) (ln : n ≤ 262144) (la : at_ < 4294967296) (hk : -9223372036854775808 ≤ k ∧ k < 9223372036854775808) :
    Calls Try.prog 61 #[.agg #[.pointer (some mb), .slice A n c], .int .u32 at_, .int .i64 k] w fun e w' => e = .returned (.bool (thr n at_ k)) ∧ Below w.heap.size w w' := by
  have hb := fun o => Lib.hid ((Below.refl w.heap.size w).alloc (Nat.le_refl _) o)
  obtain ⟨h1, h2⟩ := hk
  by_cases h0 : 0 ≤ k
  · have hs : IntKind.u64.wrap ((at_ : Int) + k) = (at_ : Int) + k := by rw [IntKind.wrap_u64]; omega
    have hk : IntKind.u64.wrap k = k := by rw [IntKind.wrap_u64]; omega
    have hT := Lib.hid (show thr n at_ k = decide ((at_ : Int) + k ≤ n) by simp [thr, h0])
    go_enter Try.func61, Try.ntmps61
    go_wp2
    go_ret
    refine ⟨ret_bool ?_, (hb _).out⟩
    rw [hT.out]
  · have hT := Lib.hid (show thr n at_ k = false by simp [thr, h0])
    go_enter Try.func61, Try.ntmps61
    go_wp2
    go_ret
    refine ⟨ret_bool ?_, (hb _).out⟩
    rw [hT.out]
set_option maxRecDepth 100000 in
theorem cut_pos (P : Value) (bb c n at_ k : Nat) (l : List UInt8) (w : World) (hl : l.length = n) (hc : n ≤ c) (h : at_ + k ≤ n) (ln : n ≤ 262144) (h0 : 0 < k) (hcell : ∀ j u, l[j]? = some u → w.cell? ⟨bb, j, none⟩ = some (vb u)) (hbb : bb < w.heap.size) :
    Calls Try.prog 62 #[.agg #[P, .slice (some ⟨bb, 0, none⟩) n c], .int .u32 at_, .int .i64 k] w fun e w' => e = .returned (.string ⟨((l.drop at_).take k).toArray⟩) ∧ Below w.heap.size w w' := by
  obtain ⟨w1, hw1⟩ : ∃ w1, w1 = w.alloc (.cells #[P, .slice (some ⟨bb, 0, none⟩) n c] 69) := ⟨_, rfl⟩
  have hb : Below w.heap.size w w1 := by rw [hw1]; exact (Below.refl _ w).alloc (Nat.le_refl _) _
  have hB := Lib.hid hb
  have hconv : (convert 28 9 (.slice (some ⟨bb, at_, none⟩) k (c - at_))).run Try.prog w1 = .ok (.string ⟨((l.drop at_).take k).toArray⟩) w1 := by
    have hlen : ((l.drop at_).take k).length = k := by simp; omega
    have := run_convert_bytes_back (P := Try.prog) w1 28 9 5 ⟨bb, at_, none⟩ (c - at_) ((l.drop at_).take k) Try.underlying28 Try.underlying5 Try.underlying9 (fun j hj => by
      rw [Addr.add_lit]
      rw [hb.cell (p := ⟨bb, at_ + j, none⟩) hbb]
      rw [hlen] at hj
      refine (hcell (at_ + j) _ ?_).trans rfl
      rw [List.getElem_take, List.getElem_drop]
      exact List.getElem?_eq_getElem _)
    rwa [hlen] at this
  rw [hw1] at hconv hB
  have i1 : (at_ : Int) < c := by omega
  have i2 : (k : Int) ≤ (c : Int) - at_ := by omega
  clear hw1 hb hcell
  go_enter Try.func62, Try.ntmps62
  go_wp2
  go_ret
  exact ⟨rfl, hB.out⟩
set_option maxRecDepth 100000 in
theorem cut_nil (P : Value) (bb c n at_ : Nat) (w : World) (hc : n ≤ c) (h : at_ ≤ n) (ln : n ≤ 262144) :
    Calls Try.prog 62 #[.agg #[P, .slice (some ⟨bb, 0, none⟩) n c], .int .u32 at_, .int .i64 0] w fun e w' => e = .returned (.string ⟨#[]⟩) ∧ Below w.heap.size w w' := by
  obtain ⟨w1, hw1⟩ : ∃ w1, w1 = w.alloc (.cells #[P, .slice (some ⟨bb, 0, none⟩) n c] 69) := ⟨_, rfl⟩
  have hb : Below w.heap.size w w1 := by rw [hw1]; exact (Below.refl _ w).alloc (Nat.le_refl _) _
  have hB := Lib.hid hb
  have hconv : ∀ off cp, (convert 28 9 (.slice (some ⟨bb, off, none⟩) 0 cp)).run Try.prog w1 = .ok (.string ⟨#[]⟩) w1 := fun off cp =>
    run_convert_bytes_back (P := Try.prog) w1 28 9 5 ⟨bb, off, none⟩ cp [] Try.underlying28 Try.underlying5 Try.underlying9 (fun j hj => absurd hj (by simp))
  rw [hw1] at hB hconv
  clear hw1 hb
  by_cases he : at_ = c
  · subst he
    obtain rfl : n = at_ := by omega
    have h1 := hconv 0 0
    clear hconv
    go_enter Try.func62, Try.ntmps62
    go_wp2
    go_ret
    exact ⟨rfl, hB.out⟩
  · have h1 := hconv at_ (c - at_)
    have i1 : (at_ : Int) < c := by omega
    clear hconv
    go_enter Try.func62, Try.ntmps62
    go_wp2
    go_ret
    exact ⟨rfl, hB.out⟩
end Go.Proofs.Ytpopfmboonjplaa
namespace Go.Proofs.Ytpopfmboonjplaa
open Go.RowKit
set_option linter.unusedVariables false

theorem lay_none (P S : Value) (at_ k cp : Nat) (A : Option Addr) (w : World) (hP : P = .pointer none) : Calls Try.prog 45 #[.agg #[P, S], .int .u32 at_, .slice A k cp] w fun e w' => e = .returned (.bool false) ∧ Below w.heap.size w w' := by
  subst hP
  have hT := Lib.hid (fun w => there_none S at_ k w)
  have hb := Lib.hid ((Below.refl w.heap.size w).alloc (Nat.le_refl _) (.cells #[.pointer none, S] 69))
  have c0 : (w.alloc (.cells #[.pointer none, S] 69)).heap.size = w.heap.size + 1 := by simp
  go_enter Try.func45, Try.ntmps45
  go_wp2_with fail
  refine (hT.out _).mono ?_
  rintro e w2 ⟨rfl, hb2⟩
  have hb3 := Lib.hid (hb.out.trans (hb2.mono (by omega)))
  clear hb2 c0
  go_wp2
  go_ret
  exact ⟨rfl, hb3.out⟩
section
variable {a mb wb bb c n g : Nat} {f : Nat → Bool} {l : List UInt8} {w : World}
theorem lay_no (at_ k cp : Nat) (A : Option Addr) (B : Option Addr) (la : at_ < 4294967296) (ln : n ≤ 262144) (lk : k < 9223372036854775808) (h : thr n at_ k = false) :
    Calls Try.prog 45 #[.agg #[.pointer (some ⟨mb, 0, none⟩), .slice B n c], .int .u32 at_, .slice A k cp] w fun e w' => e = .returned (.bool false) ∧ Below w.heap.size w w' := by
  have hT := Lib.hid (fun w => there_any ⟨mb, 0, none⟩ B n c at_ k w ln la (by omega))
  rw [h] at hT
  have hb := Lib.hid ((Below.refl w.heap.size w).alloc (Nat.le_refl _) (.cells #[.pointer (some ⟨mb, 0, none⟩), .slice B n c] 69))
  have c0 : (w.alloc (.cells #[.pointer (some ⟨mb, 0, none⟩), .slice B n c] 69)).heap.size = w.heap.size + 1 := by simp
  clear h
  go_enter Try.func45, Try.ntmps45
  go_wp2_with fail
  refine (hT.out _).mono ?_
  rintro e w2 ⟨rfl, hb2⟩
  have hb3 := Lib.hid (hb.out.trans (hb2.mono (by omega)))
  clear hb2 c0
  go_wp2
  go_ret
  exact ⟨rfl, hb3.out⟩
set_option maxRecDepth 100000 in
theorem lay_yes (H : ArAt w a mb wb bb c n g f l) (b : List UInt8) (sb so cp at_ : Nat) (hs : ∀ j u, b[j]? = some u → w.cell? ⟨sb, so + j, none⟩ = some (vb u)) (h0 : 0 < b.length) (h : at_ + b.length ≤ n) :
    Calls Try.prog 45 #[.agg #[.pointer (some ⟨mb, 0, none⟩), .slice (some ⟨bb, 0, none⟩) n c], .int .u32 at_, .slice (some ⟨sb, so, none⟩) b.length cp] w (Nxt a mb wb bb c n g (clr f at_ b.length) (ovr l at_ b) w (.bool true)) := by
  have hn : n ≤ 262144 := by have := H.hn; have := H.hi; omega
  have hT := Lib.hid (fun w => there_any ⟨mb, 0, none⟩ (some ⟨bb, 0, none⟩) n c at_ b.length w hn (by omega) (by omega))
  have e1 : thr n at_ b.length = true := by simp [thr]; omega
  rw [e1] at hT
  obtain ⟨w1, hw1⟩ : ∃ w1, w1 = w.alloc (.cells #[.pointer (some ⟨mb, 0, none⟩), .slice (some ⟨bb, 0, none⟩) n c] 69) := ⟨_, rfl⟩
  have hb1 : Below w.heap.size w w1 := by rw [hw1]; exact (Below.refl _ w).alloc (Nat.le_refl _) _
  have s1 : w1.heap.size = w.heap.size + 1 := by rw [hw1]; simp
  have q0 : w1.cell? ⟨w.heap.size, 0, none⟩ = some (.pointer (some ⟨mb, 0, none⟩)) := by rw [hw1]; simp
  have q1 : w1.cell? ⟨w.heap.size, 1, none⟩ = some (.slice (some ⟨bb, 0, none⟩) n c) := by rw [hw1]; simp
  obtain ⟨k, hk⟩ : ∃ k, k = b.length := ⟨_, rfl⟩
  rw [← hk] at h0 h hT ⊢
  have hw := Lib.hid hw1
  have hk' := Lib.hid hk
  have G := Lib.hid (And.intro H (And.intro hb1 (And.intro s1 (And.intro q0 (And.intro q1 hs)))))
  have i1 : (at_ : Int) < c := by have := H.caps.1; omega
  have i2 : (at_ : Int) + k ≤ n := by omega
  clear hw1 hk e1 H hb1 s1 q0 q1 hs
  go_enter Try.func45, Try.ntmps45
  go_wp2_with fail
  rw [← hw.out]
  refine (hT.out _).mono ?_
  rintro e w2 ⟨rfl, hb2⟩
  obtain ⟨H, hb1, s1, q0, q1, hs⟩ := G.out
  have H2 : ArAt w2 a mb wb bb c n g f l := (H.below hb1).below hb2
  have p0 := (hb2.cell (p := ⟨w.heap.size, 0, none⟩) (by show w.heap.size < _; omega)).trans q0
  have p1 := (hb2.cell (p := ⟨w.heap.size, 1, none⟩) (by show w.heap.size < _; omega)).trans q1
  have hB2 : Below w.heap.size w w2 := hb1.trans (hb2.mono (by omega))
  have hs2 : ∀ j u, b[j]? = some u → w2.cell? ⟨sb, so + j, none⟩ = some (vb u) := fun j u hu => by
    have h1 := hs j u hu
    exact (hB2.cell (p := ⟨sb, so + j, none⟩) (World.block_lt_of_cell? w ⟨sb, so + j, none⟩ h1)).trans h1
  obtain ⟨cur, hc, hcs⟩ := H2.row
  have hlen : cur.toList.length = cur.size := by simp
  have G2 := Lib.hid (And.intro H2 (And.intro hB2 (And.intro hs2 (And.intro hc hcs))))
  have sz := Lib.hid (show w.heap.size + 1 ≤ w2.heap.size by have := hb2.size; omega)
  clear hs q0 q1 hb1 H hb2 hT hB2 hs2 hc hcs H2 s1
  obtain ⟨w3, hrun, hL, hO, hsz, hcell⟩ : ∃ w3, (Builtin.copy_ #[28, 28] 3 #[.slice (some ⟨bb, at_, none⟩) (n - at_) (c - at_), .slice (some ⟨sb, so, none⟩) k cp]).run Try.prog w2 = .ok (.int .i64 (k : Int)) w3 ∧
      ArAt w3 a mb wb bb c n g f (ovr l at_ b) ∧ Of2 w.heap.size wb bb w w3 ∧ w3.heap.size = w2.heap.size ∧ ∀ o, w3.cell? ⟨w.heap.size, o, none⟩ = w2.cell? ⟨w.heap.size, o, none⟩ := by
    have hlb : (b.map vb).length = k := by rw [List.length_map, hk'.out]
    have hrun := run_copy_row (P := Try.prog) w2 28 28 3 5 bb at_ (n - at_) (c - at_) ⟨sb, so, none⟩ k cp cur 5 (b.map vb) Try.underlying28 (by kernel_rfl) G2.out.2.2.2.1 (by rw [hlb]; exact (Nat.min_eq_left (by omega)).symm)
      (fun j v hv => by
        rw [List.getElem?_map] at hv
        rw [Addr.add_lit]
        obtain ⟨u, hu, rfl⟩ := Option.map_eq_some_iff.1 hv
        exact G2.out.2.2.1 j u hu) (by have := G2.out.2.2.2.2; omega) (fun v hv => by
        obtain ⟨u, _, rfl⟩ := List.mem_map.1 hv
        rfl)
    refine ⟨_, hrun.trans (by rw [hlb, List.append_assoc]; rfl), G2.out.1.lay (k := at_) (b := b) (by rw [← hk'.out]; omega) G2.out.2.2.2.1, (Of2.of_below (x := wb) (y := bb) G2.out.2.1).setRow (g := bb) (.inr (.inr rfl)) _, by simp [World.setRow], fun o => World.cell?_of_block (Go.setRow_other w2 bb w.heap.size _ (by have := G.out.1.lb; omega))⟩
  have r0 := (hcell 0).trans p0
  have r1 := (hcell 1).trans p1
  have hL' := Lib.hid hL
  have hO' := Lib.hid hO
  have hsz' := Lib.hid hsz
  have hb' := Lib.hid hw
  clear hL hO hsz hcell
  have hgr := Lib.hid (fun (v : Int) w (h : 0 ≤ v ∧ v < 4294967296) => granule_int v w h.1 h.2)
  have j1 : (k : Int) ≤ 262144 := by omega
  have j2 : (at_ : Int) < 262144 := by omega
  have j3 : 0 < (k : Int) := by omega
  go_wp2_with fail
  have t1 : IntKind.u32.wrap (k : Int) = k := by rw [IntKind.wrap_u32]; omega
  have t2 : IntKind.u32.wrap ((at_ : Int) + k) = at_ + k := by rw [IntKind.wrap_u32]; omega
  have t3 : IntKind.u32.wrap ((at_ : Int) + k - 1) = at_ + k - 1 := by rw [IntKind.wrap_u32]; omega
  have t4 : IntKind.i64.wrap (((at_ : Int) + k - 1) / 16 + 1) = ((at_ : Int) + k - 1) / 16 + 1 := by rw [IntKind.wrap_i64]; omega
  go_still_tail 11, (by kernel_rfl)
  repeat still_step
  still_call ((hgr.out (at_ : Int) _ (by omega)).mono fun e w' h => ⟨h.1, h.2.symm⟩)
  repeat still_step
  still_call ((hgr.out ((at_ : Int) + k - 1) _ (by omega)).mono fun e w' h => ⟨h.1, h.2.symm⟩)
  repeat still_step
  refine wpStill_nil ?_
  change wpList _ _ _ _ _ w3.drew
  have hL2 := Lib.hid hL'.out.drew
  have hO2 := Lib.hid hO'.out.drew
  have hsz2 := Lib.hid (show w3.drew.heap.size = w2.heap.size from hsz'.out)
  generalize w3.drew = w4 at hL2 hO2 hsz2 ⊢
  have hC := Lib.hid (clear_any mb wb g (at_ / 16) ((at_ + k - 1) / 16 + 1) f ((at_ : Int) / 16) (((at_ : Int) + k - 1) / 16 + 1) w4 hL2.out.m (by omega) (by omega) (by omega) (by have := hL2.out.hn; omega))
  clear r0 r1 p0 p1
  go_wp2_with fail
  refine hC.out.mono ?_
  rintro e w5 ⟨rfl, hm, ho⟩
  have hE := Lib.hid (And.intro (hL2.out.map hm ho) (hO2.out.trans (Of2.of_off (ho.mono (by have := hsz2.out; have := sz.out; omega)))))
  clear hm ho hC
  go_wp2
  go_ret
  refine ⟨rfl, hE.out.1.ext (fun j => ?_) rfl, hE.out.2⟩
  simp only [clr, tch, inr]
  congr 2
  rw [Bool.eq_iff_iff]
  simp
  omega
set_option maxRecDepth 100000 in
theorem lay_zero (A : Option Addr) (cp at_ : Nat) (hc : n ≤ c) (ln : n ≤ 262144) (h : at_ ≤ n) (w : World) :
    Calls Try.prog 45 #[.agg #[.pointer (some ⟨mb, 0, none⟩), .slice (some ⟨bb, 0, none⟩) n c], .int .u32 at_, .slice A 0 cp] w fun e w' => e = .returned (.bool true) ∧ Below w.heap.size w w' := by
  have hT := Lib.hid (fun w => there_any ⟨mb, 0, none⟩ (some ⟨bb, 0, none⟩) n c at_ 0 w ln (by omega) (by omega))
  have e1 : thr n at_ 0 = true := by simp [thr]; omega
  rw [e1] at hT
  obtain ⟨w1, hw1⟩ : ∃ w1, w1 = w.alloc (.cells #[.pointer (some ⟨mb, 0, none⟩), .slice (some ⟨bb, 0, none⟩) n c] 69) := ⟨_, rfl⟩
  have hb1 : Below w.heap.size w w1 := by rw [hw1]; exact (Below.refl _ w).alloc (Nat.le_refl _) _
  have s1 : w1.heap.size = w.heap.size + 1 := by rw [hw1]; simp
  have q0 : w1.cell? ⟨w.heap.size, 0, none⟩ = some (.pointer (some ⟨mb, 0, none⟩)) := by rw [hw1]; simp
  have q1 : w1.cell? ⟨w.heap.size, 1, none⟩ = some (.slice (some ⟨bb, 0, none⟩) n c) := by rw [hw1]; simp
  have hw := Lib.hid hw1
  have G := Lib.hid (And.intro hb1 (And.intro s1 (And.intro q0 q1)))
  have i2 : (at_ : Int) ≤ n := by omega
  have hcp := fun off d1 d2 w => run_copy_none (P := Try.prog) w 28 28 3 5 (some ⟨bb, off, none⟩) A d1 d2 0 cp Try.underlying28 (by kernel_rfl) (Nat.zero_min _)
  clear hw1 e1 hb1 s1 q0 q1
  by_cases he : at_ = c
  all_goals
    first
      | (obtain rfl : n = at_ := by omega
         subst he)
      | (have i1 : (at_ : Int) < c := by omega)
    go_enter Try.func45, Try.ntmps45
    go_wp2_with fail
    rw [← hw.out]
    refine (hT.out _).mono ?_
    rintro e w2 ⟨rfl, hb2⟩
    obtain ⟨hb1, s1, q0, q1⟩ := G.out
    have p0 := (hb2.cell (p := ⟨w.heap.size, 0, none⟩) (by show w.heap.size < _; omega)).trans q0
    have p1 := (hb2.cell (p := ⟨w.heap.size, 1, none⟩) (by show w.heap.size < _; omega)).trans q1
    have hB2 := Lib.hid (hb1.trans (hb2.mono (by omega)))
    clear hb1 s1 q0 q1 hb2
    go_wp2
    go_ret
    exact ⟨rfl, hB2.out⟩
end
end Go.Proofs.Ytpopfmboonjplaa
namespace Go.Proofs.Ytpopfmboonjplaa
open Go.RowKit
set_option linter.unusedVariables false

/-- The tags, the bytes, when s is written at at_. -/
def stF (n : Nat) (f : Nat → Bool) (at_ k : Nat) : Nat → Bool := if thr n at_ k then clr f at_ k else f
def stL (n : Nat) (l : List UInt8) (at_ : Nat) (s : List UInt8) : List UInt8 := if thr n at_ s.length then ovr l at_ s else l
theorem thr_iff {n at_ k : Nat} : thr n at_ (k : Int) = true ↔ at_ + k ≤ n := by simp [thr]; omega
theorem stL_nil (n : Nat) (l : List UInt8) (at_ : Nat) : stL n l at_ [] = l := by simp [stL, ovr_nil]
theorem stF_zero (n : Nat) (f : Nat → Bool) (at_ : Nat) : stF n f at_ 0 = f := by simp [stF, clr_zero]
section
variable {a mb wb bb c n g : Nat} {f : Nat → Bool} {l : List UInt8} {w : World}
theorem ArAt.ln (H : ArAt w a mb wb bb c n g f l) : n ≤ 262144 := by have := H.hn; have := H.hi; omega
theorem ArAt.l0 (H : ArAt w a mb wb bb c n g f l) : 4096 ≤ n := by have := H.hn; have := H.lo; omega
theorem aown (H : ArAt w a mb wb bb c n g f l) : Calls Try.prog 42 #[.pointer (some ⟨a, 0, none⟩)] w fun e w' => e = .returned (.agg #[.pointer (some ⟨mb, 0, none⟩), .slice (some ⟨bb, 0, none⟩) n c]) ∧ Below w.heap.size w w' :=
  own_any a _ _ n c w H.q0 H.q1 H.la
theorem afield (mb bb n c : Nat) : ∀ w, (Instr.field 69 (.agg #[.pointer (some ⟨mb, 0, none⟩), .slice (some ⟨bb, 0, none⟩) n c]) 1).run Try.prog w = .ok (.slice (some ⟨bb, 0, none⟩) n c) w := fun w => by kernel_rfl
theorem afield0 (mb bb n c : Nat) : ∀ w, (Instr.field 69 (.agg #[.pointer (some ⟨mb, 0, none⟩), .slice (some ⟨bb, 0, none⟩) n c]) 0).run Try.prog w = .ok (.pointer (some ⟨mb, 0, none⟩)) w := fun w => by kernel_rfl
set_option maxRecDepth 100000 in
theorem asize_any (H : ArAt w a mb wb bb c n g f l) : Calls Try.prog 16 #[.pointer (some ⟨a, 0, none⟩)] w fun e w' => e = .returned (.int .i64 n) ∧ Below w.heap.size w w' := by
  have hO := Lib.hid (aown H)
  have hf := afield mb bb n c
  clear H
  go_enter Try.func16, Try.ntmps16
  go_wp2_with fail
  refine hO.out.mono ?_
  rintro e w2 ⟨rfl, hb⟩
  have hB := Lib.hid hb
  clear hb
  go_wp2
  go_ret
  exact ⟨rfl, hB.out⟩
set_option maxRecDepth 100000 in
theorem aload_any (H : ArAt w a mb wb bb c n g f l) (at_ : Nat) (k : Int) (la : at_ < 4294967296) : Calls Try.prog 29 #[.pointer (some ⟨a, 0, none⟩), .int .u32 at_, .int .i64 k] w fun e w' => e = .returned (.tuple #[.int .u32 (getB l at_ k : Nat), .bool (inB n at_ k)]) ∧ Below w.heap.size w w' := by
  have hO := Lib.hid (aown H)
  have hG : ∀ w', Below w.heap.size w w' → Calls Try.prog 63 #[.slice (some ⟨bb, 0, none⟩) n c, .int .i64 at_, .int .i64 k] w' fun e w' => e = .returned (.tuple #[.int .u32 (getB l at_ k : Nat), .bool (inB n at_ k)]) ∧ Below w.heap.size w w' := fun w' hb => by
    have H' := H.below hb
    have := get_any (some ⟨bb, 0, none⟩) l w'.heap.size c at_ k w' H'.rb (by have := H.len; have := H.ln; omega) (by rw [H.len]; exact H.caps.1) (by omega)
    rw [H.len] at this
    exact this.mono fun e w'' ⟨h1, k, h2⟩ => ⟨h1, h2 ▸ below_drewN hb k⟩
  have hG' := Lib.hid hG
  have hf := afield mb bb n c
  clear H hG
  go_enter Try.func29, Try.ntmps29
  go_wp2_with fail
  refine hO.out.mono ?_
  rintro e w2 ⟨rfl, hb⟩
  have hB := Lib.hid hb
  clear hb
  go_wp2_with fail
  refine (hG'.out w2 hB.out).mono ?_
  rintro e w3 ⟨rfl, hb⟩
  have hB3 := Lib.hid hb
  clear hb
  go_wp2
  go_ret2
  exact ⟨rfl, hB3.out⟩
theorem aread_no (H : ArAt w a mb wb bb c n g f l) (at_ : Nat) (k : Int) (la : at_ < 4294967296) (hk : -9223372036854775808 ≤ k ∧ k < 9223372036854775808) (h : thr n at_ k = false) : Calls Try.prog 28 #[.pointer (some ⟨a, 0, none⟩), .int .u32 at_, .int .i64 k] w fun e w' => e = .returned (.tuple #[.string ⟨#[]⟩, .bool false]) ∧ Below w.heap.size w w' := by
  have hO := Lib.hid (aown H)
  have hT := Lib.hid (fun w => there_any ⟨mb, 0, none⟩ (some ⟨bb, 0, none⟩) n c at_ k w H.ln la hk)
  rw [h] at hT
  clear H h hk
  go_enter Try.func28, Try.ntmps28
  go_wp2_with fail
  refine hO.out.mono ?_
  rintro e w2 ⟨rfl, hb⟩
  have hb2 := Lib.hid (hb.alloc hb.size (.cells #[.pointer (some ⟨mb, 0, none⟩), .slice (some ⟨bb, 0, none⟩) n c] 69))
  have hsz := hb.size
  clear hb
  go_wp2_with fail
  refine (hT.out _).mono ?_
  rintro e w3 ⟨rfl, hb⟩
  have hb3 := Lib.hid (hb2.out.trans (hb.mono (by simp; omega)))
  clear hb
  go_wp2
  go_ret2
  exact ⟨rfl, hb3.out⟩
theorem aread_yes (H : ArAt w a mb wb bb c n g f l) (at_ : Nat) (k : Nat) (la : at_ < 4294967296) (h : at_ + k ≤ n) : Calls Try.prog 28 #[.pointer (some ⟨a, 0, none⟩), .int .u32 at_, .int .i64 k] w fun e w' => e = .returned (.tuple #[.string ⟨((l.drop at_).take k).toArray⟩, .bool true]) ∧ Below w.heap.size w w' := by
  have hO := Lib.hid (aown H)
  have hT := Lib.hid (fun w => there_any ⟨mb, 0, none⟩ (some ⟨bb, 0, none⟩) n c at_ k w H.ln la (by have := H.ln; omega))
  rw [thr_iff.2 h] at hT
  have hC : ∀ w', Below w.heap.size w w' → Calls Try.prog 62 #[.agg #[.pointer (some ⟨mb, 0, none⟩), .slice (some ⟨bb, 0, none⟩) n c], .int .u32 at_, .int .i64 k] w' fun e w'' => e = .returned (.string ⟨((l.drop at_).take k).toArray⟩) ∧ Below w'.heap.size w' w'' := fun w' hb => by
    have H' := H.below hb
    rcases Nat.eq_zero_or_pos k with rfl | h0
    · rw [List.take_zero]
      exact cut_nil _ bb c n at_ w' H.caps.1 (by omega) H.ln
    · exact cut_pos _ bb c n at_ k l w' H.len H.caps.1 h H.ln h0 (fun j u hu => H'.cell hu) H'.lb
  have hC' := Lib.hid hC
  clear H h hC
  go_enter Try.func28, Try.ntmps28
  go_wp2_with fail
  refine hO.out.mono ?_
  rintro e w2 ⟨rfl, hb⟩
  have hb2 := Lib.hid (hb.alloc hb.size (.cells #[.pointer (some ⟨mb, 0, none⟩), .slice (some ⟨bb, 0, none⟩) n c] 69))
  obtain ⟨w3, hw3⟩ : ∃ w3, w3 = w2.alloc (.cells #[.pointer (some ⟨mb, 0, none⟩), .slice (some ⟨bb, 0, none⟩) n c] 69) := ⟨_, rfl⟩
  have q0 : w3.cell? ⟨w2.heap.size, 0, none⟩ = some (.pointer (some ⟨mb, 0, none⟩)) := by rw [hw3]; simp
  have q1 : w3.cell? ⟨w2.heap.size, 1, none⟩ = some (.slice (some ⟨bb, 0, none⟩) n c) := by rw [hw3]; simp
  have s3 : w3.heap.size = w2.heap.size + 1 := by rw [hw3]; simp
  have hsz := hb.size
  have hw := Lib.hid hw3
  have G := Lib.hid (And.intro q0 (And.intro q1 (And.intro s3 hsz)))
  clear hb hw3 q0 q1 s3 hsz
  go_wp2_with fail
  rw [← hw.out] at hb2 ⊢
  refine (hT.out _).mono ?_
  rintro e w4 ⟨rfl, hb⟩
  have p0 := (hb.cell (p := ⟨w2.heap.size, 0, none⟩) (by show w2.heap.size < _; have := G.out.2.2.1; omega)).trans G.out.1
  have p1 := (hb.cell (p := ⟨w2.heap.size, 1, none⟩) (by show w2.heap.size < _; have := G.out.2.2.1; omega)).trans G.out.2.1
  have hb4 := Lib.hid (hb2.out.trans (hb.mono (by have := G.out.2.2; omega)))
  clear hb
  go_wp2_with fail
  refine (hC'.out w4 hb4.out).mono ?_
  rintro e w5 ⟨rfl, hb⟩
  have hb5 := Lib.hid (hb4.out.trans (hb.mono hb4.out.size))
  clear hb p0 p1
  go_wp2
  go_ret2
  exact ⟨rfl, hb5.out⟩
/-- What lies at s's bytes is laid into the arena. -/
theorem alay_any (H : ArAt w a mb wb bb c n g f l) (s : List UInt8) (sb cp at_ : Nat) (la : at_ < 4294967296) (ls : s.length < 9223372036854775808) (hs : ∀ j u, s[j]? = some u → w.cell? ⟨sb, j, none⟩ = some (vb u)) :
    Calls Try.prog 45 #[.agg #[.pointer (some ⟨mb, 0, none⟩), .slice (some ⟨bb, 0, none⟩) n c], .int .u32 at_, .slice (some ⟨sb, 0, none⟩) s.length cp] w (Nxt a mb wb bb c n g (stF n f at_ s.length) (stL n l at_ s) w (.bool (thr n at_ s.length))) := by
  rcases ht : thr n at_ s.length with _ | _
  · have := lay_no (w := w) (mb := mb) (c := c) at_ s.length cp (some ⟨sb, 0, none⟩) (some ⟨bb, 0, none⟩) la H.ln ls ht
    refine this.mono fun e w' h => ?_
    simp only [stF, stL, ht]
    exact nxt_below H h
  · have h := thr_iff.1 ht
    simp only [stF, stL, ht, if_true]
    rcases Nat.eq_zero_or_pos s.length with h0 | h0
    · have e0 : s = [] := List.eq_nil_of_length_eq_zero h0
      subst e0
      rw [List.length_nil, clr_zero, ovr_nil]
      exact (lay_zero (some ⟨sb, 0, none⟩) cp at_ H.caps.1 H.ln (by simpa using h) w).mono fun e w' h => nxt_below H h
    · exact lay_yes H s sb 0 cp at_ (fun j u hu => by rw [Nat.zero_add]; exact hs j u hu) h0 h
theorem awrite_any (H : ArAt w a mb wb bb c n g f l) (s : List UInt8) (at_ : Nat) (la : at_ < 4294967296) (ls : s.length < 9223372036854775808) :
    Calls Try.prog 25 #[.pointer (some ⟨a, 0, none⟩), .int .u32 at_, .string ⟨s.toArray⟩] w (Nxt a mb wb bb c n g (stF n f at_ s.length) (stL n l at_ s) w (.bool (thr n at_ s.length))) := by
  have hO := Lib.hid (aown H)
  have hconv : ∀ w, (convert 9 28 (.string ⟨s.toArray⟩)).run Try.prog w = .ok (.slice (some ⟨w.heap.size, 0, none⟩) s.length (grownCap w s.length 0 5)) (Lib.bytesWorld w 5 ⟨s.toArray⟩) := fun w => Lib.run_convert_string_bytes w _ _ _ _ Try.underlying9 Try.underlying28 Try.underlying5
  have hH := Lib.hid H
  have ls' := Lib.hid ls
  clear H ls
  go_enter Try.func25, Try.ntmps25
  go_wp2_with fail
  refine hO.out.mono ?_
  rintro e w2 ⟨rfl, hb⟩
  have hB := Lib.hid hb
  clear hb
  go_wp2_with fail
  have hB2 := bw_below w2 5 ⟨s.toArray⟩
  have H3 := (hH.out.below hB.out).below hB2
  refine (alay_any H3 s _ _ at_ la ls'.out (fun j u hu => bw_cell w2 5 s j u hu)).mono ?_
  rintro e w3 ⟨rfl, h3, o3⟩
  have hE := Lib.hid (And.intro h3 ((Of2.of_below (hB.out.trans (hB2.mono hB.out.size))).step o3))
  clear h3 o3 H3 hB2
  go_wp2
  go_ret
  exact ⟨rfl, hE.out⟩
theorem putB_nil (k : Int) (v : Nat) : (putB [] k v).length = if isW k then k.toNat else 0 := by
  unfold putB; split <;> simp [leB_length]
theorem astore_any (H : ArAt w a mb wb bb c n g f l) (k : Int) (v at_ : Nat) (la : at_ < 4294967296) (lv : v < 4294967296) :
    Calls Try.prog 19 #[.pointer (some ⟨a, 0, none⟩), .int .u32 at_, .int .i64 k, .int .u32 v] w (Nxt a mb wb bb c n g (stF n f at_ (putB [] k v).length) (stL n l at_ (putB [] k v)) w (.bool (isW k && thr n at_ (putB [] k v).length))) := by
  have hP := Lib.hid (put_any [] k v w (by simp) lv)
  have hO := Lib.hid (fun w' (hb : Below w.heap.size w w') => aown (H.below hb))
  have hH := Lib.hid H
  rcases hk : isW k with _ | _
  · have e0 : putB [] k v = [] := by simp [putB, hk]
    rw [e0] at hP ⊢
    rw [List.length_nil, stF_zero, stL_nil, Bool.false_and]
    clear H hk e0
    go_enter Try.func19, Try.ntmps19
    go_wp2_with fail
    refine hP.out.mono ?_
    rintro e w2 ⟨rfl, hb⟩
    have hE := Lib.hid (nxt_below hH.out ⟨rfl, hb⟩ (v := .bool false))
    clear hb
    go_wp2
    go_ret
    exact hE.out
  · have hw := isW_cases hk
    have hl : 0 < (putB [] k v).length := by rw [putB_nil, if_pos hk]; omega
    have hl2 : (putB [] k v).length < 9223372036854775808 := by rw [putB_nil, if_pos hk]; omega
    rw [Bool.true_and]
    generalize putB [] k v = s at *
    have hse : ¬ s = [] := fun e => by rw [e] at hl; simp at hl
    have hconv : ∀ w, (convert 9 28 (.string ⟨s.toArray⟩)).run Try.prog w = .ok (.slice (some ⟨w.heap.size, 0, none⟩) s.length (grownCap w s.length 0 5)) (Lib.bytesWorld w 5 ⟨s.toArray⟩) := fun w => Lib.run_convert_string_bytes w _ _ _ _ Try.underlying9 Try.underlying28 Try.underlying5
    have ls' := Lib.hid hl2
    clear H hk hw hl hl2
    go_enter Try.func19, Try.ntmps19
    go_wp2_with fail
    refine hP.out.mono ?_
    rintro e w2 ⟨rfl, hb⟩
    have hB := Lib.hid hb
    clear hb
    go_wp2_with fail
    refine (hO.out w2 hB.out).mono ?_
    rintro e w3 ⟨rfl, hb⟩
    have hB3 := Lib.hid (hB.out.trans (hb.mono hB.out.size))
    clear hb
    go_wp2_with fail
    have hB2 := bw_below w3 5 ⟨s.toArray⟩
    have H3 := (hH.out.below hB3.out).below hB2
    refine (alay_any H3 s _ _ at_ la ls'.out (fun j u hu => bw_cell w3 5 s j u hu)).mono ?_
    rintro e w4 ⟨rfl, h3, o3⟩
    have hE := Lib.hid (And.intro h3 ((Of2.of_below (hB3.out.trans (hB2.mono hB3.out.size))).step o3))
    clear h3 o3 H3 hB2
    go_wp2
    go_ret
    refine ⟨ret_bool ?_, hE.out⟩
    cases s with
    | nil => exact absurd rfl hse
    | cons x xs => rfl
end
end Go.Proofs.Ytpopfmboonjplaa
