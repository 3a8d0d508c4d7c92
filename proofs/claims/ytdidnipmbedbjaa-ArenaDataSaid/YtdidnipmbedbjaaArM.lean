/- The arena in memory, and what is kept of it. Plain lemmas; no statement is proved here. -/
import Derived.Test.YtdidnipmbedbjaaTagE
import Derived.Test.YtdidnipmbedbjaaCapP
import Derived.Test.YtdidnipmbedbjaaCapN
import Derived.Test.YtdidnipmbedbjaaRow
import Derived.Test.YtdidnipmbedbjaaOctC
import Derived.Laws.CopyOwn
namespace Go.Proofs.Ytdidnipmbedbjaa
open Go.RowKit
set_option linter.unusedVariables false

/-- Below block B, and but for the blocks x and y, the world is as it was. -/
structure Of2 (B x y : Nat) (w w' : World) : Prop where
  os : w'.os = w.os
  tape : w'.tape = w.tape
  output : w'.output = w.output
  size : w.heap.size ≤ w'.heap.size
  block : ∀ k, k < B → k ≠ x → k ≠ y → w'.heap[k]? = w.heap[k]?
section
variable {B x y : Nat} {a b c w w' : World}
theorem Of2.refl (B x y : Nat) (w : World) : Of2 B x y w w := ⟨rfl, rfl, rfl, Nat.le_refl _, fun _ _ _ _ => rfl⟩
theorem Of2.trans (h : Of2 B x y a b) (k : Of2 B x y b c) : Of2 B x y a c :=
  ⟨k.os.trans h.os, k.tape.trans h.tape, k.output.trans h.output, Nat.le_trans h.size k.size, fun i hi h1 h2 => (k.block i hi h1 h2).trans (h.block i hi h1 h2)⟩
theorem Of2.mono (h : Of2 B x y w w') {B' : Nat} (hB : B' ≤ B) : Of2 B' x y w w' := ⟨h.os, h.tape, h.output, h.size, fun k hk h1 h2 => h.block k (by omega) h1 h2⟩
theorem Of2.step (h : Of2 a.heap.size x y a b) (k : Of2 b.heap.size x y b c) : Of2 a.heap.size x y a c := h.trans (k.mono h.size)
theorem Of2.drew (h : Of2 B x y a w) : Of2 B x y a w.drew := ⟨h.os, h.tape, h.output, h.size, h.block⟩
theorem Of2.of_below (h : Below B w w') : Of2 B x y w w' := ⟨h.os, h.tape, h.output, h.size, fun k hk _ _ => h.block k hk⟩
theorem Of2.of_off (h : Off B x w w') : Of2 B x y w w' := ⟨h.os, h.tape, h.output, h.size, fun k hk h1 _ => h.block k hk h1⟩
theorem Of2.below (h : Of2 B x y w w') {B' : Nat} (hB : B' ≤ B) (hx : B' ≤ x) (hy : B' ≤ y) : Below B' w w' := ⟨h.os, h.tape, h.output, h.size, fun k hk => h.block k (by omega) (by omega) (by omega)⟩
theorem Of2.alloc (h : Of2 B x y a w) (hB : B ≤ w.heap.size) (o : Obj) : Of2 B x y a (w.alloc o) := h.trans (Of2.of_below ((Below.refl B w).alloc hB o))
theorem Of2.setCell (h : Of2 B x y a w) {p : Addr} (hp : B ≤ p.block ∨ p.block = x ∨ p.block = y) (u : Value) : Of2 B x y a (w.setCell p u) :=
  h.trans ⟨rfl, rfl, rfl, by simp [World.setCell], fun k hk h1 h2 => Below.heap_setCell _ _ _ _ (by omega)⟩
theorem Of2.setRow (h : Of2 B x y a w) {g : Nat} (hp : B ≤ g ∨ g = x ∨ g = y) (u : Array Value) : Of2 B x y a (w.setRow g u) :=
  h.trans ⟨rfl, rfl, rfl, by simp [World.setRow], fun k hk h1 h2 => Go.setRow_other w g k u (by omega)⟩
theorem Of2.cell (h : Of2 B x y w w') {p : Addr} (hp : p.block < B) (h1 : p.block ≠ x) (h2 : p.block ≠ y) : w'.cell? p = w.cell? p := World.cell?_of_block (w := w) (h.block p.block hp h1 h2)
theorem Of2.frozen (h : Of2 B x y w w') {p : Addr} (hp : p.block < B) (h1 : p.block ≠ x) (h2 : p.block ≠ y) : w'.frozen? p = w.frozen? p := World.frozen?_of_block (w := w) (h.block p.block hp h1 h2)
end

theorem ownsRow_block {w w' : World} {base b n c : Nat} {e : TypeId} {xs : List Value} (h : w.ownsRow base e 1 (.slice (some ⟨b, 0, none⟩) n c) n xs) (hb : w'.heap[b]? = w.heap[b]?) : w'.ownsRow base e 1 (.slice (some ⟨b, 0, none⟩) n c) n xs := by
  refine ⟨h.1, ?_⟩
  rcases h.2 with ⟨e, _⟩ | ⟨g, cap, cur, e, h1, h2, h3⟩
  · cases e
  · cases e
    exact .inr ⟨_, _, cur, rfl, h1, hb.trans h2, h3⟩

/-- b laid over l from place k on. -/
def ovr (l : List UInt8) (k : Nat) (b : List UInt8) : List UInt8 := l.take k ++ (b ++ l.drop (k + b.length))
theorem ovr_length {l b : List UInt8} {k : Nat} (h : k + b.length ≤ l.length) : (ovr l k b).length = l.length := by simp [ovr]; omega
theorem ovr_nil (l : List UInt8) (k : Nat) : ovr l k [] = l := by simp [ovr]
/-- Granule j is touched by k bytes from place at_ on. -/
def tch (at_ k : Nat) : Nat → Bool := fun j => decide (0 < k) && decide (at_ < 16 * (j + 1)) && decide (16 * j < at_ + k)
def clr (f : Nat → Bool) (at_ k : Nat) : Nat → Bool := fun j => f j && !tch at_ k j
theorem clr_zero (f : Nat → Bool) (at_ : Nat) : clr f at_ 0 = f := by funext j; simp [clr, tch]

/-- At block a stands an arena of n bytes l, of g granules, whose tags are as f tells: its map in the blocks mb and wb, its bytes in bb. -/
structure ArAt (W : World) (a mb wb bb c n g : Nat) (f : Nat → Bool) (l : List UInt8) : Prop where
  q0 : W.cell? ⟨a, 0, none⟩ = some (.pointer (some ⟨mb, 0, none⟩))
  q1 : W.cell? ⟨a, 1, none⟩ = some (.slice (some ⟨bb, 0, none⟩) n c)
  m : MapAt W mb wb g f
  own : W.ownsRow 0 5 1 (.slice (some ⟨bb, 0, none⟩) n c) n (l.map vb)
  hn : n = 16 * g
  lo : 256 ≤ g
  hi : g ≤ 16384
  la : a < W.heap.size
  n1 : a ≠ wb
  n2 : a ≠ bb
  n3 : mb ≠ bb
  n4 : wb ≠ bb
section
variable {W W' : World} {a mb wb bb c n g B : Nat} {f f' : Nat → Bool} {l l' : List UInt8}
theorem ArAt.lb (h : ArAt W a mb wb bb c n g f l) : bb < W.heap.size := (h.own.lt bb rfl).2
theorem ArAt.len (h : ArAt W a mb wb bb c n g f l) : l.length = n := by simpa using h.own.1
theorem ArAt.caps (h : ArAt W a mb wb bb c n g f l) : n ≤ c ∧ c ≤ maxLen := by
  rcases h.own.2 with ⟨e, _⟩ | ⟨g, cap, cur, e, h1, h2, h3, h4, _⟩
  · cases e
  · cases e; exact ⟨h3, h4⟩
theorem ArAt.keep (h : ArAt W a mb wb bb c n g f l) (hk : ∀ k, k = a ∨ k = mb ∨ k = wb ∨ k = bb → W'.heap[k]? = W.heap[k]?) (hs : W.heap.size ≤ W'.heap.size) : ArAt W' a mb wb bb c n g f l :=
  ⟨(World.cell?_of_block (hk a (.inl rfl))).trans h.q0, (World.cell?_of_block (hk a (.inl rfl))).trans h.q1, h.m.keep (fun k hk' => hk k (hk'.elim (fun e => .inr (.inl e)) (fun e => .inr (.inr (.inl e))))) hs,
    ownsRow_block h.own (hk bb (.inr (.inr (.inr rfl)))), h.hn, h.lo, h.hi, Nat.lt_of_lt_of_le h.la hs, h.n1, h.n2, h.n3, h.n4⟩
theorem ArAt.below (h : ArAt W a mb wb bb c n g f l) (hb : Below W.heap.size W W') : ArAt W' a mb wb bb c n g f l :=
  h.keep (fun k hk => hb.block k (by have := h.la; have := h.lb; have := h.m.lb; have := h.m.lw; omega)) hb.size
theorem ArAt.of2 {x y : Nat} (h : ArAt W a mb wb bb c n g f l) (hb : Of2 W.heap.size x y W W') (hx : a ≠ x ∧ mb ≠ x ∧ wb ≠ x ∧ bb ≠ x) (hy : a ≠ y ∧ mb ≠ y ∧ wb ≠ y ∧ bb ≠ y) : ArAt W' a mb wb bb c n g f l :=
  h.keep (fun k hk => hb.block k (by have := h.la; have := h.lb; have := h.m.lb; have := h.m.lw; omega) (by omega) (by omega)) hb.size
theorem ArAt.drew (h : ArAt W a mb wb bb c n g f l) : ArAt W.drew a mb wb bb c n g f l := h.keep (fun _ _ => rfl) (Nat.le_refl _)
theorem ArAt.alloc (h : ArAt W a mb wb bb c n g f l) (o : Obj) : ArAt (W.alloc o) a mb wb bb c n g f l := h.below ((Below.refl _ W).alloc (Nat.le_refl _) o)
theorem ArAt.cell (h : ArAt W a mb wb bb c n g f l) {j : Nat} {u : UInt8} (hu : l[j]? = some u) : W.cell? ⟨bb, j, none⟩ = some (vb u) := by
  have := h.own.cells (g := bb) rfl j (vb u) (by simp [hu])
  rwa [Addr.add_lit, Nat.zero_add] at this
theorem ArAt.rb (h : ArAt W a mb wb bb c n g f l) : RB W W.heap.size (some ⟨bb, 0, none⟩) l := fun _ =>
  ⟨bb, 0, rfl, h.lb, fun j u hu => by rw [Nat.zero_add]; exact h.cell hu⟩
theorem ArAt.ext (h : ArAt W a mb wb bb c n g f l) (e : ∀ k, f k = f' k) (e2 : l = l') : ArAt W a mb wb bb c n g f' l' :=
  e2 ▸ ⟨h.q0, h.q1, h.m.congr e, h.own, h.hn, h.lo, h.hi, h.la, h.n1, h.n2, h.n3, h.n4⟩
/-- Another map in the same blocks. -/
theorem ArAt.map (h : ArAt W a mb wb bb c n g f l) (hm : MapAt W' mb wb g f') (ho : Off W.heap.size wb W W') : ArAt W' a mb wb bb c n g f' l :=
  have hk : ∀ k, k = a ∨ k = bb → W'.heap[k]? = W.heap[k]? := fun k hk => ho.block k (by have := h.la; have := h.lb; omega) (by have := h.n1; have := h.n4; omega)
  ⟨(World.cell?_of_block (hk a (.inl rfl))).trans h.q0, (World.cell?_of_block (hk a (.inl rfl))).trans h.q1, hm, ownsRow_block h.own (hk bb (.inr rfl)), h.hn, h.lo, h.hi, Nat.lt_of_lt_of_le h.la ho.size, h.n1, h.n2, h.n3, h.n4⟩
theorem splice_take {L A cs : List Value} {n k : Nat} (hA : L.take n = A) (hn : A.length = n) (hk : k + cs.length ≤ n) : (L.take k ++ (cs ++ L.drop (k + cs.length))).take n = A.take k ++ (cs ++ A.drop (k + cs.length)) := by
  obtain ⟨R, hR⟩ : ∃ R, L = A ++ R := ⟨L.drop n, by rw [← hA, List.take_append_drop]⟩
  have e1 : (A ++ R).take k = A.take k := List.take_append_of_le_length (by omega)
  have e2 : (A ++ R).drop (k + cs.length) = A.drop (k + cs.length) ++ R := List.drop_append_of_le_length (by omega)
  rw [hR, e1, e2, ← List.append_assoc cs, ← List.append_assoc (A.take k)]
  have hl : (A.take k ++ (cs ++ A.drop (k + cs.length))).length = n := by simp; omega
  rw [List.take_append_of_le_length (by omega), List.take_of_length_le (by omega)]
/-- Bytes laid over the arena's. -/
theorem ArAt.lay (h : ArAt W a mb wb bb c n g f l) {k : Nat} {b : List UInt8} (hk : k + b.length ≤ n) {cur : Array Value} (hc : W.heap[bb]? = some (.cells cur 5 (0, 0))) :
    ArAt (W.setRow bb (cur.toList.take k ++ (b.map vb ++ cur.toList.drop (k + (b.map vb).length))).toArray) a mb wb bb c n g f (ovr l k b) := by
  have hrow := setRow_heap W bb cur (cur.toList.take k ++ (b.map vb ++ cur.toList.drop (k + (b.map vb).length))).toArray 5 (0, 0) hc
  generalize hW : W.setRow bb _ = W2 at hrow ⊢
  have ho : ∀ k, k ≠ bb → W2.heap[k]? = W.heap[k]? := fun k hk => by rw [← hW]; exact Go.setRow_other W bb k _ hk
  have hsz : W2.heap.size = W.heap.size := by rw [← hW]; simp [World.setRow]
  refine ⟨(World.cell?_of_block (ho a h.n2)).trans h.q0, (World.cell?_of_block (ho a h.n2)).trans h.q1, h.m.keep (fun k hk => ho k (by have := h.n3; have := h.n4; omega)) (by omega), ?_, h.hn, h.lo, h.hi, by rw [hsz]; exact h.la, h.n1, h.n2, h.n3, h.n4⟩
  have hl := h.len
  refine ⟨by simp [ovr]; omega, ?_⟩
  rcases h.own.2 with ⟨e, _⟩ | ⟨g', cap, cur', e, h1, h2, h3, h4, h5, h6⟩
  · cases e
  · cases e
    rw [hc] at h2
    cases h2
    refine .inr ⟨_, _, _, rfl, h1, hrow, h3, h4, ?_, ?_⟩
    · have : cur.toList.length = cur.size := by simp
      simp; omega
    · rw [Nat.mul_one] at h6 ⊢
      have hs := splice_take (L := cur.toList) (cs := b.map vb) (k := k) h6 (by simp [hl]) (by simpa using hk)
      rw [List.toList_toArray, hs]
      simp [ovr]
theorem ArAt.row (h : ArAt W a mb wb bb c n g f l) : ∃ cur : Array Value, W.heap[bb]? = some (.cells cur 5 (0, 0)) ∧ n ≤ cur.size := by
  rcases h.own.2 with ⟨e, _⟩ | ⟨g', cap, cur, e, h1, h2, h3, h4, h5, h6⟩
  · cases e
  · cases e
    exact ⟨cur, h2, by omega⟩
end

/-- A call on an arena has answered v; its tags are as f tells, its bytes l; nothing else has turned. -/
def Nxt (a mb wb bb c n g : Nat) (f : Nat → Bool) (l : List UInt8) (w : World) (v : Value) (e : Ending) (w' : World) : Prop :=
  e = .returned v ∧ ArAt w' a mb wb bb c n g f l ∧ Of2 w.heap.size wb bb w w'
theorem nxt_below {a mb wb bb c n g : Nat} {f : Nat → Bool} {l : List UInt8} {w w' : World} {v : Value} {e : Ending} (H : ArAt w a mb wb bb c n g f l) (h : e = .returned v ∧ Below w.heap.size w w') : Nxt a mb wb bb c n g f l w v e w' :=
  ⟨h.1, H.below h.2, Of2.of_below h.2⟩
end Go.Proofs.Ytdidnipmbedbjaa
