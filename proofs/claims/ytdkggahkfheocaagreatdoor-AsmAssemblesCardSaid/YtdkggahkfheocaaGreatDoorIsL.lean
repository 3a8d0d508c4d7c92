/- Words for a loop over a string whose rounds write boxes; the state of a word that is taken apart, or put together, letter by letter. Plain lemmas; no statement is proved here. -/
import Derived.Test.YtdkggahkfheocaaGreatDoorIsK
import Derived.Test.YtdkggahkfheocaaGreatDoorIsB
import Derived.Lib.OthersKept
namespace Go.Proofs.YtdkggahkfheocaaGreatDoor
open Go.RowKit
set_option linter.unusedVariables false

/-- The rows L lie; the iterator in block 'it' stands at p. -/
structure LP (W : World) (L : List Rw) (it : Nat) (s : ByteArray) (p : Nat) (w : World) : Prop where
  k : KR W L w
  i : w.heap[it]? = some (.stringIter s p)
  hi : W.heap.size ≤ it
  hn : ∀ x, x ∈ L → x.g ≠ it
section
variable {W w w' : World} {L : List Rw} {it p : Nat} {s : ByteArray}
theorem LP.lt (h : LP W L it s p w) : it < w.heap.size := (Array.getElem?_eq_some_iff.1 h.i).1
theorem LP.start (h : KR W L w) (s : ByteArray) : LP W L w.heap.size s 0 (w.iter s 0) :=
  ⟨h.alloc _, World.iter_heap w s 0, h.bl.size, fun x hx => Nat.ne_of_lt (h.al x hx).1⟩
theorem LP.below (h : LP W L it s p w) (k : Below w.heap.size w w') : LP W L it s p w' := ⟨h.k.below k, (k.block it h.lt).trans h.i, h.hi, h.hn⟩
theorem cell_iterAt (w : World) (it : Nat) (s : ByteArray) (p g j : Nat) (h : g ≠ it) : (w.iterAt it s p).cell? ⟨g, j, none⟩ = w.cell? ⟨g, j, none⟩ := by
  simp [World.cell?, Lib.iterAt_other _ _ _ _ _ h]
theorem frozen_iterAt (w : World) (it : Nat) (s : ByteArray) (p g j : Nat) (h : g ≠ it) : (w.iterAt it s p).frozen? ⟨g, j, none⟩ = w.frozen? ⟨g, j, none⟩ := by
  simp [World.frozen?, Lib.iterAt_other _ _ _ _ _ h]
theorem LP.next (h : LP W L it s p w) (p' : Nat) : LP W L it s p' (w.iterAt it s p') :=
  ⟨⟨Lib.below_iterAt h.k.bl h.hi s p', fun x hx => ⟨by rw [Lib.iterAt_size]; exact (h.k.al x hx).1, fun j => (frozen_iterAt w it s p' x.g j (h.hn x hx)).trans ((h.k.al x hx).2.1 j), fun j u hu => (cell_iterAt w it s p' x.g j (h.hn x hx)).trans ((h.k.al x hx).2.2 j u hu)⟩⟩,
    Lib.iterAt_heap w it s p p' h.i, h.hi, h.hn⟩
theorem LP.swap {a b : Rw} (h : LP W (a :: b :: L) it s p w) : LP W (b :: a :: L) it s p w := ⟨h.k.swap, h.i, h.hi, fun x hx => h.hn x (by
  rcases List.mem_cons.1 hx with rfl | hx
  · exact List.mem_cons_of_mem _ (List.mem_cons_self ..)
  · rcases List.mem_cons.1 hx with rfl | hx
    · exact List.mem_cons_self ..
    · exact List.mem_cons_of_mem _ (List.mem_cons_of_mem _ hx))⟩
theorem LP.set {g : Nat} {vs : List Value} (h : LP W (⟨g, vs⟩ :: L) it s p w) (hg : W.heap.size ≤ g) (hd : ∀ x, x ∈ L → x.g ≠ g) (j : Nat) (u : Value) (hj : j < vs.length) : LP W (⟨g, vs.set j u⟩ :: L) it s p (w.setCell ⟨g, j, none⟩ u) :=
  ⟨h.k.set hg hd j u hj, by rw [Below.heap_setCell _ _ _ _ (fun e => h.hn _ (List.mem_cons_self ..) e.symm)]; exact h.i, h.hi, fun x hx => by
    rcases List.mem_cons.1 hx with rfl | hx
    · exact h.hn (⟨g, vs⟩ : Rw) (List.mem_cons_self ..)
    · exact h.hn x (List.mem_cons_of_mem _ hx)⟩
theorem LP.sto {g : Nat} {x u : Value} (h : LP W (⟨g, [x]⟩ :: L) it s p w) (hg : W.heap.size ≤ g) (hd : ∀ x, x ∈ L → x.g ≠ g) (k : Sto w g u w') : LP W (⟨g, [u]⟩ :: L) it s p w' :=
  let ⟨w1, k1, k2⟩ := k
  ((h.below k1).set hg hd 0 u (by simp)).below (by rw [World.size_setCell]; exact k2)
theorem LP.pos (h : LP W L it s p w) : w.iterPos it = p := by simp [World.iterPos, h.i]
end

theorem next_at {P : Program} {w : World} {it : Nat} {l : List UInt8} {p : Nat} (ch : UInt8) (n : Int) (hi : w.heap[it]? = some (.stringIter ⟨l.toArray⟩ p)) (hp : p < l.length) (hc : ch = l[p]) (hn : n = (ch.toNat : Int)) (hs : ch.toNat < 128) :
    ∀ ty, (Instr.next (.pointer (some ⟨it, 0, none⟩)) true ty).run P w = .ok (.tuple #[.bool true, .int .i64 p, .int .i32 n]) (w.iterAt it ⟨l.toArray⟩ (p + 1)) := fun ty => by
  have hz : p < (⟨l.toArray⟩ : ByteArray).size := by simpa [ByteArray.size] using hp
  have e : (⟨l.toArray⟩ : ByteArray)[p]'hz = l[p] := by
    show l.toArray[p]'(by simpa using hp) = l[p]
    simp
  have := Lib.run_next_ascii_at (P := P) w it ⟨l.toArray⟩ p ty hi hz (by rw [e, ← hc]; exact hs)
  rw [e, ← hc, ← hn] at this
  exact this
theorem next_end {P : Program} {w : World} {it : Nat} {l : List UInt8} {p : Nat} (hi : w.heap[it]? = some (.stringIter ⟨l.toArray⟩ p)) (hp : ¬ p < l.length) :
    ∀ ty, (Instr.next (.pointer (some ⟨it, 0, none⟩)) true ty).run P w = .ok (.tuple #[.bool false]) w := fun ty =>
  Lib.run_next_end_at (P := P) w it ⟨l.toArray⟩ p ty hi (by simpa [ByteArray.size] using hp)
theorem form_letters (op : Int) : ∀ x, x ∈ formAt op → x = 97 ∨ x = 98 ∨ x = 99 ∨ x = 105 ∨ x = 106 := by
  rcases form_cases op with h | h | h | h | h | h | h <;> rw [h] <;> decide

/-- A word that is taken apart: what has been found, and what is left. -/
structure St where
  a : Int
  b : Int
  c : Int
  m : Int
  r : Int
def tkS (t : St) (x : UInt8) : St :=
  if x = 97 then { t with a := t.r / 1048576 % 16, r := t.r - t.r / 1048576 % 16 * 1048576 }
  else if x = 98 then { t with b := t.r / 65536 % 16, r := t.r - t.r / 65536 % 16 * 65536 }
  else if x = 99 then { t with c := t.r / 4096 % 16, r := t.r - t.r / 4096 % 16 * 4096 }
  else if x = 105 then { t with m := sx 4096 2048 (t.r % 4096), r := t.r - t.r % 4096 }
  else { t with m := sx 1048576 524288 (t.r % 1048576), r := t.r - t.r % 1048576 }
theorem tkS_low {t : St} (x : UInt8) (h : 0 ≤ t.r ∧ t.r < 4294967296) : 0 ≤ (tkS t x).r ∧ (tkS t x).r < 4294967296 := by
  unfold tkS
  repeat' split
  all_goals (dsimp only; omega)
theorem tk_low (l : List UInt8) : ∀ {t : St}, 0 ≤ t.r ∧ t.r < 4294967296 → 0 ≤ (l.foldl tkS t).r ∧ (l.foldl tkS t).r < 4294967296 := by
  induction l with
  | nil => exact fun h => h
  | cons x l ih => exact fun h => ih (tkS_low x h)
theorem fold_snoc {α β : Type} (f : β → α → β) (z : β) (l : List α) (p : Nat) (h : p < l.length) : (l.take (p + 1)).foldl f z = f ((l.take p).foldl f z) l[p] := by
  rw [List.take_succ_eq_append_getElem h, List.foldl_append]; rfl
/-- What the program makes of a word. -/
def decP (x : Int) : Ins :=
  let t := (formAt (x / 16777216 % 256)).foldl tkS ⟨0, 0, 0, 0, x - x / 16777216 % 256 * 16777216⟩
  if (1 ≤ x / 16777216 % 256 ∧ x / 16777216 % 256 ≤ 53) ∧ t.r = 0 then ⟨x / 16777216 % 256, t.a, t.b, t.c, t.m⟩ else Ins.zero
theorem dec_yes' {i : Ins} {x : Int} (h : mayB i = true) (e : encW i = x) : decW x = i := by rw [← e, dec_enc h]
theorem rd_op (y : Int) : (rdW y).op = y / 16777216 := by unfold rdW; split <;> rfl
theorem enc_op {i : Ins} (h : mayB i = true) : encW i / 16777216 = i.op := by rw [← rd_op, rd_enc h]
set_option maxHeartbeats 4000000 in
theorem decP_is (x : Int) (h0 : 0 ≤ x) (h1 : x < 4294967296) : decP x = decW x := by
  have hop : x / 16777216 % 256 = x / 16777216 := by omega
  unfold decP
  rw [hop]
  dsimp only
  by_cases hin : 1 ≤ x / 16777216 ∧ x / 16777216 ≤ 53
  · by_cases hr : ((formAt (x / 16777216)).foldl tkS ⟨0, 0, 0, 0, x - x / 16777216 * 16777216⟩).r = 0
    · rw [if_pos ⟨hin, hr⟩]
      refine (dec_yes' ?_ ?_).symm
      · refine may_of ⟨hin.1, hin.2, ?_⟩
        dsimp only
        rcases form_cases (x / 16777216) with e | e | e | e | e | e | e <;> rw [e] at hr ⊢ <;> simp [tkS, fldB, immB, sx] at hr ⊢ <;> (try split) <;> omega
      · unfold encW immW
        dsimp only
        rcases form_cases (x / 16777216) with e | e | e | e | e | e | e <;> rw [e] at hr ⊢ <;> simp [tkS, sx] at hr ⊢ <;> (repeat' split) <;> omega
    · rw [if_neg (fun k => hr k.2)]
      rcases decW_zero_or x with h | ⟨hm, he⟩
      · exact h.symm
      · exfalso
        apply hr
        have hod := enc_op hm
        rw [he] at hod
        generalize decW x = d at *
        obtain ⟨op, a, b, c, m⟩ := d
        obtain ⟨k1, k2, ha, hb, hc, hmm⟩ := may_parts hm
        have a1 := fld_in ha; have b1 := fld_in hb; have c1 := fld_in hc; have m1 := imm_in hmm
        dsimp only at hod a1 b1 c1 m1
        rw [hod]
        unfold encW immW at he
        dsimp only at he
        clear hr hm ha hb hc hmm
        rcases form_cases op with e | e | e | e | e | e | e <;> rw [e] at a1 b1 c1 m1 he ⊢ <;> simp [tkS] at a1 b1 c1 m1 he ⊢ <;> (split at he <;> omega)
  · rw [if_neg (fun k => hin k.1)]
    rcases decW_zero_or x with h | ⟨hm, he⟩
    · exact h.symm
    · exfalso
      have hod := enc_op hm
      rw [he] at hod
      obtain ⟨k1, k2, -⟩ := may_parts hm
      omega
end Go.Proofs.YtdkggahkfheocaaGreatDoor
