/- Numbers through memory (layer core): what stores and loads of numbers make, for CoreMoves. Plain lemmas; no statement is proved here. -/
import Derived.Test.YtkmgdfcambdeeaaGreatDoorPCAlP
namespace Go.Proofs.YtkmgdfcambdeeaaGreatDoor
set_option maxRecDepth 100000
open Go.RowKit
set_option linter.unusedVariables false
theorem do_st {F : List Cp} {op m : Int} {A x n N : Nat} {f : Nat → Bool} {l : List UInt8} (hop : op = 20 ∨ op = 21 ∨ op = 22) (hm : mayB ⟨op, A, 1, 0, m⟩ = true) (hx : atN F 1 m = x) (hn : (widI op).toNat = n) (hw : wayT (reg F 1) x n 2 N = 0) :
    doT F ⟨op, A, 1, 0, m⟩ N = 0 ∧ doF F ⟨op, A, 1, 0, m⟩ N f l = nxt F ∧ doG F ⟨op, A, 1, 0, m⟩ N f = stF N f x (putB [] n (reg F A).cu).length ∧ doL F ⟨op, A, 1, 0, m⟩ N l = stL N l x (putB [] n (reg F A).cu) := by
  have hs : isS op = true := by unfold isS; exact decide_eq_true (by omega)
  have hl : isL op = false := by unfold isL; exact decide_eq_false (by omega)
  have hnd : needN F op A = 2 := by unfold needN; rw [if_pos (by omega)]
  have h53 : op ≠ 53 := by omega
  have h24 : op ≠ 24 := by omega
  have e : doT F ⟨op, A, 1, 0, m⟩ N = 0 := by
    unfold doT
    rw [if_neg (by simp [hm, h53]), if_pos (by simp [hs])]
    unfold memT
    show wayT (reg F 1) (atN F 1 m) (widI op).toNat (needN F op ((A : Int)).toNat) N = 0
    rw [Int.toNat_natCast, hnd, hx, hn]
    exact hw
  refine ⟨e, ?_, ?_, ?_⟩
  · unfold doF
    rw [if_neg (fun k => k e)]
    rw [if_neg (by unfold isY; simp; omega), if_neg (show ¬ op = 29 by omega), if_neg (show ¬ op = 30 by omega), if_neg (by rw [hl]; simp), if_pos hs]
  · unfold doG
    rw [if_pos ⟨e, hs⟩]
    show stoF N f (reg F ((A : Int)).toNat) (atN F 1 m) op (widI op).toNat = _
    rw [Int.toNat_natCast, hx, hn]
    unfold stoF
    rw [if_neg h24]
  · unfold doL
    rw [if_pos ⟨e, hs⟩]
    show stoL N l (reg F ((A : Int)).toNat) (atN F 1 m) op (widI op).toNat = _
    rw [Int.toNat_natCast, hx, hn]
    unfold stoL
    rw [if_neg h24]
theorem do_ld {F : List Cp} {op m : Int} {A x n N : Nat} {f : Nat → Bool} {l : List UInt8} (hop : op = 17 ∨ op = 18 ∨ op = 19) (hm : mayB ⟨op, A, 1, 0, m⟩ = true) (hx : atN F 1 m = x) (hn : (widI op).toNat = n) (hw : wayT (reg F 1) x n 1 N = 0) :
    doT F ⟨op, A, 1, 0, m⟩ N = 0 ∧ doF F ⟨op, A, 1, 0, m⟩ N f l = (nxt F).set A (numC (getB l x n)) ∧ doG F ⟨op, A, 1, 0, m⟩ N f = f ∧ doL F ⟨op, A, 1, 0, m⟩ N l = l := by
  have hl : isL op = true := by unfold isL; exact decide_eq_true (by omega)
  have hs : isS op = false := by unfold isS; exact decide_eq_false (by omega)
  have hnd : needN F op A = 1 := by unfold needN; rw [if_neg (by omega), if_neg (by omega)]
  have h53 : op ≠ 53 := by omega
  have h23 : op ≠ 23 := by omega
  have e : doT F ⟨op, A, 1, 0, m⟩ N = 0 := by
    unfold doT
    rw [if_neg (by simp [hm, h53]), if_pos (by simp [hl])]
    unfold memT
    show wayT (reg F 1) (atN F 1 m) (widI op).toNat (needN F op ((A : Int)).toNat) N = 0
    rw [Int.toNat_natCast, hnd, hx, hn]
    exact hw
  refine ⟨e, ?_, if_neg (fun k => by rw [show isS (Ins.op ⟨op, A, 1, 0, m⟩) = false from hs] at k; exact absurd k.2 (by decide)), if_neg (fun k => by rw [show isS (Ins.op ⟨op, A, 1, 0, m⟩) = false from hs] at k; exact absurd k.2 (by decide))⟩
  unfold doF
  rw [if_neg (fun k => k e)]
  rw [if_neg (by unfold isY; simp; omega), if_neg (show ¬ op = 29 by omega), if_neg (show ¬ op = 30 by omega), if_pos hl]
  show (nxt F).set ((A : Int)).toNat (ldV l f (reg F 1) (atN F 1 m) op (widI op).toNat) = _
  rw [Int.toNat_natCast, hx, hn]
  unfold ldV
  rw [if_neg h23]
/-- The frame of CoreMoves. -/
def F5 (v : Nat) : List Cp := frL.set 5 (numC v)
theorem F5_fit {v : Nat} (h : v < 4294967296) : Fit (F5 v) := frL_fit.set 5 (numC_fit h)
theorem F5_1 (v : Nat) : reg (F5 v) 1 = c1C := rfl
theorem F5_5 (v : Nat) : reg (F5 v) 5 = numC v := rfl
theorem N5_1 (v : Nat) : reg (nxt (F5 v)) 1 = c1C := rfl
theorem at_F5 {F : List Cp} (h : reg F 1 = c1C) {x : Nat} (hx : x < 64) : atN F 1 (x : Int) = 256 + x := by
  unfold atN
  rw [h]
  show ((((256 : Nat) : Int) + (x : Int) % 4294967296) % 4294967296).toNat = 256 + x
  omega
theorem mvc0 : ∀ z, z < 64 → mayB ⟨20, 5, 1, 0, (z : Nat)⟩ = true ∧ wayT c1C (256 + z) 1 2 4096 = 0 ∧ mayB ⟨17, 6, 1, 0, (z : Nat)⟩ = true ∧ wayT c1C (256 + z) 1 1 4096 = 0 := by decide +kernel
theorem mvc1 : ∀ z, z < 32 → mayB ⟨21, 5, 1, 0, (z * 2 : Nat)⟩ = true ∧ wayT c1C (256 + z * 2) 2 2 4096 = 0 ∧ mayB ⟨18, 6, 1, 0, (z * 2 : Nat)⟩ = true ∧ wayT c1C (256 + z * 2) 2 1 4096 = 0 := by decide +kernel
theorem mvc2 : ∀ z, z < 16 → mayB ⟨22, 5, 1, 0, (z * 4 : Nat)⟩ = true ∧ wayT c1C (256 + z * 4) 4 2 4096 = 0 ∧ mayB ⟨19, 6, 1, 0, (z * 4 : Nat)⟩ = true ∧ wayT c1C (256 + z * 4) 4 1 4096 = 0 := by decide +kernel
/-- What is stored and loaded again. -/
theorem mv_any {o1 o2 : Int} {x n v : Nat} (h1 : o1 = 20 ∨ o1 = 21 ∨ o1 = 22) (h2 : o2 = 17 ∨ o2 = 18 ∨ o2 = 19) (hn : n = 1 ∨ n = 2 ∨ n = 4) (w1 : (widI o1).toNat = n) (w2 : (widI o2).toNat = n) (hx : x + n ≤ 64)
    (m1 : mayB ⟨o1, 5, 1, 0, (x : Nat)⟩ = true) (t1 : wayT c1C (256 + x) n 2 4096 = 0) (m2 : mayB ⟨o2, 6, 1, 0, (x : Nat)⟩ = true) (t2 : wayT c1C (256 + x) n 1 4096 = 0) :
    (doT (F5 v) ⟨o1, 5, 1, 0, (x : Nat)⟩ 4096 = 0 ∧ doF (F5 v) ⟨o1, 5, 1, 0, (x : Nat)⟩ 4096 F0 L0 = nxt (F5 v) ∧ doG (F5 v) ⟨o1, 5, 1, 0, (x : Nat)⟩ 4096 F0 = F0 ∧ doL (F5 v) ⟨o1, 5, 1, 0, (x : Nat)⟩ 4096 L0 = ovr L0 (256 + x) (leB n v)) ∧
    (doT (nxt (F5 v)) ⟨o2, 6, 1, 0, (x : Nat)⟩ 4096 = 0 ∧ doF (nxt (F5 v)) ⟨o2, 6, 1, 0, (x : Nat)⟩ 4096 F0 (ovr L0 (256 + x) (leB n v)) = (nxt (nxt (F5 v))).set 6 (numC (v % 256 ^ n)) ∧ doG (nxt (F5 v)) ⟨o2, 6, 1, 0, (x : Nat)⟩ 4096 F0 = F0 ∧ doL (nxt (F5 v)) ⟨o2, 6, 1, 0, (x : Nat)⟩ 4096 (ovr L0 (256 + x) (leB n v)) = ovr L0 (256 + x) (leB n v)) := by
  have hp : putB [] (n : Nat) v = leB n v := by
    unfold putB
    rw [if_pos (by rcases hn with rfl | rfl | rfl <;> decide), Int.toNat_natCast, List.nil_append]
  obtain ⟨a1, a2, a3, a4⟩ := do_st (F := F5 v) (op := o1) (m := (x : Nat)) (A := 5) (x := 256 + x) (n := n) (N := 4096) (f := F0) (l := L0) h1 m1 (at_F5 (F5_1 v) (by omega)) w1 (by rw [F5_1]; exact t1)
  obtain ⟨b1, b2, b3, b4⟩ := do_ld (F := nxt (F5 v)) (op := o2) (m := (x : Nat)) (A := 6) (x := 256 + x) (n := n) (N := 4096) (f := F0) (l := ovr L0 (256 + x) (leB n v)) h2 m2 (at_F5 (N5_1 v) (by omega)) w2 (by rw [N5_1]; exact t2)
  rw [F5_5] at a3 a4
  rw [show (numC v).cu = v from rfl, hp] at a3 a4
  have hl : (leB n v).length = n := leB_length n v
  refine ⟨⟨a1, a2, ?_, ?_⟩, b1, ?_, b3, b4⟩
  · exact a3.trans (funext fun j => stF_F0 _ _ _ j)
  · refine a4.trans ?_
    unfold stL
    rw [if_pos (thr_iff.2 (by rw [hl]; omega))]
  · refine b2.trans ?_
    have hg : getB (ovr L0 (256 + x) (leB n v)) ((256 + x : Nat) : Int) n = v % 256 ^ n := by
      unfold getB
      rw [if_pos (by
        rw [ovr_length (by rw [L0_len, hl]; omega), L0_len]
        have hw : isW ((n : Nat) : Int) = true := by rcases hn with rfl | rfl | rfl <;> decide
        unfold inB
        rw [hw]
        simp only [Bool.true_and, Bool.and_eq_true, decide_eq_true_eq]
        omega)]
      rw [Int.toNat_natCast, Int.toNat_natCast, ovr_get (by rw [L0_len]; omega) (by rw [hl]; exact Nat.le_refl _), List.take_of_length_le (by rw [hl]; exact Nat.le_refl _), le_leB]
    rw [hg]
theorem St.put {W1 : World} {a mb wb bb c n g0 : Nat} {f : Nat → Bool} {l : List UInt8} {L : List Rw} {w : World} {g : Nat} {vs : List Value} (h : St W1 a mb wb bb c n g0 f l (⟨g, vs⟩ :: L) w) (k : Nat) (us : List Value) (hk : k + us.length ≤ vs.length) (hg : W1.heap.size ≤ g) (hn : ∀ x, x ∈ L → x.g ≠ g) (ha : g ≠ a ∧ g ≠ mb ∧ g ≠ wb ∧ g ≠ bb) :
    St W1 a mb wb bb c n g0 f l (⟨g, vs.take k ++ us ++ vs.drop (k + us.length)⟩ :: L) (w.setCells g k us) := by
  obtain ⟨V, hV, hVb⟩ := cut_base (w6 := w) (B := W1.heap.size) h.of.size
  have kr : KR V (⟨g, vs⟩ :: L) w := KR.mk (hV ▸ hVb) h.rs
  have k2 := kr.put (by omega) hn k us hk
  have bs := below_setCells hg us k w
  exact ⟨h.ar.keep (fun j hj => heap_setCells_ne g us k w j (by omega)) bs.size, h.of.trans (Of2.of_below bs), fun x hx => k2.al x hx, fun x hx => by
    rcases List.mem_cons.1 hx with rfl | hx
    · exact ha.2.2
    · exact h.ne x (List.mem_cons_of_mem _ hx)⟩
theorem St.putF {W1 : World} {a mb wb bb c n g0 : Nat} {f : Nat → Bool} {l : List UInt8} {L : List Rw} {w : World} {g : Nat} {F : List Cp} (h : St W1 a mb wb bb c n g0 f l (⟨g, fC F⟩ :: L) w) (i : Nat) (d : Cp) (hi : i < F.length) (hg : W1.heap.size ≤ g) (hn : ∀ x, x ∈ L → x.g ≠ g) (ha : g ≠ a ∧ g ≠ mb ∧ g ≠ wb ∧ g ≠ bb) :
    St W1 a mb wb bb c n g0 f l (⟨g, fC (F.set i d)⟩ :: L) (w.setCells g (i * 8) d.C) := by
  have := h.put (i * 8) d.C (by rw [fC_len, Cp.C_len]; omega) hg hn ha
  rwa [Cp.C_len, fC_set F i d hi] at this
theorem St.there {W1 : World} {a mb wb bb c n g0 : Nat} {f : Nat → Bool} {l : List UInt8} {L : List Rw} {w : World} (h : St W1 a mb wb bb c n g0 f l L w) {g : Nat} {vs : List Value} (hx : (⟨g, vs⟩ : Rw) ∈ L) (o k : Nat) (hk : o + k ≤ vs.length) : w.there g o k := by
  obtain ⟨V, hV, hVb⟩ := cut_base (w6 := w) (B := W1.heap.size) h.of.size
  exact (KR.mk (hV ▸ hVb) h.rs : KR V L w).there hx o k hk
end Go.Proofs.YtkmgdfcambdeeaaGreatDoor
