/- The laws' own look at live and resting regions in one row; common bytes. No statement is proved here. -/
import Derived.Test.YticfpnhfhhagpaaDoorHAll
import Derived.Laws.AppendOwnNone
import Derived.Maps.AppendAt
import Derived.Deep.AppendLies
import Derived.Deep.Onto
namespace Go.Proofs.YticfpnhfhhagpaaDoor
set_option maxRecDepth 100000
open Go.RowKit Go.Shelf Go.Maps
set_option linter.unusedVariables false
section
variable {W W' w w' : World} {B : Blk} {lo hi p0 p1 base : Nat} {L R X : List Rg} {v : Value}
/-- Nothing below the heap's end has turned. -/
theorem HK.low (H : HK W B lo hi p0 p1 L R w) (h : Below hi w w') : HK W B lo hi p0 p1 L R w' := by
  have hlh : lo ≤ hi := by
    have h1 := H.h.hs.ok.inn B.h (.inl rfl)
    omega
  refine ⟨HX.low H.h h, fun j hj => (h.cell (p := ⟨0, j, none⟩) (Nat.lt_of_lt_of_le H.g hlh)).trans (H.t j hj), H.bl.trans (h.mono (Nat.le_trans H.lo hlh)), H.g, H.lo⟩
theorem own_base {T : TypeId} {n size : Nat} {xs : List Value} (h : w.ownsRow base T size v n xs) (k : Nat) (hk : v.ownBlock = some k) : base ≤ k := by
  rcases h.2 with ⟨rfl, _⟩ | ⟨g, cap, cur, rfl, hb, _⟩
  · cases hk
  · cases hk; exact hb
theorem own_grow {T : TypeId} {n size : Nat} {xs : List Value} (h : w.ownsRow base T size v n xs) (k : Below w.heap.size w w') : w'.ownsRow base T size v n xs := by
  refine ⟨h.1, h.2.imp id fun ⟨g, cap, cur, h1, h2, h3⟩ => ⟨g, cap, cur, h1, h2, ?_⟩⟩
  have hg : g < w.heap.size := by
    rcases Nat.lt_or_ge g w.heap.size with h4 | h4
    · exact h4
    · rw [Array.getElem?_eq_none h4] at h3; cases h3.1
  exact ⟨(k.block g hg).trans h3.1, h3.2⟩
theorem rgC_one (L : List Rg) : ∀ u ∈ L.flatMap rgC, u.oneCell' = true := by
  intro u hu
  obtain ⟨r, hr, hu⟩ := List.mem_flatMap.1 hu
  unfold rgC at hu
  simp only [List.mem_cons, List.not_mem_nil, or_false] at hu
  rcases hu with rfl | rfl <;> rfl
theorem rgC_len (L : List Rg) : (L.flatMap rgC).length = L.length * 2 := by
  induction L with
  | nil => rfl
  | cons r L ih => rw [List.flatMap_cons, List.length_append, ih]; simp [rgC]; omega
/-- Have two regions a byte in common? -/
def comB (r : Rg) (a n : Nat) : Bool := decide (max r.1 a < min (r.1 + r.2) (a + n))
theorem com_ovl {r : Rg} {a n : Nat} (h : 0 < r.2) (hn : 0 < n) : comB r a n = ovl r a n := by
  unfold comB ovl
  rw [← Bool.decide_and, decide_eq_decide]
  omega
theorem common_any (a n a2 n2 : Nat) (h1 : a + n < 4294967296) (h2 : a2 + n2 < 4294967296) (w : World) : Calls Tryd.prog 14 #[.agg #[.int .u32 a, .int .u32 n], .agg #[.int .u32 a2, .int .u32 n2]] w fun e w' => e = .returned (.bool (comB (a, n) a2 n2)) ∧ Below w.heap.size w w' := by
  obtain ⟨w1, hw1⟩ : ∃ w1, w1 = w.alloc (.cells #[.int .u32 a, .int .u32 n] 26) := ⟨_, rfl⟩
  have b1 : Below w.heap.size w w1 := by rw [hw1]; exact (Below.refl _ _).alloc (Nat.le_refl _) _
  have hb := Lib.hid (b1.alloc b1.size (.cells #[.int .u32 a2, .int .u32 n2] 26))
  rw [hw1] at hb
  obtain ⟨v, hv⟩ : ∃ v, v = comB (a, n) a2 n2 := ⟨_, rfl⟩
  rw [← hv]
  unfold comB at hv
  dsimp only at hv
  obtain ⟨x, hx⟩ : ∃ x, x = max a a2 := ⟨_, rfl⟩
  obtain ⟨y, hy⟩ : ∃ y, y = min (a + n) (a2 + n2) := ⟨_, rfl⟩
  have e1 : max (a : Int) (a2 : Int) = (x : Int) := by omega
  have e2 : min ((a : Int) + n) ((a2 : Int) + n2) = (y : Int) := by omega
  rw [← hx, ← hy] at hv
  have hv' := Lib.hid hv
  clear hv hx hy hw1 b1
  cases v
  · have h3 : ¬ (x : Int) < y := by have := of_decide_eq_false hv'.out.symm; omega
    go_enter Tryd.func14, Tryd.ntmps14
    go_wp2
    go_ret
    exact ⟨rfl, hb.out⟩
  · have h3 : (x : Int) < y := by have := of_decide_eq_true hv'.out.symm; omega
    go_enter Tryd.func14, Tryd.ntmps14
    go_wp2
    go_ret
    exact ⟨rfl, hb.out⟩
/-- Two rows of regions, one appended to the other. -/
theorem append_both {ops : Array Oper} {rest : List Oper} {o : Oper} {a : Act} {Q : Exit → Act → World → Prop} (hgd : o.guard = none) (s x : Operand)
    (ho : o.op = .call { callee := .builtin .append, args := #[s, x], argTypes := #[33, 33] }) {base2 : Nat} {v2 : Value}
    (hs : a.eval s = v) (hown : w.ownsRow base 26 2 v L.length (L.flatMap rgC)) (hx : a.eval x = v2) (hown2 : w.ownsRow base2 26 2 v2 R.length (R.flatMap rgC)) (hl : L.length + R.length ≤ 16384) (hb : base ≤ w.heap.size)
    (h : ∀ v' w', w'.ownsRow base 26 2 v' (L ++ R).length ((L ++ R).flatMap rgC) → Below base w w' → wpList Tryd.prog ops Q rest (a.put o.dst v') w') :
    wpList Tryd.prog ops Q (o :: rest) a w := by
  obtain ⟨i0, hi, hz0, hz1, hz2⟩ := info_parts infoRg
  rcases hown2.2 with ⟨rfl, hn⟩ | ⟨g, cap, cur, rfl, hrest⟩
  · have hR : R = [] := List.length_eq_zero_iff.1 hn
    subst hR
    refine wpList_append_own_none hgd s x 33 ho base 26 i0 2 Tryd.underlying33 hi v L.length (L.flatMap rgC) hs hown hx ?_
    refine h v w ?_ (Below.refl _ _)
    rw [List.append_nil]
    exact hown
  · refine wpList_append_own _ hgd s x 33 ho base 26 i0 (.agg #[.int .u32 0, .int .u32 0]) 2 8 Tryd.underlying33 hi hz0 hz1 hz2 rfl (by decide) v L.length (L.flatMap rgC) hs hown ⟨g, 0, none⟩ R.length cap (R.flatMap rgC) hx (rgC_len R) (hown2.cells rfl) (rgC_one R) (by unfold maxLen; omega) (by omega) hb ?_
    intro v' w' k1 k2 _
    refine h v' w' ?_ ((Below.refl base w).grown k2 hb (fun k hk => own_base hown k hk))
    rw [List.length_append, List.flatMap_append]
    exact k1
theorem Rgs.keep {n : Nat} (h : Rgs w base X v) (k : ∀ g, base ≤ g → g < w.heap.size → w'.heap[g]? = w.heap[g]?) (hs : w.heap.size ≤ w'.heap.size) : Rgs w' base X v := by
  obtain ⟨A, cap, h0, h1⟩ := h
  refine ⟨A, cap, h0, fun j hj => ?_⟩
  obtain ⟨g, e, hb, hg, c0, c1⟩ := h1 j hj
  exact ⟨g, e, hb, Nat.lt_of_lt_of_le hg hs, (World.cell?_of_block (a := ⟨g, j * 2, none⟩) (k g hb hg)).trans c0, (World.cell?_of_block (a := ⟨g, j * 2 + 1, none⟩) (k g hb hg)).trans c1⟩
theorem cP_succ (f : Rg → Bool) (X : List Rg) (i : Nat) (hi : i < X.length) : (X.take (i + 1)).countP f = (X.take i).countP f + (f X[i]).toNat := by
  rw [List.take_succ_eq_append_getElem hi, List.countP_append, List.countP_singleton]
  cases f X[i] <;> rfl
theorem cP_le (f : Rg → Bool) (X : List Rg) (i : Nat) : (X.take i).countP f ≤ X.length :=
  Nat.le_trans List.countP_le_length (by rw [List.length_take]; omega)
/-- Is there room, by the pages so far? -/
def Rm (X : List Rg) (P p : Nat) : Bool := if P ≤ 256 then rmS X P p else rmL X (pgN P) p
def hitF (p : Nat) (r : Rg) : Bool := ovl r (p * 256) 256
def ownF (p P : Nat) (r : Rg) : Bool := ovl r (p * 256) 256 && (decide (r.2 = P) && decide (P ≤ 256))
theorem own_small (X : List Rg) (p P : Nat) (h : P ≤ 256) : X.countP (ownF p P) = owN X P p := by
  unfold owN
  refine List.countP_congr fun r hr => ?_
  unfold ownF
  rw [decide_eq_true h, Bool.and_true]
theorem Rm_end {n P A : Nat} (G : Good 0 n X) (hn : n ≤ 1024) (h : Pad P A) : Rm X P n = (takeV 0 n X P).isSome := by
  unfold Rm takeV
  rcases h with ⟨h1, h2⟩ | ⟨h1, h2, _⟩
  · have h3 := of_decide_eq_true h1
    rw [if_pos h3.2, h1, if_pos rfl]
    have hc : clsN P < 5 := by unfold clsN; repeat' split <;> try omega
    have := room_small G hn hc
    rwa [h2] at this
  · have h3 : clsB P = false := decide_eq_false (by omega)
    rw [if_neg (by omega), h3, room_large (by unfold pgN; omega)]
    simp only [Bool.false_eq_true, if_false]
    cases fndB (fre 0 n X) n ((pgN P : Nat) : Int) 1 <;> rfl
theorem Rm_small {P p : Nat} (h : P ≤ 256) : Rm X P (p + 1) = (Rm X P p || (decide (tkN X p = 0) || (decide (0 < owN X P p) && (decide (owN X P p = tkN X p) && decide (owN X P p < 256 / P))))) := by
  unfold Rm
  rw [if_pos h, if_pos h]
  rfl
theorem Rm_large {P p : Nat} (h : ¬ P ≤ 256) : Rm X P (p + 1) = (Rm X P p || decide (pgN P ≤ rnN X (p + 1))) := by
  unfold Rm
  rw [if_neg h, if_neg h]
  rfl
theorem rn_step (X : List Rg) (p : Nat) : rnN X (p + 1) = if 0 < tkN X p then 0 else rnN X p + 1 := rfl
end
end Go.Proofs.YticfpnhfhhagpaaDoor
