/- Contracts of layer slots: TrailingZeros16, OnesCount16; the iterator. No statement is proved here.; Lists of numbers, and arrays of two, that came in: what their cells hold. Plain lemmas; no statement is proved here.; Contracts of layer slots: Free, Pages. No statement is proved here. -/
import Derived.Test.YticfpnhfhhagpaaDoormn
import Derived.Lib.Tables
import Derived.Test.YticfpnhfhhagpaaDoorChecked
import Derived.Deep.Slices
import Derived.Deep.Strs
import Derived.Below
import Derived.ChangeSame
import Derived.ProofKit
import Derived.OpenShut
import Derived.Lib.SmallJoins
import Derived.Test.YticfpnhfhhagpaaDoormk
namespace Go.Proofs.YticfpnhfhhagpaaDoor
set_option maxRecDepth 100000
open Go.RowKit Go.Shelf
set_option linter.unusedVariables false
attribute [local go_sem] Oper.semAt_some
theorem tz_core (x k idx : Nat) (w : World) (hx0 : ((x : Int) == 0) = false)
    (key : bits BinOp.and IntKind.u16 (x : Int) (IntKind.u16.wrap (-(x : Int))) % 4294967296 * 125613361 % 4294967296 / 134217728 = (idx : Int)) (hi : idx < 32) (hk : k < 32) (hcell : w.cell? ⟨0, idx, none⟩ = some (.int .u8 k)) :
    Calls Tryd.prog 84 #[.int .u16 x] w fun e w' => e = .returned (.int .i64 k) ∧ w = w' := by
  go_enter Tryd.func84, Tryd.ntmps84
  go_wp2_with (simp only [key])
  go_ret
  exact ⟨rfl, rfl⟩
/-- The least slot that is free. -/
theorem tz16 (h : Nat → Bool) (s : Nat) (w : World) (hs : s < 16) (h1 : h s = true) (hl : ∀ j, j < s → h j = false) (hT : TabAt 0 Lib.deBruijn32tab w) :
    Calls Tryd.prog 84 #[.int .u16 (w16 h : Int)] w fun e w' => e = .returned (.int .i64 s) ∧ w = w' := by
  have h0 : w16 h ≠ 0 := fun e => by rw [w16_zero.1 e s hs] at h1; cases h1
  have hx := w16_lt h
  have hb : bits .and .u16 (w16 h : Int) (IntKind.u16.wrap (-(w16 h : Int))) = ((2 ^ s : Nat) : Int) := by
    rw [← low16 h s hs h1 hl, IntKind.wrap_u16', show -(w16 h : Int) % 65536 = ((65536 - w16 h : Nat) : Int) from by omega]
    rw [(bits_nat .u16 16 (by decide) (fun n h0 h1 => by rw [IntKind.wrap_u16']; omega) (w16 h) (65536 - w16 h) (by omega) (by omega)).1]
  obtain ⟨hi, htab⟩ := Lib.deBruijn32_at s (by omega)
  have hcell := hT _ hi
  rw [htab] at hcell
  refine tz_core (w16 h) s _ w (by simp; omega) ?_ hi (by omega) hcell
  rw [hb]
  have := pow16 hs
  rw [Int.emod_eq_of_lt (Int.natCast_nonneg _) (by generalize 2 ^ s = p at *; omega)]
  simp
theorem pop8_nat (n : Nat) (hn : n < 256) : Lib.pop8 (n : Int) = (Lib.popAux 8 n : Nat) ∧ Lib.popAux 8 n ≤ 8 := by
  have e := Lib.pop8_eq ⟨n, hn⟩
  have l := Lib.onesCount_le8 ⟨n, hn⟩
  have h : Lib.onesCount n = Lib.popAux 8 n := by
    unfold Lib.onesCount
    rw [show (64 : Nat) = 8 + 56 from rfl, pop_add, show n / 2 ^ 8 = 0 from Nat.div_eq_of_lt hn]
    rfl
  simp only at e l
  rw [e, h]
  exact ⟨rfl, h ▸ l⟩
theorem ones_val (x : Nat) (hx : x < 65536) : (Lib.pop8 ((x : Int) / 256) + Lib.pop8 ((x : Int) % 256)) % 256 = (Lib.popAux 16 x : Nat) := by
  have e1 : (x : Int) / 256 = ((x / 256 : Nat) : Int) := by omega
  have e2 : (x : Int) % 256 = ((x % 256 : Nat) : Int) := by omega
  obtain ⟨p1, l1⟩ := pop8_nat (x / 256) (by omega)
  obtain ⟨p2, l2⟩ := pop8_nat (x % 256) (by omega)
  rw [e1, e2, p1, p2, show (16 : Nat) = 8 + 8 from rfl, pop_add 8 8 x, pop_mod 8 x]
  rw [show (2 : Nat) ^ 8 = 256 from rfl]
  omega
theorem ones (h : Nat → Bool) (w : World) : Calls Tryd.prog 57 #[.int .u16 (w16 h : Int)] w fun e w' => e = .returned (.int .i64 (cnt h 16 : Nat)) ∧ Below w.heap.size w w' := by
  have hx := w16_lt h
  have hV := ones_val (w16 h) hx
  rw [show Lib.popAux 16 (w16 h) = cnt h 16 from wd_pop 16 h] at hV
  generalize w16 h = x at *
  have h1 : (x : Int) < 65536 := by omega
  have h2 : bits .and .u16 (x : Int) 255 = (x : Int) % 256 := bits_mask .u16 16 (by decide) (fun n h0 h1 => by rw [IntKind.wrap_u16']; omega) 8 (by decide) x (by omega) (by omega)
  have i0 : 0 ≤ (x : Int) / 256 := by omega
  have i1 : (x : Int) / 256 ≤ 255 := by omega
  have j0 : 0 ≤ (x : Int) % 256 := by omega
  have j1 : (x : Int) % 256 ≤ 255 := by omega
  have k0 := fun (w : World) => Lib.run_index_pop8tab (P := Tryd.prog) (w := w) 9 .u16 ((x : Int) / 256) Tryd.underlying9 i0 i1
  have k1 := fun (w : World) => Lib.run_index_pop8tab (P := Tryd.prog) (w := w) 9 .u16 ((x : Int) % 256) Tryd.underlying9 j0 j1
  replace hV := Lib.hid hV
  go_enter Tryd.func57, Tryd.ntmps57
  go_wp2_with fail
  go_region
  all_goals (
    go_wp2
    go_ret
    exact ⟨by rw [hV.out]; rfl, (Below.refl _ _).drew⟩)

/-! ### The iterator -/
/-- What the iterator reads between two rounds stands as it stood: its box, the book. -/
def KpB (c b : Nat) (W W' : World) : Prop := ∀ k, k = c ∨ k = b → W'.heap[k]? = W.heap[k]?
theorem KpB.trans {c b : Nat} {A B C : World} (h : KpB c b A B) (k : KpB c b B C) : KpB c b A C := fun i hi => (k i hi).trans (h i hi)
theorem KpB.refl (c b : Nat) (W : World) : KpB c b W W := fun _ _ => rfl
theorem KpB.put {c b : Nat} {w : World} (hc : c < w.heap.size) (hb : b < w.heap.size) (W : World) (l : Nat) (o o' : Obj) (hl : w.heap.size ≤ l) (_ : W.heap[l]? = some o) (_ : o.isCells = false) (_ : o.isWalk = false) : KpB c b W (W.putObj l o') :=
  fun k hk => World.putObj_heap_other (by rcases hk with rfl | rfl <;> omega)
theorem KpB.of_off {c b q B : Nat} {W W' : World} (h : Off B q W W') (h1 : c < B ∧ c ≠ q) (h2 : b < B ∧ b ≠ q) : KpB c b W W' := fun k hk => h.block k (by rcases hk with rfl | rfl <;> omega) (by rcases hk with rfl | rfl <;> omega)
theorem KpB.of_below {c b B : Nat} {W W' : World} (h : Below B W W') (h1 : c < B) (h2 : b < B) : KpB c b W W' := fun k hk => h.block k (by rcases hk with rfl | rfl <;> omega)
section
variable {W W' w : World} {b per c d : Nat} {g : Nat → Bool} {f : Nat → Nat → Bool}
theorem Led.keep (H : Led W c b per g f) (hk : KpB c b W W') (hs : W.heap.size ≤ W'.heap.size) : Led W' c b per g f :=
  ⟨H.k.keep (hk b (.inr rfl)) hs, (World.cell?_of_block (hk c (.inl rfl))).trans H.cc, Nat.lt_of_lt_of_le H.l hs⟩
theorem all_any (H : BookAt w b per g f) : Calls Tryd.prog 56 #[.pointer (some ⟨b, 0, none⟩)] w fun e w' => e = .returned (.func (.func 77) #[] #[.pointer (some ⟨w.heap.size, 0, none⟩)]) ∧
    Led w' w.heap.size b per g f ∧ Below w.heap.size w w' ∧ w.heap.size + 1 = w'.heap.size := by
  have hb : Below w.heap.size w (w.alloc (.cells #[.pointer (some ⟨b, 0, none⟩)] 52)) := (Below.refl _ _).alloc (Nat.le_refl _) _
  have hL := Lib.hid (show Led (w.alloc (.cells #[.pointer (some ⟨b, 0, none⟩)] 52)) w.heap.size b per g f from ⟨H.grow hb, by simp, by simp⟩)
  clear H
  go_enter Tryd.func56, Tryd.ntmps56
  go_wp2
  go_ret
  exact ⟨rfl, hL.out, hb, by simp⟩
/-- What is handed to a round: a page, and its leaf. -/
def encS (f : Nat → Nat → Bool) (p : Nat) : Array Value := #[.int .i64 (p : Int), .agg #[.bool true, .int .u16 (w16 (f p) : Int)]]
set_option maxHeartbeats 2000000 in
theorem all_in (n : Nat) (hd : 1 ≤ n) (l c b per : Nat) (g : Nat → Bool) (f : Nat → Nat → Bool) (J Jx : List Nat → World → Prop)
    (hY : ∀ pre x W, J pre W → pre.length < 1025 → YieldAt Fence.wide (n - 1) Tryd.prog l (encS f x) W fun e W' =>
      (e = .returned (.bool true) ∧ J (pre ++ [x]) W' ∧ (KpB c b W W' ∧ W.heap.size ≤ W'.heap.size)) ∨ (e = .returned (.bool false) ∧ Jx (pre ++ [x]) W'))
    (hJa : ∀ pre W o, J pre W → J pre (W.alloc o))
    (W : World) (H : Led W c b per g f) (h0 : J [] W) :
    CallsIn Fence.wide n Tryd.prog 77 #[.func (.yield l) #[] #[], .pointer (some ⟨c, 0, none⟩)] W fun e W' => (∃ v, e = .returned v) ∧
      ((∃ ys, ys = setL g 1024 ∧ J ys W') ∨ (∃ pre, pre <+: setL g 1024 ∧ Jx pre W')) := by
  have k1 := H.cc
  have H' := Lib.hid H
  clear H
  refine callsIn_of_wp Tryd.func77 rfl trivial ?_ rfl
  simp only [Tryd.ntmps77, List.size_toArray, List.length_cons, List.length_nil, Nat.reduceAdd, Nat.reduceSub, Array.replicate_succ, Array.replicate_zero, List.push_toArray, List.append_toArray, List.nil_append, List.cons_append]
  gi_wp2
  gi_loopw [7] (fun i wr => ∃ k : Nat, k ≤ 1024 ∧ i = .int .i64 k ∧ J (setL g k) wr ∧ KpB c b W wr ∧ W.heap.size ≤ wr.heap.size)
    (fun i _ => 1024 - (intOf i).toNat)
  case atStart => exact ⟨0, Nat.zero_le _, rfl, h0, KpB.refl _ _ _, Nat.le_refl _⟩
  case round =>
    obtain ⟨k, hk, rfl, hJ, hK, hZ⟩ := hrel
    have hA := H'.out.keep hK hZ
    have q1 := hA.cc
    by_cases hlt : k < 1024
    · have hlt' : (k : Int) < 1024 := by omega
      have c0 := hA.k.inn hlt
      have c1 := hA.k.free hlt
      obtain ⟨v, hv⟩ : ∃ v, v = g k := ⟨_, rfl⟩
      rw [← hv] at c0
      have hv' := Lib.hid hv
      have hB : Below wr.heap.size wr (wr.alloc (.cells #[.bool v, .int .u16 (w16 (f k) : Int)] 89)) := (Below.refl _ _).alloc (Nat.le_refl _) _
      have E := Lib.hid (And.intro (hJa _ _ (.cells #[.bool v, .int .u16 (w16 (f k) : Int)] 89) hJ) (And.intro (hK.trans (KpB.of_below hB (hA.l) hA.k.lb)) (Nat.le_trans hZ hB.size)))
      have n0 : (wr.alloc (.cells #[.bool v, .int .u16 (w16 (f k) : Int)] 89)).cell? ⟨wr.heap.size, 0, none⟩ = some (.bool v) := by simp
      have n1 : (wr.alloc (.cells #[.bool v, .int .u16 (w16 (f k) : Int)] 89)).cell? ⟨wr.heap.size, 1, none⟩ = some (.int .u16 (w16 (f k) : Int)) := by simp
      clear hA hJ hK hZ h0 k1 hv hB
      cases v
      · have hS := Lib.hid (show setL g (k + 1) = setL g k from setL_skip (by omega) (fun j h1 h2 => (show j = k by omega) ▸ hv'.out.symm))
        gi_wp2
        refine ⟨fun _ hf => (by cases hf), ?_⟩
        gi_wp2
        go_roundw
        case rel => exact ⟨k + 1, by omega, by go_num, by rw [hS.out]; exact E.out.1, E.out.2.1, E.out.2.2⟩
        case measure => simp [intOf]; omega
      · have hN := Lib.hid (show setL g (k + 1) = setL g k ++ [k] from setL_snoc hv'.out.symm)
        have hlen := setL_le g k
        obtain ⟨fn, tmps, assign, body, hy, hR⟩ := hY (setL g k) k _ E.out.1 (by omega)
        dsimp only [encS] at hy
        have hR' := Lib.hid hR
        clear hR hlen
        gi_wp2
        refine hR'.out.mono ?_
        rintro e W3 (⟨rfl, hJ3, hk3, hz3⟩ | ⟨rfl, hJx3⟩)
        · have E3 := Lib.hid (And.intro hJ3 (And.intro (E.out.2.1.trans hk3) (Nat.le_trans E.out.2.2 hz3)))
          clear hy hJ3 hk3 hz3 n0 n1
          gi_wp2
          go_roundw
          case rel => exact ⟨k + 1, by omega, by go_num, by rw [hN.out]; exact E3.out.1, E3.out.2.1, E3.out.2.2⟩
          case measure => simp [intOf]; omega
        · clear hy n0 n1
          gi_wp2
          refine bodyPost_ret (results_none rfl _ _ _) rfl ?_
          exact ⟨⟨_, rfl⟩, .inr ⟨_, by rw [← hN.out]; exact setL_prefix g (by omega), hJx3⟩⟩
    · obtain rfl : k = 1024 := by omega
      have hJ' := Lib.hid hJ
      clear hA hJ h0 k1
      gi_wp2
      go_end0
      exact ⟨⟨_, rfl⟩, .inl ⟨_, rfl, hJ'.out⟩⟩
/-- The iterator goes through the pages that are in the book, rising; or through the first of them. -/
theorem all_stops (n : Nat) (hd : 1 ≤ n) (c b per : Nat) (g : Nat → Bool) (f : Nat → Nat → Bool) (w : World) (H : Led w c b per g f) :
    SeqStopsK Fence.wide n Tryd.prog 77 #[.pointer (some ⟨c, 0, none⟩)] (encS f) (fun W W' => KpB c b W W' ∧ W.heap.size ≤ W'.heap.size)
      (fun xs => xs = setL g 1024) (fun pre => pre <+: setL g 1024) 1025 w := fun l J Jx W hW hJ hJx hY h0 =>
  all_in n hd l c b per g f J Jx hY (fun pre W o h => hJ pre _ _ none h (World.grownBy_alloc W o none) (fun r e => by cases e)) W (H.grow hW) h0
end
end Go.Proofs.YticfpnhfhhagpaaDoor
namespace Go.Proofs.YticfpnhfhhagpaaDoor
open Go.ChangeShapes Go.WideShapes Go.Deep Go.RowKit
set_option linter.unusedVariables false

/-- The slice's n elements are numbers of kind k; they lie below block B. -/
def NumsIn (w : World) (B : Nat) (A : Option Addr) (n : Nat) (k : IntKind) : Prop :=
  ∀ i, i < n → ∃ b off, A = some ⟨b, off, none⟩ ∧ b < B ∧ ∃ x : Int, w.cell? ⟨b, off + i, none⟩ = some (.int k x) ∧ (Lit.int k x).wf = true
theorem NumsIn.below {w w' : World} {B : Nat} {A : Option Addr} {n : Nat} {k : IntKind} (h : NumsIn w B A n k) (hb : Below B w w') : NumsIn w' B A n k := fun i hi => by
  obtain ⟨b, off, e, hlt, x, h1, r⟩ := h i hi
  exact ⟨b, off, e, hlt, x, (hb.cell (p := ⟨b, _, none⟩) hlt).trans h1, r⟩
theorem lt_of_cell' {w : World} {p : Addr} {v : Value} (h : w.cell? p = some v) : p.block < w.heap.size := by
  rcases Nat.lt_or_ge p.block w.heap.size with hlt | hge
  · exact hlt
  · simp [World.cell?, Array.getElem?_eq_none hge] at h

theorem nums_of {H : Type} {enc : TypeId × Value → H} {P : Program} {W : World} {base : Nat} {held : Bool} {r : Reach} {b0 : Nat} {t e : TypeId} {k : IntKind} {v : Value} {d : DataW H} {ps : List MemPlace}
    (hu : P.underlying t = some (.slice e)) (he : P.underlying e = some (.int k)) (hC : P.cellsOf e = 1)
    (hv : Value.okWide P W r b0 t v) (hd : DataW.Trod enc P W base (fun _ => true) held t v d ps) :
    ∃ A n cap, v = .slice A n cap ∧ n ≤ cap ∧ cap ≤ maxLen ∧ NumsIn W W.heap.size A n k := by
  obtain ⟨a0, len, cap, rfl⟩ := okWide_slice hu hv
  obtain ⟨fuel, hf⟩ := hd
  rcases open_slice hu hf with ⟨hcs, _⟩ | ⟨a, l, c, m, n, D, Pl, hcs, _, hl, hm, hmm, _, hi⟩
  · simp [Value.cells] at hcs
    obtain ⟨rfl, rfl, rfl⟩ := hcs
    exact ⟨none, 0, 0, rfl, Nat.le_refl _, Nat.zero_le _, fun i hi => absurd hi (by omega)⟩
  · simp [Value.cells] at hcs
    obtain ⟨rfl, rfl, rfl⟩ := hcs
    refine ⟨some a, len, cap, rfl, hl, hm, fun i hlt => ?_⟩
    obtain ⟨cs, hc, ht⟩ := hi i (by rw [hmm]; simp; omega)
    rw [hC] at hc
    obtain ⟨_, hcl, hat⟩ := World.cells?_some hc
    match cs, hcl with
    | [u0], _ =>
      obtain ⟨x, e0, _, w0⟩ := DataW.trod_int he ht
      simp at e0
      subst e0
      have c0 := hat 0 (by omega)
      simp at c0
      obtain ⟨b, off, spot⟩ := a
      have hspot : spot = none := by
        obtain ⟨cs', hc', _⟩ := hi 0 (by rw [hmm]; simp; omega)
        rw [hC] at hc'
        obtain ⟨_, hcl', hat'⟩ := World.cells?_some hc'
        have h0 := hat' 0 (by omega)
        rw [List.getElem?_eq_getElem (by omega)] at h0
        have := World.cell?_spot h0
        simpa [Addr.add] using this
      subst hspot
      have hlt := lt_of_cell' c0
      simp only [Addr.add_lit] at c0 hlt
      exact ⟨b, off, rfl, hlt, x, by simpa using c0, w0⟩

theorem pair_of {H : Type} {enc : TypeId × Value → H} {P : Program} {W : World} {base : Nat} {held : Bool} {sp : Nat → Bool} {r : Reach} {b0 : Nat} {t e : TypeId} {k : IntKind} {v : Value} {d : DataW H} {ps : List MemPlace}
    (hu : P.underlying t = some (.array 2 e)) (he : P.underlying e = some (.int k)) (hC : P.cellsOf e = 1) (hT : P.cellsOf t = 2)
    (hv : Value.okWide P W r b0 t v) (hd : DataW.Trod enc P W base sp held t v d ps) :
    ∃ x y : Int, v = .agg #[.int k x, .int k y] ∧ (Lit.int k x).wf = true ∧ (Lit.int k y).wf = true := by
  simp only [Value.okWide, hu] at hv
  obtain ⟨cs, rfl, hsz, _⟩ := hv
  rw [hT] at hsz
  obtain ⟨c0, c1, rfl⟩ : ∃ c0 c1, cs = #[c0, c1] := by
    match cs, hsz with
    | ⟨[c0, c1]⟩, _ => exact ⟨c0, c1, rfl⟩
  obtain ⟨fuel, hf⟩ := hd
  obtain ⟨xs, m, _, _, _, hl, hi⟩ := DataW.trod_array hu hf
  have g0 := hi 0 (by omega)
  have g1 := hi 1 (by omega)
  rw [hC, List.getElem?_eq_getElem (by omega)] at g0 g1
  simp [Value.cells] at g0 g1
  obtain ⟨x, e0, _, w0⟩ := DataW.trod_int he g0
  obtain ⟨y, e1, _, w1⟩ := DataW.trod_int he g1
  simp at e0 e1
  subst e0 e1
  exact ⟨x, y, rfl, w0, w1⟩
end Go.Proofs.YticfpnhfhhagpaaDoor
namespace Go.Proofs.YticfpnhfhhagpaaDoor
set_option maxRecDepth 100000
open Go.RowKit Go.Shelf
set_option linter.unusedVariables false
attribute [local go_sem] Oper.semAt_some
section
variable {W W' w : World} {b per c d : Nat} {g : Nat → Bool} {f : Nat → Nat → Bool}
/-- What a count holds between two rounds. -/
structure SCountI (w : World) (N : Nat) (f : Nat → Nat → Bool) (pre : List Nat) (W : World) : Prop where
  c : W.cell? ⟨w.heap.size, 0, none⟩ = some (.int .i64 (tsum f pre : Nat))
  fr : W.frozen? ⟨w.heap.size, 0, none⟩ = false
  sz : N ≤ W.heap.size
/-- A round's leaf in its box. -/
def LeafAt (q : Nat) (x : Nat) (f : Nat → Nat → Bool) (W : World) : Prop := W.cell? ⟨q, 0, none⟩ = some (.bool true) ∧ W.cell? ⟨q, 1, none⟩ = some (.int .u16 (w16 (f x) : Int))
theorem SCountI.kept {N : Nat} {pre : List Nat} {row : Option Nat} (h : SCountI w N f pre W) (hg : W.grownBy W' row) (hr : ∀ r, row = some r → ∃ o : Obj, W.heap[r]? = some o ∧ o.isCells = false) : SCountI w N f pre W' :=
  ⟨cell_kept h.c hg hr, (frozen_kept h.c hg hr).trans h.fr, Nat.le_trans h.sz hg.size⟩
theorem LeafAt.kept {q x : Nat} {row : Option Nat} (h : LeafAt q x f W) (hg : W.grownBy W' row) (hr : ∀ r, row = some r → ∃ o : Obj, W.heap[r]? = some o ∧ o.isCells = false) : LeafAt q x f W' :=
  ⟨cell_kept h.1 hg hr, cell_kept h.2 hg hr⟩
theorem LeafAt.new (W : World) (x : Nat) (f : Nat → Nat → Bool) : LeafAt W.heap.size x f (W.alloc (.cells #[.bool true, .int .u16 (w16 (f x) : Int)] 89)) := ⟨by simp, by simp⟩
theorem keeps_below (h : Below W.heap.size W W') : KeepsOthers W W' := ⟨h.size, fun k o hk _ => (h.block k (Array.getElem?_eq_some_iff.1 hk).1).trans hk⟩
theorem KpB.set (W : World) {p : Addr} (h0 : c ≠ p.block) (h1 : b ≠ p.block) (v : Value) : KpB c b W (W.setCell p v) :=
  fun k hk => Below.heap_setCell _ _ _ _ (by rcases hk with rfl | rfl <;> omega)
/-- What a round of the count holds till its store. -/
structure CountR (w W0 : World) (N q x : Nat) (f : Nat → Nat → Bool) (pre : List Nat) (W : World) : Prop where
  i : SCountI w N f pre W
  bl : Below w.heap.size w W
  lf : LeafAt q x f W
  go : Below W0.heap.size W0 W
theorem CountR.grow {W0 : World} {N q x : Nat} {pre : List Nat} (h : CountR w W0 N q x f pre W) (hw : w.heap.size < W.heap.size) (hq : q < W.heap.size) (k : Below W.heap.size W W') : CountR w W0 N q x f pre W' :=
  ⟨⟨(k.cell (p := ⟨w.heap.size, 0, none⟩) hw).trans h.i.c, (k.frozen (p := ⟨w.heap.size, 0, none⟩) hw).trans h.i.fr, Nat.le_trans h.i.sz k.size⟩, h.bl.trans (k.mono h.bl.size),
    ⟨(k.cell (p := ⟨q, 0, none⟩) hq).trans h.lf.1, (k.cell (p := ⟨q, 1, none⟩) hq).trans h.lf.2⟩, h.go.trans (k.mono h.go.size)⟩
theorem SCountI.next {N x : Nat} {pre : List Nat} (h : SCountI w N f pre W) : SCountI w N f (pre ++ [x]) (W.setCell ⟨w.heap.size, 0, none⟩ (.int .i64 ((tsum f pre : Nat) + (cnt (f x) 16 : Nat)))) :=
  ⟨by rw [World.cell?_setCell_same' _ _ _ (by rw [h.c]; rfl), tsum_snoc]; rfl, (World.frozen?_setCell _ _ _ _).trans h.fr, by simpa [World.setCell] using h.sz⟩
set_option maxHeartbeats 2000000 in
theorem free_any (H : BookAt w b per g f) : Calls Tryd.prog 38 #[.pointer (some ⟨b, 0, none⟩)] w fun e w' => e = .returned (.int .i64 (tot f 1024 : Nat)) ∧ Below w.heap.size w w' := by
  refine (callsIn_wide (n := 5)).1 ?_
  obtain ⟨w1, hw1⟩ : ∃ w1, w1 = w.alloc (.cells #[.int .i64 0] 3) := ⟨_, rfl⟩
  have hb1 : Below w.heap.size w w1 := by rw [hw1]; exact (Below.refl _ w).alloc (Nat.le_refl _) _
  have hs1 : w1.heap.size = w.heap.size + 1 := by rw [hw1]; simp
  have q1 : w1.cell? ⟨w.heap.size, 0, none⟩ = some (.int .i64 0) ∧ w1.frozen? ⟨w.heap.size, 0, none⟩ = false := by rw [hw1]; exact new_cell rfl _ rfl
  have hA := Lib.hid (all_any (H.grow hb1))
  have G := Lib.hid (And.intro H (And.intro hs1 (And.intro hb1 q1)))
  have hw1' := Lib.hid hw1
  clear H hs1 hb1 q1 hw1
  refine callsIn_of_wp_marks Tryd.func38 rfl trivial ?_ rfl
  simp only [Tryd.ntmps38, List.size_toArray, List.length_cons, List.length_nil, Nat.reduceAdd, Nat.reduceSub, Array.replicate_succ, Array.replicate_zero, List.push_toArray, List.append_toArray, List.nil_append, List.cons_append]
  gi_wp2_with fail
  rw [← hw1'.out]
  refine ⟨trivial, (callsIn_wide.2 hA.out).mono ?_⟩
  rintro e w2 ⟨rfl, hL, hb2, hs2⟩
  have hL' := Lib.hid hL
  have hB2 := Lib.hid hb2
  have hS2 := Lib.hid hs2
  clear hL hb2 hs2 hA
  gi_wp2_with fail
  have G2 := Lib.hid (show (SCountI w w2.heap.size f [] w2 ∧ Below w.heap.size w w2) ∧ w.heap.size + 2 = w2.heap.size ∧ b < w.heap.size ∧ w1.heap.size = w.heap.size + 1 from by
    obtain ⟨x1, x2, x3, x4, x5⟩ := G.out
    have := hS2.out
    exact ⟨⟨⟨(hB2.out.cell (p := ⟨w.heap.size, 0, none⟩) (by show w.heap.size < _; omega)).trans x4, (hB2.out.frozen (p := ⟨w.heap.size, 0, none⟩) (by show w.heap.size < _; omega)).trans x5, Nat.le_refl _⟩, x3.trans (hB2.out.mono x3.size)⟩, by omega, x1.lb, x2⟩)
  have st := Lib.hid (all_stops 4 (by omega) w1.heap.size b per g f w2 hL'.out)
  refine wpIn_rangeFunc_ownH rfl (by decide) (gf := 77) (lb := #[.pointer (some ⟨w1.heap.size, 0, none⟩)]) rfl trivial (enters_of Tryd.func77 (by kernel_rfl) rfl)
    st.out (fun h k => ⟨h.1.trans k.1, Nat.le_trans h.2 k.2⟩) (fun W' l o o' h1 h2 h3 h4 => ⟨KpB.put (w := w2) hL'.out.l hL'.out.k.lb W' l o o' h1 h2 h3 h4, by simp [World.putObj]⟩) (Below.refl _ _) (fun _ => rfl)
    (fun pre W' => SCountI w w2.heap.size f pre W' ∧ Below w.heap.size w W')
    (fun _ _ _ => False)
    (OwnFrom.and (Own.from (fun s A B row hs hg hr => hs.kept hg hr) _) (ownFrom_below (Nat.le_refl _) (by have := G2.out.2.1; omega)))
    (fun _ _ _ _ _ hs _ _ => hs)
    G2.out.1
    (fun x a' W' => ∃ q, (w2.heap.size ≤ q ∧ a' = { tmps := #[.pointer (some ⟨b, 0, none⟩), undef, .int .i64 0, .pointer (some ⟨w.heap.size, 0, none⟩), undef, .pointer (some ⟨q, 0, none⟩), .pointer (some ⟨b, 0, none⟩), .func (.func 77) #[] #[.pointer (some ⟨w1.heap.size, 0, none⟩)], .int .i64 (x : Int), .agg #[.bool true, .int .u16 (w16 (f x) : Int)], undef, undef, undef, undef, undef, undef], defers := [] }) ∧ LeafAt q x f W')
    (fun x a' => Own.from (fun s A B row hs hg hr => by obtain ⟨q, h1, h2⟩ := hs; exact ⟨q, h1, h2.kept hg hr⟩) _) ?assign ?body ?done ?stop
  case assign =>
    rintro l pre x W K ⟨hc, hB⟩ hK
    dsimp only [encS]
    have hN := Lib.hid (LeafAt.new W x f)
    gi_wp2
    refine hK _ _ (((KeepsOthers.refl W).trans (KeepsOthers.alloc W _)).from _) ?_ ?_ ?_
    · have hb : Below W.heap.size W (W.alloc (.cells #[.bool true, .int .u16 (w16 (f x) : Int)] 89)) := (Below.refl _ _).alloc (Nat.le_refl _) _
      exact ⟨KpB.of_below hb (by have := hc.sz; have := hL'.out.l; omega) (by have := hc.sz; have := hL'.out.k.lb; omega), hb.size⟩
    · exact ⟨hc.kept (World.grownBy_alloc W _ none) (fun r e => by cases e), hB.alloc hB.size _⟩
    · exact ⟨_, ⟨hc.sz, rfl⟩, hN.out⟩
  case body =>
    rintro l pre x a' W hl hr ⟨hc, hB⟩ ⟨q, ⟨hq, rfl⟩, hF⟩ hlen
    have hw2 := G2.out.2.1
    have hql : q < W.heap.size := lt_of_cell' hF.1
    have R0 : CountR w W w2.heap.size q x f pre W := ⟨hc, hB, hF, Below.refl _ _⟩
    have R1 := R0.grow (by have := hc.sz; omega) hql (Below.refl _ _).drew
    have hO := Lib.hid ((ones (f x) W.drew).mono fun e w' k => (show e = .returned (.int .i64 (cnt (f x) 16 : Nat)) ∧ CountR w W w2.heap.size q x f pre w' from ⟨k.1, R1.grow (by have := hc.sz; show w.heap.size < W.heap.size; omega) hql k.2⟩))
    have q1 := hc.c
    have n0 := hF.2
    have hsum := tsum_le f pre
    have hcw := cnt_le (f x) 16
    obtain ⟨t, ht⟩ : ∃ t, t = tsum f pre := ⟨_, rfl⟩
    obtain ⟨u, hu⟩ : ∃ u, u = cnt (f x) 16 := ⟨_, rfl⟩
    rw [← hu] at hO hcw
    rw [← ht] at q1 hsum
    have s1 : IntKind.i64.wrap ((t : Int) + (u : Int)) = ((t : Nat) : Int) + (u : Nat) := by rw [IntKind.wrap_i64]; omega
    have hZ := Lib.hid (show w1.heap.size < W.heap.size ∧ b < w.heap.size ∧ w1.heap.size = w.heap.size + 1 from ⟨by have := hc.sz; have := hL'.out.l; omega, G2.out.2.2.1, G2.out.2.2.2⟩)
    have ht' := Lib.hid ht
    have hu' := Lib.hid hu
    clear R0 R1 hc hB hF ht hu hsum hcw
    gi_wp2
    gi_region_with (refine ⟨trivial, (CallsIn.inRound l (callsIn_wide.2 hO.out)).mono ?_⟩; rintro e w3 ⟨rfl, k⟩; have hk := Lib.hid k; have q1 := k.i.c; have q2 := k.i.fr; rw [← ht'.out] at q1; clear k)
    all_goals (
      gi_wp2
      have hz := hk.out.go.size
      have hN := (hk.out.i.next (x := x))
      rw [← ht'.out, ← hu'.out] at hN
      have hc' := hZ.out.1
      have hc2 := hZ.out.2.1
      have hc3 := hZ.out.2.2
      refine ⟨((keeps_below hk.out.go).trans (KeepsOthers.setCell _ _ _)).from _, ⟨(KpB.of_below hk.out.go (by omega) (by omega)).trans (KpB.set _ (p := ⟨w.heap.size, 0, none⟩) (by show w1.heap.size ≠ w.heap.size; omega) (by show b ≠ w.heap.size; omega) _), by simpa [World.setCell] using hz⟩,
        hN, hk.out.bl.setCell (p := ⟨w.heap.size, 0, none⟩) (Nat.le_refl _) _⟩)
  case done =>
    rintro D ys W hD hS ⟨hc, hB⟩ hK
    have q1 := hc.c
    rw [hS, tsum_setL f g 1024 (fun p s _ hp => by
      rcases hv : f p s with _ | _
      · rfl
      · rw [(hL'.out.k.ok p s hv).1] at hp; cases hp)] at q1
    have hB' := Lib.hid hB
    clear hS hc hB
    gi_wp2
    refine ⟨by simp, .inl ⟨_, _, rfl, run_takeDeferred hK, ?_⟩⟩
    exact ⟨_, results_tmp rfl _ _ _, rfl, hB'.out.trans (belowK_b (w := w) (Nat.le_refl _) W D _ _ (by have := G2.out.2.1; omega) hK rfl rfl)⟩
  case stop =>
    rintro D c pre W _ _ h _
    exact h.elim
end
end Go.Proofs.YticfpnhfhhagpaaDoor
