/- Contracts of layer slots: TrailingZeros16, OnesCount16; the iterator. No statement is proved here. -/
import Derived.Test.YtkkjjdnlfdempaaDoorSlC
import Derived.Lib.Tables
namespace Go.Proofs.YtkkjjdnlfdempaaDoor
set_option maxRecDepth 100000
open Go.RowKit Go.Shelf
set_option linter.unusedVariables false
attribute [local go_sem] Oper.semAt_some
theorem tz_core (x k idx : Nat) (w : World) (hx0 : ((x : Int) == 0) = false)
    (key : bits BinOp.and IntKind.u16 (x : Int) (IntKind.u16.wrap (-(x : Int))) % 4294967296 * 125613361 % 4294967296 / 134217728 = (idx : Int)) (hi : idx < 32) (hk : k < 32) (hcell : w.cell? ⟨0, idx, none⟩ = some (.int .u8 k)) :
    Calls Tryd.prog 32 #[.int .u16 x] w fun e w' => e = .returned (.int .i64 k) ∧ w = w' := by
  go_enter Tryd.func32, Tryd.ntmps32
  go_wp2_with (simp only [key])
  go_ret
  exact ⟨rfl, rfl⟩
/-- The least slot that is free. -/
theorem tz16 (h : Nat → Bool) (s : Nat) (w : World) (hs : s < 16) (h1 : h s = true) (hl : ∀ j, j < s → h j = false) (hT : TabAt 0 Lib.deBruijn32tab w) :
    Calls Tryd.prog 32 #[.int .u16 (w16 h : Int)] w fun e w' => e = .returned (.int .i64 s) ∧ w = w' := by
  have h0 : w16 h ≠ 0 := fun e => by rw [w16_zero.1 e s hs] at h1; cases h1
  have hx := w16_lt h
  have hb : bits .and .u16 (w16 h : Int) (IntKind.u16.wrap (-(w16 h : Int))) = ((2 ^ s : Nat) : Int) := by
    rw [← low16 h s hs h1 hl, IntKind.wrap_u16', show -(w16 h : Int) % 65536 = ((65536 - w16 h : Nat) : Int) from by omega]
    rw [(bits_nat .u16 16 (by decide) (fun n h0 h1 => by rw [IntKind.wrap_u16']; omega) (w16 h) (65536 - w16 h) (by omega) (by omega)).1]
  obtain ⟨hi, htab⟩ := Lib.deBruijn32_at s (by omega)
  have hcell := hT _ hi
  rw [htab] at hcell
  refine tz_core (w16 h) s _ w (by simp; omega) ?_ hi (by omega) hcell
  rw [hb]
  have := pow16 hs
  rw [Int.emod_eq_of_lt (Int.natCast_nonneg _) (by generalize 2 ^ s = p at *; omega)]
  simp
theorem pop8_nat (n : Nat) (hn : n < 256) : Lib.pop8 (n : Int) = (Lib.popAux 8 n : Nat) ∧ Lib.popAux 8 n ≤ 8 := by
  have e := Lib.pop8_eq ⟨n, hn⟩
  have l := Lib.onesCount_le8 ⟨n, hn⟩
  have h : Lib.onesCount n = Lib.popAux 8 n := by
    unfold Lib.onesCount
    rw [show (64 : Nat) = 8 + 56 from rfl, pop_add, show n / 2 ^ 8 = 0 from Nat.div_eq_of_lt hn]
    rfl
  simp only at e l
  rw [e, h]
  exact ⟨rfl, h ▸ l⟩
theorem ones_val (x : Nat) (hx : x < 65536) : (Lib.pop8 ((x : Int) / 256) + Lib.pop8 ((x : Int) % 256)) % 256 = (Lib.popAux 16 x : Nat) := by
  have e1 : (x : Int) / 256 = ((x / 256 : Nat) : Int) := by omega
  have e2 : (x : Int) % 256 = ((x % 256 : Nat) : Int) := by omega
  obtain ⟨p1, l1⟩ := pop8_nat (x / 256) (by omega)
  obtain ⟨p2, l2⟩ := pop8_nat (x % 256) (by omega)
  rw [e1, e2, p1, p2, show (16 : Nat) = 8 + 8 from rfl, pop_add 8 8 x, pop_mod 8 x]
  rw [show (2 : Nat) ^ 8 = 256 from rfl]
  omega
theorem ones (h : Nat → Bool) (w : World) : Calls Tryd.prog 37 #[.int .u16 (w16 h : Int)] w fun e w' => e = .returned (.int .i64 (cnt h 16 : Nat)) ∧ Below w.heap.size w w' := by
  have hx := w16_lt h
  have hV := ones_val (w16 h) hx
  rw [show Lib.popAux 16 (w16 h) = cnt h 16 from wd_pop 16 h] at hV
  generalize w16 h = x at *
  have h1 : (x : Int) < 65536 := by omega
  have h2 : bits .and .u16 (x : Int) 255 = (x : Int) % 256 := bits_mask .u16 16 (by decide) (fun n h0 h1 => by rw [IntKind.wrap_u16']; omega) 8 (by decide) x (by omega) (by omega)
  have i0 : 0 ≤ (x : Int) / 256 := by omega
  have i1 : (x : Int) / 256 ≤ 255 := by omega
  have j0 : 0 ≤ (x : Int) % 256 := by omega
  have j1 : (x : Int) % 256 ≤ 255 := by omega
  have k0 := fun (w : World) => Lib.run_index_pop8tab (P := Tryd.prog) (w := w) 9 .u16 ((x : Int) / 256) Tryd.underlying9 i0 i1
  have k1 := fun (w : World) => Lib.run_index_pop8tab (P := Tryd.prog) (w := w) 9 .u16 ((x : Int) % 256) Tryd.underlying9 j0 j1
  replace hV := Lib.hid hV
  go_enter Tryd.func37, Tryd.ntmps37
  go_wp2_with fail
  go_region
  all_goals (
    go_wp2
    go_ret
    exact ⟨by rw [hV.out]; rfl, (Below.refl _ _).drew⟩)

/-! ### The iterator -/
/-- What the iterator reads between two rounds stands as it stood: its box, the book. -/
def KpB (c b : Nat) (W W' : World) : Prop := ∀ k, k = c ∨ k = b → W'.heap[k]? = W.heap[k]?
theorem KpB.trans {c b : Nat} {A B C : World} (h : KpB c b A B) (k : KpB c b B C) : KpB c b A C := fun i hi => (k i hi).trans (h i hi)
theorem KpB.refl (c b : Nat) (W : World) : KpB c b W W := fun _ _ => rfl
theorem KpB.put {c b : Nat} {w : World} (hc : c < w.heap.size) (hb : b < w.heap.size) (W : World) (l : Nat) (o o' : Obj) (hl : w.heap.size ≤ l) (_ : W.heap[l]? = some o) (_ : o.isCells = false) (_ : o.isWalk = false) : KpB c b W (W.putObj l o') :=
  fun k hk => World.putObj_heap_other (by rcases hk with rfl | rfl <;> omega)
theorem KpB.of_off {c b q B : Nat} {W W' : World} (h : Off B q W W') (h1 : c < B ∧ c ≠ q) (h2 : b < B ∧ b ≠ q) : KpB c b W W' := fun k hk => h.block k (by rcases hk with rfl | rfl <;> omega) (by rcases hk with rfl | rfl <;> omega)
theorem KpB.of_below {c b B : Nat} {W W' : World} (h : Below B W W') (h1 : c < B) (h2 : b < B) : KpB c b W W' := fun k hk => h.block k (by rcases hk with rfl | rfl <;> omega)
section
variable {W W' w : World} {b per c d : Nat} {g : Nat → Bool} {f : Nat → Nat → Bool}
theorem Led.keep (H : Led W c b per g f) (hk : KpB c b W W') (hs : W.heap.size ≤ W'.heap.size) : Led W' c b per g f :=
  ⟨H.k.keep (hk b (.inr rfl)) hs, (World.cell?_of_block (hk c (.inl rfl))).trans H.cc, Nat.lt_of_lt_of_le H.l hs⟩
theorem all_any (H : BookAt w b per g f) : Calls Tryd.prog 31 #[.pointer (some ⟨b, 0, none⟩)] w fun e w' => e = .returned (.func (.func 40) #[] #[.pointer (some ⟨w.heap.size, 0, none⟩)]) ∧
    Led w' w.heap.size b per g f ∧ Below w.heap.size w w' ∧ w.heap.size + 1 = w'.heap.size := by
  have hb : Below w.heap.size w (w.alloc (.cells #[.pointer (some ⟨b, 0, none⟩)] 23)) := (Below.refl _ _).alloc (Nat.le_refl _) _
  have hL := Lib.hid (show Led (w.alloc (.cells #[.pointer (some ⟨b, 0, none⟩)] 23)) w.heap.size b per g f from ⟨H.grow hb, by simp, by simp⟩)
  clear H
  go_enter Tryd.func31, Tryd.ntmps31
  go_wp2
  go_ret
  exact ⟨rfl, hL.out, hb, by simp⟩
/-- What is handed to a round: a page, and its leaf. -/
def encS (f : Nat → Nat → Bool) (p : Nat) : Array Value := #[.int .i64 (p : Int), .agg #[.bool true, .int .u16 (w16 (f p) : Int)]]
set_option maxHeartbeats 2000000 in
theorem all_in (n : Nat) (hd : 1 ≤ n) (l c b per : Nat) (g : Nat → Bool) (f : Nat → Nat → Bool) (J Jx : List Nat → World → Prop)
    (hY : ∀ pre x W, J pre W → pre.length < 1025 → YieldAt Fence.wide (n - 1) Tryd.prog l (encS f x) W fun e W' =>
      (e = .returned (.bool true) ∧ J (pre ++ [x]) W' ∧ (KpB c b W W' ∧ W.heap.size ≤ W'.heap.size)) ∨ (e = .returned (.bool false) ∧ Jx (pre ++ [x]) W'))
    (hJa : ∀ pre W o, J pre W → J pre (W.alloc o))
    (W : World) (H : Led W c b per g f) (h0 : J [] W) :
    CallsIn Fence.wide n Tryd.prog 40 #[.func (.yield l) #[] #[], .pointer (some ⟨c, 0, none⟩)] W fun e W' => (∃ v, e = .returned v) ∧
      ((∃ ys, ys = setL g 1024 ∧ J ys W') ∨ (∃ pre, pre <+: setL g 1024 ∧ Jx pre W')) := by
  have k1 := H.cc
  have H' := Lib.hid H
  clear H
  refine callsIn_of_wp Tryd.func40 rfl trivial ?_ rfl
  simp only [Tryd.ntmps40, List.size_toArray, List.length_cons, List.length_nil, Nat.reduceAdd, Nat.reduceSub, Array.replicate_succ, Array.replicate_zero, List.push_toArray, List.append_toArray, List.nil_append, List.cons_append]
  gi_wp2
  gi_loopw [7] (fun i wr => ∃ k : Nat, k ≤ 1024 ∧ i = .int .i64 k ∧ J (setL g k) wr ∧ KpB c b W wr ∧ W.heap.size ≤ wr.heap.size)
    (fun i _ => 1024 - (intOf i).toNat)
  case atStart => exact ⟨0, Nat.zero_le _, rfl, h0, KpB.refl _ _ _, Nat.le_refl _⟩
  case round =>
    obtain ⟨k, hk, rfl, hJ, hK, hZ⟩ := hrel
    have hA := H'.out.keep hK hZ
    have q1 := hA.cc
    by_cases hlt : k < 1024
    · have hlt' : (k : Int) < 1024 := by omega
      have c0 := hA.k.inn hlt
      have c1 := hA.k.free hlt
      obtain ⟨v, hv⟩ : ∃ v, v = g k := ⟨_, rfl⟩
      rw [← hv] at c0
      have hv' := Lib.hid hv
      have hB : Below wr.heap.size wr (wr.alloc (.cells #[.bool v, .int .u16 (w16 (f k) : Int)] 59)) := (Below.refl _ _).alloc (Nat.le_refl _) _
      have E := Lib.hid (And.intro (hJa _ _ (.cells #[.bool v, .int .u16 (w16 (f k) : Int)] 59) hJ) (And.intro (hK.trans (KpB.of_below hB (hA.l) hA.k.lb)) (Nat.le_trans hZ hB.size)))
      have n0 : (wr.alloc (.cells #[.bool v, .int .u16 (w16 (f k) : Int)] 59)).cell? ⟨wr.heap.size, 0, none⟩ = some (.bool v) := by simp
      have n1 : (wr.alloc (.cells #[.bool v, .int .u16 (w16 (f k) : Int)] 59)).cell? ⟨wr.heap.size, 1, none⟩ = some (.int .u16 (w16 (f k) : Int)) := by simp
      clear hA hJ hK hZ h0 k1 hv hB
      cases v
      · have hS := Lib.hid (show setL g (k + 1) = setL g k from setL_skip (by omega) (fun j h1 h2 => (show j = k by omega) ▸ hv'.out.symm))
        gi_wp2
        refine ⟨fun _ hf => (by cases hf), ?_⟩
        gi_wp2
        go_roundw
        case rel => exact ⟨k + 1, by omega, by go_num, by rw [hS.out]; exact E.out.1, E.out.2.1, E.out.2.2⟩
        case measure => simp [intOf]; omega
      · have hN := Lib.hid (show setL g (k + 1) = setL g k ++ [k] from setL_snoc hv'.out.symm)
        have hlen := setL_le g k
        obtain ⟨fn, tmps, assign, body, hy, hR⟩ := hY (setL g k) k _ E.out.1 (by omega)
        dsimp only [encS] at hy
        have hR' := Lib.hid hR
        clear hR hlen
        gi_wp2
        refine hR'.out.mono ?_
        rintro e W3 (⟨rfl, hJ3, hk3, hz3⟩ | ⟨rfl, hJx3⟩)
        · have E3 := Lib.hid (And.intro hJ3 (And.intro (E.out.2.1.trans hk3) (Nat.le_trans E.out.2.2 hz3)))
          clear hy hJ3 hk3 hz3 n0 n1
          gi_wp2
          go_roundw
          case rel => exact ⟨k + 1, by omega, by go_num, by rw [hN.out]; exact E3.out.1, E3.out.2.1, E3.out.2.2⟩
          case measure => simp [intOf]; omega
        · clear hy n0 n1
          gi_wp2
          refine bodyPost_ret (results_none rfl _ _ _) rfl ?_
          exact ⟨⟨_, rfl⟩, .inr ⟨_, by rw [← hN.out]; exact setL_prefix g (by omega), hJx3⟩⟩
    · obtain rfl : k = 1024 := by omega
      have hJ' := Lib.hid hJ
      clear hA hJ h0 k1
      gi_wp2
      go_end0
      exact ⟨⟨_, rfl⟩, .inl ⟨_, rfl, hJ'.out⟩⟩
/-- The iterator goes through the pages that are in the book, rising; or through the first of them. -/
theorem all_stops (n : Nat) (hd : 1 ≤ n) (c b per : Nat) (g : Nat → Bool) (f : Nat → Nat → Bool) (w : World) (H : Led w c b per g f) :
    SeqStopsK Fence.wide n Tryd.prog 40 #[.pointer (some ⟨c, 0, none⟩)] (encS f) (fun W W' => KpB c b W W' ∧ W.heap.size ≤ W'.heap.size)
      (fun xs => xs = setL g 1024) (fun pre => pre <+: setL g 1024) 1025 w := fun l J Jx W hW hJ hJx hY h0 =>
  all_in n hd l c b per g f J Jx hY (fun pre W o h => hJ pre _ _ none h (World.grownBy_alloc W o none) (fun r e => by cases e)) W (H.grow hW) h0
end
end Go.Proofs.YtkkjjdnlfdempaaDoor
