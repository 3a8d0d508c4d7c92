/- Contracts of layer paint: the iterator over a region's granules. No statement is proved here. -/
import Derived.Test.YtmfipabbdhfmcaaPtA
import Derived.RangeFuncNested
import Derived.RangeFuncBound
import Derived.RangeFuncBox
import Derived.RangeFuncCalls
import Derived.RangeFuncLeaves
import Derived.OwnWalkIn
import Derived.TacticsInMore
import Derived.LoopNIn
import Derived.LoopIn
namespace Go.Proofs.Ytmfipabbdhfmcaa
set_option maxRecDepth 100000
open Go.RowKit Go.Shelf
set_option linter.unusedVariables false
attribute [local go_sem] Oper.semAt_some
/-- What the iterator reads between two rounds stands as it stood. -/
def KpR (c : Nat) (W W' : World) : Prop := W'.heap[c]? = W.heap[c]? ∧ W.heap.size ≤ W'.heap.size
theorem KpR.trans {c : Nat} {A B C : World} (h : KpR c A B) (k : KpR c B C) : KpR c A C := ⟨k.1.trans h.1, Nat.le_trans h.2 k.2⟩
theorem KpR.refl (c : Nat) (W : World) : KpR c W W := ⟨rfl, Nat.le_refl _⟩
theorem KpR.put {c : Nat} {w : World} (hc : c < w.heap.size) (W : World) (l : Nat) (o o' : Obj) (hl : w.heap.size ≤ l) (_ : W.heap[l]? = some o) (_ : o.isCells = false) (_ : o.isWalk = false) : KpR c W (W.putObj l o') :=
  ⟨World.putObj_heap_other (by omega), by simp [World.putObj]⟩
theorem KpR.of_below {c B : Nat} {W W' : World} (h : Below B W W') (h1 : c < B) : KpR c W W' := ⟨h.block c h1, h.size⟩
theorem KpR.of_off {c q B : Nat} {W W' : World} (h : Off B q W W') (h1 : c < B) (h2 : c ≠ q) : KpR c W W' := ⟨h.block c h1 h2, h.size⟩
section
variable {W W' w : World} {c a s : Nat}
theorem RgAt.keep (H : RgAt W c a s) (hk : KpR c W W') : RgAt W' c a s :=
  ⟨(World.cell?_of_block hk.1).trans H.c0, (World.cell?_of_block hk.1).trans H.c1, Nat.lt_of_lt_of_le H.l hk.2⟩
/-- What is handed to a round: a granule. -/
def encG (a i : Nat) : Array Value := #[.int .i64 ((a / 16 + i : Nat) : Int)]
set_option maxHeartbeats 2000000 in
theorem of_in (n : Nat) (hd : 1 ≤ n) (l c a s : Nat) (ha : a < 4294967296) (hs : s < 4294967296) (J Jx : List Nat → World → Prop)
    (hY : ∀ pre x W, J pre W → pre.length < 268435457 → YieldAt Fence.wide (n - 1) Try.prog l (encG a x) W fun e W' =>
      (e = .returned (.bool true) ∧ J (pre ++ [x]) W' ∧ KpR c W W') ∨ (e = .returned (.bool false) ∧ Jx (pre ++ [x]) W'))
    (W : World) (H : RgAt W c a s) (h0 : J [] W) :
    CallsIn Fence.wide n Try.prog 67 #[.func (.yield l) #[] #[], .pointer (some ⟨c, 0, none⟩)] W fun e W' => (∃ v, e = .returned v) ∧
      ((∃ ys, ys = List.range (s / 16) ∧ J ys W') ∨ (∃ pre, (∃ k, k ≤ s / 16 ∧ pre = List.range k) ∧ Jx pre W')) := by
  have k1 := H.c0
  have k2 := H.c1
  have H' := Lib.hid H
  obtain ⟨m, hm⟩ : ∃ m, m = s / 16 := ⟨_, rfl⟩
  obtain ⟨q, hq⟩ : ∃ q, q = a / 16 := ⟨_, rfl⟩
  have e1 : (s : Int) / 16 = m := by omega
  have e2 : (a : Int) / 16 = q := by omega
  have hmb : m < 268435456 := by omega
  have hqb : q < 268435456 := by omega
  have hY' : ∀ pre x W, J pre W → pre.length < 268435457 → YieldAt Fence.wide (n - 1) Try.prog l #[.int .i64 ((q + x : Nat) : Int)] W fun e W' =>
      (e = .returned (.bool true) ∧ J (pre ++ [x]) W' ∧ KpR c W W') ∨ (e = .returned (.bool false) ∧ Jx (pre ++ [x]) W') := by rw [hq]; exact hY
  rw [← hm]
  clear H hY hm hq
  refine callsIn_of_wp Try.func67 rfl trivial ?_ rfl
  simp only [Try.ntmps67, List.size_toArray, List.length_cons, List.length_nil, Nat.reduceAdd, Nat.reduceSub, Array.replicate_succ, Array.replicate_zero, List.push_toArray, List.append_toArray, List.nil_append, List.cons_append]
  gi_wp2
  gi_loopw [8] (fun i wr => ∃ k : Nat, k ≤ m ∧ i = .int .i64 k ∧ J (List.range k) wr ∧ KpR c W wr)
    (fun i _ => m - (intOf i).toNat)
  case atStart => exact ⟨0, Nat.zero_le _, rfl, h0, KpR.refl _ _⟩
  case round =>
    obtain ⟨k, hk, rfl, hJ, hK⟩ := hrel
    have hA := H'.out.keep hK
    have q1 := hA.c0
    have q2 := hA.c1
    by_cases hlt : k < m
    · have hlt' : (k : Int) < m := by omega
      obtain ⟨fn, tmps, assign, body, hy, hR⟩ := hY' (List.range k) k _ hJ (by rw [List.length_range]; omega)
      rw [show ((q + k : Nat) : Int) = (q : Int) + k by omega] at hy
      have hR' := Lib.hid hR
      have hK' := Lib.hid hK
      clear hR hA hJ hK h0 k1 k2 hY'
      gi_wp2
      refine hR'.out.mono ?_
      rintro e W3 (⟨rfl, hJ3, hk3⟩ | ⟨rfl, hJx3⟩)
      · have E3 := Lib.hid (And.intro hJ3 (hK'.out.trans hk3))
        clear hy hJ3 hk3
        gi_wp2
        go_roundw
        case rel => exact ⟨k + 1, by omega, by go_num, by rw [List.range_succ]; exact E3.out.1, E3.out.2⟩
        case measure => simp [intOf]; omega
      · clear hy
        gi_wp2
        refine bodyPost_ret (results_none rfl _ _ _) rfl ?_
        exact ⟨⟨_, rfl⟩, .inr ⟨_, ⟨k + 1, by omega, by rw [List.range_succ]⟩, hJx3⟩⟩
    · obtain rfl : k = m := by omega
      have hJ' := Lib.hid hJ
      clear hA hJ h0 k1 k2 hY'
      gi_wp2
      go_end0
      exact ⟨⟨_, rfl⟩, .inl ⟨_, rfl, hJ'.out⟩⟩
/-- The iterator goes through the region's granules; or through the first of them. -/
theorem of_stops (n : Nat) (hd : 1 ≤ n) (c a s : Nat) (ha : a < 4294967296) (hs : s < 4294967296) (w : World) (H : RgAt w c a s) :
    SeqStopsK Fence.wide n Try.prog 67 #[.pointer (some ⟨c, 0, none⟩)] (encG a) (KpR c)
      (fun xs => xs = List.range (s / 16)) (fun pre => ∃ k, k ≤ s / 16 ∧ pre = List.range k) 268435457 w := fun l J Jx W hW hJ hJx hY h0 =>
  of_in n hd l c a s ha hs J Jx hY W (H.grow hW) h0
end
end Go.Proofs.Ytmfipabbdhfmcaa
