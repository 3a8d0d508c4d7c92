/- Contracts of layer tags: All, and what it tells. No statement is proved here. -/
import Derived.Test.YtbomcakgggbacaaDoorTagT
namespace Go.Proofs.YtbomcakgggbacaaDoor
open Go.RowKit Go.Shelf
set_option linter.unusedVariables false
attribute [local go_sem] Oper.semAt_some

/-- What the iterator reads between two rounds stands as it stood: its box, the copy, the copy's words, the library's table. -/
def KpA (c b wb T : Nat) (W W' : World) : Prop := ∀ k, k = c ∨ k = b ∨ k = wb ∨ k = T → W'.heap[k]? = W.heap[k]?
theorem KpA.trans {c b wb T : Nat} {A B C : World} (h : KpA c b wb T A B) (k : KpA c b wb T B C) : KpA c b wb T A C := fun i hi => (k i hi).trans (h i hi)
theorem KpA.refl (c b wb T : Nat) (W : World) : KpA c b wb T W W := fun _ _ => rfl
theorem KpA.put {c b wb T : Nat} {w : World} (hc : c < w.heap.size) (hb : b < w.heap.size) (hw : wb < w.heap.size) (hT : T < w.heap.size) (W : World) (l : Nat) (o o' : Obj) (hl : w.heap.size ≤ l) (_ : W.heap[l]? = some o) (_ : o.isCells = false) (_ : o.isWalk = false) : KpA c b wb T W (W.putObj l o') :=
  fun k hk => World.putObj_heap_other (by rcases hk with rfl | rfl | rfl | rfl <;> omega)

/-- What the iterator goes through: its box leads to a map of n places; the library's table is as it was laid. -/
structure AllAt (W : World) (c b wb n T : Nat) (f : Nat → Bool) : Prop where
  c : W.cell? ⟨c, 0, none⟩ = some (.pointer (some ⟨b, 0, none⟩))
  m : MapAt W b wb n f
  t : TabAt T Lib.deBruijn64tab W
theorem AllAt.keep {W W' : World} {c b wb n T : Nat} {f : Nat → Bool} (h : AllAt W c b wb n T f) (hk : KpA c b wb T W W') (hs : W.heap.size ≤ W'.heap.size) : AllAt W' c b wb n T f :=
  ⟨(World.cell?_of_block (hk c (.inl rfl))).trans h.c, h.m.keep (fun k e => hk k (by rcases e with rfl | rfl <;> simp)) hs, fun j hj => (World.cell?_of_block (hk T (.inr (.inr (.inr rfl))))).trans (h.t j hj)⟩

theorem all_any (b wb n : Nat) (f : Nat → Bool) (w : World) (H : MapAt w b wb n f) : Calls Tryd.prog 7 #[.pointer (some ⟨b, 0, none⟩)] w fun e w' => e = .returned (.func (.func 16) #[] #[.pointer (some ⟨w.heap.size + 2, 0, none⟩)]) ∧
    MapAt w' (w.heap.size + 1) w.heap.size n f ∧ w'.cell? ⟨w.heap.size + 2, 0, none⟩ = some (.pointer (some ⟨w.heap.size + 1, 0, none⟩)) ∧ Below w.heap.size w w' ∧ w.heap.size + 3 = w'.heap.size := by
  have hC := Lib.hid (copy_any b wb n f w H)
  clear H
  go_enter Tryd.func7, Tryd.ntmps7
  go_wp2_with fail
  refine hC.out.mono ?_
  rintro e W1 ⟨rfl, m1, b1, z1⟩
  have M1 := Lib.hid m1
  have B1 := Lib.hid b1
  have Z1 := Lib.hid z1
  clear m1 b1 z1 hC
  go_wp2
  go_ret
  refine ⟨by rw [Z1.out]; rfl, M1.out.alloc _, (new_cell rfl _ Z1.out).1, B1.out.alloc B1.out.size _, by rw [World.size_alloc]; have := Z1.out; omega⟩

/-- What is handed to a round: a place. -/
def encA (x : Nat) : Array Value := #[.int .i64 (x : Int)]

set_option maxRecDepth 100000 in
set_option maxHeartbeats 2000000 in
theorem all_in (d : Nat) (hd : 1 ≤ d) (l c b wb n : Nat) (f : Nat → Bool) (J Jx : List Nat → World → Prop)
    (hY : ∀ pre x W, J pre W → pre.length < n + 1 → YieldAt Fence.wide (d - 1) Tryd.prog l (encA x) W fun e W' =>
      (e = .returned (.bool true) ∧ J (pre ++ [x]) W' ∧ (KpA c b wb 0 W W' ∧ W.heap.size ≤ W'.heap.size)) ∨ (e = .returned (.bool false) ∧ Jx (pre ++ [x]) W'))
    (W : World) (H : AllAt W c b wb n 0 f) (h0 : J [] W) :
    CallsIn Fence.wide d Tryd.prog 16 #[.func (.yield l) #[] #[], .pointer (some ⟨c, 0, none⟩)] W fun e W' => (∃ v, e = .returned v) ∧
      ((∃ ys, ys = setL f n ∧ J ys W') ∨ (∃ pre, pre <+: setL f n ∧ Jx pre W')) := by
  have hle := H.m.le
  have k1 := H.c
  have k2 := H.m.h0
  have hoff := Lib.hid H.m.off
  have H' := Lib.hid H
  obtain ⟨m, hm⟩ : ∃ m, m = (n + 63) / 64 := ⟨_, rfl⟩
  rw [← hm] at k2
  have hm1 : (m : Int) ≤ 16384 := by omega
  have hm2 := Lib.hid (show n ≤ 64 * m from by omega)
  have hM := Lib.hid hm
  clear H hm
  refine callsIn_of_wp Tryd.func16 rfl trivial ?_ rfl
  simp only [Tryd.ntmps16, List.size_toArray, List.length_cons, List.length_nil, Nat.reduceAdd, Nat.reduceSub, Array.replicate_succ, Array.replicate_zero, List.push_toArray, List.append_toArray, List.nil_append, List.cons_append]
  gi_wp2
  gi_loopw [12] (fun i wr => ∃ k : Nat, k ≤ m ∧ i = .int .i64 k ∧ J (setL f (64 * k)) wr ∧ KpA c b wb 0 W wr ∧ W.heap.size ≤ wr.heap.size)
    (fun i _ => m - (intOf i).toNat)
  case atStart => exact ⟨0, Nat.zero_le _, rfl, h0, KpA.refl _ _ _ _ _, Nat.le_refl _⟩
  case round =>
    obtain ⟨k, hk, rfl, hJ, hK, hZ⟩ := hrel
    have hA := H'.out.keep hK hZ
    have q1 := hA.c
    have q2 := hA.m.h0
    rw [← hM.out] at q2
    have hk3 : (k : Int) ≤ 16384 := by omega
    by_cases hlt : k < m
    · have q3 := (hA.m.ws k (by have := hM.out; omega)).1
      have hJ' := Lib.hid (And.intro hJ (And.intro hK hZ))
      clear hA hJ hK hZ h0 k1 k2
      gi_wp2
      obtain ⟨wo, hwo⟩ : ∃ wo : World, wo = wr := ⟨_, rfl⟩
      rw [← hwo] at hJ' q1 q2 q3 ⊢
      clear hwo
      gi_loopw [4] (fun v wr => ∃ t : Nat, t ≤ 64 ∧ v = .int .u64 (wd (fun j => f (64 * k + j) && decide (t ≤ j)) 64 : Nat) ∧ J (setL f (64 * k + t)) wr ∧ KpA c b wb 0 W wr ∧ W.heap.size ≤ wr.heap.size)
        (fun v _ => (intOf v).toNat)
      case atStart =>
        refine ⟨0, by omega, ?_, hJ'.out.1, hJ'.out.2.1, hJ'.out.2.2⟩
        exact congrArg (fun x : Nat => Value.int .u64 (x : Int)) (wd_congr fun j _ => by simp)
      case round =>
        obtain ⟨t, ht, rfl, hJ, hK, hZ⟩ := hrel
        obtain ⟨x, hx⟩ : ∃ x, x = wd (fun j => f (64 * k + j) && decide (t ≤ j)) 64 := ⟨_, rfl⟩
        have hxl : x < 18446744073709551616 := by rw [hx]; exact wd_lt _ _
        rw [← hx]
        have hX := Lib.hid hx
        have hJt := Lib.hid (And.intro hJ (And.intro hK hZ))
        have hT := Lib.hid ((H'.out.keep hK hZ).t)
        clear hx hJ hK hZ q1 q2 q3 hJ'
        by_cases hz : x = 0
        · have hz1 : ((x : Int) != 0) = false := by simp; omega
          have hsk : setL f (64 * (k + 1)) = setL f (64 * k + t) := setL_skip (by omega) (fun j h1 h2 => by
            have := wd_zero.1 (hX.out.symm.trans hz) (j - 64 * k) (by omega)
            rw [show 64 * k + (j - 64 * k) = j by omega] at this
            have hd : decide (t ≤ j - 64 * k) = true := by simp; omega
            rw [hd, Bool.and_true] at this
            exact this)
          have hS := Lib.hid hsk
          clear hsk hz hT
          gi_wp2
          go_roundw
          case rel => exact ⟨k + 1, by omega, by go_num, by rw [hS.out]; exact hJt.out.1, hJt.out.2.1, hJt.out.2.2⟩
          case measure => simp [intOf]; omega
        · obtain ⟨j0, hj0, hctz, hg, hlow, hand⟩ := low_bit (fun j => f (64 * k + j) && decide (t ≤ j)) (by rw [← hX.out]; exact hz)
          rw [← hX.out] at hctz hand
          have hg2 : f (64 * k + j0) = true ∧ t ≤ j0 := by simpa using hg
          have hsk : setL f (64 * k + j0) = setL f (64 * k + t) := setL_skip (by omega) (fun j h1 h2 => by
            have := hlow (j - 64 * k) (by omega)
            simp only [show 64 * k + (j - 64 * k) = j by omega] at this
            have hd : decide (t ≤ j - 64 * k) = true := by simp; omega
            rw [hd, Bool.and_true] at this
            exact this)
          have hpn : 64 * k + j0 < n := by
            rcases Nat.lt_or_ge (64 * k + j0) n with h | h
            · exact h
            · have := hoff.out _ h
              rw [this] at hg2
              cases hg2.1
          have hnew : setL f (64 * k + (j0 + 1)) = setL f (64 * k + t) ++ [64 * k + j0] := by
            rw [← Nat.add_assoc, setL_snoc hg2.1, hsk]
          have htz := Lib.hid (tz_any x wr hxl hz hT.out)
          rw [hctz] at htz
          obtain ⟨fn, tmps, assign, body, hy, hR⟩ := hY (setL f (64 * k + t)) (64 * k + j0) wr hJt.out.1 (by rw [← hsk]; have := setL_le f (64 * k + j0); have := (setL_prefix f (show 64 * k + j0 ≤ n by omega)).length_le; have := setL_le f n; omega)
          dsimp only [encA] at hy
          rw [show ((64 * k + j0 : Nat) : Int) = (k : Int) * 64 + (j0 : Int) by omega] at hy
          have hx1 : 1 ≤ (x : Int) := by omega
          have hx2 : (x : Int) < 18446744073709551616 := by omega
          have hv : bits BinOp.and IntKind.u64 (x : Int) ((x : Int) - 1) = (wd (fun j => f (64 * k + j) && decide (j0 + 1 ≤ j)) 64 : Nat) := by
            rw [show (x : Int) - 1 = ((x - 1 : Nat) : Int) by omega, bits_and_u64_nat x (x - 1) hxl (by omega), hand]
            refine congrArg Nat.cast (wd_congr fun j hj => ?_)
            by_cases h1 : j0 < j
            · have h2 : t ≤ j := by omega
              have h3 : j0 + 1 ≤ j := h1
              simp only [h1, h2, h3, decide_true, Bool.and_true]
            · have h3 : ¬ j0 + 1 ≤ j := by omega
              simp only [h1, h3, decide_false, Bool.and_false]
          have hj64 : (j0 : Int) < 64 := by omega
          have hz1 : ((x : Int) != 0) = true := by simp; omega
          have hlt3 : x &&& (x - 1) < x := Nat.lt_of_le_of_lt Nat.and_le_right (by omega)
          have hR' := Lib.hid hR
          have hN := Lib.hid hnew
          have hP := Lib.hid hpn
          have hA := Lib.hid (show ((bits BinOp.and IntKind.u64 (x : Int) ((x : Int) - 1))).toNat < x from by
            rw [show (x : Int) - 1 = ((x - 1 : Nat) : Int) by omega, bits_and_u64_nat x (x - 1) hxl (by omega)]; exact hlt3)
          have hV := Lib.hid hv
          clear hR hnew hctz hg hlow hand hsk hlt3 hg2 hz hT hv
          gi_wp2_with fail
          refine ⟨trivial, (callsIn_wide.2 htz.out).mono ?_⟩
          rintro e w' ⟨rfl, rfl⟩
          clear htz
          gi_wp2
          refine hR'.out.mono ?_
          rintro e W3 (⟨rfl, hJ3, hk3, hz3⟩ | ⟨rfl, hJx3⟩)
          · have E := Lib.hid (And.intro hJ3 (And.intro (hJt.out.2.1.trans hk3) (Nat.le_trans hJt.out.2.2 hz3)))
            clear hy hJ3 hk3 hz3
            gi_wp2
            go_roundw
            case rel => exact ⟨j0 + 1, by omega, by rw [hV.out], by rw [hN.out]; exact E.out.1, E.out.2.1, E.out.2.2⟩
            case measure => simp only [intOf]; have := hA.out; omega
          · clear hy
            gi_wp2
            refine bodyPost_ret (results_none rfl _ _ _) rfl ?_
            exact ⟨⟨_, rfl⟩, .inr ⟨_, by rw [← hN.out]; exact setL_prefix f (by have := hP.out; omega), hJx3⟩⟩
    · obtain rfl : k = m := by omega
      have hJ' := Lib.hid hJ
      clear hA hJ h0 k1 k2
      gi_wp2
      go_end0
      exact ⟨⟨_, rfl⟩, .inl ⟨_, setL_skip hm2.out (fun j h1 _ => hoff.out j h1), hJ'.out⟩⟩

/-- All's answer goes through the places that are set, rising; or through the first of them. -/
theorem all_stops (d : Nat) (hd : 1 ≤ d) (c b wb n : Nat) (f : Nat → Bool) (w : World) (H : AllAt w c b wb n 0 f) (hc : c < w.heap.size) (hT : 0 < w.heap.size) :
    SeqStopsK Fence.wide d Tryd.prog 16 #[.pointer (some ⟨c, 0, none⟩)] encA (fun W W' => KpA c b wb 0 W W' ∧ W.heap.size ≤ W'.heap.size)
      (fun xs => xs = setL f n) (fun pre => pre <+: setL f n) (n + 1) w := fun l J Jx W hW hJ hJx hY h0 =>
  all_in d hd l c b wb n f J Jx hY W (H.keep (fun k hk => hW.block k (by rcases hk with rfl | rfl | rfl | rfl; exact hc; exact H.m.lb; exact H.m.lw; exact hT)) hW.size) h0
end Go.Proofs.YtbomcakgggbacaaDoor
