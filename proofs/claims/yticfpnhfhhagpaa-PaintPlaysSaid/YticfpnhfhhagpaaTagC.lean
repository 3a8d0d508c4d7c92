/- Contracts of layer tags: the words of a range, told one behind the other. No statement is proved here. -/
import Derived.Test.YticfpnhfhhagpaaTagB
import Derived.Test.YticfpnhfhhagpaaWide
import Derived.Sort.QuietIn
namespace Go.Proofs.Yticfpnhfhhagpaa
open Go.RowKit Go.Shelf
set_option linter.unusedVariables false
attribute [local go_sem] Oper.semAt_some

/-- What the iterator reads between two rounds stands as it stood: the map's own block, and the three boxes. -/
def KpW (b c : Nat) (W W' : World) : Prop := ∀ k, k = b ∨ k = c ∨ k = c + 1 ∨ k = c + 1 + 1 → W'.heap[k]? = W.heap[k]?
theorem KpW.trans {b c : Nat} {A B C : World} (h : KpW b c A B) (k : KpW b c B C) : KpW b c A C := fun i hi => (k i hi).trans (h i hi)
theorem KpW.refl (b c : Nat) (W : World) : KpW b c W W := fun _ _ => rfl
theorem KpW.put {b c : Nat} {w : World} (hb : b < w.heap.size) (hc : c + 1 + 1 < w.heap.size) (W : World) (l : Nat) (o o' : Obj) (hl : w.heap.size ≤ l) (_ : W.heap[l]? = some o) (_ : o.isCells = false) (_ : o.isWalk = false) : KpW b c W (W.putObj l o') :=
  fun k hk => World.putObj_heap_other (by rcases hk with rfl | rfl | rfl | rfl <;> omega)
theorem KpW.set {b c : Nat} (W : World) {p : Addr} (hb : p.block ≠ b) (h0 : p.block ≠ c) (h1 : p.block ≠ c + 1) (h2 : p.block ≠ c + 1 + 1) (v : Value) : KpW b c W (W.setCell p v) :=
  fun k hk => Below.heap_setCell _ _ _ _ (by rcases hk with rfl | rfl | rfl | rfl <;> omega)
theorem KpW.drew {b c : Nat} {A B : World} (h : KpW b c A B) : KpW b c A B.drew := h

/-- The boxes of a range of words, and the map that it goes through. -/
structure PartsAt (W : World) (b wb n c : Nat) (A B : Int) : Prop where
  h0 : W.cell? ⟨b, 0, none⟩ = some (.slice (some ⟨wb, 0, none⟩) ((n + 63) / 64) ((n + 63) / 64))
  m : W.cell? ⟨c, 0, none⟩ = some (.pointer (some ⟨b, 0, none⟩))
  a : W.cell? ⟨c + 1, 0, none⟩ = some (.int .i64 A)
  b : W.cell? ⟨c + 1 + 1, 0, none⟩ = some (.int .i64 B)
theorem PartsAt.keep {W W' : World} {b wb n c : Nat} {A B : Int} (h : PartsAt W b wb n c A B) (hk : KpW b c W W') : PartsAt W' b wb n c A B :=
  ⟨(World.cell?_of_block (hk b (.inl rfl))).trans h.h0, (World.cell?_of_block (hk c (.inr (.inl rfl)))).trans h.m, (World.cell?_of_block (hk (c + 1) (.inr (.inr (.inl rfl))))).trans h.a, (World.cell?_of_block (hk (c + 1 + 1) (.inr (.inr (.inr rfl))))).trans h.b⟩

set_option maxRecDepth 100000 in
set_option maxHeartbeats 1000000 in
theorem words_none (m : Nat) (l b wb n c : Nat) (A B : Int) (hAB : B ≤ A) (W : World) (J : List (Fin ((n + 63) / 64)) → World → Prop) (H : PartsAt W b wb n c A B) (h0 : J [] W) :
    CallsIn Fence.wide m Try.prog 39 #[.func (.yield l) #[] #[], .pointer (some ⟨c + 1, 0, none⟩), .pointer (some ⟨c + 1 + 1, 0, none⟩), .pointer (some ⟨c, 0, none⟩)] W fun e W' => (∃ v, e = .returned v) ∧ J [] W' := by
  have k1 := H.a
  have k2 := H.b
  refine callsIn_of_wp Try.func39 rfl trivial ?_ rfl
  simp only [Try.ntmps39, List.size_toArray, List.length_cons, List.length_nil, Nat.reduceAdd, Nat.reduceSub, Array.replicate_succ, Array.replicate_zero, List.push_toArray, List.append_toArray, List.nil_append, List.cons_append]
  gi_wp2
  refine bodyPost_ret (results_none rfl _ _ _) rfl ?_
  exact ⟨⟨_, rfl⟩, h0⟩

/-- The value that is handed to a round: a word's place, and which of its bits are meant. -/
def tgEnc (wb n lo hi : Nat) (x : Fin ((n + 63) / 64)) : Array Value := #[.pointer (some ⟨wb, x.val, none⟩), .int .u64 (wdo (inr lo hi) x.val : Nat)]

theorem mask_word (lo hi i : Nat) : bits BinOp.andNot .u64 (wd (fun j => decide ((j : Int) < (hi : Int) - (i : Int) * 64)) 64 : Nat) (wd (fun j => decide ((j : Int) < (lo : Int) - (i : Int) * 64)) 64 : Nat) = (wdo (inr lo hi) i : Nat) := by
  rw [andnot_wd]
  refine congrArg Nat.cast (wd_congr fun j hj => ?_)
  simp only [inr]
  rw [Bool.eq_iff_iff]
  simp
  omega

set_option maxRecDepth 100000 in
set_option maxHeartbeats 2000000 in
theorem words_in (m : Nat) (hm : 1 ≤ m) (l b wb n c lo hi : Nat) (hlt : lo < hi) (hhi : hi ≤ n) (hn : n ≤ 1048576) (J Jx : List (Fin ((n + 63) / 64)) → World → Prop)
    (hY : ∀ pre x W, J pre W → pre.length < (n + 63) / 64 → YieldAt Fence.wide (m - 1) Try.prog l (tgEnc wb n lo hi x) W fun e W' =>
      (e = .returned (.bool true) ∧ J (pre ++ [x]) W' ∧ KpW b c W W') ∨ (e = .returned (.bool false) ∧ Jx (pre ++ [x]) W'))
    (W : World) (H : PartsAt W b wb n c lo hi) (h0 : J [] W) (hJd : ∀ pre W, J pre W → J pre W.drew) :
    CallsIn Fence.wide m Try.prog 39 #[.func (.yield l) #[] #[], .pointer (some ⟨c + 1, 0, none⟩), .pointer (some ⟨c + 1 + 1, 0, none⟩), .pointer (some ⟨c, 0, none⟩)] W fun e W' => (∃ v, e = .returned v) ∧
      ((∃ ys, ys.map (fun x => x.val) = (List.range ((hi - 1) / 64 - lo / 64 + 1)).map (lo / 64 + ·) ∧ J ys W') ∨ (∃ pre, (∃ k, k ≤ (hi - 1) / 64 - lo / 64 + 1 ∧ pre.map (fun x => x.val) = (List.range k).map (lo / 64 + ·)) ∧ Jx pre W')) := by
  have k1 := H.a
  have k2 := H.b
  have i1 : (lo : Int) < (hi : Int) := by omega
  have i2 : (hi : Int) ≤ 1048576 := by omega
  have H' := Lib.hid H
  clear H
  refine callsIn_of_wp Try.func39 rfl trivial ?_ rfl
  simp only [Try.ntmps39, List.size_toArray, List.length_cons, List.length_nil, Nat.reduceAdd, Nat.reduceSub, Array.replicate_succ, Array.replicate_zero, List.push_toArray, List.append_toArray, List.nil_append, List.cons_append]
  gi_wp2
  gi_quiet (fail)
  gi_wp2
  obtain ⟨cn, hcn⟩ : ∃ cn, cn = (hi - 1) / 64 - lo / 64 + 1 := ⟨_, rfl⟩
  have e2 : ((hi : Int) - 1) / 64 - (lo : Int) / 64 + 1 = (cn : Int) := by omega
  obtain ⟨fst, hfst⟩ : ∃ fst, fst = lo / 64 := ⟨_, rfl⟩
  have e1 : (lo : Int) / 64 = (fst : Int) := by omega
  have hcn1 : fst + cn ≤ (n + 63) / 64 ∧ fst + cn ≤ 16384 := by omega
  have e3 : decide (hi ≤ lo) = false := by simp; omega
  rw [e2, e1, e3]
  clear e3
  have hcn' := Lib.hid hcn
  have hfst' := Lib.hid hfst
  have hM := Lib.hid hcn1
  clear hcn hfst e1 e2 hcn1
  gi_loopw [21] (fun i wr => ∃ (k : Nat) (pre : List (Fin ((n + 63) / 64))), k ≤ cn ∧ i = .int .i64 k ∧ pre.map (fun x => x.val) = (List.range k).map (fst + ·) ∧ J pre wr ∧ KpW b c W wr)
    (fun i _ => cn - (intOf i).toNat)
  case atStart => exact ⟨0, [], Nat.zero_le _, rfl, rfl, by clear k1 k2; induction nq with | zero => exact h0 | succ q ih => exact hJd _ _ ih, fun _ _ => rfl⟩
  case round =>
    obtain ⟨k, pre, hk, rfl, hpre, hJs, hnx⟩ := hrel
    have hq := H'.out.keep hnx
    have q0 := hq.h0
    have q1 := hq.m
    have q2 := hq.a
    have q3 := hq.b
    have hlen : pre.length = k := by have := congrArg List.length hpre; simpa using this
    have hpre' := Lib.hid hpre
    have hlen' := Lib.hid hlen
    clear hpre hq k1 k2 hlen
    by_cases hlt2 : k < cn
    · have hx : fst + k < (n + 63) / 64 := by have := hM.out; omega
      obtain ⟨x, hxv⟩ : ∃ x : Fin ((n + 63) / 64), x.val = fst + k := ⟨⟨fst + k, hx⟩, rfl⟩
      obtain ⟨fn, tmps, assign, body, hy, hR⟩ := hY pre x wr.drew (hJd _ _ hJs) (by have := hlen'.out; omega)
      dsimp only [tgEnc] at hy
      rw [hxv] at hy
      have hxv' := Lib.hid hxv
      clear hxv
      have hk1 : (fst : Int) + (k : Int) ≤ 16384 := by have := hM.out; omega
      obtain ⟨M, hMM⟩ : ∃ M, M = (n + 63) / 64 := ⟨_, rfl⟩
      rw [← hMM] at q0
      have hj1 : (fst : Int) + (k : Int) < (M : Int) := by omega
      have hx' := Lib.hid hx
      have hMM' := Lib.hid hMM
      clear hx hMM
      gi_wp2
      have s1 : IntKind.i64.wrap ((fst : Int) + (k : Int)) = (fst : Int) + (k : Int) := by rw [IntKind.wrap_i64]; omega
      have s2 : ((fst : Int) + (k : Int)).toNat = fst + k := by omega
      have s3 : IntKind.i64.wrap ((hi : Int) - ((fst : Int) + (k : Int)) * 64) = (hi : Int) - ((fst : Int) + (k : Int)) * 64 := by rw [IntKind.wrap_i64]; omega
      have s4 : IntKind.i64.wrap ((lo : Int) - ((fst : Int) + (k : Int)) * 64) = (lo : Int) - ((fst : Int) + (k : Int)) * 64 := by rw [IntKind.wrap_i64]; omega
      have s5 : 0 ≤ (fst : Int) + (k : Int) := by omega
      have s6 := mask_word lo hi (fst + k)
      rw [show ((fst + k : Nat) : Int) = (fst : Int) + (k : Int) by omega] at s6
      have b1 := Lib.hid (fun w => below_any ((hi : Int) - ((fst : Int) + (k : Int)) * 64) w (by omega) (by omega))
      have b2 := Lib.hid (fun w => below_any ((lo : Int) - ((fst : Int) + (k : Int)) * 64) w (by omega) (by omega))
      refine Free.region (Free.wide _ _) 18 (by kernel_rfl) (by kernel_rfl) (by kernel_rfl) ?_
      simp only [List.take_succ_cons, List.take_zero, List.drop_succ_cons, List.drop_zero]
      repeat still_step
      still_call ((b1.out _).mono fun e w' h => ⟨h.1, h.2.symm⟩)
      repeat still_step
      still_call ((b2.out _).mono fun e w' h => ⟨h.1, h.2.symm⟩)
      repeat still_step
      refine wpStill_nil ?_
      have hR' := Lib.hid hR
      have hk2 : (k : Int) ≤ 16384 := by omega
      clear hR s1 s2 s3 s4 s5 s6 b1 b2 q0 q1 q2 q3 hj1 hk1 i1 i2
      gi_wp2
      refine hR'.out.mono ?_
      rintro e W3 (⟨rfl, hJ3, hk3⟩ | ⟨rfl, hJx3⟩)
      · have hnx3 : KpW b c W W3 := hnx.trans hk3
        have hsn : (pre ++ [x]).map (fun x => x.val) = (List.range (k + 1)).map (fst + ·) := by rw [List.map_append, hpre'.out, List.range_succ, List.map_append]; simp [hxv'.out]
        have hsn' := Lib.hid hsn
        clear hsn hy
        gi_wp2
        go_roundw
        case rel => exact ⟨k + 1, pre ++ [x], by omega, by go_num, hsn'.out, hJ3, hnx3⟩
        case measure => simp [intOf]; omega
      · have hsn : (pre ++ [x]).map (fun x => x.val) = (List.range (k + 1)).map (fst + ·) := by rw [List.map_append, hpre'.out, List.range_succ, List.map_append]; simp [hxv'.out]
        have hsn' := Lib.hid hsn
        clear hsn hy
        gi_wp2
        refine bodyPost_ret (results_none rfl _ _ _) rfl ?_
        exact ⟨⟨_, rfl⟩, .inr ⟨pre ++ [x], ⟨k + 1, by rw [← hcn'.out]; omega, by rw [← hfst'.out]; exact hsn'.out⟩, hJx3⟩⟩
    · obtain rfl : k = cn := by omega
      gi_wp2
      go_end0
      exact ⟨⟨_, rfl⟩, .inl ⟨pre, by rw [← hcn'.out, ← hfst'.out]; exact hpre'.out, hJs⟩⟩
end Go.Proofs.Yticfpnhfhhagpaa
