/- Contracts of layer tags: bit, below, OnesCount64, Len, has, Get, Put, New. No statement is proved here. -/
import Derived.Test.YtmfipabbdhfmcaaChecked
import Derived.Test.YtmfipabbdhfmcaaTagM
import Derived.Test.YtmfipabbdhfmcaaOff
import Derived.Test.YtmfipabbdhfmcaaMem
import Derived.WalkSpells
import Derived.WalkLawsBesides
import Derived.Deep.QuietTactic
import Derived.BigQuiet
import Derived.Handy
import Derived.Below
import Derived.Laws.Bits64b
import Derived.Laws.BitsLemmas
import Derived.Lib.Hide
import Derived.Deep.OwnRows
import Derived.Deep.RegionWith
import Derived.StillTailTactics
namespace Go.Proofs.Ytmfipabbdhfmcaa
open Go.RowKit
set_option linter.unusedVariables false


theorem pow_min (k : Nat) : IntKind.u64.wrap (IntKind.u64.wrap (2 ^ min k 64) - 1) = ((2 ^ min k 64 - 1 : Nat) : Int) := by
  rw [IntKind.wrap_u64, IntKind.wrap_u64]
  by_cases h : 64 ≤ k
  · rw [Nat.min_eq_right h]; rfl
  · have h' : min k 64 < 64 := by omega
    have hp : 2 ^ min k 64 ≤ 2 ^ 63 := Nat.pow_le_pow_right (by decide) (by omega)
    have h1 : 1 ≤ 2 ^ min k 64 := Nat.one_le_two_pow
    have hc : ((2 : Int) ^ min k 64) = ((2 ^ min k 64 : Nat) : Int) := by simp
    rw [hc]
    generalize 2 ^ min k 64 = p at *
    omega
theorem and_wd (g h : Nat → Bool) : bits .and .u64 (wd g 64 : Nat) (wd h 64 : Nat) = (wd (fun j => g j && h j) 64 : Nat) := by
  rw [bits_and_u64_nat _ _ (wd_lt _ _) (wd_lt _ _), wd_and]
theorem andnot_wd (g h : Nat → Bool) : bits .andNot .u64 (wd g 64 : Nat) (wd h 64 : Nat) = (wd (fun j => g j && !h j) 64 : Nat) := by
  have e : (BitVec.ofInt 64 ((wd g 64 : Nat) : Int) &&& ~~~BitVec.ofInt 64 ((wd h 64 : Nat) : Int)).toNat = wd (fun j => g j && !h j) 64 := by
    apply Nat.eq_of_testBit_eq
    intro j
    rw [BitVec.testBit_toNat, BitVec.ofInt_natCast, BitVec.ofInt_natCast, wd_bit]
    by_cases hj : j < 64
    · simp only [BitVec.getLsbD_and, BitVec.getLsbD_not, BitVec.getLsbD_ofNat, wd_bit, hj]
      simp
    · simp [hj]
  show IntKind.u64.wrap ((BitVec.ofInt 64 ((wd g 64 : Nat) : Int) &&& ~~~BitVec.ofInt 64 ((wd h 64 : Nat) : Int)).toNat : Int) = _
  rw [e, IntKind.wrap_u64]
  have := wd_lt 64 (fun j => g j && !h j)
  omega

theorem bit_any (k : Nat) (w : World) (hk : k ≤ 1048576) : Calls Try.prog 57 #[.int .i64 k] w fun e w' => e = .returned (.int .u64 (2 ^ (k % 64) : Nat)) ∧ w = w' := by
  have hp : IntKind.u64.wrap (2 ^ (k % 64)) = ((2 ^ (k % 64) : Nat) : Int) := by
    have h1 : 2 ^ (k % 64) ≤ 2 ^ 63 := Nat.pow_le_pow_right (by decide) (by omega)
    have hc : ((2 : Int) ^ (k % 64)) = ((2 ^ (k % 64) : Nat) : Int) := by simp
    rw [IntKind.wrap_u64, hc]
    generalize 2 ^ (k % 64) = p at *
    omega
  have H := Lib.hid hp
  clear hp
  go_enter Try.func57, Try.ntmps57
  go_wp2
  go_ret
  exact ⟨ret_int H.out, rfl⟩

/-- At block b stands a map of n places, its words in block wb; f tells which are set. -/
structure MapAt (W : World) (b wb n : Nat) (f : Nat → Bool) : Prop where
  h0 : W.cell? ⟨b, 0, none⟩ = some (.slice (some ⟨wb, 0, none⟩) ((n + 63) / 64) ((n + 63) / 64))
  h1 : W.cell? ⟨b, 1, none⟩ = some (.int .i64 n)
  h2 : W.cell? ⟨b, 2, none⟩ = some (.bool true)
  ws : ∀ i, i < (n + 63) / 64 → W.cell? ⟨wb, i, none⟩ = some (.int .u64 (wdo f i : Nat)) ∧ W.frozen? ⟨wb, i, none⟩ = false
  ne : b ≠ wb
  lb : b < W.heap.size
  lw : wb < W.heap.size
  off : ∀ k, n ≤ k → f k = false
  le : n ≤ 1048576
section
variable {W W' : World} {b wb n B : Nat} {f g : Nat → Bool}
theorem MapAt.drew (h : MapAt W b wb n f) : MapAt W.drew b wb n f := ⟨h.h0, h.h1, h.h2, h.ws, h.ne, h.lb, h.lw, h.off, h.le⟩
theorem MapAt.drewN (h : MapAt W b wb n f) (k : Nat) : MapAt (W.drewN k) b wb n f := ⟨h.h0, h.h1, h.h2, h.ws, h.ne, h.lb, h.lw, h.off, h.le⟩
theorem MapAt.keep (h : MapAt W b wb n f) (hk : ∀ k, k = b ∨ k = wb → W'.heap[k]? = W.heap[k]?) (hs : W.heap.size ≤ W'.heap.size) : MapAt W' b wb n f :=
  ⟨(World.cell?_of_block (hk b (.inl rfl))).trans h.h0, (World.cell?_of_block (hk b (.inl rfl))).trans h.h1, (World.cell?_of_block (hk b (.inl rfl))).trans h.h2,
    fun i hi => ⟨(World.cell?_of_block (hk wb (.inr rfl))).trans (h.ws i hi).1, (World.frozen?_of_block (hk wb (.inr rfl))).trans (h.ws i hi).2⟩, h.ne, Nat.lt_of_lt_of_le h.lb hs, Nat.lt_of_lt_of_le h.lw hs, h.off, h.le⟩
theorem MapAt.below (h : MapAt W b wb n f) (hb : Below B W W') (h1 : b < B) (h2 : wb < B) : MapAt W' b wb n f :=
  h.keep (fun k hk => hb.block k (by rcases hk with rfl | rfl <;> omega)) hb.size
theorem MapAt.alloc (h : MapAt W b wb n f) (o : Obj) : MapAt (W.alloc o) b wb n f :=
  h.below ((Below.refl _ W).alloc (Nat.le_refl _) o) h.lb h.lw
theorem MapAt.setOther (h : MapAt W b wb n f) {p : Addr} (h1 : p.block ≠ b) (h2 : p.block ≠ wb) (u : Value) : MapAt (W.setCell p u) b wb n f :=
  h.keep (fun k hk => Below.heap_setCell _ _ _ _ (by rcases hk with rfl | rfl <;> omega)) (by simp [World.setCell])
theorem MapAt.congr (h : MapAt W b wb n f) (e : ∀ k, f k = g k) : MapAt W b wb n g := by
  have : f = g := funext e
  exact this ▸ h
/-- One word stored: the others stand as they stood. -/
theorem MapAt.store (h : MapAt W b wb n f) {i : Nat} (hi : i < (n + 63) / 64) (hne : ∀ j, j ≠ i → wdo g j = wdo f j) (hoff : ∀ k, n ≤ k → g k = false) :
    MapAt (W.setCell ⟨wb, i, none⟩ (.int .u64 (wdo g i : Nat))) b wb n g := by
  have hb : ∀ o, (W.setCell ⟨wb, i, none⟩ (.int .u64 (wdo g i : Nat))).cell? ⟨b, o, none⟩ = W.cell? ⟨b, o, none⟩ := fun o => World.cell?_setCell_other _ _ _ _ (fun e => h.ne (by simpa using (congrArg Addr.block e).symm))
  refine ⟨(hb 0).trans h.h0, (hb 1).trans h.h1, (hb 2).trans h.h2, fun j hj => ⟨?_, ?_⟩, h.ne, by simpa [World.setCell] using h.lb, by simpa [World.setCell] using h.lw, hoff, h.le⟩
  · by_cases e : j = i
    · subst e
      exact World.cell?_setCell_same' _ _ _ (by rw [(h.ws j hj).1]; rfl)
    · rw [World.cell?_setCell_other _ _ _ _ (fun e' => e (by simpa using (congrArg Addr.off e').symm)), (h.ws j hj).1, hne j e]
  · rw [World.frozen?_setCell]; exact (h.ws j hj).2
end

theorem new_no (n : Int) (w : World) (h : n < 0 ∨ 1048576 < n) : Calls Try.prog 49 #[.int .i64 n] w fun e w' => e = .returned (.pointer none) ∧ w = w' := by
  rcases h with h | h
  · go_enter Try.func49, Try.ntmps49
    go_wp2
    go_ret
    exact ⟨rfl, rfl⟩
  · have h' : ¬ n < 0 := by omega
    go_enter Try.func49, Try.ntmps49
    go_wp2
    go_ret
    exact ⟨rfl, rfl⟩

theorem info64 : (Try.prog.info? 26).map (fun i => (i.zero, i.size, i.bytes)) = some (some (.int .u64 0), 1, 8) := by kernel_rfl
theorem made_map (n : Nat) (w : World) (h : n ≤ 1048576) : MapAt ((w.alloc (.cells (madeCells #[.int .u64 0] ((n + 63) / 64)) 26)).alloc (.cells #[.slice (some ⟨w.heap.size, 0, none⟩) ((n + 63) / 64) ((n + 63) / 64), .int .i64 n, .bool true] 90)) (w.heap.size + 1) w.heap.size n (fun _ => false) := by
  obtain ⟨w1, hw1⟩ : ∃ w1, w1 = w.alloc (.cells (madeCells #[.int .u64 0] ((n + 63) / 64)) 26) := ⟨_, rfl⟩
  have hs : w1.heap.size = w.heap.size + 1 := by rw [hw1]; simp
  rw [← hw1]
  have hold : ∀ i, (w1.alloc (.cells #[.slice (some ⟨w.heap.size, 0, none⟩) ((n + 63) / 64) ((n + 63) / 64), .int .i64 n, .bool true] 90)).cell? ⟨w.heap.size, i, none⟩ = w1.cell? ⟨w.heap.size, i, none⟩ := fun i => World.cell?_alloc_lt _ _ _ (by show w.heap.size < _; omega)
  refine ⟨by rw [← hs]; simp, by rw [← hs]; simp, by rw [← hs]; simp, fun i hi => ⟨?_, ?_⟩, by omega, by simp [hs], by simp [hs]; omega, fun _ _ => rfl, h⟩
  · rw [hold, hw1, wdo_none]
    simp [madeCells, hi, Nat.mod_one]
  · rw [((Below.refl _ w1).alloc (Nat.le_refl _) _).frozen (p := ⟨w.heap.size, i, none⟩) (by show w.heap.size < _; omega), hw1]
    simp
theorem new_yes (n : Nat) (w : World) (h : n ≤ 1048576) : Calls Try.prog 49 #[.int .i64 n] w fun e w' => e = .returned (.pointer (some ⟨w.heap.size + 1, 0, none⟩)) ∧ MapAt w' (w.heap.size + 1) w.heap.size n (fun _ => false) ∧ Below w.heap.size w w' ∧ w.heap.size + 2 = w'.heap.size := by
  have hmk : ∀ w, (Instr.makeSlice 88 (.int .i64 (((n : Int) + 64 - 1) / 64)) (.int .i64 (((n : Int) + 64 - 1) / 64))).run Try.prog w = .ok (.slice (some ⟨w.heap.size, 0, none⟩) ((n + 63) / 64) ((n + 63) / 64)) (w.alloc (.cells (madeCells #[.int .u64 0] ((n + 63) / 64)) 26)) := fun w => by
    have e : ((n : Int) + 64 - 1) / 64 = (((n + 63) / 64 : Nat) : Int) := by omega
    rw [e]
    exact run_make_row' 88 26 (.int .u64 0) 8 Try.underlying88 info64 rfl .i64 .i64 ((n + 63) / 64) (by omega) (by omega) w
  have H := Lib.hid (made_map n w h)
  go_enter Try.func49, Try.ntmps49
  go_wp2
  go_ret
  refine ⟨rfl, H.out, ((Below.refl _ w).alloc (Nat.le_refl _) _).alloc (by simp) _, by simp⟩

theorem len_any (b wb n : Nat) (f : Nat → Bool) (w : World) (H : MapAt w b wb n f) : Calls Try.prog 66 #[.pointer (some ⟨b, 0, none⟩)] w fun e w' => e = .returned (.int .i64 n) ∧ w = w' := by
  have c1 := H.h1
  clear H
  go_enter Try.func66, Try.ntmps66
  go_wp2
  go_ret
  exact ⟨rfl, rfl⟩
theorem has_yes (b wb n : Nat) (f : Nat → Bool) (a : Nat) (w : World) (H : MapAt w b wb n f) (h : a < n) : Calls Try.prog 56 #[.pointer (some ⟨b, 0, none⟩), .int .i64 a] w fun e w' => e = .returned (.bool true) ∧ w = w' := by
  have hL := Lib.hid (len_any b wb n f w H)
  clear H
  go_enter Try.func56, Try.ntmps56
  go_wp2_with fail
  refine hL.out.mono ?_
  rintro e w' ⟨rfl, rfl⟩
  go_wp2
  go_ret
  exact ⟨rfl, rfl⟩
theorem has_no (b wb n : Nat) (f : Nat → Bool) (a : Int) (w : World) (H : MapAt w b wb n f) (h : a < 0 ∨ (n : Int) ≤ a) : Calls Try.prog 56 #[.pointer (some ⟨b, 0, none⟩), .int .i64 a] w fun e w' => e = .returned (.bool false) ∧ w = w' := by
  have hL := Lib.hid (len_any b wb n f w H)
  clear H
  by_cases h0 : a < 0
  · clear h
    go_enter Try.func56, Try.ntmps56
    go_wp2
    go_ret
    exact ⟨rfl, rfl⟩
  · have h1 : (n : Int) ≤ a := by omega
    clear h
    go_enter Try.func56, Try.ntmps56
    go_wp2_with fail
    refine hL.out.mono ?_
    rintro e w' ⟨rfl, rfl⟩
    go_wp2
    go_ret
    exact ⟨ret_bool (by simp; omega), rfl⟩
theorem tput_no (b wb n : Nat) (f : Nat → Bool) (a : Int) (v : Bool) (w : World) (H : MapAt w b wb n f) (h : a < 0 ∨ (n : Int) ≤ a) : Calls Try.prog 63 #[.pointer (some ⟨b, 0, none⟩), .int .i64 a, .bool v] w fun e w' => e = .returned (.bool false) ∧ w = w' := by
  have hL := Lib.hid (has_no b wb n f a w H h)
  clear H h
  go_enter Try.func63, Try.ntmps63
  go_wp2_with fail
  refine hL.out.mono ?_
  rintro e w' ⟨rfl, rfl⟩
  go_wp2
  go_ret
  exact ⟨rfl, rfl⟩
theorem or_wdo (f : Nat → Bool) (a : Nat) : bits BinOp.or IntKind.u64 (wdo f (a / 64) : Nat) (2 ^ (a % 64)) = (wdo (upd f a true) (a / 64) : Nat) := by
  have hp : 2 ^ (a % 64) ≤ 2 ^ 63 := Nat.pow_le_pow_right (by decide) (by omega)
  have hc : ((2 : Int) ^ (a % 64)) = ((2 ^ (a % 64) : Nat) : Int) := by simp
  rw [hc, bits_or_u64_nat _ _ (wdo_lt _ _) (by omega), wdo_set]
theorem andnot_wdo (f : Nat → Bool) (a : Nat) : bits BinOp.andNot IntKind.u64 (wdo f (a / 64) : Nat) (2 ^ (a % 64)) = (wdo (upd f a false) (a / 64) : Nat) := by
  have hc : ((2 : Int) ^ (a % 64)) = ((wd (fun j => j == a % 64) 64 : Nat) : Int) := by rw [← wd_one _ (by omega : a % 64 < 64)]; simp
  rw [hc]
  refine (andnot_wd _ _).trans (congrArg Nat.cast (wd_congr fun j hj => ?_))
  by_cases e : j = a % 64
  · have e2 : 64 * (a / 64) + j = a := by omega
    rw [e2, upd_same]; simp [e]
  · rw [upd_ne f false (by omega)]; simp [e]
theorem and_wdo (f : Nat → Bool) (a : Nat) : bits BinOp.and IntKind.u64 (wdo f (a / 64) : Nat) (2 ^ (a % 64)) = ((if f a then 2 ^ (a % 64) else 0 : Nat) : Int) := by
  have hp : 2 ^ (a % 64) ≤ 2 ^ 63 := Nat.pow_le_pow_right (by decide) (by omega)
  have hc : ((2 : Int) ^ (a % 64)) = ((2 ^ (a % 64) : Nat) : Int) := by simp
  rw [hc, bits_and_u64_nat _ _ (wdo_lt _ _) (by omega), wdo_get]
set_option maxRecDepth 100000 in
theorem put_set (b wb n : Nat) (f : Nat → Bool) (a : Nat) (w : World) (H : MapAt w b wb n f) (h : a < n) : Calls Try.prog 63 #[.pointer (some ⟨b, 0, none⟩), .int .i64 a, .bool true] w fun e w' => e = .returned (.bool true) ∧ MapAt w' b wb n (upd f a true) ∧ Off w.heap.size wb w w' := by
  have hL := Lib.hid (has_yes b wb n f a w H h)
  have hle := H.le
  have hH := Lib.hid H
  have c0 := H.h0
  have hi : a / 64 < (n + 63) / 64 := by omega
  obtain ⟨cw, fw⟩ := H.ws (a / 64) hi
  clear H
  obtain ⟨m, hm⟩ : ∃ m, m = (n + 63) / 64 := ⟨_, rfl⟩
  rw [← hm] at c0
  have i1 : (a : Int) / 64 < (m : Int) := by omega
  have i0 : 0 ≤ (a : Int) / 64 := by omega
  clear hi hm
  go_enter Try.func63, Try.ntmps63
  go_wp2_with fail
  refine hL.out.mono ?_
  rintro e w' ⟨rfl, rfl⟩
  clear hL
  have hB := fun w => bit_any a w (by omega)
  have hB' := Lib.hid hB
  clear hB
  go_wp2_with fail
  have hq : IntKind.i64.wrap ((a : Int) / 64) = (a : Int) / 64 := by rw [IntKind.wrap_i64]; omega
  have hq2 : ((a : Int) / 64).toNat = a / 64 := by omega
  have hor := or_wdo f a
  go_still_tail 12, (by kernel_rfl)
  still_call ((hB'.out _).mono fun e w' h => ⟨h.1, h.2.symm⟩)
  repeat still_step
  refine wpStill_nil ?_
  change wpList _ _ _ _ _ w.drew
  have cw2 : w.drew.cell? ⟨wb, a / 64, none⟩ = some (.int .u64 (wdo f (a / 64) : Nat)) := cw
  have fw2 : w.drew.frozen? ⟨wb, a / 64, none⟩ = false := fw
  have H2 := Lib.hid (And.intro (hH.out.drew) ((Off.refl w.heap.size wb w).drew))
  have hoff := Lib.hid hH.out.off
  generalize w.drew = w2 at cw2 fw2 H2 ⊢
  clear hH cw fw c0 hor hq hq2
  go_wp2
  go_ret
  refine ⟨rfl, H2.out.1.store (g := upd f a true) (by omega) (fun j hj => wdo_upd_ne f _ hj) (fun k hk => by rw [upd_ne _ _ (by omega)]; exact hoff.out k hk), H2.out.2.setCell (.inr rfl) _⟩
set_option maxRecDepth 100000 in
theorem put_clr (b wb n : Nat) (f : Nat → Bool) (a : Nat) (w : World) (H : MapAt w b wb n f) (h : a < n) : Calls Try.prog 63 #[.pointer (some ⟨b, 0, none⟩), .int .i64 a, .bool false] w fun e w' => e = .returned (.bool true) ∧ MapAt w' b wb n (upd f a false) ∧ Off w.heap.size wb w w' := by
  have hL := Lib.hid (has_yes b wb n f a w H h)
  have hle := H.le
  have hH := Lib.hid H
  have c0 := H.h0
  have hi : a / 64 < (n + 63) / 64 := by omega
  obtain ⟨cw, fw⟩ := H.ws (a / 64) hi
  clear H
  obtain ⟨m, hm⟩ : ∃ m, m = (n + 63) / 64 := ⟨_, rfl⟩
  rw [← hm] at c0
  have i1 : (a : Int) / 64 < (m : Int) := by omega
  have i0 : 0 ≤ (a : Int) / 64 := by omega
  clear hi hm
  go_enter Try.func63, Try.ntmps63
  go_wp2_with fail
  refine hL.out.mono ?_
  rintro e w' ⟨rfl, rfl⟩
  clear hL
  have hB := fun w => bit_any a w (by omega)
  have hB' := Lib.hid hB
  clear hB
  go_wp2_with fail
  have hq : IntKind.i64.wrap ((a : Int) / 64) = (a : Int) / 64 := by rw [IntKind.wrap_i64]; omega
  have hq2 : ((a : Int) / 64).toNat = a / 64 := by omega
  have hor := andnot_wdo f a
  go_still_tail 12, (by kernel_rfl)
  still_call ((hB'.out _).mono fun e w' h => ⟨h.1, h.2.symm⟩)
  repeat still_step
  refine wpStill_nil ?_
  change wpList _ _ _ _ _ w.drew
  have cw2 : w.drew.cell? ⟨wb, a / 64, none⟩ = some (.int .u64 (wdo f (a / 64) : Nat)) := cw
  have fw2 : w.drew.frozen? ⟨wb, a / 64, none⟩ = false := fw
  have H2 := Lib.hid (And.intro (hH.out.drew) ((Off.refl w.heap.size wb w).drew))
  have hoff := Lib.hid hH.out.off
  generalize w.drew = w2 at cw2 fw2 H2 ⊢
  clear hH cw fw c0 hor hq hq2
  go_wp2
  go_ret
  refine ⟨rfl, H2.out.1.store (g := upd f a false) (by omega) (fun j hj => wdo_upd_ne f _ hj) (fun k hk => by rw [upd_ne _ _ (by omega)]; exact hoff.out k hk), H2.out.2.setCell (.inr rfl) _⟩
theorem tput_any (b wb n : Nat) (f : Nat → Bool) (a : Nat) (v : Bool) (w : World) (H : MapAt w b wb n f) (h : a < n) : Calls Try.prog 63 #[.pointer (some ⟨b, 0, none⟩), .int .i64 a, .bool v] w fun e w' => e = .returned (.bool true) ∧ MapAt w' b wb n (upd f a v) ∧ Off w.heap.size wb w w' := by
  cases v
  · exact put_clr b wb n f a w H h
  · exact put_set b wb n f a w H h

theorem get_no (b wb n : Nat) (f : Nat → Bool) (a : Int) (w : World) (H : MapAt w b wb n f) (h : a < 0 ∨ (n : Int) ≤ a) : Calls Try.prog 46 #[.pointer (some ⟨b, 0, none⟩), .int .i64 a] w fun e w' => e = .returned (.bool false) ∧ ∃ k, w.drewN k = w' := by
  have hL := Lib.hid (fun k => has_no b wb n f a (w.drewN k) (H.drewN k) h)
  clear H h
  go_enter Try.func46, Try.ntmps46
  go_wp2_with fail
  go_quiet ((go_at_call 56; exact Calls.quiet_of_same ((hL.out _).mono fun _ _ h => ⟨h.1, h.2.symm⟩)))
  go_wp2
  go_ret
  exact ⟨rfl, _, rfl⟩
theorem get_yes (b wb n : Nat) (f : Nat → Bool) (a : Nat) (w : World) (H : MapAt w b wb n f) (h : a < n) : Calls Try.prog 46 #[.pointer (some ⟨b, 0, none⟩), .int .i64 a] w fun e w' => e = .returned (.bool (f a)) ∧ ∃ k, w.drewN k = w' := by
  have hL := Lib.hid (fun k => has_yes b wb n f a (w.drewN k) (H.drewN k) h)
  have hle := H.le
  have c0 := H.h0
  have hi : a / 64 < (n + 63) / 64 := by omega
  have cw := (H.ws (a / 64) hi).1
  clear H
  obtain ⟨m, hm⟩ : ∃ m, m = (n + 63) / 64 := ⟨_, rfl⟩
  rw [← hm] at c0
  have i1 : (a : Int) / 64 < (m : Int) := by omega
  have i0 : 0 ≤ (a : Int) / 64 := by omega
  have hB := fun w => bit_any a w (by omega)
  have hB' := Lib.hid hB
  clear hi hm hB
  have hq : IntKind.i64.wrap ((a : Int) / 64) = (a : Int) / 64 := by rw [IntKind.wrap_i64]; omega
  have hq2 : ((a : Int) / 64).toNat = a / 64 := by omega
  have hor := and_wdo f a
  cases hv : f a
  all_goals
    rw [hv] at hor
    simp only [if_true, Bool.false_eq_true, if_false] at hor
    clear hv
    go_enter Try.func46, Try.ntmps46
    go_wp2_with fail
    go_quiet ((first | (go_at_call 56; exact Calls.quiet_of_same ((hL.out _).mono fun _ _ h => ⟨h.1, h.2.symm⟩)) | (go_at_call 57; exact Calls.quiet_of_same ((hB'.out _).mono fun _ _ h => ⟨h.1, h.2.symm⟩))))
    go_wp2
    go_ret
    first
      | exact ⟨rfl, _, rfl⟩
      | exact ⟨ret_bool (by rw [bne_iff_ne]; have := Nat.two_pow_pos (a % 64); have hc : ((2 : Int) ^ (a % 64)) = ((2 ^ (a % 64) : Nat) : Int) := (by simp); rw [hc]; omega), _, rfl⟩
end Go.Proofs.Ytmfipabbdhfmcaa
