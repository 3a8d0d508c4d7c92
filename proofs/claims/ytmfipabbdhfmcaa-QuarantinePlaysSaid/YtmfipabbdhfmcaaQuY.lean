/- A yard in memory; its numbers. No statement is proved here. -/
import Derived.Test.YtmfipabbdhfmcaaQuC
import Derived.Test.YtmfipabbdhfmcaaPtE
import Derived.Deep.RegionHeld
namespace Go.Proofs.Ytmfipabbdhfmcaa.Qu
set_option maxRecDepth 100000
open Go.RowKit Go.Shelf
set_option linter.unusedVariables false
/-- At block y stands a yard of n granules: its paint at p, its rows; what waits, what is of the batch; its numbers. -/
structure YAt (w : World) (y p b wb n : Nat) (Wt Bt : List Rg) (e : Nat) (sw : Bool) (wv bv : Value) : Prop where
  c0 : w.cell? ⟨y, 0, none⟩ = some (.int .u64 (e : Int))
  c1 : w.cell? ⟨y, 1, none⟩ = some (.bool sw)
  c2 : w.cell? ⟨y, 2, none⟩ = some (.pointer (some ⟨p, 0, none⟩))
  c3 : w.cell? ⟨y, 3, none⟩ = some wv
  c4 : w.cell? ⟨y, 4, none⟩ = some bv
  fz : ∀ i, w.frozen? ⟨y, i, none⟩ = false
  pt : PtAt w p b wb n (cov (Wt ++ Bt))
  ow : w.ownsRow 0 33 2 wv Wt.length (Wt.flatMap rgC)
  ob : w.ownsRow 0 33 2 bv Bt.length (Bt.flatMap rgC)
  good : Good n (Wt ++ Bt)
  aw : Asc Wt
  ab : Asc Bt
  nw : Wt = [] → wv = .slice none 0 0
  nb : Bt = [] → bv = .slice none 0 0
  hn : n ≤ 16384
  he : e ≤ 1000000
  hs : sw = true → 1 ≤ e
  hb : sw = false → Bt = []
  yp : y ≠ p
  yb : y ≠ b
  yw : y ≠ wb
  sep : ∀ k, wv.ownBlock = some k ∨ bv.ownBlock = some k → k ≠ y ∧ k ≠ p ∧ k ≠ b ∧ k ≠ wb
  dif : ∀ k, wv.ownBlock = some k → bv.ownBlock ≠ some k
/-- The yard's blocks. -/
def yK (y p b wb : Nat) (wv bv : Value) (k : Nat) : Prop := k = y ∨ k = p ∨ k = b ∨ k = wb ∨ wv.ownBlock = some k ∨ bv.ownBlock = some k
section
variable {w w' W : World} {y p b wb n e base : Nat} {Wt Bt L : List Rg} {sw : Bool} {wv bv v : Value} {r : Rg} {D : Nat → Prop}
theorem YAt.ly (H : YAt w y p b wb n Wt Bt e sw wv bv) : y < w.heap.size := lt_of_cell' (p := ⟨y, 0, none⟩) H.c0
theorem YAt.lt (H : YAt w y p b wb n Wt Bt e sw wv bv) : ∀ k, yK y p b wb wv bv k → k < w.heap.size := by
  rintro k (rfl | rfl | rfl | rfl | h | h)
  · exact H.ly
  · exact H.pt.lp
  · exact H.pt.m.lb
  · exact H.pt.m.lw
  · exact (H.ow.lt k h).2
  · exact (H.ob.lt k h).2
theorem YAt.len (H : YAt w y p b wb n Wt Bt e sw wv bv) : Wt.length + Bt.length ≤ 16384 := by
  have := H.good.length
  rw [List.length_append] at this
  have := H.hn
  omega
theorem YAt.keep (H : YAt w y p b wb n Wt Bt e sw wv bv) (k : ∀ j, yK y p b wb wv bv j → w'.heap[j]? = w.heap[j]?) (hs : w.heap.size ≤ w'.heap.size) : YAt w' y p b wb n Wt Bt e sw wv bv := by
  have hy := k y (.inl rfl)
  refine ⟨(World.cell?_of_block (a := ⟨y, 0, none⟩) hy).trans H.c0, (World.cell?_of_block (a := ⟨y, 1, none⟩) hy).trans H.c1, (World.cell?_of_block (a := ⟨y, 2, none⟩) hy).trans H.c2, (World.cell?_of_block (a := ⟨y, 3, none⟩) hy).trans H.c3, (World.cell?_of_block (a := ⟨y, 4, none⟩) hy).trans H.c4,
    fun i => (World.frozen?_of_block (a := ⟨y, i, none⟩) hy).trans (H.fz i), ?_, own_keep H.ow fun g hg => k g (.inr (.inr (.inr (.inr (.inl hg))))), own_keep H.ob fun g hg => k g (.inr (.inr (.inr (.inr (.inr hg))))),
    H.good, H.aw, H.ab, H.nw, H.nb, H.hn, H.he, H.hs, H.hb, H.yp, H.yb, H.yw, H.sep, H.dif⟩
  exact ⟨(World.cell?_of_block (a := ⟨p, 0, none⟩) (k p (.inr (.inl rfl)))).trans H.pt.c0, H.pt.m.keep (fun j hj => by
    rcases hj with rfl | rfl
    · exact k j (.inr (.inr (.inl rfl)))
    · exact k j (.inr (.inr (.inr (.inl rfl))))) hs, H.pt.ne, Nat.lt_of_lt_of_le H.pt.lp hs⟩
theorem YAt.grow (H : YAt w y p b wb n Wt Bt e sw wv bv) (k : Below w.heap.size w w') : YAt w' y p b wb n Wt Bt e sw wv bv :=
  H.keep (fun j hj => k.block j (H.lt j hj)) k.size
/-- What is protected stands. -/
structure Kp (D : Nat → Prop) (w w' : World) : Prop where
  os : w'.os = w.os
  tape : w'.tape = w.tape
  output : w'.output = w.output
  size : w.heap.size ≤ w'.heap.size
  block : ∀ k, D k → w'.heap[k]? = w.heap[k]?
theorem Kp.refl (D : Nat → Prop) (w : World) : Kp D w w := ⟨rfl, rfl, rfl, Nat.le_refl _, fun _ _ => rfl⟩
theorem Kp.trans {w'' : World} (h : Kp D w w') (k : Kp D w' w'') : Kp D w w'' := ⟨k.os.trans h.os, k.tape.trans h.tape, k.output.trans h.output, Nat.le_trans h.size k.size, fun j hj => (k.block j hj).trans (h.block j hj)⟩
theorem Kp.of_below (h : Below w.heap.size w w') (hD : ∀ k, D k → k < w.heap.size) : Kp D w w' := ⟨h.os, h.tape, h.output, h.size, fun k hk => h.block k (hD k hk)⟩
theorem Kp.setCell (h : Kp D W w) {a : Addr} (ha : ¬ D a.block) (u : Value) : Kp D W (w.setCell a u) :=
  ⟨h.os, h.tape, h.output, by simpa [World.setCell] using h.size, fun k hk => (Below.heap_setCell _ _ _ _ (fun e => ha (e ▸ hk))).trans (h.block k hk)⟩
theorem Kp.of_off (h : Off w.heap.size wb w w') (hD : ∀ k, D k → k < w.heap.size) (hw : ¬ D wb) : Kp D w w' := ⟨h.os, h.tape, h.output, h.size, fun k hk => h.block k (hD k hk) (fun e => hw (e ▸ hk))⟩
theorem Kp.cell (h : Kp D w w') {a : Addr} (ha : D a.block) : w'.cell? a = w.cell? a := World.cell?_of_block (h.block _ ha)
theorem Kp.frozen (h : Kp D w w') {a : Addr} (ha : D a.block) : w'.frozen? a = w.frozen? a := World.frozen?_of_block (h.block _ ha)
/-- A yard, and what is not its own. -/
def YD (D : Nat → Prop) (y n : Nat) (Wt Bt : List Rg) (e : Nat) (sw : Bool) (w : World) : Prop :=
  ∃ p b wb wv bv, YAt w y p b wb n Wt Bt e sw wv bv ∧ (∀ k, yK y p b wb wv bv k → ¬ D k) ∧ ∀ k, D k → k < w.heap.size
theorem YD.grow (H : YD D y n Wt Bt e sw w) (k : Below w.heap.size w w') : YD D y n Wt Bt e sw w' := by
  obtain ⟨p, b, wb, wv, bv, H, h1, h2⟩ := H
  exact ⟨p, b, wb, wv, bv, H.grow k, h1, fun j hj => Nat.lt_of_lt_of_le (h2 j hj) k.size⟩
/-- What has come up since is protected, too. -/
theorem YD.more (H : YD D y n Wt Bt e sw w) (k : Below w.heap.size w w') : YD (fun j => D j ∨ (w.heap.size ≤ j ∧ j < w'.heap.size)) y n Wt Bt e sw w' := by
  obtain ⟨p, b, wb, wv, bv, H, h1, h2⟩ := H
  refine ⟨p, b, wb, wv, bv, H.grow k, fun j hj hd => ?_, fun j hj => ?_⟩
  · rcases hd with hd | hd
    · exact h1 j hj hd
    · have := H.lt j hj; omega
  · rcases hj with hj | hj
    · exact Nat.lt_of_lt_of_le (h2 j hj) k.size
    · exact hj.2
theorem YD.sub {D' : Nat → Prop} (H : YD D y n Wt Bt e sw w) (h : ∀ k, D' k → D k) : YD D' y n Wt Bt e sw w := by
  obtain ⟨p, b, wb, wv, bv, H, h1, h2⟩ := H
  exact ⟨p, b, wb, wv, bv, H, fun k hk hd => h1 k hk (h k hd), fun k hk => h2 k (h k hk)⟩
/-- A protected block is written to. -/
theorem YD.other (H : YD D y n Wt Bt e sw w) (h : ∀ k, ¬ D k → k < w.heap.size → w'.heap[k]? = w.heap[k]?) (hs : w.heap.size ≤ w'.heap.size) : YD D y n Wt Bt e sw w' := by
  obtain ⟨p, b, wb, wv, bv, H, h1, h2⟩ := H
  exact ⟨p, b, wb, wv, bv, H.keep (fun j hj => h j (h1 j hj) (H.lt j hj)) hs, h1, fun j hj => Nat.lt_of_lt_of_le (h2 j hj) hs⟩
theorem YD.setCell (H : YD D y n Wt Bt e sw w) {a : Addr} (ha : D a.block) (u : Value) : YD D y n Wt Bt e sw (w.setCell a u) :=
  H.other (fun k hk _ => Below.heap_setCell _ _ _ _ (fun e => hk (e ▸ ha))) (by simp [World.setCell])
theorem YD.inn (H : YD D y n Wt Bt e sw w) : ∀ k, D k → k < w.heap.size := by obtain ⟨_, _, _, _, _, _, _, h⟩ := H; exact h
theorem YD.good (H : YD D y n Wt Bt e sw w) : Good n (Wt ++ Bt) ∧ Asc Wt ∧ Asc Bt ∧ (sw = false → Bt = []) ∧ n ≤ 16384 ∧ (sw = true → 1 ≤ e) := by obtain ⟨_, _, _, _, _, H, _⟩ := H; exact ⟨H.good, H.aw, H.ab, H.hb, H.hn, H.hs⟩
/-! ### What is asked first -/
theorem ymade (H : w.cell? ⟨y, 2, none⟩ = some (.pointer (some ⟨p, 0, none⟩))) : Calls Try.prog 34 #[.pointer (some ⟨y, 0, none⟩)] w fun e w' => e = .returned (.bool true) ∧ Below w.heap.size w w' := by
  go_enter Try.func34, Try.ntmps34
  go_wp2
  go_ret
  exact ⟨rfl, Below.refl _ _⟩
theorem ymade_no (H : w.cell? ⟨y, 2, none⟩ = some (.pointer none)) : Calls Try.prog 34 #[.pointer (some ⟨y, 0, none⟩)] w fun e w' => e = .returned (.bool false) ∧ Below w.heap.size w w' := by
  go_enter Try.func34, Try.ntmps34
  go_wp2
  go_ret
  exact ⟨rfl, Below.refl _ _⟩
theorem ymade_nil (w : World) : Calls Try.prog 34 #[.pointer none] w fun e w' => e = .returned (.bool false) ∧ Below w.heap.size w w' := by
  go_enter Try.func34, Try.ntmps34
  go_wp2
  go_ret
  exact ⟨rfl, Below.refl _ _⟩
/-! ### Its numbers -/
theorem nbegin_no (c1 : w.cell? ⟨y, 1, none⟩ = some (.bool true)) : Calls Try.prog 38 #[.pointer (some ⟨y, 0, none⟩)] w fun e w' => e = .returned (.bool false) ∧ w' = w := by
  go_enter Try.func38, Try.ntmps38
  go_wp2
  go_ret
  exact ⟨rfl, rfl⟩
theorem nbegin_yes (c0 : w.cell? ⟨y, 0, none⟩ = some (.int .u64 (e : Int))) (c1 : w.cell? ⟨y, 1, none⟩ = some (.bool false)) (fz : ∀ i, w.frozen? ⟨y, i, none⟩ = false) (he : e ≤ 1000000) : Calls Try.prog 38 #[.pointer (some ⟨y, 0, none⟩)] w fun e1 w' => e1 = .returned (.bool true) ∧ w' = (w.setCell ⟨y, 0, none⟩ (.int .u64 ((e + 1 : Nat) : Int))).setCell ⟨y, 1, none⟩ (.bool true) := by
  have f0 := fz 0
  have f1 := fz 1
  have e1 : IntKind.u64.wrap ((e : Int) + 1) = ((e + 1 : Nat) : Int) := by rw [IntKind.wrap_u64]; omega
  go_enter Try.func38, Try.ntmps38
  go_wp2
  go_ret
  exact ⟨rfl, rfl⟩
theorem nend_any (c1 : w.cell? ⟨y, 1, none⟩ = some (.bool sw)) (fz : ∀ i, w.frozen? ⟨y, i, none⟩ = false) : Calls Try.prog 39 #[.pointer (some ⟨y, 0, none⟩)] w fun e1 w' => e1 = .returned (.bool sw) ∧ w' = w.setCell ⟨y, 1, none⟩ (.bool false) := by
  have f1 := fz 1
  go_enter Try.func39, Try.ntmps39
  go_wp2
  go_ret
  exact ⟨rfl, rfl⟩
/-- How many sweeps have ended. -/
def endN (e : Nat) (sw : Bool) : Nat := if sw then e - 1 else e
theorem nended_any (c0 : w.cell? ⟨y, 0, none⟩ = some (.int .u64 (e : Int))) (c1 : w.cell? ⟨y, 1, none⟩ = some (.bool sw)) (he : e ≤ 1000000) (hs : sw = true → 1 ≤ e) : Calls Try.prog 48 #[.pointer (some ⟨y, 0, none⟩)] w fun e1 w' => e1 = .returned (.int .u64 ((endN e sw : Nat) : Int)) ∧ w' = w := by
  cases sw
  · go_enter Try.func48, Try.ntmps48
    go_wp2
    go_ret
    exact ⟨rfl, rfl⟩
  · have h1 := hs rfl
    have e1 : IntKind.u64.wrap ((e : Int) - 1) = ((e - 1 : Nat) : Int) := by rw [IntKind.wrap_u64]; omega
    clear hs
    go_enter Try.func48, Try.ntmps48
    go_wp2
    go_ret
    exact ⟨rfl, rfl⟩
end
end Go.Proofs.Ytmfipabbdhfmcaa.Qu
