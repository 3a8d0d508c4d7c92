/- Contracts of layer arena: New, Copy. No statement is proved here. -/
import Derived.Test.YtdidnipmbedbjaaArF
import Derived.Deep.RegionWith
import Derived.Laws.AppendOwn
namespace Go.Proofs.Ytdidnipmbedbjaa
open Go.RowKit
set_option linter.unusedVariables false

theorem anew_no (p : Int) (w : World) (h : p < 16) : Calls Try.prog 17 #[.int .i64 p] w fun e w' => e = .returned (.tuple #[.pointer none, .int .i64 2]) ∧ w = w' := by
  go_enter Try.func17, Try.ntmps17
  go_wp2
  go_ret2
  exact ⟨rfl, rfl⟩
theorem anew_long (p : Int) (w : World) (h : 1024 < p) : Calls Try.prog 17 #[.int .i64 p] w fun e w' => e = .returned (.tuple #[.pointer none, .int .i64 3]) ∧ w = w' := by
  have h' : ¬ p < 16 := by omega
  go_enter Try.func17, Try.ntmps17
  go_wp2
  go_ret2
  exact ⟨rfl, rfl⟩
theorem below_undrew {B : Nat} {w X : World} (h : Below B w.drew X) : Below B w X := ⟨h.os, h.tape, h.output, h.size, h.block⟩
theorem made_own (n : Nat) (w : World) (h : n ≤ 262144) : (w.alloc (.cells (madeCells #[.int .u8 0] n) 5)).ownsRow 0 5 1 (.slice (some ⟨w.heap.size, 0, none⟩) n n) n ((List.replicate n (0 : UInt8)).map vb) := by
  refine ⟨by simp, .inr ⟨w.heap.size, n, madeCells #[.int .u8 0] n, rfl, Nat.zero_le _, heap_alloc_new w _, Nat.le_refl _, by unfold maxLen; omega, by simp [madeCells], ?_⟩⟩
  have e : madeCells #[Value.int .u8 0] n = (List.replicate n (Value.int .u8 0)).toArray := by
    apply Array.ext
    · simp [madeCells]
    · intro i h1 h2
      simp [madeCells, Nat.mod_one]
  rw [e]
  simp [vb]
/-- The arena's own block, laid last. -/
theorem ArAt.made {V : World} {mb wb bb c n g : Nat} {f : Nat → Bool} {l : List UInt8} (m : MapAt V mb wb g f) (o : V.ownsRow 0 5 1 (.slice (some ⟨bb, 0, none⟩) n c) n (l.map vb)) (hn : n = 16 * g) (lo : 256 ≤ g) (hi : g ≤ 16384) (n3 : mb ≠ bb) (n4 : wb ≠ bb) (T : TypeId) :
    ArAt (V.alloc (.cells #[.pointer (some ⟨mb, 0, none⟩), .slice (some ⟨bb, 0, none⟩) n c] T)) V.heap.size mb wb bb c n g f l := by
  have hb := (o.lt bb rfl).2
  have hw := m.lw
  exact ⟨by simp, by simp, m.alloc _, ownsRow_block o (Below.heap_alloc _ _ _ hb), hn, lo, hi, by simp, by omega, by omega, n3, n4⟩
/-- An arena has been made: its blocks are new. -/
def Made (w : World) (g : Nat) (f : Nat → Bool) (l : List UInt8) (a : Nat) (w' : World) : Prop :=
  ∃ mb wb bb c, ArAt w' a mb wb bb c (16 * g) g f l ∧ Below w.heap.size w w' ∧ w.heap.size ≤ a ∧ w.heap.size ≤ mb ∧ w.heap.size ≤ wb ∧ w.heap.size ≤ bb
set_option maxRecDepth 100000 in
set_option maxHeartbeats 1000000 in
theorem anew_yes (p : Nat) (w : World) (h1 : 16 ≤ p) (h2 : p ≤ 1024) : Calls Try.prog 17 #[.int .i64 p] w fun e w' => ∃ a, e = .returned (.tuple #[.pointer (some ⟨a, 0, none⟩), .int .i64 0]) ∧ Made w (16 * p) (fun _ => false) (List.replicate (256 * p) 0) a w' := by
  have hN : ∀ w, Calls Try.prog 44 #[.int .i64 ((p : Int) * 16)] w fun e w' => e = .returned (.pointer (some ⟨w.heap.size + 1, 0, none⟩)) ∧ MapAt w' (w.heap.size + 1) w.heap.size (16 * p) (fun _ => false) ∧ Below w.heap.size w w' ∧ w.heap.size + 2 = w'.heap.size := fun w => by
    have := new_yes (16 * p) w (by omega)
    rw [show ((16 * p : Nat) : Int) = (p : Int) * 16 from by omega] at this
    exact this
  have hmk : ∀ w, (Instr.makeSlice 28 (.int .i64 ((p : Int) * 256)) (.int .i64 ((p : Int) * 256))).run Try.prog w = .ok (.slice (some ⟨w.heap.size, 0, none⟩) (256 * p) (256 * p)) (w.alloc (.cells (madeCells #[.int .u8 0] (256 * p)) 5)) := fun w => by
    have e : (p : Int) * 256 = ((256 * p : Nat) : Int) := by omega
    rw [e]
    exact run_make_row' 28 5 (.int .u8 0) 1 Try.underlying28 info_u8 rfl .i64 .i64 (256 * p) (by omega) (by omega) w
  have i1 : ¬ (p : Int) < 16 := by omega
  have i2 : ¬ (p : Int) > 1024 := by omega
  have i3 : IntKind.i64.wrap ((p : Int) * 16) = (p : Int) * 16 := by rw [IntKind.wrap_i64]; omega
  have i4 : IntKind.i64.wrap ((p : Int) * 256) = (p : Int) * 256 := by rw [IntKind.wrap_i64]; omega
  have hfin : ∀ V mb wb bb T, MapAt V mb wb (16 * p) (fun _ => false) → V.ownsRow 0 5 1 (.slice (some ⟨bb, 0, none⟩) (256 * p) (256 * p)) (256 * p) ((List.replicate (256 * p) (0 : UInt8)).map vb) → mb ≠ bb → wb ≠ bb → Below w.heap.size w V → w.heap.size ≤ mb → w.heap.size ≤ wb → w.heap.size ≤ bb →
      Made w (16 * p) (fun _ => false) (List.replicate (256 * p) 0) V.heap.size (V.alloc (.cells #[.pointer (some ⟨mb, 0, none⟩), .slice (some ⟨bb, 0, none⟩) (256 * p) (256 * p)] T)) := fun V mb wb bb T m o n3 n4 hb x1 x2 x3 => by
    have := ArAt.made m o (by omega) (by omega) (by omega) n3 n4 T
    refine ⟨mb, wb, bb, 256 * p, ?_, hb.alloc hb.size _, hb.size, x1, x2, x3⟩
    rw [show 16 * (16 * p) = 256 * p from by omega]
    exact this
  have hp := Lib.hid (And.intro h1 h2)
  replace hN := Lib.hid hN
  replace hfin := Lib.hid hfin
  clear h1 h2
  go_enter Try.func17, Try.ntmps17
  go_wp2_with fail
  go_region_with (go_at_call 44; refine (hN.out _).mono ?_; rintro e X ⟨rfl, x1, x2, x3⟩; have hX := Lib.hid (And.intro x1 (And.intro x2 x3)); clear x1 x2 x3)
  · have hE := Lib.hid (hfin.out (X.alloc (.cells (madeCells #[.int .u8 0] (256 * p)) 5)) (w.heap.size + 1) w.heap.size X.heap.size 83 (hX.out.1.alloc _) (made_own _ _ (by have := hp.out; omega)) (by have := hX.out.2.2; simp at this; omega) (by have := hX.out.2.2; simp at this; omega)
      ((below_undrew (B := w.heap.size) hX.out.2.1).alloc hX.out.2.1.size _) (by omega) (Nat.le_refl _) hX.out.2.1.size)
    clear hX
    go_wp2
    go_ret2
    exact ⟨_, rfl, by have := hE.out; rw [World.size_alloc] at this; exact this⟩
  · have hE := Lib.hid (hfin.out X (w.heap.size + 1 + 1) (w.heap.size + 1) w.heap.size 83 (by have := hX.out.1; simp at this; exact this) (ownsRow_block (made_own (256 * p) w (by have := hp.out; omega)) ((below_undrew (w := w.alloc (.cells (madeCells #[.int .u8 0] (256 * p)) 5)) hX.out.2.1).block _ (by show w.heap.size < (w.alloc (.cells (madeCells #[.int .u8 0] (256 * p)) 5)).heap.size; simp))) (by omega) (by omega)
      (((Below.refl w.heap.size w).alloc (Nat.le_refl _) _).trans ((below_undrew (w := w.alloc (.cells (madeCells #[.int .u8 0] (256 * p)) 5)) hX.out.2.1).mono (by show w.heap.size ≤ (w.alloc (.cells (madeCells #[.int .u8 0] (256 * p)) 5)).heap.size; simp))) (by omega) (by omega) (Nat.le_refl _))
    clear hX
    go_wp2
    go_ret2
    exact ⟨_, rfl, hE.out⟩
end Go.Proofs.Ytdidnipmbedbjaa
