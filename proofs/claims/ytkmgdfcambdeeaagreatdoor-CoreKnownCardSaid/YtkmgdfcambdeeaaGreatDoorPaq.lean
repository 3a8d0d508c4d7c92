/- Contracts of layer arena: New, Copy. No statement is proved here.; Contracts of layer arena: Copy. No statement is proved here.; Contracts of layer arena: Tagged. No statement is proved here.; The document's arena in memory; its contracts: width, there, Read. No statement is proved here.; Contracts of the document's arena: Load. No statement is proved here.; Contracts of the document's arena: Write. No statement is proved here.; Contracts of the document's arena: Store. No statement is proved here.; What the laws of layer arena ask first: made, works. No statement is proved here. -/
import Derived.Deep.RegionWith
import Derived.Laws.AppendOwn
import Derived.Deep.LoopGhost
import Derived.StillTailTactics
import Derived.Laws.CopyOwn
import Derived.Test.YtkmgdfcambdeeaaGreatDoorPaa
import Derived.Test.YtkmgdfcambdeeaaGreatDoorPap
import Derived.Test.YtkmgdfcambdeeaaGreatDoorPai
namespace Go.Proofs.YtkmgdfcambdeeaaGreatDoor
open Go.RowKit
set_option linter.unusedVariables false

theorem below_undrew {B : Nat} {w X : World} (h : Below B w.drew X) : Below B w X := ⟨h.os, h.tape, h.output, h.size, h.block⟩
theorem made_own (n : Nat) (w : World) (h : n ≤ 262144) : (w.alloc (.cells (madeCells #[.int .u8 0] n) 5)).ownsRow 0 5 1 (.slice (some ⟨w.heap.size, 0, none⟩) n n) n ((List.replicate n (0 : UInt8)).map vb) := by
  refine ⟨by simp, .inr ⟨w.heap.size, n, madeCells #[.int .u8 0] n, rfl, Nat.zero_le _, heap_alloc_new w _, Nat.le_refl _, by unfold maxLen; omega, by simp [madeCells], ?_⟩⟩
  have e : madeCells #[Value.int .u8 0] n = (List.replicate n (Value.int .u8 0)).toArray := by
    apply Array.ext
    · simp [madeCells]
    · intro i h1 h2
      simp [madeCells, Nat.mod_one]
  rw [e]
  simp [vb]
/-- The arena's own block, laid last. -/
theorem ArAt.made {V : World} {mb wb bb c n g : Nat} {f : Nat → Bool} {l : List UInt8} (m : MapAt V mb wb g f) (o : V.ownsRow 0 5 1 (.slice (some ⟨bb, 0, none⟩) n c) n (l.map vb)) (hn : n = 16 * g) (lo : 256 ≤ g) (hi : g ≤ 16384) (n3 : mb ≠ bb) (n4 : wb ≠ bb) (T : TypeId) :
    ArAt (V.alloc (.cells #[.pointer (some ⟨mb, 0, none⟩), .slice (some ⟨bb, 0, none⟩) n c] T)) V.heap.size mb wb bb c n g f l := by
  have hb := (o.lt bb rfl).2
  have hw := m.lw
  exact ⟨by simp, by simp, m.alloc _, ownsRow_block o (Below.heap_alloc _ _ _ hb), hn, lo, hi, by simp, by omega, by omega, n3, n4⟩
/-- An arena has been made: its blocks are new. -/
def Made (w : World) (g : Nat) (f : Nat → Bool) (l : List UInt8) (a : Nat) (w' : World) : Prop :=
  ∃ mb wb bb c, ArAt w' a mb wb bb c (16 * g) g f l ∧ Below w.heap.size w w' ∧ w.heap.size ≤ a ∧ w.heap.size ≤ mb ∧ w.heap.size ≤ wb ∧ w.heap.size ≤ bb
set_option maxRecDepth 100000 in
set_option maxHeartbeats 1000000 in
theorem anew_yes (p : Nat) (w : World) (h1 : 16 ≤ p) (h2 : p ≤ 1024) : Calls Tryz.prog 26 #[.int .i64 p] w fun e w' => ∃ a, e = .returned (.tuple #[.pointer (some ⟨a, 0, none⟩), .int .i64 0]) ∧ Made w (16 * p) (fun _ => false) (List.replicate (256 * p) 0) a w' := by
  have hN : ∀ w, Calls Tryz.prog 67 #[.int .i64 ((p : Int) * 16)] w fun e w' => e = .returned (.pointer (some ⟨w.heap.size + 1, 0, none⟩)) ∧ MapAt w' (w.heap.size + 1) w.heap.size (16 * p) (fun _ => false) ∧ Below w.heap.size w w' ∧ w.heap.size + 2 = w'.heap.size := fun w => by
    have := new_yes (16 * p) w (by omega)
    rw [show ((16 * p : Nat) : Int) = (p : Int) * 16 from by omega] at this
    exact this
  have hmk : ∀ w, (Instr.makeSlice 97 (.int .i64 ((p : Int) * 256)) (.int .i64 ((p : Int) * 256))).run Tryz.prog w = .ok (.slice (some ⟨w.heap.size, 0, none⟩) (256 * p) (256 * p)) (w.alloc (.cells (madeCells #[.int .u8 0] (256 * p)) 5)) := fun w => by
    have e : (p : Int) * 256 = ((256 * p : Nat) : Int) := by omega
    rw [e]
    exact run_make_row' 97 5 (.int .u8 0) 1 Tryz.underlying97 info_u8 rfl .i64 .i64 (256 * p) (by omega) (by omega) w
  have i1 : ¬ (p : Int) < 16 := by omega
  have i2 : ¬ (p : Int) > 1024 := by omega
  have i3 : IntKind.i64.wrap ((p : Int) * 16) = (p : Int) * 16 := by rw [IntKind.wrap_i64]; omega
  have i4 : IntKind.i64.wrap ((p : Int) * 256) = (p : Int) * 256 := by rw [IntKind.wrap_i64]; omega
  have hfin : ∀ V mb wb bb T, MapAt V mb wb (16 * p) (fun _ => false) → V.ownsRow 0 5 1 (.slice (some ⟨bb, 0, none⟩) (256 * p) (256 * p)) (256 * p) ((List.replicate (256 * p) (0 : UInt8)).map vb) → mb ≠ bb → wb ≠ bb → Below w.heap.size w V → w.heap.size ≤ mb → w.heap.size ≤ wb → w.heap.size ≤ bb →
      Made w (16 * p) (fun _ => false) (List.replicate (256 * p) 0) V.heap.size (V.alloc (.cells #[.pointer (some ⟨mb, 0, none⟩), .slice (some ⟨bb, 0, none⟩) (256 * p) (256 * p)] T)) := fun V mb wb bb T m o n3 n4 hb x1 x2 x3 => by
    have := ArAt.made m o (by omega) (by omega) (by omega) n3 n4 T
    refine ⟨mb, wb, bb, 256 * p, ?_, hb.alloc hb.size _, hb.size, x1, x2, x3⟩
    rw [show 16 * (16 * p) = 256 * p from by omega]
    exact this
  have hp := Lib.hid (And.intro h1 h2)
  replace hN := Lib.hid hN
  replace hfin := Lib.hid hfin
  clear h1 h2
  go_enter Tryz.func26, Tryz.ntmps26
  go_wp2_with fail
  go_region_with (go_at_call 67; refine (hN.out _).mono ?_; rintro e X ⟨rfl, x1, x2, x3⟩; have hX := Lib.hid (And.intro x1 (And.intro x2 x3)); clear x1 x2 x3)
  · have hE := Lib.hid (hfin.out (X.alloc (.cells (madeCells #[.int .u8 0] (256 * p)) 5)) (w.heap.size + 1) w.heap.size X.heap.size 119 (hX.out.1.alloc _) (made_own _ _ (by have := hp.out; omega)) (by have := hX.out.2.2; simp at this; omega) (by have := hX.out.2.2; simp at this; omega)
      ((below_undrew (B := w.heap.size) hX.out.2.1).alloc hX.out.2.1.size _) (by omega) (Nat.le_refl _) hX.out.2.1.size)
    clear hX
    go_wp2
    go_ret2
    exact ⟨_, rfl, by have := hE.out; rw [World.size_alloc] at this; exact this⟩
  · have hE := Lib.hid (hfin.out X (w.heap.size + 1 + 1) (w.heap.size + 1) w.heap.size 119 (by have := hX.out.1; simp at this; exact this) (ownsRow_block (made_own (256 * p) w (by have := hp.out; omega)) ((below_undrew (w := w.alloc (.cells (madeCells #[.int .u8 0] (256 * p)) 5)) hX.out.2.1).block _ (by show w.heap.size < (w.alloc (.cells (madeCells #[.int .u8 0] (256 * p)) 5)).heap.size; simp))) (by omega) (by omega)
      (((Below.refl w.heap.size w).alloc (Nat.le_refl _) _).trans ((below_undrew (w := w.alloc (.cells (madeCells #[.int .u8 0] (256 * p)) 5)) hX.out.2.1).mono (by show w.heap.size ≤ (w.alloc (.cells (madeCells #[.int .u8 0] (256 * p)) 5)).heap.size; simp))) (by omega) (by omega) (Nat.le_refl _))
    clear hX
    go_wp2
    go_ret2
    exact ⟨_, rfl, hE.out⟩
end Go.Proofs.YtkmgdfcambdeeaaGreatDoor
namespace Go.Proofs.YtkmgdfcambdeeaaGreatDoor
open Go.RowKit
set_option linter.unusedVariables false

section
variable {a mb wb bb c n g : Nat} {f : Nat → Bool} {l : List UInt8} {w : World}
end
end Go.Proofs.YtkmgdfcambdeeaaGreatDoor
namespace Go.Proofs.YtkmgdfcambdeeaaGreatDoor
open Go.RowKit
set_option linter.unusedVariables false

/-- The addresses of the k granules from a on whose tag is set. -/
def tgl (f : Nat → Bool) (a : Nat) : Nat → List Nat
  | 0 => []
  | k + 1 => tgl f a k ++ (if f (a + k) then [16 * (a + k)] else [])
theorem tgl_none {f : Nat → Bool} {a : Nat} : ∀ {k : Nat}, (∀ j, j < k → f (a + j) = false) → tgl f a k = []
  | 0, _ => rfl
  | k + 1, h => by rw [tgl, tgl_none (fun j hj => h j (by omega)), h k (by omega)]; rfl
theorem tgl_add (f : Nat → Bool) (a k : Nat) : ∀ m, tgl f a (k + m) = tgl f a k ++ tgl f (a + k) m
  | 0 => by simp [tgl]
  | m + 1 => by rw [← Nat.add_assoc, tgl, tgl_add f a k m, tgl, List.append_assoc, Nat.add_assoc]
theorem tgl_congr {f h : Nat → Bool} {a : Nat} : ∀ {k : Nat}, (∀ j, j < k → f (a + j) = h (a + j)) → tgl f a k = tgl h a k
  | 0, _ => rfl
  | k + 1, e => by rw [tgl, tgl, tgl_congr (fun j hj => e j (by omega)), e k (by omega)]
theorem tgl_len (f : Nat → Bool) (a : Nat) : ∀ k, (tgl f a k).length ≤ k
  | 0 => Nat.le_refl _
  | k + 1 => by
    have := tgl_len f a k
    rw [tgl, List.length_append]
    split <;> simp <;> omega
/-- The page's granules among all. -/
theorem tgl_page {f : Nat → Bool} {p g : Nat} (h : 16 * p + 16 ≤ g) : tgl (fun i => f i && decide (i / 16 = p)) 0 g = tgl f (16 * p) 16 := by
  obtain ⟨d, rfl⟩ : ∃ d, g = 16 * p + (16 + d) := ⟨g - (16 * p + 16), by omega⟩
  rw [tgl_add, tgl_add, tgl_none (k := 16 * p) (fun j hj => by simp; omega), tgl_none (k := d) (fun j hj => by simp; omega), List.nil_append, List.append_nil, Nat.zero_add]
  exact tgl_congr fun j hj => by simp; omega
theorem tgl_no {f : Nat → Bool} {p : Int} {g : Nat} (h : p < 0 ∨ (g : Int) ≤ 16 * p) : tgl (fun i => f i && decide (((i / 16 : Nat) : Int) = p)) 0 g = [] :=
  tgl_none fun j hj => by simp; omega

def u32v (x : Nat) : Value := .int .u32 (x : Int)
/-- A call has handed back a list of numbers, in a row of its own. -/
def ListPost (w : World) (lst : List Nat) (e : Ending) (w' : World) : Prop :=
  ∃ v, e = .returned v ∧ w'.ownsRow w.heap.size 22 1 v lst.length (lst.map u32v) ∧ Below w.heap.size w w'
theorem info32 : (Tryz.prog.info? 22).map (fun i => (i.zero, i.size, i.bytes)) = some (some (.int .u32 0), 1, 4) := by kernel_rfl
section
variable {a mb wb bb c n g : Nat} {f : Nat → Bool} {l : List UInt8} {w : World}
set_option maxRecDepth 100000 in
theorem atag_no (H : ArAt w a mb wb bb c n g f l) (p : Int) (hp : -9223372036854775808 ≤ p ∧ p < 9223372036854775808) (h : p < 0 ∨ (g : Int) ≤ 16 * p) : Calls Tryz.prog 55 #[.pointer (some ⟨a, 0, none⟩), .int .i64 p] w (ListPost w []) := by
  have hO := Lib.hid (aown H)
  have hH := Lib.hid H
  have hg := Lib.hid (show g % 16 = g % 16 from rfl)
  by_cases h0 : p < 0
  · clear H h
    go_enter Tryz.func55, Tryz.ntmps55
    go_wp2_with fail
    refine hO.out.mono ?_
    rintro e w2 ⟨rfl, hb⟩
    have B1 := Lib.hid (hb.alloc hb.size (.cells #[.pointer (some ⟨mb, 0, none⟩), .slice (some ⟨bb, 0, none⟩) n c] 113))
    clear hb
    go_wp2
    go_ret
    exact ⟨_, rfl, World.ownsRow_nil _ _ _ _, B1.out⟩
  · have h2 : ¬ p < (g : Int) / 16 := by omega
    have h3 : (g : Int) / 16 ≤ p := by omega
    clear H h
    go_enter Tryz.func55, Tryz.ntmps55
    go_wp2_with fail
    refine hO.out.mono ?_
    rintro e w2 ⟨rfl, hb⟩
    have B1 := Lib.hid (hb.alloc hb.size (.cells #[.pointer (some ⟨mb, 0, none⟩), .slice (some ⟨bb, 0, none⟩) n c] 113))
    clear hb
    go_wp2_with fail
    refine (len_any mb wb g f _ (hH.out.below B1.out).m).mono ?_
    rintro e w3 ⟨rfl, rfl⟩
    go_wp2
    go_ret
    exact ⟨_, rfl, World.ownsRow_nil _ _ _ _, B1.out⟩
set_option maxRecDepth 100000 in
set_option maxHeartbeats 1000000 in
theorem atag_yes (H : ArAt w a mb wb bb c n g f l) (p : Nat) (h : 16 * p + 16 ≤ g) : Calls Tryz.prog 55 #[.pointer (some ⟨a, 0, none⟩), .int .i64 p] w (ListPost w (tgl f (16 * p) 16)) := by
  obtain ⟨i0, hi, hz0, hz1, hz2⟩ := info_parts info32
  have hO := Lib.hid (aown H)
  have hH := Lib.hid H
  have hi' := H.hi
  have h2 : (p : Int) < (g : Int) / 16 := by omega
  have h3 : (p : Int) < 2000 := by omega
  have h4 : ¬ (p : Int) < 0 := by omega
  have h5 : ¬ (g : Int) / 16 ≤ p := by omega
  have hp := Lib.hid h
  clear H h
  go_enter Tryz.func55, Tryz.ntmps55
  go_wp2_with fail
  refine hO.out.mono ?_
  rintro e w2 ⟨rfl, hb⟩
  have B1 := Lib.hid (hb.alloc hb.size (.cells #[.pointer (some ⟨mb, 0, none⟩), .slice (some ⟨bb, 0, none⟩) n c] 113))
  have K1 := Lib.hid ((RS.nil w2).push [.pointer (some ⟨mb, 0, none⟩), .slice (some ⟨bb, 0, none⟩) n c] 113)
  clear hb
  go_wp2_with fail
  generalize (w2.alloc (.cells #[.pointer (some ⟨mb, 0, none⟩), .slice (some ⟨bb, 0, none⟩) n c] 113)) = w3 at *
  refine (len_any mb wb g f _ (hH.out.below B1.out).m).mono ?_
  rintro e w4 ⟨rfl, rfl⟩
  have L1 := Lib.hid (show w2.heap.size < w3.heap.size from (K1.out ⟨w2.heap.size, [.pointer (some ⟨mb, 0, none⟩), .slice (some ⟨bb, 0, none⟩) n c]⟩ (by simp)).1)
  have cl := K1.out.cell (g := w2.heap.size) (j := 0) (u := .pointer (some ⟨mb, 0, none⟩)) [.pointer (some ⟨mb, 0, none⟩), .slice (some ⟨bb, 0, none⟩) n c] (by simp) rfl
  go_wp2_with fail
  clear h2 h4 h5
  go_loopw [6, 21] (fun b i wr => ∃ j : Nat, j ≤ 16 ∧ i = .int .i64 j ∧ wr.ownsRow w3.heap.size 22 1 b (tgl f (16 * p) j).length ((tgl f (16 * p) j).map u32v) ∧ Below w3.heap.size w3 wr) (fun _ i _ => 16 - (intOf i).toNat)
  case atStart => exact ⟨0, by omega, rfl, World.ownsRow_nil _ _ _ _, Below.refl _ _⟩
  case round =>
    obtain ⟨j, hj, rfl, hown2, hbl⟩ := hrel
    have hL := Lib.hid hbl
    have hOw := Lib.hid hown2
    have A2 := Lib.hid (((hH.out.below B1.out).below hbl).m)
    have cl2 := (hbl.cell (p := ⟨w2.heap.size, 0, none⟩) (by exact L1.out)).trans cl
    clear hown2 hbl cl
    by_cases hlt : j < 16
    · have hlt' : (j : Int) < 16 := by omega
      have s1 : IntKind.i64.wrap ((p : Int) * 16) = (p : Int) * 16 := by rw [IntKind.wrap_i64]; omega
      have s2 : IntKind.i64.wrap ((p : Int) * 16 + j) = (p : Int) * 16 + j := by rw [IntKind.wrap_i64]; omega
      have hG := Lib.hid (show Calls Tryz.prog 111 #[.pointer (some ⟨mb, 0, none⟩), .int .i64 ((p : Int) * 16 + j)] wr fun e W' => e = .returned (.bool (f (16 * p + j))) ∧ ∃ k, wr.drewN k = W' from by
        have := get_yes mb wb g f (16 * p + j) wr A2.out (by have := hp.out; omega)
        rw [show ((16 * p + j : Nat) : Int) = (p : Int) * 16 + j from by omega] at this
        exact this)
      go_wp2_with fail
      refine hG.out.mono ?_
      rintro e w5 ⟨rfl, k, rfl⟩
      have hO6 := Lib.hid (show (wr.drewN k).ownsRow w3.heap.size 22 1 u6 (tgl f (16 * p) j).length ((tgl f (16 * p) j).map u32v) from hOw.out)
      have hL6 := Lib.hid (below_drewN hL.out k)
      generalize wr.drewN k = w6 at *
      clear cl2 hG hOw hL A2
      rcases hv : f (16 * p + j) with _ | _
      · have hE := Lib.hid (show tgl f (16 * p) (j + 1) = tgl f (16 * p) j from by rw [tgl, hv]; simp)
        clear hv
        go_wp2
        go_roundw
        case rel => exact ⟨j + 1, by omega, by go_num, by rw [hE.out]; exact hO6.out, hL6.out⟩
        case measure => simp [intOf]; omega
      · have hE := Lib.hid (show tgl f (16 * p) (j + 1) = tgl f (16 * p) j ++ [16 * (16 * p + j)] from by rw [tgl, hv]; simp)
        have hlen := Lib.hid (tgl_len f (16 * p) j)
        have hp' := Lib.hid (show (16 * (16 * p + j) : Nat) < 4294967296 by omega)
        have s3 : IntKind.i64.wrap (((p : Int) * 16 + j) * 16) = ((p : Int) * 16 + j) * 16 := by rw [IntKind.wrap_i64]; omega
        have s4 : IntKind.u32.wrap (((p : Int) * 16 + j) * 16) = ((p : Int) * 16 + j) * 16 := by rw [IntKind.wrap_u32]; omega
        clear hv
        go_wp2_with (at_builtin; refine wpList_append_own _ rfl _ _ 101 rfl w3.heap.size 22 i0 (.int .u32 0) 1 4 Tryz.underlying101 hi hz0 hz1 hz2 rfl (by decide) _ _ _ rfl (hO6.out.alloc _) ⟨w6.heap.size, 0, none⟩ 1 1 [.int .u32 (((p : Int) * 16 + j) * 16)] rfl rfl ?c1 ?c2 ?c3 ?c4 ?c5 ?_)
        case c1 =>
          intro i u hu
          match i, hu with
          | 0, hu => simp at hu; subst hu; simp [Addr.add]
        case c2 => intro u hu; simp at hu; subst hu; rfl
        case c3 => have := hlen.out; unfold maxLen; omega
        case c4 => have := hlen.out; omega
        case c5 => have := hL6.out.size; simp; omega
        · intro v' w7 hown' hgrow _
          have hlo := hO6.out.lt
          have hL1 : Below w3.heap.size w3 w7 := below_own (hL6.out.alloc hL6.out.size _) hgrow (fun q hq => (hlo q hq).1) (by have := hL6.out.size; simp; omega)
          have hO1 : w7.ownsRow w3.heap.size 22 1 v' (tgl f (16 * p) (j + 1)).length ((tgl f (16 * p) (j + 1)).map u32v) := by
            rw [hE.out, List.map_append, List.length_append]
            have e1 : List.map u32v [16 * (16 * p + j)] = [.int .u32 (((p : Int) * 16 + j) * 16)] := by
              simp only [List.map_cons, List.map_nil, u32v]
              rw [show ((16 * (16 * p + j) : Nat) : Int) = ((p : Int) * 16 + j) * 16 from by omega]
            rw [e1]; exact hown'
          replace hL1 := Lib.hid hL1
          replace hO1 := Lib.hid hO1
          clear hown' hgrow hlo
          go_wp2
          go_roundw
          case rel => exact ⟨j + 1, by omega, by go_num, hO1.out, hL1.out⟩
          case measure => simp [intOf]; omega
    · obtain rfl : j = 16 := by omega
      go_wp2_with fail
      go_ret
      refine ⟨_, rfl, ⟨hOw.out.1, ?_⟩, ?_⟩
      · rcases hOw.out.2 with hn | ⟨q, cap, cur, e, h1, h2⟩
        · exact .inl hn
        · exact .inr ⟨q, cap, cur, e, by have := B1.out.size; omega, h2⟩
      · exact B1.out.trans (hL.out.mono B1.out.size)
/-- The addresses that a page's call tells. -/
def tgP (f : Nat → Bool) (g : Nat) (p : Int) : List Nat := tgl (fun i => f i && decide (((i / 16 : Nat) : Int) = p)) 0 g
theorem tgP_page {f : Nat → Bool} {p g : Nat} (h : 16 * p + 16 ≤ g) : tgP f g p = tgl f (16 * p) 16 := by
  unfold tgP
  rw [← tgl_page h]
  exact tgl_congr fun j hj => by congr 1; exact decide_eq_decide.2 (by omega)
theorem atag_any (H : ArAt w a mb wb bb c n g f l) (hg : g % 16 = 0) (p : Int) (hp : -9223372036854775808 ≤ p ∧ p < 9223372036854775808) : Calls Tryz.prog 55 #[.pointer (some ⟨a, 0, none⟩), .int .i64 p] w (ListPost w (tgP f g p)) := by
  by_cases h : p < 0 ∨ (g : Int) ≤ 16 * p
  · rw [show tgP f g p = [] from tgl_no h]
    exact atag_no H p hp h
  · obtain ⟨p, rfl⟩ := Int.eq_ofNat_of_zero_le (show 0 ≤ p by omega)
    rw [tgP_page (by omega)]
    exact atag_yes H p (by omega)
end
end Go.Proofs.YtkmgdfcambdeeaaGreatDoor
namespace Go.Proofs.YtkmgdfcambdeeaaGreatDoor
open Go.RowKit
set_option linter.unusedVariables false

/-- At block r stands the document's arena of n bytes l, of g granules, whose tags are as f tells: its bytes in the block rb, its truths in tb. -/
structure RfAt (W : World) (r rb tb n g : Nat) (f : Nat → Bool) (l : List UInt8) : Prop where
  q0 : W.cell? ⟨r, 0, none⟩ = some (.slice (some ⟨rb, 0, none⟩) n n)
  q1 : W.cell? ⟨r, 1, none⟩ = some (.slice (some ⟨tb, 0, none⟩) g g)
  by_ : ∀ j u, l[j]? = some u → W.cell? ⟨rb, j, none⟩ = some (vb u)
  bf : ∀ j, j < n → W.frozen? ⟨rb, j, none⟩ = false
  tg : ∀ j, j < g → W.cell? ⟨tb, j, none⟩ = some (.bool (f j)) ∧ W.frozen? ⟨tb, j, none⟩ = false
  len : l.length = n
  hn : n = 16 * g
  lo : 256 ≤ g
  hi : g ≤ 16384
  n1 : r ≠ rb
  n2 : r ≠ tb
  n3 : rb ≠ tb
  la : r < W.heap.size
  lb : rb < W.heap.size
  lt : tb < W.heap.size
section
variable {W W' : World} {r rb tb n g : Nat} {f f' : Nat → Bool} {l l' : List UInt8}
theorem RfAt.keep (h : RfAt W r rb tb n g f l) (hk : ∀ k, k = r ∨ k = rb ∨ k = tb → W'.heap[k]? = W.heap[k]?) (hs : W.heap.size ≤ W'.heap.size) : RfAt W' r rb tb n g f l :=
  ⟨(World.cell?_of_block (hk r (.inl rfl))).trans h.q0, (World.cell?_of_block (hk r (.inl rfl))).trans h.q1, fun j u hu => (World.cell?_of_block (hk rb (.inr (.inl rfl)))).trans (h.by_ j u hu),
    fun j hj => (World.frozen?_of_block (hk rb (.inr (.inl rfl)))).trans (h.bf j hj), fun j hj => ⟨(World.cell?_of_block (hk tb (.inr (.inr rfl)))).trans (h.tg j hj).1, (World.frozen?_of_block (hk tb (.inr (.inr rfl)))).trans (h.tg j hj).2⟩,
    h.len, h.hn, h.lo, h.hi, h.n1, h.n2, h.n3, Nat.lt_of_lt_of_le h.la hs, Nat.lt_of_lt_of_le h.lb hs, Nat.lt_of_lt_of_le h.lt hs⟩
theorem RfAt.below (h : RfAt W r rb tb n g f l) (hb : Below W.heap.size W W') : RfAt W' r rb tb n g f l :=
  h.keep (fun k hk => hb.block k (by have := h.la; have := h.lb; have := h.lt; omega)) hb.size
theorem RfAt.of2 {x y : Nat} (h : RfAt W r rb tb n g f l) (hb : Of2 W.heap.size x y W W') (hx : r ≠ x ∧ rb ≠ x ∧ tb ≠ x) (hy : r ≠ y ∧ rb ≠ y ∧ tb ≠ y) : RfAt W' r rb tb n g f l :=
  h.keep (fun k hk => hb.block k (by have := h.la; have := h.lb; have := h.lt; omega) (by omega) (by omega)) hb.size
theorem RfAt.drew (h : RfAt W r rb tb n g f l) : RfAt W.drew r rb tb n g f l := h.keep (fun _ _ => rfl) (Nat.le_refl _)
theorem RfAt.ext (h : RfAt W r rb tb n g f l) (e : ∀ k, k < g → f k = f' k) (e2 : l = l') : RfAt W r rb tb n g f' l' :=
  e2 ▸ ⟨h.q0, h.q1, h.by_, h.bf, fun j hj => e j hj ▸ h.tg j hj, h.len, h.hn, h.lo, h.hi, h.n1, h.n2, h.n3, h.la, h.lb, h.lt⟩
/-- A byte stored. -/
theorem RfAt.byte (h : RfAt W r rb tb n g f l) {k : Nat} (hk : k < n) (u : UInt8) : RfAt (W.setCell ⟨rb, k, none⟩ (vb u)) r rb tb n g f (l.set k u) := by
  have ho : ∀ q, q ≠ rb → (W.setCell ⟨rb, k, none⟩ (vb u)).heap[q]? = W.heap[q]? := fun q hq => Below.heap_setCell _ _ _ _ hq
  refine ⟨(World.cell?_of_block (ho r h.n1)).trans h.q0, (World.cell?_of_block (ho r h.n1)).trans h.q1, fun j x hx => ?_, fun j hj => (World.frozen?_setCell _ _ _ _).trans (h.bf j hj), fun j hj => ⟨(World.cell?_of_block (ho tb (Ne.symm h.n3))).trans (h.tg j hj).1, (World.frozen?_setCell _ _ _ _).trans (h.tg j hj).2⟩,
    by simp [h.len], h.hn, h.lo, h.hi, h.n1, h.n2, h.n3, by simpa [World.setCell] using h.la, by simpa [World.setCell] using h.lb, by simpa [World.setCell] using h.lt⟩
  by_cases e : j = k
  · subst e
    have hj : j < l.length := by have := (List.getElem?_eq_some_iff.1 hx).1; simpa using this
    rw [List.getElem?_set_self hj] at hx
    cases hx
    exact World.cell?_setCell_same' _ _ _ (by rw [h.by_ j _ (List.getElem?_eq_getElem hj)]; rfl)
  · rw [List.getElem?_set_ne (Ne.symm e)] at hx
    rw [World.cell?_setCell_other _ _ _ _ (fun e' => e (by simpa using (congrArg Addr.off e').symm))]
    exact h.by_ j x hx
/-- A tag put. -/
theorem RfAt.tag (h : RfAt W r rb tb n g f l) {k : Nat} (hk : k < g) (v : Bool) : RfAt (W.setCell ⟨tb, k, none⟩ (.bool v)) r rb tb n g (upd f k v) l := by
  have ho : ∀ q, q ≠ tb → (W.setCell ⟨tb, k, none⟩ (.bool v)).heap[q]? = W.heap[q]? := fun q hq => Below.heap_setCell _ _ _ _ hq
  refine ⟨(World.cell?_of_block (ho r h.n2)).trans h.q0, (World.cell?_of_block (ho r h.n2)).trans h.q1, fun j x hx => (World.cell?_of_block (ho rb h.n3)).trans (h.by_ j x hx), fun j hj => (World.frozen?_setCell _ _ _ _).trans (h.bf j hj), fun j hj => ⟨?_, (World.frozen?_setCell _ _ _ _).trans (h.tg j hj).2⟩,
    h.len, h.hn, h.lo, h.hi, h.n1, h.n2, h.n3, by simpa [World.setCell] using h.la, by simpa [World.setCell] using h.lb, by simpa [World.setCell] using h.lt⟩
  by_cases e : j = k
  · subst e
    rw [upd_same]
    exact World.cell?_setCell_same' _ _ _ (by rw [(h.tg j hj).1]; rfl)
  · rw [upd_ne _ _ e, World.cell?_setCell_other _ _ _ _ (fun e' => e (by simpa using (congrArg Addr.off e').symm))]
    exact (h.tg j hj).1
theorem RfAt.ln (h : RfAt W r rb tb n g f l) : n ≤ 262144 := by have := h.hn; have := h.hi; omega
end
/-- A call on the document's arena has answered v. -/
def Rxt (r rb tb n g : Nat) (f : Nat → Bool) (l : List UInt8) (w : World) (v : Value) (e : Ending) (w' : World) : Prop :=
  e = .returned v ∧ RfAt w' r rb tb n g f l ∧ Of2 w.heap.size rb tb w w'
theorem rxt_below {r rb tb n g : Nat} {f : Nat → Bool} {l : List UInt8} {w w' : World} {v : Value} {e : Ending} (H : RfAt w r rb tb n g f l) (h : e = .returned v ∧ Below w.heap.size w w') : Rxt r rb tb n g f l w v e w' :=
  ⟨h.1, H.below h.2, Of2.of_below h.2⟩
theorem rwidth_any (n : Int) (w : World) : Calls Tryz.prog 71 #[.int .i64 n] w fun e w' => e = .returned (.bool (isW n)) ∧ w = w' := by
  by_cases h1 : n = 1
  · subst h1
    go_enter Tryz.func71, Tryz.ntmps71
    go_wp2
    go_ret
    exact ⟨rfl, rfl⟩
  · by_cases h2 : n = 2
    · subst h2
      go_enter Tryz.func71, Tryz.ntmps71
      go_wp2
      go_ret
      exact ⟨rfl, rfl⟩
    · by_cases h4 : n = 4
      · subst h4
        go_enter Tryz.func71, Tryz.ntmps71
        go_wp2
        go_ret
        exact ⟨rfl, rfl⟩
      · skip
        go_enter Tryz.func71, Tryz.ntmps71
        go_wp2
        go_ret
        exact ⟨ret_bool (by unfold isW; rfl), rfl⟩
section
variable {r rb tb n g : Nat} {f : Nat → Bool} {l : List UInt8} {w : World}
theorem rthere_any (H : RfAt w r rb tb n g f l) (at_ : Nat) (k : Int) (la : at_ < 4294967296) (hk : -9223372036854775808 ≤ k ∧ k < 9223372036854775808) :
    Calls Tryz.prog 76 #[.pointer (some ⟨r, 0, none⟩), .int .u32 at_, .int .i64 k] w fun e w' => e = .returned (.bool (thr n at_ k)) ∧ w = w' := by
  have q0 := H.q0
  have hn := H.ln
  obtain ⟨h1, h2⟩ := hk
  clear H
  by_cases h0 : 0 ≤ k
  · by_cases h3 : k ≤ n
    · have hT := Lib.hid (show thr n at_ k = decide ((at_ : Int) ≤ (n : Int) - k) by
        simp only [thr, decide_eq_true h0, Bool.true_and]
        exact decide_eq_decide.2 (by omega))
      go_enter Tryz.func76, Tryz.ntmps76
      go_wp2
      go_ret
      exact ⟨ret_bool (by rw [hT.out]), rfl⟩
    · have h3' : (n : Int) < k := by omega
      have hT := Lib.hid (show thr n at_ k = false by simp [thr]; omega)
      clear h3
      go_enter Tryz.func76, Tryz.ntmps76
      go_wp2
      go_ret
      exact ⟨ret_bool (by rw [hT.out]), rfl⟩
  · have h0' : k < 0 := by omega
    have hT := Lib.hid (show thr n at_ k = false by simp [thr]; omega)
    clear h0
    go_enter Tryz.func76, Tryz.ntmps76
    go_wp2
    go_ret
    exact ⟨ret_bool (by rw [hT.out]), rfl⟩
end
end Go.Proofs.YtkmgdfcambdeeaaGreatDoor
namespace Go.Proofs.YtkmgdfcambdeeaaGreatDoor
open Go.RowKit
set_option linter.unusedVariables false
section
variable {r rb tb n g : Nat} {f : Nat → Bool} {l : List UInt8} {w : World}
end
end Go.Proofs.YtkmgdfcambdeeaaGreatDoor
namespace Go.Proofs.YtkmgdfcambdeeaaGreatDoor
open Go.RowKit
set_option linter.unusedVariables false
theorem ovr_at {l b : List UInt8} {k i : Nat} (h : k + b.length ≤ l.length) : (ovr l k b)[i]? = if i < k then l[i]? else if i < k + b.length then b[i - k]? else l[i]? := by
  have h3 : (l.take k).length = k := by simp; omega
  unfold ovr
  rcases Nat.lt_or_ge i k with hi | hi
  · rw [List.getElem?_append_left (by omega), List.getElem?_take, if_pos hi, if_pos hi]
  · rw [List.getElem?_append_right (by omega), h3, if_neg (by omega)]
    rcases Nat.lt_or_ge (i - k) b.length with hi2 | hi2
    · rw [List.getElem?_append_left (by omega), if_pos (by omega)]
    · rw [List.getElem?_append_right (by omega), List.getElem?_drop, if_neg (by omega)]
      congr 1
      omega
theorem ovr_step {l s : List UInt8} {k j : Nat} {u : UInt8} (hk : k + j < l.length) (hu : s[j]? = some u) : (ovr l k (s.take j)).set (k + j) u = ovr l k (s.take (j + 1)) := by
  have hj : j < s.length := (List.getElem?_eq_some_iff.1 hu).1
  have h1 : (s.take j).length = j := by simp; omega
  have h2 : (s.take (j + 1)).length = j + 1 := by simp; omega
  have L1 : (ovr l k (s.take j)).length = l.length := ovr_length (by omega)
  apply List.ext_getElem?
  intro i
  rw [List.getElem?_set, ovr_at (by omega), ovr_at (by omega), h1, h2]
  by_cases he : k + j = i
  · subst he
    rw [if_pos rfl, if_pos (by omega), if_neg (by omega), if_pos (by omega), List.getElem?_take, if_pos (by omega), Nat.add_sub_cancel_left, hu]
  · rw [if_neg he]
    rcases Nat.lt_or_ge i k with hi | hi
    · simp only [if_pos hi]
    · simp only [if_neg (show ¬ i < k by omega)]
      rcases Nat.lt_or_ge i (k + j) with hi2 | hi2
      · simp only [if_pos hi2, if_pos (show i < k + (j + 1) by omega), List.getElem?_take, if_pos (show i - k < j by omega), if_pos (show i - k < j + 1 by omega)]
      · simp only [if_neg (show ¬ i < k + j by omega), if_neg (show ¬ i < k + (j + 1) by omega)]
section
variable {r rb tb n g : Nat} {f : Nat → Bool} {l : List UInt8} {w : World}
set_option maxRecDepth 100000 in
theorem rwrite_no (H : RfAt w r rb tb n g f l) (at_ : Nat) (s : List UInt8) (la : at_ < 4294967296) (ls : s.length < 9223372036854775808) (h : thr n at_ s.length = false) :
    Calls Tryz.prog 72 #[.pointer (some ⟨r, 0, none⟩), .int .u32 at_, .string ⟨s.toArray⟩] w fun e w' => e = .returned (.bool false) ∧ w = w' := by
  have hT := Lib.hid (rthere_any H at_ s.length la (by omega))
  rw [h] at hT
  have hsz := size_list s
  clear H h
  go_enter Tryz.func72, Tryz.ntmps72
  go_wp2_with fail
  refine hT.out.mono ?_
  rintro e w2 ⟨rfl, rfl⟩
  go_wp2
  go_ret
  exact ⟨rfl, rfl⟩
set_option maxRecDepth 100000 in
set_option maxHeartbeats 2000000 in
theorem rwrite_yes (H : RfAt w r rb tb n g f l) (at_ : Nat) (s : List UInt8) (la : at_ < 4294967296) (h : at_ + s.length ≤ n) :
    Calls Tryz.prog 72 #[.pointer (some ⟨r, 0, none⟩), .int .u32 at_, .string ⟨s.toArray⟩] w (Rxt r rb tb n g (clr f at_ s.length) (ovr l at_ s) w (.bool true)) := by
  have hn := H.ln
  have hT := Lib.hid (rthere_any H at_ s.length la (by omega))
  rw [thr_iff.2 h] at hT
  have hH := Lib.hid H
  have hh := Lib.hid h
  have j0 : (at_ : Int) + s.length ≤ n := by omega
  clear H h
  go_enter Tryz.func72, Tryz.ntmps72
  go_wp2_with fail
  refine hT.out.mono ?_
  rintro e w2 ⟨rfl, rfl⟩
  go_wp2_with fail
  go_loopw [7] (fun i wr => ∃ j : Nat, j ≤ s.length ∧ i = .int .i64 j ∧ RfAt wr r rb tb n g (clr f at_ j) (ovr l at_ (s.take j)) ∧ Of2 w.heap.size rb tb w wr) (fun i _ => s.length - (intOf i).toNat)
  case atStart => exact ⟨0, by omega, rfl, by rw [clr_zero, List.take_zero, ovr_nil]; exact hH.out, Of2.refl _ _ _ _⟩
  case round =>
    obtain ⟨j, hj, rfl, R, O⟩ := hrel
    have R1 := Lib.hid R
    have O1 := Lib.hid O
    have jj : (j : Int) ≤ s.length := by omega
    by_cases hlt : j < s.length
    · have jlt : (j : Int) < s.length := by omega
      have q0 := R.q0
      have q1 := R.q1
      have hk : at_ + j < n := by have := hh.out; omega
      have hkl : at_ + j < (ovr l at_ (s.take j)).length := by rw [R.len]; exact hk
      have b0 := R.by_ (at_ + j) _ (List.getElem?_eq_getElem hkl)
      have b1 := R.bf (at_ + j) hk
      clear R O
      go_wp2_with fail
      have t1 : IntKind.i64.wrap ((at_ : Int) + j) = (at_ : Int) + j := by rw [IntKind.wrap_i64]; omega
      have t2 : ((at_ : Int) + j).toNat = at_ + j := by omega
      have jb : (at_ : Int) + j < n := by omega
      have jn : 0 ≤ (at_ : Int) + j := by omega
      have t0 : IntKind.i64.wrap (at_ : Int) = (at_ : Int) := by rw [IntKind.wrap_i64]; omega
      have hsz := size_list s
      have hgl := Lib.hid (List.getElem?_eq_getElem hlt)
      go_still_tail 12, (by kernel_rfl)
      repeat still_step
      change wpList _ _ _ _ _ wr.drew
      have R2 := Lib.hid R1.out.drew
      have O2 := Lib.hid O1.out.drew
      have c0 : wr.drew.cell? ⟨rb, at_ + j, none⟩ = _ := b0
      have c1 : wr.drew.frozen? ⟨rb, at_ + j, none⟩ = false := b1
      generalize wr.drew = w3 at *
      clear q0 q1 b0 b1 R1 O1 t0 t1
      have R3 := Lib.hid (R2.out.byte hk (s[j]'hlt))
      have O3 := Lib.hid (O2.out.setCell (p := ⟨rb, at_ + j, none⟩) (.inr (.inl rfl)) (vb (s[j]'hlt)))
      go_upto_region 7 with (fail)
      change Code.wp _ _ _ _ (w3.setCell ⟨rb, at_ + j, none⟩ (vb (s[j]'hlt)))
      generalize w3.setCell ⟨rb, at_ + j, none⟩ (vb (s[j]'hlt)) = w4 at *
      clear c0 c1
      have q0 := R3.out.q0
      have q1 := R3.out.q1
      have hg := R3.out.hn
      obtain ⟨p, hp⟩ : ∃ p, p = (at_ + j) / 16 := ⟨_, rfl⟩
      have ep : ((at_ : Int) + j) / 16 = (p : Int) := by omega
      have hpg : p < g := by omega
      have jp : (p : Int) < g := by omega
      obtain ⟨d0, d1⟩ := R3.out.tg p hpg
      have R4 := Lib.hid ((R3.out.tag hpg false).ext (f' := clr f at_ (j + 1)) (l' := ovr l at_ (s.take (j + 1))) (fun i hi => by
        unfold upd
        simp only [clr, tch]
        split
        · rw [Bool.eq_iff_iff]
          simp
          omega
        · rw [Bool.eq_iff_iff]
          simp
          omega) (ovr_step (by have := hH.out.len; omega) hgl.out))
      have O4 := Lib.hid (O3.out.setCell (p := ⟨tb, p, none⟩) (.inr (.inr rfl)) (.bool false))
      clear hp hg R3 O3
      go_wp2_with fail
      go_roundw
      case rel => exact ⟨j + 1, by omega, by go_num, R4.out, O4.out⟩
      case measure => simp [intOf]; omega
    · obtain rfl : j = s.length := by omega
      clear R O
      go_wp2_with fail
      go_ret
      refine ⟨rfl, ?_, O1.out⟩
      have := R1.out
      rwa [List.take_length] at this
theorem rwrite_any (H : RfAt w r rb tb n g f l) (at_ : Nat) (s : List UInt8) (la : at_ < 4294967296) (ls : s.length < 9223372036854775808) :
    Calls Tryz.prog 72 #[.pointer (some ⟨r, 0, none⟩), .int .u32 at_, .string ⟨s.toArray⟩] w (Rxt r rb tb n g (stF n f at_ s.length) (stL n l at_ s) w (.bool (thr n at_ s.length))) := by
  rcases ht : thr n at_ s.length with _ | _
  · refine (rwrite_no H at_ s la ls ht).mono fun e w' k => ?_
    have := rxt_below H (show e = .returned (.bool false) ∧ Below w.heap.size w w' from ⟨k.1, by rw [← k.2]; exact Below.refl _ _⟩)
    simpa [stF, stL, ht] using this
  · refine (rwrite_yes H at_ s la (thr_iff.1 ht)).mono fun e w' k => ?_
    simpa [stF, stL, ht] using k
end
end Go.Proofs.YtkmgdfcambdeeaaGreatDoor
namespace Go.Proofs.YtkmgdfcambdeeaaGreatDoor
open Go.RowKit
set_option linter.unusedVariables false
/-- A row of k bytes of the call's own, of which the first are s. -/
structure FB (w : World) (B k : Nat) (s : List UInt8) (wr : World) : Prop where
  bel : Below B w wr
  fil : ∀ i u, s[i]? = some u → wr.cell? ⟨B, i, none⟩ = some (vb u)
  all : ∀ i, i < k → (∃ x, wr.cell? ⟨B, i, none⟩ = some x) ∧ wr.frozen? ⟨B, i, none⟩ = false
theorem FB.step {w wr : World} {B k : Nat} {s : List UInt8} (h : FB w B k s wr) (u : UInt8) (hk : s.length < k) : FB w B k (s ++ [u]) (wr.setCell ⟨B, s.length, none⟩ (vb u)) := by
  have hc : ∀ i, i ≠ s.length → (wr.setCell ⟨B, s.length, none⟩ (vb u)).cell? ⟨B, i, none⟩ = wr.cell? ⟨B, i, none⟩ := fun i hi => World.cell?_setCell_other _ _ _ _ (fun e => hi (by simpa using (congrArg Addr.off e).symm))
  have hs : (wr.setCell ⟨B, s.length, none⟩ (vb u)).cell? ⟨B, s.length, none⟩ = some (vb u) := by
    obtain ⟨x, hx⟩ := (h.all s.length hk).1
    exact World.cell?_setCell_same' _ _ _ (by rw [hx]; rfl)
  refine ⟨h.bel.setCell (Nat.le_refl _) _, fun i x hx => ?_, fun i hi => ⟨?_, (World.frozen?_setCell _ _ _ _).trans (h.all i hi).2⟩⟩
  · rcases Nat.lt_or_ge i s.length with h1 | h1
    · rw [List.getElem?_append_left h1] at hx
      exact (hc i (by omega)).trans (h.fil i x hx)
    · have h2 : i = s.length := by
        have := (List.getElem?_eq_some_iff.1 hx).1
        simp at this
        omega
      subst h2
      simp at hx
      subst hx
      exact hs
  · by_cases e : i = s.length
    · subst e; exact ⟨_, hs⟩
    · exact (h.all i hi).1.imp fun x hx => (hc i e).trans hx
section
variable {r rb tb n g : Nat} {f : Nat → Bool} {l : List UInt8} {w : World}
theorem rstore_no (H : RfAt w r rb tb n g f l) (at_ v : Nat) (k : Int) (h : isW k = false) :
    Calls Tryz.prog 31 #[.pointer (some ⟨r, 0, none⟩), .int .u32 at_, .int .i64 k, .int .u32 v] w fun e w' => e = .returned (.bool false) ∧ w = w' := by
  have hW := Lib.hid (rwidth_any k w)
  rw [h] at hW
  clear H h
  go_enter Tryz.func31, Tryz.ntmps31
  go_wp2_with fail
  refine hW.out.mono ?_
  rintro e w2 ⟨rfl, rfl⟩
  go_wp2
  go_ret
  exact ⟨rfl, rfl⟩
set_option maxRecDepth 100000 in
set_option maxHeartbeats 2000000 in
theorem rstore_yes (H : RfAt w r rb tb n g f l) (at_ v k : Nat) (la : at_ < 4294967296) (lv : v < 4294967296) (h : isW (k : Int) = true) :
    Calls Tryz.prog 31 #[.pointer (some ⟨r, 0, none⟩), .int .u32 at_, .int .i64 k, .int .u32 v] w (Rxt r rb tb n g (stF n f at_ k) (stL n l at_ (leB k v)) w (.bool (thr n at_ k))) := by
  have hW := Lib.hid (rwidth_any k w)
  rw [h] at hW
  have hk4 : k ≤ 4 := by have := isW_cases h; omega
  have hmk := run_make_row' (P := Tryz.prog) 97 5 (.int .u8 0) 1 Tryz.underlying97 info_u8 rfl .i64 .i64 k (by omega) (by omega)
  have h0 : FB w w.heap.size k [] (w.alloc (.cells (madeCells #[.int .u8 0] k) 5)) := by
    refine ⟨(Below.refl _ _).alloc (Nat.le_refl _) _, fun i u hu => by simp at hu, fun i hi => ⟨?_, ?_⟩⟩
    · rw [World.cell?_alloc_at (hn := rfl)]
      exact ⟨(madeCells #[.int .u8 0] k)[i]'(by rw [size_madeCells]; exact hi), Array.getElem?_eq_getElem _⟩
    · rw [World.frozen?_alloc_at (hn := rfl)]
  have hcv : ∀ wr, FB w w.heap.size k (leB k v) wr → (convert 97 9 (.slice (some ⟨w.heap.size, 0, none⟩) k k)).run Tryz.prog wr = .ok (.string ⟨(leB k v).toArray⟩) wr := fun wr hF => by
    have := run_convert_bytes_back (P := Tryz.prog) wr 97 9 5 ⟨w.heap.size, 0, none⟩ k (leB k v) Tryz.underlying97 Tryz.underlying5 Tryz.underlying9 (fun j hj => by
      rw [Addr.add_lit, Nat.zero_add]
      exact hF.fil j _ (List.getElem?_eq_getElem hj))
    rwa [leB_length] at this
  have hH := Lib.hid H
  have h0' := Lib.hid h0
  have hcv' := Lib.hid hcv
  clear H h h0 hcv
  go_enter Tryz.func31, Tryz.ntmps31
  go_wp2_with fail
  refine hW.out.mono ?_
  rintro e w2 ⟨rfl, rfl⟩
  go_wp2_with fail
  generalize (w.alloc (.cells (madeCells #[.int .u8 0] k) 5)) = W0 at *
  go_loopw [10] (fun i wr => ∃ j : Nat, j ≤ k ∧ i = .int .i64 j ∧ FB w w.heap.size k (leB j v) wr) (fun i _ => k - (intOf i).toNat)
  case atStart => exact ⟨0, by omega, rfl, h0'.out⟩
  case round =>
    obtain ⟨j, hj, rfl, hF⟩ := hrel
    have hF' := Lib.hid hF
    have jj : (j : Int) ≤ k := by omega
    by_cases hlt : j < k
    · have jlt : (j : Int) < k := by omega
      have j8 : (j : Int) ≤ 3 := by omega
      obtain ⟨⟨x, c0⟩, c1⟩ := hF.all j hlt
      have hst := Lib.hid (show FB w w.heap.size k (leB (j + 1) v) (wr.setCell ⟨w.heap.size, j, none⟩ (.int .u8 ((v : Int) / 2 ^ (8 * j) % 256))) from by
        have h1 := hF.step (UInt8.ofNat (v / 256 ^ j)) (by rw [leB_length]; exact hlt)
        rw [← leB_snocV, leB_length] at h1
        have e1 : vb (UInt8.ofNat (v / 256 ^ j)) = .int .u8 ((v : Int) / 2 ^ (8 * j) % 256) := by
          unfold vb
          rw [UInt8.toNat_ofNat', show (256 : Nat) ^ j = 2 ^ (8 * j) from by rw [show (256 : Nat) = 2 ^ 8 from rfl, ← Nat.pow_mul], show ((2 : Int) ^ (8 * j)) = ((2 ^ (8 * j) : Nat) : Int) from by simp, ← Int.natCast_ediv]
          congr 1
        rw [e1] at h1
        exact h1)
      clear hF hF'
      go_wp2_with fail
      go_roundw
      case rel => exact ⟨j + 1, by omega, by go_num, hst.out⟩
      case measure => simp [intOf]; omega
    · obtain rfl : j = k := by omega
      have hcv2 := hcv'.out wr hF
      have hB' := Lib.hid hF.bel
      have hw2' := Lib.hid (rwrite_any (hH.out.below hF.bel) at_ (leB j v) la (by rw [leB_length]; omega))
      rw [leB_length] at hw2'
      clear hF hF'
      go_wp2_with fail
      refine hw2'.out.mono ?_
      rintro e w3 ⟨rfl, k1, k2⟩
      have hE := Lib.hid (And.intro k1 ((Of2.of_below hB'.out).step k2))
      clear k1 k2
      go_wp2
      go_ret
      exact ⟨rfl, hE.out⟩
theorem rstore_any (H : RfAt w r rb tb n g f l) (k : Int) (v at_ : Nat) (la : at_ < 4294967296) (lv : v < 4294967296) :
    Calls Tryz.prog 31 #[.pointer (some ⟨r, 0, none⟩), .int .u32 at_, .int .i64 k, .int .u32 v] w (Rxt r rb tb n g (stF n f at_ (putB [] k v).length) (stL n l at_ (putB [] k v)) w (.bool (isW k && thr n at_ (putB [] k v).length))) := by
  rcases hk : isW k with _ | _
  · have e0 : putB [] k v = [] := by simp [putB, hk]
    rw [e0, List.length_nil, stF_zero, stL_nil, Bool.false_and]
    exact (rstore_no H at_ v k hk).mono fun e w' h => rxt_below H (show e = .returned (.bool false) ∧ Below w.heap.size w w' from ⟨h.1, by rw [← h.2]; exact Below.refl _ _⟩)
  · obtain ⟨k, rfl⟩ := Int.eq_ofNat_of_zero_le (show 0 ≤ k by have := isW_cases hk; omega)
    have e0 : putB [] (k : Int) v = leB k v := by simp [putB, hk]
    rw [e0, leB_length, Bool.true_and]
    exact rstore_yes H at_ v k la lv hk
end
end Go.Proofs.YtkmgdfcambdeeaaGreatDoor
namespace Go.Proofs.YtkmgdfcambdeeaaGreatDoor
open Go.RowKit
set_option linter.unusedVariables false

theorem Nxt.ext {a mb wb bb c n g : Nat} {f f' : Nat → Bool} {l l' : List UInt8} {w w' : World} {v v' : Value} {e : Ending} (h : Nxt a mb wb bb c n g f l w v e w') (hf : ∀ j, f j = f' j) (hl : l = l') (hv : v = v') : Nxt a mb wb bb c n g f' l' w v' e w' :=
  ⟨hv ▸ h.1, h.2.1.ext hf hl, h.2.2⟩
/-- What was laid is there. -/
theorem ovr_get {l b : List UInt8} {k m : Nat} (hk : k ≤ l.length) (hm : m ≤ b.length) : ((ovr l k b).drop k).take m = b.take m := by
  have h : (l.take k).length = k := by simp; omega
  unfold ovr
  rw [List.drop_append_of_le_length (by omega), List.drop_of_length_le (by omega), List.nil_append, List.take_append_of_le_length hm]
def F0 : Nat → Bool := fun _ => false
def L0 : List UInt8 := List.replicate 4096 0
theorem L0_len : L0.length = 4096 := List.length_replicate ..
section
variable {a mb wb bb c : Nat} {f f' : Nat → Bool} {l l' : List UInt8} {w : World}
theorem store6 (H : ArAt w a mb wb bb c 4096 256 f l) (at_ : Nat) (k : Int) (v : Nat) (la : at_ < 4294967296) (lv : v < 4294967296) (r : Bool) (hr : (isW k && thr 4096 at_ (putB [] k v).length) = r) (hf : ∀ j, stF 4096 f at_ (putB [] k v).length j = f' j) (hl : stL 4096 l at_ (putB [] k v) = l') :
    Calls Tryz.prog 30 #[.pointer (some ⟨a, 0, none⟩), .int .u32 at_, .int .i64 k, .int .u32 v] w (Nxt a mb wb bb c 4096 256 f' l' w (.bool r)) :=
  (astore_any H k v at_ la lv).mono fun e w' h => h.ext hf hl (by rw [hr])
/-- The capability of 64 bytes from 256 on. -/
def c64 : Value := .agg #[.int .u32 256, .int .u8 0, .int .u16 256, .int .u16 320, .int .u16 3, .int .u16 0, .int .u32 0, .bool true]
def c64B : List UInt8 := bytesC 256 0 256 320 3 0 0
theorem c64B_len : c64B.length = 16 := bytesC_length ..
def L1 : List UInt8 := ovr L0 4094 [3, 2]
def F3 : Nat → Bool := fun j => decide (j = 2)
def L3 : List UInt8 := ovr L1 32 c64B
def L4 : List UInt8 := ovr L3 47 [0]
theorem L1_len : L1.length = 4096 := (ovr_length (by rw [L0_len]; decide)).trans L0_len
theorem L3_len : L3.length = 4096 := (ovr_length (by rw [L1_len, c64B_len]; decide)).trans L1_len
theorem make64 (w : World) : Calls Tryz.prog 68 #[.agg #[.int .u32 256, .int .u32 64], .int .u16 3] w fun ee w' => ee = .returned (.tuple #[c64, .bool true]) ∧ Below w.heap.size w w' :=
  (pMake_yes 256 64 3 (by decide) (by decide) (by decide) (by decide +kernel) w).mono fun ee w' h => ⟨h.1.trans (by kernel_rfl), h.2⟩
theorem capV_c64 (v : Bool) : capV c64B v = .agg #[.int .u32 256, .int .u8 0, .int .u16 256, .int .u16 320, .int .u16 3, .int .u16 0, .int .u32 0, .bool v] := by
  have h := nm_bytes (cu := 256) (e := 0) (b := 256) (t := 320) (pm := 3) (ty := 0) (rs := 0) (by decide) (by decide) (by decide) (by decide) (by decide) (by decide) (by decide)
  unfold capV c64B
  rw [h.1, h.2.1, h.2.2.1, h.2.2.2.1, h.2.2.2.2.1, h.2.2.2.2.2.1, h.2.2.2.2.2.2]
  rw [show sndP 0 256 320 3 0 0 = true from by decide, Bool.and_true]
  rfl
theorem L3_at : (L3.drop 32).take 16 = c64B := by
  unfold L3
  rw [ovr_get (by rw [L1_len]; decide) (by rw [c64B_len]; decide)]
  exact List.take_of_length_le (by rw [c64B_len]; decide)
theorem stF_F0 (n at_ k j : Nat) : stF n F0 at_ k j = F0 j := by
  unfold stF
  split <;> simp [clr, F0]
theorem s1 (H : ArAt w a mb wb bb c 4096 256 F0 L0) : Calls Tryz.prog 30 #[.pointer (some ⟨a, 0, none⟩), .int .u32 4094, .int .i64 2, .int .u32 515] w (Nxt a mb wb bb c 4096 256 F0 L1 w (.bool true)) :=
  store6 H 4094 2 515 (by decide) (by decide) true (by decide) (fun j => stF_F0 _ _ _ j) (by rfl)
theorem s2 (H : ArAt w a mb wb bb c 4096 256 F0 L1) : Calls Tryz.prog 30 #[.pointer (some ⟨a, 0, none⟩), .int .u32 4095, .int .i64 2, .int .u32 1] w (Nxt a mb wb bb c 4096 256 F0 L1 w (.bool false)) :=
  store6 H 4095 2 1 (by decide) (by decide) false (by decide) (fun j => stF_F0 _ _ _ j) (by rfl)
theorem s3 (H : ArAt w a mb wb bb c 4096 256 F0 L1) : Calls Tryz.prog 57 #[.pointer (some ⟨a, 0, none⟩), .int .u32 4094, .int .i64 1] w fun e w' => e = .returned (.tuple #[.int .u32 3, .bool true]) ∧ Below w.heap.size w w' := by
  have h := aload_any H 4094 1 (by decide)
  have e1 : getB L1 (4094 : Nat) 1 = 3 := by
    unfold getB
    rw [if_pos (by rw [L1_len]; decide)]
    show le ((L1.drop 4094).take 1) = 3
    unfold L1
    rw [ovr_get (by rw [L0_len]; decide) (by decide)]
    rfl
  rw [e1] at h
  exact h
theorem s4 (H : ArAt w a mb wb bb c 4096 256 F0 L1) : Calls Tryz.prog 32 #[.pointer (some ⟨a, 0, none⟩), .int .u32 32, c64] w (Nxt a mb wb bb c 4096 256 F3 L3 w (.bool true)) :=
  (ascap_any H 256 0 256 320 3 0 0 true 32 (by decide) (by decide) (by decide) (by decide) (by decide) (by decide) (by decide) (by decide)).mono fun e w' h => h.ext (fun j => by
    rw [show (true && sndP 0 256 320 3 0 0) = true from by decide]
    unfold scF
    rw [if_pos (by decide)]
    simp [upd, clr, F0, F3]) (by unfold scL; rw [if_pos (by decide)]; rfl) (by rw [show grn 4096 32 = true from by decide])
theorem s5 (H : ArAt w a mb wb bb c 4096 256 F3 L3) : Calls Tryz.prog 62 #[.pointer (some ⟨a, 0, none⟩), .int .u32 32] w fun e w' => e = .returned (.tuple #[c64, .bool true]) ∧ Below w.heap.size w w' := by
  have h := alcap_yes H 32 (by decide) (by decide)
  rw [L3_at, show F3 (32 / 16) = true from by decide, capV_c64] at h
  exact h
theorem s6 (H : ArAt w a mb wb bb c 4096 256 F3 l) : Calls Tryz.prog 55 #[.pointer (some ⟨a, 0, none⟩), .int .i64 0] w (ListPost w [32]) := by
  have h := atag_any H (by decide) 0 (by decide)
  rw [show tgP F3 256 0 = [32] from by decide +kernel] at h
  exact h
theorem s7 (H : ArAt w a mb wb bb c 4096 256 F3 L3) : Calls Tryz.prog 30 #[.pointer (some ⟨a, 0, none⟩), .int .u32 47, .int .i64 1, .int .u32 0] w (Nxt a mb wb bb c 4096 256 F0 L4 w (.bool true)) :=
  store6 H 47 1 0 (by decide) (by decide) true (by decide) (fun j => by
    unfold stF
    rw [if_pos (by decide)]
    simp only [clr, tch, F3, F0]
    rw [Bool.eq_false_iff]
    simp [putB, isW, leB]
    omega) (by rfl)
theorem s8 (H : ArAt w a mb wb bb c 4096 256 F0 l) : Calls Tryz.prog 62 #[.pointer (some ⟨a, 0, none⟩), .int .u32 32] w fun e w' => e = .returned (.tuple #[capV ((l.drop 32).take 16) false, .bool true]) ∧ Below w.heap.size w w' :=
  alcap_yes H 32 (by decide) (by decide)
theorem s9 (H : ArAt w a mb wb bb c 4096 256 F0 l) : Calls Tryz.prog 55 #[.pointer (some ⟨a, 0, none⟩), .int .i64 0] w (ListPost w []) := by
  have h := atag_any H (by decide) 0 (by decide)
  rw [show tgP F0 256 0 = [] from by decide +kernel] at h
  exact h
end

theorem own_rw {w : World} {base q n c : Nat} {e : TypeId} {xs : List Value} (h : w.ownsRow base e 1 (.slice (some ⟨q, 0, none⟩) n c) n xs) : (⟨q, xs⟩ : Rw).at w := by
  refine ⟨(h.lt q rfl).2, fun j => ?_, fun j u hu => ?_⟩
  · rcases h.2 with ⟨e, _⟩ | ⟨g, cap, cur, e, h1, h2, h3⟩
    · cases e
    · cases e
      simp [World.frozen?, h2]
  · have := h.cells (g := q) rfl j u hu
    rwa [Addr.add_lit, Nat.zero_add] at this
/-- An arena, and boxes, in a world that came of W1. -/
structure St (W1 : World) (a mb wb bb c n g : Nat) (f : Nat → Bool) (l : List UInt8) (L : List Rw) (w : World) : Prop where
  ar : ArAt w a mb wb bb c n g f l
  of : Of2 W1.heap.size wb bb W1 w
  rs : RS L w
  ne : ∀ x, x ∈ L → x.g ≠ wb ∧ x.g ≠ bb
section
variable {W1 : World} {a mb wb bb c n g : Nat} {f f' : Nat → Bool} {l l' : List UInt8} {L : List Rw} {w w' : World}
theorem St.first (h : ArAt w a mb wb bb c n g f l) : St w a mb wb bb c n g f l [] w := ⟨h, Of2.refl _ _ _ _, RS.nil _, fun x hx => by cases hx⟩
theorem St.below (h : St W1 a mb wb bb c n g f l L w) (k : Below w.heap.size w w') : St W1 a mb wb bb c n g f l L w' := ⟨h.ar.below k, h.of.step (Of2.of_below k), h.rs.below k, h.ne⟩
theorem St.nxt (h : St W1 a mb wb bb c n g f l L w) (k : ArAt w' a mb wb bb c n g f' l' ∧ Of2 w.heap.size wb bb w w') : St W1 a mb wb bb c n g f' l' L w' := ⟨k.1, h.of.step k.2, h.rs.of2 k.2 h.ne, h.ne⟩
theorem St.push (h : St W1 a mb wb bb c n g f l L w) (vs : List Value) (ty : TypeId) : St W1 a mb wb bb c n g f l (⟨w.heap.size, vs⟩ :: L) (w.alloc (.cells vs.toArray ty)) :=
  ⟨h.ar.alloc _, h.of.step (Of2.of_below ((Below.refl _ _).alloc (Nat.le_refl _) _)), h.rs.push vs ty, fun x hx => by
    rcases List.mem_cons.1 hx with rfl | hx
    · have h1 := h.ar.lb
      have h2 := h.ar.m.lw
      exact ⟨by show w.heap.size ≠ wb; omega, by show w.heap.size ≠ bb; omega⟩
    · exact h.ne x hx⟩
theorem St.drew (h : St W1 a mb wb bb c n g f l L w) : St W1 a mb wb bb c n g f l L w.drew := h.below (Below.refl _ _).drew
theorem St.sub {L' : List Rw} (h : St W1 a mb wb bb c n g f l L w) (hs : ∀ x, x ∈ L' → x ∈ L) : St W1 a mb wb bb c n g f l L' w := ⟨h.ar, h.of, fun x hx => h.rs x (hs x hx), fun x hx => h.ne x (hs x hx)⟩
/-- A list that a call has handed back. -/
theorem St.list (h : St W1 a mb wb bb c n g f l L w) {lst : List Nat} {e : Ending} (k : ListPost w lst e w') (h0 : 0 < lst.length) : ∃ q c', e = .returned (.slice (some ⟨q, 0, none⟩) lst.length c') ∧ St W1 a mb wb bb c n g f l (⟨q, lst.map u32v⟩ :: L) w' := by
  obtain ⟨v, rfl, o, b⟩ := k
  have o' := o
  rcases o.2 with ⟨_, e⟩ | ⟨q, cap, cur, rfl, h1, h2⟩
  · omega
  · refine ⟨q, cap, rfl, (h.below b).ar, (h.below b).of, fun x hx => ?_, fun x hx => ?_⟩
    · rcases List.mem_cons.1 hx with rfl | hx
      · exact own_rw o'
      · exact (h.below b).rs x hx
    · rcases List.mem_cons.1 hx with rfl | hx
      · have h3 := h.ar.lb
        have h4 := h.ar.m.lw
        exact ⟨by show q ≠ wb; omega, by show q ≠ bb; omega⟩
      · exact h.ne x hx
end
theorem list_nil {w w' : World} {e : Ending} (k : ListPost w [] e w') : e = .returned (.slice none 0 0) ∨ (∃ q c', e = .returned (.slice (some ⟨q, 0, none⟩) 0 c')) := by
  obtain ⟨v, rfl, o, b⟩ := k
  rcases o.2 with ⟨e, _⟩ | ⟨q, cap, cur, e, h1, h2⟩
  · exact .inl (by rw [e])
  · exact .inr ⟨q, cap, by rw [e]; rfl⟩
end Go.Proofs.YtkmgdfcambdeeaaGreatDoor
