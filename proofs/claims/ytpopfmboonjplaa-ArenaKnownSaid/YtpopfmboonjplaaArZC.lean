/- Contracts of layer arena: New, Copy. No statement is proved here.; Contracts of layer arena: Copy. No statement is proved here.; Contracts of layer arena: Tagged. No statement is proved here. -/
import Derived.Test.YtpopfmboonjplaaArZB
import Derived.Deep.RegionWith
import Derived.Laws.AppendOwn
import Derived.Test.YtpopfmboonjplaaTagP
import Derived.Deep.LoopGhost
namespace Go.Proofs.Ytpopfmboonjplaa
open Go.RowKit
set_option linter.unusedVariables false

theorem anew_no (p : Int) (w : World) (h : p < 16) : Calls Try.prog 14 #[.int .i64 p] w fun e w' => e = .returned (.tuple #[.pointer none, .int .i64 2]) ∧ w = w' := by
  go_enter Try.func14, Try.ntmps14
  go_wp2
  go_ret2
  exact ⟨rfl, rfl⟩
theorem anew_long (p : Int) (w : World) (h : 1024 < p) : Calls Try.prog 14 #[.int .i64 p] w fun e w' => e = .returned (.tuple #[.pointer none, .int .i64 3]) ∧ w = w' := by
  have h' : ¬ p < 16 := by omega
  go_enter Try.func14, Try.ntmps14
  go_wp2
  go_ret2
  exact ⟨rfl, rfl⟩
theorem below_undrew {B : Nat} {w X : World} (h : Below B w.drew X) : Below B w X := ⟨h.os, h.tape, h.output, h.size, h.block⟩
theorem made_own (n : Nat) (w : World) (h : n ≤ 262144) : (w.alloc (.cells (madeCells #[.int .u8 0] n) 5)).ownsRow 0 5 1 (.slice (some ⟨w.heap.size, 0, none⟩) n n) n ((List.replicate n (0 : UInt8)).map vb) := by
  refine ⟨by simp, .inr ⟨w.heap.size, n, madeCells #[.int .u8 0] n, rfl, Nat.zero_le _, heap_alloc_new w _, Nat.le_refl _, by unfold maxLen; omega, by simp [madeCells], ?_⟩⟩
  have e : madeCells #[Value.int .u8 0] n = (List.replicate n (Value.int .u8 0)).toArray := by
    apply Array.ext
    · simp [madeCells]
    · intro i h1 h2
      simp [madeCells, Nat.mod_one]
  rw [e]
  simp [vb]
/-- The arena's own block, laid last. -/
theorem ArAt.made {V : World} {mb wb bb c n g : Nat} {f : Nat → Bool} {l : List UInt8} (m : MapAt V mb wb g f) (o : V.ownsRow 0 5 1 (.slice (some ⟨bb, 0, none⟩) n c) n (l.map vb)) (hn : n = 16 * g) (lo : 256 ≤ g) (hi : g ≤ 16384) (n3 : mb ≠ bb) (n4 : wb ≠ bb) (T : TypeId) :
    ArAt (V.alloc (.cells #[.pointer (some ⟨mb, 0, none⟩), .slice (some ⟨bb, 0, none⟩) n c] T)) V.heap.size mb wb bb c n g f l := by
  have hb := (o.lt bb rfl).2
  have hw := m.lw
  exact ⟨by simp, by simp, m.alloc _, ownsRow_block o (Below.heap_alloc _ _ _ hb), hn, lo, hi, by simp, by omega, by omega, n3, n4⟩
/-- An arena has been made: its blocks are new. -/
def Made (w : World) (g : Nat) (f : Nat → Bool) (l : List UInt8) (a : Nat) (w' : World) : Prop :=
  ∃ mb wb bb c, ArAt w' a mb wb bb c (16 * g) g f l ∧ Below w.heap.size w w' ∧ w.heap.size ≤ a ∧ w.heap.size ≤ mb ∧ w.heap.size ≤ wb ∧ w.heap.size ≤ bb
set_option maxRecDepth 100000 in
set_option maxHeartbeats 1000000 in
theorem anew_yes (p : Nat) (w : World) (h1 : 16 ≤ p) (h2 : p ≤ 1024) : Calls Try.prog 14 #[.int .i64 p] w fun e w' => ∃ a, e = .returned (.tuple #[.pointer (some ⟨a, 0, none⟩), .int .i64 0]) ∧ Made w (16 * p) (fun _ => false) (List.replicate (256 * p) 0) a w' := by
  have hN : ∀ w, Calls Try.prog 41 #[.int .i64 ((p : Int) * 16)] w fun e w' => e = .returned (.pointer (some ⟨w.heap.size + 1, 0, none⟩)) ∧ MapAt w' (w.heap.size + 1) w.heap.size (16 * p) (fun _ => false) ∧ Below w.heap.size w w' ∧ w.heap.size + 2 = w'.heap.size := fun w => by
    have := new_yes (16 * p) w (by omega)
    rw [show ((16 * p : Nat) : Int) = (p : Int) * 16 from by omega] at this
    exact this
  have hmk : ∀ w, (Instr.makeSlice 28 (.int .i64 ((p : Int) * 256)) (.int .i64 ((p : Int) * 256))).run Try.prog w = .ok (.slice (some ⟨w.heap.size, 0, none⟩) (256 * p) (256 * p)) (w.alloc (.cells (madeCells #[.int .u8 0] (256 * p)) 5)) := fun w => by
    have e : (p : Int) * 256 = ((256 * p : Nat) : Int) := by omega
    rw [e]
    exact run_make_row' 28 5 (.int .u8 0) 1 Try.underlying28 info_u8 rfl .i64 .i64 (256 * p) (by omega) (by omega) w
  have i1 : ¬ (p : Int) < 16 := by omega
  have i2 : ¬ (p : Int) > 1024 := by omega
  have i3 : IntKind.i64.wrap ((p : Int) * 16) = (p : Int) * 16 := by rw [IntKind.wrap_i64]; omega
  have i4 : IntKind.i64.wrap ((p : Int) * 256) = (p : Int) * 256 := by rw [IntKind.wrap_i64]; omega
  have hfin : ∀ V mb wb bb T, MapAt V mb wb (16 * p) (fun _ => false) → V.ownsRow 0 5 1 (.slice (some ⟨bb, 0, none⟩) (256 * p) (256 * p)) (256 * p) ((List.replicate (256 * p) (0 : UInt8)).map vb) → mb ≠ bb → wb ≠ bb → Below w.heap.size w V → w.heap.size ≤ mb → w.heap.size ≤ wb → w.heap.size ≤ bb →
      Made w (16 * p) (fun _ => false) (List.replicate (256 * p) 0) V.heap.size (V.alloc (.cells #[.pointer (some ⟨mb, 0, none⟩), .slice (some ⟨bb, 0, none⟩) (256 * p) (256 * p)] T)) := fun V mb wb bb T m o n3 n4 hb x1 x2 x3 => by
    have := ArAt.made m o (by omega) (by omega) (by omega) n3 n4 T
    refine ⟨mb, wb, bb, 256 * p, ?_, hb.alloc hb.size _, hb.size, x1, x2, x3⟩
    rw [show 16 * (16 * p) = 256 * p from by omega]
    exact this
  have hp := Lib.hid (And.intro h1 h2)
  replace hN := Lib.hid hN
  replace hfin := Lib.hid hfin
  clear h1 h2
  go_enter Try.func14, Try.ntmps14
  go_wp2_with fail
  go_region_with (go_at_call 41; refine (hN.out _).mono ?_; rintro e X ⟨rfl, x1, x2, x3⟩; have hX := Lib.hid (And.intro x1 (And.intro x2 x3)); clear x1 x2 x3)
  · have hE := Lib.hid (hfin.out (X.alloc (.cells (madeCells #[.int .u8 0] (256 * p)) 5)) (w.heap.size + 1) w.heap.size X.heap.size 71 (hX.out.1.alloc _) (made_own _ _ (by have := hp.out; omega)) (by have := hX.out.2.2; simp at this; omega) (by have := hX.out.2.2; simp at this; omega)
      ((below_undrew (B := w.heap.size) hX.out.2.1).alloc hX.out.2.1.size _) (by omega) (Nat.le_refl _) hX.out.2.1.size)
    clear hX
    go_wp2
    go_ret2
    exact ⟨_, rfl, by have := hE.out; rw [World.size_alloc] at this; exact this⟩
  · have hE := Lib.hid (hfin.out X (w.heap.size + 1 + 1) (w.heap.size + 1) w.heap.size 71 (by have := hX.out.1; simp at this; exact this) (ownsRow_block (made_own (256 * p) w (by have := hp.out; omega)) ((below_undrew (w := w.alloc (.cells (madeCells #[.int .u8 0] (256 * p)) 5)) hX.out.2.1).block _ (by show w.heap.size < (w.alloc (.cells (madeCells #[.int .u8 0] (256 * p)) 5)).heap.size; simp))) (by omega) (by omega)
      (((Below.refl w.heap.size w).alloc (Nat.le_refl _) _).trans ((below_undrew (w := w.alloc (.cells (madeCells #[.int .u8 0] (256 * p)) 5)) hX.out.2.1).mono (by show w.heap.size ≤ (w.alloc (.cells (madeCells #[.int .u8 0] (256 * p)) 5)).heap.size; simp))) (by omega) (by omega) (Nat.le_refl _))
    clear hX
    go_wp2
    go_ret2
    exact ⟨_, rfl, hE.out⟩
end Go.Proofs.Ytpopfmboonjplaa
namespace Go.Proofs.Ytpopfmboonjplaa
open Go.RowKit
set_option linter.unusedVariables false

set_option maxRecDepth 100000 in
theorem aclone (bb c n : Nat) (l : List UInt8) (w : World) (h0 : 0 < n) (hn : n ≤ 262144) (o : w.ownsRow 0 5 1 (.slice (some ⟨bb, 0, none⟩) n c) n (l.map vb)) :
    Calls Try.prog 44 #[.slice (some ⟨bb, 0, none⟩) n c] w fun e w' => ∃ q c', e = .returned (.slice (some ⟨q, 0, none⟩) n c') ∧ w'.ownsRow 0 5 1 (.slice (some ⟨q, 0, none⟩) n c') n (l.map vb) ∧ Below w.heap.size w w' ∧ w.heap.size ≤ q := by
  obtain ⟨i0, hi, hz0, hz1, hz2⟩ := info_parts info8
  have hO := Lib.hid o
  have h0' := Lib.hid (And.intro h0 hn)
  clear o h0 hn
  have he : ∀ w : World, (binOp .eql 28 (.slice (some ⟨bb, 0, none⟩) n c) (.slice none 0 0)).run Try.prog w = .ok (.bool false) w := fun _ => rfl
  go_enter Try.func44, Try.ntmps44
  have hlen : l.length = n := by simpa using hO.out.1
  have hcap : n ≤ c := by
    rcases hO.out.2 with ⟨e, _⟩ | ⟨g', cap, cur, e, h1, h2, h3, _⟩
    · cases e
    · cases e; exact h3
  have hlb := (hO.out.lt bb rfl).2
  replace hlen := Lib.hid hlen
  replace hcap := Lib.hid hcap
  replace hlb := Lib.hid hlb
  go_wp2_with (at_builtin; refine wpList_append_own _ rfl _ _ 28 rfl w.heap.size 5 i0 (.int .u8 0) 1 1 Try.underlying28 hi hz0 hz1 hz2 rfl (by decide) _ _ _ rfl (World.ownsRow_made (base := w.heap.size) w #[] 0 (Nat.le_refl _) (by unfold maxLen; omega) rfl) ⟨bb, 0, none⟩ n c (l.map vb) rfl ?c0 ?c1 ?c2 ?c3 ?c4 ?c5 ?_)
  case c0 => rw [List.length_map, hlen.out]; omega
  case c1 =>
    intro j u hu
    have h1 := hO.out.cells (g := bb) rfl j u hu
    rw [Addr.add_lit] at h1 ⊢
    exact (World.cell?_alloc_lt _ _ _ (by exact hlb.out)).trans h1
  case c2 =>
    intro u hu
    obtain ⟨x, _, rfl⟩ := List.mem_map.1 hu
    rfl
  case c3 => have := h0'.out.2; unfold maxLen; omega
  case c4 => have := h0'.out.2; omega
  case c5 => simp
  · intro v' w1 hown' hgrow _
    have hb := (((Below.refl w.heap.size w).alloc (Nat.le_refl _) (.cells #[] 5))).trans ((Below.refl w.heap.size (w.alloc (.cells #[] 5))).grown hgrow (by simp) (fun k hk => by simp [Value.ownBlock] at hk; omega))
    have hE : ∃ q c', v' = .slice (some ⟨q, 0, none⟩) n c' ∧ w1.ownsRow 0 5 1 (.slice (some ⟨q, 0, none⟩) n c') n (l.map vb) ∧ Below w.heap.size w w1 ∧ w.heap.size ≤ q := by
      rcases hown'.2 with ⟨_, e⟩ | ⟨q, cap, cur, e, h1, h2, h3⟩
      · have := h0'.out.1; omega
      · exact ⟨q, cap, e, ⟨hown'.1, .inr ⟨q, cap, cur, rfl, Nat.zero_le _, h2, h3⟩⟩, hb, h1⟩
    obtain ⟨q, c', rfl, hE⟩ := hE
    replace hE := Lib.hid hE
    clear hown' hgrow hb
    go_wp2
    go_ret
    exact ⟨q, c', rfl, hE.out⟩
section
variable {a mb wb bb c n g : Nat} {f : Nat → Bool} {l : List UInt8} {w : World}
set_option maxRecDepth 100000 in
set_option maxHeartbeats 2000000 in
theorem acopy_any (H : ArAt w a mb wb bb c n g f l) : Calls Try.prog 17 #[.pointer (some ⟨a, 0, none⟩)] w fun e w' => ∃ a', e = .returned (.pointer (some ⟨a', 0, none⟩)) ∧ Made w g f l a' w' := by
  have hO := Lib.hid (aown H)
  have hH := Lib.hid H
  have hMC := fun (w' : World) (h : ArAt w' a mb wb bb c n g f l) => copy_any mb wb g f w' h.m
  have hCl := fun (w' : World) (h : ArAt w' a mb wb bb c n g f l) => aclone bb c n l w' (by have := h.l0; omega) h.ln h.own
  replace hMC := Lib.hid hMC
  replace hCl := Lib.hid hCl
  clear H
  go_enter Try.func17, Try.ntmps17
  go_wp2_with fail
  refine hO.out.mono ?_
  rintro e w2 ⟨rfl, hb⟩
  have K1 := Lib.hid ((RS.nil w2).push [.pointer (some ⟨mb, 0, none⟩), .slice (some ⟨bb, 0, none⟩) n c] 69)
  have B1 := Lib.hid (hb.alloc hb.size (.cells #[.pointer (some ⟨mb, 0, none⟩), .slice (some ⟨bb, 0, none⟩) n c] 69))
  clear hb
  have tr : ∀ w', (w'.cell? ⟨w2.heap.size, 0, none⟩ = some (.pointer (some ⟨mb, 0, none⟩)) ∧ w'.cell? ⟨w2.heap.size, 1, none⟩ = some (.slice (some ⟨bb, 0, none⟩) n c) ∧ RS [⟨w2.heap.size, [.pointer (some ⟨mb, 0, none⟩), .slice (some ⟨bb, 0, none⟩) n c]⟩] w') → RS [⟨w2.heap.size, [.pointer (some ⟨mb, 0, none⟩), .slice (some ⟨bb, 0, none⟩) n c]⟩] w' := fun w' h => h.2.2
  have all : ∀ w', RS [⟨w2.heap.size, [.pointer (some ⟨mb, 0, none⟩), .slice (some ⟨bb, 0, none⟩) n c]⟩] w' → w'.cell? ⟨w2.heap.size, 0, none⟩ = some (.pointer (some ⟨mb, 0, none⟩)) ∧ w'.cell? ⟨w2.heap.size, 1, none⟩ = some (.slice (some ⟨bb, 0, none⟩) n c) ∧ RS [⟨w2.heap.size, [.pointer (some ⟨mb, 0, none⟩), .slice (some ⟨bb, 0, none⟩) n c]⟩] w' := fun w' h => ⟨h.cell (g := w2.heap.size) [.pointer (some ⟨mb, 0, none⟩), .slice (some ⟨bb, 0, none⟩) n c] (by simp) rfl, h.cell (g := w2.heap.size) [.pointer (some ⟨mb, 0, none⟩), .slice (some ⟨bb, 0, none⟩) n c] (by simp) rfl, h⟩
  replace tr := Lib.hid tr
  replace all := Lib.hid all
  go_wp2_with fail
  generalize (w2.alloc (.cells #[.pointer (some ⟨mb, 0, none⟩), .slice (some ⟨bb, 0, none⟩) n c] 69)) = w3 at *
  have j0 := all.out _ K1.out.drew
  have A0 := Lib.hid ((hH.out.below B1.out).drew)
  have B0 := Lib.hid B1.out.drew
  have s0 := Lib.hid (show w3.drew.heap.size = w3.heap.size from rfl)
  go_region_held (fun w' => w'.cell? ⟨w2.heap.size, 0, none⟩ = some (.pointer (some ⟨mb, 0, none⟩)) ∧ w'.cell? ⟨w2.heap.size, 1, none⟩ = some (.slice (some ⟨bb, 0, none⟩) n c) ∧ RS [⟨w2.heap.size, [.pointer (some ⟨mb, 0, none⟩), .slice (some ⟨bb, 0, none⟩) n c]⟩] w')
    (first | with_reducible exact j0 | with_reducible exact j1 | with_reducible exact j2 | with_reducible exact j3)
    (first
      | (go_at_call 43; ((with_reducible refine (hMC.out _ A0.out).mono ?_); rintro ee X ⟨rfl, m1, g1, z1⟩; have j1 := all.out _ ((tr.out _ j0).below g1); have A1 := Lib.hid (A0.out.below g1); have B2 := Lib.hid (B0.out.trans (g1.mono (by exact B0.out.size))); have M1 := Lib.hid (And.intro m1 (And.intro z1 g1)); clear m1 g1 z1))
      | (go_at_call 44; ((with_reducible refine (hCl.out _ A1.out).mono ?_); rintro ee Y ⟨q, c', rfl, o1, g1, hq⟩; have j2 := all.out _ ((tr.out _ j1).below g1); have j3 := all.out _ ((tr.out _ j2).below ((Below.refl _ Y).alloc (Nat.le_refl _) (.cells #[.pointer (some ⟨w3.heap.size + 1, 0, none⟩), .slice (some ⟨q, 0, none⟩) n c'] 71))); have O1 := Lib.hid (And.intro o1 (And.intro hq g1)); clear o1 g1 hq)))
  have hE : Made w g f l Y.heap.size (Y.alloc (.cells #[.pointer (some ⟨w3.heap.size + 1, 0, none⟩), .slice (some ⟨q, 0, none⟩) n c'] 71)) := by
    have z1 : w3.heap.size + 2 = X.heap.size := M1.out.2.1
    have z2 := O1.out.2.1
    have z3 := B1.out.size
    have hY : Below w.heap.size w Y := (B1.out.trans ((below_undrew M1.out.2.2).mono z3)).trans (O1.out.2.2.mono (by omega))
    refine ⟨w3.heap.size + 1, w3.heap.size, q, c', ?_, hY.alloc hY.size _, hY.size, by omega, z3, by omega⟩
    rw [← hH.out.hn]
    exact ArAt.made (mb := w3.heap.size + 1) (wb := w3.heap.size) (bb := q) (M1.out.1.below O1.out.2.2 (Nat.lt_of_lt_of_eq (Nat.lt_succ_self _) M1.out.2.1) (Nat.lt_of_lt_of_eq (Nat.lt_add_of_pos_right (by decide)) M1.out.2.1)) O1.out.1 hH.out.hn hH.out.lo hH.out.hi (by omega) (by omega) _
  replace hE := Lib.hid hE
  clear j0 j1 j2 j3 M1 O1
  go_wp2
  go_ret
  exact ⟨_, rfl, hE.out⟩
end
end Go.Proofs.Ytpopfmboonjplaa
namespace Go.Proofs.Ytpopfmboonjplaa
open Go.RowKit
set_option linter.unusedVariables false

/-- The addresses of the k granules from a on whose tag is set. -/
def tgl (f : Nat → Bool) (a : Nat) : Nat → List Nat
  | 0 => []
  | k + 1 => tgl f a k ++ (if f (a + k) then [16 * (a + k)] else [])
theorem tgl_none {f : Nat → Bool} {a : Nat} : ∀ {k : Nat}, (∀ j, j < k → f (a + j) = false) → tgl f a k = []
  | 0, _ => rfl
  | k + 1, h => by rw [tgl, tgl_none (fun j hj => h j (by omega)), h k (by omega)]; rfl
theorem tgl_add (f : Nat → Bool) (a k : Nat) : ∀ m, tgl f a (k + m) = tgl f a k ++ tgl f (a + k) m
  | 0 => by simp [tgl]
  | m + 1 => by rw [← Nat.add_assoc, tgl, tgl_add f a k m, tgl, List.append_assoc, Nat.add_assoc]
theorem tgl_congr {f h : Nat → Bool} {a : Nat} : ∀ {k : Nat}, (∀ j, j < k → f (a + j) = h (a + j)) → tgl f a k = tgl h a k
  | 0, _ => rfl
  | k + 1, e => by rw [tgl, tgl, tgl_congr (fun j hj => e j (by omega)), e k (by omega)]
theorem tgl_len (f : Nat → Bool) (a : Nat) : ∀ k, (tgl f a k).length ≤ k
  | 0 => Nat.le_refl _
  | k + 1 => by
    have := tgl_len f a k
    rw [tgl, List.length_append]
    split <;> simp <;> omega
/-- The page's granules among all. -/
theorem tgl_page {f : Nat → Bool} {p g : Nat} (h : 16 * p + 16 ≤ g) : tgl (fun i => f i && decide (i / 16 = p)) 0 g = tgl f (16 * p) 16 := by
  obtain ⟨d, rfl⟩ : ∃ d, g = 16 * p + (16 + d) := ⟨g - (16 * p + 16), by omega⟩
  rw [tgl_add, tgl_add, tgl_none (k := 16 * p) (fun j hj => by simp; omega), tgl_none (k := d) (fun j hj => by simp; omega), List.nil_append, List.append_nil, Nat.zero_add]
  exact tgl_congr fun j hj => by simp; omega
theorem tgl_no {f : Nat → Bool} {p : Int} {g : Nat} (h : p < 0 ∨ (g : Int) ≤ 16 * p) : tgl (fun i => f i && decide (((i / 16 : Nat) : Int) = p)) 0 g = [] :=
  tgl_none fun j hj => by simp; omega

def u32v (x : Nat) : Value := .int .u32 (x : Int)
/-- A call has handed back a list of numbers, in a row of its own. -/
def ListPost (w : World) (lst : List Nat) (e : Ending) (w' : World) : Prop :=
  ∃ v, e = .returned v ∧ w'.ownsRow w.heap.size 22 1 v lst.length (lst.map u32v) ∧ Below w.heap.size w w'
theorem info32 : (Try.prog.info? 22).map (fun i => (i.zero, i.size, i.bytes)) = some (some (.int .u32 0), 1, 4) := by kernel_rfl
section
variable {a mb wb bb c n g : Nat} {f : Nat → Bool} {l : List UInt8} {w : World}
set_option maxRecDepth 100000 in
theorem atag_no (H : ArAt w a mb wb bb c n g f l) (p : Int) (hp : -9223372036854775808 ≤ p ∧ p < 9223372036854775808) (h : p < 0 ∨ (g : Int) ≤ 16 * p) : Calls Try.prog 26 #[.pointer (some ⟨a, 0, none⟩), .int .i64 p] w (ListPost w []) := by
  have hO := Lib.hid (aown H)
  have hH := Lib.hid H
  have hg := Lib.hid (show g % 16 = g % 16 from rfl)
  by_cases h0 : p < 0
  · clear H h
    go_enter Try.func26, Try.ntmps26
    go_wp2_with fail
    refine hO.out.mono ?_
    rintro e w2 ⟨rfl, hb⟩
    have B1 := Lib.hid (hb.alloc hb.size (.cells #[.pointer (some ⟨mb, 0, none⟩), .slice (some ⟨bb, 0, none⟩) n c] 69))
    clear hb
    go_wp2
    go_ret
    exact ⟨_, rfl, World.ownsRow_nil _ _ _ _, B1.out⟩
  · have h2 : ¬ p < (g : Int) / 16 := by omega
    have h3 : (g : Int) / 16 ≤ p := by omega
    clear H h
    go_enter Try.func26, Try.ntmps26
    go_wp2_with fail
    refine hO.out.mono ?_
    rintro e w2 ⟨rfl, hb⟩
    have B1 := Lib.hid (hb.alloc hb.size (.cells #[.pointer (some ⟨mb, 0, none⟩), .slice (some ⟨bb, 0, none⟩) n c] 69))
    clear hb
    go_wp2_with fail
    refine (len_any mb wb g f _ (hH.out.below B1.out).m).mono ?_
    rintro e w3 ⟨rfl, rfl⟩
    go_wp2
    go_ret
    exact ⟨_, rfl, World.ownsRow_nil _ _ _ _, B1.out⟩
set_option maxRecDepth 100000 in
set_option maxHeartbeats 1000000 in
theorem atag_yes (H : ArAt w a mb wb bb c n g f l) (p : Nat) (h : 16 * p + 16 ≤ g) : Calls Try.prog 26 #[.pointer (some ⟨a, 0, none⟩), .int .i64 p] w (ListPost w (tgl f (16 * p) 16)) := by
  obtain ⟨i0, hi, hz0, hz1, hz2⟩ := info_parts info32
  have hO := Lib.hid (aown H)
  have hH := Lib.hid H
  have hi' := H.hi
  have h2 : (p : Int) < (g : Int) / 16 := by omega
  have h3 : (p : Int) < 2000 := by omega
  have h4 : ¬ (p : Int) < 0 := by omega
  have h5 : ¬ (g : Int) / 16 ≤ p := by omega
  have hp := Lib.hid h
  clear H h
  go_enter Try.func26, Try.ntmps26
  go_wp2_with fail
  refine hO.out.mono ?_
  rintro e w2 ⟨rfl, hb⟩
  have B1 := Lib.hid (hb.alloc hb.size (.cells #[.pointer (some ⟨mb, 0, none⟩), .slice (some ⟨bb, 0, none⟩) n c] 69))
  have K1 := Lib.hid ((RS.nil w2).push [.pointer (some ⟨mb, 0, none⟩), .slice (some ⟨bb, 0, none⟩) n c] 69)
  clear hb
  go_wp2_with fail
  generalize (w2.alloc (.cells #[.pointer (some ⟨mb, 0, none⟩), .slice (some ⟨bb, 0, none⟩) n c] 69)) = w3 at *
  refine (len_any mb wb g f _ (hH.out.below B1.out).m).mono ?_
  rintro e w4 ⟨rfl, rfl⟩
  have L1 := Lib.hid (show w2.heap.size < w3.heap.size from (K1.out ⟨w2.heap.size, [.pointer (some ⟨mb, 0, none⟩), .slice (some ⟨bb, 0, none⟩) n c]⟩ (by simp)).1)
  have cl := K1.out.cell (g := w2.heap.size) (j := 0) (u := .pointer (some ⟨mb, 0, none⟩)) [.pointer (some ⟨mb, 0, none⟩), .slice (some ⟨bb, 0, none⟩) n c] (by simp) rfl
  go_wp2_with fail
  clear h2 h4 h5
  go_loopw [6, 21] (fun b i wr => ∃ j : Nat, j ≤ 16 ∧ i = .int .i64 j ∧ wr.ownsRow w3.heap.size 22 1 b (tgl f (16 * p) j).length ((tgl f (16 * p) j).map u32v) ∧ Below w3.heap.size w3 wr) (fun _ i _ => 16 - (intOf i).toNat)
  case atStart => exact ⟨0, by omega, rfl, World.ownsRow_nil _ _ _ _, Below.refl _ _⟩
  case round =>
    obtain ⟨j, hj, rfl, hown2, hbl⟩ := hrel
    have hL := Lib.hid hbl
    have hOw := Lib.hid hown2
    have A2 := Lib.hid (((hH.out.below B1.out).below hbl).m)
    have cl2 := (hbl.cell (p := ⟨w2.heap.size, 0, none⟩) (by exact L1.out)).trans cl
    clear hown2 hbl cl
    by_cases hlt : j < 16
    · have hlt' : (j : Int) < 16 := by omega
      have s1 : IntKind.i64.wrap ((p : Int) * 16) = (p : Int) * 16 := by rw [IntKind.wrap_i64]; omega
      have s2 : IntKind.i64.wrap ((p : Int) * 16 + j) = (p : Int) * 16 + j := by rw [IntKind.wrap_i64]; omega
      have hG := Lib.hid (show Calls Try.prog 60 #[.pointer (some ⟨mb, 0, none⟩), .int .i64 ((p : Int) * 16 + j)] wr fun e W' => e = .returned (.bool (f (16 * p + j))) ∧ ∃ k, wr.drewN k = W' from by
        have := get_yes mb wb g f (16 * p + j) wr A2.out (by have := hp.out; omega)
        rw [show ((16 * p + j : Nat) : Int) = (p : Int) * 16 + j from by omega] at this
        exact this)
      go_wp2_with fail
      refine hG.out.mono ?_
      rintro e w5 ⟨rfl, k, rfl⟩
      have hO6 := Lib.hid (show (wr.drewN k).ownsRow w3.heap.size 22 1 u6 (tgl f (16 * p) j).length ((tgl f (16 * p) j).map u32v) from hOw.out)
      have hL6 := Lib.hid (below_drewN hL.out k)
      generalize wr.drewN k = w6 at *
      clear cl2 hG hOw hL A2
      rcases hv : f (16 * p + j) with _ | _
      · have hE := Lib.hid (show tgl f (16 * p) (j + 1) = tgl f (16 * p) j from by rw [tgl, hv]; simp)
        clear hv
        go_wp2
        go_roundw
        case rel => exact ⟨j + 1, by omega, by go_num, by rw [hE.out]; exact hO6.out, hL6.out⟩
        case measure => simp [intOf]; omega
      · have hE := Lib.hid (show tgl f (16 * p) (j + 1) = tgl f (16 * p) j ++ [16 * (16 * p + j)] from by rw [tgl, hv]; simp)
        have hlen := Lib.hid (tgl_len f (16 * p) j)
        have hp' := Lib.hid (show (16 * (16 * p + j) : Nat) < 4294967296 by omega)
        have s3 : IntKind.i64.wrap (((p : Int) * 16 + j) * 16) = ((p : Int) * 16 + j) * 16 := by rw [IntKind.wrap_i64]; omega
        have s4 : IntKind.u32.wrap (((p : Int) * 16 + j) * 16) = ((p : Int) * 16 + j) * 16 := by rw [IntKind.wrap_u32]; omega
        clear hv
        go_wp2_with (at_builtin; refine wpList_append_own _ rfl _ _ 62 rfl w3.heap.size 22 i0 (.int .u32 0) 1 4 Try.underlying62 hi hz0 hz1 hz2 rfl (by decide) _ _ _ rfl (hO6.out.alloc _) ⟨w6.heap.size, 0, none⟩ 1 1 [.int .u32 (((p : Int) * 16 + j) * 16)] rfl rfl ?c1 ?c2 ?c3 ?c4 ?c5 ?_)
        case c1 =>
          intro i u hu
          match i, hu with
          | 0, hu => simp at hu; subst hu; simp [Addr.add]
        case c2 => intro u hu; simp at hu; subst hu; rfl
        case c3 => have := hlen.out; unfold maxLen; omega
        case c4 => have := hlen.out; omega
        case c5 => have := hL6.out.size; simp; omega
        · intro v' w7 hown' hgrow _
          have hlo := hO6.out.lt
          have hL1 : Below w3.heap.size w3 w7 := below_own (hL6.out.alloc hL6.out.size _) hgrow (fun q hq => (hlo q hq).1) (by have := hL6.out.size; simp; omega)
          have hO1 : w7.ownsRow w3.heap.size 22 1 v' (tgl f (16 * p) (j + 1)).length ((tgl f (16 * p) (j + 1)).map u32v) := by
            rw [hE.out, List.map_append, List.length_append]
            have e1 : List.map u32v [16 * (16 * p + j)] = [.int .u32 (((p : Int) * 16 + j) * 16)] := by
              simp only [List.map_cons, List.map_nil, u32v]
              rw [show ((16 * (16 * p + j) : Nat) : Int) = ((p : Int) * 16 + j) * 16 from by omega]
            rw [e1]; exact hown'
          replace hL1 := Lib.hid hL1
          replace hO1 := Lib.hid hO1
          clear hown' hgrow hlo
          go_wp2
          go_roundw
          case rel => exact ⟨j + 1, by omega, by go_num, hO1.out, hL1.out⟩
          case measure => simp [intOf]; omega
    · obtain rfl : j = 16 := by omega
      go_wp2_with fail
      go_ret
      refine ⟨_, rfl, ⟨hOw.out.1, ?_⟩, ?_⟩
      · rcases hOw.out.2 with hn | ⟨q, cap, cur, e, h1, h2⟩
        · exact .inl hn
        · exact .inr ⟨q, cap, cur, e, by have := B1.out.size; omega, h2⟩
      · exact B1.out.trans (hL.out.mono B1.out.size)
/-- The addresses that a page's call tells. -/
def tgP (f : Nat → Bool) (g : Nat) (p : Int) : List Nat := tgl (fun i => f i && decide (((i / 16 : Nat) : Int) = p)) 0 g
theorem tgP_page {f : Nat → Bool} {p g : Nat} (h : 16 * p + 16 ≤ g) : tgP f g p = tgl f (16 * p) 16 := by
  unfold tgP
  rw [← tgl_page h]
  exact tgl_congr fun j hj => by congr 1; exact decide_eq_decide.2 (by omega)
theorem atag_any (H : ArAt w a mb wb bb c n g f l) (hg : g % 16 = 0) (p : Int) (hp : -9223372036854775808 ≤ p ∧ p < 9223372036854775808) : Calls Try.prog 26 #[.pointer (some ⟨a, 0, none⟩), .int .i64 p] w (ListPost w (tgP f g p)) := by
  by_cases h : p < 0 ∨ (g : Int) ≤ 16 * p
  · rw [show tgP f g p = [] from tgl_no h]
    exact atag_no H p hp h
  · obtain ⟨p, rfl⟩ := Int.eq_ofNat_of_zero_le (show 0 ≤ p by omega)
    rw [tgP_page (by omega)]
    exact atag_yes H p (by omega)
end
end Go.Proofs.Ytpopfmboonjplaa
