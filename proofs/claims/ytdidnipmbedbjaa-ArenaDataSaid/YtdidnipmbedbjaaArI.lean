/- Contracts of layer arena: Tagged. No statement is proved here. -/
import Derived.Test.YtdidnipmbedbjaaArH
import Derived.Deep.LoopGhost
namespace Go.Proofs.Ytdidnipmbedbjaa
open Go.RowKit
set_option linter.unusedVariables false

/-- The addresses of the k granules from a on whose tag is set. -/
def tgl (f : Nat → Bool) (a : Nat) : Nat → List Nat
  | 0 => []
  | k + 1 => tgl f a k ++ (if f (a + k) then [16 * (a + k)] else [])
theorem tgl_none {f : Nat → Bool} {a : Nat} : ∀ {k : Nat}, (∀ j, j < k → f (a + j) = false) → tgl f a k = []
  | 0, _ => rfl
  | k + 1, h => by rw [tgl, tgl_none (fun j hj => h j (by omega)), h k (by omega)]; rfl
theorem tgl_add (f : Nat → Bool) (a k : Nat) : ∀ m, tgl f a (k + m) = tgl f a k ++ tgl f (a + k) m
  | 0 => by simp [tgl]
  | m + 1 => by rw [← Nat.add_assoc, tgl, tgl_add f a k m, tgl, List.append_assoc, Nat.add_assoc]
theorem tgl_congr {f h : Nat → Bool} {a : Nat} : ∀ {k : Nat}, (∀ j, j < k → f (a + j) = h (a + j)) → tgl f a k = tgl h a k
  | 0, _ => rfl
  | k + 1, e => by rw [tgl, tgl, tgl_congr (fun j hj => e j (by omega)), e k (by omega)]
theorem tgl_len (f : Nat → Bool) (a : Nat) : ∀ k, (tgl f a k).length ≤ k
  | 0 => Nat.le_refl _
  | k + 1 => by
    have := tgl_len f a k
    rw [tgl, List.length_append]
    split <;> simp <;> omega
/-- The page's granules among all. -/
theorem tgl_page {f : Nat → Bool} {p g : Nat} (h : 16 * p + 16 ≤ g) : tgl (fun i => f i && decide (i / 16 = p)) 0 g = tgl f (16 * p) 16 := by
  obtain ⟨d, rfl⟩ : ∃ d, g = 16 * p + (16 + d) := ⟨g - (16 * p + 16), by omega⟩
  rw [tgl_add, tgl_add, tgl_none (k := 16 * p) (fun j hj => by simp; omega), tgl_none (k := d) (fun j hj => by simp; omega), List.nil_append, List.append_nil, Nat.zero_add]
  exact tgl_congr fun j hj => by simp; omega
theorem tgl_no {f : Nat → Bool} {p : Int} {g : Nat} (h : p < 0 ∨ (g : Int) ≤ 16 * p) : tgl (fun i => f i && decide (((i / 16 : Nat) : Int) = p)) 0 g = [] :=
  tgl_none fun j hj => by simp; omega

def u32v (x : Nat) : Value := .int .u32 (x : Int)
/-- A call has handed back a list of numbers, in a row of its own. -/
def ListPost (w : World) (lst : List Nat) (e : Ending) (w' : World) : Prop :=
  ∃ v, e = .returned v ∧ w'.ownsRow w.heap.size 22 1 v lst.length (lst.map u32v) ∧ Below w.heap.size w w'
theorem info32 : (Try.prog.info? 22).map (fun i => (i.zero, i.size, i.bytes)) = some (some (.int .u32 0), 1, 4) := by kernel_rfl
section
variable {a mb wb bb c n g : Nat} {f : Nat → Bool} {l : List UInt8} {w : World}
set_option maxRecDepth 100000 in
theorem atag_no (H : ArAt w a mb wb bb c n g f l) (p : Int) (hp : -9223372036854775808 ≤ p ∧ p < 9223372036854775808) (h : p < 0 ∨ (g : Int) ≤ 16 * p) : Calls Try.prog 28 #[.pointer (some ⟨a, 0, none⟩), .int .i64 p] w (ListPost w []) := by
  have hO := Lib.hid (aown H)
  have hH := Lib.hid H
  have hg := Lib.hid (show g % 16 = g % 16 from rfl)
  by_cases h0 : p < 0
  · clear H h
    go_enter Try.func28, Try.ntmps28
    go_wp2_with fail
    refine hO.out.mono ?_
    rintro e w2 ⟨rfl, hb⟩
    have B1 := Lib.hid (hb.alloc hb.size (.cells #[.pointer (some ⟨mb, 0, none⟩), .slice (some ⟨bb, 0, none⟩) n c] 81))
    clear hb
    go_wp2
    go_ret
    exact ⟨_, rfl, World.ownsRow_nil _ _ _ _, B1.out⟩
  · have h2 : ¬ p < (g : Int) / 16 := by omega
    have h3 : (g : Int) / 16 ≤ p := by omega
    clear H h
    go_enter Try.func28, Try.ntmps28
    go_wp2_with fail
    refine hO.out.mono ?_
    rintro e w2 ⟨rfl, hb⟩
    have B1 := Lib.hid (hb.alloc hb.size (.cells #[.pointer (some ⟨mb, 0, none⟩), .slice (some ⟨bb, 0, none⟩) n c] 81))
    clear hb
    go_wp2_with fail
    refine (len_any mb wb g f _ (hH.out.below B1.out).m).mono ?_
    rintro e w3 ⟨rfl, rfl⟩
    go_wp2
    go_ret
    exact ⟨_, rfl, World.ownsRow_nil _ _ _ _, B1.out⟩
set_option maxRecDepth 100000 in
set_option maxHeartbeats 1000000 in
theorem atag_yes (H : ArAt w a mb wb bb c n g f l) (p : Nat) (h : 16 * p + 16 ≤ g) : Calls Try.prog 28 #[.pointer (some ⟨a, 0, none⟩), .int .i64 p] w (ListPost w (tgl f (16 * p) 16)) := by
  obtain ⟨i0, hi, hz0, hz1, hz2⟩ := info_parts info32
  have hO := Lib.hid (aown H)
  have hH := Lib.hid H
  have hi' := H.hi
  have h2 : (p : Int) < (g : Int) / 16 := by omega
  have h3 : (p : Int) < 2000 := by omega
  have h4 : ¬ (p : Int) < 0 := by omega
  have h5 : ¬ (g : Int) / 16 ≤ p := by omega
  have hp := Lib.hid h
  clear H h
  go_enter Try.func28, Try.ntmps28
  go_wp2_with fail
  refine hO.out.mono ?_
  rintro e w2 ⟨rfl, hb⟩
  have B1 := Lib.hid (hb.alloc hb.size (.cells #[.pointer (some ⟨mb, 0, none⟩), .slice (some ⟨bb, 0, none⟩) n c] 81))
  have K1 := Lib.hid ((RS.nil w2).push [.pointer (some ⟨mb, 0, none⟩), .slice (some ⟨bb, 0, none⟩) n c] 81)
  clear hb
  go_wp2_with fail
  generalize (w2.alloc (.cells #[.pointer (some ⟨mb, 0, none⟩), .slice (some ⟨bb, 0, none⟩) n c] 81)) = w3 at *
  refine (len_any mb wb g f _ (hH.out.below B1.out).m).mono ?_
  rintro e w4 ⟨rfl, rfl⟩
  have L1 := Lib.hid (show w2.heap.size < w3.heap.size from (K1.out ⟨w2.heap.size, [.pointer (some ⟨mb, 0, none⟩), .slice (some ⟨bb, 0, none⟩) n c]⟩ (by simp)).1)
  have cl := K1.out.cell (g := w2.heap.size) (j := 0) (u := .pointer (some ⟨mb, 0, none⟩)) [.pointer (some ⟨mb, 0, none⟩), .slice (some ⟨bb, 0, none⟩) n c] (by simp) rfl
  go_wp2_with fail
  clear h2 h4 h5
  go_loopw [6, 21] (fun b i wr => ∃ j : Nat, j ≤ 16 ∧ i = .int .i64 j ∧ wr.ownsRow w3.heap.size 22 1 b (tgl f (16 * p) j).length ((tgl f (16 * p) j).map u32v) ∧ Below w3.heap.size w3 wr) (fun _ i _ => 16 - (intOf i).toNat)
  case atStart => exact ⟨0, by omega, rfl, World.ownsRow_nil _ _ _ _, Below.refl _ _⟩
  case round =>
    obtain ⟨j, hj, rfl, hown2, hbl⟩ := hrel
    have hL := Lib.hid hbl
    have hOw := Lib.hid hown2
    have A2 := Lib.hid (((hH.out.below B1.out).below hbl).m)
    have cl2 := (hbl.cell (p := ⟨w2.heap.size, 0, none⟩) (by exact L1.out)).trans cl
    clear hown2 hbl cl
    by_cases hlt : j < 16
    · have hlt' : (j : Int) < 16 := by omega
      have s1 : IntKind.i64.wrap ((p : Int) * 16) = (p : Int) * 16 := by rw [IntKind.wrap_i64]; omega
      have s2 : IntKind.i64.wrap ((p : Int) * 16 + j) = (p : Int) * 16 + j := by rw [IntKind.wrap_i64]; omega
      have hG := Lib.hid (show Calls Try.prog 62 #[.pointer (some ⟨mb, 0, none⟩), .int .i64 ((p : Int) * 16 + j)] wr fun e W' => e = .returned (.bool (f (16 * p + j))) ∧ ∃ k, wr.drewN k = W' from by
        have := get_yes mb wb g f (16 * p + j) wr A2.out (by have := hp.out; omega)
        rw [show ((16 * p + j : Nat) : Int) = (p : Int) * 16 + j from by omega] at this
        exact this)
      go_wp2_with fail
      refine hG.out.mono ?_
      rintro e w5 ⟨rfl, k, rfl⟩
      have hO6 := Lib.hid (show (wr.drewN k).ownsRow w3.heap.size 22 1 u6 (tgl f (16 * p) j).length ((tgl f (16 * p) j).map u32v) from hOw.out)
      have hL6 := Lib.hid (below_drewN hL.out k)
      generalize wr.drewN k = w6 at *
      clear cl2 hG hOw hL A2
      rcases hv : f (16 * p + j) with _ | _
      · have hE := Lib.hid (show tgl f (16 * p) (j + 1) = tgl f (16 * p) j from by rw [tgl, hv]; simp)
        clear hv
        go_wp2
        go_roundw
        case rel => exact ⟨j + 1, by omega, by go_num, by rw [hE.out]; exact hO6.out, hL6.out⟩
        case measure => simp [intOf]; omega
      · have hE := Lib.hid (show tgl f (16 * p) (j + 1) = tgl f (16 * p) j ++ [16 * (16 * p + j)] from by rw [tgl, hv]; simp)
        have hlen := Lib.hid (tgl_len f (16 * p) j)
        have hp' := Lib.hid (show (16 * (16 * p + j) : Nat) < 4294967296 by omega)
        have s3 : IntKind.i64.wrap (((p : Int) * 16 + j) * 16) = ((p : Int) * 16 + j) * 16 := by rw [IntKind.wrap_i64]; omega
        have s4 : IntKind.u32.wrap (((p : Int) * 16 + j) * 16) = ((p : Int) * 16 + j) * 16 := by rw [IntKind.wrap_u32]; omega
        clear hv
        go_wp2_with (at_builtin; refine wpList_append_own _ rfl _ _ 64 rfl w3.heap.size 22 i0 (.int .u32 0) 1 4 Try.underlying64 hi hz0 hz1 hz2 rfl (by decide) _ _ _ rfl (hO6.out.alloc _) ⟨w6.heap.size, 0, none⟩ 1 1 [.int .u32 (((p : Int) * 16 + j) * 16)] rfl rfl ?c1 ?c2 ?c3 ?c4 ?c5 ?_)
        case c1 =>
          intro i u hu
          match i, hu with
          | 0, hu => simp at hu; subst hu; simp [Addr.add]
        case c2 => intro u hu; simp at hu; subst hu; rfl
        case c3 => have := hlen.out; unfold maxLen; omega
        case c4 => have := hlen.out; omega
        case c5 => have := hL6.out.size; simp; omega
        · intro v' w7 hown' hgrow _
          have hlo := hO6.out.lt
          have hL1 : Below w3.heap.size w3 w7 := below_own (hL6.out.alloc hL6.out.size _) hgrow (fun q hq => (hlo q hq).1) (by have := hL6.out.size; simp; omega)
          have hO1 : w7.ownsRow w3.heap.size 22 1 v' (tgl f (16 * p) (j + 1)).length ((tgl f (16 * p) (j + 1)).map u32v) := by
            rw [hE.out, List.map_append, List.length_append]
            have e1 : List.map u32v [16 * (16 * p + j)] = [.int .u32 (((p : Int) * 16 + j) * 16)] := by
              simp only [List.map_cons, List.map_nil, u32v]
              rw [show ((16 * (16 * p + j) : Nat) : Int) = ((p : Int) * 16 + j) * 16 from by omega]
            rw [e1]; exact hown'
          replace hL1 := Lib.hid hL1
          replace hO1 := Lib.hid hO1
          clear hown' hgrow hlo
          go_wp2
          go_roundw
          case rel => exact ⟨j + 1, by omega, by go_num, hO1.out, hL1.out⟩
          case measure => simp [intOf]; omega
    · obtain rfl : j = 16 := by omega
      go_wp2_with fail
      go_ret
      refine ⟨_, rfl, ⟨hOw.out.1, ?_⟩, ?_⟩
      · rcases hOw.out.2 with hn | ⟨q, cap, cur, e, h1, h2⟩
        · exact .inl hn
        · exact .inr ⟨q, cap, cur, e, by have := B1.out.size; omega, h2⟩
      · exact B1.out.trans (hL.out.mono B1.out.size)
/-- The addresses that a page's call tells. -/
def tgP (f : Nat → Bool) (g : Nat) (p : Int) : List Nat := tgl (fun i => f i && decide (((i / 16 : Nat) : Int) = p)) 0 g
theorem tgP_page {f : Nat → Bool} {p g : Nat} (h : 16 * p + 16 ≤ g) : tgP f g p = tgl f (16 * p) 16 := by
  unfold tgP
  rw [← tgl_page h]
  exact tgl_congr fun j hj => by congr 1; exact decide_eq_decide.2 (by omega)
theorem atag_any (H : ArAt w a mb wb bb c n g f l) (hg : g % 16 = 0) (p : Int) (hp : -9223372036854775808 ≤ p ∧ p < 9223372036854775808) : Calls Try.prog 28 #[.pointer (some ⟨a, 0, none⟩), .int .i64 p] w (ListPost w (tgP f g p)) := by
  by_cases h : p < 0 ∨ (g : Int) ≤ 16 * p
  · rw [show tgP f g p = [] from tgl_no h]
    exact atag_no H p hp h
  · obtain ⟨p, rfl⟩ := Int.eq_ofNat_of_zero_le (show 0 ≤ p by omega)
    rw [tgP_page (by omega)]
    exact atag_yes H p (by omega)
end
end Go.Proofs.Ytdidnipmbedbjaa
