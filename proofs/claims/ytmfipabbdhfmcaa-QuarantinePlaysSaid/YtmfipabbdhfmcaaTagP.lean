/- Contracts of layer tags: Copy. No statement is proved here. -/
import Derived.Test.YtmfipabbdhfmcaaTagA
import Derived.StillTailTactics
import Derived.Laws.CopyOwn
namespace Go.Proofs.Ytmfipabbdhfmcaa
open Go.RowKit
set_option linter.unusedVariables false

theorem row_made (n : Nat) (w : World) (T : TypeId) : ((w.alloc (.cells (madeCells #[.int .u64 0] n) 26)).alloc (.cells #[.slice (some ⟨w.heap.size, 0, none⟩) n n, .int .i64 n, .bool true] T)).heap[w.heap.size]? = some (.cells (List.replicate n (Value.int .u64 0)).toArray 26 (0, 0)) := by
  rw [Below.heap_alloc _ _ _ (by simp)]
  show (w.heap.push _)[w.heap.size]? = _
  have e : madeCells #[Value.int .u64 0] n = (List.replicate n (Value.int .u64 0)).toArray := by
    apply Array.ext
    · simp [madeCells]
    · intro i h1 h2
      simp [madeCells, Nat.mod_one]
  simp [e]
set_option maxRecDepth 100000 in
theorem new_full (n : Nat) (w : World) (h : n ≤ 1048576) : Calls Try.prog 49 #[.int .i64 n] w fun e w' => e = .returned (.pointer (some ⟨w.heap.size + 1, 0, none⟩)) ∧ MapAt w' (w.heap.size + 1) w.heap.size n (fun _ => false) ∧ Below w.heap.size w w' ∧ w.heap.size + 2 = w'.heap.size ∧
    w'.heap[w.heap.size]? = some (.cells (List.replicate ((n + 63) / 64) (Value.int .u64 0)).toArray 26 (0, 0)) := by
  have hmk : ∀ w, (Instr.makeSlice 88 (.int .i64 (((n : Int) + 64 - 1) / 64)) (.int .i64 (((n : Int) + 64 - 1) / 64))).run Try.prog w = .ok (.slice (some ⟨w.heap.size, 0, none⟩) ((n + 63) / 64) ((n + 63) / 64)) (w.alloc (.cells (madeCells #[.int .u64 0] ((n + 63) / 64)) 26)) := fun w => by
    have e : ((n : Int) + 64 - 1) / 64 = (((n + 63) / 64 : Nat) : Int) := by omega
    rw [e]
    exact run_make_row' 88 26 (.int .u64 0) 8 Try.underlying88 info64 rfl .i64 .i64 ((n + 63) / 64) (by omega) (by omega) w
  have H := Lib.hid (made_map n w h)
  have H2 : ((w.alloc (.cells (madeCells #[.int .u64 0] ((n + 63) / 64)) 26)).alloc (.cells #[.slice (some ⟨w.heap.size, 0, none⟩) ((n + 63) / 64) ((n + 63) / 64), .int .i64 n, .bool true] 90)).heap[w.heap.size]? = some (.cells (List.replicate ((n + 63) / 64) (Value.int .u64 0)).toArray 26 (0, 0)) := by
    rw [Below.heap_alloc _ _ _ (by simp)]
    exact (Below.heap_alloc _ _ _ (by simp)).symm.trans (row_made ((n + 63) / 64) w 90)
  have H2 := Lib.hid H2
  go_enter Try.func49, Try.ntmps49
  go_wp2
  go_ret
  refine ⟨rfl, H.out, ((Below.refl _ w).alloc (Nat.le_refl _) _).alloc (by simp) _, by simp, H2.out⟩

/-- The words of a set of places, as cells. -/
def wordsL (f : Nat → Bool) (m : Nat) : List Value := (List.range m).map fun i => .int .u64 (wdo f i : Nat)
theorem wordsL_length (f : Nat → Bool) (m : Nat) : (wordsL f m).length = m := by simp [wordsL]
theorem wordsL_get (f : Nat → Bool) (m : Nat) {i : Nat} (h : i < m) : (wordsL f m)[i]? = some (.int .u64 (wdo f i : Nat)) := by simp [wordsL, h]

theorem laid_words {W : World} {b g n : Nat} {f : Nat → Bool} (H : MapAt W b g n (fun _ => false)) (hoff : ∀ k, n ≤ k → f k = false)
    (hg : W.heap[g]? = some (.cells (List.replicate ((n + 63) / 64) (Value.int .u64 0)).toArray 26 (0, 0))) :
    MapAt (W.setRow g ((List.replicate ((n + 63) / 64) (Value.int .u64 0)).take 0 ++ (wordsL f ((n + 63) / 64) ++ (List.replicate ((n + 63) / 64) (Value.int .u64 0)).drop (0 + (wordsL f ((n + 63) / 64)).length))).toArray) b g n f := by
  have hrow := setRow_heap W g _ ((List.replicate ((n + 63) / 64) (Value.int .u64 0)).take 0 ++ (wordsL f ((n + 63) / 64) ++ (List.replicate ((n + 63) / 64) (Value.int .u64 0)).drop (0 + (wordsL f ((n + 63) / 64)).length))).toArray 26 (0, 0) hg
  generalize hW : W.setRow g _ = W2 at hrow ⊢
  have ho : ∀ o, W2.cell? ⟨b, o, none⟩ = W.cell? ⟨b, o, none⟩ := fun o => World.cell?_of_block (by rw [← hW]; exact setRow_other W g b _ H.ne)
  have hsz : W2.heap.size = W.heap.size := by rw [← hW]; simp [World.setRow]
  refine ⟨(ho 0).trans H.h0, (ho 1).trans H.h1, (ho 2).trans H.h2, fun i hi => ?_, H.ne, by rw [hsz]; exact H.lb, by rw [hsz]; exact H.lw, hoff, H.le⟩
  have hc : ((List.replicate ((n + 63) / 64) (Value.int .u64 0)).take 0 ++ (wordsL f ((n + 63) / 64) ++ (List.replicate ((n + 63) / 64) (Value.int .u64 0)).drop (0 + (wordsL f ((n + 63) / 64)).length))) = wordsL f ((n + 63) / 64) := by simp [wordsL_length]
  rw [hc] at hrow
  constructor
  · simp [World.cell?, hrow, wordsL, hi]
  · simp [World.frozen?, hrow]

set_option maxRecDepth 100000 in
theorem copy_any (b wb n : Nat) (f : Nat → Bool) (w : World) (H : MapAt w b wb n f) : Calls Try.prog 54 #[.pointer (some ⟨b, 0, none⟩)] w fun e w' => e = .returned (.pointer (some ⟨w.heap.size + 1, 0, none⟩)) ∧ MapAt w' (w.heap.size + 1) w.heap.size n f ∧ Below w.heap.size w w' ∧ w.heap.size + 2 = w'.heap.size := by
  have q0 := H.h0
  have q1 := H.h1
  have q2 := H.h2
  have hN := Lib.hid (new_full n w H.le)
  have hH := Lib.hid H
  clear H
  go_enter Try.func54, Try.ntmps54
  go_wp2_with fail
  refine hN.out.mono ?_
  rintro e W1 ⟨rfl, m1, b1, z1, r1⟩
  have H1 : MapAt W1 b wb n f := hH.out.below b1 hH.out.lb hH.out.lw
  have p0 := m1.h0
  have p1 := H1.h0
  obtain ⟨g, hg⟩ : ∃ g, g = w.heap.size := ⟨_, rfl⟩
  rw [← hg] at m1 b1 z1 r1 p0
  rw [← hg]
  have hg' := Lib.hid hg
  obtain ⟨m, hm⟩ : ∃ m, m = (n + 63) / 64 := ⟨_, rfl⟩
  rw [← hm] at r1 p0 p1
  have G := Lib.hid (And.intro m1 (And.intro b1 (And.intro z1 (And.intro H1 hm))))
  have R1 := Lib.hid r1
  clear m1 b1 z1 r1 H1 hm hg q0 q1 q2 hN
  go_wp2_with fail
  go_still_tail 8, (by kernel_rfl)
  change wpList _ _ _ _ _ W1.drew
  have hoff := hH.out.off
  have hne : b ≠ g ∧ g + 1 ≠ g := by have := hH.out.lb; have := hg'.out; omega
  rcases Nat.eq_zero_or_pos m with hm | hm
  · refine wpList_copy_nothing rfl (.tmp 21) (.tmp 25) 88 88 rfl 26 Try.underlying88 (by kernel_rfl) _ _ m m m m rfl rfl (by simp [hm]) ?_
    have HM : MapAt W1.drew (g + 1) g n f := G.out.1.drew.congr fun k => (hoff k (by have := G.out.2.2.2.2; omega)).symm
    have E := Lib.hid (And.intro HM (And.intro G.out.2.1.drew (show w.heap.size + 2 = W1.drew.heap.size from by have := G.out.2.2.1; have := hg'.out; show _ = W1.heap.size; omega)))
    generalize W1.drew = W2 at E ⊢
    clear HM hoff hm p0 p1
    go_wp2
    go_ret
    refine ⟨?_, ?_, ?_, E.out.2.2⟩
    · rw [← hg'.out]; rfl
    · rw [← hg'.out]; exact E.out.1
    · rw [← hg'.out]; exact E.out.2.1
  · refine wpList_copy_own rfl (.tmp 21) (.tmp 25) 88 88 rfl 26 Try.underlying88 (by kernel_rfl) g 0 m m ⟨wb, 0, none⟩ m m rfl rfl _ 26 R1.out (wordsL f m) (by simp [wordsL_length]) ?_ (by simp [wordsL_length]) ?_ ?_
    · intro j v hv
      have hj : j < m := by
        have := (List.getElem?_eq_some_iff.1 hv).1
        simpa [wordsL_length] using this
      rw [wordsL_get f m hj] at hv
      cases hv
      rw [Addr.add_lit]
      have := (G.out.2.2.2.1.ws j (by have := G.out.2.2.2.2; omega)).1
      simpa using this
    · intro v hv
      simp only [wordsL, List.mem_map] at hv
      obtain ⟨i, _, rfl⟩ := hv
      rfl
    · have hm2 := G.out.2.2.2.2
      subst hm2
      have HM := laid_words (W := W1.drew) G.out.1.drew hoff R1.out
      have hO : ∀ cs, Below w.heap.size w (W1.drew.setRow g cs) := fun cs => below_setRow (by have := G.out.2.1.drew; rw [hg'.out] at this; exact this) (by have := hg'.out; omega) cs
      have hZ : ∀ cs, w.heap.size + 2 = (W1.drew.setRow g cs).heap.size := fun cs => by
        have h1 := G.out.2.2.1
        have h2 := hg'.out
        have h3 : (W1.drew.setRow g cs).heap.size = W1.heap.size := by show (Array.modify W1.heap g _).size = _; simp
        omega
      obtain ⟨W2, hW2⟩ : ∃ W2, W2 = W1.drew.setRow g ((List.replicate ((n + 63) / 64) (Value.int .u64 0)).take 0 ++ (wordsL f ((n + 63) / 64) ++ (List.replicate ((n + 63) / 64) (Value.int .u64 0)).drop (0 + (wordsL f ((n + 63) / 64)).length))).toArray := ⟨_, rfl⟩
      change wpList _ _ _ _ _ (W1.drew.setRow g ((List.replicate ((n + 63) / 64) (Value.int .u64 0)).take 0 ++ (wordsL f ((n + 63) / 64) ++ (List.replicate ((n + 63) / 64) (Value.int .u64 0)).drop (0 + (wordsL f ((n + 63) / 64)).length))).toArray)
      rw [← hW2] at HM ⊢
      have E := Lib.hid (And.intro HM (And.intro (show Below w.heap.size w W2 from by rw [hW2]; exact hO _) (show w.heap.size + 2 = W2.heap.size from by rw [hW2]; exact hZ _)))
      clear HM hO hZ p0 p1 hm hoff hW2
      simp only [wordsL_length]
      go_wp2
      go_ret
      refine ⟨?_, ?_, E.out.2.1, E.out.2.2⟩
      · rw [← hg'.out]; rfl
      · rw [← hg'.out]; exact E.out.1
end Go.Proofs.Ytmfipabbdhfmcaa
