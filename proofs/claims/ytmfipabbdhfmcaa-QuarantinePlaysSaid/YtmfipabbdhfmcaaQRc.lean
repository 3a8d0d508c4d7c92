/- The document's side of layer quarantine: ended, Ticket, Done, Has, New, Begin, End, Free. No statement is proved here. -/
import Derived.Test.YtmfipabbdhfmcaaQRb
namespace Go.Proofs.Ytmfipabbdhfmcaa.Qu
set_option maxRecDepth 100000
open Go.RowKit Go.Shelf
set_option linter.unusedVariables false
section
variable {w w' : World} {q e n m base x z : Nat} {L R M Wt Bt : List Rg} {v lv rv wl bl : Value} {r : Rg} {b : Int} {A A2 : Option Addr} {c c2 : Nat} {sw : Bool} {u : Nat → Value}
/-- The boxes that a call of the document's lays: the yard's, and that of its answer. -/
theorem box1 (w : World) (b : Int) (wl bl : Value) (e : Nat) (sw : Bool) : Y5 (w.alloc (.cells #[.int .i64 b, wl, bl, .int .u64 (e : Int), .bool sw] 28)) w.heap.size (dyU b wl bl e sw) ∧ Below w.heap.size w (w.alloc (.cells #[.int .i64 b, wl, bl, .int .u64 (e : Int), .bool sw] 28)) :=
  ⟨Y5.new _ _ _ _ _ _ _ _ ⟨rfl, rfl, rfl, rfl, rfl⟩, (Below.refl _ _).alloc (Nat.le_refl _) _⟩
theorem box2 (w : World) (b : Int) (wl bl : Value) (e : Nat) (sw : Bool) : ∃ w2, w2 = (w.alloc (.cells #[.int .i64 b, wl, bl, .int .u64 (e : Int), .bool sw] 28)).alloc (.cells #[.int .i64 0, .slice none 0 0, .slice none 0 0, .int .u64 0, .bool false] 28) ∧
    Y5 w2 w.heap.size (dyU b wl bl e sw) ∧ Y5 w2 (w.heap.size + 1) (dyU 0 (.slice none 0 0) (.slice none 0 0) 0 false) ∧ Below w.heap.size w w2 := by
  refine ⟨_, rfl, (box1 w b wl bl e sw).1.grow ((Below.refl _ _).alloc (Nat.le_refl _) _), ?_, (box1 w b wl bl e sw).2.alloc (box1 w b wl bl e sw).2.size _⟩
  have h := Y5.new (w.alloc (.cells #[.int .i64 b, wl, bl, .int .u64 (e : Int), .bool sw] 28)) (.int .i64 0) (.slice none 0 0) (.slice none 0 0) (.int .u64 0) (.bool false) 28 (dyU 0 (.slice none 0 0) (.slice none 0 0) 0 false) ⟨rfl, rfl, rfl, rfl, rfl⟩
  rw [World.size_alloc] at h
  exact h
theorem rended (b : Int) (e : Nat) (sw : Bool) (he : e ≤ 1000000) (hs : sw = true → 1 ≤ e) (w : World) : Calls Try.prog 55 #[dyV b (.slice A x c) (.slice A2 z c2) e sw] w fun e1 w' => e1 = .returned (.int .u64 ((endN e sw : Nat) : Int)) ∧ Below w.heap.size w w' := by
  have hB := Lib.hid (box1 w b (.slice A x c) (.slice A2 z c2) e sw).2
  unfold dyV
  cases sw
  · go_enter Try.func55, Try.ntmps55
    go_wp2
    go_ret
    exact ⟨rfl, hB.out⟩
  · have h1 := hs rfl
    have e1 : IntKind.u64.wrap ((e : Int) - 1) = ((e - 1 : Nat) : Int) := by rw [IntKind.wrap_u64]; omega
    clear hs
    go_enter Try.func55, Try.ntmps55
    go_wp2
    go_ret
    exact ⟨rfl, hB.out⟩
/-- How long the lists are is what a ticket asks. -/
def tickL (x z e : Nat) (sw : Bool) : Nat := if 0 < x then e + 1 else if 0 < z then e else endN e sw
theorem rticket (b : Int) (e : Nat) (sw : Bool) (he : e ≤ 1000000) (hs : sw = true → 1 ≤ e) (w : World) : Calls Try.prog 43 #[dyV b (.slice A x c) (.slice A2 z c2) e sw] w fun e1 w' => e1 = .returned (.int .u64 ((tickL x z e sw : Nat) : Int)) ∧ Below w.heap.size w w' := by
  obtain ⟨Y1, B1⟩ := box1 w b (.slice A x c) (.slice A2 z c2) e sw
  obtain ⟨w1, hw1⟩ : ∃ w1, w1 = w.alloc (.cells #[.int .i64 b, .slice A x c, .slice A2 z c2, .int .u64 (e : Int), .bool sw] 28) := ⟨_, rfl⟩
  rw [← hw1] at Y1 B1
  have hw' := Lib.hid hw1
  have hB := Lib.hid B1
  have hN := Lib.hid (rended (A := A) (x := x) (c := c) (A2 := A2) (z := z) (c2 := c2) b e sw he hs w1)
  unfold dyV at hN ⊢
  have c0 := (Y1 0).1 (by omega)
  have c1 := (Y1 1).1 (by omega)
  have c2' := (Y1 2).1 (by omega)
  have c3 := (Y1 3).1 (by omega)
  have c4 := (Y1 4).1 (by omega)
  simp only [dyU] at c0 c1 c2' c3 c4
  obtain ⟨T, hT⟩ : ∃ T, T = tickL x z e sw := ⟨_, rfl⟩
  rw [← hT]
  unfold tickL at hT
  have hT' := Lib.hid hT
  have e9 : IntKind.u64.wrap ((e : Int) + 1) = ((e + 1 : Nat) : Int) := by rw [IntKind.wrap_u64]; omega
  clear hT hw1 B1 Y1 hs
  go_enter Try.func43, Try.ntmps43
  go_upto_region 1 with (fail)
  rw [← hw'.out]
  by_cases h1 : 0 < x
  · have h1i : (0 : Int) < x := by omega
    have hTe := Lib.hid (show T = e + 1 by rw [hT'.out, if_pos h1])
    go_wp2_with fail
    go_ret
    exact ⟨by rw [hTe.out]; rfl, hB.out⟩
  · obtain rfl : x = 0 := by omega
    by_cases h2 : 0 < z
    · have h2i : (0 : Int) < z := by omega
      have hTe := Lib.hid (show T = e by rw [hT'.out, if_neg (by omega), if_pos h2])
      go_wp2_with fail
      go_ret
      exact ⟨by rw [hTe.out]; rfl, hB.out⟩
    · obtain rfl : z = 0 := by omega
      have hTe := Lib.hid (show T = endN e sw by rw [hT'.out, if_neg (by omega), if_neg (by omega)])
      go_wp2_with fail
      refine hN.out.mono ?_
      rintro e1 w2 ⟨rfl, k⟩
      have hB2 := Lib.hid (hB.out.trans (k.mono hB.out.size))
      clear k
      go_wp2_with fail
      go_ret
      exact ⟨by rw [hTe.out]; rfl, hB2.out⟩
theorem rdone (b : Int) (e : Nat) (sw : Bool) (he : e ≤ 1000000) (hs : sw = true → 1 ≤ e) (t : Nat) (w : World) : Calls Try.prog 44 #[dyV b (.slice A x c) (.slice A2 z c2) e sw, .int .u64 (t : Int)] w fun e1 w' => e1 = .returned (.bool (decide (t ≤ endN e sw))) ∧ Below w.heap.size w w' := by
  obtain ⟨Y1, B1⟩ := box1 w b (.slice A x c) (.slice A2 z c2) e sw
  obtain ⟨w1, hw1⟩ : ∃ w1, w1 = w.alloc (.cells #[.int .i64 b, .slice A x c, .slice A2 z c2, .int .u64 (e : Int), .bool sw] 28) := ⟨_, rfl⟩
  rw [← hw1] at Y1 B1
  have hw' := Lib.hid hw1
  have hB := Lib.hid B1
  have hN := Lib.hid (rended (A := A) (x := x) (c := c) (A2 := A2) (z := z) (c2 := c2) b e sw he hs w1)
  unfold dyV at hN ⊢
  have c0 := (Y1 0).1 (by omega)
  have c1 := (Y1 1).1 (by omega)
  have c2' := (Y1 2).1 (by omega)
  have c3 := (Y1 3).1 (by omega)
  have c4 := (Y1 4).1 (by omega)
  simp only [dyU] at c0 c1 c2' c3 c4
  obtain ⟨E, hE⟩ : ∃ E, E = endN e sw := ⟨_, rfl⟩
  rw [← hE] at hN ⊢
  obtain ⟨V, hV⟩ : ∃ V, V = decide (t ≤ E) := ⟨_, rfl⟩
  rw [← hV]
  have hV' := Lib.hid hV
  clear hV hw1 B1 Y1 hs hE
  go_enter Try.func44, Try.ntmps44
  go_upto_region 1 with (fail)
  rw [← hw'.out]
  cases V
  · have h1 : ¬ (t : Int) ≤ E := by have := of_decide_eq_false hV'.out.symm; omega
    have h2 : ¬ t ≤ E := by omega
    go_wp2_with fail
    refine hN.out.mono ?_
    rintro e1 w2 ⟨rfl, k⟩
    have hB2 := Lib.hid (hB.out.trans (k.mono hB.out.size))
    clear k
    go_wp2_with fail
    go_ret
    exact ⟨rfl, hB2.out⟩
  · have h1 : (t : Int) ≤ E := by have := of_decide_eq_true hV'.out.symm; omega
    have h2 : t ≤ E := by omega
    go_wp2_with fail
    refine hN.out.mono ?_
    rintro e1 w2 ⟨rfl, k⟩
    have hB2 := Lib.hid (hB.out.trans (k.mono hB.out.size))
    clear k
    go_wp2_with fail
    go_ret
    exact ⟨rfl, hB2.out⟩
theorem rhas (HB : GR w Bt (.slice A2 z c2)) (fB : ∀ r ∈ Bt, r.1 + r.2 ≤ 262144) (lB : Bt.length ≤ 16384) (b : Int) (e : Nat) (sw : Bool) (a : Nat) (ha : a < 4294967296) : Calls Try.prog 20 #[dyV b (.slice A x c) (.slice A2 z c2) e sw, .int .u32 (a : Int)] w fun e1 w' => e1 = .returned (.bool (mt Bt (a, 1))) ∧ Below w.heap.size w w' := by
  obtain ⟨Y1, B1⟩ := box1 w b (.slice A x c) (.slice A2 z c2) e sw
  obtain ⟨w1, hw1⟩ : ∃ w1, w1 = w.alloc (.cells #[.int .i64 b, .slice A x c, .slice A2 z c2, .int .u64 (e : Int), .bool sw] 28) := ⟨_, rfl⟩
  rw [← hw1] at Y1 B1
  have hw' := Lib.hid hw1
  have hB := Lib.hid B1
  have hG : GR w1 Bt (.slice A2 z c2) := by
    obtain ⟨A', c', e', h⟩ := HB
    refine ⟨A', c', e', fun j hj => ?_⟩
    obtain ⟨g, h0, h1, h2, h3⟩ := h j hj
    exact ⟨g, h0, Nat.lt_of_lt_of_le h1 B1.size, (B1.cell (p := ⟨g, j * 2, none⟩) h1).trans h2, (B1.cell (p := ⟨g, j * 2 + 1, none⟩) h1).trans h3⟩
  have hN := Lib.hid (rmeets hG fB lB a 1 ha (by omega))
  unfold dyV
  have c2' := (Y1 2).1 (by omega)
  simp only [dyU] at c2'
  clear hw1 B1 Y1 hG HB
  go_enter Try.func20, Try.ntmps20
  go_upto_region 1 with (fail)
  rw [← hw'.out]
  go_wp2_with fail
  refine hN.out.mono ?_
  rintro e1 w2 ⟨rfl, k⟩
  have hB2 := Lib.hid (hB.out.trans (k.mono hB.out.size))
  clear k
  go_wp2_with fail
  go_ret
  exact ⟨rfl, hB2.out⟩
end
end Go.Proofs.Ytmfipabbdhfmcaa.Qu
