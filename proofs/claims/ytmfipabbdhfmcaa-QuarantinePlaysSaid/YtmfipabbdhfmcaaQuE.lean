/- Contracts of layer quarantine: what only tells. No statement is proved here. -/
import Derived.Test.YtmfipabbdhfmcaaQuY
namespace Go.Proofs.Ytmfipabbdhfmcaa.Qu
set_option maxRecDepth 100000
open Go.RowKit Go.Shelf
set_option linter.unusedVariables false
section
variable {w w' W : World} {y p b wb n e base : Nat} {Wt Bt L : List Rg} {sw : Bool} {wv bv v : Value} {r : Rg} {D : Nat → Prop}
/-- What a ticket is. -/
def tickN (Wt Bt : List Rg) (e : Nat) (sw : Bool) : Nat := if 0 < Wt.length then e + 1 else if 0 < Bt.length then e else endN e sw
theorem yepoch (H : YAt w y p b wb n Wt Bt e sw wv bv) : Calls Try.prog 32 #[.pointer (some ⟨y, 0, none⟩)] w fun e1 w' => e1 = .returned (.int .u64 (e : Int)) ∧ Below w.heap.size w w' := by
  have hM := Lib.hid (ymade H.c2)
  have H' := Lib.hid H
  clear H
  go_enter Try.func32, Try.ntmps32
  go_wp2_with fail
  refine hM.out.mono ?_
  rintro e1 w1 ⟨rfl, k1⟩
  have c0 := (H'.out.grow k1).c0
  have hk := Lib.hid k1
  clear k1
  go_wp2_with fail
  go_ret
  exact ⟨rfl, hk.out⟩
theorem ysweeping (H : YAt w y p b wb n Wt Bt e sw wv bv) : Calls Try.prog 29 #[.pointer (some ⟨y, 0, none⟩)] w fun e1 w' => e1 = .returned (.bool sw) ∧ Below w.heap.size w w' := by
  have hM := Lib.hid (ymade H.c2)
  have H' := Lib.hid H
  clear H
  go_enter Try.func29, Try.ntmps29
  go_wp2_with fail
  refine hM.out.mono ?_
  rintro e1 w1 ⟨rfl, k1⟩
  have c1 := (H'.out.grow k1).c1
  have hk := Lib.hid k1
  clear k1
  cases sw <;> (go_wp2_with fail; go_ret; exact ⟨rfl, hk.out⟩)
theorem rowpost_of {L : List Rg} {w0 w1 w2 : World} {e1 : Ending} (h : RowPost L w1 e1 w2) (k : Below w0.heap.size w0 w1) : RowPost L w0 e1 w2 := by
  obtain ⟨v, h1, h2, h3, h4⟩ := h
  exact ⟨v, h1, h2.mono k.size, k.trans (h3.mono k.size), h4⟩
theorem ywaiting (H : YAt w y p b wb n Wt Bt e sw wv bv) : Calls Try.prog 25 #[.pointer (some ⟨y, 0, none⟩)] w (RowPost Wt w) := by
  have hM := Lib.hid (ymade H.c2)
  have H' := Lib.hid H
  obtain ⟨F, hF⟩ : ∃ F, F = RowPost Wt w := ⟨_, rfl⟩
  rw [← hF]
  have hF' := Lib.hid hF
  clear H hF
  go_enter Try.func25, Try.ntmps25
  go_wp2_with fail
  refine hM.out.mono ?_
  rintro e1 w1 ⟨rfl, k1⟩
  have H1 := Lib.hid (H'.out.grow k1)
  have c3 := H1.out.c3
  have hk := Lib.hid k1
  have hC := Lib.hid (clone_any H1.out.ow H1.out.nw (by have := H1.out.len; omega))
  clear k1
  go_wp2_with fail
  refine hC.out.mono ?_
  rintro e1 w2 hp
  have hE := Lib.hid (rowpost_of hp hk.out)
  obtain ⟨v, rfl, _⟩ := hp
  go_wp2_with fail
  show F (.returned v) w2
  rw [hF'.out]
  exact hE.out
theorem ybatch (H : YAt w y p b wb n Wt Bt e sw wv bv) : Calls Try.prog 26 #[.pointer (some ⟨y, 0, none⟩)] w (RowPost Bt w) := by
  have hM := Lib.hid (ymade H.c2)
  have H' := Lib.hid H
  obtain ⟨F, hF⟩ : ∃ F, F = RowPost Bt w := ⟨_, rfl⟩
  rw [← hF]
  have hF' := Lib.hid hF
  clear H hF
  go_enter Try.func26, Try.ntmps26
  go_wp2_with fail
  refine hM.out.mono ?_
  rintro e1 w1 ⟨rfl, k1⟩
  have H1 := Lib.hid (H'.out.grow k1)
  have c4 := H1.out.c4
  have hk := Lib.hid k1
  have hC := Lib.hid (clone_any H1.out.ob H1.out.nb (by have := H1.out.len; omega))
  clear k1
  go_wp2_with fail
  refine hC.out.mono ?_
  rintro e1 w2 hp
  have hE := Lib.hid (rowpost_of hp hk.out)
  obtain ⟨v, rfl, _⟩ := hp
  go_wp2_with fail
  show F (.returned v) w2
  rw [hF'.out]
  exact hE.out
theorem yticket (H : YAt w y p b wb n Wt Bt e sw wv bv) : Calls Try.prog 27 #[.pointer (some ⟨y, 0, none⟩)] w fun e1 w' => e1 = .returned (.int .u64 ((tickN Wt Bt e sw : Nat) : Int)) ∧ Below w.heap.size w w' := by
  have hM := Lib.hid (ymade H.c2)
  have H' := Lib.hid H
  obtain ⟨T, hT⟩ : ∃ T, T = tickN Wt Bt e sw := ⟨_, rfl⟩
  rw [← hT]
  unfold tickN at hT
  have hT' := Lib.hid hT
  obtain ⟨A, cap, hwv⟩ := own_slice H.ow
  obtain ⟨A2, cap2, hbv⟩ := own_slice H.ob
  subst hwv
  subst hbv
  obtain ⟨x, hx⟩ : ∃ x, x = Wt.length := ⟨_, rfl⟩
  obtain ⟨z, hz⟩ : ∃ z, z = Bt.length := ⟨_, rfl⟩
  have hx' := Lib.hid hx
  have hz' := Lib.hid hz
  have he := H.he
  have e9 : IntKind.u64.wrap ((e : Int) + 1) = ((e + 1 : Nat) : Int) := by rw [IntKind.wrap_u64]; omega
  clear H hT
  go_enter Try.func27, Try.ntmps27
  go_wp2_with fail
  refine hM.out.mono ?_
  rintro e1 w1 ⟨rfl, k1⟩
  have H1 := Lib.hid (H'.out.grow k1)
  have c0 := H1.out.c0
  have c3 := H1.out.c3
  have c4 := H1.out.c4
  rw [← hx] at c3
  rw [← hz] at c4
  have hk := Lib.hid k1
  have hN := Lib.hid (nended_any H1.out.c0 H1.out.c1 H1.out.he H1.out.hs)
  clear k1 hx hz
  by_cases h1 : 0 < x
  · have h1i : (0 : Int) < x := by omega
    have hTe := Lib.hid (show T = e + 1 by rw [hT'.out, ← hx'.out, if_pos h1])
    go_wp2_with fail
    go_ret
    exact ⟨by rw [hTe.out]; rfl, hk.out⟩
  · obtain rfl : x = 0 := by omega
    by_cases h2 : 0 < z
    · have h2i : (0 : Int) < z := by omega
      have hTe := Lib.hid (show T = e by rw [hT'.out, ← hx'.out, ← hz'.out, if_neg (by omega), if_pos h2])
      go_wp2_with fail
      go_ret
      exact ⟨by rw [hTe.out]; rfl, hk.out⟩
    · obtain rfl : z = 0 := by omega
      have hTe := Lib.hid (show T = endN e sw by rw [hT'.out, ← hx'.out, ← hz'.out, if_neg (by omega), if_neg (by omega)])
      go_wp2_with fail
      refine hN.out.mono ?_
      rintro e1 w2 ⟨rfl, rfl⟩
      go_wp2_with fail
      go_ret
      exact ⟨by rw [hTe.out]; rfl, hk.out⟩
theorem ydone (H : YAt w y p b wb n Wt Bt e sw wv bv) (t : Nat) (ht : t ≤ 1000001) : Calls Try.prog 28 #[.pointer (some ⟨y, 0, none⟩), .int .u64 (t : Int)] w fun e1 w' => e1 = .returned (.bool (decide (t ≤ endN e sw))) ∧ Below w.heap.size w w' := by
  have hM := Lib.hid (ymade H.c2)
  have H' := Lib.hid H
  obtain ⟨x, hx⟩ : ∃ x, x = endN e sw := ⟨_, rfl⟩
  rw [← hx]
  obtain ⟨V, hV⟩ : ∃ V, V = decide (t ≤ x) := ⟨_, rfl⟩
  rw [← hV]
  have hV' := Lib.hid hV
  have hx' := Lib.hid hx
  clear H hV hx
  go_enter Try.func28, Try.ntmps28
  go_wp2_with fail
  refine hM.out.mono ?_
  rintro e1 w1 ⟨rfl, k1⟩
  have H1 := Lib.hid (H'.out.grow k1)
  have hk := Lib.hid k1
  have hN := Lib.hid (nended_any H1.out.c0 H1.out.c1 H1.out.he H1.out.hs)
  rw [← hx'.out] at hN
  clear k1
  cases V
  · have h1 : ¬ (t : Int) ≤ x := by have := of_decide_eq_false hV'.out.symm; omega
    have h2 : ¬ t ≤ x := by omega
    go_wp2_with fail
    refine hN.out.mono ?_
    rintro e1 w2 ⟨rfl, rfl⟩
    go_wp2_with fail
    go_ret
    exact ⟨rfl, hk.out⟩
  · have h1 : (t : Int) ≤ x := by have := of_decide_eq_true hV'.out.symm; omega
    have h2 : t ≤ x := by omega
    go_wp2_with fail
    refine hN.out.mono ?_
    rintro e1 w2 ⟨rfl, rfl⟩
    go_wp2_with fail
    go_ret
    exact ⟨rfl, hk.out⟩
theorem ynew_no (k : Int) (w : World) (h : k < 0 ∨ 262144 < k ∨ k % 16 ≠ 0) : Calls Try.prog 7 #[.int .i64 k] w fun e1 w' => e1 = .returned (.pointer none) ∧ Below w.heap.size w w' := by
  have hN := Lib.hid (ptnew_no k w h)
  clear h
  go_enter Try.func7, Try.ntmps7
  go_wp2_with fail
  refine hN.out.mono ?_
  rintro e1 w1 ⟨rfl, k1⟩
  have hk := Lib.hid k1
  clear k1
  go_wp2_with fail
  go_ret
  exact ⟨rfl, hk.out⟩
theorem ynew_yes (n : Nat) (w : World) (h : n ≤ 16384) (hD : ∀ k, D k → k < w.heap.size) (x : Int) (hx : ((16 * n : Nat) : Int) = x) : Calls Try.prog 7 #[.int .i64 x] w fun e1 w' => ∃ y, e1 = .returned (.pointer (some ⟨y, 0, none⟩)) ∧ YD D y n [] [] 0 false w' ∧ Below w.heap.size w w' ∧ w.heap.size ≤ y := by
  subst hx
  have hN := Lib.hid (ptnew_yes n w h)
  have hD' := Lib.hid hD
  clear hD
  go_enter Try.func7, Try.ntmps7
  go_wp2_with fail
  refine hN.out.mono ?_
  rintro e1 w1 ⟨p, b, wb, rfl, hp, h1, h2, h3, k1⟩
  have hE := Lib.hid (show YD D w1.heap.size n [] [] 0 false (w1.alloc (.cells #[.int .u64 0, .bool false, .pointer (some ⟨p, 0, none⟩), .slice none 0 0, .slice none 0 0] 67)) ∧ Below w.heap.size w (w1.alloc (.cells #[.int .u64 0, .bool false, .pointer (some ⟨p, 0, none⟩), .slice none 0 0, .slice none 0 0] 67)) ∧ w.heap.size ≤ w1.heap.size from by
    refine ⟨⟨p, b, wb, _, _, ⟨by simp, by simp, by simp, by simp, by simp, fun i => by simp, ?_, World.ownsRow_nil _ _ _ _, World.ownsRow_nil _ _ _ _, Good.nil n, List.Pairwise.nil, List.Pairwise.nil, fun _ => rfl, fun _ => rfl, h, by omega, by simp, fun _ => rfl, ?_, ?_, ?_, ?_, ?_⟩, ?_, ?_⟩, k1.alloc k1.size _, k1.size⟩
    · exact hp.grow ((Below.refl _ _).alloc (Nat.le_refl _) _)
    · have := hp.lp; omega
    · have := hp.m.lb; omega
    · have := hp.m.lw; omega
    · rintro k (h | h) <;> cases h
    · intro k h; cases h
    · rintro k (rfl | rfl | rfl | rfl | h | h) hd
      · have := hD'.out _ hd; have := k1.size; omega
      · have := hD'.out _ hd; omega
      · have := hD'.out _ hd; omega
      · have := hD'.out _ hd; omega
      · cases h
      · cases h
    · intro k hk
      have := hD'.out k hk
      have := k1.size
      simp; omega)
  clear hp h1 h2 h3 k1
  go_wp2_with fail
  go_ret
  exact ⟨_, rfl, hE.out.1, hE.out.2.1, hE.out.2.2⟩
end
end Go.Proofs.Ytmfipabbdhfmcaa.Qu
