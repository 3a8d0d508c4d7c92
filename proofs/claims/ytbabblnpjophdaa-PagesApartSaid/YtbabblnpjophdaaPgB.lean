/- Contracts of layer pages: find. No statement is proved here. -/
import Derived.Test.YtbabblnpjophdaaPgA
import Derived.Deep.LoopGhost
import Derived.Deep.DeepCutAuto
namespace Go.Proofs.Ytbabblnpjophdaa
set_option maxRecDepth 100000
open Go.RowKit
set_option linter.unusedVariables false

section
variable {p b wb n : Nat} {f : Nat → Bool} {w : World}
theorem pfind (H : MapAt w b wb n f) (hn : n ≤ 1024) (run align : Int) (l0 : -9223372036854775808 ≤ run) (l1 : run ≤ 9223372036854775807) (l2 : align ≤ 9223372036854775807) :
    Calls Try.prog 22 #[.agg #[.pointer (some ⟨b, 0, none⟩)], .int .i64 run, .int .i64 align] w fun e w' => e = .returned (.tuple #[.int .i64 (fndA f n run align : Nat), .bool (fndB f n run align)]) ∧ Below w.heap.size w w' := by
  have hb := (Below.refl w.heap.size w).alloc (Nat.le_refl _) (.cells #[.pointer (some ⟨b, 0, none⟩)] 50)
  have hc : (w.alloc (.cells #[.pointer (some ⟨b, 0, none⟩)] 50)).cell? ⟨w.heap.size, 0, none⟩ = some (.pointer (some ⟨b, 0, none⟩)) := by rw [World.cell?_alloc_at (hn := rfl)]; rfl
  have hs : w.heap.size < (w.alloc (.cells #[.pointer (some ⟨b, 0, none⟩)] 50)).heap.size := by simp
  by_cases ha : 1 ≤ align
  · have hN := Lib.hid (fun h => fnd_no (f := f) (n := n) (run := run) (align := align) h)
    have hY := Lib.hid (fun a h => fnd_yes (f := f) (n := n) (run := run) (align := align) (a := a) h)
    have hH := Lib.hid H
    generalize fndA f n run align = xA at *
    generalize fndB f n run align = xB at *
    clear H
    go_enter Try.func22, Try.ntmps22
    go_wp2_with fail
    go_step3
    go_upto_region 1 with (fail)
    generalize (w.alloc (.cells #[.pointer (some ⟨b, 0, none⟩)] 50)) = w1 at hc hb hs ⊢
    replace hb := Lib.hid hb
    replace hs := Lib.hid hs
    go_wp2_with fail
    go_step3
    go_wp2_with fail
    have hG := Lib.hid (fun w' (h : Below w.heap.size w w') (k : Nat) => get_n (hH.out.below h hH.out.lb hH.out.lw) k)
    have hT := Lib.hid (fun w' (h : Below w.heap.size w w') (a : Nat) => pthere (hH.out.below h hH.out.lb hH.out.lw) a run l1)
    have hW := hH.out.lw
    go_loopw [8] (fun i wr => ∃ a : Nat, i = .int .i64 a ∧ (a : Int) ≤ 9223372036854775807 ∧ (a : Int) % align = 0 ∧ (∀ j, j < a → goodB f n run align j = false) ∧ Below w1.heap.size w1 wr) (fun i _ => n + 1 - (intOf i).toNat)
    case atStart => exact ⟨0, rfl, by omega, by simp, fun j h => absurd h (by omega), Below.refl _ _⟩
    case round =>
      obtain ⟨a, rfl, ha1, ha2, ha3, hB⟩ := hrel
      have hc2 := hc
      rw [← hB.cell hs.out] at hc2
      have hB2 := Lib.hid (hb.out.trans (hB.mono hb.out.size))
      have hA := Lib.hid (And.intro ha2 ha3)
      replace hB := Lib.hid hB
      clear ha2 ha3
      go_wp2_with fail
      refine (hT.out _ hB2.out a).mono ?_
      rintro e w2 ⟨rfl, g⟩
      have hc3 := hc2
      rw [← g.cell (by have := hB.out.size; have := hs.out; show w.heap.size < _; omega)] at hc3
      have hB3 := Lib.hid (hB.out.trans (g.mono hB.out.size))
      clear g hc2
      cases ht : ptr n a run
      · obtain ⟨e1, e2⟩ := hN.out (fun j hj => by
          rcases Nat.lt_or_ge j a with h | h
          · exact hA.out.2 j h
          · cases hg : goodB f n run align j
            · rfl
            · have h1 := fit_iff.1 (good_iff.1 hg).2.2
              have h2 : ptr n a run = true := by unfold ptr; simp; omega
              rw [ht] at h2
              cases h2)
        subst e1
        subst e2
        have hE := Lib.hid (hb.out.trans (hB3.out.mono hb.out.size))
        clear ht
        go_wp2_with fail
        try rw [Exit.noGoto_ret]
        go_ret2
        exact ⟨rfl, hE.out⟩
      · have ht' : 1 ≤ run ∧ (a : Int) ≤ n - run := by simpa [ptr] using ht
        obtain ⟨t1, t2⟩ := ht'
        clear ht
        go_wp2_with fail
        go_loopw [8, 9] (fun x i wr => ∃ k : Nat, x = .int .i64 a ∧ i = .int .i64 k ∧ a ≤ k ∧ (k : Int) ≤ a + run ∧ (∀ j : Nat, a ≤ j → j < k → f j = true) ∧ Below w1.heap.size w1 wr) (fun _ i _ => (a + run.toNat) - (intOf i).toNat)
        case atStart => exact ⟨a, rfl, rfl, by omega, by omega, fun j h1 h2 => absurd h2 (by omega), hB3.out⟩
        case round =>
          obtain ⟨k, rfl, rfl, hk1, hk2, hk3, hB4⟩ := hrel
          have hc4 := hc
          rw [← hB4.cell hs.out] at hc4
          have hK := Lib.hid hk3
          have hB5 := Lib.hid (hb.out.trans (hB4.mono hb.out.size))
          replace hB4 := Lib.hid hB4
          clear hc3 hk3
          by_cases hlt : (k : Int) < a + run
          · go_wp2_with fail
            refine (hG.out _ hB5.out k).mono ?_
            rintro e w4 ⟨rfl, o4⟩
            have hB6 := Lib.hid (hB4.out.trans (o4.mono hB4.out.size))
            clear o4 hc4
            cases hf : f k
            · obtain ⟨q1, q2, q3, q4, q5, q6⟩ := next_mul (p := k) ha
              have hsk := good_skip ha hA.out.1 hk1 hlt hf hA.out.2
              obtain ⟨A, hm⟩ : ∃ A : Nat, ((k : Int) / align + 1) * align = (A : Int) := ⟨(((k : Int) / align + 1) * align).toNat, by omega⟩
              rw [hm] at q1 q2 q3 q4 hsk
              have hR := Lib.hid (And.intro q1 (And.intro (show a < A by omega) (show ∀ j, j < A → goodB f n run align j = false from fun j hj => hsk j (by omega))))
              have hA2 : (A : Int) ≤ 9223372036854775807 := by omega
              have hal0 : align ≠ 0 := by omega
              have hkn : (k : Int) < 1024 := by omega
              replace hf := Lib.hid hf
              clear q1 q2 q3 q4 hsk hN hY
              go_wp2_with fail
              exact ⟨⟨A, rfl, hA2, hR.out.1, hR.out.2.2, hB6.out⟩, by have := hR.out.2.1; simp [intOf]; omega⟩
            · have hK2 := Lib.hid (show ∀ j : Nat, a ≤ j → j < k + 1 → f j = true from fun j h1 h2 => by
                rcases Nat.lt_or_ge j k with h | h
                · exact hK.out j h1 h
                · obtain rfl : j = k := by omega
                  exact hf)
              clear hf
              go_wp2_with fail
              go_roundw
              case rel => exact ⟨k + 1, rfl, by go_num, by omega, by omega, hK2.out, hB6.out⟩
              case measure => simp [intOf]; omega
          · obtain ⟨e1, e2⟩ := hY.out a (good_iff.2 ⟨ha, hA.out.1, fit_iff.2 ⟨t1, by omega, fun j h1 h2 => hK.out j h1 (by omega)⟩⟩) hA.out.2
            subst e1
            subst e2
            go_wp2_with fail
            try rw [Exit.noGoto_ret]
            go_ret2
            exact ⟨rfl, hB5.out⟩
  · have ha' : align < 1 := by omega
    obtain ⟨e1, e2⟩ := fnd_neg (f := f) (n := n) (run := run) ha'
    rw [e1, e2]
    have hb' := fun o => Lib.hid ((Below.refl w.heap.size w).alloc (Nat.le_refl _) o)
    clear H hb hc hs e1 e2 ha
    go_enter Try.func22, Try.ntmps22
    go_wp2_with fail
    go_step3
    go_wp2_with fail
    try rw [Exit.noGoto_ret]
    go_ret2
    exact ⟨rfl, (hb' _).out⟩
end
end Go.Proofs.Ytbabblnpjophdaa
