/- Contracts of layer pages: own, there, find. No statement is proved here.; Contracts of layer pages: find. No statement is proved here.; Contracts of layer pages: New, Free, Count, Fits, Copy, Take, Put. No statement is proved here. -/
import Derived.Test.YticfpnhfhhagpaaDoorml
import Derived.Test.YticfpnhfhhagpaaDoormh
import Derived.WalkMore
import Derived.Deep.LoopGhost
import Derived.Deep.DeepCutAuto
namespace Go.Proofs.YticfpnhfhhagpaaDoor
set_option maxRecDepth 100000
open Go.RowKit
set_option linter.unusedVariables false

/-- At block p stands a pool of n pages, its map at block b; f tells which are free. -/
structure PoolAt (W : World) (p b wb n : Nat) (f : Nat → Bool) : Prop where
  c0 : W.cell? ⟨p, 0, none⟩ = some (.pointer (some ⟨b, 0, none⟩))
  m : MapAt W b wb n f
  ne : p ≠ wb
  lp : p < W.heap.size
  le : n ≤ 1024
section
variable {W W' : World} {p b wb n B : Nat} {f g : Nat → Bool}
theorem PoolAt.below (h : PoolAt W p b wb n f) (hb : Below B W W') (h0 : p < B) (h1 : b < B) (h2 : wb < B) : PoolAt W' p b wb n f :=
  ⟨(hb.cell h0).trans h.c0, h.m.below hb h1 h2, h.ne, Nat.lt_of_lt_of_le h.lp hb.size, h.le⟩
theorem PoolAt.grow (h : PoolAt W p b wb n f) (hb : Below W.heap.size W W') : PoolAt W' p b wb n f := h.below hb h.lp h.m.lb h.m.lw
theorem PoolAt.drewN (h : PoolAt W p b wb n f) (k : Nat) : PoolAt (W.drewN k) p b wb n f := ⟨h.c0, h.m.drewN k, h.ne, h.lp, h.le⟩
theorem PoolAt.drew (h : PoolAt W p b wb n f) : PoolAt W.drew p b wb n f := ⟨h.c0, h.m.drew, h.ne, h.lp, h.le⟩
theorem PoolAt.next (h : PoolAt W p b wb n f) (o : Off W.heap.size wb W W') (m : MapAt W' b wb n g) : PoolAt W' p b wb n g :=
  ⟨(o.cell h.lp h.ne).trans h.c0, m, h.ne, Nat.lt_of_lt_of_le h.lp o.size, h.le⟩
theorem PoolAt.congr (h : PoolAt W p b wb n f) (e : ∀ k, f k = g k) : PoolAt W p b wb n g := ⟨h.c0, h.m.congr e, h.ne, h.lp, h.le⟩
end
/-- A call on a pool has answered v; the pool is as g tells; nothing else has turned. -/
def PNext (p b wb n : Nat) (g : Nat → Bool) (w : World) (v : Value) (e : Ending) (W' : World) : Prop :=
  e = .returned v ∧ PoolAt W' p b wb n g ∧ Off w.heap.size wb w W'

section
variable {p b wb n : Nat} {f : Nat → Bool} {w : World}
theorem pown (H : PoolAt w p b wb n f) : Calls Tryd.prog 43 #[.pointer (some ⟨p, 0, none⟩)] w fun e w' => e = .returned (.agg #[.pointer (some ⟨b, 0, none⟩)]) ∧ Below w.heap.size w w' := by
  have c0 := H.c0
  have lp := H.lp
  have hb := fun o => Lib.hid ((Below.refl w.heap.size w).alloc (Nat.le_refl _) o)
  clear H
  go_enter Tryd.func43, Tryd.ntmps43
  go_wp2
  exact bodyPost_ret (v := .agg #[.pointer (some ⟨b, 0, none⟩)]) (by simp [results, Tryd.results43, go_sem]) rfl ⟨rfl, (hb _).out⟩
theorem pown_nil (w : World) : Calls Tryd.prog 43 #[.pointer none] w fun e w' => e = .returned (.agg #[.pointer none]) ∧ Below w.heap.size w w' := by
  have hb := fun o => Lib.hid ((Below.refl w.heap.size w).alloc (Nat.le_refl _) o)
  go_enter Tryd.func43, Tryd.ntmps43
  go_wp2
  exact bodyPost_ret (v := .agg #[.pointer none]) (by simp [results, Tryd.results43, go_sem]) rfl ⟨rfl, (hb _).out⟩
/-- A place looked at: nothing turns. -/
theorem get_r (H : MapAt w b wb n f) (a : Int) : Calls Tryd.prog 86 #[.pointer (some ⟨b, 0, none⟩), .int .i64 a] w fun e w' => e = .returned (.bool (decide (0 ≤ a) && f a.toNat)) ∧ Below w.heap.size w w' := by
  by_cases h0 : 0 ≤ a
  · obtain ⟨k, rfl⟩ := Int.eq_ofNat_of_zero_le h0
    have e : (decide (0 ≤ (k : Int)) && f (k : Int).toNat) = f k := by simp
    rw [e]
    by_cases hk : k < n
    · exact (get_yes b wb n f k w H hk).mono fun e w' h => ⟨h.1, h.2.elim fun m hm => hm ▸ below_drewN (Below.refl _ _) m⟩
    · rw [H.off k (by omega)]
      exact (get_no b wb n f k w H (by omega)).mono fun e w' h => ⟨h.1, h.2.elim fun m hm => hm ▸ below_drewN (Below.refl _ _) m⟩
  · rw [decide_eq_false h0, Bool.false_and]
    exact (get_no b wb n f a w H (by omega)).mono fun e w' h => ⟨h.1, h.2.elim fun m hm => hm ▸ below_drewN (Below.refl _ _) m⟩
theorem get_n (H : MapAt w b wb n f) (k : Nat) : Calls Tryd.prog 86 #[.pointer (some ⟨b, 0, none⟩), .int .i64 k] w fun e w' => e = .returned (.bool (f k)) ∧ Below w.heap.size w w' := by
  have := get_r H k
  simpa using this
/-- Are so many pages from a on there? -/
def ptr (n : Nat) (a run : Int) : Bool := decide (0 ≤ a) && (decide (1 ≤ run) && decide (a ≤ n - run))
theorem pthere (H : MapAt w b wb n f) (a run : Int) (l1 : run ≤ 9223372036854775807) : Calls Tryd.prog 44 #[.agg #[.pointer (some ⟨b, 0, none⟩)], .int .i64 a, .int .i64 run] w fun e w' => e = .returned (.bool (ptr n a run)) ∧ Below w.heap.size w w' := by
  have hL := Lib.hid (fun w' (h : Below w.heap.size w w') => len_any b wb n f w' (H.below h H.lb H.lw))
  have ln := H.le
  have lb := H.lb
  have hb := fun o => Lib.hid ((Below.refl w.heap.size w).alloc (Nat.le_refl _) o)
  clear H
  by_cases h0 : 0 ≤ a
  · by_cases h1 : 1 ≤ run
    · have hT := Lib.hid (show ptr n a run = decide (a ≤ n - run) by simp [ptr, h0, h1])
      go_enter Tryd.func44, Tryd.ntmps44
      go_wp2_with fail
      refine (hL.out _ (hb _).out).mono ?_
      rintro e w' ⟨rfl, rfl⟩
      go_wp2
      go_ret
      exact ⟨ret_bool hT.out.symm, (hb _).out⟩
    · have hT := Lib.hid (show ptr n a run = false by simp [ptr, h1])
      have h1' : run < 1 := by omega
      clear hL
      go_enter Tryd.func44, Tryd.ntmps44
      go_wp2
      go_ret
      exact ⟨ret_bool hT.out.symm, (hb _).out⟩
  · have hT := Lib.hid (show ptr n a run = false by simp [ptr, h0])
    have h0' : a < 0 := by omega
    clear hL
    go_enter Tryd.func44, Tryd.ntmps44
    go_wp2
    go_ret
    exact ⟨ret_bool hT.out.symm, (hb _).out⟩
end
end Go.Proofs.YticfpnhfhhagpaaDoor
namespace Go.Proofs.YticfpnhfhhagpaaDoor
set_option maxRecDepth 100000
open Go.RowKit
set_option linter.unusedVariables false

section
variable {p b wb n : Nat} {f : Nat → Bool} {w : World}
theorem pfind (H : MapAt w b wb n f) (hn : n ≤ 1024) (run align : Int) (l0 : -9223372036854775808 ≤ run) (l1 : run ≤ 9223372036854775807) (l2 : align ≤ 9223372036854775807) :
    Calls Tryd.prog 69 #[.agg #[.pointer (some ⟨b, 0, none⟩)], .int .i64 run, .int .i64 align] w fun e w' => e = .returned (.tuple #[.int .i64 (fndA f n run align : Nat), .bool (fndB f n run align)]) ∧ Below w.heap.size w w' := by
  have hb := (Below.refl w.heap.size w).alloc (Nat.le_refl _) (.cells #[.pointer (some ⟨b, 0, none⟩)] 83)
  have hc : (w.alloc (.cells #[.pointer (some ⟨b, 0, none⟩)] 83)).cell? ⟨w.heap.size, 0, none⟩ = some (.pointer (some ⟨b, 0, none⟩)) := by rw [World.cell?_alloc_at (hn := rfl)]; rfl
  have hs : w.heap.size < (w.alloc (.cells #[.pointer (some ⟨b, 0, none⟩)] 83)).heap.size := by simp
  by_cases ha : 1 ≤ align
  · have hN := Lib.hid (fun h => fnd_no (f := f) (n := n) (run := run) (align := align) h)
    have hY := Lib.hid (fun a h => fnd_yes (f := f) (n := n) (run := run) (align := align) (a := a) h)
    have hH := Lib.hid H
    generalize fndA f n run align = xA at *
    generalize fndB f n run align = xB at *
    clear H
    go_enter Tryd.func69, Tryd.ntmps69
    go_wp2_with fail
    go_step3
    go_upto_region 1 with (fail)
    generalize (w.alloc (.cells #[.pointer (some ⟨b, 0, none⟩)] 83)) = w1 at hc hb hs ⊢
    replace hb := Lib.hid hb
    replace hs := Lib.hid hs
    go_wp2_with fail
    go_step3
    go_wp2_with fail
    have hG := Lib.hid (fun w' (h : Below w.heap.size w w') (k : Nat) => get_n (hH.out.below h hH.out.lb hH.out.lw) k)
    have hT := Lib.hid (fun w' (h : Below w.heap.size w w') (a : Nat) => pthere (hH.out.below h hH.out.lb hH.out.lw) a run l1)
    have hW := hH.out.lw
    go_loopw [8] (fun i wr => ∃ a : Nat, i = .int .i64 a ∧ (a : Int) ≤ 9223372036854775807 ∧ (a : Int) % align = 0 ∧ (∀ j, j < a → goodB f n run align j = false) ∧ Below w1.heap.size w1 wr) (fun i _ => n + 1 - (intOf i).toNat)
    case atStart => exact ⟨0, rfl, by omega, by simp, fun j h => absurd h (by omega), Below.refl _ _⟩
    case round =>
      obtain ⟨a, rfl, ha1, ha2, ha3, hB⟩ := hrel
      have hc2 := hc
      rw [← hB.cell hs.out] at hc2
      have hB2 := Lib.hid (hb.out.trans (hB.mono hb.out.size))
      have hA := Lib.hid (And.intro ha2 ha3)
      replace hB := Lib.hid hB
      clear ha2 ha3
      go_wp2_with fail
      refine (hT.out _ hB2.out a).mono ?_
      rintro e w2 ⟨rfl, g⟩
      have hc3 := hc2
      rw [← g.cell (by have := hB.out.size; have := hs.out; show w.heap.size < _; omega)] at hc3
      have hB3 := Lib.hid (hB.out.trans (g.mono hB.out.size))
      clear g hc2
      cases ht : ptr n a run
      · obtain ⟨e1, e2⟩ := hN.out (fun j hj => by
          rcases Nat.lt_or_ge j a with h | h
          · exact hA.out.2 j h
          · cases hg : goodB f n run align j
            · rfl
            · have h1 := fit_iff.1 (good_iff.1 hg).2.2
              have h2 : ptr n a run = true := by unfold ptr; simp; omega
              rw [ht] at h2
              cases h2)
        subst e1
        subst e2
        have hE := Lib.hid (hb.out.trans (hB3.out.mono hb.out.size))
        clear ht
        go_wp2_with fail
        try rw [Exit.noGoto_ret]
        go_ret2
        exact ⟨rfl, hE.out⟩
      · have ht' : 1 ≤ run ∧ (a : Int) ≤ n - run := by simpa [ptr] using ht
        obtain ⟨t1, t2⟩ := ht'
        clear ht
        go_wp2_with fail
        go_loopw [8, 9] (fun x i wr => ∃ k : Nat, x = .int .i64 a ∧ i = .int .i64 k ∧ a ≤ k ∧ (k : Int) ≤ a + run ∧ (∀ j : Nat, a ≤ j → j < k → f j = true) ∧ Below w1.heap.size w1 wr) (fun _ i _ => (a + run.toNat) - (intOf i).toNat)
        case atStart => exact ⟨a, rfl, rfl, by omega, by omega, fun j h1 h2 => absurd h2 (by omega), hB3.out⟩
        case round =>
          obtain ⟨k, rfl, rfl, hk1, hk2, hk3, hB4⟩ := hrel
          have hc4 := hc
          rw [← hB4.cell hs.out] at hc4
          have hK := Lib.hid hk3
          have hB5 := Lib.hid (hb.out.trans (hB4.mono hb.out.size))
          replace hB4 := Lib.hid hB4
          clear hc3 hk3
          by_cases hlt : (k : Int) < a + run
          · go_wp2_with fail
            refine (hG.out _ hB5.out k).mono ?_
            rintro e w4 ⟨rfl, o4⟩
            have hB6 := Lib.hid (hB4.out.trans (o4.mono hB4.out.size))
            clear o4 hc4
            cases hf : f k
            · obtain ⟨q1, q2, q3, q4, q5, q6⟩ := next_mul (p := k) ha
              have hsk := good_skip ha hA.out.1 hk1 hlt hf hA.out.2
              obtain ⟨A, hm⟩ : ∃ A : Nat, ((k : Int) / align + 1) * align = (A : Int) := ⟨(((k : Int) / align + 1) * align).toNat, by omega⟩
              rw [hm] at q1 q2 q3 q4 hsk
              have hR := Lib.hid (And.intro q1 (And.intro (show a < A by omega) (show ∀ j, j < A → goodB f n run align j = false from fun j hj => hsk j (by omega))))
              have hA2 : (A : Int) ≤ 9223372036854775807 := by omega
              have hal0 : align ≠ 0 := by omega
              have hkn : (k : Int) < 1024 := by omega
              replace hf := Lib.hid hf
              clear q1 q2 q3 q4 hsk hN hY
              go_wp2_with fail
              exact ⟨⟨A, rfl, hA2, hR.out.1, hR.out.2.2, hB6.out⟩, by have := hR.out.2.1; simp [intOf]; omega⟩
            · have hK2 := Lib.hid (show ∀ j : Nat, a ≤ j → j < k + 1 → f j = true from fun j h1 h2 => by
                rcases Nat.lt_or_ge j k with h | h
                · exact hK.out j h1 h
                · obtain rfl : j = k := by omega
                  exact hf)
              clear hf
              go_wp2_with fail
              go_roundw
              case rel => exact ⟨k + 1, rfl, by go_num, by omega, by omega, hK2.out, hB6.out⟩
              case measure => simp [intOf]; omega
          · obtain ⟨e1, e2⟩ := hY.out a (good_iff.2 ⟨ha, hA.out.1, fit_iff.2 ⟨t1, by omega, fun j h1 h2 => hK.out j h1 (by omega)⟩⟩) hA.out.2
            subst e1
            subst e2
            go_wp2_with fail
            try rw [Exit.noGoto_ret]
            go_ret2
            exact ⟨rfl, hB5.out⟩
  · have ha' : align < 1 := by omega
    obtain ⟨e1, e2⟩ := fnd_neg (f := f) (n := n) (run := run) ha'
    rw [e1, e2]
    have hb' := fun o => Lib.hid ((Below.refl w.heap.size w).alloc (Nat.le_refl _) o)
    clear H hb hc hs e1 e2 ha
    go_enter Tryd.func69, Tryd.ntmps69
    go_wp2_with fail
    go_step3
    go_wp2_with fail
    try rw [Exit.noGoto_ret]
    go_ret2
    exact ⟨rfl, (hb' _).out⟩
end
end Go.Proofs.YticfpnhfhhagpaaDoor
namespace Go.Proofs.YticfpnhfhhagpaaDoor
set_option maxRecDepth 100000
open Go.RowKit
set_option linter.unusedVariables false

section
variable {p b wb n : Nat} {f : Nat → Bool} {w : World}
theorem pfield (b : Nat) : ∀ w, (Instr.field 83 (.agg #[.pointer (some ⟨b, 0, none⟩)]) 0).run Tryd.prog w = .ok (.pointer (some ⟨b, 0, none⟩)) w := fun w => by kernel_rfl
theorem PoolAt.made {W : World} (m : MapAt W b wb n f) (hn : n ≤ 1024) : PoolAt (W.alloc (.cells #[.pointer (some ⟨b, 0, none⟩)] 85)) W.heap.size b wb n f :=
  ⟨by rw [World.cell?_alloc_at (hn := rfl)]; rfl, m.alloc _, by have := m.lw; omega, by simp, hn⟩
theorem pnew_no (n : Int) (w : World) (h : n < 0 ∨ 1024 < n) : Calls Tryd.prog 22 #[.int .i64 n] w fun e w' => e = .returned (.pointer none) ∧ w = w' := by
  rcases h with h | h
  · go_enter Tryd.func22, Tryd.ntmps22
    go_wp2
    go_ret
    exact ⟨rfl, rfl⟩
  · have h' : ¬ n < 0 := by omega
    go_enter Tryd.func22, Tryd.ntmps22
    go_wp2
    go_ret
    exact ⟨rfl, rfl⟩
/-- A new pool at blocks p, b, wb. -/
def Fresh (w : World) (n : Nat) (f : Nat → Bool) (e : Ending) (w' : World) : Prop := ∃ p b wb, e = .returned (.pointer (some ⟨p, 0, none⟩)) ∧ PoolAt w' p b wb n f ∧ w.heap.size ≤ p ∧ w.heap.size ≤ b ∧ w.heap.size ≤ wb ∧ Below w.heap.size w w'
theorem pnew (n : Nat) (w : World) (h : n ≤ 1024) : Calls Tryd.prog 22 #[.int .i64 n] w (Fresh w n fun _ => false) := by
  have hN := Lib.hid (new_yes n w (by omega))
  obtain ⟨D, hD⟩ : ∃ D, D = Fresh w n fun _ => false := ⟨_, rfl⟩
  rw [← hD]
  replace hD := Lib.hid hD
  go_enter Tryd.func22, Tryd.ntmps22
  go_wp2_with fail
  refine hN.out.mono ?_
  rintro e w2 ⟨rfl, m, hb, hz⟩
  have hP := Lib.hid (PoolAt.made m h)
  have hB := Lib.hid (hb.alloc hb.size (.cells #[.pointer (some ⟨w.heap.size + 1, 0, none⟩)] 85))
  have hs := Lib.hid hb.size
  clear m hb hz
  go_wp2
  rw [hD.out]
  exact ⟨_, _, _, rfl, hP.out, hs.out, by omega, by omega, hB.out⟩
theorem pcount (H : PoolAt w p b wb n f) : Calls Tryd.prog 37 #[.pointer (some ⟨p, 0, none⟩)] w fun e w' => e = .returned (.int .i64 (cnt f n : Nat)) ∧ Below w.heap.size w w' := by
  have hO := Lib.hid (pown H)
  have hf := pfield b
  have hG := Lib.hid (fun w' (hb : Below w.heap.size w w') => count_any b wb n f w' (H.grow hb).m)
  generalize cnt f n = v at *
  clear H
  go_enter Tryd.func37, Tryd.ntmps37
  go_wp2_with fail
  refine hO.out.mono ?_
  rintro e w2 ⟨rfl, hb⟩
  have hB := Lib.hid hb
  clear hb
  go_wp2_with fail
  refine (hG.out w2 hB.out).mono ?_
  rintro e w3 ⟨rfl, hb⟩
  have hB3 := Lib.hid (hB.out.trans (hb.mono hB.out.size))
  clear hb
  go_wp2
  go_ret
  exact ⟨rfl, hB3.out⟩
theorem pcopy (H : PoolAt w p b wb n f) : Calls Tryd.prog 40 #[.pointer (some ⟨p, 0, none⟩)] w (Fresh w n f) := by
  have hO := Lib.hid (pown H)
  have hG := Lib.hid (fun w' (hb : Below w.heap.size w w') => copy_any b wb n f w' (H.grow hb).m)
  have hn := H.le
  obtain ⟨D, hD⟩ : ∃ D, D = Fresh w n f := ⟨_, rfl⟩
  rw [← hD]
  replace hD := Lib.hid hD
  clear H
  go_enter Tryd.func40, Tryd.ntmps40
  go_wp2_with fail
  refine hO.out.mono ?_
  rintro e w2 ⟨rfl, hb⟩
  have hB := Lib.hid (hb.alloc hb.size (.cells #[.pointer (some ⟨b, 0, none⟩)] 83))
  have hs := Lib.hid hb.size
  clear hb
  go_wp2_with fail
  refine (hG.out _ hB.out).mono ?_
  rintro e w3 ⟨rfl, m, hb, hz⟩
  generalize w2.alloc (.cells #[.pointer (some ⟨b, 0, none⟩)] 83) = w2b at *
  have hB3 := Lib.hid (hB.out.trans (hb.mono hB.out.size))
  have hP := Lib.hid (PoolAt.made m hn)
  have hB4 := Lib.hid (hB3.out.alloc hB3.out.size (.cells #[.pointer (some ⟨w2b.heap.size + 1, 0, none⟩)] 85))
  clear m hb hz
  go_wp2
  rw [hD.out]
  exact ⟨_, _, _, rfl, hP.out, hB3.out.size, by have := hB.out.size; omega, hB.out.size, hB4.out⟩
theorem tk_eq (f : Nat → Bool) (n : Nat) (run align : Int) (hn : n ≤ 1024) (h : fndB f n run align = true) (k : Nat) :
    (f k && !inr (max ((fndA f n run align : Nat) : Int) 0).toNat (min ((fndA f n run align : Nat) + run) n).toNat k) = tkF f n run align k := by
  have hg := fit_iff.1 (good_iff.1 (fnd_is h).1).2.2
  unfold tkF
  rw [if_pos h]
  have e1 : (max ((fndA f n run align : Nat) : Int) 0).toNat = fndA f n run align := by omega
  have e2 : (min ((fndA f n run align : Nat) + run) n).toNat = fndA f n run align + run.toNat := by omega
  rw [e1, e2]
theorem ptake (H : PoolAt w p b wb n f) (run align : Int) (l0 : -9223372036854775808 ≤ run) (l1 : run ≤ 9223372036854775807) (l2 : align ≤ 9223372036854775807) :
    Calls Tryd.prog 50 #[.pointer (some ⟨p, 0, none⟩), .int .i64 run, .int .i64 align] w (PNext p b wb n (tkF f n run align) w (.tuple #[.int .i64 (fndA f n run align : Nat), .bool (fndB f n run align)])) := by
  have hO := Lib.hid (pown H)
  have hG := Lib.hid (fun w' (hb : Below w.heap.size w w') => pfind (H.grow hb).m H.le run align l0 l1 l2)
  have hE := Lib.hid (tk_eq f n run align H.le)
  have hR := Lib.hid (show fndB f n run align = true → 1 ≤ run ∧ ((fndA f n run align : Nat) : Int) + run ≤ n from fun h => by have hg := fit_iff.1 (good_iff.1 (fnd_is h).1).2.2; omega)
  have hF := Lib.hid (show fndB f n run align = false → tkF f n run align = f from fun h => by unfold tkF; rw [h]; rfl)
  have hn := H.le
  have hH := Lib.hid H
  obtain ⟨D, hD⟩ : ∃ D, D = PNext p b wb n (tkF f n run align) w (.tuple #[.int .i64 (fndA f n run align : Nat), .bool (fndB f n run align)]) := ⟨_, rfl⟩
  rw [← hD]
  replace hD := Lib.hid hD
  generalize tkF f n run align = g at *
  generalize fndA f n run align = xA at *
  generalize fndB f n run align = xB at *
  clear H
  go_enter Tryd.func50, Tryd.ntmps50
  go_wp2_with fail
  refine hO.out.mono ?_
  rintro e w2 ⟨rfl, hb⟩
  have hc : (w2.alloc (.cells #[.pointer (some ⟨b, 0, none⟩)] 83)).cell? ⟨w2.heap.size, 0, none⟩ = some (.pointer (some ⟨b, 0, none⟩)) := by rw [World.cell?_alloc_at (hn := rfl)]; rfl
  have hz := Lib.hid (show w2.heap.size < (w2.alloc (.cells #[.pointer (some ⟨b, 0, none⟩)] 83)).heap.size by simp)
  have hB := Lib.hid (hb.alloc hb.size (.cells #[.pointer (some ⟨b, 0, none⟩)] 83))
  clear hb
  go_wp2_with fail
  refine (hG.out _ hB.out).mono ?_
  rintro e w3 ⟨rfl, hb⟩
  generalize w2.alloc (.cells #[.pointer (some ⟨b, 0, none⟩)] 83) = w2b at *
  rw [← hb.cell hz.out] at hc
  have hB3 := Lib.hid (hB.out.trans (hb.mono hB.out.size))
  clear hb
  cases xB
  · have hg := hF.out rfl
    subst hg
    clear hE hR hF hc
    go_wp2
    rw [hD.out]
    exact ⟨rfl, hH.out.grow hB3.out, Off.of_below hB3.out⟩
  · obtain ⟨r1, r2⟩ := hR.out rfl
    clear hR hF
    have hC := Lib.hid (clear_u (hH.out.grow hB3.out).m (xA : Int) (xA + run) (by omega) (by omega) _ rfl g (hE.out rfl))
    clear hE
    go_wp2_with fail
    refine hC.out.mono ?_
    rintro e w4 ⟨rfl, m, o⟩
    have hP := Lib.hid ((hH.out.grow hB3.out).next o m)
    have hO4 := Lib.hid ((Off.of_below hB3.out).step o)
    clear m o
    go_wp2
    rw [hD.out]
    exact ⟨rfl, hP.out, hO4.out⟩
theorem pt_any {f : Nat → Bool} {n : Nat} {a run : Int} (h : ptr n a run = true) : decide (0 < cnt (fun k => f k && inr (max a 0).toNat (min (a + run) n).toNat k) n) = !ptB f n a run := by
  have ht : 0 ≤ a ∧ 1 ≤ run ∧ a ≤ n - run := by simpa [ptr] using h
  have e1 : (max a 0).toNat = a.toNat := by omega
  have e2 : (min (a + run) n).toNat = (a + run).toNat := by omega
  rw [e1, e2]
  cases hp : ptB f n a run
  · rw [Bool.not_false, decide_eq_true_eq]
    apply Nat.pos_of_ne_zero
    intro h0
    have : ptB f n a run = true := pt_iff.2 ⟨ht.1, ht.2.1, by omega, fun k h1 h2 => by
      cases hf : f k
      · rfl
      · have := cnt_pos_of (g := fun k => f k && inr a.toNat (a + run).toNat k) (k := n) (j := k) (by omega) (by
          rw [hf]; unfold inr; simp; omega)
        omega⟩
    rw [hp] at this
    cases this
  · have := pt_iff.1 hp
    rw [Bool.not_true, decide_eq_false_iff_not, cnt_zero]
    · decide
    · intro j hj
      cases hi : inr a.toNat (a + run).toNat j
      · simp
      · unfold inr at hi
        simp at hi
        rw [this.2.2.2 j (by omega) (by omega)]
        rfl
theorem pt_step {f : Nat → Bool} {a j : Nat} (k : Nat) : (if (k = a + j) then true else (f k || inr a (a + j) k)) = (f k || inr a (a + (j + 1)) k) := by
  by_cases h : k = a + j
  · have : inr a (a + (j + 1)) k = true := by unfold inr; simp; omega
    rw [if_pos h, this, Bool.or_true]
  · have : inr a (a + (j + 1)) k = inr a (a + j) k := by
      unfold inr
      congr 1
      rw [decide_eq_decide]; omega
    rw [if_neg h, this]
theorem pput (H : PoolAt w p b wb n f) (a run : Int) (l0 : -9223372036854775808 ≤ run) (l1 : run ≤ 9223372036854775807) (l2 : -9223372036854775808 ≤ a) (l3 : a ≤ 9223372036854775807) :
    Calls Tryd.prog 23 #[.pointer (some ⟨p, 0, none⟩), .int .i64 a, .int .i64 run] w (PNext p b wb n (ptF f n a run) w (.bool (ptB f n a run))) := by
  have hO := Lib.hid (pown H)
  have hT := Lib.hid (fun w' (hb : Below w.heap.size w w') => pthere (H.grow hb).m a run l1)
  have hn := H.le
  have hH := Lib.hid H
  have hN := Lib.hid (show ptr n a run = false → ptB f n a run = false ∧ ptF f n a run = f from fun h => by
    have : ptB f n a run = false := by
      cases hp : ptB f n a run
      · rfl
      · have := pt_iff.1 hp
        have : ptr n a run = true := by unfold ptr; simp; omega
        rw [h] at this
        cases this
    exact ⟨this, by unfold ptF; rw [this]; rfl⟩)
  have hY := Lib.hid (show ptr n a run = true → 0 ≤ a ∧ 1 ≤ run ∧ a ≤ n - run ∧ ∀ w', Below w.heap.size w w' → Calls Tryd.prog 45 #[.pointer (some ⟨b, 0, none⟩), .int .i64 a, .int .i64 (a + run)] w' fun e w'' => e = .returned (.bool (!ptB f n a run)) ∧ Below w'.heap.size w' w'' from fun h => by
    have ht : 0 ≤ a ∧ 1 ≤ run ∧ a ≤ n - run := by simpa [ptr] using h
    refine ⟨ht.1, ht.2.1, ht.2.2, fun w' hb => ?_⟩
    have := any_any b wb n (max a 0).toNat (min (a + run) n).toNat f a (a + run) w' (H.grow hb).m (by omega) (by omega) (by omega) rfl
    rw [pt_any h] at this
    exact this)
  have hF := Lib.hid (show ptB f n a run = false → ptF f n a run = f from fun h => by unfold ptF; rw [h]; rfl)
  have hF2 := Lib.hid (show ptB f n a run = true → ∀ k, (f k || inr a.toNat (a.toNat + run.toNat) k) = ptF f n a run k from fun h k => by
    have := pt_iff.1 h
    unfold ptF; rw [h, if_pos rfl, show (a + run).toNat = a.toNat + run.toNat by omega])
  obtain ⟨D, hD⟩ : ∃ D, D = PNext p b wb n (ptF f n a run) w (.bool (ptB f n a run)) := ⟨_, rfl⟩
  rw [← hD]
  replace hD := Lib.hid hD
  generalize ptF f n a run = g at *
  generalize ptB f n a run = xB at *
  generalize ptr n a run = xT at *
  clear H
  go_enter Tryd.func23, Tryd.ntmps23
  go_wp2_with fail
  refine hO.out.mono ?_
  rintro e w2 ⟨rfl, hb⟩
  have hc : (w2.alloc (.cells #[.pointer (some ⟨b, 0, none⟩)] 83)).cell? ⟨w2.heap.size, 0, none⟩ = some (.pointer (some ⟨b, 0, none⟩)) := by rw [World.cell?_alloc_at (hn := rfl)]; rfl
  have hz := Lib.hid (show w2.heap.size < (w2.alloc (.cells #[.pointer (some ⟨b, 0, none⟩)] 83)).heap.size by simp)
  have hB := Lib.hid (hb.alloc hb.size (.cells #[.pointer (some ⟨b, 0, none⟩)] 83))
  have hq := Lib.hid hb.size
  clear hb
  go_wp2_with fail
  refine (hT.out _ hB.out).mono ?_
  rintro e w3 ⟨rfl, hb⟩
  generalize w2.alloc (.cells #[.pointer (some ⟨b, 0, none⟩)] 83) = w2b at *
  rw [← hb.cell hz.out] at hc
  have hz3 := Lib.hid (Nat.lt_of_lt_of_le hz.out hb.size)
  have hB3 := Lib.hid (hB.out.trans (hb.mono hB.out.size))
  clear hb
  cases xT
  · obtain ⟨rfl, rfl⟩ := hN.out rfl
    clear hY hF hF2 hc
    go_wp2
    rw [hD.out]
    exact ⟨rfl, hH.out.grow hB3.out, Off.of_below hB3.out⟩
  · obtain ⟨r0, r1, r2, hA⟩ := hY.out rfl
    replace hA := Lib.hid (hA w3 hB3.out)
    clear hY hN
    go_wp2_with fail
    refine hA.out.mono ?_
    rintro e w4 ⟨rfl, hb⟩
    rw [← hb.cell hz3.out] at hc
    have hz4 := Lib.hid (Nat.lt_of_lt_of_le hz3.out hb.size)
    have hB4 := Lib.hid (hB3.out.trans (hb.mono hB3.out.size))
    clear hb
    cases xB
    · have hg := hF.out rfl
      subst hg
      clear hF hF2 hc
      go_wp2
      rw [hD.out]
      exact ⟨rfl, hH.out.grow hB4.out, Off.of_below hB4.out⟩
    · have hg := hF2.out rfl
      obtain ⟨A, rfl⟩ := Int.eq_ofNat_of_zero_le r0
      obtain ⟨R, rfl⟩ := Int.eq_ofNat_of_zero_le (show 0 ≤ run by omega)
      replace hg := Lib.hid hg
      clear hF hF2
      have hI0 := Lib.hid (show PoolAt w4 p b wb n (fun k => f k || inr A (A + 0) k) ∧ Off w.heap.size wb w w4 ∧ w2.heap.size < w4.heap.size ∧ w4.cell? ⟨w2.heap.size, 0, none⟩ = some (.pointer (some ⟨b, 0, none⟩)) from
        ⟨(hH.out.grow hB4.out).congr fun k => by
          have : inr A (A + 0) k = false := by unfold inr; simp
          rw [this, Bool.or_false], Off.of_below hB4.out, hz4.out, hc⟩)
      have hlw := Lib.hid (show w2.heap.size ≠ wb by have := hH.out.m.lw; have := hq.out; omega)
      clear hc
      go_wp2_with fail
      go_loopw [26] (fun i wr => ∃ j : Nat, i = .int .i64 j ∧ j ≤ R ∧ PoolAt wr p b wb n (fun k => f k || inr A (A + j) k) ∧ Off w.heap.size wb w wr ∧ w2.heap.size < wr.heap.size ∧ wr.cell? ⟨w2.heap.size, 0, none⟩ = some (.pointer (some ⟨b, 0, none⟩))) (fun i _ => R - (intOf i).toNat)
      case atStart => exact ⟨0, rfl, by omega, hI0.out⟩
      case round =>
        obtain ⟨j, rfl, hj, hP, hOf, hzr, hcr⟩ := hrel
        replace hP := Lib.hid hP
        replace hOf := Lib.hid hOf
        have hjr := Lib.hid hcr
        replace hzr := Lib.hid hzr
        have hj' : (j : Int) ≤ 1024 := by omega
        by_cases hlt : j < R
        · have hPut := Lib.hid (tput_any b wb n (fun k => f k || inr A (A + j) k) (A + j) true wr hP.out.m (by omega))
          rw [show ((A + j : Nat) : Int) = (A : Int) + j by omega] at hPut
          go_wp2_with fail
          refine hPut.out.mono ?_
          rintro e w5 ⟨rfl, m, o⟩
          have hP2 := Lib.hid ((hP.out.next o m).congr (g := fun k => f k || inr A (A + (j + 1)) k) fun k => pt_step k)
          have hc5 := Lib.hid ((o.cell (p := ⟨w2.heap.size, 0, none⟩) hzr.out hlw.out).trans hjr.out)
          have hO5 := Lib.hid (hOf.out.step o)
          have hz5 := Lib.hid (Nat.lt_of_lt_of_le hzr.out o.size)
          clear m o hcr
          go_wp2_with fail
          go_roundw
          case rel => exact ⟨j + 1, by go_num, by omega, hP2.out, hO5.out, hz5.out, hc5.out⟩
          case measure => simp [intOf]; omega
        · obtain rfl : j = R := by omega
          have hP2 := Lib.hid (hP.out.congr hg.out)
          go_wp2_with fail
          rw [hD.out]
          exact ⟨rfl, hP2.out, hOf.out⟩
end
end Go.Proofs.YticfpnhfhhagpaaDoor
