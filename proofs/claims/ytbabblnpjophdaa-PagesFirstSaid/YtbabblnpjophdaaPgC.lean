/- Contracts of layer pages: New, Free, Count, Fits, Copy, Take, Put. No statement is proved here. -/
import Derived.Test.YtbabblnpjophdaaPgB
import Derived.Deep.LoopGhost
import Derived.Deep.DeepCutAuto
namespace Go.Proofs.Ytbabblnpjophdaa
set_option maxRecDepth 100000
open Go.RowKit
set_option linter.unusedVariables false

section
variable {p b wb n : Nat} {f : Nat → Bool} {w : World}
theorem pfield (b : Nat) : ∀ w, (Instr.field 50 (.agg #[.pointer (some ⟨b, 0, none⟩)]) 0).run Try.prog w = .ok (.pointer (some ⟨b, 0, none⟩)) w := fun w => by kernel_rfl
theorem PoolAt.made {W : World} (m : MapAt W b wb n f) (hn : n ≤ 1024) : PoolAt (W.alloc (.cells #[.pointer (some ⟨b, 0, none⟩)] 52)) W.heap.size b wb n f :=
  ⟨by rw [World.cell?_alloc_at (hn := rfl)]; rfl, m.alloc _, by have := m.lw; omega, by simp, hn⟩
theorem pnew_no (n : Int) (w : World) (h : n < 0 ∨ 1024 < n) : Calls Try.prog 7 #[.int .i64 n] w fun e w' => e = .returned (.pointer none) ∧ w = w' := by
  rcases h with h | h
  · go_enter Try.func7, Try.ntmps7
    go_wp2
    go_ret
    exact ⟨rfl, rfl⟩
  · have h' : ¬ n < 0 := by omega
    go_enter Try.func7, Try.ntmps7
    go_wp2
    go_ret
    exact ⟨rfl, rfl⟩
/-- A new pool at blocks p, b, wb. -/
def Fresh (w : World) (n : Nat) (f : Nat → Bool) (e : Ending) (w' : World) : Prop := ∃ p b wb, e = .returned (.pointer (some ⟨p, 0, none⟩)) ∧ PoolAt w' p b wb n f ∧ w.heap.size ≤ p ∧ w.heap.size ≤ b ∧ w.heap.size ≤ wb ∧ Below w.heap.size w w'
theorem pnew (n : Nat) (w : World) (h : n ≤ 1024) : Calls Try.prog 7 #[.int .i64 n] w (Fresh w n fun _ => false) := by
  have hN := Lib.hid (new_yes n w (by omega))
  obtain ⟨D, hD⟩ : ∃ D, D = Fresh w n fun _ => false := ⟨_, rfl⟩
  rw [← hD]
  replace hD := Lib.hid hD
  go_enter Try.func7, Try.ntmps7
  go_wp2_with fail
  refine hN.out.mono ?_
  rintro e w2 ⟨rfl, m, hb, hz⟩
  have hP := Lib.hid (PoolAt.made m h)
  have hB := Lib.hid (hb.alloc hb.size (.cells #[.pointer (some ⟨w.heap.size + 1, 0, none⟩)] 52))
  have hs := Lib.hid hb.size
  clear m hb hz
  go_wp2
  rw [hD.out]
  exact ⟨_, _, _, rfl, hP.out, hs.out, by omega, by omega, hB.out⟩
theorem pfree (H : PoolAt w p b wb n f) (a : Int) : Calls Try.prog 18 #[.pointer (some ⟨p, 0, none⟩), .int .i64 a] w fun e w' => e = .returned (.bool (decide (0 ≤ a) && f a.toNat)) ∧ Below w.heap.size w w' := by
  have hO := Lib.hid (pown H)
  have hf := pfield b
  have hG := Lib.hid (fun w' (hb : Below w.heap.size w w') => get_r (H.grow hb).m a)
  generalize (decide (0 ≤ a) && f a.toNat) = v at *
  clear H
  go_enter Try.func18, Try.ntmps18
  go_wp2_with fail
  refine hO.out.mono ?_
  rintro e w2 ⟨rfl, hb⟩
  have hB := Lib.hid hb
  clear hb
  go_wp2_with fail
  refine (hG.out w2 hB.out).mono ?_
  rintro e w3 ⟨rfl, hb⟩
  have hB3 := Lib.hid (hB.out.trans (hb.mono hB.out.size))
  clear hb
  go_wp2
  go_ret
  exact ⟨rfl, hB3.out⟩
theorem pcount (H : PoolAt w p b wb n f) : Calls Try.prog 16 #[.pointer (some ⟨p, 0, none⟩)] w fun e w' => e = .returned (.int .i64 (cnt f n : Nat)) ∧ Below w.heap.size w w' := by
  have hO := Lib.hid (pown H)
  have hf := pfield b
  have hG := Lib.hid (fun w' (hb : Below w.heap.size w w') => count_any b wb n f w' (H.grow hb).m)
  generalize cnt f n = v at *
  clear H
  go_enter Try.func16, Try.ntmps16
  go_wp2_with fail
  refine hO.out.mono ?_
  rintro e w2 ⟨rfl, hb⟩
  have hB := Lib.hid hb
  clear hb
  go_wp2_with fail
  refine (hG.out w2 hB.out).mono ?_
  rintro e w3 ⟨rfl, hb⟩
  have hB3 := Lib.hid (hB.out.trans (hb.mono hB.out.size))
  clear hb
  go_wp2
  go_ret
  exact ⟨rfl, hB3.out⟩
theorem pfits (H : PoolAt w p b wb n f) (run align : Int) (l0 : -9223372036854775808 ≤ run) (l1 : run ≤ 9223372036854775807) (l2 : align ≤ 9223372036854775807) :
    Calls Try.prog 14 #[.pointer (some ⟨p, 0, none⟩), .int .i64 run, .int .i64 align] w fun e w' => e = .returned (.bool (fndB f n run align)) ∧ Below w.heap.size w w' := by
  have hO := Lib.hid (pown H)
  have hG := Lib.hid (fun w' (hb : Below w.heap.size w w') => pfind (H.grow hb).m H.le run align l0 l1 l2)
  generalize fndA f n run align = xA at *
  generalize fndB f n run align = xB at *
  clear H
  go_enter Try.func14, Try.ntmps14
  go_wp2_with fail
  refine hO.out.mono ?_
  rintro e w2 ⟨rfl, hb⟩
  have hB := Lib.hid hb
  clear hb
  go_wp2_with fail
  refine (hG.out w2 hB.out).mono ?_
  rintro e w3 ⟨rfl, hb⟩
  have hB3 := Lib.hid (hB.out.trans (hb.mono hB.out.size))
  clear hb
  go_wp2
  go_ret
  exact ⟨rfl, hB3.out⟩
theorem pcopy (H : PoolAt w p b wb n f) : Calls Try.prog 15 #[.pointer (some ⟨p, 0, none⟩)] w (Fresh w n f) := by
  have hO := Lib.hid (pown H)
  have hG := Lib.hid (fun w' (hb : Below w.heap.size w w') => copy_any b wb n f w' (H.grow hb).m)
  have hn := H.le
  obtain ⟨D, hD⟩ : ∃ D, D = Fresh w n f := ⟨_, rfl⟩
  rw [← hD]
  replace hD := Lib.hid hD
  clear H
  go_enter Try.func15, Try.ntmps15
  go_wp2_with fail
  refine hO.out.mono ?_
  rintro e w2 ⟨rfl, hb⟩
  have hB := Lib.hid (hb.alloc hb.size (.cells #[.pointer (some ⟨b, 0, none⟩)] 50))
  have hs := Lib.hid hb.size
  clear hb
  go_wp2_with fail
  refine (hG.out _ hB.out).mono ?_
  rintro e w3 ⟨rfl, m, hb, hz⟩
  generalize w2.alloc (.cells #[.pointer (some ⟨b, 0, none⟩)] 50) = w2b at *
  have hB3 := Lib.hid (hB.out.trans (hb.mono hB.out.size))
  have hP := Lib.hid (PoolAt.made m hn)
  have hB4 := Lib.hid (hB3.out.alloc hB3.out.size (.cells #[.pointer (some ⟨w2b.heap.size + 1, 0, none⟩)] 52))
  clear m hb hz
  go_wp2
  rw [hD.out]
  exact ⟨_, _, _, rfl, hP.out, hB3.out.size, by have := hB.out.size; omega, hB.out.size, hB4.out⟩
theorem tk_eq (f : Nat → Bool) (n : Nat) (run align : Int) (hn : n ≤ 1024) (h : fndB f n run align = true) (k : Nat) :
    (f k && !inr (max ((fndA f n run align : Nat) : Int) 0).toNat (min ((fndA f n run align : Nat) + run) n).toNat k) = tkF f n run align k := by
  have hg := fit_iff.1 (good_iff.1 (fnd_is h).1).2.2
  unfold tkF
  rw [if_pos h]
  have e1 : (max ((fndA f n run align : Nat) : Int) 0).toNat = fndA f n run align := by omega
  have e2 : (min ((fndA f n run align : Nat) + run) n).toNat = fndA f n run align + run.toNat := by omega
  rw [e1, e2]
theorem ptake (H : PoolAt w p b wb n f) (run align : Int) (l0 : -9223372036854775808 ≤ run) (l1 : run ≤ 9223372036854775807) (l2 : align ≤ 9223372036854775807) :
    Calls Try.prog 9 #[.pointer (some ⟨p, 0, none⟩), .int .i64 run, .int .i64 align] w (PNext p b wb n (tkF f n run align) w (.tuple #[.int .i64 (fndA f n run align : Nat), .bool (fndB f n run align)])) := by
  have hO := Lib.hid (pown H)
  have hG := Lib.hid (fun w' (hb : Below w.heap.size w w') => pfind (H.grow hb).m H.le run align l0 l1 l2)
  have hE := Lib.hid (tk_eq f n run align H.le)
  have hR := Lib.hid (show fndB f n run align = true → 1 ≤ run ∧ ((fndA f n run align : Nat) : Int) + run ≤ n from fun h => by have hg := fit_iff.1 (good_iff.1 (fnd_is h).1).2.2; omega)
  have hF := Lib.hid (show fndB f n run align = false → tkF f n run align = f from fun h => by unfold tkF; rw [h]; rfl)
  have hn := H.le
  have hH := Lib.hid H
  obtain ⟨D, hD⟩ : ∃ D, D = PNext p b wb n (tkF f n run align) w (.tuple #[.int .i64 (fndA f n run align : Nat), .bool (fndB f n run align)]) := ⟨_, rfl⟩
  rw [← hD]
  replace hD := Lib.hid hD
  generalize tkF f n run align = g at *
  generalize fndA f n run align = xA at *
  generalize fndB f n run align = xB at *
  clear H
  go_enter Try.func9, Try.ntmps9
  go_wp2_with fail
  refine hO.out.mono ?_
  rintro e w2 ⟨rfl, hb⟩
  have hc : (w2.alloc (.cells #[.pointer (some ⟨b, 0, none⟩)] 50)).cell? ⟨w2.heap.size, 0, none⟩ = some (.pointer (some ⟨b, 0, none⟩)) := by rw [World.cell?_alloc_at (hn := rfl)]; rfl
  have hz := Lib.hid (show w2.heap.size < (w2.alloc (.cells #[.pointer (some ⟨b, 0, none⟩)] 50)).heap.size by simp)
  have hB := Lib.hid (hb.alloc hb.size (.cells #[.pointer (some ⟨b, 0, none⟩)] 50))
  clear hb
  go_wp2_with fail
  refine (hG.out _ hB.out).mono ?_
  rintro e w3 ⟨rfl, hb⟩
  generalize w2.alloc (.cells #[.pointer (some ⟨b, 0, none⟩)] 50) = w2b at *
  rw [← hb.cell hz.out] at hc
  have hB3 := Lib.hid (hB.out.trans (hb.mono hB.out.size))
  clear hb
  cases xB
  · have hg := hF.out rfl
    subst hg
    clear hE hR hF hc
    go_wp2
    rw [hD.out]
    exact ⟨rfl, hH.out.grow hB3.out, Off.of_below hB3.out⟩
  · obtain ⟨r1, r2⟩ := hR.out rfl
    clear hR hF
    have hC := Lib.hid (clear_u (hH.out.grow hB3.out).m (xA : Int) (xA + run) (by omega) (by omega) _ rfl g (hE.out rfl))
    clear hE
    go_wp2_with fail
    refine hC.out.mono ?_
    rintro e w4 ⟨rfl, m, o⟩
    have hP := Lib.hid ((hH.out.grow hB3.out).next o m)
    have hO4 := Lib.hid ((Off.of_below hB3.out).step o)
    clear m o
    go_wp2
    rw [hD.out]
    exact ⟨rfl, hP.out, hO4.out⟩
theorem pt_any {f : Nat → Bool} {n : Nat} {a run : Int} (h : ptr n a run = true) : decide (0 < cnt (fun k => f k && inr (max a 0).toNat (min (a + run) n).toNat k) n) = !ptB f n a run := by
  have ht : 0 ≤ a ∧ 1 ≤ run ∧ a ≤ n - run := by simpa [ptr] using h
  have e1 : (max a 0).toNat = a.toNat := by omega
  have e2 : (min (a + run) n).toNat = (a + run).toNat := by omega
  rw [e1, e2]
  cases hp : ptB f n a run
  · rw [Bool.not_false, decide_eq_true_eq]
    apply Nat.pos_of_ne_zero
    intro h0
    have : ptB f n a run = true := pt_iff.2 ⟨ht.1, ht.2.1, by omega, fun k h1 h2 => by
      cases hf : f k
      · rfl
      · have := cnt_pos_of (g := fun k => f k && inr a.toNat (a + run).toNat k) (k := n) (j := k) (by omega) (by
          rw [hf]; unfold inr; simp; omega)
        omega⟩
    rw [hp] at this
    cases this
  · have := pt_iff.1 hp
    rw [Bool.not_true, decide_eq_false_iff_not, cnt_zero]
    · decide
    · intro j hj
      cases hi : inr a.toNat (a + run).toNat j
      · simp
      · unfold inr at hi
        simp at hi
        rw [this.2.2.2 j (by omega) (by omega)]
        rfl
theorem pt_step {f : Nat → Bool} {a j : Nat} (k : Nat) : (if (k = a + j) then true else (f k || inr a (a + j) k)) = (f k || inr a (a + (j + 1)) k) := by
  by_cases h : k = a + j
  · have : inr a (a + (j + 1)) k = true := by unfold inr; simp; omega
    rw [if_pos h, this, Bool.or_true]
  · have : inr a (a + (j + 1)) k = inr a (a + j) k := by
      unfold inr
      congr 1
      rw [decide_eq_decide]; omega
    rw [if_neg h, this]
theorem pput (H : PoolAt w p b wb n f) (a run : Int) (l0 : -9223372036854775808 ≤ run) (l1 : run ≤ 9223372036854775807) (l2 : -9223372036854775808 ≤ a) (l3 : a ≤ 9223372036854775807) :
    Calls Try.prog 11 #[.pointer (some ⟨p, 0, none⟩), .int .i64 a, .int .i64 run] w (PNext p b wb n (ptF f n a run) w (.bool (ptB f n a run))) := by
  have hO := Lib.hid (pown H)
  have hT := Lib.hid (fun w' (hb : Below w.heap.size w w') => pthere (H.grow hb).m a run l1)
  have hn := H.le
  have hH := Lib.hid H
  have hN := Lib.hid (show ptr n a run = false → ptB f n a run = false ∧ ptF f n a run = f from fun h => by
    have : ptB f n a run = false := by
      cases hp : ptB f n a run
      · rfl
      · have := pt_iff.1 hp
        have : ptr n a run = true := by unfold ptr; simp; omega
        rw [h] at this
        cases this
    exact ⟨this, by unfold ptF; rw [this]; rfl⟩)
  have hY := Lib.hid (show ptr n a run = true → 0 ≤ a ∧ 1 ≤ run ∧ a ≤ n - run ∧ ∀ w', Below w.heap.size w w' → Calls Try.prog 25 #[.pointer (some ⟨b, 0, none⟩), .int .i64 a, .int .i64 (a + run)] w' fun e w'' => e = .returned (.bool (!ptB f n a run)) ∧ Below w'.heap.size w' w'' from fun h => by
    have ht : 0 ≤ a ∧ 1 ≤ run ∧ a ≤ n - run := by simpa [ptr] using h
    refine ⟨ht.1, ht.2.1, ht.2.2, fun w' hb => ?_⟩
    have := any_any b wb n (max a 0).toNat (min (a + run) n).toNat f a (a + run) w' (H.grow hb).m (by omega) (by omega) (by omega) rfl
    rw [pt_any h] at this
    exact this)
  have hF := Lib.hid (show ptB f n a run = false → ptF f n a run = f from fun h => by unfold ptF; rw [h]; rfl)
  have hF2 := Lib.hid (show ptB f n a run = true → ∀ k, (f k || inr a.toNat (a.toNat + run.toNat) k) = ptF f n a run k from fun h k => by
    have := pt_iff.1 h
    unfold ptF; rw [h, if_pos rfl, show (a + run).toNat = a.toNat + run.toNat by omega])
  obtain ⟨D, hD⟩ : ∃ D, D = PNext p b wb n (ptF f n a run) w (.bool (ptB f n a run)) := ⟨_, rfl⟩
  rw [← hD]
  replace hD := Lib.hid hD
  generalize ptF f n a run = g at *
  generalize ptB f n a run = xB at *
  generalize ptr n a run = xT at *
  clear H
  go_enter Try.func11, Try.ntmps11
  go_wp2_with fail
  refine hO.out.mono ?_
  rintro e w2 ⟨rfl, hb⟩
  have hc : (w2.alloc (.cells #[.pointer (some ⟨b, 0, none⟩)] 50)).cell? ⟨w2.heap.size, 0, none⟩ = some (.pointer (some ⟨b, 0, none⟩)) := by rw [World.cell?_alloc_at (hn := rfl)]; rfl
  have hz := Lib.hid (show w2.heap.size < (w2.alloc (.cells #[.pointer (some ⟨b, 0, none⟩)] 50)).heap.size by simp)
  have hB := Lib.hid (hb.alloc hb.size (.cells #[.pointer (some ⟨b, 0, none⟩)] 50))
  have hq := Lib.hid hb.size
  clear hb
  go_wp2_with fail
  refine (hT.out _ hB.out).mono ?_
  rintro e w3 ⟨rfl, hb⟩
  generalize w2.alloc (.cells #[.pointer (some ⟨b, 0, none⟩)] 50) = w2b at *
  rw [← hb.cell hz.out] at hc
  have hz3 := Lib.hid (Nat.lt_of_lt_of_le hz.out hb.size)
  have hB3 := Lib.hid (hB.out.trans (hb.mono hB.out.size))
  clear hb
  cases xT
  · obtain ⟨rfl, rfl⟩ := hN.out rfl
    clear hY hF hF2 hc
    go_wp2
    rw [hD.out]
    exact ⟨rfl, hH.out.grow hB3.out, Off.of_below hB3.out⟩
  · obtain ⟨r0, r1, r2, hA⟩ := hY.out rfl
    replace hA := Lib.hid (hA w3 hB3.out)
    clear hY hN
    go_wp2_with fail
    refine hA.out.mono ?_
    rintro e w4 ⟨rfl, hb⟩
    rw [← hb.cell hz3.out] at hc
    have hz4 := Lib.hid (Nat.lt_of_lt_of_le hz3.out hb.size)
    have hB4 := Lib.hid (hB3.out.trans (hb.mono hB3.out.size))
    clear hb
    cases xB
    · have hg := hF.out rfl
      subst hg
      clear hF hF2 hc
      go_wp2
      rw [hD.out]
      exact ⟨rfl, hH.out.grow hB4.out, Off.of_below hB4.out⟩
    · have hg := hF2.out rfl
      obtain ⟨A, rfl⟩ := Int.eq_ofNat_of_zero_le r0
      obtain ⟨R, rfl⟩ := Int.eq_ofNat_of_zero_le (show 0 ≤ run by omega)
      replace hg := Lib.hid hg
      clear hF hF2
      have hI0 := Lib.hid (show PoolAt w4 p b wb n (fun k => f k || inr A (A + 0) k) ∧ Off w.heap.size wb w w4 ∧ w2.heap.size < w4.heap.size ∧ w4.cell? ⟨w2.heap.size, 0, none⟩ = some (.pointer (some ⟨b, 0, none⟩)) from
        ⟨(hH.out.grow hB4.out).congr fun k => by
          have : inr A (A + 0) k = false := by unfold inr; simp
          rw [this, Bool.or_false], Off.of_below hB4.out, hz4.out, hc⟩)
      have hlw := Lib.hid (show w2.heap.size ≠ wb by have := hH.out.m.lw; have := hq.out; omega)
      clear hc
      go_wp2_with fail
      go_loopw [26] (fun i wr => ∃ j : Nat, i = .int .i64 j ∧ j ≤ R ∧ PoolAt wr p b wb n (fun k => f k || inr A (A + j) k) ∧ Off w.heap.size wb w wr ∧ w2.heap.size < wr.heap.size ∧ wr.cell? ⟨w2.heap.size, 0, none⟩ = some (.pointer (some ⟨b, 0, none⟩))) (fun i _ => R - (intOf i).toNat)
      case atStart => exact ⟨0, rfl, by omega, hI0.out⟩
      case round =>
        obtain ⟨j, rfl, hj, hP, hOf, hzr, hcr⟩ := hrel
        replace hP := Lib.hid hP
        replace hOf := Lib.hid hOf
        have hjr := Lib.hid hcr
        replace hzr := Lib.hid hzr
        have hj' : (j : Int) ≤ 1024 := by omega
        by_cases hlt : j < R
        · have hPut := Lib.hid (tput_any b wb n (fun k => f k || inr A (A + j) k) (A + j) true wr hP.out.m (by omega))
          rw [show ((A + j : Nat) : Int) = (A : Int) + j by omega] at hPut
          go_wp2_with fail
          refine hPut.out.mono ?_
          rintro e w5 ⟨rfl, m, o⟩
          have hP2 := Lib.hid ((hP.out.next o m).congr (g := fun k => f k || inr A (A + (j + 1)) k) fun k => pt_step k)
          have hc5 := Lib.hid ((o.cell (p := ⟨w2.heap.size, 0, none⟩) hzr.out hlw.out).trans hjr.out)
          have hO5 := Lib.hid (hOf.out.step o)
          have hz5 := Lib.hid (Nat.lt_of_lt_of_le hzr.out o.size)
          clear m o hcr
          go_wp2_with fail
          go_roundw
          case rel => exact ⟨j + 1, by go_num, by omega, hP2.out, hO5.out, hz5.out, hc5.out⟩
          case measure => simp [intOf]; omega
        · obtain rfl : j = R := by omega
          have hP2 := Lib.hid (hP.out.congr hg.out)
          go_wp2_with fail
          rw [hD.out]
          exact ⟨rfl, hP2.out, hOf.out⟩
end
end Go.Proofs.Ytbabblnpjophdaa
