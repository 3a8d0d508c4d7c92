/- Contract of the laws' own 'same': the program's arena and the document's have the same bytes and tags. No statement is proved here. -/
import Derived.Test.YtpopfmboonjplaaArZE
import Derived.Deep.LoopGhost
namespace Go.Proofs.Ytpopfmboonjplaa
open Go.RowKit
set_option linter.unusedVariables false

/-- A list that a call has handed back, as a slice and its cells. -/
theorem list_form6 {w : World} {base : Nat} {v : Value} {lst : List Nat} (o : w.ownsRow base 22 1 v lst.length (lst.map u32v)) : ∃ Aq c', v = .slice Aq lst.length c' ∧ lst.length ≤ c' ∧ ∀ (i u : Nat), lst[i]? = some u → ∃ q, Aq = some ⟨q, 0, none⟩ ∧ w.cell? ⟨q, i, none⟩ = some (.int .u32 (u : Int)) := by
  rcases o.2 with ⟨rfl, hn⟩ | ⟨q, cap, cur, rfl, h1, h2, h3, _⟩
  · exact ⟨none, 0, by rw [hn], by omega, fun i u hu => by have := (List.getElem?_eq_some_iff.1 hu).1; omega⟩
  · refine ⟨_, cap, rfl, h3, fun i u hu => ⟨q, rfl, ?_⟩⟩
    have := o.cells (g := q) rfl i (u32v u) (by simp [hu])
    rwa [Addr.add_lit, Nat.zero_add] at this
section
variable {a mb wb bb c r rb tb n g : Nat} {f : Nat → Bool} {l : List UInt8} {w : World}
set_option maxRecDepth 100000 in
set_option maxHeartbeats 4000000 in
theorem same_any (HA : ArAt w a mb wb bb c n g f l) (HR : RfAt w r rb tb n g f l) (hg : g % 16 = 0) :
    Calls Try.prog 21 #[.pointer (some ⟨a, 0, none⟩), .pointer (some ⟨r, 0, none⟩)] w fun e w' => e = .returned (.bool true) ∧ Below w.heap.size w w' := by
  have hn := HA.ln
  have hl := HA.len
  have hA := Lib.hid HA
  have hR := Lib.hid HR
  have hg' := Lib.hid hg
  have hcv : ∀ (w' : World), RfAt w' r rb tb n g f l → (convert 28 9 (.slice (some ⟨rb, 0, none⟩) n n)).run Try.prog w' = .ok (.string ⟨l.toArray⟩) w' := fun w' h' => by
    have := run_convert_bytes_back (P := Try.prog) w' 28 9 5 ⟨rb, 0, none⟩ n l Try.underlying28 Try.underlying5 Try.underlying9 (fun j hj => by
      rw [Addr.add_lit, Nat.zero_add]
      exact h'.by_ j _ (List.getElem?_eq_getElem hj))
    rwa [hl] at this
  replace hcv := Lib.hid hcv
  have htk := Lib.hid (show (l.drop 0).take n = l by rw [List.drop_zero, List.take_of_length_le (by omega)])
  clear HA HR hg hl
  go_enter Try.func21, Try.ntmps21
  go_wp2_with fail
  refine (asize_any hA.out).mono ?_
  rintro e w2 ⟨rfl, k⟩
  have B2 := Lib.hid k
  clear k
  go_wp2_with fail
  have h1 := aread_yes (hA.out.below B2.out) 0 n (by decide) (by omega)
  rw [htk.out] at h1
  refine h1.mono ?_
  rintro e w3 ⟨rfl, k⟩
  have B3 := Lib.hid (B2.out.trans (k.mono B2.out.size))
  clear k B2 h1
  have q0 := (hR.out.below B3.out).q0
  have hc3 := hcv.out w3 (hR.out.below B3.out)
  go_wp2_with fail
  clear q0 hc3
  go_loopw [7] (fun p wr => ∃ j : Nat, j ≤ n / 256 + 2 ∧ p = .int .i64 ((j : Int) - 1) ∧ Below w.heap.size w wr) (fun p _ => (n / 256 + 3) - (intOf p + 1).toNat)
  case atStart => exact ⟨0, by omega, rfl, B3.out⟩
  case round =>
    obtain ⟨j, hj, rfl, hB⟩ := hrel
    have B4 := Lib.hid hB
    have q0 := (hR.out.below hB).q0
    have jn : (j : Int) ≤ (n : Int) / 256 + 2 := by omega
    clear hB B3
    by_cases hlt : j ≤ n / 256 + 1
    · have jl : (j : Int) - 1 ≤ (n : Int) / 256 := by omega
      go_wp2_with fail
      clear q0
      refine (atag_any (hA.out.below B4.out) hg'.out ((j : Int) - 1) (by omega)).mono ?_
      intro e w5 hL
      obtain ⟨vv, rfl, o, kb⟩ := hL
      obtain ⟨Aq, c8, rfl, hc8, hform⟩ := list_form6 o
      have B5 := Lib.hid (B4.out.trans (kb.mono B4.out.size))
      have F5 := Lib.hid hform
      clear kb o hform
      go_wp2_with fail
      refine (rtag_any (hR.out.below B5.out) ((j : Int) - 1) (by omega)).mono ?_
      intro e w6 hL
      obtain ⟨vv, rfl, o, kb⟩ := hL
      obtain ⟨Aq2, c9, rfl, hc9, hform2⟩ := list_form6 o
      have B6 := Lib.hid (B5.out.trans (kb.mono B5.out.size))
      have F5' := Lib.hid (fun (i u : Nat) (hu : (tgP f g ((j : Int) - 1))[i]? = some u) => (show ∃ q, Aq = some ⟨q, 0, none⟩ ∧ w6.cell? ⟨q, i, none⟩ = some (.int .u32 (u : Int)) from by
        obtain ⟨q, h1, h2⟩ := F5.out i u hu
        exact ⟨q, h1, (kb.cell (p := ⟨q, i, none⟩) (World.block_lt_of_cell? w5 ⟨q, i, none⟩ h2)).trans h2⟩))
      have F6 := Lib.hid hform2
      have hll := tgl_len (fun i => f i && decide (((i / 16 : Nat) : Int) = (j : Int) - 1)) 0 g
      have hgi := hA.out.hi
      clear kb o hform2 F5 B5
      have hle : (tgP f g ((j : Int) - 1)).length ≤ 16384 := by unfold tgP; omega
      generalize tgP f g ((j : Int) - 1) = lst at *
      obtain ⟨ln, hln⟩ : ∃ ln, ln = lst.length := ⟨_, rfl⟩
      rw [← hln] at hc8 hc9 hle ⊢
      have hln' := Lib.hid hln
      have jll : (ln : Int) ≤ 16384 := by omega
      clear hll hgi hln
      go_wp2_with fail
      go_loopw [10] (fun i wy => ∃ k : Nat, k ≤ ln ∧ i = .int .i64 k ∧ Below w6.heap.size w6 wy) (fun i _ => ln - (intOf i).toNat)
      case atStart => exact ⟨0, by omega, rfl, Below.refl _ _⟩
      case round =>
        obtain ⟨k, hk, rfl, hB7⟩ := hrel
        have B7 := Lib.hid hB7
        have jk : (k : Int) ≤ ln := by omega
        by_cases hkl : k < ln
        · have jkl : (k : Int) < ln := by omega
          have hk2 : k < lst.length := by have := hln'.out; omega
          obtain ⟨q, rfl, h1⟩ := F5'.out k _ (List.getElem?_eq_getElem hk2)
          obtain ⟨q2, rfl, h2⟩ := F6.out k _ (List.getElem?_eq_getElem hk2)
          generalize lst[k] = u at h1 h2
          obtain ⟨S, hS0⟩ : ∃ S, S = fun w' => Below w6.heap.size w6 w' := ⟨_, rfl⟩
          have hK : ∀ w', S w' → Below w6.heap.size w6 w' := fun w' h => by rw [hS0] at h; exact h
          have hS : ∀ w1 w', S w1 → Below w1.heap.size w1 w' → S w' := fun w1 w' h k => by rw [hS0] at h ⊢; exact h.trans (k.mono h.size)
          have K7 := Lib.hid (show S _ by rw [hS0]; exact hB7)
          have b0 : ∀ y : Wd S, y.w.cell? ⟨q, k, none⟩ = some (.int .u32 (u : Int)) := fun y => ((hK _ y.h).cell (p := ⟨q, k, none⟩) (World.block_lt_of_cell? w6 ⟨q, k, none⟩ h1)).trans h1
          have b1 : ∀ y : Wd S, y.w.cell? ⟨q2, k, none⟩ = some (.int .u32 (u : Int)) := fun y => ((hK _ y.h).cell (p := ⟨q2, k, none⟩) (World.block_lt_of_cell? w6 ⟨q2, k, none⟩ h2)).trans h2
          have hund : undef = Value.tuple #[] := rfl
          clear hS0 hB7 B7 h1 h2 hk2
          go_wp2_with fail
          refine region_cls S (by kernel_rfl) (by kernel_rfl) (hS _ _ K7.out (Below.refl _ _).drew) ?_
          repeat (first
            | go_big_quiet_skip
            | (go_big_quiet_want
               go_big_quiet_op
               first
               | go_big_quiet_on
               | (apply Exists.intro
                  refine ⟨fun y => ?_, ?_⟩
                  · first | exact rfl
                  go_big_quiet_on)))
          refine wpQuiet_nil ?_
          intro y
          have Ky := Lib.hid (hK _ y.h)
          generalize y.w = wy at *
          clear b0 b1 hS hK K7
          go_wp2_with fail
          go_roundw
          case rel => exact ⟨k + 1, by omega, by go_num, Ky.out⟩
          case measure => simp [intOf]; omega
        · obtain rfl : k = ln := by omega
          have B8 := Lib.hid (B6.out.trans (hB7.mono B6.out.size))
          clear hB7 B7
          go_wp2_with fail
          go_roundw
          case rel => exact ⟨j + 1, by omega, by go_num, B8.out⟩
          case measure => simp [intOf]; omega
    · have jl : (n : Int) / 256 + 1 ≤ (j : Int) - 1 := by omega
      go_wp2_with fail
      go_ret
      exact ⟨rfl, B4.out⟩
end
end Go.Proofs.Ytpopfmboonjplaa
