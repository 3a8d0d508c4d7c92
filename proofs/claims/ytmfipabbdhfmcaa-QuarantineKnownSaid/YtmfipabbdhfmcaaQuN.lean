/- Contracts of layer quarantine: yards that are none. No statement is proved here. -/
import Derived.Test.YtmfipabbdhfmcaaQuK
namespace Go.Proofs.Ytmfipabbdhfmcaa.Qu
set_option maxRecDepth 100000
open Go.RowKit Go.Shelf
set_option linter.unusedVariables false
/-- What is no yard. -/
def NoY (v : Value) (w : World) : Prop := v = .pointer none ∨ ∃ q, v = .pointer (some ⟨q, 0, none⟩) ∧ w.cell? ⟨q, 2, none⟩ = some (.pointer none)
section
variable {w w' W : World} {v : Value}
theorem NoY.grow (H : NoY v w) (k : Below w.heap.size w w') : NoY v w' := H.imp id fun ⟨q, h1, h2⟩ => ⟨q, h1, (k.cell (p := ⟨q, 2, none⟩) (lt_of_cell' h2)).trans h2⟩
theorem no_made (H : NoY v w) : Calls Try.prog 34 #[v] w fun e w' => e = .returned (.bool false) ∧ Below w.heap.size w w' := by
  rcases H with rfl | ⟨q, rfl, h⟩
  · exact ymade_nil w
  · exact ymade_no h
theorem no_begin (H : NoY v w) : Calls Try.prog 11 #[v] w fun e w' => e = .returned (.tuple #[.int .u64 0, .bool false]) ∧ Below w.heap.size w w' := by
  have hM := Lib.hid (no_made H)
  clear H
  go_enter Try.func11, Try.ntmps11
  go_wp2_with fail
  refine hM.out.mono ?_
  rintro e w1 ⟨rfl, k⟩
  have hk := Lib.hid k
  clear k
  go_wp2_with fail
  go_ret2
  exact ⟨rfl, hk.out⟩
theorem no_end (H : NoY v w) : Calls Try.prog 13 #[v] w fun e w' => e = .returned (.slice none 0 0) ∧ Below w.heap.size w w' := by
  have hM := Lib.hid (no_made H)
  clear H
  go_enter Try.func13, Try.ntmps13
  go_wp2_with fail
  refine hM.out.mono ?_
  rintro e w1 ⟨rfl, k⟩
  have hk := Lib.hid k
  clear k
  go_wp2_with fail
  go_ret
  exact ⟨rfl, hk.out⟩
theorem no_paint (H : NoY v w) : Calls Try.prog 18 #[v] w fun e w' => e = .returned (.pointer none) ∧ Below w.heap.size w w' := by
  have hM := Lib.hid (no_made H)
  clear H
  go_enter Try.func18, Try.ntmps18
  go_wp2_with fail
  refine hM.out.mono ?_
  rintro e w1 ⟨rfl, k⟩
  have hk := Lib.hid k
  clear k
  go_wp2_with fail
  go_ret
  exact ⟨rfl, hk.out⟩
theorem no_epoch (H : NoY v w) : Calls Try.prog 32 #[v] w fun e w' => e = .returned (.int .u64 0) ∧ Below w.heap.size w w' := by
  have hM := Lib.hid (no_made H)
  clear H
  go_enter Try.func32, Try.ntmps32
  go_wp2_with fail
  refine hM.out.mono ?_
  rintro e w1 ⟨rfl, k⟩
  have hk := Lib.hid k
  clear k
  go_wp2_with fail
  go_ret
  exact ⟨rfl, hk.out⟩
theorem no_sweeping (H : NoY v w) : Calls Try.prog 29 #[v] w fun e w' => e = .returned (.bool false) ∧ Below w.heap.size w w' := by
  have hM := Lib.hid (no_made H)
  clear H
  go_enter Try.func29, Try.ntmps29
  go_wp2_with fail
  refine hM.out.mono ?_
  rintro e w1 ⟨rfl, k⟩
  have hk := Lib.hid k
  clear k
  go_wp2_with fail
  go_ret
  exact ⟨rfl, hk.out⟩
theorem no_waiting (H : NoY v w) : Calls Try.prog 25 #[v] w fun e w' => e = .returned (.slice none 0 0) ∧ Below w.heap.size w w' := by
  have hM := Lib.hid (no_made H)
  clear H
  go_enter Try.func25, Try.ntmps25
  go_wp2_with fail
  refine hM.out.mono ?_
  rintro e w1 ⟨rfl, k⟩
  have hk := Lib.hid k
  clear k
  go_wp2_with fail
  go_ret
  exact ⟨rfl, hk.out⟩
theorem no_batch (H : NoY v w) : Calls Try.prog 26 #[v] w fun e w' => e = .returned (.slice none 0 0) ∧ Below w.heap.size w w' := by
  have hM := Lib.hid (no_made H)
  clear H
  go_enter Try.func26, Try.ntmps26
  go_wp2_with fail
  refine hM.out.mono ?_
  rintro e w1 ⟨rfl, k⟩
  have hk := Lib.hid k
  clear k
  go_wp2_with fail
  go_ret
  exact ⟨rfl, hk.out⟩
theorem no_ticket (H : NoY v w) : Calls Try.prog 27 #[v] w fun e w' => e = .returned (.int .u64 0) ∧ Below w.heap.size w w' := by
  have hM := Lib.hid (no_made H)
  clear H
  go_enter Try.func27, Try.ntmps27
  go_wp2_with fail
  refine hM.out.mono ?_
  rintro e w1 ⟨rfl, k⟩
  have hk := Lib.hid k
  clear k
  go_wp2_with fail
  go_ret
  exact ⟨rfl, hk.out⟩
theorem no_done (t : Int) (H : NoY v w) : Calls Try.prog 28 #[v, .int .u64 t] w fun e w' => e = .returned (.bool false) ∧ Below w.heap.size w w' := by
  have hM := Lib.hid (no_made H)
  clear H
  go_enter Try.func28, Try.ntmps28
  go_wp2_with fail
  refine hM.out.mono ?_
  rintro e w1 ⟨rfl, k⟩
  have hk := Lib.hid k
  clear k
  go_wp2_with fail
  go_ret
  exact ⟨rfl, hk.out⟩
theorem no_copy (H : NoY v w) : Calls Try.prog 16 #[v] w fun e w' => e = .returned (.pointer none) ∧ Below w.heap.size w w' := by
  have hM := Lib.hid (no_made H)
  clear H
  go_enter Try.func16, Try.ntmps16
  go_wp2_with fail
  refine hM.out.mono ?_
  rintro e w1 ⟨rfl, k⟩
  have hk := Lib.hid k
  clear k
  go_wp2_with fail
  go_ret
  exact ⟨rfl, hk.out⟩
theorem no_free (a s : Nat) (H : NoY v w) : Calls Try.prog 9 #[v, .agg #[.int .u32 a, .int .u32 s]] w fun e w' => e = .returned (.bool false) ∧ Below w.heap.size w w' := by
  obtain ⟨w1, hw1⟩ : ∃ w1, w1 = w.alloc (.cells #[.int .u32 a, .int .u32 s] 33) := ⟨_, rfl⟩
  have b1 : Below w.heap.size w w1 := by rw [hw1]; exact (Below.refl _ _).alloc (Nat.le_refl _) _
  have hw1' := Lib.hid hw1
  have hb1 := Lib.hid b1
  obtain ⟨S, hS0⟩ : ∃ S, S = fun w' => Below w1.heap.size w1 w' := ⟨_, rfl⟩
  have hK : ∀ w', S w' → Below w1.heap.size w1 w' := fun w' h => by rw [hS0] at h; exact h
  have h4 : S w1.drew := by rw [hS0]; exact (Below.refl _ _).drew
  have cM := Lib.hid (show ∀ y : Wd S, Calls Try.prog 34 #[v] y.w fun e w' => e = .returned (.bool false) ∧ ∃ y' : Wd S, w' = y'.w from
    cls_call (fun w' hw => (no_made (H.grow (b1.trans ((hK _ hw).mono b1.size)))).mono fun e w2 k => ⟨k.1, by rw [hS0]; exact (hK _ hw).trans (k.2.mono (hK _ hw).size)⟩))
  have hKK := Lib.hid hK
  clear b1 hw1 hS0 hK H
  go_enter Try.func9, Try.ntmps9
  go_upto_region 1 with (fail)
  rw [← hw1'.out]
  go_wp2_with fail
  refine region_cls S (by kernel_rfl) (by kernel_rfl) h4 ?_
  repeat (first
    | go_big_quiet_skip
    | (go_big_quiet_want
       go_big_quiet_op
       first
       | go_big_quiet_on
       | (apply Exists.intro
          refine ⟨fun y => ?_, ?_⟩
          · first | exact rfl | with_reducible exact cM.out y
          go_big_quiet_on)))
  refine wpQuiet_nil ?_
  intro y
  go_wp2_with fail
  go_ret
  exact ⟨rfl, hb1.out.trans ((hKK.out _ y.h).mono hb1.out.size)⟩
end
end Go.Proofs.Ytmfipabbdhfmcaa.Qu
