/- Contracts of layer pages at pools that are none. No statement is proved here. -/
import Derived.Test.YtbabblnpjophdaaPgC
import Derived.Test.YtbabblnpjophdaaTagZ
namespace Go.Proofs.Ytbabblnpjophdaa
set_option maxRecDepth 100000
open Go.RowKit
set_option linter.unusedVariables false

theorem gfield : ∀ w, (Instr.field 50 (.agg #[.pointer none]) 0).run Try.prog w = .ok (.pointer none) w := fun w => by kernel_rfl
theorem glen (w : World) : Calls Try.prog 33 #[.pointer none] w fun e w' => e = .returned (.int .i64 0) ∧ w = w' := by
  go_enter Try.func33, Try.ntmps33
  go_wp2
  go_ret
  exact ⟨rfl, rfl⟩
theorem ghas (a : Int) (w : World) : Calls Try.prog 34 #[.pointer none, .int .i64 a] w fun e w' => e = .returned (.bool false) ∧ w = w' := by
  have hL := Lib.hid (glen w)
  by_cases h0 : a < 0
  · go_enter Try.func34, Try.ntmps34
    go_wp2
    go_ret
    exact ⟨rfl, rfl⟩
  · have h1 : 0 ≤ a := by omega
    go_enter Try.func34, Try.ntmps34
    go_wp2_with fail
    refine hL.out.mono ?_
    rintro e w' ⟨rfl, rfl⟩
    go_wp2
    go_ret
    exact ⟨ret_bool (by simp; omega), rfl⟩
theorem gget (a : Int) (w : World) : Calls Try.prog 30 #[.pointer none, .int .i64 a] w fun e w' => e = .returned (.bool false) ∧ Below w.heap.size w w' := by
  have hL := Lib.hid (fun w => ghas a w)
  go_enter Try.func30, Try.ntmps30
  go_wp2_with fail
  go_quiet ((go_at_call 34; exact Calls.quiet_of_same ((hL.out _).mono fun _ _ h => ⟨h.1, h.2.symm⟩)))
  go_wp2
  go_ret
  exact ⟨rfl, below_drewN (Below.refl _ _) _⟩
theorem gfree (a : Int) (w : World) : Calls Try.prog 18 #[.pointer none, .int .i64 a] w fun e w' => e = .returned (.bool false) ∧ Below w.heap.size w w' := by
  have hO := Lib.hid (pown_nil w)
  have hf := gfield
  have hG := Lib.hid (gget a)
  go_enter Try.func18, Try.ntmps18
  go_wp2_with fail
  refine hO.out.mono ?_
  rintro e w2 ⟨rfl, hb⟩
  have hB := Lib.hid hb
  clear hb
  go_wp2_with fail
  refine (hG.out w2).mono ?_
  rintro e w3 ⟨rfl, hb⟩
  have hB3 := Lib.hid (hB.out.trans (hb.mono hB.out.size))
  clear hb
  go_wp2
  go_ret
  exact ⟨rfl, hB3.out⟩
theorem gthere (a run : Int) (l1 : run ≤ 9223372036854775807) (w : World) : Calls Try.prog 24 #[.agg #[.pointer none], .int .i64 a, .int .i64 run] w fun e w' => e = .returned (.bool false) ∧ Below w.heap.size w w' := by
  have hL := Lib.hid glen
  have hb := fun o => Lib.hid ((Below.refl w.heap.size w).alloc (Nat.le_refl _) o)
  by_cases h0 : 0 ≤ a
  · by_cases h1 : 1 ≤ run
    · go_enter Try.func24, Try.ntmps24
      go_wp2_with fail
      refine (hL.out _).mono ?_
      rintro e w' ⟨rfl, rfl⟩
      go_wp2
      go_ret
      exact ⟨ret_bool (by simp; omega), (hb _).out⟩
    · have h1' : run < 1 := by omega
      clear hL
      go_enter Try.func24, Try.ntmps24
      go_wp2
      go_ret
      exact ⟨rfl, (hb _).out⟩
  · have h0' : a < 0 := by omega
    clear hL
    go_enter Try.func24, Try.ntmps24
    go_wp2
    go_ret
    exact ⟨rfl, (hb _).out⟩
theorem gfind (run align : Int) (l1 : run ≤ 9223372036854775807) (w : World) : Calls Try.prog 22 #[.agg #[.pointer none], .int .i64 run, .int .i64 align] w fun e w' => e = .returned (.tuple #[.int .i64 0, .bool false]) ∧ Below w.heap.size w w' := by
  have hb := (Below.refl w.heap.size w).alloc (Nat.le_refl _) (.cells #[.pointer none] 50)
  have hc : (w.alloc (.cells #[.pointer none] 50)).cell? ⟨w.heap.size, 0, none⟩ = some (.pointer none) := by rw [World.cell?_alloc_at (hn := rfl)]; rfl
  have hb' := fun o => Lib.hid ((Below.refl w.heap.size w).alloc (Nat.le_refl _) o)
  by_cases ha : 1 ≤ align
  · have hT := Lib.hid (gthere 0 run l1)
    go_enter Try.func22, Try.ntmps22
    go_wp2_with fail
    go_step3
    go_upto_region 1 with (fail)
    generalize (w.alloc (.cells #[.pointer none] 50)) = w1 at hc hb ⊢
    replace hb := Lib.hid hb
    go_wp2_with fail
    go_step3
    go_wp2_with fail
    go_loopw [8] (fun i wr => i = .int .i64 0 ∧ w1 = wr) (fun i _ => 0)
    case atStart => exact ⟨rfl, rfl⟩
    case round =>
      obtain ⟨rfl, rfl⟩ := hrel
      go_wp2_with fail
      refine (hT.out _).mono ?_
      rintro e w2 ⟨rfl, g⟩
      have hE := Lib.hid (hb.out.trans (g.mono hb.out.size))
      clear g
      go_wp2_with fail
      try rw [Exit.noGoto_ret]
      go_ret2
      exact ⟨rfl, hE.out⟩
  · have ha' : align < 1 := by omega
    clear hb hc ha
    go_enter Try.func22, Try.ntmps22
    go_wp2_with fail
    go_step3
    go_wp2_with fail
    try rw [Exit.noGoto_ret]
    go_ret2
    exact ⟨rfl, (hb' _).out⟩
theorem gfits (run align : Int) (l1 : run ≤ 9223372036854775807) (w : World) : Calls Try.prog 14 #[.pointer none, .int .i64 run, .int .i64 align] w fun e w' => e = .returned (.bool false) ∧ Below w.heap.size w w' := by
  have hO := Lib.hid (pown_nil w)
  have hG := Lib.hid (gfind run align l1)
  go_enter Try.func14, Try.ntmps14
  go_wp2_with fail
  refine hO.out.mono ?_
  rintro e w2 ⟨rfl, hb⟩
  have hB := Lib.hid hb
  clear hb
  go_wp2_with fail
  refine (hG.out w2).mono ?_
  rintro e w3 ⟨rfl, hb⟩
  have hB3 := Lib.hid (hB.out.trans (hb.mono hB.out.size))
  clear hb
  go_wp2
  go_ret
  exact ⟨rfl, hB3.out⟩
theorem gcopy (w : World) : Calls Try.prog 15 #[.pointer none] w fun e w' => e = .returned (.pointer none) ∧ Below w.heap.size w w' := by
  have hO := Lib.hid (pown_nil w)
  go_enter Try.func15, Try.ntmps15
  go_wp2_with fail
  refine hO.out.mono ?_
  rintro e w2 ⟨rfl, hb⟩
  have hB := Lib.hid (hb.alloc hb.size (.cells #[.pointer none] 50))
  clear hb
  go_wp2
  go_ret
  exact ⟨rfl, hB.out⟩
theorem gtake (run align : Int) (l1 : run ≤ 9223372036854775807) (w : World) : Calls Try.prog 9 #[.pointer none, .int .i64 run, .int .i64 align] w fun e w' => e = .returned (.tuple #[.int .i64 0, .bool false]) ∧ Below w.heap.size w w' := by
  have hO := Lib.hid (pown_nil w)
  have hG := Lib.hid (gfind run align l1)
  go_enter Try.func9, Try.ntmps9
  go_wp2_with fail
  refine hO.out.mono ?_
  rintro e w2 ⟨rfl, hb⟩
  have hB := Lib.hid (hb.alloc hb.size (.cells #[.pointer none] 50))
  clear hb
  go_wp2_with fail
  refine (hG.out _).mono ?_
  rintro e w3 ⟨rfl, hb⟩
  have hB3 := Lib.hid (hB.out.trans (hb.mono hB.out.size))
  clear hb
  go_wp2
  go_ret2
  exact ⟨rfl, hB3.out⟩
theorem gput (a run : Int) (l1 : run ≤ 9223372036854775807) (w : World) : Calls Try.prog 11 #[.pointer none, .int .i64 a, .int .i64 run] w fun e w' => e = .returned (.bool false) ∧ Below w.heap.size w w' := by
  have hO := Lib.hid (pown_nil w)
  have hG := Lib.hid (gthere a run l1)
  go_enter Try.func11, Try.ntmps11
  go_wp2_with fail
  refine hO.out.mono ?_
  rintro e w2 ⟨rfl, hb⟩
  have hB := Lib.hid (hb.alloc hb.size (.cells #[.pointer none] 50))
  clear hb
  go_wp2_with fail
  refine (hG.out _).mono ?_
  rintro e w3 ⟨rfl, hb⟩
  have hB3 := Lib.hid (hB.out.trans (hb.mono hB.out.size))
  clear hb
  go_wp2
  go_ret
  exact ⟨rfl, hB3.out⟩
theorem gcount (w : World) : Calls Try.prog 16 #[.pointer none] w fun e w' => e = .returned (.int .i64 0) ∧ Below w.heap.size w w' := by
  have hO := Lib.hid (pown_nil w)
  have hf := gfield
  have hG := Lib.hid (fun w => count_zero w)
  go_enter Try.func16, Try.ntmps16
  go_wp2_with fail
  refine hO.out.mono ?_
  rintro e w2 ⟨rfl, hb⟩
  have hB := Lib.hid hb
  clear hb
  go_wp2_with fail
  refine (hG.out w2).mono ?_
  rintro e w3 ⟨rfl, hb⟩
  have hB3 := Lib.hid (hB.out.trans (hb.mono hB.out.size))
  clear hb
  go_wp2
  go_ret
  exact ⟨rfl, hB3.out⟩
end Go.Proofs.Ytbabblnpjophdaa
