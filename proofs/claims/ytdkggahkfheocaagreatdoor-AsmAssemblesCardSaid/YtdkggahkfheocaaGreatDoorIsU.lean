/- Contracts of the document's answer for layer isa: Encode, Decode. No statement is proved here. -/
import Derived.Test.YtdkggahkfheocaaGreatDoorIsT
import Derived.Test.YtdkggahkfheocaaGreatDoorIsK
namespace Go.Proofs.YtdkggahkfheocaaGreatDoor
set_option maxRecDepth 100000
open Go.RowKit
set_option linter.unusedVariables false

set_option maxHeartbeats 2000000 in
theorem rEncode_any (op a b c m : Int) (W : World) : Calls Tryz.prog 53 #[.agg #[.int .i64 op, .int .i64 a, .int .i64 b, .int .i64 c, .int .i64 m]] W (EncPost W ⟨op, a, b, c, m⟩) := by
  obtain ⟨w0, hw0⟩ : ∃ w0, w0 = W.alloc (.cells #[.int .i64 op, .int .i64 a, .int .i64 b, .int .i64 c, .int .i64 m] 49) := ⟨_, rfl⟩
  have k0 : KR W [⟨W.heap.size, [.int .i64 op, .int .i64 a, .int .i64 b, .int .i64 c, .int .i64 m]⟩] w0 := hw0 ▸ KR.start.push _ _
  have hF := Lib.hid (rForm_any op)
  have hM := May_any op a b c m
  have hJ := has_form op 106 106 rfl
  cases hmay : mayB ⟨op, a, b, c, m⟩
  · rw [hmay] at hM
    replace hM := Lib.hid hM
    replace hmay := Lib.hid hmay
    replace k0 := Lib.hid k0
    replace hw0 := Lib.hid hw0
    go_enter Tryz.func53, Tryz.ntmps53
    go_wp2_with fail
    rw [← hw0.out]
    refine (hM.out w0).mono ?_
    rintro e w1 ⟨rfl, hb⟩
    have k1 := Lib.hid (k0.out.below hb)
    clear hb
    go_wp2_with fail
    go_ret2
    exact EncPost.no hmay.out rfl k1.out.bl
  · rw [hmay] at hM
    replace hM := Lib.hid hM
    obtain ⟨h1, h2, ha, hb, hc, hm⟩ := may_parts hmay
    have a1 := fld_in ha; have b1 := fld_in hb; have c1 := fld_in hc; have m1 := imm_in hm
    dsimp only at h1 h2 a1 b1 c1 m1
    have mm : -524288 ≤ m ∧ m ≤ 524287 := by
      obtain ⟨x1, x2, x3⟩ := m1
      by_cases e6 : (formAt op).contains 106 = true
      · exact x1 e6
      · have e6' : (formAt op).contains 106 = false := by simpa using e6
        by_cases e5 : (formAt op).contains 105 = true
        · have := x2 e6' e5; omega
        · have := x3 e6' (by simpa using e5); omega
    have hE : ∀ pj, (formAt op).contains 106 = pj → encW ⟨op, a, b, c, m⟩ = op * 16777216 + a * 1048576 + b * 65536 + c * 4096 + (if m < 0 then (if pj = true then m + 1048576 else m + 4096) else m) := fun pj e => by
      unfold encW immW; dsimp only; rw [e]
    have hR := enc_lt hmay
    have hlow : (formAt op).contains 106 = false → -2048 ≤ m := fun e6' => by
      obtain ⟨x1, x2, x3⟩ := m1
      by_cases e5 : (formAt op).contains 105 = true
      · have := x2 e6' e5; omega
      · have := x3 e6' (by simpa using e5); omega
    obtain ⟨z, hz⟩ : ∃ z, z = encW ⟨op, a, b, c, m⟩ := ⟨_, rfl⟩
    rw [← hz] at hE hR
    generalize hpj : (formAt op).contains 106 = pj at *
    replace hE := Lib.hid (hE pj rfl)
    replace hlow := Lib.hid hlow
    replace hz := Lib.hid hz
    replace hR := Lib.hid hR
    replace hpj := Lib.hid hpj
    replace hJ := Lib.hid hJ
    replace hmay := Lib.hid hmay
    replace k0 := Lib.hid k0
    replace hw0 := Lib.hid hw0
    obtain ⟨a0, a9, -⟩ := a1
    obtain ⟨b0, b9, -⟩ := b1
    obtain ⟨c0, c9, -⟩ := c1
    obtain ⟨m0, m9⟩ := mm
    clear ha hb hc hm m1
    by_cases hneg : m < 0
    · cases pj
      all_goals
        have hE' := Lib.hid hE.out
        clear hE
        go_enter Tryz.func53, Tryz.ntmps53
        go_wp2_with fail
        rw [← hw0.out]
        refine (hM.out w0).mono ?_
        rintro e w1 ⟨rfl, hb⟩
        have k1 := k0.out.below hb
        have d0 : w1.cell? ⟨W.heap.size, 0, none⟩ = some (.int .i64 op) := k1.cell _ (List.mem_cons_self ..) rfl
        have d1 : w1.cell? ⟨W.heap.size, 1, none⟩ = some (.int .i64 a) := k1.cell _ (List.mem_cons_self ..) rfl
        have d2 : w1.cell? ⟨W.heap.size, 2, none⟩ = some (.int .i64 b) := k1.cell _ (List.mem_cons_self ..) rfl
        have d3 : w1.cell? ⟨W.heap.size, 3, none⟩ = some (.int .i64 c) := k1.cell _ (List.mem_cons_self ..) rfl
        have d4 : w1.cell? ⟨W.heap.size, 4, none⟩ = some (.int .i64 m) := k1.cell _ (List.mem_cons_self ..) rfl
        replace k1 := Lib.hid k1
        clear hb k0
        go_wp2_with fail
        refine (hF.out _).mono ?_
        rintro e w' ⟨rfl, rfl⟩
        go_wp2_with fail
        refine (hJ.out _).mono ?_
        rintro e w' ⟨rfl, rfl⟩
        go_wp2_with fail
        go_ret2
        refine EncPost.yes (x := z) hmay.out hz.out (ret_word ?_) k1.out.bl
        have y1 := hE'.out
        have y2 := hR.out
        have y3 := hlow.out
        simp [hneg] at y1 y3
        omega
    · go_enter Tryz.func53, Tryz.ntmps53
      go_wp2_with fail
      rw [← hw0.out]
      refine (hM.out w0).mono ?_
      rintro e w1 ⟨rfl, hb⟩
      have k1 := k0.out.below hb
      have d0 : w1.cell? ⟨W.heap.size, 0, none⟩ = some (.int .i64 op) := k1.cell _ (List.mem_cons_self ..) rfl
      have d1 : w1.cell? ⟨W.heap.size, 1, none⟩ = some (.int .i64 a) := k1.cell _ (List.mem_cons_self ..) rfl
      have d2 : w1.cell? ⟨W.heap.size, 2, none⟩ = some (.int .i64 b) := k1.cell _ (List.mem_cons_self ..) rfl
      have d3 : w1.cell? ⟨W.heap.size, 3, none⟩ = some (.int .i64 c) := k1.cell _ (List.mem_cons_self ..) rfl
      have d4 : w1.cell? ⟨W.heap.size, 4, none⟩ = some (.int .i64 m) := k1.cell _ (List.mem_cons_self ..) rfl
      replace k1 := Lib.hid k1
      clear hb k0
      go_wp2_with fail
      go_ret2
      refine EncPost.yes (x := z) hmay.out hz.out (ret_word ?_) k1.out.bl
      have y1 := hE.out
      have y2 := hR.out
      rw [if_neg (by omega)] at y1
      omega
end Go.Proofs.YtdkggahkfheocaaGreatDoor
