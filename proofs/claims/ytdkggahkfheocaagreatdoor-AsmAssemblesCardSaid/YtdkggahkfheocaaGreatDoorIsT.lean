/- Contracts of the document's answer for layer isa: May, Encode, Decode. No statement is proved here. -/
import Derived.Test.YtdkggahkfheocaaGreatDoorIsS
namespace Go.Proofs.YtdkggahkfheocaaGreatDoor
set_option maxRecDepth 100000
open Go.RowKit
set_option linter.unusedVariables false

set_option maxHeartbeats 2000000 in
theorem May_any (op a b c m : Int) (w : World) : Calls Tryz.prog 88 #[.agg #[.int .i64 op, .int .i64 a, .int .i64 b, .int .i64 c, .int .i64 m]] w fun e w' => e = .returned (.bool (mayB ⟨op, a, b, c, m⟩)) ∧ Below w.heap.size w w' := by
  have hF := rForm_any op
  have hA := field_form op 97 97 rfl a
  have hB := field_form op 98 98 rfl b
  have hC := field_form op 99 99 rfl c
  have hJ := has_form op 106 106 rfl
  have hI := has_form op 105 105 rfl
  obtain ⟨q, hq⟩ : ∃ q, q = mayB ⟨op, a, b, c, m⟩ := ⟨_, rfl⟩
  rw [← hq]
  unfold mayB immB at hq
  dsimp only at hq
  generalize fldB (formAt op) 97 a = pa at *
  generalize fldB (formAt op) 98 b = pb at *
  generalize fldB (formAt op) 99 c = pc at *
  generalize (formAt op).contains 106 = pj at *
  generalize (formAt op).contains 105 = pi at *
  generalize formAt op = f at *
  replace hF := Lib.hid hF
  replace hA := Lib.hid hA
  replace hB := Lib.hid hB
  replace hC := Lib.hid hC
  replace hJ := Lib.hid hJ
  replace hI := Lib.hid hI
  replace hq := Lib.hid hq
  by_cases h1 : op < 1
  · have hr := Lib.hid (show false = q from by rw [hq.out, decide_eq_false (show ¬ 1 ≤ op by omega)]; simp)
    go_enter Tryz.func88, Tryz.ntmps88
    go_wp2_with (first | ((with_reducible refine (hF.out _).mono ?_); rintro e w' ⟨rfl, rfl⟩) | ((with_reducible refine (hA.out _).mono ?_); rintro e w' ⟨rfl, rfl⟩) | ((with_reducible refine (hB.out _).mono ?_); rintro e w' ⟨rfl, rfl⟩) | ((with_reducible refine (hC.out _).mono ?_); rintro e w' ⟨rfl, rfl⟩) | ((with_reducible refine (hJ.out _).mono ?_); rintro e w' ⟨rfl, rfl⟩) | ((with_reducible refine (hI.out _).mono ?_); rintro e w' ⟨rfl, rfl⟩))
    go_ret
    exact ⟨ret_bool hr.out, by go_grown⟩
  by_cases h2 : 53 < op
  · have hr := Lib.hid (show false = q from by rw [hq.out, decide_eq_false (show ¬ op ≤ 53 by omega)]; simp)
    go_enter Tryz.func88, Tryz.ntmps88
    go_wp2_with (first | ((with_reducible refine (hF.out _).mono ?_); rintro e w' ⟨rfl, rfl⟩) | ((with_reducible refine (hA.out _).mono ?_); rintro e w' ⟨rfl, rfl⟩) | ((with_reducible refine (hB.out _).mono ?_); rintro e w' ⟨rfl, rfl⟩) | ((with_reducible refine (hC.out _).mono ?_); rintro e w' ⟨rfl, rfl⟩) | ((with_reducible refine (hJ.out _).mono ?_); rintro e w' ⟨rfl, rfl⟩) | ((with_reducible refine (hI.out _).mono ?_); rintro e w' ⟨rfl, rfl⟩))
    go_ret
    exact ⟨ret_bool hr.out, by go_grown⟩
  have hq' := Lib.hid (show q = (pa && pb && pc && (if pj then decide (-524288 ≤ m) && decide (m ≤ 524287) else if pi then decide (-2048 ≤ m) && decide (m ≤ 2047) else decide (m = 0))) from by
    rw [hq.out, decide_eq_true (show 1 ≤ op by omega), decide_eq_true (show op ≤ 53 by omega)]; simp [Bool.and_assoc])
  clear hq
  cases pa
  · have hr := Lib.hid (show false = q from by rw [hq'.out]; simp)
    go_enter Tryz.func88, Tryz.ntmps88
    go_wp2_with (first | ((with_reducible refine (hF.out _).mono ?_); rintro e w' ⟨rfl, rfl⟩) | ((with_reducible refine (hA.out _).mono ?_); rintro e w' ⟨rfl, rfl⟩) | ((with_reducible refine (hB.out _).mono ?_); rintro e w' ⟨rfl, rfl⟩) | ((with_reducible refine (hC.out _).mono ?_); rintro e w' ⟨rfl, rfl⟩) | ((with_reducible refine (hJ.out _).mono ?_); rintro e w' ⟨rfl, rfl⟩) | ((with_reducible refine (hI.out _).mono ?_); rintro e w' ⟨rfl, rfl⟩))
    go_ret
    exact ⟨ret_bool hr.out, by go_grown⟩
  cases pb
  · have hr := Lib.hid (show false = q from by rw [hq'.out]; simp)
    go_enter Tryz.func88, Tryz.ntmps88
    go_wp2_with (first | ((with_reducible refine (hF.out _).mono ?_); rintro e w' ⟨rfl, rfl⟩) | ((with_reducible refine (hA.out _).mono ?_); rintro e w' ⟨rfl, rfl⟩) | ((with_reducible refine (hB.out _).mono ?_); rintro e w' ⟨rfl, rfl⟩) | ((with_reducible refine (hC.out _).mono ?_); rintro e w' ⟨rfl, rfl⟩) | ((with_reducible refine (hJ.out _).mono ?_); rintro e w' ⟨rfl, rfl⟩) | ((with_reducible refine (hI.out _).mono ?_); rintro e w' ⟨rfl, rfl⟩))
    go_ret
    exact ⟨ret_bool hr.out, by go_grown⟩
  cases pc
  · have hr := Lib.hid (show false = q from by rw [hq'.out]; simp)
    go_enter Tryz.func88, Tryz.ntmps88
    go_wp2_with (first | ((with_reducible refine (hF.out _).mono ?_); rintro e w' ⟨rfl, rfl⟩) | ((with_reducible refine (hA.out _).mono ?_); rintro e w' ⟨rfl, rfl⟩) | ((with_reducible refine (hB.out _).mono ?_); rintro e w' ⟨rfl, rfl⟩) | ((with_reducible refine (hC.out _).mono ?_); rintro e w' ⟨rfl, rfl⟩) | ((with_reducible refine (hJ.out _).mono ?_); rintro e w' ⟨rfl, rfl⟩) | ((with_reducible refine (hI.out _).mono ?_); rintro e w' ⟨rfl, rfl⟩))
    go_ret
    exact ⟨ret_bool hr.out, by go_grown⟩
  cases pj
  · cases pi
    · have hr := Lib.hid (show (m == 0) = q from by rw [hq'.out, Bool.eq_iff_iff]; simp)
      go_enter Tryz.func88, Tryz.ntmps88
      go_wp2_with (first | ((with_reducible refine (hF.out _).mono ?_); rintro e w' ⟨rfl, rfl⟩) | ((with_reducible refine (hA.out _).mono ?_); rintro e w' ⟨rfl, rfl⟩) | ((with_reducible refine (hB.out _).mono ?_); rintro e w' ⟨rfl, rfl⟩) | ((with_reducible refine (hC.out _).mono ?_); rintro e w' ⟨rfl, rfl⟩) | ((with_reducible refine (hJ.out _).mono ?_); rintro e w' ⟨rfl, rfl⟩) | ((with_reducible refine (hI.out _).mono ?_); rintro e w' ⟨rfl, rfl⟩))
      go_ret
      exact ⟨ret_bool hr.out, by go_grown⟩
    · by_cases h3 : -2048 ≤ m
      · have hr := Lib.hid (show decide (m ≤ 2047) = q from by rw [hq'.out]; simp [h3])
        go_enter Tryz.func88, Tryz.ntmps88
        go_wp2_with (first | ((with_reducible refine (hF.out _).mono ?_); rintro e w' ⟨rfl, rfl⟩) | ((with_reducible refine (hA.out _).mono ?_); rintro e w' ⟨rfl, rfl⟩) | ((with_reducible refine (hB.out _).mono ?_); rintro e w' ⟨rfl, rfl⟩) | ((with_reducible refine (hC.out _).mono ?_); rintro e w' ⟨rfl, rfl⟩) | ((with_reducible refine (hJ.out _).mono ?_); rintro e w' ⟨rfl, rfl⟩) | ((with_reducible refine (hI.out _).mono ?_); rintro e w' ⟨rfl, rfl⟩))
        go_ret
        exact ⟨ret_bool hr.out, by go_grown⟩
      · have hr := Lib.hid (show false = q from by rw [hq'.out]; simp [h3])
        go_enter Tryz.func88, Tryz.ntmps88
        go_wp2_with (first | ((with_reducible refine (hF.out _).mono ?_); rintro e w' ⟨rfl, rfl⟩) | ((with_reducible refine (hA.out _).mono ?_); rintro e w' ⟨rfl, rfl⟩) | ((with_reducible refine (hB.out _).mono ?_); rintro e w' ⟨rfl, rfl⟩) | ((with_reducible refine (hC.out _).mono ?_); rintro e w' ⟨rfl, rfl⟩) | ((with_reducible refine (hJ.out _).mono ?_); rintro e w' ⟨rfl, rfl⟩) | ((with_reducible refine (hI.out _).mono ?_); rintro e w' ⟨rfl, rfl⟩))
        go_ret
        exact ⟨ret_bool hr.out, by go_grown⟩
  · by_cases h3 : -524288 ≤ m
    · have hr := Lib.hid (show decide (m ≤ 524287) = q from by rw [hq'.out]; simp [h3])
      go_enter Tryz.func88, Tryz.ntmps88
      go_wp2_with (first | ((with_reducible refine (hF.out _).mono ?_); rintro e w' ⟨rfl, rfl⟩) | ((with_reducible refine (hA.out _).mono ?_); rintro e w' ⟨rfl, rfl⟩) | ((with_reducible refine (hB.out _).mono ?_); rintro e w' ⟨rfl, rfl⟩) | ((with_reducible refine (hC.out _).mono ?_); rintro e w' ⟨rfl, rfl⟩) | ((with_reducible refine (hJ.out _).mono ?_); rintro e w' ⟨rfl, rfl⟩) | ((with_reducible refine (hI.out _).mono ?_); rintro e w' ⟨rfl, rfl⟩))
      go_ret
      exact ⟨ret_bool hr.out, by go_grown⟩
    · have hr := Lib.hid (show false = q from by rw [hq'.out]; simp [h3])
      go_enter Tryz.func88, Tryz.ntmps88
      go_wp2_with (first | ((with_reducible refine (hF.out _).mono ?_); rintro e w' ⟨rfl, rfl⟩) | ((with_reducible refine (hA.out _).mono ?_); rintro e w' ⟨rfl, rfl⟩) | ((with_reducible refine (hB.out _).mono ?_); rintro e w' ⟨rfl, rfl⟩) | ((with_reducible refine (hC.out _).mono ?_); rintro e w' ⟨rfl, rfl⟩) | ((with_reducible refine (hJ.out _).mono ?_); rintro e w' ⟨rfl, rfl⟩) | ((with_reducible refine (hI.out _).mono ?_); rintro e w' ⟨rfl, rfl⟩))
      go_ret
      exact ⟨ret_bool hr.out, by go_grown⟩
end Go.Proofs.YtdkggahkfheocaaGreatDoor
