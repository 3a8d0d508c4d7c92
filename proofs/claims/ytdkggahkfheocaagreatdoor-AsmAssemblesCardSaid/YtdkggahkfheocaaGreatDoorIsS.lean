/- Contracts of the document's answer for layer isa: Op, has, field, May. No statement is proved here. -/
import Derived.Test.YtdkggahkfheocaaGreatDoorIsR
namespace Go.Proofs.YtdkggahkfheocaaGreatDoor
set_option maxRecDepth 100000
open Go.RowKit
set_option linter.unusedVariables false

theorem name0 : nameL.getD 0 [] = [] := rfl
theorem names_not : ∀ n : Nat, n < 54 → 1 ≤ n → nameL.getD n [] ≠ [] := by decide
theorem opAt_hit1 {s : List UInt8} {n : Nat} (h1 : 1 ≤ n) (hn : n < 54) (h : nameAt (n : Int) = s) (hl : ∀ j : Nat, 1 ≤ j → j < n → nameAt (j : Int) ≠ s) : opAt s = n := by
  rw [nameAt_in ⟨h1, by omega⟩] at h
  refine opAt_hit hn h fun j hj => ?_
  by_cases h0 : j = 0
  · subst h0
    rw [name0, ← h]
    exact (names_not n hn h1).symm
  · have := hl j (by omega) hj
    rwa [nameAt_in ⟨by omega, by omega⟩] at this
theorem opAt_miss1 {s : List UInt8} (hl : ∀ j : Nat, 1 ≤ j → j < 54 → nameAt (j : Int) ≠ s) : opAt s = 0 := by
  by_cases h : s = []
  · subst h; rfl
  · refine opAt_miss fun j hj => ?_
    by_cases h0 : j = 0
    · subst h0
      rw [name0]
      exact fun k => h k.symm
    · have := hl j (by omega) hj
      rwa [nameAt_in ⟨by omega, by omega⟩] at this

theorem rOp_any (s : List UInt8) (w : World) : Calls Tryz.prog 79 #[.string ⟨s.toArray⟩] w fun e w' => e = .returned (.int .i64 (opAt s)) ∧ w = w' := by
  go_enter Tryz.func79, Tryz.ntmps79
  go_wp2
  go_loop [3] (fun i => ∃ p : Nat, 1 ≤ p ∧ p ≤ 54 ∧ i = .int .i64 p ∧ ∀ j : Nat, 1 ≤ j → j < p → nameAt (j : Int) ≠ s) (fun i => 54 - (intOf i).toNat)
  case atStart => exact ⟨1, by omega, by omega, rfl, fun j _ hj => by omega⟩
  case round =>
    obtain ⟨p, hp1, hp, rfl, hl⟩ := hrel
    have HL := Lib.hid hl
    clear hl
    by_cases hlt : p < 54
    · have hle : (p : Int) ≤ 53 := by omega
      have hC := rName_any (p : Int) w
      obtain ⟨z, hz⟩ : ∃ z, z = nameAt (p : Int) := ⟨_, rfl⟩
      rw [← hz] at hC
      replace hC := Lib.hid hC
      replace hz := Lib.hid hz
      by_cases he : z = s
      · subst he
        go_wp2_with fail
        refine (hC.out).mono ?_
        rintro e w' ⟨rfl, rfl⟩
        go_wp2
        go_ret
        exact ⟨ret_int (opAt_hit1 hp1 hlt hz.out.symm HL.out).symm, rfl⟩
      · have he' : (z == s) = false := by simpa using he
        clear he
        go_wp2_with fail
        refine (hC.out).mono ?_
        rintro e w' ⟨rfl, rfl⟩
        go_wp2
        go_round
        case rel =>
          refine ⟨p + 1, by omega, by omega, by go_num, fun j h1 hj => ?_⟩
          by_cases hj' : j = p
          · subst hj'
            rw [← hz.out]
            simpa using he'
          · exact HL.out j h1 (by omega)
        case measure => simp [intOf]; omega
    · have hgt : ¬ (p : Int) ≤ 53 := by omega
      obtain rfl : p = 54 := by omega
      go_wp2
      go_ret
      exact ⟨ret_int (opAt_miss1 HL.out).symm, rfl⟩

theorem has_any (s : ByteArray) (c : UInt8) (w : World) (hs : s.size ≤ 3) : Calls Tryz.prog 71 #[.string s, .int .u8 (c.toNat : Int)] w fun e w' => e = .returned (.bool (s.data.toList.contains c)) ∧ w = w' := by
  obtain ⟨q, hq⟩ : ∃ q, q = s.data.toList.contains c := ⟨_, rfl⟩
  rw [← hq]
  replace hq := Lib.hid hq
  go_enter Tryz.func71, Tryz.ntmps71
  go_wp2
  go_loop [5] (fun i => ∃ k : Nat, k ≤ s.size ∧ i = .int .i64 k ∧ ∀ (j : Nat) (h : j < s.size), j < k → s[j] ≠ c) (fun i => s.size - (intOf i).toNat)
  case atStart => exact ⟨0, by omega, rfl, fun j _ hj => by omega⟩
  case round =>
    obtain ⟨k, hk, rfl, hl⟩ := hrel
    have HL := Lib.hid hl
    clear hl
    by_cases hlt : k < s.size
    · by_cases he : s[k] = c
      · have hb : ((s[k].toNat : Int) == (c.toNat : Int)) = true := by rw [he]; simp
        have hr := Lib.hid (show true = s.data.toList.contains c from by
          rw [← he]
          simp only [List.contains_iff_mem, eq_comm (a := true)]
          exact List.getElem_mem (by simpa using hlt))
        clear he
        go_wp2
        go_ret
        exact ⟨ret_bool (hr.out.trans hq.out.symm), rfl⟩
      · have hb : ((s[k].toNat : Int) == (c.toNat : Int)) = false := by
          simp only [beq_eq_false_iff_ne, ne_eq]
          intro h
          exact he (UInt8.toNat_inj.1 (by omega))
        replace he := Lib.hid he
        go_wp2
        go_round
        case rel =>
          refine ⟨k + 1, by omega, by go_num, fun j h hj => ?_⟩
          by_cases hj' : j = k
          · subst hj'; exact he.out
          · exact HL.out j h (by omega)
        case measure => simp [intOf]; omega
    · obtain rfl : k = s.size := by omega
      go_wp2
      go_ret
      refine ⟨ret_bool ?_, rfl⟩
      rw [hq.out, eq_comm, Bool.eq_false_iff]
      intro h
      rw [List.contains_iff_mem] at h
      obtain ⟨j, hj, e⟩ := List.getElem_of_mem h
      exact HL.out j (by simpa using hj) (by simpa using hj) e

/-- A letter in a form. -/
theorem has_form (op : Int) (c : UInt8) (n : Int) (hn : n = (c.toNat : Int)) (w : World) : Calls Tryz.prog 71 #[.string ⟨(formAt op).toArray⟩, .int .u8 n] w fun e w' => e = .returned (.bool ((formAt op).contains c)) ∧ w = w' := by
  subst hn
  have := has_any ⟨(formAt op).toArray⟩ c w (by have := form_short op; simpa [ByteArray.size] using this)
  simpa using this
theorem field_form (op : Int) (c : UInt8) (n : Int) (hn : n = (c.toNat : Int)) (v : Int) (w : World) : Calls Tryz.prog 122 #[.string ⟨(formAt op).toArray⟩, .int .u8 n, .int .i64 v] w fun e w' => e = .returned (.bool (fldB (formAt op) c v)) ∧ w = w' := by
  have hC := has_form op c n hn w
  clear hn
  obtain ⟨q, hq⟩ : ∃ q, q = fldB (formAt op) c v := ⟨_, rfl⟩
  rw [← hq]
  unfold fldB at hq
  generalize (formAt op).contains c = p at *
  replace hC := Lib.hid hC
  cases p
  · simp only [if_neg (show ¬ (false = true) by decide)] at hq
    replace hq := Lib.hid hq
    go_enter Tryz.func122, Tryz.ntmps122
    go_wp2_with fail
    refine (hC.out).mono ?_
    rintro e w' ⟨rfl, rfl⟩
    go_wp2
    go_ret
    exact ⟨ret_bool (by rw [hq.out]; rfl), rfl⟩
  · simp only [if_true] at hq
    by_cases h0 : 0 ≤ v
    · replace hq := Lib.hid (show q = decide (v ≤ 15) from by rw [hq, decide_eq_true h0]; rfl)
      go_enter Tryz.func122, Tryz.ntmps122
      go_wp2_with fail
      refine (hC.out).mono ?_
      rintro e w' ⟨rfl, rfl⟩
      go_wp2
      go_ret
      exact ⟨ret_bool (by rw [hq.out]), rfl⟩
    · replace hq := Lib.hid (show q = false from by rw [hq, decide_eq_false h0]; rfl)
      go_enter Tryz.func122, Tryz.ntmps122
      go_wp2_with fail
      refine (hC.out).mono ?_
      rintro e w' ⟨rfl, rfl⟩
      go_wp2
      go_ret
      exact ⟨ret_bool (by rw [hq.out]), rfl⟩
end Go.Proofs.YtdkggahkfheocaaGreatDoor
