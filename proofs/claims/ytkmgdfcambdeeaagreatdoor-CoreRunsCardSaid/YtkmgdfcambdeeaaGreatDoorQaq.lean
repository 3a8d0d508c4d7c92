/- For core. -/
import Derived.Test.YtkmgdfcambdeeaaGreatDoorQap
namespace Go.Proofs.YtkmgdfcambdeeaaGreatDoor
open Lib (hid)
set_option maxRecDepth 100000
open Go.RowKit
set_option linter.unusedVariables false
theorem form_leaf {op k : Int} {l : List UInt8} (h : (op == k) = true) (e : formAt k = l) : l = formAt op := by
 obtain rfl : op = k := by simpa using h
 exact e.symm
def allOps : List Int := [1, 2, 3, 4, 5, 6, 7, 8, 9, 10, 11, 12, 13, 14, 15, 16, 17, 18, 19, 20, 21, 22, 23, 24, 25, 26, 27, 28, 29, 30, 31, 32, 33, 34, 35, 36, 37, 38, 39, 40, 41, 42, 43, 44, 45, 46, 47, 48, 49, 50, 51, 52, 53]
theorem allOps_mem : ∀ n : Nat, n < 54 → 1 ≤ n → (n : Int) ∈ allOps := by decide
def allF : List Int := [1, 2, 3, 4, 5, 6, 7, 8, 9, 10, 11, 12, 13, 14, 15, 16, 17, 18, 19, 20, 21, 22, 23, 24, 25, 26, 27, 28, 29, 30, 31, 32, 33, 34, 35, 36, 37, 38, 39, 40, 41, 42, 43, 44, 45, 46, 47, 48, 49, 50, 52]
theorem allF_mem : ∀ n : Nat, n < 54 → 1 ≤ n → (n : Int) ∈ allF ∨ formAt (n : Int) = [] := by decide
theorem out_of {op : Int} (h : ∀ k ∈ allOps, (op == k) = false) : ¬ (1 ≤ op ∧ op ≤ 53) := fun ⟨a, b⟩ => by
 obtain ⟨n, rfl⟩ := Int.eq_ofNat_of_zero_le (show 0 ≤ op by omega)
 have := h _ (allOps_mem n (by omega) (by omega))
 simp at this
theorem form_miss {op : Int} (h : ∀ k ∈ allF, (op == k) = false) : [] = formAt op := by
 by_cases hi : 1 ≤ op ∧ op ≤ 53
 · obtain ⟨n, rfl⟩ := Int.eq_ofNat_of_zero_le (show 0 ≤ op by omega)
   rcases allF_mem n (by omega) (by omega) with k | k
   · have := h _ k
     simp at this
   · exact k.symm
 · exact (formAt_out hi).symm
set_option maxHeartbeats 4000000 in
theorem rForm_any (op : Int) (w : World) : Calls Tryz.prog 84 #[.int .i64 op] w fun e w' => e = .returned (.string ⟨(formAt op).toArray⟩) ∧ w = w' := by
 obtain ⟨s, hs⟩ : ∃ s, s = formAt op := ⟨_, rfl⟩
 rw [← hs]
 replace hs := hid hs
 go_enter Tryz.func84, Tryz.ntmps84
 go_wp2
 all_goals
   go_ret
   rw [hs.out]
   first
   | exact ⟨iret_str (form_leaf (by assumption) rfl), rfl⟩
   | exact ⟨iret_str (form_miss (by unfold allF; simp only [List.forall_mem_cons]; refine ⟨?_, ?_, ?_, ?_, ?_, ?_, ?_, ?_, ?_, ?_, ?_, ?_, ?_, ?_, ?_, ?_, ?_, ?_, ?_, ?_, ?_, ?_, ?_, ?_, ?_, ?_, ?_, ?_, ?_, ?_, ?_, ?_, ?_, ?_, ?_, ?_, ?_, ?_, ?_, ?_, ?_, ?_, ?_, ?_, ?_, ?_, ?_, ?_, ?_, ?_, ?_, fun _ h => by cases h⟩ <;> assumption)), rfl⟩
theorem has_any (s : ByteArray) (c : UInt8) (w : World) (hs : s.size ≤ 3) : Calls Tryz.prog 86 #[.string s, .int .u8 (c.toNat : Int)] w fun e w' => e = .returned (.bool (s.data.toList.contains c)) ∧ w = w' := by
 obtain ⟨q, hq⟩ : ∃ q, q = s.data.toList.contains c := ⟨_, rfl⟩
 rw [← hq]
 replace hq := hid hq
 go_enter Tryz.func86, Tryz.ntmps86
 go_wp2
 go_loop [5] (fun i => ∃ k : Nat, k ≤ s.size ∧ i = .int .i64 k ∧ ∀ (j : Nat) (h : j < s.size), j < k → s[j] ≠ c) (fun i => s.size - (intOf i).toNat)
 case atStart => exact ⟨0, by omega, rfl, fun j _ hj => by omega⟩
 case round =>
   obtain ⟨k, hk, rfl, hl⟩ := hrel
   have HL := hid hl
   clear hl
   by_cases hlt : k < s.size
   · by_cases he : s[k] = c
     · have hb : ((s[k].toNat : Int) == (c.toNat : Int)) = true := by rw [he]; simp
       have hr := hid (show true = s.data.toList.contains c from by
         rw [← he]
         simp only [List.contains_iff_mem, eq_comm (a := true)]
         exact List.getElem_mem (by simpa using hlt))
       clear he
       go_wp2
       go_ret
       exact ⟨ret_bool (hr.out.trans hq.out.symm), rfl⟩
     · have hb : ((s[k].toNat : Int) == (c.toNat : Int)) = false := by
         simp only [beq_eq_false_iff_ne, ne_eq]
         intro h
         exact he (UInt8.toNat_inj.1 (by omega))
       replace he := hid he
       go_wp2
       go_round
       case rel =>
         refine ⟨k + 1, by omega, by go_num, fun j h hj => ?_⟩
         by_cases hj' : j = k
         · subst hj'; exact he.out
         · exact HL.out j h (by omega)
       case measure => simp [intOf]; omega
   · obtain rfl : k = s.size := by omega
     go_wp2
     go_ret
     refine ⟨ret_bool ?_, rfl⟩
     rw [hq.out, eq_comm, Bool.eq_false_iff]
     intro h
     rw [List.contains_iff_mem] at h
     obtain ⟨j, hj, e⟩ := List.getElem_of_mem h
     exact HL.out j (by simpa using hj) (by simpa using hj) e
theorem has_form (op : Int) (c : UInt8) (n : Int) (hn : n = (c.toNat : Int)) (w : World) : Calls Tryz.prog 86 #[.string ⟨(formAt op).toArray⟩, .int .u8 n] w fun e w' => e = .returned (.bool ((formAt op).contains c)) ∧ w = w' := by
 subst hn
 have := has_any ⟨(formAt op).toArray⟩ c w (by have := form_short op; simpa [ByteArray.size] using this)
 simpa using this
theorem field_form (op : Int) (c : UInt8) (n : Int) (hn : n = (c.toNat : Int)) (v : Int) (w : World) : Calls Tryz.prog 85 #[.string ⟨(formAt op).toArray⟩, .int .u8 n, .int .i64 v] w fun e w' => e = .returned (.bool (fldB (formAt op) c v)) ∧ w = w' := by
 have hC := has_form op c n hn w
 clear hn
 obtain ⟨q, hq⟩ : ∃ q, q = fldB (formAt op) c v := ⟨_, rfl⟩
 rw [← hq]
 unfold fldB at hq
 generalize (formAt op).contains c = p at *
 replace hC := hid hC
 cases p
 · simp only [if_neg (show ¬ (false = true) by decide)] at hq
   replace hq := hid hq
   go_enter Tryz.func85, Tryz.ntmps85
   go_wp2_with fail
   refine (hC.out).mono ?_
   rintro e w' ⟨rfl, rfl⟩
   go_wp2
   go_ret
   exact ⟨ret_bool (by rw [hq.out]; rfl), rfl⟩
 · simp only [if_true] at hq
   by_cases h0 : 0 ≤ v
   · replace hq := hid (show q = decide (v ≤ 15) from by rw [hq, decide_eq_true h0]; rfl)
     go_enter Tryz.func85, Tryz.ntmps85
     go_wp2_with fail
     refine (hC.out).mono ?_
     rintro e w' ⟨rfl, rfl⟩
     go_wp2
     go_ret
     exact ⟨ret_bool (by rw [hq.out]), rfl⟩
   · replace hq := hid (show q = false from by rw [hq, decide_eq_false h0]; rfl)
     go_enter Tryz.func85, Tryz.ntmps85
     go_wp2_with fail
     refine (hC.out).mono ?_
     rintro e w' ⟨rfl, rfl⟩
     go_wp2
     go_ret
     exact ⟨ret_bool (by rw [hq.out]), rfl⟩
set_option maxHeartbeats 2000000 in
theorem iMay_any (op a b c m : Int) (w : World) : Calls Tryz.prog 37 #[.agg #[.int .i64 op, .int .i64 a, .int .i64 b, .int .i64 c, .int .i64 m]] w fun e w' => e = .returned (.bool (mayB ⟨op, a, b, c, m⟩)) ∧ Below w.heap.size w w' := by
 have hF := rForm_any op
 have hA := field_form op 97 97 rfl a
 have hB := field_form op 98 98 rfl b
 have hC := field_form op 99 99 rfl c
 have hJ := has_form op 106 106 rfl
 have hI := has_form op 105 105 rfl
 obtain ⟨q, hq⟩ : ∃ q, q = mayB ⟨op, a, b, c, m⟩ := ⟨_, rfl⟩
 rw [← hq]
 unfold mayB immB at hq
 dsimp only at hq
 generalize fldB (formAt op) 97 a = pa at *
 generalize fldB (formAt op) 98 b = pb at *
 generalize fldB (formAt op) 99 c = pc at *
 generalize (formAt op).contains 106 = pj at *
 generalize (formAt op).contains 105 = pi at *
 generalize formAt op = f at *
 replace hF := hid hF
 replace hA := hid hA
 replace hB := hid hB
 replace hC := hid hC
 replace hJ := hid hJ
 replace hI := hid hI
 replace hq := hid hq
 by_cases h1 : op < 1
 · have hr := hid (show false = q from by rw [hq.out, decide_eq_false (show ¬ 1 ≤ op by omega)]; simp)
   go_enter Tryz.func37, Tryz.ntmps37
   go_wp2_with (first | ((with_reducible refine (hF.out _).mono ?_); rintro e w' ⟨rfl, rfl⟩) | ((with_reducible refine (hA.out _).mono ?_); rintro e w' ⟨rfl, rfl⟩) | ((with_reducible refine (hB.out _).mono ?_); rintro e w' ⟨rfl, rfl⟩) | ((with_reducible refine (hC.out _).mono ?_); rintro e w' ⟨rfl, rfl⟩) | ((with_reducible refine (hJ.out _).mono ?_); rintro e w' ⟨rfl, rfl⟩) | ((with_reducible refine (hI.out _).mono ?_); rintro e w' ⟨rfl, rfl⟩))
   go_ret
   exact ⟨ret_bool hr.out, by go_grown⟩
 by_cases h2 : 53 < op
 · have hr := hid (show false = q from by rw [hq.out, decide_eq_false (show ¬ op ≤ 53 by omega)]; simp)
   go_enter Tryz.func37, Tryz.ntmps37
   go_wp2_with (first | ((with_reducible refine (hF.out _).mono ?_); rintro e w' ⟨rfl, rfl⟩) | ((with_reducible refine (hA.out _).mono ?_); rintro e w' ⟨rfl, rfl⟩) | ((with_reducible refine (hB.out _).mono ?_); rintro e w' ⟨rfl, rfl⟩) | ((with_reducible refine (hC.out _).mono ?_); rintro e w' ⟨rfl, rfl⟩) | ((with_reducible refine (hJ.out _).mono ?_); rintro e w' ⟨rfl, rfl⟩) | ((with_reducible refine (hI.out _).mono ?_); rintro e w' ⟨rfl, rfl⟩))
   go_ret
   exact ⟨ret_bool hr.out, by go_grown⟩
 have hq' := hid (show q = (pa && pb && pc && (if pj then decide (-524288 ≤ m) && decide (m ≤ 524287) else if pi then decide (-2048 ≤ m) && decide (m ≤ 2047) else decide (m = 0))) from by
   rw [hq.out, decide_eq_true (show 1 ≤ op by omega), decide_eq_true (show op ≤ 53 by omega)]; simp [Bool.and_assoc])
 clear hq
 cases pa
 · have hr := hid (show false = q from by rw [hq'.out]; simp)
   go_enter Tryz.func37, Tryz.ntmps37
   go_wp2_with (first | ((with_reducible refine (hF.out _).mono ?_); rintro e w' ⟨rfl, rfl⟩) | ((with_reducible refine (hA.out _).mono ?_); rintro e w' ⟨rfl, rfl⟩) | ((with_reducible refine (hB.out _).mono ?_); rintro e w' ⟨rfl, rfl⟩) | ((with_reducible refine (hC.out _).mono ?_); rintro e w' ⟨rfl, rfl⟩) | ((with_reducible refine (hJ.out _).mono ?_); rintro e w' ⟨rfl, rfl⟩) | ((with_reducible refine (hI.out _).mono ?_); rintro e w' ⟨rfl, rfl⟩))
   go_ret
   exact ⟨ret_bool hr.out, by go_grown⟩
 cases pb
 · have hr := hid (show false = q from by rw [hq'.out]; simp)
   go_enter Tryz.func37, Tryz.ntmps37
   go_wp2_with (first | ((with_reducible refine (hF.out _).mono ?_); rintro e w' ⟨rfl, rfl⟩) | ((with_reducible refine (hA.out _).mono ?_); rintro e w' ⟨rfl, rfl⟩) | ((with_reducible refine (hB.out _).mono ?_); rintro e w' ⟨rfl, rfl⟩) | ((with_reducible refine (hC.out _).mono ?_); rintro e w' ⟨rfl, rfl⟩) | ((with_reducible refine (hJ.out _).mono ?_); rintro e w' ⟨rfl, rfl⟩) | ((with_reducible refine (hI.out _).mono ?_); rintro e w' ⟨rfl, rfl⟩))
   go_ret
   exact ⟨ret_bool hr.out, by go_grown⟩
 cases pc
 · have hr := hid (show false = q from by rw [hq'.out]; simp)
   go_enter Tryz.func37, Tryz.ntmps37
   go_wp2_with (first | ((with_reducible refine (hF.out _).mono ?_); rintro e w' ⟨rfl, rfl⟩) | ((with_reducible refine (hA.out _).mono ?_); rintro e w' ⟨rfl, rfl⟩) | ((with_reducible refine (hB.out _).mono ?_); rintro e w' ⟨rfl, rfl⟩) | ((with_reducible refine (hC.out _).mono ?_); rintro e w' ⟨rfl, rfl⟩) | ((with_reducible refine (hJ.out _).mono ?_); rintro e w' ⟨rfl, rfl⟩) | ((with_reducible refine (hI.out _).mono ?_); rintro e w' ⟨rfl, rfl⟩))
   go_ret
   exact ⟨ret_bool hr.out, by go_grown⟩
 cases pj
 · cases pi
   · have hr := hid (show (m == 0) = q from by rw [hq'.out, Bool.eq_iff_iff]; simp)
     go_enter Tryz.func37, Tryz.ntmps37
     go_wp2_with (first | ((with_reducible refine (hF.out _).mono ?_); rintro e w' ⟨rfl, rfl⟩) | ((with_reducible refine (hA.out _).mono ?_); rintro e w' ⟨rfl, rfl⟩) | ((with_reducible refine (hB.out _).mono ?_); rintro e w' ⟨rfl, rfl⟩) | ((with_reducible refine (hC.out _).mono ?_); rintro e w' ⟨rfl, rfl⟩) | ((with_reducible refine (hJ.out _).mono ?_); rintro e w' ⟨rfl, rfl⟩) | ((with_reducible refine (hI.out _).mono ?_); rintro e w' ⟨rfl, rfl⟩))
     go_ret
     exact ⟨ret_bool hr.out, by go_grown⟩
   · by_cases h3 : -2048 ≤ m
     · have hr := hid (show decide (m ≤ 2047) = q from by rw [hq'.out]; simp [h3])
       go_enter Tryz.func37, Tryz.ntmps37
       go_wp2_with (first | ((with_reducible refine (hF.out _).mono ?_); rintro e w' ⟨rfl, rfl⟩) | ((with_reducible refine (hA.out _).mono ?_); rintro e w' ⟨rfl, rfl⟩) | ((with_reducible refine (hB.out _).mono ?_); rintro e w' ⟨rfl, rfl⟩) | ((with_reducible refine (hC.out _).mono ?_); rintro e w' ⟨rfl, rfl⟩) | ((with_reducible refine (hJ.out _).mono ?_); rintro e w' ⟨rfl, rfl⟩) | ((with_reducible refine (hI.out _).mono ?_); rintro e w' ⟨rfl, rfl⟩))
       go_ret
       exact ⟨ret_bool hr.out, by go_grown⟩
     · have hr := hid (show false = q from by rw [hq'.out]; simp [h3])
       go_enter Tryz.func37, Tryz.ntmps37
       go_wp2_with (first | ((with_reducible refine (hF.out _).mono ?_); rintro e w' ⟨rfl, rfl⟩) | ((with_reducible refine (hA.out _).mono ?_); rintro e w' ⟨rfl, rfl⟩) | ((with_reducible refine (hB.out _).mono ?_); rintro e w' ⟨rfl, rfl⟩) | ((with_reducible refine (hC.out _).mono ?_); rintro e w' ⟨rfl, rfl⟩) | ((with_reducible refine (hJ.out _).mono ?_); rintro e w' ⟨rfl, rfl⟩) | ((with_reducible refine (hI.out _).mono ?_); rintro e w' ⟨rfl, rfl⟩))
       go_ret
       exact ⟨ret_bool hr.out, by go_grown⟩
 · by_cases h3 : -524288 ≤ m
   · have hr := hid (show decide (m ≤ 524287) = q from by rw [hq'.out]; simp [h3])
     go_enter Tryz.func37, Tryz.ntmps37
     go_wp2_with (first | ((with_reducible refine (hF.out _).mono ?_); rintro e w' ⟨rfl, rfl⟩) | ((with_reducible refine (hA.out _).mono ?_); rintro e w' ⟨rfl, rfl⟩) | ((with_reducible refine (hB.out _).mono ?_); rintro e w' ⟨rfl, rfl⟩) | ((with_reducible refine (hC.out _).mono ?_); rintro e w' ⟨rfl, rfl⟩) | ((with_reducible refine (hJ.out _).mono ?_); rintro e w' ⟨rfl, rfl⟩) | ((with_reducible refine (hI.out _).mono ?_); rintro e w' ⟨rfl, rfl⟩))
     go_ret
     exact ⟨ret_bool hr.out, by go_grown⟩
   · have hr := hid (show false = q from by rw [hq'.out]; simp [h3])
     go_enter Tryz.func37, Tryz.ntmps37
     go_wp2_with (first | ((with_reducible refine (hF.out _).mono ?_); rintro e w' ⟨rfl, rfl⟩) | ((with_reducible refine (hA.out _).mono ?_); rintro e w' ⟨rfl, rfl⟩) | ((with_reducible refine (hB.out _).mono ?_); rintro e w' ⟨rfl, rfl⟩) | ((with_reducible refine (hC.out _).mono ?_); rintro e w' ⟨rfl, rfl⟩) | ((with_reducible refine (hJ.out _).mono ?_); rintro e w' ⟨rfl, rfl⟩) | ((with_reducible refine (hI.out _).mono ?_); rintro e w' ⟨rfl, rfl⟩))
     go_ret
     exact ⟨ret_bool hr.out, by go_grown⟩
end Go.Proofs.YtkmgdfcambdeeaaGreatDoor
