/- Contracts of the document's small calls of layer asm: numbers that are read, names. No statement is proved here. -/
import Derived.Test.YtdkggahkfheocaaGreatDoorAsC
import Derived.Test.YtdkggahkfheocaaGreatDoorAsN
namespace Go.Proofs.YtdkggahkfheocaaGreatDoor
set_option maxRecDepth 100000
open Go.RowKit Go.Lib
set_option linter.unusedVariables false

theorem rdigits_any (n : Int) (h0 : 0 ≤ n) (h1 : n < 18446744073709551616) (w : World) : Calls Tryz.prog 32 #[.int .u64 n] w fun e w' => e = .returned (.string ⟨(decDigits n.toNat).toArray⟩) ∧ Below w.heap.size w w' := by
  obtain ⟨m, rfl⟩ : ∃ m : Nat, n = m := ⟨n.toNat, by omega⟩
  exact rdigits_post m w (by omega)
theorem rsigned_any (v : Int) (h0 : -4294967296 ≤ v) (h1 : v ≤ 4294967296) (w : World) : Calls Tryz.prog 35 #[.int .i64 v] w fun e w' => e = .returned (.string ⟨(itoa v).toArray⟩) ∧ Below w.heap.size w w' := by
  by_cases hv : v < 0
  · have hD := Lib.hid (rdigits_any (-v) (by omega) (by omega) w)
    have hadd : ∀ w, (Op.stringOp .add ⟨#[45]⟩ ⟨(decDigits (-v).toNat).toArray⟩).run Tryz.prog w = .ok (.string ⟨(itoa v).toArray⟩) w := fun w => by
      have h1 := decDigits_length (-v).toNat
      have h2 := Lib.nDigits_le20 (-v).toNat (by omega)
      rw [itoa_neg' hv, show v.natAbs = (-v).toNat from by omega]
      exact run_string_add_lists w [45] (decDigits (-v).toNat) (by simp) (by omega)
    go_enter Tryz.func35, Tryz.ntmps35
    go_wp2_with (refine hD.out.mono ?_; rintro e w' ⟨rfl, k⟩; replace k := Lib.hid k)
    go_ret
    exact ⟨rfl, k.out⟩
  · have hD := Lib.hid (rdigits_any v (by omega) (by omega) w)
    have he := Lib.hid (itoa_nonneg' (v := v) (by omega))
    have hv' : 0 ≤ v := by omega
    have hv2 : decide (v < 0) = false := by simpa using hv'
    clear hv
    go_enter Tryz.func35, Tryz.ntmps35
    go_wp2_with (refine hD.out.mono ?_; rintro e w' ⟨rfl, k⟩; replace k := Lib.hid k)
    go_ret
    exact ⟨by rw [he.out]; rfl, k.out⟩

theorem take_snoc' (s : ByteArray) (k : Nat) (h : k < s.size) : s.data.toList.take (k + 1) = s.data.toList.take k ++ [s[k]] := by
  rw [List.take_succ_eq_append_getElem (by simpa using h)]; rfl
theorem ret_val {a b : Int} {p q : Bool} (h1 : a = b) (h2 : p = q) : Ending.returned (.tuple #[.int .u64 a, .bool p]) = .returned (.tuple #[.int .u64 b, .bool q]) := by rw [h1, h2]
theorem ret_num {a b : Int} {p q : Bool} (h1 : a = b) (h2 : p = q) : Ending.returned (.tuple #[.int .i64 a, .bool p]) = .returned (.tuple #[.int .i64 b, .bool q]) := by rw [h1, h2]
theorem headB (s : ByteArray) (h : 0 < s.size) : s.data.toList.headD 0 = s[0] := by
  cases hl : s.data.toList with
  | nil => rw [Lib.size_eq, hl] at h; simp at h
  | cons a t =>
    have : s.data.toList[0]'(by rw [← Lib.size_eq]; exact h) = a := by simp [hl]
    exact this.symm

set_option maxHeartbeats 2000000 in
theorem rvalue_any (s : ByteArray) (lim : Int) (w : World) : Calls Tryz.prog 78 #[.string s, .int .u64 lim] w fun e w' => e = .returned (.tuple #[.int .u64 (valN s.data.toList), .bool (valT s.data.toList lim)]) ∧ w = w' := by
  have hsz := Lib.hid (Lib.size_eq s)
  by_cases h0 : s.data.toList = []
  · have hn := val_no (l := s.data.toList) (by rw [h0]; decide) lim
    rw [hn.1, hn.2]
    have e0 : s.toList = [] := by rw [Lib.toList_data]; exact h0
    clear hn h0
    go_enter Tryz.func78, Tryz.ntmps78
    go_wp2
    go_ret2
    exact ⟨rfl, rfl⟩
  by_cases h10 : s.size ≤ 10
  rotate_left
  · have hn := val_no (l := s.data.toList) (by rw [← hsz.out]; exact fun k => h10 k.1) lim
    rw [hn.1, hn.2]
    have e0 : (s.toList == []) = false := by rw [Lib.toList_data]; simpa using h0
    have e1 : s.toList.isEmpty = false := by rw [Lib.toList_data]; simpa using h0
    have h11 : (10 : Int) < (s.size : Int) := by omega
    clear hn h0 h10
    go_enter Tryz.func78, Tryz.ntmps78
    go_wp2
    go_ret2
    exact ⟨rfl, rfl⟩
  have hs0 : 0 < s.size := by
    have := hsz.out
    cases hl : s.data.toList with
    | nil => exact absurd hl h0
    | cons a t => rw [hl] at this; simp at this; omega
  have hhd := headB s hs0
  have e0 : (s.toList == []) = false := by rw [Lib.toList_data]; simpa using h0
  have e1 : s.toList.isEmpty = false := by rw [Lib.toList_data]; simpa using h0
  by_cases hz : 1 < s.size ∧ s[0] = 48
  · have hn := val_no (l := s.data.toList) (fun k => by
      have := k.2
      unfold canB at this
      simp only [Bool.and_eq_true, Bool.or_eq_true, decide_eq_true_iff] at this
      rcases this.2 with h | h
      · rw [← hsz.out] at h; omega
      · exact h (hhd.trans hz.2)) lim
    rw [hn.1, hn.2]
    have h11 : (1 : Int) < (s.size : Int) := by omega
    have h12 : ((s[0].toNat : Int) == 48) = true := by rw [hz.2]; rfl
    have h13 : (s.size : Int) ≤ 10 := by omega
    clear hn h0 hz hhd
    go_enter Tryz.func78, Tryz.ntmps78
    go_wp2
    go_ret2
    exact ⟨rfl, rfl⟩
  · have hcan : ∀ n, decFrom 0 s.data.toList = some n → canB s.data.toList = true := fun n hn => by
      unfold canB
      simp only [Bool.and_eq_true, Bool.or_eq_true, decide_eq_true_iff]
      refine ⟨⟨by rw [← hsz.out]; omega, all_dec _ _ _ hn⟩, ?_⟩
      by_cases h1 : s.size = 1
      · exact .inl (by rw [← hsz.out]; exact h1)
      · exact .inr (fun e => hz ⟨by omega, hhd.symm.trans e⟩)
    have HY := Lib.hid (fun n (hn : decFrom 0 s.data.toList = some n) => val_yes (lim := lim) ⟨by rw [← hsz.out]; exact h10, hcan n hn⟩ hn)
    have HN := Lib.hid (fun (h : ¬ s.data.toList.all digB = true) => val_no (l := s.data.toList) (fun k => h (by
      have := k.2
      unfold canB at this
      simp only [Bool.and_eq_true] at this
      exact this.1.2)) lim)
    have h13 : (s.size : Int) ≤ 10 := by omega
    have hg : decide ((1 : Int) < (s.size : Int)) = false ∨ (decide ((1 : Int) < (s.size : Int)) = true ∧ ((s[0].toNat : Int) == 48) = false) := by
      by_cases h1 : s.size = 1
      · exact .inl (by simp; omega)
      · refine .inr ⟨by simp; omega, ?_⟩
        rw [beq_eq_false_iff_ne]
        intro e
        exact hz ⟨by omega, UInt8.toNat_inj.1 (by rw [show (48 : UInt8).toNat = 48 from rfl]; omega)⟩
    clear hcan hhd hz h0
    rcases hg with hg | ⟨hg1, hg2⟩
    all_goals
      go_enter Tryz.func78, Tryz.ntmps78
      go_wp2
      go_loop [6, 7] (fun acc i => ∃ (k : Nat) (Z : Int), k ≤ s.size ∧ i = .int .i64 k ∧ acc = .int .u64 Z ∧ 0 ≤ Z ∧ Hid (decFrom 0 (s.data.toList.take k) = some Z.toNat)) (fun _ i => s.size - (RowKit.intOf i).toNat)
      case atStart => exact ⟨0, 0, Nat.zero_le _, rfl, rfl, by omega, Lib.hid rfl⟩
      case round =>
        obtain ⟨k, Z, hk, rfl, rfl, hZ0, hZ⟩ := hrel
        by_cases hlt : k < s.size
        · have hZ1 : Z < 10000000000 := by
            have h := decFrom_lt _ _ _ hZ.out
            have hl : (s.data.toList.take k).length ≤ 10 := by rw [List.length_take]; omega
            have := Nat.pow_le_pow_right (n := 10) (by decide) hl
            have e10 : (10 : Nat) ^ 10 = 10000000000 := by decide
            omega
          have hc0 := s[k].toNat_lt
          cases hd : digB s[k] with
          | false =>
            have hb : (s[k].toNat : Int) < 48 ∨ ¬ (s[k].toNat : Int) < 48 ∧ 57 < (s[k].toNat : Int) := by
              rcases Nat.lt_or_ge s[k].toNat 48 with h | h
              · exact .inl (by omega)
              · refine .inr ⟨by omega, ?_⟩
                rcases Nat.lt_or_ge 57 s[k].toNat with h' | h'
                · omega
                · rw [digB_of ⟨h, h'⟩] at hd; cases hd
            have hn := HN.out (fun h => by
              rw [List.all_eq_true] at h
              have := h s[k] (List.getElem_mem (by rw [← hsz.out]; exact hlt))
              rw [hd] at this; cases this)
            replace hn := Lib.hid hn
            replace hd := Lib.hid hd
            rcases hb with hb | ⟨hb1, hb2⟩
            all_goals
              go_wp2
              go_ret2
              exact ⟨ret_val hn.out.1.symm hn.out.2.symm, rfl⟩
          | true =>
            obtain ⟨hd1, hd2⟩ := digB_nat hd
            have hd3 : 48 ≤ (s[k].toNat : Int) := by omega
            have hd4 : (s[k].toNat : Int) ≤ 57 := by omega
            have hnx : Hid (decFrom 0 (s.data.toList.take (k + 1)) = some (10 * Z + ((s[k].toNat : Int) - 48)).toNat) := Lib.hid (by
              rw [decFrom_take _ k 0 Z.toNat s[k] (s[k].toNat - 48) hZ.out (by rw [List.getElem?_eq_getElem (by rw [← hsz.out]; exact hlt)]; rfl) (digB_val hd)]
              congr 1
              omega)
            replace hd := Lib.hid hd
            go_wp2
            go_round
            case rel => exact ⟨k + 1, 10 * Z + ((s[k].toNat : Int) - 48), by omega, by go_num, rfl, by omega, hnx⟩
            case measure => simp [RowKit.intOf]; omega
        · obtain rfl : k = s.size := by omega
          have he := HY.out Z.toNat (by have := hZ.out; rw [List.take_of_length_le (by rw [hsz.out]; omega)] at this; exact this)
          have hzz := Lib.hid (show ((Z.toNat : Nat) : Int) = Z from by omega)
          replace he := Lib.hid he
          go_wp2
          go_ret2
          exact ⟨ret_val (by rw [he.out.1, hzz.out]) (by rw [he.out.2, hzz.out]), rfl⟩

theorem valN_low (l : List UInt8) : 0 ≤ valN l ∧ valN l < 10000000000 := by
  unfold valN
  cases h : valO l with
  | none => exact ⟨by decide, by decide⟩
  | some n =>
    obtain ⟨rfl, hl⟩ := valO_some.1 h
    have h1 := lt_pow_nDigits n
    rw [decDigits_length] at hl
    have := Nat.pow_le_pow_right (n := 10) (by decide) hl
    have e10 : (10 : Nat) ^ 10 = 10000000000 := by decide
    exact ⟨by simp, by simp only; omega⟩
def regN (l : List UInt8) : Int := if l.headD 0 = 99 then valN (l.drop 1) else 0
def regT (l : List UInt8) : Bool := if l.headD 0 = 99 then valT (l.drop 1) 16 else false
theorem val_nil (lim : Int) : valN [] = 0 ∧ valT [] lim = false := ⟨rfl, rfl⟩
theorem rregister_any (s : ByteArray) (w : World) (hs : s.size ≤ 9223372036854775807) : Calls Tryz.prog 80 #[.string s] w fun e w' => e = .returned (.tuple #[.int .i64 (regN s.data.toList), .bool (regT s.data.toList)]) ∧ w = w' := by
  have hsz := Lib.hid (Lib.size_eq s)
  by_cases h2 : s.size < 2
  · have hr : regN s.data.toList = 0 ∧ regT s.data.toList = false := by
      have hd : s.data.toList.drop 1 = [] := List.drop_eq_nil_of_le (by rw [← hsz.out]; omega)
      unfold regN regT
      rw [hd, (val_nil 16).1, (val_nil 16).2]
      split <;> exact ⟨rfl, rfl⟩
    rw [hr.1, hr.2]
    have h3 : (s.size : Int) < 2 := by omega
    clear hr h2
    go_enter Tryz.func80, Tryz.ntmps80
    go_wp2
    go_ret2
    exact ⟨rfl, rfl⟩
  have hhd := headB s (by omega)
  have h3 : ¬ (s.size : Int) < 2 := by omega
  have h0 : 0 < s.size := by omega
  by_cases hc : s[0] = 99
  · have hr : regN s.data.toList = valN (s.extract 1 s.size).data.toList ∧ regT s.data.toList = valT (s.extract 1 s.size).data.toList 16 := by
      unfold regN regT
      rw [hhd, if_pos hc, if_pos hc, Lib.extract_from]
      exact ⟨rfl, rfl⟩
    rw [hr.1, hr.2]
    have hV := Lib.hid (rvalue_any (s.extract 1 s.size) 16 w)
    obtain ⟨hb1, hb2⟩ := valN_low (s.extract 1 s.size).data.toList
    generalize valN (s.extract 1 s.size).data.toList = vn at *
    generalize valT (s.extract 1 s.size).data.toList 16 = vt at *
    have h12 : ((s[0].toNat : Int) == 99) = true := by rw [hc]; rfl
    have h13 : ((s[0].toNat : Int) != 99) = false := by rw [bne, h12]; rfl
    clear hr hhd hc
    go_enter Tryz.func80, Tryz.ntmps80
    go_wp2_with (refine hV.out.mono ?_; rintro e w' ⟨rfl, rfl⟩)
    go_ret2
    exact ⟨rfl, rfl⟩
  · have hr : regN s.data.toList = 0 ∧ regT s.data.toList = false := by
      unfold regN regT
      rw [hhd, if_neg hc, if_neg hc]
      exact ⟨rfl, rfl⟩
    rw [hr.1, hr.2]
    have h12 : ((s[0].toNat : Int) == 99) = false := by
      rw [beq_eq_false_iff_ne]
      intro e
      exact hc (UInt8.toNat_inj.1 (by rw [show (99 : UInt8).toNat = 99 from rfl]; omega))
    have h13 : ((s[0].toNat : Int) != 99) = true := by rw [bne, h12]; rfl
    clear hr hhd hc
    go_enter Tryz.func80, Tryz.ntmps80
    go_wp2
    go_ret2
    exact ⟨rfl, rfl⟩
def sgnN (l : List UInt8) : Int := if 1 < l.length ∧ l.headD 0 = 45 then -(valN (l.drop 1)) else valN l
def sgnT (l : List UInt8) : Bool := if 1 < l.length ∧ l.headD 0 = 45 then valT (l.drop 1) 4294967296 && decide (0 < valN (l.drop 1)) else valT l 4294967296
set_option maxHeartbeats 1000000 in
theorem rnumber_any (s : ByteArray) (w : World) (hs : s.size ≤ 9223372036854775807) : Calls Tryz.prog 81 #[.string s] w fun e w' => e = .returned (.tuple #[.int .i64 (sgnN s.data.toList), .bool (sgnT s.data.toList)]) ∧ w = w' := by
  have hsz := Lib.hid (Lib.size_eq s)
  by_cases h2 : 1 < s.size
  · have hhd := headB s (by omega)
    have h0 : 0 < s.size := by omega
    have h3 : (1 : Int) < (s.size : Int) := by omega
    by_cases hc : s[0] = 45
    · have hr : sgnN s.data.toList = -(valN (s.extract 1 s.size).data.toList) ∧ sgnT s.data.toList = (valT (s.extract 1 s.size).data.toList 4294967296 && decide (0 < valN (s.extract 1 s.size).data.toList)) := by
        unfold sgnN sgnT
        rw [← hsz.out, hhd, if_pos ⟨h2, hc⟩, if_pos ⟨h2, hc⟩, Lib.extract_from]
        exact ⟨rfl, rfl⟩
      rw [hr.1, hr.2]
      have hV := Lib.hid (rvalue_any (s.extract 1 s.size) 4294967296 w)
      obtain ⟨hb1, hb2⟩ := valN_low (s.extract 1 s.size).data.toList
      generalize valN (s.extract 1 s.size).data.toList = vn at *
      generalize valT (s.extract 1 s.size).data.toList 4294967296 = vt at *
      have h12 : ((s[0].toNat : Int) == 45) = true := by rw [hc]; rfl
      clear hr hhd hc
      cases vt
      · go_enter Tryz.func81, Tryz.ntmps81
        go_wp2_with (refine hV.out.mono ?_; rintro e w' ⟨rfl, rfl⟩)
        go_ret2
        exact ⟨rfl, rfl⟩
      · go_enter Tryz.func81, Tryz.ntmps81
        go_wp2_with (refine hV.out.mono ?_; rintro e w' ⟨rfl, rfl⟩)
        all_goals go_ret2
        all_goals exact ⟨ret_num rfl (by simp_all), rfl⟩
    · have hr : sgnN s.data.toList = valN s.data.toList ∧ sgnT s.data.toList = valT s.data.toList 4294967296 := by
        unfold sgnN sgnT
        rw [hhd, if_neg (fun k => hc k.2), if_neg (fun k => hc k.2)]
        exact ⟨rfl, rfl⟩
      rw [hr.1, hr.2]
      have hV := Lib.hid (rvalue_any s 4294967296 w)
      obtain ⟨hb1, hb2⟩ := valN_low s.data.toList
      generalize valN s.data.toList = vn at *
      generalize valT s.data.toList 4294967296 = vt at *
      have h12 : ((s[0].toNat : Int) == 45) = false := by
        rw [beq_eq_false_iff_ne]
        intro e
        exact hc (UInt8.toNat_inj.1 (by rw [show (45 : UInt8).toNat = 45 from rfl]; omega))
      clear hr hhd hc
      go_enter Tryz.func81, Tryz.ntmps81
      go_wp2_with (refine hV.out.mono ?_; rintro e w' ⟨rfl, rfl⟩)
      go_ret2
      exact ⟨rfl, rfl⟩
  · have hr : sgnN s.data.toList = valN s.data.toList ∧ sgnT s.data.toList = valT s.data.toList 4294967296 := by
      unfold sgnN sgnT
      rw [← hsz.out, if_neg (fun k => h2 k.1), if_neg (fun k => h2 k.1)]
      exact ⟨rfl, rfl⟩
    rw [hr.1, hr.2]
    have hV := Lib.hid (rvalue_any s 4294967296 w)
    obtain ⟨hb1, hb2⟩ := valN_low s.data.toList
    generalize valN s.data.toList = vn at *
    generalize valT s.data.toList 4294967296 = vt at *
    have h3 : ¬ (1 : Int) < (s.size : Int) := by omega
    have h4 : decide ((1 : Int) < (s.size : Int)) = false := by simpa using h3
    clear hr h2
    go_enter Tryz.func81, Tryz.ntmps81
    go_wp2_with (refine hV.out.mono ?_; rintro e w' ⟨rfl, rfl⟩)
    go_ret2
    exact ⟨rfl, rfl⟩
end Go.Proofs.YtdkggahkfheocaaGreatDoor
