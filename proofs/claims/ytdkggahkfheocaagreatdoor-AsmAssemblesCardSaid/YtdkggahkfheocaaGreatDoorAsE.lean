/- Contracts of layer asm: names of labels, both sides; the program's numbers. No statement is proved here. -/
import Derived.Test.YtdkggahkfheocaaGreatDoorAsD
namespace Go.Proofs.YtdkggahkfheocaaGreatDoor
set_option maxRecDepth 100000
open Go.RowKit Go.Lib
set_option linter.unusedVariables false

theorem sign_cases (c : UInt8) : (signB c = true ∧ (97 ≤ c.toNat ∧ c.toNat ≤ 122 ∨ 48 ≤ c.toNat ∧ c.toNat ≤ 57 ∨ c.toNat = 95)) ∨ (signB c = false ∧ (c.toNat < 48 ∨ 57 < c.toNat ∧ c.toNat < 95 ∨ c.toNat = 96 ∨ 122 < c.toNat)) := by
  unfold signB
  by_cases h1 : 97 ≤ c.toNat ∧ c.toNat ≤ 122
  · exact .inl ⟨by simp [h1.1, h1.2], .inl h1⟩
  by_cases h2 : 48 ≤ c.toNat ∧ c.toNat ≤ 57
  · exact .inl ⟨by simp [h2.1, h2.2], .inr (.inl h2)⟩
  by_cases h3 : c.toNat = 95
  · exact .inl ⟨by simp [h3], .inr (.inr h3)⟩
  · refine .inr ⟨?_, by omega⟩
    have a1 : (decide (97 ≤ c.toNat) && decide (c.toNat ≤ 122)) = false := by simp; omega
    have a2 : (decide (48 ≤ c.toNat) && decide (c.toNat ≤ 57)) = false := by simp; omega
    have a3 : decide (c.toNat = 95) = false := by simpa using h3
    rw [a1, a2, a3]; rfl
theorem name_is {l : List UInt8} (h1 : 1 ≤ l.length) (h2 : l.length ≤ 32) (h3 : digB (l.headD 0) = false) : nameB l = l.all signB := by
  unfold nameB
  rw [decide_eq_true h1, decide_eq_true h2, h3]
  simp
theorem name_dig {l : List UInt8} (h3 : digB (l.headD 0) = true) : nameB l = false := by unfold nameB; rw [h3]; simp
theorem name_len {l : List UInt8} (h : ¬ (1 ≤ l.length ∧ l.length ≤ 32)) : nameB l = false := by
  unfold nameB
  by_cases h1 : 1 ≤ l.length
  · rw [decide_eq_false (fun k => h ⟨h1, k⟩)]; simp
  · rw [decide_eq_false h1]; simp
theorem eqb_false {a b : Int} (h : a ≠ b) : (a == b) = false := by rw [beq_eq_false_iff_ne]; exact h

set_option maxHeartbeats 2000000 in
theorem rName8_any (s : ByteArray) (w : World) : Calls Tryz.prog 51 #[.string s] w fun e w' => e = .returned (.bool (nameB s.data.toList)) ∧ w = w' := by
  have hsz := Lib.hid (Lib.size_eq s)
  by_cases h0 : s.size = 0
  · rw [name_len (l := s.data.toList) (by rw [← hsz.out]; omega)]
    have h1 : (s.size : Int) < 1 := by omega
    clear h0
    go_enter Tryz.func51, Tryz.ntmps51
    go_wp2
    go_ret
    exact ⟨rfl, rfl⟩
  by_cases h32 : 32 < s.size
  · rw [name_len (l := s.data.toList) (by rw [← hsz.out]; omega)]
    have h1 : ¬ (s.size : Int) < 1 := by omega
    have h2 : (32 : Int) < (s.size : Int) := by omega
    clear h0 h32
    go_enter Tryz.func51, Tryz.ntmps51
    go_wp2
    go_ret
    exact ⟨rfl, rfl⟩
  have h1 : ¬ (s.size : Int) < 1 := by omega
  have h2 : (s.size : Int) ≤ 32 := by omega
  have hs0 : 0 < s.size := by omega
  have hhd := headB s hs0
  cases hd : digB s[0] with
  | true =>
    rw [name_dig (l := s.data.toList) (by rw [hhd]; exact hd)]
    obtain ⟨hd1, hd2⟩ := digB_nat hd
    have hd3 : 48 ≤ (s[0].toNat : Int) := by omega
    have hd4 : (s[0].toNat : Int) ≤ 57 := by omega
    clear hhd hd hd1 hd2
    go_enter Tryz.func51, Tryz.ntmps51
    go_wp2
    go_ret
    exact ⟨rfl, rfl⟩
  | false =>
    rw [name_is (l := s.data.toList) (by rw [← hsz.out]; omega) (by rw [← hsz.out]; omega) (by rw [hhd]; exact hd)]
    have hb : (s[0].toNat : Int) < 48 ∨ 48 ≤ (s[0].toNat : Int) ∧ 57 < (s[0].toNat : Int) := by
      rcases Nat.lt_or_ge s[0].toNat 48 with h | h
      · exact .inl (by omega)
      · refine .inr ⟨by omega, ?_⟩
        rcases Nat.lt_or_ge 57 s[0].toNat with h' | h'
        · omega
        · rw [digB_of ⟨h, h'⟩] at hd; cases hd
    obtain ⟨q, hq⟩ : ∃ q, q = s.data.toList.all signB := ⟨_, rfl⟩
    rw [← hq]
    replace hq := Lib.hid hq
    clear hhd hd h0 h32
    rcases hb with hb | ⟨hb1, hb2⟩
    all_goals
      go_enter Tryz.func51, Tryz.ntmps51
      go_wp2
      go_loop [3] (fun i => ∃ k : Nat, k ≤ s.size ∧ i = .int .i64 k ∧ Hid ((s.data.toList.take k).all signB = true)) (fun i => s.size - (RowKit.intOf i).toNat)
      case atStart => exact ⟨0, by omega, rfl, Lib.hid rfl⟩
      case round =>
        obtain ⟨k, hk, rfl, hl⟩ := hrel
        by_cases hlt : k < s.size
        · have hc0 := s[k].toNat_lt
          have htk := take_snoc' s k hlt
          rcases sign_cases s[k] with ⟨hs, hcs⟩ | ⟨hs, hcs⟩
          · have hnx := Lib.hid (show (s.data.toList.take (k + 1)).all signB = true from by rw [htk, List.all_append, hl.out]; simp [hs])
            replace htk := Lib.hid htk
            replace hs := Lib.hid hs
            have hcs' : 97 ≤ (s[k].toNat : Int) ∧ (s[k].toNat : Int) ≤ 122 ∨ ¬ 97 ≤ (s[k].toNat : Int) ∧ 48 ≤ (s[k].toNat : Int) ∧ (s[k].toNat : Int) ≤ 57 ∨ ¬ 97 ≤ (s[k].toNat : Int) ∧ 48 ≤ (s[k].toNat : Int) ∧ ¬ (s[k].toNat : Int) ≤ 57 ∧ ((s[k].toNat : Int) == 95) = true := by
              rcases hcs with h | h | h
              · exact .inl (by omega)
              · exact .inr (.inl (by omega))
              · exact .inr (.inr ⟨by omega, by omega, by omega, by rw [h]; rfl⟩)
            clear hcs
            rcases hcs' with ⟨a1, a2⟩ | ⟨a1, a2, a3⟩ | ⟨a1, a2, a3, a4⟩
            all_goals
              go_wp2
              go_round
              case rel => exact ⟨k + 1, by omega, by go_num, hnx⟩
              case measure => simp [RowKit.intOf]; omega
          · have hr := Lib.hid (show false = s.data.toList.all signB from by
              rw [eq_comm, Bool.eq_false_iff]
              intro h
              rw [List.all_eq_true] at h
              have := h s[k] (List.getElem_mem (by rw [← hsz.out]; exact hlt))
              rw [hs] at this; cases this)
            replace htk := Lib.hid htk
            replace hs := Lib.hid hs
            have hcs' : ¬ 97 ≤ (s[k].toNat : Int) ∧ ¬ 48 ≤ (s[k].toNat : Int) ∧ ((s[k].toNat : Int) == 95) = false ∨ ¬ 97 ≤ (s[k].toNat : Int) ∧ 48 ≤ (s[k].toNat : Int) ∧ ¬ (s[k].toNat : Int) ≤ 57 ∧ ((s[k].toNat : Int) == 95) = false ∨ 97 ≤ (s[k].toNat : Int) ∧ ¬ (s[k].toNat : Int) ≤ 122 ∧ 48 ≤ (s[k].toNat : Int) ∧ ¬ (s[k].toNat : Int) ≤ 57 ∧ ((s[k].toNat : Int) == 95) = false := by
              rcases hcs with h | h | h | h
              · exact .inl ⟨by omega, by omega, eqb_false (by omega)⟩
              · exact .inr (.inl ⟨by omega, by omega, by omega, eqb_false (by omega)⟩)
              · exact .inr (.inl ⟨by omega, by omega, by omega, eqb_false (by omega)⟩)
              · exact .inr (.inr ⟨by omega, by omega, by omega, by omega, eqb_false (by omega)⟩)
            clear hcs
            rcases hcs' with ⟨a1, a2, a3⟩ | ⟨a1, a2, a3, a4⟩ | ⟨a1, a2, a3, a4, a5⟩
            all_goals
              go_wp2
              go_ret
              exact ⟨ret_bool (hr.out.trans hq.out.symm), rfl⟩
        · obtain rfl : k = s.size := by omega
          have hr := Lib.hid (show true = s.data.toList.all signB from by
            have := hl.out
            rw [List.take_of_length_le (by rw [hsz.out]; omega)] at this
            exact this.symm)
          go_wp2
          go_ret
          exact ⟨ret_bool (hr.out.trans hq.out.symm), rfl⟩
theorem trimLeft_signs (s : ByteArray) (w : World) : Calls Tryz.prog 109 #[.string s, .string ⟨#[97, 98, 99, 100, 101, 102, 103, 104, 105, 106, 107, 108, 109, 110, 111, 112, 113, 114, 115, 116, 117, 118, 119, 120, 121, 122, 95, 48, 49, 50, 51, 52, 53, 54, 55, 56, 57]⟩] w fun e w' => e = .returned (.string ⟨(Lib.trimLeftS s.data.toList signsL).toArray⟩) ∧ Below w.heap.size w w' :=
  Any.strings_TrimLeft_laid Tryz.lays161 (by kernel_rfl) s ⟨signsL.toArray⟩ w (by decide) (ascii_of_all (by decide))
end Go.Proofs.YtdkggahkfheocaaGreatDoor
