/- The document's side of layer paint: New. No statement is proved here. -/
import Derived.Test.YticfpnhfhhagpaaPtQ
namespace Go.Proofs.Yticfpnhfhhagpaa
set_option maxRecDepth 100000
open Go.RowKit Go.Shelf
set_option linter.unusedVariables false
section
variable {w w' : World} {base n : Nat} {v : Value} {f : Nat → Bool}
theorem own_slice {T : TypeId} {size : Nat} {xs : List Value} (h : w.ownsRow base T size v n xs) : ∃ A cap, v = .slice A n cap := by
  rcases h.2 with ⟨rfl, rfl⟩ | ⟨g, cap, cur, rfl, _⟩
  · exact ⟨_, _, rfl⟩
  · exact ⟨_, _, rfl⟩
def no : Nat → Bool := fun _ => false
theorem bV_snoc (k : Nat) : bV no (k + 1) = bV no k ++ [.bool false] := by
  unfold bV
  rw [List.range_succ, List.map_append]
  rfl
/-- What New answers. -/
def NwPost (b : Int) (w : World) (e : Ending) (w' : World) : Prop :=
  ((b < 0 ∨ 262144 < b ∨ b % 16 ≠ 0) ∧ e = .returned (.tuple #[.agg #[.slice none 0 0], .bool false]) ∧ Below w.heap.size w w') ∨
    ∃ (n : Nat) (v : Value), (b = ((16 * n : Nat) : Int) ∧ n ≤ 16384) ∧ e = .returned (.tuple #[.agg #[v], .bool true]) ∧ DP w' w.heap.size v n (fun _ => false) ∧ Below w.heap.size w w'
set_option maxHeartbeats 16000000 in
theorem rnew (b : Int) (hb1 : -9223372036854775808 ≤ b) (hb2 : b < 9223372036854775808) (w : World) : Calls Try.prog 8 #[.int .i64 b] w (NwPost b w) := by
  obtain ⟨w1, hw1⟩ : ∃ w1, w1 = w.alloc (.cells #[.slice none 0 0] 28) := ⟨_, rfl⟩
  have b1 : Below w.heap.size w w1 := by rw [hw1]; exact (Below.refl _ _).alloc (Nat.le_refl _) _
  have s1 : w1.heap.size = w.heap.size + 1 := by rw [hw1]; simp
  have u1 : w1.cell? ⟨w.heap.size, 0, none⟩ = some (.slice none 0 0) ∧ w1.frozen? ⟨w.heap.size, 0, none⟩ = false := by rw [hw1]; exact new_cell rfl _ rfl
  have hw1' := Lib.hid hw1
  have hb1' := Lib.hid b1
  have hs1 := Lib.hid s1
  obtain ⟨F, hF⟩ : ∃ F, F = NwPost b w := ⟨_, rfl⟩
  rw [← hF]
  have hF' := Lib.hid hF
  obtain ⟨c0, f0⟩ := u1
  have hno : ∀ (h : b < 0 ∨ 262144 < b ∨ b % 16 ≠ 0), F (.returned (.tuple #[.agg #[.slice none 0 0], .bool false])) (w1.setCell ⟨w.heap.size, 0, none⟩ (.slice none 0 0)) := fun h => by
    rw [hF]
    exact .inl ⟨h, rfl, b1.setCell (p := ⟨w.heap.size, 0, none⟩) (Nat.le_refl _) _⟩
  have hcell := Lib.hid (World.cell?_setCell_same' w1 ⟨w.heap.size, 0, none⟩ (.slice none 0 0) (by rw [c0]; rfl))
  have hno' := Lib.hid hno
  clear hF hw1 b1 s1 hno
  by_cases h1 : b < 0
  · go_enter Try.func8, Try.ntmps8
    go_upto_region 1 with (fail)
    rw [← hw1'.out]
    go_wp2_with fail
    exact bodyPost_ret (res_two' Try.results8 rfl rfl (load_pt hcell.out)) rfl (hno'.out (.inl h1))
  · by_cases h2 : b % 16 = 0
    · by_cases h3 : 262144 < b
      · go_enter Try.func8, Try.ntmps8
        go_upto_region 1 with (fail)
        rw [← hw1'.out]
        go_wp2_with fail
        exact bodyPost_ret (res_two' Try.results8 rfl rfl (load_pt hcell.out)) rfl (hno'.out (.inr (.inl h3)))
      · obtain ⟨n, hn⟩ : ∃ n : Nat, b = ((16 * n : Nat) : Int) := ⟨(b / 16).toNat, by omega⟩
        have hnb : n ≤ 16384 := by omega
        have e4 : b / 16 = n := by omega
        obtain ⟨w2, hw2⟩ : ∃ w2, w2 = w1.alloc (.cells #[.slice none 0 0] 28) := ⟨_, rfl⟩
        have b2 : Below w1.heap.size w1 w2 := by rw [hw2]; exact (Below.refl _ _).alloc (Nat.le_refl _) _
        have s2 := Lib.hid (show w2.heap.size = w.heap.size + 2 by rw [hw2, World.size_alloc, hs1.out])
        have d0 : w2.cell? ⟨w.heap.size + 1, 0, none⟩ = some (.slice none 0 0) ∧ w2.frozen? ⟨w.heap.size + 1, 0, none⟩ = false := by rw [hw2, ← hs1.out]; exact new_cell rfl _ rfl
        have c2 := (b2.cell (p := ⟨w.heap.size, 0, none⟩) (by show w.heap.size < _; have := hs1.out; omega)).trans c0
        have f2 := (b2.frozen (p := ⟨w.heap.size, 0, none⟩) (by show w.heap.size < _; have := hs1.out; omega)).trans f0
        have hB2 := Lib.hid (hb1'.out.trans (b2.mono hb1'.out.size))
        have hw2' := Lib.hid hw2
        have hn' := Lib.hid hn
        obtain ⟨i0, hi, hz0, hz1, hz2⟩ := info_parts infoBool
        have st := Lib.hid (And.intro c2 (And.intro f2 d0))
        clear hn hw2 b2 hcell hno' c0 f0 c2 f2 d0
        go_enter Try.func8, Try.ntmps8
        go_upto_region 5 with (fail)
        rw [← hw1'.out, ← hw2'.out]
        go_wp2_with fail
        go_loopw [5] (fun iv wr => ∃ (k : Nat) (A : Option Addr) (cap : Nat), k ≤ n ∧ iv = .int .i64 k ∧ Hid (wr.cell? ⟨w.heap.size + 1, 0, none⟩ = some (.slice A k cap) ∧ wr.frozen? ⟨w.heap.size + 1, 0, none⟩ = false) ∧ Hid (wr.ownsRow (w.heap.size + 2) 4 1 (.slice A k cap) k (bV no k)) ∧ Hid (Below (w.heap.size + 1) w2 wr)) (fun iv _ => n - (intOf iv).toNat)
        case atStart => exact ⟨0, none, 0, by omega, rfl, Lib.hid st.out.2.2, Lib.hid (World.ownsRow_nil _ _ _ _), Lib.hid (Below.refl _ _)⟩
        case round =>
          obtain ⟨k, A, cap, hk, rfl, hc, hO, hB⟩ := hrel
          obtain ⟨c0, f0⟩ := hc.out
          by_cases hlt : k < n
          · have hl2 : (k : Int) < n := by omega
            have hsz : w.heap.size + 2 ≤ wr.heap.size := by have := hB.out.size; have := s2.out; omega
            have hbw : Below wr.heap.size wr (wr.alloc (.cells #[.bool false] 4)) := (Below.refl _ _).alloc (Nat.le_refl _) _
            have c1 : (wr.alloc (.cells #[.bool false] 4)).cell? ⟨w.heap.size + 1, 0, none⟩ = some (.slice A k cap) := (hbw.cell (p := ⟨w.heap.size + 1, 0, none⟩) (by show w.heap.size + 1 < _; omega)).trans c0
            have f1 : (wr.alloc (.cells #[.bool false] 4)).frozen? ⟨w.heap.size + 1, 0, none⟩ = false := (hbw.frozen (p := ⟨w.heap.size + 1, 0, none⟩) (by show w.heap.size + 1 < _; omega)).trans f0
            have hO2 := Lib.hid (hO.out.alloc (.cells #[.bool false] 4))
            have hn0 := Lib.hid (show (wr.alloc (.cells #[.bool false] 4)).cell? ⟨wr.heap.size, 0, none⟩ = some (.bool false) by simp)
            have hcf := Lib.hid (And.intro c1 f1)
            have hbw' := Lib.hid hbw
            have hsz' := Lib.hid hsz
            clear c1 f1 hbw hsz
            go_wp2_with (at_builtin; refine wpList_append_own _ rfl _ _ 26 rfl (w.heap.size + 2) 4 i0 (.bool false) 1 1 Try.underlying26 hi hz0 hz1 hz2 rfl (by decide) (.slice A k cap) k (bV no k) rfl hO2.out ⟨wr.heap.size, 0, none⟩ 1 1 [.bool false] rfl rfl ?c1 ?c2 ?c3 ?c4 ?c5 ?_)
            case c1 =>
              intro i u hu
              match i, hu with
              | 0, hu => simp at hu; subst hu; simp [Addr.add]
            case c2 => intro u hu; simp at hu; subst hu; rfl
            case c3 => unfold maxLen; omega
            case c4 => omega
            case c5 => have := hbw'.out.size; have := hsz'.out; omega
            · intro v5 w5 hO5 hG hN
              obtain ⟨A5, cap5, rfl⟩ := own_slice hO5
              rw [← bV_snoc] at hO5
              have hb5 : Below (w.heap.size + 2) (wr.alloc (.cells #[.bool false] 4)) w5 := (Below.refl _ _).grown hG (by have := hbw'.out.size; have := hsz'.out; omega) (fun q hq => (hO2.out.lt q hq).1)
              have c5 := (hb5.cell (p := ⟨w.heap.size + 1, 0, none⟩) (by show w.heap.size + 1 < _; omega)).trans hcf.out.1
              have f5 := (hb5.frozen (p := ⟨w.heap.size + 1, 0, none⟩) (by show w.heap.size + 1 < _; omega)).trans hcf.out.2
              have hO6 := Lib.hid (ownsRow_setCell_below hO5 (a := ⟨w.heap.size + 1, 0, none⟩) (by show w.heap.size + 1 < _; omega) (.slice A5 (k + 1) cap5))
              have hB6 := Lib.hid (((hB.out.trans ((hbw'.out.mono (by have := hsz'.out; omega)).trans (hb5.mono (by omega))))).setCell (p := ⟨w.heap.size + 1, 0, none⟩) (Nat.le_refl _) (.slice A5 (k + 1) cap5))
              have c6 := Lib.hid (World.cell?_setCell_same' w5 ⟨w.heap.size + 1, 0, none⟩ (.slice A5 (k + 1) cap5) (by rw [c5]; rfl))
              clear hO5 hG hN hb5 hO2 hn0 hcf hbw' hc hO hB c0 f0
              go_wp2_with fail
              go_roundw
              case rel => exact ⟨k + 1, A5, cap5, by omega, by go_num, Lib.hid ⟨c6.out, (World.frozen?_setCell _ _ _ _).trans f5⟩, hO6, hB6⟩
              case measure => simp [intOf]; omega
          · obtain rfl : k = n := by omega
            have hl2 : ¬ (k : Int) < k := by omega
            have c7 := (hB.out.cell (p := ⟨w.heap.size, 0, none⟩) (by show w.heap.size < _; omega)).trans st.out.1
            have f7 := (hB.out.frozen (p := ⟨w.heap.size, 0, none⟩) (by show w.heap.size < _; omega)).trans st.out.2.1
            go_wp2_with fail
            have hcell := World.cell?_setCell_same' wr ⟨w.heap.size, 0, none⟩ (.slice A k cap) (by rw [c7]; rfl)
            refine bodyPost_ret (res_two' Try.results8 rfl rfl (load_pt hcell)) rfl ?_
            rw [hF'.out]
            refine .inr ⟨k, .slice A k cap, ⟨hn'.out, hnb⟩, rfl, ?_, (hB2.out.trans (hB.out.mono (by omega))).setCell (p := ⟨w.heap.size, 0, none⟩) (Nat.le_refl _) _⟩
            exact (dp_of (ownsRow_setCell_below hO.out (a := ⟨w.heap.size, 0, none⟩) (by show w.heap.size < _; omega) (.slice A k cap))).mono (by omega)
    · go_enter Try.func8, Try.ntmps8
      go_upto_region 1 with (fail)
      rw [← hw1'.out]
      go_wp2_with fail
      exact bodyPost_ret (res_two' Try.results8 rfl rfl (load_pt hcell.out)) rfl (hno'.out (.inr (.inr h2)))
end
end Go.Proofs.Yticfpnhfhhagpaa
