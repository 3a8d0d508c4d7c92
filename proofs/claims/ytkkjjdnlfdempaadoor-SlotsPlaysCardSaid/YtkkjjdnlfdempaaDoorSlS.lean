/- The document's answers for layer slots: Free, Numbers, Same. No statement is proved here. -/
import Derived.Test.YtkkjjdnlfdempaaDoorSlR
namespace Go.Proofs.YtkkjjdnlfdempaaDoor
set_option maxRecDepth 100000
open Go.RowKit Go.Shelf
set_option linter.unusedVariables false
section
variable {W w w' : World} {b per : Nat} {g : Nat → Bool} {f : Nat → Nat → Bool} {v : Value} {l : List Pg}
/-- The numbers of the first k pages. -/
def nums (l : List Pg) (k : Nat) : List Nat := (l.take k).map (·.p)
theorem nums_all (H : RefAt w b v per g f l) : nums l l.length = setL g 1024 := by unfold nums; rw [List.take_length, H.ps]
theorem drewN_add (w : World) (a b : Nat) : (w.drewN a).drewN b = w.drewN (a + b) := by simp [World.drewN, Nat.add_assoc]
theorem nums_len (l : List Pg) (k : Nat) : (nums l k).length ≤ k := by unfold nums; rw [List.length_map, List.length_take]; omega
theorem take_step {l : List Pg} {k : Nat} {x : Pg} (hx : l[k]? = some x) : nums l (k + 1) = nums l k ++ [x.p] := by
  unfold nums; rw [List.take_add_one, hx]; simp
/-- The slots of a page beyond those that it has. -/
def Ok (per : Nat) (g : Nat → Bool) (f : Nat → Nat → Bool) : Prop := (∀ p s, f p s = true → g p = true ∧ s < per) ∧ per ≤ 16 ∧ 1 ≤ per
theorem Ok.cnt (h : Ok per g f) (p : Nat) : cnt (f p) 16 = cnt (f p) per := cnt_off (fun j hj => by
  rcases hv : f p j with _ | _
  · rfl
  · have := (h.1 p j hv).2; omega) h.2.1
set_option maxHeartbeats 2000000 in
theorem rFree (H : RefAt w b v per g f l) (hk : Ok per g f) : Calls Tryd.prog 20 #[.agg #[.int .i64 per, v]] w fun e w' => e = .returned (.int .i64 (tot f 1024 : Nat)) ∧ Below w.heap.size w w' := by
  obtain ⟨A, cap, hv, hcap, hmx, hA1, hA2⟩ := H.form
  have hll : l.length ≤ 1024 := by rw [H.len]; exact cnt_le g 1024
  have hl2 : (l.length : Int) ≤ 1024 := by omega
  have htot := Lib.hid (show tsum f (nums l l.length) = tot f 1024 from by
    rw [nums_all H]
    exact tsum_setL f g 1024 (fun p s _ hp => by
      rcases hv : f p s with _ | _
      · rfl
      · rw [(hk.1 p s hv).1] at hp; cases hp))
  obtain ⟨w1, hw1⟩ : ∃ w1, w1 = w.alloc (.cells #[.int .i64 per, .slice A l.length cap] 27) := ⟨_, rfl⟩
  have hb1 : Below w.heap.size w w1 := by rw [hw1]; exact (Below.refl _ _).alloc (Nat.le_refl _) _
  have c1 : w1.cell? ⟨w.heap.size, 1, none⟩ = some (.slice A l.length cap) := by rw [hw1]; simp
  have hsz : w.heap.size < w1.heap.size := by rw [hw1]; simp
  have H1 := Lib.hid (H.grow hb1)
  have hB := Lib.hid hb1
  rw [hv]
  have hv' := Lib.hid hv
  have hk' := Lib.hid hk
  have c1' := Lib.hid (And.intro c1 hsz)
  clear H hb1 hv hA1 hA2 hmx hk
  go_enter Tryd.func20, Tryd.ntmps20
  go_upto_region 1 with (fail)
  rw [← hw1]
  replace hw1 := Lib.hid hw1
  clear c1 hsz
  go_wp2_with fail
  go_loopw [3, 4] (fun t i wr => ∃ k : Nat, k ≤ l.length ∧ i = .int .i64 k ∧ t = .int .i64 (tsum f (nums l k) : Nat) ∧ Below w1.heap.size w1 wr) (fun _ i _ => l.length - (intOf i).toNat)
  case atStart => exact ⟨0, by omega, rfl, rfl, Below.refl _ _⟩
  case round =>
    obtain ⟨k, hkl, rfl, rfl, hb⟩ := hrel
    have hle := Nat.le_trans (tsum_le f (nums l k)) (Nat.mul_le_mul_left 16 (nums_len l k))
    have c2 : wr.cell? ⟨w.heap.size, 1, none⟩ = some (.slice A l.length cap) := (hb.cell (p := ⟨w.heap.size, 1, none⟩) c1'.out.2).trans c1'.out.1
    have hk3 : (k : Int) ≤ 1024 := by omega
    by_cases hlt : k < l.length
    · have jl : (k : Int) < (l.length : Int) := by omega
      obtain ⟨x, hx⟩ : ∃ x, l[k]? = some x := ⟨_, List.getElem?_eq_getElem hlt⟩
      have H2 := H1.out.grow hb
      obtain ⟨q, cap', e1, _, cq, cq2⟩ := H2.at hx
      obtain ⟨rfl, rfl⟩ : A = some ⟨q, 0, none⟩ ∧ cap = cap' := by rw [hv'.out] at e1; simpa using e1
      have hrow := H2.rows x (List.mem_of_getElem? hx)
      have hts := Lib.hid (show tsum f (nums l (k + 1)) = tsum f (nums l k) + cnt (f x.p) per from by rw [take_step hx, tsum_snoc, hk'.out.cnt])
      obtain ⟨T, hT⟩ : ∃ T, T = tsum f (nums l k) := ⟨_, rfl⟩
      rw [← hT] at hle hts ⊢
      have hcc := cnt_le (f x.p) per
      have hk16 := hk'.out.2.1
      have hF := Lib.hid ((rfreeP x.p x.h per x.c (f x.p) hk16 (fun s hs => hrow.1.cs s hs) (fun _ => hrow.1.lt) hrow.2.1).mono fun e w' h => (show e = .returned (.int .i64 (cnt (f x.p) per : Nat)) ∧ Below w1.heap.size w1 w' from ⟨h.1, hb.trans (h.2.mono hb.size)⟩))
      obtain ⟨u, hu⟩ : ∃ u, u = cnt (f x.p) per := ⟨_, rfl⟩
      rw [← hu] at hF hts hcc
      have s1 : IntKind.i64.wrap ((T : Int) + (u : Int)) = ((T : Nat) : Int) + (u : Nat) := by rw [IntKind.wrap_i64]; omega
      clear e1 hx H2 hrow hT hu hle hcc hk16
      go_wp2_with fail
      refine hF.out.mono ?_
      rintro e w3 ⟨rfl, hb3⟩
      replace hb3 := Lib.hid hb3
      clear hb hF cq cq2 c2
      go_wp2_with fail
      go_roundw
      case rel => exact ⟨k + 1, by omega, by go_num, by rw [hts.out]; rfl, hb3.out⟩
      case measure => simp [intOf]; omega
    · have hkn : k = l.length := by omega
      have hs := Lib.hid (show tsum f (nums l k) = tot f 1024 from by rw [hkn]; exact htot.out)
      have hB2 := Lib.hid (hB.out.trans (hb.mono hB.out.size))
      have jl : ¬ (k : Int) < (l.length : Int) := by omega
      clear hkn hlt hb
      go_wp2_with fail
      go_ret
      exact ⟨by rw [← hs.out]; rfl, hB2.out⟩
set_option maxHeartbeats 2000000 in
theorem rNumbers (H : RefAt w b v per g f l) : Calls Tryd.prog 25 #[.agg #[.int .i64 per, v]] w (ListPost w (setL g 1024)) := by
  obtain ⟨i0, hi, hz0, hz1, hz2⟩ := info_parts infoInt
  obtain ⟨A, cap, hv, hcap, hmx, hA1, hA2⟩ := H.form
  have hll : l.length ≤ 1024 := by rw [H.len]; exact cnt_le g 1024
  have hl2 : (l.length : Int) ≤ 1024 := by omega
  have hall := Lib.hid (nums_all H)
  obtain ⟨w1, hw1⟩ : ∃ w1, w1 = w.alloc (.cells #[.int .i64 per, .slice A l.length cap] 27) := ⟨_, rfl⟩
  have hb1 : Below w.heap.size w w1 := by rw [hw1]; exact (Below.refl _ _).alloc (Nat.le_refl _) _
  have c1 : w1.cell? ⟨w.heap.size, 1, none⟩ = some (.slice A l.length cap) := by rw [hw1]; simp
  have hsz : w.heap.size < w1.heap.size := by rw [hw1]; simp
  have H1 := Lib.hid (H.grow hb1)
  have hB := Lib.hid hb1
  rw [hv]
  have hv' := Lib.hid hv
  have c1' := Lib.hid (And.intro c1 hsz)
  obtain ⟨D, hD⟩ : ∃ D, D = ListPost w (setL g 1024) := ⟨_, rfl⟩
  rw [← hD]
  replace hD := Lib.hid hD
  clear H hb1 hv hA1 hA2 hmx
  go_enter Tryd.func25, Tryd.ntmps25
  go_upto_region 1 with (fail)
  rw [← hw1]
  replace hw1 := Lib.hid hw1
  clear c1 hsz
  go_wp2_with fail
  go_loopw [3, 4] (fun t i wr => ∃ k : Nat, k ≤ l.length ∧ i = .int .i64 k ∧ wr.ownsRow w1.heap.size 3 1 t (nums l k).length ((nums l k).map intv) ∧ Below w1.heap.size w1 wr) (fun _ i _ => l.length - (intOf i).toNat)
  case atStart => exact ⟨0, by omega, rfl, World.ownsRow_nil _ _ _ _, Below.refl _ _⟩
  case round =>
    obtain ⟨k, hkl, rfl, ho, hb⟩ := hrel
    have hle := nums_len l k
    have c2 : wr.cell? ⟨w.heap.size, 1, none⟩ = some (.slice A l.length cap) := (hb.cell (p := ⟨w.heap.size, 1, none⟩) c1'.out.2).trans c1'.out.1
    have hk3 : (k : Int) ≤ 1024 := by omega
    by_cases hlt : k < l.length
    · have jl : (k : Int) < (l.length : Int) := by omega
      obtain ⟨x, hx⟩ : ∃ x, l[k]? = some x := ⟨_, List.getElem?_eq_getElem hlt⟩
      have H2 := H1.out.grow hb
      obtain ⟨q, cap', e1, _, cq, _⟩ := H2.at hx
      obtain ⟨rfl, rfl⟩ : A = some ⟨q, 0, none⟩ ∧ cap = cap' := by rw [hv'.out] at e1; simpa using e1
      have hts := Lib.hid (take_step hx)
      have hO := Lib.hid ho
      have hb' := Lib.hid hb
      clear e1 hx H2 ho hb
      go_wp2_with (at_builtin; refine wpList_append_more rfl _ _ 45 rfl w1.heap.size 3 i0 (.int .i64 0) 1 8 Tryd.underlying45 hi hz0 hz1 hz2 rfl (by decide) _ _ _ rfl (hO.out.alloc _) (some ⟨wr.heap.size, 0, none⟩) 1 1 [.int .i64 (x.p : Int)] rfl rfl (fun _ => ⟨_, rfl, cell_one_new _ _ _⟩) (by simp [Value.oneCell']) (by unfold maxLen; omega) (by omega) (by have := hb'.out.size; simp; omega) ?_; intro v' w7 hown' hgrow)
      have hO1 := Lib.hid (show w7.ownsRow w1.heap.size 3 1 v' (nums l (k + 1)).length ((nums l (k + 1)).map intv) from by
        rw [hts.out, List.map_append, List.length_append]; exact hown')
      have hB1 := Lib.hid ((hb'.out.alloc hb'.out.size (.cells #[.int .i64 (x.p : Int)] 3)).trans hgrow)
      clear hown' hgrow
      go_wp2
      go_roundw
      case rel => exact ⟨k + 1, by omega, by go_num, hO1.out, hB1.out⟩
      case measure => simp [intOf]; omega
    · have hkn : k = l.length := by omega
      have hO := Lib.hid ho
      have hB2 := Lib.hid (hB.out.trans (hb.mono hB.out.size))
      have jl : ¬ (k : Int) < (l.length : Int) := by omega
      have hkn' := Lib.hid hkn
      clear hkn hlt hb ho
      go_wp2
      rw [hD.out]
      have o := hO.out
      rw [hkn'.out, hall.out] at o
      refine ⟨_, rfl, ⟨o.1, ?_⟩, hB2.out⟩
      rcases o.2 with hn | ⟨q, cap, cur, e, h1, h2⟩
      · exact .inl hn
      · exact .inr ⟨q, cap, cur, e, by have := hB.out.size; omega, h2⟩
set_option maxHeartbeats 2000000 in
theorem rsame {L : List Nat} {A1 A2 : Option Addr} {k1 k2 : Nat} (hL : L.length ≤ 1024) (h1 : LstAt w b A1 L) (h2 : LstAt w b A2 L) :
    Calls Tryd.prog 24 #[.slice A1 L.length k1, .slice A2 L.length k2] w fun e w' => e = .returned (.bool true) ∧ Below w.heap.size w w' := by
  obtain ⟨n, hn⟩ : ∃ n, n = L.length := ⟨_, rfl⟩
  have hc := Lib.hid (show ∀ i, i < n → ∃ q1 q2 p, A1 = some ⟨q1, 0, none⟩ ∧ A2 = some ⟨q2, 0, none⟩ ∧ w.cell? ⟨q1, i, none⟩ = some (.int .i64 (p : Int)) ∧ w.cell? ⟨q2, i, none⟩ = some (.int .i64 (p : Int)) from fun i hi => by
    obtain ⟨p, hp⟩ : ∃ p, L[i]? = some p := ⟨_, List.getElem?_eq_getElem (by omega)⟩
    obtain ⟨q1, e1, _, _, c1⟩ := h1.c i p hp
    obtain ⟨q2, e2, _, _, c2⟩ := h2.c i p hp
    exact ⟨q1, q2, (p : Nat), e1, e2, c1, c2⟩)
  have hn1 : (n : Int) ≤ 1024 := by omega
  rw [← hn]
  clear h1 h2 hn hL
  go_enter Tryd.func24, Tryd.ntmps24
  go_wp2_with fail
  go_loopw [5] (fun i wr => ∃ k : Nat, k ≤ n ∧ i = .int .i64 k ∧ ∃ d, wr = w.drewN d) (fun i _ => n - (intOf i).toNat)
  case atStart => exact ⟨0, by omega, rfl, 0, rfl⟩
  case round =>
    obtain ⟨k, hk, rfl, d, rfl⟩ := hrel
    have hk3 : (k : Int) ≤ 1024 := by omega
    by_cases hlt : k < n
    · have jl : (k : Int) < (n : Int) := by omega
      obtain ⟨q1, q2, p, rfl, rfl, c1, c2⟩ := hc.out k hlt
      have d1 : (w.drewN d).cell? ⟨q1, k, none⟩ = some (.int .i64 (p : Int)) := c1
      have d2 : (w.drewN d).cell? ⟨q2, k, none⟩ = some (.int .i64 (p : Int)) := c2
      go_wp2_with fail
      go_quiet (fail)
      go_wp2_with fail
      go_roundw
      case rel => exact ⟨k + 1, by omega, by go_num, _, rfl⟩
      case measure => simp [intOf]; omega
    · have hkn : k = n := by omega
      have jl : ¬ (k : Int) < (n : Int) := by omega
      clear hkn hlt
      go_wp2_with fail
      go_ret
      exact ⟨rfl, below_drewN (Below.refl _ _) _⟩
end
end Go.Proofs.YtkkjjdnlfdempaaDoor
