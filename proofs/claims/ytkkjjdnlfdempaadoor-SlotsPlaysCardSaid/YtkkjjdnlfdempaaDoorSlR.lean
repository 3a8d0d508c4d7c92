/- The document's answers for layer slots: find, all, free, Free, Numbers, Same. No statement is proved here. -/
import Derived.Test.YtkkjjdnlfdempaaDoorSlQ
import Derived.Deep.LoopGhost
namespace Go.Proofs.YtkkjjdnlfdempaaDoor
set_option maxRecDepth 100000
open Go.RowKit Go.Shelf
set_option linter.unusedVariables false
/-- Where a page stands, or would. -/
def clp (p : Int) : Nat := min p.toNat 1024
def rk (g : Nat → Bool) (p : Int) : Nat := cnt g (clp p)
def isP (g : Nat → Bool) (p : Int) : Bool := inP p && g p.toNat
theorem clp_lt {p : Int} {x : Nat} (hx : x < 1024) : (x : Int) < p ↔ x < clp p := by unfold clp; omega
theorem clp_in {p : Nat} (hp : p < 1024) : clp (p : Int) = p := by unfold clp; omega
theorem isP_at {g : Nat → Bool} {p : Int} (h : isP g p = true) : ∃ k : Nat, p = (k : Int) ∧ k < 1024 ∧ g k = true := by
  unfold isP at h
  rcases inP_cases p with ⟨e, _⟩ | ⟨k, rfl, hk, e⟩
  · rw [e] at h; cases h
  · rw [e] at h; exact ⟨k, rfl, hk, by simpa using h⟩
section
variable {W w w' : World} {b per : Nat} {g : Nat → Bool} {f : Nat → Nat → Bool} {v : Value} {l : List Pg}
theorem find_hit (H : RefAt w b v per g f l) {i : Nat} {x : Pg} (hi : l[i]? = some x) {p : Int} (hp : p ≤ (x.p : Int)) (hk : i ≤ rk g p) : i = rk g p ∧ decide ((x.p : Int) = p) = isP g p := by
  obtain ⟨h1, h2, h3⟩ := H.page hi
  have e : i = rk g p := by
    have : rk g p ≤ cnt g x.p := cnt_mono g (by unfold clp; omega)
    omega
  refine ⟨e, ?_⟩
  by_cases hx : (x.p : Int) = p
  · subst hx
    unfold isP inP
    rw [decide_eq_true rfl, Int.toNat_natCast, h1, decide_eq_true (Int.natCast_nonneg x.p), decide_eq_true (show (x.p : Int) < 1024 by omega)]
    rfl
  · rw [decide_eq_false hx]
    rcases hv : isP g p with _ | _
    · rfl
    · obtain ⟨k, rfl, hk1, hk2⟩ := isP_at hv
      have hlt : k < x.p := by omega
      have := cnt_step hk2 hlt
      unfold rk at e
      rw [clp_in hk1] at e
      omega
theorem find_miss (H : RefAt w b v per g f l) {i : Nat} {x : Pg} (hi : l[i]? = some x) {p : Int} (hp : ¬ p ≤ (x.p : Int)) : i + 1 ≤ rk g p := by
  obtain ⟨h1, h2, h3⟩ := H.page hi
  have := cnt_step h1 ((clp_lt h2).1 (by omega : (x.p : Int) < p))
  unfold rk
  omega
theorem find_end (H : RefAt w b v per g f l) {p : Int} (hk : l.length ≤ rk g p) : l.length = rk g p ∧ isP g p = false := by
  have h1 : rk g p ≤ cnt g 1024 := cnt_mono g (by unfold clp; omega)
  rw [H.len] at hk ⊢
  refine ⟨by omega, ?_⟩
  rcases hv : isP g p with _ | _
  · rfl
  · obtain ⟨k, rfl, hk1, hk2⟩ := isP_at hv
    have := cnt_step hk2 hk1
    unfold rk at hk
    rw [clp_in hk1] at hk
    omega
set_option maxHeartbeats 2000000 in
theorem rfind (H : RefAt w b v per g f l) (p : Int) : Calls Tryd.prog 29 #[.agg #[.int .i64 per, v], .int .i64 p] w fun e w' => e = .returned (.tuple #[.int .i64 (rk g p), .bool (isP g p)]) ∧ Below w.heap.size w w' := by
  obtain ⟨A, cap, hv, hcap, hmx, hA1, hA2⟩ := H.form
  have hll : l.length ≤ 1024 := by rw [H.len]; exact cnt_le g 1024
  have hl2 : (l.length : Int) ≤ 1024 := by omega
  obtain ⟨w1, hw1⟩ : ∃ w1, w1 = w.alloc (.cells #[.int .i64 per, .slice A l.length cap] 27) := ⟨_, rfl⟩
  have hb1 : Below w.heap.size w w1 := by rw [hw1]; exact (Below.refl _ _).alloc (Nat.le_refl _) _
  have c1 : w1.cell? ⟨w.heap.size, 1, none⟩ = some (.slice A l.length cap) := by rw [hw1]; simp
  have H1 := Lib.hid (H.grow hb1)
  have hB := Lib.hid hb1
  rw [hv]
  have hv' := Lib.hid hv
  obtain ⟨R, hR⟩ : ∃ R, R = rk g p := ⟨_, rfl⟩
  obtain ⟨I, hI⟩ : ∃ I, I = isP g p := ⟨_, rfl⟩
  have hR' := Lib.hid hR
  have hI' := Lib.hid hI
  rw [← hR, ← hI]
  clear H hb1 hv hR hI hA1 hA2 hmx
  go_enter Tryd.func29, Tryd.ntmps29
  go_upto_region 1 with (fail)
  rw [← hw1]
  replace hw1 := Lib.hid hw1
  go_wp2_with fail
  go_loop [6] (fun i => ∃ k : Nat, k ≤ l.length ∧ i = .int .i64 k ∧ k ≤ R) (fun i => l.length - (intOf i).toNat)
  case atStart => exact ⟨0, by omega, rfl, by omega⟩
  case round =>
    obtain ⟨k, hk, rfl, hkR⟩ := hrel
    by_cases hlt : k < l.length
    · have jl : (k : Int) < (l.length : Int) := by omega
      obtain ⟨x, hx⟩ : ∃ x, l[k]? = some x := ⟨_, List.getElem?_eq_getElem hlt⟩
      obtain ⟨q, cap', e1, _, cq, _⟩ := H1.out.at hx
      obtain ⟨rfl, rfl⟩ : A = some ⟨q, 0, none⟩ ∧ cap = cap' := by rw [hv'.out] at e1; simpa using e1
      by_cases hp : p ≤ (x.p : Int)
      · obtain ⟨e3, e4⟩ := find_hit H1.out hx (p := p) hp (by rw [← hR'.out]; exact hkR)
        rw [← hI'.out] at e4
        rw [← hR'.out] at e3
        have e5 := Lib.hid e3
        have e6 := Lib.hid e4
        clear e3 e4 e1 hx
        go_wp2_with fail
        go_quiet (fail)
        go_wp2_with fail
        go_ret2
        refine ⟨?_, below_drewN hB.out _⟩
        show Ending.returned (.tuple #[.int .i64 (k : Int), .bool ((x.p : Int) == p)]) = _
        rw [← e6.out, e5.out]
        rfl
      · have e3 := find_miss H1.out hx (p := p) hp
        rw [← hR'.out] at e3
        clear e1 hx
        go_wp2_with fail
        go_round
        case rel => exact ⟨k + 1, by omega, by go_num, e3⟩
        case measure => simp [intOf]; omega
    · obtain ⟨e3, e4⟩ := find_end H1.out (p := p) (by rw [← hR'.out]; omega)
      have e5 := Lib.hid e3
      have e6 := Lib.hid e4
      have hkl : k = l.length := by omega
      rw [hkl]
      have jl : ¬ (l.length : Int) < (l.length : Int) := by omega
      clear hkl hlt hk hkR e3 e4
      go_wp2_with fail
      go_ret2
      refine ⟨?_, hB.out⟩
      show Ending.returned (.tuple #[.int .i64 (l.length : Int), .bool false]) = _
      rw [hR'.out, hI'.out, ← e5.out, e6.out]
/-- A call has handed back a list of truths, in a row of its own. -/
def TruPost (w : World) (n : Nat) (h : Nat → Bool) (e : Ending) (w' : World) : Prop :=
  ∃ q c, e = .returned (.slice (some ⟨q, 0, none⟩) n c) ∧ w'.ownsRow w.heap.size 4 1 (.slice (some ⟨q, 0, none⟩) n c) n ((List.range n).map fun s => .bool (h s)) ∧ Below w.heap.size w w'
set_option maxHeartbeats 1000000 in
theorem rall (n : Nat) (hn : 1 ≤ n ∧ n ≤ 16) (w : World) : Calls Tryd.prog 30 #[.int .i64 n] w (TruPost w n (fun _ => true)) := by
  obtain ⟨i0, hi, hz0, hz1, hz2⟩ := info_parts infoBool
  have hn2 : (n : Int) ≤ 16 := by omega
  obtain ⟨D, hD⟩ : ∃ D, D = TruPost w n (fun _ => true) := ⟨_, rfl⟩
  rw [← hD]
  replace hD := Lib.hid hD
  go_enter Tryd.func30, Tryd.ntmps30
  go_wp2_with fail
  go_loopw [3, 4] (fun b i wr => ∃ k : Nat, k ≤ n ∧ i = .int .i64 k ∧ wr.ownsRow w.heap.size 4 1 b k ((List.range k).map fun _ => .bool true) ∧ Below w.heap.size w wr) (fun _ i _ => n - (intOf i).toNat)
  case atStart => exact ⟨0, by omega, rfl, World.ownsRow_nil _ _ _ _, Below.refl _ _⟩
  case round =>
    obtain ⟨k, hk, rfl, ho, hb⟩ := hrel
    have hk3 : (k : Int) ≤ 16 := by omega
    by_cases hlt : k < n
    · have hlt' : (k : Int) < (n : Int) := by omega
      have hB := Lib.hid hb
      have hO := Lib.hid ho
      clear hb ho
      go_wp2_with (at_builtin; refine wpList_append_more rfl _ _ 68 rfl w.heap.size 4 i0 (.bool false) 1 1 Tryd.underlying68 hi hz0 hz1 hz2 rfl (by decide) _ _ _ rfl (hO.out.alloc _) (some ⟨wr.heap.size, 0, none⟩) 1 1 [.bool true] rfl rfl (fun _ => ⟨_, rfl, cell_one_new _ _ _⟩) (by simp [Value.oneCell']) (by unfold maxLen; omega) (by omega) (by have := hB.out.size; simp; omega) ?_; intro v' w7 hown' hgrow)
      have hO1 := Lib.hid (show w7.ownsRow w.heap.size 4 1 v' (k + 1) ((List.range (k + 1)).map fun _ => .bool true) from by
        rw [List.range_succ, List.map_append]; exact hown')
      have hB1 := Lib.hid ((hB.out.alloc hB.out.size (.cells #[.bool true] 4)).trans hgrow)
      clear hown' hgrow
      go_wp2
      go_roundw
      case rel => exact ⟨k + 1, by omega, by go_num, hO1.out, hB1.out⟩
      case measure => simp [intOf]; omega
    · have hkn : k = n := by omega
      subst hkn
      have hlt' : ¬ (k : Int) < (k : Int) := by omega
      rcases ho.2 with ⟨_, e0⟩ | ⟨q, cap, cur, e0, _⟩
      · omega
      · subst e0
        have hB := Lib.hid hb
        have hO := Lib.hid ho
        clear hb ho
        go_wp2
        rw [hD.out]
        exact ⟨q, cap, rfl, hO.out, hB.out⟩
set_option maxHeartbeats 1000000 in
/-- How many of a page's slots are free. -/
theorem rfreeP (p h n c : Nat) (F : Nat → Bool) (hn : n ≤ 16) (hR : ∀ s, s < n → w.cell? ⟨h, s, none⟩ = some (.bool (F s))) (hl : 0 < n → h < w.heap.size) (hcap : n ≤ c) :
    Calls Tryd.prog 38 #[.agg #[.int .i64 p, .slice (some ⟨h, 0, none⟩) n c]] w fun e w' => e = .returned (.int .i64 (cnt F n : Nat)) ∧ Below w.heap.size w w' := by
  have hn2 : (n : Int) ≤ 16 := by omega
  obtain ⟨w1, hw1⟩ : ∃ w1, w1 = w.alloc (.cells #[.int .i64 p, .slice (some ⟨h, 0, none⟩) n c] 71) := ⟨_, rfl⟩
  have hb1 : Below w.heap.size w w1 := by rw [hw1]; exact (Below.refl _ _).alloc (Nat.le_refl _) _
  have c1 : w1.cell? ⟨w.heap.size, 1, none⟩ = some (.slice (some ⟨h, 0, none⟩) n c) := by rw [hw1]; simp
  have hR1 := Lib.hid (show ∀ s, s < n → w1.cell? ⟨h, s, none⟩ = some (.bool (F s)) from fun s hs => (hb1.cell (p := ⟨h, s, none⟩) (hl (by omega))).trans (hR s hs))
  have hB := Lib.hid hb1
  clear hR hb1 hl
  go_enter Tryd.func38, Tryd.ntmps38
  go_upto_region 1 with (fail)
  rw [← hw1]
  replace hw1 := Lib.hid hw1
  go_wp2_with fail
  go_loop [3, 4] (fun t i => ∃ k : Nat, k ≤ n ∧ i = .int .i64 k ∧ t = .int .i64 (cnt F k : Nat)) (fun _ i => n - (intOf i).toNat)
  case atStart => exact ⟨0, by omega, rfl, rfl⟩
  case round =>
    obtain ⟨k, hk, rfl, rfl⟩ := hrel
    have hc := cnt_le F k
    have hc2 : (cnt F k : Int) ≤ 16 := by omega
    have hk3 : (k : Int) ≤ 16 := by omega
    by_cases hlt : k < n
    · have hlt' : (k : Int) < (n : Int) := by omega
      have q := hR1.out k hlt
      have hs := Lib.hid (show cnt F (k + 1) = cnt F k + (F k).toNat from rfl)
      rcases hv : F k with _ | _
      · rw [hv] at q hs
        go_wp2_with fail
        go_round
        case rel => exact ⟨k + 1, by omega, by go_num, by rw [hs.out]; rfl⟩
        case measure => simp [intOf]; omega
      · rw [hv] at q hs
        go_wp2_with fail
        go_round
        case rel => exact ⟨k + 1, by omega, by go_num, by rw [hs.out]; go_num⟩
        case measure => simp [intOf]; omega
    · have hkn : k = n := by omega
      have hs := Lib.hid (show cnt F k = cnt F n from by rw [hkn])
      have hlt' : ¬ (k : Int) < (n : Int) := by omega
      clear hkn hlt
      go_wp2_with fail
      go_ret
      exact ⟨by rw [← hs.out]; rfl, hB.out⟩
end
end Go.Proofs.YtkkjjdnlfdempaaDoor
