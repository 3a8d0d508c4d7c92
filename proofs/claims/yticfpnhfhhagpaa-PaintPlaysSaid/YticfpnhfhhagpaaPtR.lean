/- The document's side of layer paint: granules, change, Add, Remove, Has, Count, New. No statement is proved here. -/
import Derived.Test.YticfpnhfhhagpaaPtS
import Derived.Laws.AppendOwn
import Derived.Deep.AppendLies
import Derived.Deep.Onto
namespace Go.Proofs.Yticfpnhfhhagpaa
set_option maxRecDepth 100000
open Go.RowKit Go.Shelf
set_option linter.unusedVariables false
/-- A row of n bools, from block base on. -/
def DP (w : World) (base : Nat) (v : Value) (n : Nat) (f : Nat → Bool) : Prop :=
  ∃ A cap, v = .slice A n cap ∧ n ≤ cap ∧ cap ≤ maxLen ∧ (0 < n → ∃ g, A = some ⟨g, 0, none⟩ ∧ base ≤ g ∧ g < w.heap.size ∧ BA w g n f)
section
variable {w w' : World} {base n : Nat} {v : Value} {f : Nat → Bool}
theorem DP.keep (H : DP w base v n f) (k : ∀ g, base ≤ g → g < w.heap.size → w'.heap[g]? = w.heap[g]?) (hs : w.heap.size ≤ w'.heap.size) : DP w' base v n f := by
  obtain ⟨A, cap, h0, h1, h2, h3⟩ := H
  refine ⟨A, cap, h0, h1, h2, fun hn => ?_⟩
  obtain ⟨g, e, hb, hg, hA⟩ := h3 hn
  exact ⟨g, e, hb, Nat.lt_of_lt_of_le hg hs, hA.keep (k g hb hg)⟩
theorem DP.grow (H : DP w base v n f) (k : Below w.heap.size w w') : DP w' base v n f := H.keep (fun g _ hg => k.block g hg) k.size
theorem DP.mono {base' : Nat} (H : DP w base v n f) (h : base' ≤ base) : DP w base' v n f := by
  obtain ⟨A, cap, h0, h1, h2, h3⟩ := H
  refine ⟨A, cap, h0, h1, h2, fun hn => ?_⟩
  obtain ⟨g, e, hb, hg⟩ := h3 hn
  exact ⟨g, e, Nat.le_trans h hb, hg⟩
theorem infoBool : (Try.prog.info? 4).map (fun i => (i.zero, i.size, i.bytes)) = some (some (.bool false), 1, 1) := by kernel_rfl
def bV (f : Nat → Bool) (n : Nat) : List Value := (List.range n).map fun i => .bool (f i)
theorem bV_get (f : Nat → Bool) {n i : Nat} (h : i < n) : (bV f n)[i]? = some (.bool (f i)) := by simp [bV, h]
theorem bV_len (f : Nat → Bool) (n : Nat) : (bV f n).length = n := by simp [bV]
theorem bV_one (f : Nat → Bool) (n : Nat) : ∀ u ∈ bV f n, u.oneCell' = true := by
  intro u hu
  obtain ⟨i, _, rfl⟩ := List.mem_map.1 hu
  rfl
/-- A row that a call owns is such a row. -/
theorem dp_of (h : w.ownsRow base 4 1 v n (bV f n)) : DP w base v n f := by
  rcases h.2 with ⟨rfl, rfl⟩ | ⟨g, cap, cur, rfl, hb, hg, hle, hm, _⟩
  · exact ⟨none, 0, rfl, Nat.le_refl _, by unfold maxLen; omega, fun h => absurd h (by omega)⟩
  · refine ⟨_, cap, rfl, hle, hm, fun _ => ⟨g, rfl, hb, (Array.getElem?_eq_some_iff.1 hg).1, ⟨fun i hi => ?_⟩⟩⟩
    have h1 := h.cells rfl i _ (bV_get f hi)
    rw [show (⟨g, 0, none⟩ : Addr).add i = ⟨g, i, none⟩ by unfold Addr.add; split <;> simp_all] at h1
    refine ⟨h1, ?_⟩
    simp [World.frozen?, hg]
/-- Which granules a region has, if it is one of the paint's. -/
def grB (n a s : Nat) : Bool := wholeB a s && decide (a + s ≤ 16 * n)
set_option maxHeartbeats 4000000 in
theorem rgran (a s cap : Nat) (A : Option Addr) (ha : a < 4294967296) (hs : s < 4294967296) (hn : n ≤ 16384) (w : World) : Calls Try.prog 32 #[.agg #[.slice A n cap], .agg #[.int .u32 a, .int .u32 s]] w fun e w' =>
    e = .returned (.tuple #[.int .i64 ((if grB n a s then a / 16 else 0 : Nat) : Int), .int .i64 ((if grB n a s then (a + s) / 16 else 0 : Nat) : Int), .bool (grB n a s)]) ∧ Below w.heap.size w w' := by
  obtain ⟨w1, hw1⟩ : ∃ w1, w1 = w.alloc (.cells #[.slice A n cap] 28) := ⟨_, rfl⟩
  have b1 : Below w.heap.size w w1 := by rw [hw1]; exact (Below.refl _ _).alloc (Nat.le_refl _) _
  have hb := Lib.hid (b1.alloc b1.size (.cells #[.int .u32 a, .int .u32 s] 33))
  rw [hw1] at hb
  clear hw1 b1
  have hno : ∀ c : Prop, [Decidable c] → ¬ c → c = False := fun c _ h => eq_false h
  by_cases h1 : a % 16 = 0
  · have e1 : (a : Int) % 16 = 0 := by omega
    by_cases h2 : s % 16 = 0
    · have e2 : (s : Int) % 16 = 0 := by omega
      by_cases h3 : 0 < s
      · have e3 : ¬ (s : Int) = 0 := by omega
        by_cases h4 : a + s ≤ 16 * n
        · have hg : grB n a s = true := by unfold grB wholeB; rw [decide_eq_true h4, Bool.and_true]; exact decide_eq_true ⟨h1, h2, h3⟩
          rw [hg]
          obtain ⟨x, hx⟩ : ∃ x, x = a / 16 := ⟨_, rfl⟩
          obtain ⟨y, hy⟩ : ∃ y, y = (a + s) / 16 := ⟨_, rfl⟩
          have ex : (a : Int) / 16 = x := by omega
          have ey : ((a : Int) + s) / 16 = y := by omega
          have e4 : ¬ (n : Int) * 16 < (a : Int) + s := by omega
          have hxb : x < 16384 := by omega
          have hyb : y ≤ 16384 := by omega
          rw [if_pos rfl, if_pos rfl, ← hx, ← hy]
          clear hx hy hg
          go_enter Try.func32, Try.ntmps32
          go_wp2
          exact bodyPost_ret (v := .tuple #[.int .i64 x, .int .i64 y, .bool true]) (by simp [results, Try.results32, go_sem]) rfl ⟨by first | rfl | simp, hb.out⟩
        · have hg : grB n a s = false := by unfold grB; rw [decide_eq_false h4, Bool.and_false]
          rw [hg]
          have e4 : (n : Int) * 16 < (a : Int) + s := by omega
          clear hg
          go_enter Try.func32, Try.ntmps32
          go_wp2
          exact bodyPost_ret (v := .tuple #[.int .i64 0, .int .i64 0, .bool false]) (by simp [results, Try.results32, go_sem]) rfl ⟨by first | rfl | simp, hb.out⟩
      · obtain rfl : s = 0 := by omega
        have hg : grB n a 0 = false := by unfold grB wholeB; rw [decide_eq_false (fun k => h3 k.2.2), Bool.false_and]
        rw [hg]
        clear hg
        go_enter Try.func32, Try.ntmps32
        go_wp2
        exact bodyPost_ret (v := .tuple #[.int .i64 0, .int .i64 0, .bool false]) (by simp [results, Try.results32, go_sem]) rfl ⟨by first | rfl | simp, hb.out⟩
    · have hg : grB n a s = false := by unfold grB wholeB; rw [decide_eq_false (fun k => h2 k.2.1), Bool.false_and]
      rw [hg]
      have e2 : ¬ (s : Int) % 16 = 0 := by omega
      clear hg
      go_enter Try.func32, Try.ntmps32
      go_wp2
      exact bodyPost_ret (v := .tuple #[.int .i64 0, .int .i64 0, .bool false]) (by simp [results, Try.results32, go_sem]) rfl ⟨by first | rfl | simp, hb.out⟩
  · have hg : grB n a s = false := by unfold grB wholeB; rw [decide_eq_false (fun k => h1 k.1), Bool.false_and]
    rw [hg]
    have e1 : ¬ (a : Int) % 16 = 0 := by omega
    clear hg
    go_enter Try.func32, Try.ntmps32
    go_wp2
    exact bodyPost_ret (v := .tuple #[.int .i64 0, .int .i64 0, .bool false]) (by simp [results, Try.results32, go_sem]) rfl ⟨by first | rfl | simp, hb.out⟩
set_option maxHeartbeats 4000000 in
theorem rhas (H : DP w base v n f) (hoff : ∀ k, n ≤ k → f k = false) (hn : n ≤ 16384) (a : Nat) (ha : a < 4294967296) : Calls Try.prog 18 #[.agg #[v], .int .u32 a] w fun e w' => e = .returned (.bool (f (a / 16))) ∧ Below w.heap.size w w' := by
  obtain ⟨A, cap, rfl, h1, h2, h3⟩ := H
  obtain ⟨x, hx⟩ : ∃ x, x = a / 16 := ⟨_, rfl⟩
  have ex : (a : Int) / 16 = x := by omega
  have hxb : x < 268435456 := by omega
  have hb := Lib.hid ((Below.refl w.heap.size w).alloc (Nat.le_refl _) (.cells #[.slice A n cap] 28))
  rw [← hx]
  clear hx
  by_cases h : x < n
  · have h4 : (x : Int) < n := by omega
    obtain ⟨g, rfl, _, hg, hA⟩ := h3 (by omega)
    have c0 := (hA.cs x h).1
    have hc : (w.alloc (.cells #[.slice (some ⟨g, 0, none⟩) n cap] 28)).cell? ⟨g, x, none⟩ = some (.bool (f x)) := (hb.out.cell (p := ⟨g, x, none⟩) hg).trans c0
    obtain ⟨u, hu⟩ : ∃ u, u = f x := ⟨_, rfl⟩
    rw [← hu] at c0 hc ⊢
    clear hu h3 hA
    go_enter Try.func18, Try.ntmps18
    go_wp2
    go_ret
    exact ⟨rfl, hb.out⟩
  · have h4 : ¬ (x : Int) < n := by omega
    rw [hoff x (by omega)]
    clear h3 hoff
    go_enter Try.func18, Try.ntmps18
    go_wp2
    go_ret
    exact ⟨rfl, hb.out⟩
end
end Go.Proofs.Yticfpnhfhhagpaa
