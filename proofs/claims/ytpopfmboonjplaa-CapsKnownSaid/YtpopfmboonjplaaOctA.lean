/- Contracts of layer octet's leaves: isWidth, cut, number, lay. -/
import Derived.Test.YtpopfmboonjplaaChecked
import Derived.Test.YtpopfmboonjplaaOctM
import Derived.WalkSpells
import Derived.WalkLawsBesides
import Derived.Deep.QuietTactic
import Derived.BigQuiet
import Derived.Handy
namespace Go.Proofs.Ytpopfmboonjplaa
open Go.RowKit
set_option linter.unusedVariables false

theorem isWidth_any (n : Int) (w : World) : Calls Try.prog 65 #[.int .i64 n] w fun e w' => e = .returned (.bool (isW n)) ∧ w = w' := by
  by_cases h1 : n = 1
  · subst h1
    go_enter Try.func65, Try.ntmps65
    go_wp2
    go_ret
    exact ⟨rfl, rfl⟩
  · by_cases h2 : n = 2
    · subst h2
      go_enter Try.func65, Try.ntmps65
      go_wp2
      go_ret
      exact ⟨rfl, rfl⟩
    · have b1 : (n == 1) = false := by simpa using h1
      have b2 : (n == 2) = false := by simpa using h2
      go_enter Try.func65, Try.ntmps65
      go_wp2
      go_ret
      exact ⟨by simp [isW, b1, b2], rfl⟩

theorem cut_no (A : Option Addr) (n cap : Nat) (at_ k : Int) (w : World) (hn : n ≤ 1000000000) (ha : at_ < 9223372036854775808) (h : at_ < 0 ∨ k < 0 ∨ k > (n : Int) - at_) :
    Calls Try.prog 84 #[.slice A n cap, .int .i64 at_, .int .i64 k] w fun e w' => e = .returned (.tuple #[.slice none 0 0, .bool false]) ∧ w = w' := by
  by_cases h1 : at_ < 0
  · go_enter Try.func84, Try.ntmps84
    go_wp2
    go_ret2
    exact ⟨rfl, rfl⟩
  · by_cases h2 : k < 0
    · go_enter Try.func84, Try.ntmps84
      go_wp2
      go_ret2
      exact ⟨rfl, rfl⟩
    · have h3 : (n : Int) - at_ < k := by omega
      go_enter Try.func84, Try.ntmps84
      go_wp2
      go_ret2
      exact ⟨rfl, rfl⟩
theorem cut_yes (b off : Nat) (n cap : Nat) (at_ k : Nat) (w : World) (hn : n ≤ 1000000000) (hcap : n ≤ cap) (h : at_ + k ≤ n) (hk : 0 < k) :
    Calls Try.prog 84 #[.slice (some ⟨b, off, none⟩) n cap, .int .i64 at_, .int .i64 k] w fun e w' => e = .returned (.tuple #[.slice (some ⟨b, off + at_, none⟩) k k, .bool true]) ∧ w = w' := by
  have hs : at_ + k - at_ = k := by omega
  go_enter Try.func84, Try.ntmps84
  go_wp2
  go_ret2
  exact ⟨by simp [hs], rfl⟩
theorem cut_zero (A : Option Addr) (n cap : Nat) (w : World) (hn : n ≤ 1000000000) (hcap : n ≤ cap) :
    Calls Try.prog 84 #[.slice A n cap, .int .i64 0, .int .i64 0] w fun e w' => e = .returned (.tuple #[.slice A 0 0, .bool true]) ∧ w = w' := by
  go_enter Try.func84, Try.ntmps84
  go_wp2
  go_ret2
  exact ⟨rfl, rfl⟩

theorem lay_4 (b off cap : Nat) (v : Nat) (x0 x1 x2 x3 : Value) (w : World) (hv : v < 4294967296)
   (h0 : w.cell? ⟨b, off, none⟩ = some x0) (h1 : w.cell? ⟨b, off + 1, none⟩ = some x1) (h2 : w.cell? ⟨b, off + 2, none⟩ = some x2) (h3 : w.cell? ⟨b, off + 3, none⟩ = some x3)
   (f0 : w.frozen? ⟨b, off, none⟩ = false) (f1 : w.frozen? ⟨b, off + 1, none⟩ = false) (f2 : w.frozen? ⟨b, off + 2, none⟩ = false) (f3 : w.frozen? ⟨b, off + 3, none⟩ = false) :
    Calls Try.prog 75 #[.slice (some ⟨b, off, none⟩) 4 cap, .int .u32 v] w fun e w' => e = .returned (.tuple #[]) ∧ layW w b off (leB 4 v) = w' := by
  go_enter Try.func75, Try.ntmps75
  go_wp2
  go_end0
  refine ⟨rfl, ?_⟩
  simp only [layW, leB, UInt8.toNat_ofNat', Nat.add_assoc]
  have e1 : ((v / 256 / 256 / 256 % 2 ^ 8 : Nat) : Int) = (v : Int) / 16777216 := by omega
  have e2 : ((v / 256 / 256 % 2 ^ 8 : Nat) : Int) = (v : Int) / 65536 % 256 := by omega
  have e3 : ((v / 256 % 2 ^ 8 : Nat) : Int) = (v : Int) / 256 % 256 := by omega
  have e4 : ((v % 2 ^ 8 : Nat) : Int) = (v : Int) % 256 := by omega
  rw [e1, e2, e3, e4]
theorem lay_2 (b off cap : Nat) (v : Nat) (x0 x1 : Value) (w : World) (hv : v < 4294967296)
   (h0 : w.cell? ⟨b, off, none⟩ = some x0) (h1 : w.cell? ⟨b, off + 1, none⟩ = some x1)
   (f0 : w.frozen? ⟨b, off, none⟩ = false) (f1 : w.frozen? ⟨b, off + 1, none⟩ = false) :
    Calls Try.prog 75 #[.slice (some ⟨b, off, none⟩) 2 cap, .int .u32 v] w fun e w' => e = .returned (.tuple #[]) ∧ layW w b off (leB 2 v) = w' := by
  go_enter Try.func75, Try.ntmps75
  go_wp2
  go_end0
  refine ⟨rfl, ?_⟩
  simp only [layW, leB, UInt8.toNat_ofNat']
  have e3 : ((v / 256 % 2 ^ 8 : Nat) : Int) = (v : Int) / 256 % 256 := by omega
  have e4 : ((v % 2 ^ 8 : Nat) : Int) = (v : Int) % 256 := by omega
  rw [e3, e4]
theorem lay_1 (b off cap : Nat) (v : Nat) (x0 : Value) (w : World) (hv : v < 4294967296)
   (h0 : w.cell? ⟨b, off, none⟩ = some x0)
   (f0 : w.frozen? ⟨b, off, none⟩ = false) :
    Calls Try.prog 75 #[.slice (some ⟨b, off, none⟩) 1 cap, .int .u32 v] w fun e w' => e = .returned (.tuple #[]) ∧ layW w b off (leB 1 v) = w' := by
  go_enter Try.func75, Try.ntmps75
  go_wp2
  go_end0
  refine ⟨rfl, ?_⟩
  simp only [layW, leB, UInt8.toNat_ofNat']
  have e4 : ((v % 2 ^ 8 : Nat) : Int) = (v : Int) % 256 := by omega
  rw [e4]
theorem lay_0 (A : Option Addr) (cap : Nat) (v : Nat) (w : World) :
    Calls Try.prog 75 #[.slice A 0 cap, .int .u32 v] w fun e w' => e = .returned (.tuple #[]) ∧ w = w' := by
  go_enter Try.func75, Try.ntmps75
  go_wp2
  go_end0
  exact ⟨rfl, rfl⟩
theorem lay_any (b off cap k : Nat) (v : Nat) (w : World) (hk : isW k = true) (hv : v < 4294967296) (hc : ∀ j, j < k → ∃ x, w.cell? ⟨b, off + j, none⟩ = some x) (hf : ∀ j, j < k → w.frozen? ⟨b, off + j, none⟩ = false) :
    Calls Try.prog 75 #[.slice (some ⟨b, off, none⟩) k cap, .int .u32 v] w fun e w' => e = .returned (.tuple #[]) ∧ layW w b off (leB k v) = w' := by
  have : k = 1 ∨ k = 2 ∨ k = 4 := by have := isW_cases hk; omega
  rcases this with rfl | rfl | rfl
  · obtain ⟨x0, h0⟩ := hc 0 (by omega)
    exact lay_1 b off cap v x0 w hv h0 (hf 0 (by omega))
  · obtain ⟨x0, h0⟩ := hc 0 (by omega)
    obtain ⟨x1, h1⟩ := hc 1 (by omega)
    exact lay_2 b off cap v x0 x1 w hv h0 h1 (hf 0 (by omega)) (hf 1 (by omega))
  · obtain ⟨x0, h0⟩ := hc 0 (by omega)
    obtain ⟨x1, h1⟩ := hc 1 (by omega)
    obtain ⟨x2, h2⟩ := hc 2 (by omega)
    obtain ⟨x3, h3⟩ := hc 3 (by omega)
    exact lay_4 b off cap v x0 x1 x2 x3 w hv h0 h1 h2 h3 (hf 0 (by omega)) (hf 1 (by omega)) (hf 2 (by omega)) (hf 3 (by omega))


theorem number_4 (b off cap : Nat) (x0 x1 x2 x3 : UInt8) (w : World)
   (h0 : w.cell? ⟨b, off, none⟩ = some (.int .u8 (x0.toNat : Int))) (h1 : w.cell? ⟨b, off + 1, none⟩ = some (.int .u8 (x1.toNat : Int))) (h2 : w.cell? ⟨b, off + 2, none⟩ = some (.int .u8 (x2.toNat : Int))) (h3 : w.cell? ⟨b, off + 3, none⟩ = some (.int .u8 (x3.toNat : Int))) :
    Calls Try.prog 67 #[.slice (some ⟨b, off, none⟩) 4 cap] w fun e w' => e = .returned (.int .u32 (le [x0, x1, x2, x3] : Nat)) ∧ ∃ n, w' = w.drewN n := by
  have b0 := x0.toNat_lt
  have b1 := x1.toNat_lt
  have b2 := x2.toNat_lt
  have b3 := x3.toNat_lt
  go_enter Try.func67, Try.ntmps67
  go_wp2
  go_quiet (fail)
  go_wp2
  go_ret
  exact ⟨ret_int (or4 _ _ _ _ b0 b1 b2 b3), _, rfl⟩
theorem number_2 (b off cap : Nat) (x0 x1 : UInt8) (w : World)
   (h0 : w.cell? ⟨b, off, none⟩ = some (.int .u8 (x0.toNat : Int))) (h1 : w.cell? ⟨b, off + 1, none⟩ = some (.int .u8 (x1.toNat : Int))) :
    Calls Try.prog 67 #[.slice (some ⟨b, off, none⟩) 2 cap] w fun e w' => e = .returned (.int .u32 (le [x0, x1] : Nat)) ∧ ∃ n, w' = w.drewN n := by
  have b0 := x0.toNat_lt
  have b1 := x1.toNat_lt
  go_enter Try.func67, Try.ntmps67
  go_wp2
  go_ret
  exact ⟨ret_int (or2 _ _ b0 b1), 0, rfl⟩
theorem number_1 (b off cap : Nat) (x0 : UInt8) (w : World)
   (h0 : w.cell? ⟨b, off, none⟩ = some (.int .u8 (x0.toNat : Int))) :
    Calls Try.prog 67 #[.slice (some ⟨b, off, none⟩) 1 cap] w fun e w' => e = .returned (.int .u32 (le [x0] : Nat)) ∧ ∃ n, w' = w.drewN n := by
  have b0 := x0.toNat_lt
  go_enter Try.func67, Try.ntmps67
  go_wp2
  go_ret
  exact ⟨ret_int (or1 _ b0), 0, rfl⟩
theorem number_0 (A : Option Addr) (n cap : Nat) (w : World) (h : n ≠ 1 ∧ n ≠ 2 ∧ n ≠ 4) :
    Calls Try.prog 67 #[.slice A n cap] w fun e w' => e = .returned (.int .u32 0) ∧ ∃ n, w' = w.drewN n := by
  have h1 : ((n : Int) == 1) = false := by simp; omega
  have h2 : ((n : Int) == 2) = false := by simp; omega
  have h4 : ((n : Int) == 4) = false := by simp; omega
  go_enter Try.func67, Try.ntmps67
  go_wp2
  go_ret
  exact ⟨rfl, 0, rfl⟩

theorem number_any (A : Option Addr) (l : List UInt8) (B cap : Nat) (w : World) (h : RB w B A l) :
    Calls Try.prog 67 #[.slice A l.length cap] w fun e w' => e = .returned (.int .u32 (numOf l : Nat)) ∧ ∃ n, w' = w.drewN n := by
  by_cases hk : l.length = 1 ∨ l.length = 2 ∨ l.length = 4
  · obtain ⟨b, off, rfl, _, hc⟩ := h (by omega)
    have e : numOf l = le l := by unfold numOf; rw [if_pos hk]
    rw [e]
    match l, hk with
    | [x0], _ => exact number_1 b off cap x0 w (hc 0 _ rfl)
    | [x0, x1], _ => exact number_2 b off cap x0 x1 w (hc 0 _ rfl) (hc 1 _ rfl)
    | [x0, x1, x2, x3], _ => exact number_4 b off cap x0 x1 x2 x3 w (hc 0 _ rfl) (hc 1 _ rfl) (hc 2 _ rfl) (hc 3 _ rfl)
    | [], hk => simp at hk
    | [_, _, _], hk => simp at hk
    | _ :: _ :: _ :: _ :: _ :: _, hk => simp at hk
  · have e : numOf l = 0 := by unfold numOf; rw [if_neg hk]
    rw [e]
    exact number_0 A l.length cap w (by omega)
end Go.Proofs.Ytpopfmboonjplaa
