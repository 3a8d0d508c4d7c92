/- Contracts of layer octet's leaves: isWidth, cut, number, lay.; Contracts of octet's Get, Set, Put, and of the document's own.; Contracts of the document own answers for layer octet (fallowref01), and of the law package helper.; Contracts of Set, and of the document's Set.; Contracts of octet's reader. -/
import Derived.Test.YtkmgdfcambdeeaaGreatDoorChecked
import Derived.WalkSpells
import Derived.WalkLawsBesides
import Derived.Deep.QuietTactic
import Derived.BigQuiet
import Derived.Handy
import Derived.Deep.OwnRows
import Derived.Deep.RegionHeld3
import Derived.Deep.RegionWith
import Derived.Laws.EntriesVeiled
import Derived.StillTailTactics
import Derived.Test.YtkmgdfcambdeeaaGreatDoorPaa
namespace Go.Proofs.YtkmgdfcambdeeaaGreatDoor
open Go.RowKit
set_option linter.unusedVariables false

theorem isWidth_any (n : Int) (w : World) : Calls Tryz.prog 125 #[.int .i64 n] w fun e w' => e = .returned (.bool (isW n)) ∧ w = w' := by
  by_cases h1 : n = 1
  · subst h1
    go_enter Tryz.func125, Tryz.ntmps125
    go_wp2
    go_ret
    exact ⟨rfl, rfl⟩
  · by_cases h2 : n = 2
    · subst h2
      go_enter Tryz.func125, Tryz.ntmps125
      go_wp2
      go_ret
      exact ⟨rfl, rfl⟩
    · have b1 : (n == 1) = false := by simpa using h1
      have b2 : (n == 2) = false := by simpa using h2
      go_enter Tryz.func125, Tryz.ntmps125
      go_wp2
      go_ret
      exact ⟨by simp [isW, b1, b2], rfl⟩

theorem cut_no (A : Option Addr) (n cap : Nat) (at_ k : Int) (w : World) (hn : n ≤ 1000000000) (ha : at_ < 9223372036854775808) (h : at_ < 0 ∨ k < 0 ∨ k > (n : Int) - at_) :
    Calls Tryz.prog 203 #[.slice A n cap, .int .i64 at_, .int .i64 k] w fun e w' => e = .returned (.tuple #[.slice none 0 0, .bool false]) ∧ w = w' := by
  by_cases h1 : at_ < 0
  · go_enter Tryz.func203, Tryz.ntmps203
    go_wp2
    go_ret2
    exact ⟨rfl, rfl⟩
  · by_cases h2 : k < 0
    · go_enter Tryz.func203, Tryz.ntmps203
      go_wp2
      go_ret2
      exact ⟨rfl, rfl⟩
    · have h3 : (n : Int) - at_ < k := by omega
      go_enter Tryz.func203, Tryz.ntmps203
      go_wp2
      go_ret2
      exact ⟨rfl, rfl⟩
theorem cut_yes (b off : Nat) (n cap : Nat) (at_ k : Nat) (w : World) (hn : n ≤ 1000000000) (hcap : n ≤ cap) (h : at_ + k ≤ n) (hk : 0 < k) :
    Calls Tryz.prog 203 #[.slice (some ⟨b, off, none⟩) n cap, .int .i64 at_, .int .i64 k] w fun e w' => e = .returned (.tuple #[.slice (some ⟨b, off + at_, none⟩) k k, .bool true]) ∧ w = w' := by
  have hs : at_ + k - at_ = k := by omega
  go_enter Tryz.func203, Tryz.ntmps203
  go_wp2
  go_ret2
  exact ⟨by simp [hs], rfl⟩
theorem cut_zero (A : Option Addr) (n cap : Nat) (w : World) (hn : n ≤ 1000000000) (hcap : n ≤ cap) :
    Calls Tryz.prog 203 #[.slice A n cap, .int .i64 0, .int .i64 0] w fun e w' => e = .returned (.tuple #[.slice A 0 0, .bool true]) ∧ w = w' := by
  go_enter Tryz.func203, Tryz.ntmps203
  go_wp2
  go_ret2
  exact ⟨rfl, rfl⟩

theorem lay_4 (b off cap : Nat) (v : Nat) (x0 x1 x2 x3 : Value) (w : World) (hv : v < 4294967296)
   (h0 : w.cell? ⟨b, off, none⟩ = some x0) (h1 : w.cell? ⟨b, off + 1, none⟩ = some x1) (h2 : w.cell? ⟨b, off + 2, none⟩ = some x2) (h3 : w.cell? ⟨b, off + 3, none⟩ = some x3)
   (f0 : w.frozen? ⟨b, off, none⟩ = false) (f1 : w.frozen? ⟨b, off + 1, none⟩ = false) (f2 : w.frozen? ⟨b, off + 2, none⟩ = false) (f3 : w.frozen? ⟨b, off + 3, none⟩ = false) :
    Calls Tryz.prog 126 #[.slice (some ⟨b, off, none⟩) 4 cap, .int .u32 v] w fun e w' => e = .returned (.tuple #[]) ∧ layW w b off (leB 4 v) = w' := by
  go_enter Tryz.func126, Tryz.ntmps126
  go_wp2
  go_end0
  refine ⟨rfl, ?_⟩
  simp only [layW, leB, UInt8.toNat_ofNat', Nat.add_assoc]
  have e1 : ((v / 256 / 256 / 256 % 2 ^ 8 : Nat) : Int) = (v : Int) / 16777216 := by omega
  have e2 : ((v / 256 / 256 % 2 ^ 8 : Nat) : Int) = (v : Int) / 65536 % 256 := by omega
  have e3 : ((v / 256 % 2 ^ 8 : Nat) : Int) = (v : Int) / 256 % 256 := by omega
  have e4 : ((v % 2 ^ 8 : Nat) : Int) = (v : Int) % 256 := by omega
  rw [e1, e2, e3, e4]
theorem lay_2 (b off cap : Nat) (v : Nat) (x0 x1 : Value) (w : World) (hv : v < 4294967296)
   (h0 : w.cell? ⟨b, off, none⟩ = some x0) (h1 : w.cell? ⟨b, off + 1, none⟩ = some x1)
   (f0 : w.frozen? ⟨b, off, none⟩ = false) (f1 : w.frozen? ⟨b, off + 1, none⟩ = false) :
    Calls Tryz.prog 126 #[.slice (some ⟨b, off, none⟩) 2 cap, .int .u32 v] w fun e w' => e = .returned (.tuple #[]) ∧ layW w b off (leB 2 v) = w' := by
  go_enter Tryz.func126, Tryz.ntmps126
  go_wp2
  go_end0
  refine ⟨rfl, ?_⟩
  simp only [layW, leB, UInt8.toNat_ofNat']
  have e3 : ((v / 256 % 2 ^ 8 : Nat) : Int) = (v : Int) / 256 % 256 := by omega
  have e4 : ((v % 2 ^ 8 : Nat) : Int) = (v : Int) % 256 := by omega
  rw [e3, e4]
theorem lay_1 (b off cap : Nat) (v : Nat) (x0 : Value) (w : World) (hv : v < 4294967296)
   (h0 : w.cell? ⟨b, off, none⟩ = some x0)
   (f0 : w.frozen? ⟨b, off, none⟩ = false) :
    Calls Tryz.prog 126 #[.slice (some ⟨b, off, none⟩) 1 cap, .int .u32 v] w fun e w' => e = .returned (.tuple #[]) ∧ layW w b off (leB 1 v) = w' := by
  go_enter Tryz.func126, Tryz.ntmps126
  go_wp2
  go_end0
  refine ⟨rfl, ?_⟩
  simp only [layW, leB, UInt8.toNat_ofNat']
  have e4 : ((v % 2 ^ 8 : Nat) : Int) = (v : Int) % 256 := by omega
  rw [e4]
theorem lay_0 (A : Option Addr) (cap : Nat) (v : Nat) (w : World) :
    Calls Tryz.prog 126 #[.slice A 0 cap, .int .u32 v] w fun e w' => e = .returned (.tuple #[]) ∧ w = w' := by
  go_enter Tryz.func126, Tryz.ntmps126
  go_wp2
  go_end0
  exact ⟨rfl, rfl⟩
theorem lay_any (b off cap k : Nat) (v : Nat) (w : World) (hk : isW k = true) (hv : v < 4294967296) (hc : ∀ j, j < k → ∃ x, w.cell? ⟨b, off + j, none⟩ = some x) (hf : ∀ j, j < k → w.frozen? ⟨b, off + j, none⟩ = false) :
    Calls Tryz.prog 126 #[.slice (some ⟨b, off, none⟩) k cap, .int .u32 v] w fun e w' => e = .returned (.tuple #[]) ∧ layW w b off (leB k v) = w' := by
  have : k = 1 ∨ k = 2 ∨ k = 4 := by have := isW_cases hk; omega
  rcases this with rfl | rfl | rfl
  · obtain ⟨x0, h0⟩ := hc 0 (by omega)
    exact lay_1 b off cap v x0 w hv h0 (hf 0 (by omega))
  · obtain ⟨x0, h0⟩ := hc 0 (by omega)
    obtain ⟨x1, h1⟩ := hc 1 (by omega)
    exact lay_2 b off cap v x0 x1 w hv h0 h1 (hf 0 (by omega)) (hf 1 (by omega))
  · obtain ⟨x0, h0⟩ := hc 0 (by omega)
    obtain ⟨x1, h1⟩ := hc 1 (by omega)
    obtain ⟨x2, h2⟩ := hc 2 (by omega)
    obtain ⟨x3, h3⟩ := hc 3 (by omega)
    exact lay_4 b off cap v x0 x1 x2 x3 w hv h0 h1 h2 h3 (hf 0 (by omega)) (hf 1 (by omega)) (hf 2 (by omega)) (hf 3 (by omega))


theorem number_4 (b off cap : Nat) (x0 x1 x2 x3 : UInt8) (w : World)
   (h0 : w.cell? ⟨b, off, none⟩ = some (.int .u8 (x0.toNat : Int))) (h1 : w.cell? ⟨b, off + 1, none⟩ = some (.int .u8 (x1.toNat : Int))) (h2 : w.cell? ⟨b, off + 2, none⟩ = some (.int .u8 (x2.toNat : Int))) (h3 : w.cell? ⟨b, off + 3, none⟩ = some (.int .u8 (x3.toNat : Int))) :
    Calls Tryz.prog 162 #[.slice (some ⟨b, off, none⟩) 4 cap] w fun e w' => e = .returned (.int .u32 (le [x0, x1, x2, x3] : Nat)) ∧ ∃ n, w' = w.drewN n := by
  have b0 := x0.toNat_lt
  have b1 := x1.toNat_lt
  have b2 := x2.toNat_lt
  have b3 := x3.toNat_lt
  go_enter Tryz.func162, Tryz.ntmps162
  go_wp2
  go_quiet (fail)
  go_wp2
  go_ret
  exact ⟨ret_int (or4 _ _ _ _ b0 b1 b2 b3), _, rfl⟩
theorem number_2 (b off cap : Nat) (x0 x1 : UInt8) (w : World)
   (h0 : w.cell? ⟨b, off, none⟩ = some (.int .u8 (x0.toNat : Int))) (h1 : w.cell? ⟨b, off + 1, none⟩ = some (.int .u8 (x1.toNat : Int))) :
    Calls Tryz.prog 162 #[.slice (some ⟨b, off, none⟩) 2 cap] w fun e w' => e = .returned (.int .u32 (le [x0, x1] : Nat)) ∧ ∃ n, w' = w.drewN n := by
  have b0 := x0.toNat_lt
  have b1 := x1.toNat_lt
  go_enter Tryz.func162, Tryz.ntmps162
  go_wp2
  go_ret
  exact ⟨ret_int (or2 _ _ b0 b1), 0, rfl⟩
theorem number_1 (b off cap : Nat) (x0 : UInt8) (w : World)
   (h0 : w.cell? ⟨b, off, none⟩ = some (.int .u8 (x0.toNat : Int))) :
    Calls Tryz.prog 162 #[.slice (some ⟨b, off, none⟩) 1 cap] w fun e w' => e = .returned (.int .u32 (le [x0] : Nat)) ∧ ∃ n, w' = w.drewN n := by
  have b0 := x0.toNat_lt
  go_enter Tryz.func162, Tryz.ntmps162
  go_wp2
  go_ret
  exact ⟨ret_int (or1 _ b0), 0, rfl⟩
theorem number_0 (A : Option Addr) (n cap : Nat) (w : World) (h : n ≠ 1 ∧ n ≠ 2 ∧ n ≠ 4) :
    Calls Tryz.prog 162 #[.slice A n cap] w fun e w' => e = .returned (.int .u32 0) ∧ ∃ n, w' = w.drewN n := by
  have h1 : ((n : Int) == 1) = false := by simp; omega
  have h2 : ((n : Int) == 2) = false := by simp; omega
  have h4 : ((n : Int) == 4) = false := by simp; omega
  go_enter Tryz.func162, Tryz.ntmps162
  go_wp2
  go_ret
  exact ⟨rfl, 0, rfl⟩

theorem number_any (A : Option Addr) (l : List UInt8) (B cap : Nat) (w : World) (h : RB w B A l) :
    Calls Tryz.prog 162 #[.slice A l.length cap] w fun e w' => e = .returned (.int .u32 (numOf l : Nat)) ∧ ∃ n, w' = w.drewN n := by
  by_cases hk : l.length = 1 ∨ l.length = 2 ∨ l.length = 4
  · obtain ⟨b, off, rfl, _, hc⟩ := h (by omega)
    have e : numOf l = le l := by unfold numOf; rw [if_pos hk]
    rw [e]
    match l, hk with
    | [x0], _ => exact number_1 b off cap x0 w (hc 0 _ rfl)
    | [x0, x1], _ => exact number_2 b off cap x0 x1 w (hc 0 _ rfl) (hc 1 _ rfl)
    | [x0, x1, x2, x3], _ => exact number_4 b off cap x0 x1 x2 x3 w (hc 0 _ rfl) (hc 1 _ rfl) (hc 2 _ rfl) (hc 3 _ rfl)
    | [], hk => simp at hk
    | [_, _, _], hk => simp at hk
    | _ :: _ :: _ :: _ :: _ :: _, hk => simp at hk
  · have e : numOf l = 0 := by unfold numOf; rw [if_neg hk]
    rw [e]
    exact number_0 A l.length cap w (by omega)
end Go.Proofs.YtkmgdfcambdeeaaGreatDoor
namespace Go.Proofs.YtkmgdfcambdeeaaGreatDoor
open Go.RowKit
set_option linter.unusedVariables false

def inB (n : Nat) (at_ k : Int) : Bool := isW k && decide (0 ≤ at_) && decide (at_ + k ≤ (n : Int))
theorem inB_yes {n : Nat} {at_ k : Int} (h : inB n at_ k = true) : isW k = true ∧ 0 ≤ at_ ∧ at_ + k ≤ n := by simpa [inB, and_assoc] using h
theorem inB_no {n : Nat} {at_ k : Int} (h : inB n at_ k = false) (hk : isW k = true) : at_ < 0 ∨ k > (n : Int) - at_ := by
  simp [inB, hk] at h
  rcases Int.lt_or_le at_ 0 with h0 | h0
  · exact .inl h0
  · exact .inr (by have := h h0; omega)

theorem field_no (A : Option Addr) (n cap : Nat) (at_ k : Int) (w : World) (hn : n ≤ 1000000000) (ha : at_ < 9223372036854775808) (h : inB n at_ k = false) :
    Calls Tryz.prog 161 #[.slice A n cap, .int .i64 at_, .int .i64 k] w fun e w' => e = .returned (.tuple #[.slice none 0 0, .bool false]) ∧ w = w' := by
  rcases hk : isW k with _ | _
  · have hk' := Lib.hid hk
    clear hk
    go_enter Tryz.func161, Tryz.ntmps161
    go_wp2_with (go_at_call 125; refine (isWidth_any _ _).mono ?_; rintro e w' ⟨rfl, rfl⟩; rw [hk'.out])
    go_ret2
    exact ⟨rfl, rfl⟩
  · have hc := cut_no A n cap at_ k w hn ha (by have := inB_no h hk; omega)
    have hk' := Lib.hid hk
    clear hk
    go_enter Tryz.func161, Tryz.ntmps161
    go_wp2_with (first | (go_at_call 125; refine (isWidth_any _ _).mono ?_; rintro e w' ⟨rfl, rfl⟩; rw [hk'.out]) | (go_at_call 203; refine hc.mono ?_; rintro e w' ⟨rfl, rfl⟩))
    go_ret2
    exact ⟨rfl, rfl⟩
theorem field_yes (b off n cap : Nat) (at_ k : Nat) (w : World) (hn : n ≤ 1000000000) (hcap : n ≤ cap) (h : isW (k : Int) = true) (hb : at_ + k ≤ n) :
    Calls Tryz.prog 161 #[.slice (some ⟨b, off, none⟩) n cap, .int .i64 at_, .int .i64 k] w fun e w' => e = .returned (.tuple #[.slice (some ⟨b, off + at_, none⟩) k k, .bool true]) ∧ w = w' := by
  have hc := cut_yes b off n cap at_ k w hn hcap hb (by have := isW_cases h; omega)
  have hk' := Lib.hid h
  clear h
  go_enter Tryz.func161, Tryz.ntmps161
  go_wp2_with (first | (go_at_call 125; refine (isWidth_any _ _).mono ?_; rintro e w' ⟨rfl, rfl⟩; rw [hk'.out]) | (go_at_call 203; refine hc.mono ?_; rintro e w' ⟨rfl, rfl⟩))
  go_ret2
  exact ⟨rfl, rfl⟩

/-- What Get answers. -/
def getB (l : List UInt8) (at_ k : Int) : Nat := if inB l.length at_ k then le ((l.drop at_.toNat).take k.toNat) else 0

theorem get_any (A : Option Addr) (l : List UInt8) (B cap : Nat) (at_ k : Int) (w : World) (h : RB w B A l) (hn : l.length ≤ 1000000000) (hcap : l.length ≤ cap) (ha : at_ < 9223372036854775808) :
    Calls Tryz.prog 112 #[.slice A l.length cap, .int .i64 at_, .int .i64 k] w fun e w' => e = .returned (.tuple #[.int .u32 (getB l at_ k : Nat), .bool (inB l.length at_ k)]) ∧ ∃ n, w.drewN n = w' := by
  rcases hi : inB l.length at_ k with _ | _
  · have hf := field_no A l.length cap at_ k w hn ha hi
    have e : getB l at_ k = 0 := by unfold getB; rw [hi]; rfl
    have hn' := number_any none [] B 0 w RB.nil
    rw [e]
    clear e hi
    go_enter Tryz.func112, Tryz.ntmps112
    go_wp2_with (first | (go_at_call 161; refine hf.mono ?_; rintro e w' ⟨rfl, rfl⟩) | (go_at_call 162; refine hn'.mono ?_; rintro e w' ⟨rfl, n, rfl⟩))
    go_ret2
    exact ⟨rfl, _, rfl⟩
  · obtain ⟨hk, h0, h1⟩ := inB_yes hi
    have hw := isW_cases hk
    obtain ⟨a, rfl⟩ := Int.eq_ofNat_of_zero_le h0
    obtain ⟨k, rfl⟩ := Int.eq_ofNat_of_zero_le (show 0 ≤ k by omega)
    have h1' : a + k ≤ l.length := by omega
    obtain ⟨b, off, rfl, hb, hc⟩ := h (by omega)
    have hf := field_yes b off l.length cap a k w hn hcap hk h1'
    have hl : ((l.drop a).take k).length = k := by simp; omega
    have hr : RB w B (some ⟨b, off + a, none⟩) ((l.drop a).take k) := fun _ => ⟨b, off + a, rfl, hb, fun j u hu => by
      rw [Nat.add_assoc]
      apply hc
      rw [List.getElem?_take] at hu
      split at hu
      · rw [← hu, List.getElem?_drop]
      · cases hu⟩
    have hnum := number_any (some ⟨b, off + a, none⟩) ((l.drop a).take k) B k w hr
    rw [hl] at hnum
    have e : getB l a k = numOf ((l.drop a).take k) := by
      unfold getB numOf
      rw [hi, hl, if_pos rfl, if_pos (by omega)]
      rfl
    rw [e]
    generalize numOf ((l.drop a).take k) = x at hnum
    clear e hi h1 hl hr hc h
    go_enter Tryz.func112, Tryz.ntmps112
    go_wp2_with (first | (go_at_call 161; refine hf.mono ?_; rintro e w' ⟨rfl, rfl⟩) | (go_at_call 162; refine hnum.mono ?_; rintro e w' ⟨rfl, n, rfl⟩))
    go_ret2
    exact ⟨rfl, _, rfl⟩

theorem info_u8 : (Tryz.prog.info? 5).map (fun i => (i.zero, i.size, i.bytes)) = some (some (.int .u8 0), 1, 1) := by kernel_rfl

theorem put_yes (l : List UInt8) (k : Nat) (v : Nat) (w : World) (hl : l.length ≤ 8000000) (hv : v < 4294967296) (hk : isW (k : Int) = true) :
    Calls Tryz.prog 69 #[.string ⟨l.toArray⟩, .int .i64 k, .int .u32 v] w fun e w' => e = .returned (.string ⟨(l ++ leB k v).toArray⟩) ∧ Below w.heap.size w w' := by
  have hc := isW_cases hk
  have hmk := run_make_row' (P := Tryz.prog) 97 5 (.int .u8 0) 1 Tryz.underlying97 info_u8 rfl .i64 .i64 k (by omega) (by omega)
  have hcell : ∀ j, j < k → ∃ x, (w.alloc (.cells (madeCells #[.int .u8 0] k) 5)).cell? ⟨w.heap.size, 0 + j, none⟩ = some x := fun j hj => by
    rw [Nat.zero_add, World.cell?_alloc_at (hn := rfl)]
    exact ⟨(madeCells #[.int .u8 0] k)[j]'(by rw [size_madeCells]; exact hj), Array.getElem?_eq_getElem _⟩
  have hfr : ∀ j, j < k → (w.alloc (.cells (madeCells #[.int .u8 0] k) 5)).frozen? ⟨w.heap.size, 0 + j, none⟩ = false := fun j hj => by
    rw [Nat.zero_add, World.frozen?_alloc_at (hn := rfl)]
  have hlay := lay_any w.heap.size 0 k k v _ hk hv hcell hfr
  have hcv := run_convert_bytes_back (P := Tryz.prog) (layW (w.alloc (.cells (madeCells #[.int .u8 0] k) 5)) w.heap.size 0 (leB k v)) 97 9 5 ⟨w.heap.size, 0, none⟩ k (leB k v) Tryz.underlying97 Tryz.underlying5 Tryz.underlying9 (fun j hj => by
    rw [Addr.add_lit]
    exact layW_at _ _ _ _ (fun j hj => hcell j (by rwa [leB_length] at hj)) j _ (List.getElem?_eq_getElem hj))
  rw [leB_length] at hcv
  have hsz : (leB k v).length = k := leB_length k v
  have hlay' := Lib.hid hlay
  have hk' := Lib.hid hk
  have hb : Below w.heap.size w (layW (w.alloc (.cells (madeCells #[.int .u8 0] k) 5)) w.heap.size 0 (leB k v)) := layW_below (Nat.le_refl _) _ _ ((Below.refl _ _).alloc (Nat.le_refl _) _)
  have hb' := Lib.hid hb
  clear hlay hk hcell hfr hb
  go_enter Tryz.func69, Tryz.ntmps69
  go_wp2_with (first | (go_at_call 125; refine (isWidth_any _ _).mono ?_; rintro e w' ⟨rfl, rfl⟩; rw [hk'.out]) | (go_at_call 126; refine hlay'.out.mono ?_; rintro e w' ⟨rfl, rfl⟩))
  go_ret
  exact ⟨rfl, hb'.out⟩
theorem put_no (l : List UInt8) (k : Int) (v : Nat) (w : World) (hk : isW k = false) :
    Calls Tryz.prog 69 #[.string ⟨l.toArray⟩, .int .i64 k, .int .u32 v] w fun e w' => e = .returned (.string ⟨l.toArray⟩) ∧ w = w' := by
  have hk' := Lib.hid hk
  clear hk
  go_enter Tryz.func69, Tryz.ntmps69
  go_wp2_with (go_at_call 125; refine (isWidth_any _ _).mono ?_; rintro e w' ⟨rfl, rfl⟩; rw [hk'.out])
  go_ret
  exact ⟨rfl, rfl⟩
end Go.Proofs.YtkmgdfcambdeeaaGreatDoor
namespace Go.Proofs.YtkmgdfcambdeeaaGreatDoor
open Go.RowKit
set_option linter.unusedVariables false
theorem leB_snocV (v : Nat) : ∀ j, leB (j + 1) v = leB j v ++ [UInt8.ofNat (v / 256 ^ j)] := by
  intro j
  induction j generalizing v with
  | zero => simp [leB]
  | succ j ih =>
    rw [leB, ih (v / 256), leB]
    simp [Nat.div_div_eq_div_mul, Nat.pow_succ, Nat.mul_comm]
def putB (l : List UInt8) (k : Int) (v : Nat) : List UInt8 := if isW k then l ++ leB k.toNat v else l
theorem put_any (l : List UInt8) (k : Int) (v : Nat) (w : World) (hl : l.length ≤ 8000000) (hv : v < 4294967296) :
    Calls Tryz.prog 69 #[.string ⟨l.toArray⟩, .int .i64 k, .int .u32 v] w fun e w' => e = .returned (.string ⟨(putB l k v).toArray⟩) ∧ Below w.heap.size w w' := by
  unfold putB
  rcases hk : isW k with _ | _
  · exact (put_no l k v w hk).mono fun e w' ⟨h1, h2⟩ => ⟨h1, by rw [← h2]; exact Below.refl _ _⟩
  · have hw := isW_cases hk
    obtain ⟨k, rfl⟩ := Int.eq_ofNat_of_zero_le (show 0 ≤ k by omega)
    exact put_yes l k v w hl hv hk
end Go.Proofs.YtkmgdfcambdeeaaGreatDoor
namespace Go.Proofs.YtkmgdfcambdeeaaGreatDoor
open Go.RowKit
set_option linter.unusedVariables false

theorem set_no (A : Option Addr) (n cap : Nat) (at_ k : Int) (v : Nat) (w : World) (hn : n ≤ 1000000000) (ha : at_ < 9223372036854775808) (h : inB n at_ k = false) :
    Calls Tryz.prog 172 #[.slice A n cap, .int .i64 at_, .int .i64 k, .int .u32 v] w fun e w' => e = .returned (.bool false) ∧ w = w' := by
  have hf := field_no A n cap at_ k w hn ha h
  have hl := lay_0 none 0 v w
  clear h
  go_enter Tryz.func172, Tryz.ntmps172
  go_wp2_with (first | (go_at_call 161; refine hf.mono ?_; rintro e w' ⟨rfl, rfl⟩) | (go_at_call 126; refine hl.mono ?_; rintro e w' ⟨rfl, rfl⟩))
  go_ret
  exact ⟨rfl, rfl⟩
theorem set_yes (b off n cap : Nat) (at_ k : Nat) (v : Nat) (w : World) (hn : n ≤ 1000000000) (hcap : n ≤ cap) (h : isW (k : Int) = true) (hb : at_ + k ≤ n) (hv : v < 4294967296)
    (hc : ∀ j, j < n → ∃ x, w.cell? ⟨b, off + j, none⟩ = some x) (hf : ∀ j, j < n → w.frozen? ⟨b, off + j, none⟩ = false) :
    Calls Tryz.prog 172 #[.slice (some ⟨b, off, none⟩) n cap, .int .i64 at_, .int .i64 k, .int .u32 v] w fun e w' => e = .returned (.bool true) ∧ layW w b (off + at_) (leB k v) = w' := by
  have hfi := field_yes b off n cap at_ k w hn hcap h hb
  have hl := Lib.hid (lay_any b (off + at_) k k v w h hv (fun j hj => by rw [Nat.add_assoc]; exact hc _ (by omega)) (fun j hj => by rw [Nat.add_assoc]; exact hf _ (by omega)))
  clear h hc hf
  go_enter Tryz.func172, Tryz.ntmps172
  go_wp2_with (first | (go_at_call 161; refine hfi.mono ?_; rintro e w' ⟨rfl, rfl⟩) | (go_at_call 126; refine hl.out.mono ?_; rintro e w' ⟨rfl, rfl⟩))
  go_ret
  exact ⟨rfl, rfl⟩

/-- The bytes behind Set. -/
def setB (l : List UInt8) (at_ k : Int) (v : Nat) : List UInt8 := if inB l.length at_ k then l.take at_.toNat ++ leB k.toNat v ++ l.drop (at_.toNat + k.toNat) else l
/-- The block's cells from a place on are these bytes, none of them frozen. -/
def Has (w : World) (b off : Nat) (l : List UInt8) : Prop := ∀ j u, l[j]? = some u → w.cell? ⟨b, off + j, none⟩ = some (.int .u8 (u.toNat : Int)) ∧ w.frozen? ⟨b, off + j, none⟩ = false
def Only (b : Nat) (w w' : World) : Prop := ∀ q : Addr, q.block ≠ b → w'.cell? q = w.cell? q ∧ w'.frozen? q = w.frozen? q
theorem set_any (b off : Nat) (l tail : List UInt8) (cap : Nat) (at_ k : Int) (v : Nat) (w : World) (hn : l.length ≤ 1000000000) (hcap : l.length ≤ cap) (ha : at_ < 9223372036854775808) (hv : v < 4294967296) (h : Has w b off (l ++ tail)) :
    Calls Tryz.prog 172 #[.slice (some ⟨b, off, none⟩) l.length cap, .int .i64 at_, .int .i64 k, .int .u32 v] w fun e w' => e = .returned (.bool (inB l.length at_ k)) ∧ Has w' b off (setB l at_ k v ++ tail) ∧ Only b w w' ∧ Below b w w' := by
  unfold setB
  rcases hi : inB l.length at_ k with _ | _
  · refine (set_no (some ⟨b, off, none⟩) l.length cap at_ k v w hn ha hi).mono fun e w' ⟨h1, h2⟩ => ?_
    subst h2
    exact ⟨h1, h, fun _ _ => ⟨rfl, rfl⟩, Below.refl _ _⟩
  · obtain ⟨hk, h0, h1⟩ := inB_yes hi
    have hw := isW_cases hk
    obtain ⟨a, rfl⟩ := Int.eq_ofNat_of_zero_le h0
    obtain ⟨k, rfl⟩ := Int.eq_ofNat_of_zero_le (show 0 ≤ k by omega)
    have hb : a + k ≤ l.length := by omega
    have hget : ∀ j, j < l.length → ∃ u, (l ++ tail)[j]? = some u := fun j hj => ⟨(l ++ tail)[j]'(by simp; omega), List.getElem?_eq_getElem _⟩
    have hlen : (leB k v).length = k := leB_length k v
    refine (set_yes b off l.length cap a k v w hn hcap hk hb hv (fun j hj => by obtain ⟨u, hu⟩ := hget j hj; exact ⟨_, (h j u hu).1⟩) (fun j hj => by obtain ⟨u, hu⟩ := hget j hj; exact (h j u hu).2)).mono fun e w' ⟨h1, h2⟩ => ?_
    subst h2
    refine ⟨h1, fun j u hu => ⟨?_, ?_⟩, fun q hq => ⟨layW_off _ _ _ _ _ (fun e => absurd e hq), layW_frozen _ _ _ _ _⟩, layW_below (Nat.le_refl _) _ _ (Below.refl _ _)⟩
    · simp only [if_pos, Int.toNat_natCast] at hu
      by_cases h1 : a ≤ j ∧ j < a + k
      · have hu' : (leB k v)[j - a]? = some u := by
          rw [List.append_assoc, List.append_assoc, List.getElem?_append_right (by simp; omega), List.getElem?_append_left (by simp; omega)] at hu
          rw [← hu]; congr 1; simp; omega
        have := layW_at b (leB k v) (off + a) w (fun i hi => by obtain ⟨u, hu⟩ := hget (a + i) (by omega); exact ⟨_, by rw [Nat.add_assoc]; exact (h _ u hu).1⟩) (j - a) u hu'
        rw [← this]; congr 2; omega
      · rw [layW_off _ _ _ _ _ (fun _ _ => by simp; omega)]
        refine (h j u ?_).1
        rw [← hu]
        by_cases h2 : j < a
        · rw [List.append_assoc, List.append_assoc, List.getElem?_append_left (l₁ := l.take a) (by simp; omega), List.getElem?_append_left (by omega), List.getElem?_take, if_pos h2]
        · by_cases h3 : j < l.length
          · rw [List.getElem?_append_left h3, List.append_assoc, List.append_assoc, List.getElem?_append_right (by simp; omega), List.getElem?_append_right (by simp; omega), List.getElem?_append_left (by simp; omega), List.getElem?_drop]
            congr 1; simp; omega
          · rw [List.getElem?_append_right (by omega), List.append_assoc, List.append_assoc, List.getElem?_append_right (by simp; omega), List.getElem?_append_right (by simp; omega), List.getElem?_append_right (by simp; omega)]
            congr 1; simp; omega
    · rw [layW_frozen]
      have hj : j < (l ++ tail).length := by
        have := (List.getElem?_eq_some_iff.1 hu).1
        simp [hlen] at this
        simp; omega
      exact (h j _ (List.getElem?_eq_getElem hj)).2
theorem Has.drew {w : World} {b off : Nat} {l : List UInt8} (h : Has w b off l) : Has w.drew b off l := h
theorem Has.drewN {w : World} {b off : Nat} {l : List UInt8} (h : Has w b off l) (n : Nat) : Has (w.drewN n) b off l := h
theorem bw_has (w : World) (e : TypeId) (l : List UInt8) : Has (Lib.bytesWorld w e ⟨l.toArray⟩) w.heap.size 0 l := fun j u hu => by
  rw [Nat.zero_add]
  exact ⟨bw_cell w e l j u hu, bw_free w e l j (List.getElem?_eq_some_iff.1 hu).1⟩
theorem Has.below {w w' : World} {b off B : Nat} {l : List UInt8} (h : Has w b off l) (hb : Below B w w') (hB : b < B) : Has w' b off l := fun j u hu => by
  have := h j u hu
  exact ⟨(hb.cell (p := ⟨b, off + j, none⟩) hB).trans this.1, (hb.frozen (p := ⟨b, off + j, none⟩) hB).trans this.2⟩
theorem has_conv {w : World} {b : Nat} {l : List UInt8} (cap : Nat) (h : Has w b 0 l) :
    (convert 97 9 (.slice (some ⟨b, 0, none⟩) l.length cap)).run Tryz.prog w = .ok (.string ⟨l.toArray⟩) w :=
  run_convert_bytes_back (P := Tryz.prog) w 97 9 5 ⟨b, 0, none⟩ cap l Tryz.underlying97 Tryz.underlying5 Tryz.underlying9 (fun j hj => by
    rw [Addr.add_lit]
    exact (h j _ (List.getElem?_eq_getElem hj)).1)
end Go.Proofs.YtkmgdfcambdeeaaGreatDoor
namespace Go.Proofs.YtkmgdfcambdeeaaGreatDoor
open Go.RowKit
set_option linter.unusedVariables false

/-- Can so many be taken? -/
def okT (n : Nat) (k : Int) : Bool := decide (0 ≤ k) && decide (k ≤ (n : Int))

theorem next_no (src b off cap n : Nat) (k : Int) (w : World) (h : okT n k = false) (hl : n ≤ 1000000) (hcap : n ≤ cap)
    (cS : w.cell? ⟨src, 0, none⟩ = some (.slice (some ⟨b, off, none⟩) n cap)) (fS : w.frozen? ⟨src, 0, none⟩ = false) :
    Calls Tryz.prog 204 #[.pointer (some ⟨src, 0, none⟩), .int .i64 k] w fun e w' => e = .returned (.tuple #[.slice none 0 0, .int .i64 n, .bool false]) ∧ ∃ q, (w.setCell ⟨src, 0, none⟩ (.slice (some ⟨b, off, none⟩) n cap)).drewN q = w' := by
  have hc := cut_no (some ⟨b, off, none⟩) n cap 0 k w (by omega) (by omega) (by simp [okT] at h; omega)
  clear h
  go_enter Tryz.func204, Tryz.ntmps204
  go_wp2_with (go_at_call 203; refine hc.mono ?_; rintro e w' ⟨rfl, rfl⟩)
  go_quiet (fail)
  go_wp2
  go_ret3
  exact ⟨rfl, _, rfl⟩
theorem next_zero (src b off cap n : Nat) (w : World) (hl : n ≤ 1000000) (hcap : n ≤ cap)
    (cS : w.cell? ⟨src, 0, none⟩ = some (.slice (some ⟨b, off, none⟩) n cap)) (fS : w.frozen? ⟨src, 0, none⟩ = false) :
    Calls Tryz.prog 204 #[.pointer (some ⟨src, 0, none⟩), .int .i64 0] w fun e w' => e = .returned (.tuple #[.slice (some ⟨b, off, none⟩) 0 0, .int .i64 n, .bool true]) ∧ ∃ q, (w.setCell ⟨src, 0, none⟩ (.slice (some ⟨b, off, none⟩) n cap)).drewN q = w' := by
  have hc := cut_zero (some ⟨b, off, none⟩) n cap w (by omega) hcap
  go_enter Tryz.func204, Tryz.ntmps204
  go_wp2_with (go_at_call 203; refine hc.mono ?_; rintro e w' ⟨rfl, rfl⟩)
  go_quiet (fail)
  go_wp2
  go_ret3
  exact ⟨rfl, _, rfl⟩
theorem next_yes (src b off cap n k : Nat) (w : World) (h0 : 0 < k) (h : k ≤ n) (hl : n ≤ 1000000) (hcap : n ≤ cap)
    (cS : w.cell? ⟨src, 0, none⟩ = some (.slice (some ⟨b, off, none⟩) n cap)) (fS : w.frozen? ⟨src, 0, none⟩ = false) :
    Calls Tryz.prog 204 #[.pointer (some ⟨src, 0, none⟩), .int .i64 k] w fun e w' => e = .returned (.tuple #[.slice (some ⟨b, off, none⟩) k k, .int .i64 (n - k : Nat), .bool true]) ∧ ∃ q, (w.setCell ⟨src, 0, none⟩ (.slice (some ⟨b, if cap = k then off else off + k, none⟩) (n - k) (cap - k))).drewN q = w' := by
  have hc := cut_yes b off n cap 0 k w (by omega) hcap (by omega) h0
  by_cases hk : cap = k
  · subst hk
    have hn : n = cap := by omega
    subst hn
    go_enter Tryz.func204, Tryz.ntmps204
    go_wp2_with (go_at_call 203; refine hc.mono ?_; rintro e w' ⟨rfl, rfl⟩)
    go_quiet (fail)
    go_wp2
    go_ret3
    exact ⟨by simp, _, rfl⟩
  · go_enter Tryz.func204, Tryz.ntmps204
    go_wp2_with (go_at_call 203; refine hc.mono ?_; rintro e w' ⟨rfl, rfl⟩)
    go_quiet (fail)
    go_wp2
    go_ret3
    exact ⟨by simp, _, rfl⟩

def pieceT (l : List UInt8) (k : Int) : List UInt8 := if okT l.length k then l.take k.toNat else []
def restT (l : List UInt8) (k : Int) : List UInt8 := if okT l.length k then l.drop k.toNat else l

/-- The reader at block r, its source at block src, with the bytes l left. -/
def Rd (w : World) (r src : Nat) (l : List UInt8) : Prop :=
  r ≠ src ∧ w.heap[r]? = some (.cells #[.func (Fn.func 204) #[.pointer (some ⟨src, 0, none⟩)] #[]] 241 (0, 0)) ∧ l.length ≤ 1000000 ∧
  ∃ b off cap, b < src ∧ l.length ≤ cap ∧ w.heap[src]? = some (.cells #[.slice (some ⟨b, off, none⟩) l.length cap] 238 (0, 0)) ∧ ∀ j u, l[j]? = some u → w.cell? ⟨b, off + j, none⟩ = some (.int .u8 (u.toNat : Int))

theorem lt_of_at {w : World} {g : Nat} {o : Obj} (h : w.heap[g]? = some o) : g < w.heap.size := by
  rcases Nat.lt_or_ge g w.heap.size with hlt | hge
  · exact hlt
  · rw [Array.getElem?_eq_none hge] at h; cases h
theorem cell_at {w : World} {g : Nat} {cs : Array Value} {t : TypeId} (h : w.heap[g]? = some (.cells cs t (0, 0))) (i : Nat) : w.cell? ⟨g, i, none⟩ = cs[i]? := cell_of_row w g i cs t (0, 0) h
theorem free_at {w : World} {g : Nat} {cs : Array Value} {t : TypeId} (h : w.heap[g]? = some (.cells cs t (0, 0))) (i : Nat) : w.frozen? ⟨g, i, none⟩ = false := by simp [World.frozen?, h]
theorem set_at {w : World} {g : Nat} {u : Value} {t : TypeId} (h : w.heap[g]? = some (.cells #[u] t (0, 0))) (v : Value) : (w.setCell ⟨g, 0, none⟩ v).heap[g]? = some (.cells #[v] t (0, 0)) := by
  simp [World.setCell, Array.getElem?_modify, h]

/-- Rd lasts where the blocks below and the two stay. -/
theorem Rd.keep {w w' : World} {r src : Nat} {l : List UInt8} (h : Rd w r src l) (hb : ∀ g, g ≤ max r src → w'.heap[g]? = w.heap[g]?) : Rd w' r src l := by
  obtain ⟨hne, hr, hl, b, off, cap, hbs, hc, hs, hcell⟩ := h
  refine ⟨hne, (hb r (by omega)).trans hr, hl, b, off, cap, hbs, hc, (hb src (by omega)).trans hs, fun j u hu => ?_⟩
  rw [World.cell?_of_block (w := w) (w' := w') (hb b (by omega))]
  exact hcell j u hu
theorem Rd.lt {w : World} {r src : Nat} {l : List UInt8} (h : Rd w r src l) : r < w.heap.size ∧ src < w.heap.size := by
  obtain ⟨_, hr, _, _, _, _, _, _, hs, _⟩ := h
  exact ⟨lt_of_at hr, lt_of_at hs⟩
theorem Rd.below {w w' : World} {r src : Nat} {l : List UInt8} (h : Rd w r src l) (hb : Below w.heap.size w w') : Rd w' r src l :=
  h.keep fun g hg => hb.block g (by have := h.lt; omega)
theorem Rd.drewN {w : World} {r src : Nat} {l : List UInt8} (h : Rd w r src l) (k : Nat) : Rd (w.drewN k) r src l := h

def NextPost (w : World) (r src : Nat) (l : List UInt8) (k : Int) (e : Ending) (w' : World) : Prop :=
  ∃ A, e = .returned (.tuple #[.slice A (pieceT l k).length (pieceT l k).length, .int .i64 (restT l k).length, .bool (okT l.length k)]) ∧ RB w' src A (pieceT l k) ∧ Rd w' r src (restT l k) ∧ w.grownBy w' (some src)

theorem grown_set (w : World) (src : Nat) (v : Value) (q : Nat) : w.grownBy ((w.setCell ⟨src, 0, none⟩ v).drewN q) (some src) :=
  ⟨rfl, rfl, rfl, by simp [World.setCell], fun i hi hne => Below.heap_setCell w ⟨src, 0, none⟩ v i (fun e => hne (by rw [e]))⟩

theorem next_any (r src : Nat) (l : List UInt8) (k : Int) (w : World) (h : Rd w r src l) :
    Calls Tryz.prog 204 #[.pointer (some ⟨src, 0, none⟩), .int .i64 k] w (NextPost w r src l k) := by
  obtain ⟨hne, hr, hl, b, off, cap, hbs, hc, hs, hcell⟩ := h
  have cS := cell_at hs 0
  have fS := free_at hs 0
  have hset : ∀ v q, ((w.setCell ⟨src, 0, none⟩ v).drewN q).heap[src]? = some (.cells #[v] 238 (0, 0)) := fun v q => set_at hs v
  have hold : ∀ v q g, g ≠ src → ((w.setCell ⟨src, 0, none⟩ v).drewN q).heap[g]? = w.heap[g]? := fun v q g hg => Below.heap_setCell w ⟨src, 0, none⟩ v g hg
  have hcell' : ∀ v q j u, l[j]? = some u → ((w.setCell ⟨src, 0, none⟩ v).drewN q).cell? ⟨b, off + j, none⟩ = some (.int .u8 (u.toNat : Int)) := fun v q j u hu => by
    rw [World.cell?_of_block (w := w) (hold v q b (by omega))]
    exact hcell j u hu
  rcases ho : okT l.length k with _ | _
  · refine (next_no src b off cap l.length k w ho (by omega) hc cS fS).mono fun e w' ⟨h1, q, h2⟩ => ?_
    subst h2
    have e1 : pieceT l k = [] := by unfold pieceT; rw [ho]; rfl
    have e2 : restT l k = l := by unfold restT; rw [ho]; rfl
    refine ⟨none, ?_, ?_, ?_, grown_set _ _ _ _⟩
    · rw [h1, e1, e2, ho]; rfl
    · rw [e1]; exact RB.nil
    · rw [e2]; exact ⟨hne, (hold _ _ r hne).trans hr, hl, b, off, cap, hbs, hc, hset _ _, hcell' _ _⟩
  · have hk : 0 ≤ k ∧ k ≤ l.length := by simpa [okT] using ho
    obtain ⟨k, rfl⟩ := Int.eq_ofNat_of_zero_le hk.1
    have hk' : k ≤ l.length := by omega
    have e1 : pieceT l k = l.take k := by unfold pieceT; rw [ho]; rfl
    have e2 : restT l k = l.drop k := by unfold restT; rw [ho]; rfl
    have n1 : (l.take k).length = k := by simp; omega
    have n2 : (l.drop k).length = l.length - k := by simp
    by_cases hz : k = 0
    · subst hz
      refine (next_zero src b off cap l.length w (by omega) hc cS fS).mono fun e w' ⟨h1, q, h2⟩ => ?_
      subst h2
      refine ⟨some ⟨b, off, none⟩, ?_, ?_, ?_, grown_set _ _ _ _⟩
      · rw [h1, e1, e2, ho]; simp
      · rw [e1]; exact RB.nil
      · rw [e2]; exact ⟨hne, (hold _ _ r hne).trans hr, by simpa using hl, b, off, cap, hbs, by simpa using hc, hset _ _, fun j u hu => hcell' _ _ j u (by simpa using hu)⟩
    · refine (next_yes src b off cap l.length k w (by omega) hk' (by omega) hc cS fS).mono fun e w' ⟨h1, q, h2⟩ => ?_
      subst h2
      refine ⟨some ⟨b, off, none⟩, ?_, ?_, ?_, grown_set _ _ _ _⟩
      · rw [h1, e1, e2, ho, n1, n2]
      · rw [e1]
        exact fun _ => ⟨b, off, rfl, hbs, fun j u hu => hcell' _ _ j u (by
          rw [List.getElem?_take] at hu
          split at hu
          · exact hu
          · cases hu)⟩
      · rw [e2]
        refine ⟨hne, (hold _ _ r hne).trans hr, by omega, b, if cap = k then off else off + k, cap - k, hbs, by omega, ?_, fun j u hu => ?_⟩
        · rw [n2]; exact hset _ _
        · rw [List.getElem?_drop] at hu
          have hj : k + j < l.length := (List.getElem?_eq_some_iff.1 hu).1
          rw [if_neg (by omega)]
          rw [Nat.add_assoc]
          exact hcell' _ _ _ u hu

theorem take_any (r src : Nat) (l : List UInt8) (k : Int) (w : World) (h : Rd w r src l) :
    Calls Tryz.prog 205 #[.pointer (some ⟨r, 0, none⟩), .int .i64 k] w (NextPost w r src l k) := by
  have hn := Lib.hid (next_any r src l k w h)
  have cR := cell_at h.2.1 0
  clear h
  have hq : ∀ w : World, (binOp .eql 239 (.func (Fn.func 204) #[.pointer (some ⟨src, 0, none⟩)] #[]) .nilFunc).run Tryz.prog w = .ok (.bool false) w := fun _ => by kernel_rfl
  go_enter Tryz.func205, Tryz.ntmps205
  go_wp2_with fail
  refine hn.out.mono ?_
  rintro e w' ⟨A, rfl, hp⟩
  have hp' := Lib.hid hp
  clear hp
  go_wp2_with fail
  go_ret3
  exact ⟨A, rfl, hp'.out⟩
/-- What Number answers. -/
def okN (n : Nat) (k : Int) : Bool := isW k && decide (k ≤ (n : Int))
def numT (l : List UInt8) (k : Int) : Nat := if okN l.length k then le (l.take k.toNat) else 0
def restN (l : List UInt8) (k : Int) : List UInt8 := if okN l.length k then l.drop k.toNat else l
def ReadPost (w : World) (r src : Nat) (v : Value) (l' : List UInt8) (e : Ending) (w' : World) : Prop := e = .returned v ∧ Rd w' r src l' ∧ w.grownBy w' (some src)

theorem grown_drewN {a w : World} {row : Option Nat} (h : a.grownBy w row) (n : Nat) : a.grownBy (w.drewN n) row := ⟨h.os, h.tape, h.output, h.size, h.block⟩
theorem Number_any (r src : Nat) (l : List UInt8) (k : Int) (w : World) (h : Rd w r src l) :
    Calls Tryz.prog 165 #[.pointer (some ⟨r, 0, none⟩), .int .i64 k] w (ReadPost w r src (.tuple #[.int .u32 (numT l k : Nat), .bool (okN l.length k)]) (restN l k)) := by
  rcases hk : isW k with _ | _
  · have e1 : numT l k = 0 := by simp [numT, okN, hk]
    have e2 : restN l k = l := by simp [restN, okN, hk]
    have e3 : okN l.length k = false := by simp [okN, hk]
    rw [e1, e2, e3]
    have h' := Lib.hid h
    have hk' := Lib.hid hk
    clear h hk e1 e2 e3
    go_enter Tryz.func165, Tryz.ntmps165
    go_wp2_with (go_at_call 125; refine (isWidth_any _ _).mono ?_; rintro e w' ⟨rfl, rfl⟩; rw [hk'.out])
    go_ret2
    exact ⟨rfl, h'.out, World.grownBy.refl _ _⟩
  · have hc := isW_cases hk
    have e0 : okT l.length k = okN l.length k := by
      unfold okT okN
      rw [hk, Bool.eq_iff_iff]
      simp
      omega
    have e1 : numT l k = numOf (pieceT l k) := by
      unfold numT pieceT
      rw [e0]
      split
      · rename_i ho
        have : k ≤ (l.length : Int) := by simp [okN, hk] at ho; exact ho
        unfold numOf
        rw [if_pos (by simp; omega)]
      · rfl
    have e2 : restN l k = restT l k := by unfold restN restT; rw [e0]
    rw [e1, e2, ← e0]
    have ht := Lib.hid (take_any r src l k w h)
    have hk' := Lib.hid hk
    clear h hk e0 e1 e2
    go_enter Tryz.func165, Tryz.ntmps165
    go_wp2_with (go_at_call 125; refine (isWidth_any _ _).mono ?_; rintro e w' ⟨rfl, rfl⟩; rw [hk'.out])
    refine ht.out.mono ?_
    rintro e w' ⟨A, rfl, hr, hp⟩
    have hn := Lib.hid (number_any A (pieceT l k) src (pieceT l k).length w' hr)
    have hp' := Lib.hid hp
    clear hp hr
    go_wp2_with fail
    refine hn.out.mono ?_
    rintro e w2 ⟨rfl, q, rfl⟩
    go_wp2_with fail
    go_ret2
    exact ⟨rfl, hp'.out.1.drewN q, grown_drewN hp'.out.2 q⟩
def NewPost (w : World) (l : List UInt8) (e : Ending) (w' : World) : Prop :=
  ∃ r src, e = .returned (.pointer (some ⟨r, 0, none⟩)) ∧ Rd w' r src l ∧ Below w.heap.size w w' ∧ w.heap.size ≤ src ∧ w.heap.size ≤ r
theorem New_any (l : List UInt8) (w : World) (hl : l.length ≤ 1000000) :
    Calls Tryz.prog 163 #[.string ⟨l.toArray⟩] w (NewPost w l) := by
  have hcb := fun (w : World) (s : ByteArray) => Lib.run_convert_string_bytes (P := Tryz.prog) w 9 97 5 s Tryz.underlying9 Tryz.underlying97 Tryz.underlying5
  have hmf : ∀ (fn : Fn) (first cap : Array Value) (w : World), (Instr.makeFunc fn first cap).run Tryz.prog w = .ok (.func fn first cap) w := fun _ _ _ _ => rfl
  have hs := Lib.hid (Lib.bytesWorld_size w 5 ⟨l.toArray⟩)
  have hb := Lib.hid (bw_below w 5 ⟨l.toArray⟩)
  have hh := Lib.hid (bw_has w 5 l)
  have hg := Lib.hid (grownCap_ge w l.length 0 5)
  go_enter Tryz.func163, Tryz.ntmps163
  go_wp2
  go_ret
  generalize Lib.bytesWorld w 5 ⟨l.toArray⟩ = W1 at hs hb hh
  have hs' := hs.out
  have hb1 : Below w.heap.size W1 (W1.alloc (.cells #[.slice (some ⟨w.heap.size, 0, none⟩) l.length (grownCap w l.length 0 5)] 238)) := (Below.refl _ _).alloc (by omega) _
  refine ⟨W1.heap.size + 1, W1.heap.size, rfl, ⟨by omega, ?_, hl, w.heap.size, 0, grownCap w l.length 0 5, by omega, hg.out, ?_, fun j u hu => ?_⟩, ?_, by omega, by omega⟩
  · have := heap_alloc_new (W1.alloc (.cells #[.slice (some ⟨w.heap.size, 0, none⟩) l.length (grownCap w l.length 0 5)] 238)) (.cells #[.func (Fn.func 204) #[.pointer (some ⟨W1.heap.size, 0, none⟩)] #[]] 241)
    simpa using this
  · rw [Below.heap_alloc _ _ _ (by simp)]
    exact heap_alloc_new W1 _
  · have h1 := (hh.out j u hu).1
    rw [World.cell?_alloc_lt _ _ _ (by simp; omega), World.cell?_alloc_lt _ _ _ (by show w.heap.size < _; omega)]
    exact h1
  · exact (hb.out.alloc (by omega) _).alloc (by simp; omega) _

end Go.Proofs.YtkmgdfcambdeeaaGreatDoor
