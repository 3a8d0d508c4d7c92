/- Contracts of octet's Get, Set, Put, and of the document's own. -/
import Derived.Test.YtpopfmboonjplaaOctA
import Derived.Deep.OwnRows
namespace Go.Proofs.Ytpopfmboonjplaa
open Go.RowKit
set_option linter.unusedVariables false

def inB (n : Nat) (at_ k : Int) : Bool := isW k && decide (0 ≤ at_) && decide (at_ + k ≤ (n : Int))
theorem inB_yes {n : Nat} {at_ k : Int} (h : inB n at_ k = true) : isW k = true ∧ 0 ≤ at_ ∧ at_ + k ≤ n := by simpa [inB, and_assoc] using h
theorem inB_no {n : Nat} {at_ k : Int} (h : inB n at_ k = false) (hk : isW k = true) : at_ < 0 ∨ k > (n : Int) - at_ := by
  simp [inB, hk] at h
  rcases Int.lt_or_le at_ 0 with h0 | h0
  · exact .inl h0
  · exact .inr (by have := h h0; omega)

theorem field_no (A : Option Addr) (n cap : Nat) (at_ k : Int) (w : World) (hn : n ≤ 1000000000) (ha : at_ < 9223372036854775808) (h : inB n at_ k = false) :
    Calls Try.prog 83 #[.slice A n cap, .int .i64 at_, .int .i64 k] w fun e w' => e = .returned (.tuple #[.slice none 0 0, .bool false]) ∧ w = w' := by
  rcases hk : isW k with _ | _
  · have hk' := Lib.hid hk
    clear hk
    go_enter Try.func83, Try.ntmps83
    go_wp2_with (go_at_call 65; refine (isWidth_any _ _).mono ?_; rintro e w' ⟨rfl, rfl⟩; rw [hk'.out])
    go_ret2
    exact ⟨rfl, rfl⟩
  · have hc := cut_no A n cap at_ k w hn ha (by have := inB_no h hk; omega)
    have hk' := Lib.hid hk
    clear hk
    go_enter Try.func83, Try.ntmps83
    go_wp2_with (first | (go_at_call 65; refine (isWidth_any _ _).mono ?_; rintro e w' ⟨rfl, rfl⟩; rw [hk'.out]) | (go_at_call 84; refine hc.mono ?_; rintro e w' ⟨rfl, rfl⟩))
    go_ret2
    exact ⟨rfl, rfl⟩
theorem field_yes (b off n cap : Nat) (at_ k : Nat) (w : World) (hn : n ≤ 1000000000) (hcap : n ≤ cap) (h : isW (k : Int) = true) (hb : at_ + k ≤ n) :
    Calls Try.prog 83 #[.slice (some ⟨b, off, none⟩) n cap, .int .i64 at_, .int .i64 k] w fun e w' => e = .returned (.tuple #[.slice (some ⟨b, off + at_, none⟩) k k, .bool true]) ∧ w = w' := by
  have hc := cut_yes b off n cap at_ k w hn hcap hb (by have := isW_cases h; omega)
  have hk' := Lib.hid h
  clear h
  go_enter Try.func83, Try.ntmps83
  go_wp2_with (first | (go_at_call 65; refine (isWidth_any _ _).mono ?_; rintro e w' ⟨rfl, rfl⟩; rw [hk'.out]) | (go_at_call 84; refine hc.mono ?_; rintro e w' ⟨rfl, rfl⟩))
  go_ret2
  exact ⟨rfl, rfl⟩

/-- What Get answers. -/
def getB (l : List UInt8) (at_ k : Int) : Nat := if inB l.length at_ k then le ((l.drop at_.toNat).take k.toNat) else 0

theorem get_any (A : Option Addr) (l : List UInt8) (B cap : Nat) (at_ k : Int) (w : World) (h : RB w B A l) (hn : l.length ≤ 1000000000) (hcap : l.length ≤ cap) (ha : at_ < 9223372036854775808) :
    Calls Try.prog 63 #[.slice A l.length cap, .int .i64 at_, .int .i64 k] w fun e w' => e = .returned (.tuple #[.int .u32 (getB l at_ k : Nat), .bool (inB l.length at_ k)]) ∧ ∃ n, w.drewN n = w' := by
  rcases hi : inB l.length at_ k with _ | _
  · have hf := field_no A l.length cap at_ k w hn ha hi
    have e : getB l at_ k = 0 := by unfold getB; rw [hi]; rfl
    have hn' := number_any none [] B 0 w RB.nil
    rw [e]
    clear e hi
    go_enter Try.func63, Try.ntmps63
    go_wp2_with (first | (go_at_call 83; refine hf.mono ?_; rintro e w' ⟨rfl, rfl⟩) | (go_at_call 67; refine hn'.mono ?_; rintro e w' ⟨rfl, n, rfl⟩))
    go_ret2
    exact ⟨rfl, _, rfl⟩
  · obtain ⟨hk, h0, h1⟩ := inB_yes hi
    have hw := isW_cases hk
    obtain ⟨a, rfl⟩ := Int.eq_ofNat_of_zero_le h0
    obtain ⟨k, rfl⟩ := Int.eq_ofNat_of_zero_le (show 0 ≤ k by omega)
    have h1' : a + k ≤ l.length := by omega
    obtain ⟨b, off, rfl, hb, hc⟩ := h (by omega)
    have hf := field_yes b off l.length cap a k w hn hcap hk h1'
    have hl : ((l.drop a).take k).length = k := by simp; omega
    have hr : RB w B (some ⟨b, off + a, none⟩) ((l.drop a).take k) := fun _ => ⟨b, off + a, rfl, hb, fun j u hu => by
      rw [Nat.add_assoc]
      apply hc
      rw [List.getElem?_take] at hu
      split at hu
      · rw [← hu, List.getElem?_drop]
      · cases hu⟩
    have hnum := number_any (some ⟨b, off + a, none⟩) ((l.drop a).take k) B k w hr
    rw [hl] at hnum
    have e : getB l a k = numOf ((l.drop a).take k) := by
      unfold getB numOf
      rw [hi, hl, if_pos rfl, if_pos (by omega)]
      rfl
    rw [e]
    generalize numOf ((l.drop a).take k) = x at hnum
    clear e hi h1 hl hr hc h
    go_enter Try.func63, Try.ntmps63
    go_wp2_with (first | (go_at_call 83; refine hf.mono ?_; rintro e w' ⟨rfl, rfl⟩) | (go_at_call 67; refine hnum.mono ?_; rintro e w' ⟨rfl, n, rfl⟩))
    go_ret2
    exact ⟨rfl, _, rfl⟩

theorem info_u8 : (Try.prog.info? 5).map (fun i => (i.zero, i.size, i.bytes)) = some (some (.int .u8 0), 1, 1) := by kernel_rfl

theorem put_yes (l : List UInt8) (k : Nat) (v : Nat) (w : World) (hl : l.length ≤ 8000000) (hv : v < 4294967296) (hk : isW (k : Int) = true) :
    Calls Try.prog 48 #[.string ⟨l.toArray⟩, .int .i64 k, .int .u32 v] w fun e w' => e = .returned (.string ⟨(l ++ leB k v).toArray⟩) ∧ Below w.heap.size w w' := by
  have hc := isW_cases hk
  have hmk := run_make_row' (P := Try.prog) 28 5 (.int .u8 0) 1 Try.underlying28 info_u8 rfl .i64 .i64 k (by omega) (by omega)
  have hcell : ∀ j, j < k → ∃ x, (w.alloc (.cells (madeCells #[.int .u8 0] k) 5)).cell? ⟨w.heap.size, 0 + j, none⟩ = some x := fun j hj => by
    rw [Nat.zero_add, World.cell?_alloc_at (hn := rfl)]
    exact ⟨(madeCells #[.int .u8 0] k)[j]'(by rw [size_madeCells]; exact hj), Array.getElem?_eq_getElem _⟩
  have hfr : ∀ j, j < k → (w.alloc (.cells (madeCells #[.int .u8 0] k) 5)).frozen? ⟨w.heap.size, 0 + j, none⟩ = false := fun j hj => by
    rw [Nat.zero_add, World.frozen?_alloc_at (hn := rfl)]
  have hlay := lay_any w.heap.size 0 k k v _ hk hv hcell hfr
  have hcv := run_convert_bytes_back (P := Try.prog) (layW (w.alloc (.cells (madeCells #[.int .u8 0] k) 5)) w.heap.size 0 (leB k v)) 28 9 5 ⟨w.heap.size, 0, none⟩ k (leB k v) Try.underlying28 Try.underlying5 Try.underlying9 (fun j hj => by
    rw [Addr.add_lit]
    exact layW_at _ _ _ _ (fun j hj => hcell j (by rwa [leB_length] at hj)) j _ (List.getElem?_eq_getElem hj))
  rw [leB_length] at hcv
  have hsz : (leB k v).length = k := leB_length k v
  have hlay' := Lib.hid hlay
  have hk' := Lib.hid hk
  have hb : Below w.heap.size w (layW (w.alloc (.cells (madeCells #[.int .u8 0] k) 5)) w.heap.size 0 (leB k v)) := layW_below (Nat.le_refl _) _ _ ((Below.refl _ _).alloc (Nat.le_refl _) _)
  have hb' := Lib.hid hb
  clear hlay hk hcell hfr hb
  go_enter Try.func48, Try.ntmps48
  go_wp2_with (first | (go_at_call 65; refine (isWidth_any _ _).mono ?_; rintro e w' ⟨rfl, rfl⟩; rw [hk'.out]) | (go_at_call 75; refine hlay'.out.mono ?_; rintro e w' ⟨rfl, rfl⟩))
  go_ret
  exact ⟨rfl, hb'.out⟩
theorem put_no (l : List UInt8) (k : Int) (v : Nat) (w : World) (hk : isW k = false) :
    Calls Try.prog 48 #[.string ⟨l.toArray⟩, .int .i64 k, .int .u32 v] w fun e w' => e = .returned (.string ⟨l.toArray⟩) ∧ w = w' := by
  have hk' := Lib.hid hk
  clear hk
  go_enter Try.func48, Try.ntmps48
  go_wp2_with (go_at_call 65; refine (isWidth_any _ _).mono ?_; rintro e w' ⟨rfl, rfl⟩; rw [hk'.out])
  go_ret
  exact ⟨rfl, rfl⟩
end Go.Proofs.Ytpopfmboonjplaa
