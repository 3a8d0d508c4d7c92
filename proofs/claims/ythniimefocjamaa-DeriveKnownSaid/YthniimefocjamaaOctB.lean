/- Contracts of octet's Get, Set, Put, and of the document's own. -/
import Derived.Test.YthniimefocjamaaOctA
import Derived.Deep.OwnRows
namespace Go.Proofs.Ythniimefocjamaa
open Go.RowKit
set_option linter.unusedVariables false

def inB (n : Nat) (at_ k : Int) : Bool := isW k && decide (0 ≤ at_) && decide (at_ + k ≤ (n : Int))
theorem inB_yes {n : Nat} {at_ k : Int} (h : inB n at_ k = true) : isW k = true ∧ 0 ≤ at_ ∧ at_ + k ≤ n := by simpa [inB, and_assoc] using h
theorem inB_no {n : Nat} {at_ k : Int} (h : inB n at_ k = false) (hk : isW k = true) : at_ < 0 ∨ k > (n : Int) - at_ := by
  simp [inB, hk] at h
  rcases Int.lt_or_le at_ 0 with h0 | h0
  · exact .inl h0
  · exact .inr (by have := h h0; omega)

theorem field_no (A : Option Addr) (n cap : Nat) (at_ k : Int) (w : World) (hn : n ≤ 1000000000) (ha : at_ < 9223372036854775808) (h : inB n at_ k = false) :
    Calls Try.prog 101 #[.slice A n cap, .int .i64 at_, .int .i64 k] w fun e w' => e = .returned (.tuple #[.slice none 0 0, .bool false]) ∧ w = w' := by
  rcases hk : isW k with _ | _
  · have hk' := Lib.hid hk
    clear hk
    go_enter Try.func101, Try.ntmps101
    go_wp2_with (go_at_call 77; refine (isWidth_any _ _).mono ?_; rintro e w' ⟨rfl, rfl⟩; rw [hk'.out])
    go_ret2
    exact ⟨rfl, rfl⟩
  · have hc := cut_no A n cap at_ k w hn ha (by have := inB_no h hk; omega)
    have hk' := Lib.hid hk
    clear hk
    go_enter Try.func101, Try.ntmps101
    go_wp2_with (first | (go_at_call 77; refine (isWidth_any _ _).mono ?_; rintro e w' ⟨rfl, rfl⟩; rw [hk'.out]) | (go_at_call 97; refine hc.mono ?_; rintro e w' ⟨rfl, rfl⟩))
    go_ret2
    exact ⟨rfl, rfl⟩
theorem field_yes (b off n cap : Nat) (at_ k : Nat) (w : World) (hn : n ≤ 1000000000) (hcap : n ≤ cap) (h : isW (k : Int) = true) (hb : at_ + k ≤ n) :
    Calls Try.prog 101 #[.slice (some ⟨b, off, none⟩) n cap, .int .i64 at_, .int .i64 k] w fun e w' => e = .returned (.tuple #[.slice (some ⟨b, off + at_, none⟩) k k, .bool true]) ∧ w = w' := by
  have hc := cut_yes b off n cap at_ k w hn hcap hb (by have := isW_cases h; omega)
  have hk' := Lib.hid h
  clear h
  go_enter Try.func101, Try.ntmps101
  go_wp2_with (first | (go_at_call 77; refine (isWidth_any _ _).mono ?_; rintro e w' ⟨rfl, rfl⟩; rw [hk'.out]) | (go_at_call 97; refine hc.mono ?_; rintro e w' ⟨rfl, rfl⟩))
  go_ret2
  exact ⟨rfl, rfl⟩

/-- What Get answers. -/
def getB (l : List UInt8) (at_ k : Int) : Nat := if inB l.length at_ k then le ((l.drop at_.toNat).take k.toNat) else 0

theorem info_u8 : (Try.prog.info? 5).map (fun i => (i.zero, i.size, i.bytes)) = some (some (.int .u8 0), 1, 1) := by kernel_rfl

end Go.Proofs.Ythniimefocjamaa
