/- Contracts of layer tags, in one form; what the laws ask first. No statement is proved here. -/
import Derived.Test.YtmfipabbdhfmcaaTagE
import Derived.Test.YtmfipabbdhfmcaaTagF
namespace Go.Proofs.Ytmfipabbdhfmcaa
open Go.RowKit
set_option linter.unusedVariables false

/-- A call on a map has answered v; the map is as g tells; nothing else has turned. -/
def Next (b wb n : Nat) (g : Nat → Bool) (w : World) (v : Value) (e : Ending) (W' : World) : Prop :=
  e = .returned v ∧ MapAt W' b wb n g ∧ Off w.heap.size wb w W'

section
variable {b wb n : Nat} {f g : Nat → Bool} {w : World}
theorem next_drew {v : Value} {e : Ending} {W' : World} (H : MapAt w b wb n f) (h : e = .returned v ∧ ∃ k, w.drewN k = W') : Next b wb n f w v e W' := by
  obtain ⟨rfl, k, rfl⟩ := h
  exact ⟨rfl, H.drewN k, (Off.refl _ _ _).drewN k⟩
theorem next_below {v : Value} {e : Ending} {W' : World} (H : MapAt w b wb n f) (h : e = .returned v ∧ Below w.heap.size w W') : Next b wb n f w v e W' :=
  ⟨h.1, H.below h.2 H.lb H.lw, Off.of_below h.2⟩
theorem len_u (H : MapAt w b wb n f) (v : Int) (hv : (n : Int) = v) : Calls Try.prog 66 #[.pointer (some ⟨b, 0, none⟩)] w (Next b wb n f w (.int .i64 v)) := by
  subst hv
  exact (len_any b wb n f w H).mono fun e W' h => next_drew H ⟨h.1, 0, h.2⟩
theorem put_u (H : MapAt w b wb n f) (a : Int) (v : Bool) (r : Bool) (hr : decide (0 ≤ a ∧ a < n) = r) (g : Nat → Bool) (hg : ∀ k, (if r then upd f a.toNat v else f) k = g k) :
    Calls Try.prog 63 #[.pointer (some ⟨b, 0, none⟩), .int .i64 a, .bool v] w (Next b wb n g w (.bool r)) := by
  cases r
  · have ha : a < 0 ∨ (n : Int) ≤ a := by have := of_decide_eq_false hr; omega
    have H' : MapAt w b wb n g := H.congr hg
    exact (tput_no b wb n g a v w H' ha).mono fun e W' h => next_drew H' ⟨h.1, 0, h.2⟩
  · have ha := of_decide_eq_true hr
    obtain ⟨a, rfl⟩ := Int.eq_ofNat_of_zero_le ha.1
    exact (tput_any b wb n f a v w H (by omega)).mono fun e W' h => ⟨h.1, h.2.1.congr hg, h.2.2⟩
theorem get_u (H : MapAt w b wb n f) (a : Int) (v : Bool) (hv : (decide (0 ≤ a ∧ a < n) && f a.toNat) = v) :
    Calls Try.prog 46 #[.pointer (some ⟨b, 0, none⟩), .int .i64 a] w (Next b wb n f w (.bool v)) := by
  subst hv
  by_cases ha : 0 ≤ a ∧ a < n
  · rw [decide_eq_true ha, Bool.true_and]
    obtain ⟨a, rfl⟩ := Int.eq_ofNat_of_zero_le ha.1
    exact (get_yes b wb n f a w H (by omega)).mono fun e W' h => next_drew H h
  · rw [decide_eq_false ha, Bool.false_and]
    exact (get_no b wb n f a w H (by omega)).mono fun e W' h => next_drew H h
end


def s0 : Nat → Bool := fun _ => false
def s1 : Nat → Bool := upd s0 3 true
def s2 : Nat → Bool := upd s1 70 true
def s3 : Nat → Bool := fun k => s2 k && !inr 0 70 k

end Go.Proofs.Ytmfipabbdhfmcaa
