/- Contracts of the document own answers for layer octet (fallowref01), and of the law package helper. -/
import Derived.Test.YtpopfmboonjplaaOctB
namespace Go.Proofs.Ytpopfmboonjplaa
open Go.RowKit
set_option linter.unusedVariables false
theorem leB_snocV (v : Nat) : ∀ j, leB (j + 1) v = leB j v ++ [UInt8.ofNat (v / 256 ^ j)] := by
  intro j
  induction j generalizing v with
  | zero => simp [leB]
  | succ j ih =>
    rw [leB, ih (v / 256), leB]
    simp [Nat.div_div_eq_div_mul, Nat.pow_succ, Nat.mul_comm]
theorem ret_str {a b : List UInt8} (h : a = b) : Ending.returned (.string ⟨a.toArray⟩) = .returned (.string ⟨b.toArray⟩) := by rw [h]
theorem drewN_rfl (w : World) : w.drewN 0 = w := rfl
theorem le_step (l : List UInt8) (a k j : Nat) (h : a + k ≤ l.length) (hj : j < k) :
    le ((l.drop (a + j)).take (k - j)) = (l[a + j]'(by omega)).toNat + 256 * le ((l.drop (a + (j + 1))).take (k - (j + 1))) := by
  rw [List.drop_eq_getElem_cons (by omega), show k - j = (k - (j + 1)) + 1 from by omega, List.take_succ_cons, le, Nat.add_assoc]
theorem below3 {a b c d : World} (h1 : Below a.heap.size a b) (h2 : Below b.heap.size b c) (h3 : Below c.heap.size c d) : Below a.heap.size a d :=
  have h12 := h1.trans (h2.mono h1.size)
  h12.trans (h3.mono h12.size)
def putB (l : List UInt8) (k : Int) (v : Nat) : List UInt8 := if isW k then l ++ leB k.toNat v else l
theorem put_any (l : List UInt8) (k : Int) (v : Nat) (w : World) (hl : l.length ≤ 8000000) (hv : v < 4294967296) :
    Calls Try.prog 48 #[.string ⟨l.toArray⟩, .int .i64 k, .int .u32 v] w fun e w' => e = .returned (.string ⟨(putB l k v).toArray⟩) ∧ Below w.heap.size w w' := by
  unfold putB
  rcases hk : isW k with _ | _
  · exact (put_no l k v w hk).mono fun e w' ⟨h1, h2⟩ => ⟨h1, by rw [← h2]; exact Below.refl _ _⟩
  · have hw := isW_cases hk
    obtain ⟨k, rfl⟩ := Int.eq_ofNat_of_zero_le (show 0 ≤ k by omega)
    exact put_yes l k v w hl hv hk
end Go.Proofs.Ytpopfmboonjplaa
