/- What HeapApart asks of regions. No statement is proved here. -/
import Derived.Test.YticfpnhfhhagpaaDoorHpU
namespace Go.Proofs.YticfpnhfhhagpaaDoor
set_option maxRecDepth 100000
open Go.RowKit Go.Shelf Go.Maps
set_option linter.unusedVariables false
theorem ex16 {b t : Nat} (hb : b % 16 = 0) (ht : t % 16 = 0) (h : b ≤ t) (h2 : t ≤ 4294967296) (h3 : t - b ≤ 32768) : enX b t = true := by
  have d1 : (2 : Nat) ^ 4 ∣ b := by rw [show (2 : Nat) ^ 4 = 16 from by decide]; omega
  have d2 : (2 : Nat) ^ 4 ∣ t := by rw [show (2 : Nat) ^ 4 = 16 from by decide]; omega
  have ho : okE b t 4 := by
    unfold okE
    rw [up_of_dvd (pow_pos2 4) d2, dn_of_dvd d1]
    have : (2 : Nat) ^ 4 = 16 := by decide
    omega
  have he : expo b t ≤ 4 := by
    rcases Nat.lt_or_ge 4 (expo b t) with h' | h'
    · exact absurd ho (expo_least b h2 4 h')
    · exact h'
  have d3 : 2 ^ expo b t ∣ b := Nat.dvd_trans (Nat.pow_dvd_pow 2 he) d1
  have d4 : 2 ^ expo b t ∣ t := Nat.dvd_trans (Nat.pow_dvd_pow 2 he) d2
  rw [enX_of h h2, rdB_of h h2, rdT_of h h2, dn_of_dvd d3, up_of_dvd (pow_pos2 _) d4]
  simp
theorem com_apart {r q : Rg} (h : r.1 + r.2 ≤ q.1 ∨ q.1 + q.2 ≤ r.1) : comB r q.1 q.2 = false := by
  unfold comB
  exact decide_eq_false (by omega)
theorem szp_ge : ∀ j : Fin 19, 1 + 37 * j.val ≤ szP (1 + 37 * j.val) := by decide +kernel
theorem mal_cases (p0 p1 : Nat) (X : List Rg) (s : Nat) : (∃ r, malO p0 p1 X s = some r ∧ malE p0 p1 X s = 0 ∧ r.2 = szP s) ∨ (malO p0 p1 X s = none ∧ (malE p0 p1 X s = 6 ∨ malE p0 p1 X s = 7)) := by
  unfold malO malE
  cases szO s ((p1 - p0) * 256)
  · exact .inr ⟨rfl, .inl rfl⟩
  · cases takeV p0 p1 X (szP s)
    · exact .inr ⟨rfl, .inr rfl⟩
    · exact .inl ⟨_, rfl, rfl, rfl⟩
end Go.Proofs.YticfpnhfhhagpaaDoor
