/- A slice of places that came in: what its cells hold. Plain lemmas. -/
import Derived.Test.YtedhpjolbgfdeaaChecked
import Derived.Test.YtedhpjolbgfdeaaMem
import Derived.Deep.Slices
import Derived.Deep.Strs
import Derived.Below
import Derived.ChangeSame
import Derived.ProofKit
import Derived.OpenShut
namespace Go.Proofs.Ytedhpjolbgfdeaa
open Go.ChangeShapes Go.WideShapes Go.Deep Go.RowKit
set_option linter.unusedVariables false

/-- The slice's n elements are places; they lie below block B. -/
def PlacesIn (w : World) (B : Nat) (A : Option Addr) (n : Nat) : Prop :=
  ∀ i, i < n → ∃ b off, A = some ⟨b, off, none⟩ ∧ b < B ∧ ∃ (x y : Int) (v : Nat), w.cell? ⟨b, off + i * 3, none⟩ = some (.int .i64 x) ∧ w.cell? ⟨b, off + i * 3 + 1, none⟩ = some (.int .i64 y) ∧ w.cell? ⟨b, off + i * 3 + 2, none⟩ = some (.int .u32 (v : Int)) ∧
    (-9223372036854775808 ≤ x ∧ x < 9223372036854775808) ∧ (-9223372036854775808 ≤ y ∧ y < 9223372036854775808) ∧ v < 4294967296
theorem PlacesIn.below {w w' : World} {B : Nat} {A : Option Addr} {n : Nat} (h : PlacesIn w B A n) (hb : Below B w w') : PlacesIn w' B A n := fun i hi => by
  obtain ⟨b, off, e, hlt, x, y, v, h1, h2, h3, r⟩ := h i hi
  exact ⟨b, off, e, hlt, x, y, v, (hb.cell (p := ⟨b, _, none⟩) hlt).trans h1, (hb.cell (p := ⟨b, _, none⟩) hlt).trans h2, (hb.cell (p := ⟨b, _, none⟩) hlt).trans h3, r⟩
theorem lt_of_cell {w : World} {p : Addr} {v : Value} (h : w.cell? p = some v) : p.block < w.heap.size := by
  rcases Nat.lt_or_ge p.block w.heap.size with hlt | hge
  · exact hlt
  · simp [World.cell?, Array.getElem?_eq_none hge] at h

theorem places_of {H : Type} {enc : TypeId × Value → H} {W : World} {base : Nat} {held : Bool} {r : Reach} {b0 : Nat} {v : Value} {d : DataW H} {ps : List MemPlace}
    (hv : Value.okWide Try.prog W r b0 37 v) (hd : DataW.Trod enc Try.prog W base (fun _ => true) held 37 v d ps) :
    ∃ A n cap, v = .slice A n cap ∧ n ≤ cap ∧ cap ≤ maxLen ∧ PlacesIn W W.heap.size A n := by
  obtain ⟨a0, len, cap, rfl⟩ := okWide_slice Try.underlying37 hv
  obtain ⟨fuel, hf⟩ := hd
  rcases open_slice Try.underlying37 hf with ⟨hcs, _⟩ | ⟨a, l, c, m, n, D, Pl, hcs, _, hl, hm, hmm, _, hi⟩
  · simp [Value.cells] at hcs
    obtain ⟨rfl, rfl, rfl⟩ := hcs
    exact ⟨none, 0, 0, rfl, Nat.le_refl _, Nat.zero_le _, fun i hi => absurd hi (by omega)⟩
  · simp [Value.cells] at hcs
    obtain ⟨rfl, rfl, rfl⟩ := hcs
    refine ⟨some a, len, cap, rfl, hl, hm, fun i hlt => ?_⟩
    have hC : Try.prog.cellsOf 32 = 3 := by kernel_rfl
    have hC0 : Try.prog.cellsOf 3 = 1 := by kernel_rfl
    have hC1 : Try.prog.cellsOf 22 = 1 := by kernel_rfl
    obtain ⟨cs, hc, ht⟩ := hi i (by rw [hmm]; simp; omega)
    rw [hC] at hc
    obtain ⟨_, hcl, hat⟩ := World.cells?_some hc
    obtain ⟨y0, y1, y2, _, _, _, t0, t1, t2⟩ := trod_struct3 Try.underlying32 ht
    match cs, hcl with
    | [u0, u1, u2], _ =>
      simp only [hC0, hC1] at t0 t1 t2
      obtain ⟨x, e0, _, w0⟩ := DataW.trod_int Try.underlying3 t0
      obtain ⟨y, e1, _, w1⟩ := DataW.trod_int Try.underlying3 t1
      obtain ⟨z, e2, _, w2⟩ := DataW.trod_int Try.underlying22 t2
      simp at e0 e1 e2
      subst e0 e1 e2
      have c0 := hat 0 (by omega)
      have c1 := hat 1 (by omega)
      have c2 := hat 2 (by omega)
      simp at c0 c1 c2
      obtain ⟨b, off, spot⟩ := a
      have hspot : spot = none := by
        obtain ⟨cs', hc', _⟩ := hi 0 (by rw [hmm]; simp; omega)
        rw [hC] at hc'
        obtain ⟨_, hcl', hat'⟩ := World.cells?_some hc'
        have h0 := hat' 0 (by omega)
        rw [List.getElem?_eq_getElem (by omega)] at h0
        have := World.cell?_spot h0
        simpa [Addr.add] using this
      subst hspot
      have b0 := bounds_i64 w0
      have b1 := bounds_i64 w1
      have b2 := bounds_u32 w2
      obtain ⟨z, rfl⟩ := Int.eq_ofNat_of_zero_le b2.1
      have hlt := lt_of_cell c0
      simp only [Addr.add_lit] at c0 c1 c2 hlt
      exact ⟨b, off, rfl, hlt, x, y, z, by simpa using c0, by simpa [Nat.add_assoc] using c1, by simpa [Nat.add_assoc] using c2, by omega, by omega, by omega⟩
end Go.Proofs.Ytedhpjolbgfdeaa
