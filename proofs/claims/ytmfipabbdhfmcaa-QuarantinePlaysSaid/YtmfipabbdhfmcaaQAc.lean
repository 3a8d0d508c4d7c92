/- A slice of steps that came in (quarantine): what its cells hold. Plain lemmas. -/
import Derived.Test.YtmfipabbdhfmcaaChecked
import Derived.Test.YtmfipabbdhfmcaaMem
import Derived.Test.YtmfipabbdhfmcaaFlat
import Derived.Deep.Slices
import Derived.Below
namespace Go.Proofs.Ytmfipabbdhfmcaa.Qu
open Go.ChangeShapes Go.WideShapes Go.Deep Go.RowKit
set_option linter.unusedVariables false

/-- A number of 64 bits. -/
def i64A (x : Int) : Prop := -9223372036854775808 ≤ x ∧ x < 9223372036854775808
/-- The slice's n elements are steps; they lie below block B. -/
def ActsIn (w : World) (B : Nat) (A : Option Addr) (n : Nat) : Prop :=
  ∀ i, i < n → ∃ bq off, A = some ⟨bq, off, none⟩ ∧ bq < B ∧ ∃ (x0 : Int) (x1 x2 : Nat), (i64A x0 ∧ x1 < 4294967296 ∧ x2 < 4294967296) ∧ w.cell? ⟨bq, off + i * 3, none⟩ = some (.int .i64 x0) ∧ w.cell? ⟨bq, off + i * 3 + 1, none⟩ = some (.int .u32 x1) ∧ w.cell? ⟨bq, off + i * 3 + 2, none⟩ = some (.int .u32 x2)
theorem ActsIn.below {w w' : World} {B : Nat} {A : Option Addr} {n : Nat} (h : ActsIn w B A n) (hb : Below B w w') : ActsIn w' B A n := fun i hi => by
  obtain ⟨bq, off, e, hlt, x0, x1, x2, h1, c0, c1, c2⟩ := h i hi
  exact ⟨bq, off, e, hlt, x0, x1, x2, h1, (hb.cell (p := ⟨bq, _, none⟩) hlt).trans c0, (hb.cell (p := ⟨bq, _, none⟩) hlt).trans c1, (hb.cell (p := ⟨bq, _, none⟩) hlt).trans c2⟩
theorem cell_ltA {w : World} {p : Addr} {v : Value} (h : w.cell? p = some v) : p.block < w.heap.size := by
  rcases Nat.lt_or_ge p.block w.heap.size with hlt | hge
  · exact hlt
  · simp [World.cell?, Array.getElem?_eq_none hge] at h
set_option maxRecDepth 100000 in
theorem acts_of {H : Type} {enc : TypeId × Value → H} {W : World} {base : Nat} {held : Bool} {r : Reach} {b0 : Nat} {v : Value} {d : DataW H} {ps : List MemPlace}
    (hv : Value.okWide Try.prog W r b0 22 v) (hd : DataW.Trod enc Try.prog W base (fun _ => true) held 22 v d ps) :
    ∃ A n cap, v = .slice A n cap ∧ n ≤ cap ∧ cap ≤ maxLen ∧ ActsIn W W.heap.size A n := by
  obtain ⟨a0, len, cap, rfl⟩ := okWide_slice Try.underlying22 hv
  obtain ⟨fuel, hf⟩ := hd
  rcases open_slice Try.underlying22 hf with ⟨hcs, _⟩ | ⟨a, l, c, m, n, D, Pl, hcs, _, hl, hm, hmm, _, hi⟩
  · simp [Value.cells] at hcs
    obtain ⟨rfl, rfl, rfl⟩ := hcs
    exact ⟨none, 0, 0, rfl, Nat.le_refl _, Nat.zero_le _, fun i hi => absurd hi (by omega)⟩
  · simp [Value.cells] at hcs
    obtain ⟨rfl, rfl, rfl⟩ := hcs
    refine ⟨some a, len, cap, rfl, hl, hm, fun i hlt => ?_⟩
    have hC : Try.prog.cellsOf 35 = 3 := by kernel_rfl
    obtain ⟨cs, hc, ht⟩ := hi i (by rw [hmm]; simp; omega)
    rw [hC] at hc
    obtain ⟨_, hcl, hat⟩ := World.cells?_some hc
    have hF := lay_fit 6 35 [some .i64, some .u32, some .u32] (by kernel_rfl) _ cs _ ht
    obtain ⟨_, _, rfl, ⟨x0, rfl, w0⟩, _, _, rfl, ⟨x1, rfl, w1⟩, _, _, rfl, ⟨x2, rfl, w2⟩, rfl⟩ := hF
    obtain ⟨b, off, spot⟩ := a
    have hspot : spot = none := by
      obtain ⟨cs', hc', _⟩ := hi 0 (by rw [hmm]; simp; omega)
      rw [hC] at hc'
      obtain ⟨_, hcl', hat'⟩ := World.cells?_some hc'
      have h0 := hat' 0 (by omega)
      rw [List.getElem?_eq_getElem (by omega)] at h0
      have := World.cell?_spot h0
      simpa [Addr.add] using this
    subst hspot
    have b0 := bounds_i64 w0
    have b1 := bounds_u32 w1
    have b2 := bounds_u32 w2
    obtain ⟨x1, rfl⟩ := Int.eq_ofNat_of_zero_le b1.1
    obtain ⟨x2, rfl⟩ := Int.eq_ofNat_of_zero_le b2.1
    have hcell : ∀ (j : Nat) (u : Value), j < 3 → [Value.int .i64 x0, .int .u32 x1, .int .u32 x2][j]? = some u → W.cell? ⟨b, off + i * 3 + j, none⟩ = some u := fun j u hj hu => by
      have h1 := hat j (by omega)
      simp only [Addr.add_lit] at h1
      rw [h1]
      exact hu
    have c0 := hcell 0 _ (by omega) rfl
    exact ⟨b, off, rfl, cell_ltA c0, x0, x1, x2, ⟨⟨by omega, by omega⟩, by omega, by omega⟩, c0, hcell 1 _ (by omega) rfl, hcell 2 _ (by omega) rfl⟩
end Go.Proofs.Ytmfipabbdhfmcaa.Qu
