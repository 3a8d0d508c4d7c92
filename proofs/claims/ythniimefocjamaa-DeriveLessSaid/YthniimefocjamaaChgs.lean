/- A slice of changes that came in: what its cells hold. Plain lemmas. -/
import Derived.Test.YthniimefocjamaaDerY
import Derived.Test.YthniimefocjamaaFlat
import Derived.Deep.Slices
import Derived.Deep.Strs
namespace Go.Proofs.Ythniimefocjamaa
open Go.ChangeShapes Go.WideShapes Go.Deep Go.RowKit
set_option linter.unusedVariables false

/-- A change's row of cells. -/
def xrow (wh : Int) (v : Nat) (y : Cp) : List Value := [.int .i64 wh, .int .u32 v, .int .u32 y.cu, .int .u8 y.e, .int .u16 y.b, .int .u16 y.t, .int .u16 y.pm, .int .u16 y.ty, .int .u32 y.rs, .bool y.va]
/-- The slice's n elements are changes; they lie below block B. -/
def ChgsIn (w : World) (B : Nat) (A : Option Addr) (n : Nat) : Prop :=
  ∀ i, i < n → ∃ b off, A = some ⟨b, off, none⟩ ∧ b < B ∧ ∃ (wh : Int) (v : Nat) (y : Cp), y.fit ∧ v < 4294967296 ∧ ∀ j u, (xrow wh v y)[j]? = some u → w.cell? ⟨b, off + i * 10 + j, none⟩ = some u
theorem ChgsIn.below {w w' : World} {B : Nat} {A : Option Addr} {n : Nat} (h : ChgsIn w B A n) (hb : Below B w w') : ChgsIn w' B A n := fun i hi => by
  obtain ⟨b, off, e, hlt, wh, v, y, h1, h2, h3⟩ := h i hi
  exact ⟨b, off, e, hlt, wh, v, y, h1, h2, fun j u hu => (hb.cell (p := ⟨b, _, none⟩) hlt).trans (h3 j u hu)⟩
theorem cell_lt {w : World} {p : Addr} {v : Value} (h : w.cell? p = some v) : p.block < w.heap.size := by
  rcases Nat.lt_or_ge p.block w.heap.size with hlt | hge
  · exact hlt
  · simp [World.cell?, Array.getElem?_eq_none hge] at h

set_option maxRecDepth 100000 in
theorem chgs_of {H : Type} {enc : TypeId × Value → H} {W : World} {base : Nat} {held : Bool} {r : Reach} {b0 : Nat} {v : Value} {d : DataW H} {ps : List MemPlace}
    (hv : Value.okWide Try.prog W r b0 44 v) (hd : DataW.Trod enc Try.prog W base (fun _ => true) held 44 v d ps) :
    ∃ A n cap, v = .slice A n cap ∧ n ≤ cap ∧ cap ≤ maxLen ∧ ChgsIn W W.heap.size A n := by
  obtain ⟨a0, len, cap, rfl⟩ := okWide_slice Try.underlying44 hv
  obtain ⟨fuel, hf⟩ := hd
  rcases open_slice Try.underlying44 hf with ⟨hcs, _⟩ | ⟨a, l, c, m, n, D, Pl, hcs, _, hl, hm, hmm, _, hi⟩
  · simp [Value.cells] at hcs
    obtain ⟨rfl, rfl, rfl⟩ := hcs
    exact ⟨none, 0, 0, rfl, Nat.le_refl _, Nat.zero_le _, fun i hi => absurd hi (by omega)⟩
  · simp [Value.cells] at hcs
    obtain ⟨rfl, rfl, rfl⟩ := hcs
    refine ⟨some a, len, cap, rfl, hl, hm, fun i hlt => ?_⟩
    have hC : Try.prog.cellsOf 48 = 10 := by kernel_rfl
    obtain ⟨cs, hc, ht⟩ := hi i (by rw [hmm]; simp; omega)
    rw [hC] at hc
    obtain ⟨_, hcl, hat⟩ := World.cells?_some hc
    have hF := lay_fit 6 48 [some .i64, some .u32, some .u32, some .u8, some .u16, some .u16, some .u16, some .u16, some .u32, none] (by kernel_rfl) _ cs _ ht
    obtain ⟨_, _, rfl, ⟨x0, rfl, w0⟩, _, _, rfl, ⟨x1, rfl, w1⟩, _, _, rfl, ⟨x2, rfl, w2⟩, _, _, rfl, ⟨x3, rfl, w3⟩, _, _, rfl, ⟨x4, rfl, w4⟩, _, _, rfl, ⟨x5, rfl, w5⟩, _, _, rfl, ⟨x6, rfl, w6⟩, _, _, rfl, ⟨x7, rfl, w7⟩, _, _, rfl, ⟨x8, rfl, w8⟩, _, _, rfl, ⟨x9, rfl⟩, rfl⟩ := hF
    obtain ⟨b, off, spot⟩ := a
    have hspot : spot = none := by
      obtain ⟨cs', hc', _⟩ := hi 0 (by rw [hmm]; simp; omega)
      rw [hC] at hc'
      obtain ⟨_, hcl', hat'⟩ := World.cells?_some hc'
      have h0 := hat' 0 (by omega)
      rw [List.getElem?_eq_getElem (by omega)] at h0
      have := World.cell?_spot h0
      simpa [Addr.add] using this
    subst hspot
    have b1 := bounds_u32 w1
    have b2 := bounds_u32 w2
    have b3 := bounds_u8 w3
    have b4 := bounds_u16 w4
    have b5 := bounds_u16 w5
    have b6 := bounds_u16 w6
    have b7 := bounds_u16 w7
    have b8 := bounds_u32 w8
    obtain ⟨x1, rfl⟩ := Int.eq_ofNat_of_zero_le b1.1
    obtain ⟨x2, rfl⟩ := Int.eq_ofNat_of_zero_le b2.1
    obtain ⟨x3, rfl⟩ := Int.eq_ofNat_of_zero_le b3.1
    obtain ⟨x4, rfl⟩ := Int.eq_ofNat_of_zero_le b4.1
    obtain ⟨x5, rfl⟩ := Int.eq_ofNat_of_zero_le b5.1
    obtain ⟨x6, rfl⟩ := Int.eq_ofNat_of_zero_le b6.1
    obtain ⟨x7, rfl⟩ := Int.eq_ofNat_of_zero_le b7.1
    obtain ⟨x8, rfl⟩ := Int.eq_ofNat_of_zero_le b8.1
    have hcell : ∀ j u, (xrow x0 x1 ⟨x2, x3, x4, x5, x6, x7, x8, x9⟩)[j]? = some u → W.cell? ⟨b, off + i * 10 + j, none⟩ = some u := fun j u hu => by
      have hj : j < 10 := by have := (List.getElem?_eq_some_iff.1 hu).1; simpa [xrow] using this
      have h1 := hat j (by omega)
      simp only [Addr.add_lit] at h1
      rw [h1]
      exact hu
    have hlt := cell_lt (hcell 0 _ rfl)
    exact ⟨b, off, rfl, hlt, x0, x1, ⟨x2, x3, x4, x5, x6, x7, x8, x9⟩, ⟨by show x2 < _; omega, by show x3 < _; omega, by show x4 < _; omega, by show x5 < _; omega, by show x6 < _; omega, by show x7 < _; omega, by show x8 < _; omega⟩, by omega, hcell⟩
end Go.Proofs.Ythniimefocjamaa
