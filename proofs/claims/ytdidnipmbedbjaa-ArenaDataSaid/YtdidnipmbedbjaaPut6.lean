/- A slice of stores that came in: what its cells hold. Plain lemmas. -/
import Derived.Test.YtdidnipmbedbjaaChecked
import Derived.Test.YtdidnipmbedbjaaMem
import Derived.Test.YtdidnipmbedbjaaFlat
import Derived.Deep.Slices
import Derived.Deep.Strs
import Derived.Below
namespace Go.Proofs.Ytdidnipmbedbjaa
open Go.ChangeShapes Go.WideShapes Go.Deep Go.RowKit
set_option linter.unusedVariables false

/-- A store's row of cells. -/
def prow (at_ wd v cu e b t pm ty rs : Nat) (va : Bool) : List Value := [.int .u16 at_, .int .u8 wd, .int .u32 v, .int .u32 cu, .int .u8 e, .int .u16 b, .int .u16 t, .int .u16 pm, .int .u16 ty, .int .u32 rs, .bool va]
/-- The slice's n elements are stores; they lie below block B. -/
def PutsIn (w : World) (B : Nat) (A : Option Addr) (n : Nat) : Prop :=
  ∀ i, i < n → ∃ bq off, A = some ⟨bq, off, none⟩ ∧ bq < B ∧ ∃ (at_ wd v cu e b t pm ty rs : Nat) (va : Bool), (at_ < 65536 ∧ wd < 256 ∧ v < 4294967296 ∧ cu < 4294967296 ∧ e < 256 ∧ b < 65536 ∧ t < 65536 ∧ pm < 65536 ∧ ty < 65536 ∧ rs < 4294967296) ∧
    ∀ j u, (prow at_ wd v cu e b t pm ty rs va)[j]? = some u → w.cell? ⟨bq, off + i * 11 + j, none⟩ = some u
theorem PutsIn.below {w w' : World} {B : Nat} {A : Option Addr} {n : Nat} (h : PutsIn w B A n) (hb : Below B w w') : PutsIn w' B A n := fun i hi => by
  obtain ⟨bq, off, e, hlt, at_, wd, v, cu, e', b, t, pm, ty, rs, va, h1, h3⟩ := h i hi
  exact ⟨bq, off, e, hlt, at_, wd, v, cu, e', b, t, pm, ty, rs, va, h1, fun j u hu => (hb.cell (p := ⟨bq, _, none⟩) hlt).trans (h3 j u hu)⟩
theorem cell_lt6 {w : World} {p : Addr} {v : Value} (h : w.cell? p = some v) : p.block < w.heap.size := by
  rcases Nat.lt_or_ge p.block w.heap.size with hlt | hge
  · exact hlt
  · simp [World.cell?, Array.getElem?_eq_none hge] at h

set_option maxRecDepth 100000 in
theorem puts_of {H : Type} {enc : TypeId × Value → H} {W : World} {base : Nat} {held : Bool} {r : Reach} {b0 : Nat} {v : Value} {d : DataW H} {ps : List MemPlace}
    (hv : Value.okWide Try.prog W r b0 60 v) (hd : DataW.Trod enc Try.prog W base (fun _ => true) held 60 v d ps) :
    ∃ A n cap, v = .slice A n cap ∧ n ≤ cap ∧ cap ≤ maxLen ∧ PutsIn W W.heap.size A n := by
  obtain ⟨a0, len, cap, rfl⟩ := okWide_slice Try.underlying60 hv
  obtain ⟨fuel, hf⟩ := hd
  rcases open_slice Try.underlying60 hf with ⟨hcs, _⟩ | ⟨a, l, c, m, n, D, Pl, hcs, _, hl, hm, hmm, _, hi⟩
  · simp [Value.cells] at hcs
    obtain ⟨rfl, rfl, rfl⟩ := hcs
    exact ⟨none, 0, 0, rfl, Nat.le_refl _, Nat.zero_le _, fun i hi => absurd hi (by omega)⟩
  · simp [Value.cells] at hcs
    obtain ⟨rfl, rfl, rfl⟩ := hcs
    refine ⟨some a, len, cap, rfl, hl, hm, fun i hlt => ?_⟩
    have hC : Try.prog.cellsOf 63 = 11 := by kernel_rfl
    obtain ⟨cs, hc, ht⟩ := hi i (by rw [hmm]; simp; omega)
    rw [hC] at hc
    obtain ⟨_, hcl, hat⟩ := World.cells?_some hc
    have hF := lay_fit 6 63 [some .u16, some .u8, some .u32, some .u32, some .u8, some .u16, some .u16, some .u16, some .u16, some .u32, none] (by kernel_rfl) _ cs _ ht
    obtain ⟨_, _, rfl, ⟨x0, rfl, w0⟩, _, _, rfl, ⟨x1, rfl, w1⟩, _, _, rfl, ⟨x2, rfl, w2⟩, _, _, rfl, ⟨x3, rfl, w3⟩, _, _, rfl, ⟨x4, rfl, w4⟩, _, _, rfl, ⟨x5, rfl, w5⟩, _, _, rfl, ⟨x6, rfl, w6⟩, _, _, rfl, ⟨x7, rfl, w7⟩, _, _, rfl, ⟨x8, rfl, w8⟩, _, _, rfl, ⟨x9, rfl, w9⟩, _, _, rfl, ⟨x10, rfl⟩, rfl⟩ := hF
    obtain ⟨bq, off, spot⟩ := a
    have hspot : spot = none := by
      obtain ⟨cs', hc', _⟩ := hi 0 (by rw [hmm]; simp; omega)
      rw [hC] at hc'
      obtain ⟨_, hcl', hat'⟩ := World.cells?_some hc'
      have h0 := hat' 0 (by omega)
      rw [List.getElem?_eq_getElem (by omega)] at h0
      have := World.cell?_spot h0
      simpa [Addr.add] using this
    subst hspot
    have b0 := bounds_u16 w0
    have b1 := bounds_u8 w1
    have b2 := bounds_u32 w2
    have b3 := bounds_u32 w3
    have b4 := bounds_u8 w4
    have b5 := bounds_u16 w5
    have b6 := bounds_u16 w6
    have b7 := bounds_u16 w7
    have b8 := bounds_u16 w8
    have b9 := bounds_u32 w9
    obtain ⟨x0, rfl⟩ := Int.eq_ofNat_of_zero_le b0.1
    obtain ⟨x1, rfl⟩ := Int.eq_ofNat_of_zero_le b1.1
    obtain ⟨x2, rfl⟩ := Int.eq_ofNat_of_zero_le b2.1
    obtain ⟨x3, rfl⟩ := Int.eq_ofNat_of_zero_le b3.1
    obtain ⟨x4, rfl⟩ := Int.eq_ofNat_of_zero_le b4.1
    obtain ⟨x5, rfl⟩ := Int.eq_ofNat_of_zero_le b5.1
    obtain ⟨x6, rfl⟩ := Int.eq_ofNat_of_zero_le b6.1
    obtain ⟨x7, rfl⟩ := Int.eq_ofNat_of_zero_le b7.1
    obtain ⟨x8, rfl⟩ := Int.eq_ofNat_of_zero_le b8.1
    obtain ⟨x9, rfl⟩ := Int.eq_ofNat_of_zero_le b9.1
    have hcell : ∀ j u, (prow x0 x1 x2 x3 x4 x5 x6 x7 x8 x9 x10)[j]? = some u → W.cell? ⟨bq, off + i * 11 + j, none⟩ = some u := fun j u hu => by
      have hj : j < 11 := by have := (List.getElem?_eq_some_iff.1 hu).1; simpa [prow] using this
      have h1 := hat j (by omega)
      simp only [Addr.add_lit] at h1
      rw [h1]
      exact hu
    have hlt := cell_lt6 (hcell 0 _ rfl)
    exact ⟨bq, off, rfl, hlt, x0, x1, x2, x3, x4, x5, x6, x7, x8, x9, x10, ⟨by omega, by omega, by omega, by omega, by omega, by omega, by omega, by omega, by omega, by omega⟩, hcell⟩
end Go.Proofs.Ytdidnipmbedbjaa
