/- A slice of steps that came in: what its cells hold. Plain lemmas. -/
import Derived.Test.YtpopfmboonjplaaChecked
import Derived.Test.YtpopfmboonjplaaMem
import Derived.Test.YtpopfmboonjplaaFlat
import Derived.Deep.Slices
import Derived.Deep.Strs
import Derived.Below
namespace Go.Proofs.Ytpopfmboonjplaa
open Go.ChangeShapes Go.WideShapes Go.Deep Go.RowKit
set_option linter.unusedVariables false

/-- A step's row of cells. -/
def drow (kd : Int) (at_ : Nat) (wd : Int) (v cu e b t pm ty rs : Nat) (va : Bool) (s : List UInt8) : List Value :=
  [.int .i64 kd, .int .u32 at_, .int .i64 wd, .int .u32 v, .int .u32 cu, .int .u8 e, .int .u16 b, .int .u16 t, .int .u16 pm, .int .u16 ty, .int .u32 rs, .bool va, .string ⟨s.toArray⟩]
/-- What a step's numbers may be. -/
def DoOk (kd : Int) (at_ : Nat) (wd : Int) (v cu e b t pm ty rs : Nat) (s : List UInt8) : Prop :=
  (-9223372036854775808 ≤ kd ∧ kd < 9223372036854775808) ∧ (-9223372036854775808 ≤ wd ∧ wd < 9223372036854775808) ∧ at_ < 4294967296 ∧ v < 4294967296 ∧ cu < 4294967296 ∧ e < 256 ∧ b < 65536 ∧ t < 65536 ∧ pm < 65536 ∧ ty < 65536 ∧ rs < 4294967296 ∧ s.length < 9223372036854775808
/-- The slice's n elements are steps; they lie below block B. -/
def DosIn (w : World) (B : Nat) (A : Option Addr) (n : Nat) : Prop :=
  ∀ i, i < n → ∃ bq off, A = some ⟨bq, off, none⟩ ∧ bq < B ∧ ∃ (kd : Int) (at_ : Nat) (wd : Int) (v cu e b t pm ty rs : Nat) (va : Bool) (s : List UInt8), DoOk kd at_ wd v cu e b t pm ty rs s ∧
    ∀ j u, (drow kd at_ wd v cu e b t pm ty rs va s)[j]? = some u → w.cell? ⟨bq, off + i * 13 + j, none⟩ = some u
theorem DosIn.below {w w' : World} {B : Nat} {A : Option Addr} {n : Nat} (h : DosIn w B A n) (hb : Below B w w') : DosIn w' B A n := fun i hi => by
  obtain ⟨bq, off, e, hlt, kd, at_, wd, v, cu, e', b, t, pm, ty, rs, va, s, h1, h3⟩ := h i hi
  exact ⟨bq, off, e, hlt, kd, at_, wd, v, cu, e', b, t, pm, ty, rs, va, s, h1, fun j u hu => (hb.cell (p := ⟨bq, _, none⟩) hlt).trans (h3 j u hu)⟩
theorem cell_lt7 {w : World} {p : Addr} {v : Value} (h : w.cell? p = some v) : p.block < w.heap.size := by
  rcases Nat.lt_or_ge p.block w.heap.size with hlt | hge
  · exact hlt
  · simp [World.cell?, Array.getElem?_eq_none hge] at h
theorem take_at {α : Type} {cs L : List α} {k n : Nat} (h : (cs.drop k).take n = L) (j : Nat) (u : α) (hu : L[j]? = some u) : cs[k + j]? = some u := by
  rw [← h] at hu
  rw [List.getElem?_take] at hu
  split at hu
  · rw [List.getElem?_drop] at hu; exact hu
  · cases hu

set_option maxRecDepth 100000 in
theorem dos_of {H : Type} {enc : TypeId × Value → H} {W : World} {base : Nat} {held : Bool} {r : Reach} {b0 : Nat} {v : Value} {d : DataW H} {ps : List MemPlace}
    (hv : Value.okWide Try.prog W r b0 40 v) (hd : DataW.Trod enc Try.prog W base (fun _ => true) held 40 v d ps) :
    ∃ A n cap, v = .slice A n cap ∧ n ≤ cap ∧ cap ≤ maxLen ∧ DosIn W W.heap.size A n := by
  obtain ⟨a0, len, cap, rfl⟩ := okWide_slice Try.underlying40 hv
  obtain ⟨fuel, hf⟩ := hd
  rcases open_slice Try.underlying40 hf with ⟨hcs, _⟩ | ⟨a, l, c, m, n, D, Pl, hcs, _, hl, hm, hmm, _, hi⟩
  · simp [Value.cells] at hcs
    obtain ⟨rfl, rfl, rfl⟩ := hcs
    exact ⟨none, 0, 0, rfl, Nat.le_refl _, Nat.zero_le _, fun i hi => absurd hi (by omega)⟩
  · simp [Value.cells] at hcs
    obtain ⟨rfl, rfl, rfl⟩ := hcs
    refine ⟨some a, len, cap, rfl, hl, hm, fun i hlt => ?_⟩
    have hC : Try.prog.cellsOf 53 = 13 := by kernel_rfl
    obtain ⟨cs, hc, ht⟩ := hi i (by rw [hmm]; simp; omega)
    rw [hC] at hc
    obtain ⟨_, hcl, hat⟩ := World.cells?_some hc
    obtain ⟨xs, nn, -, -, hl2, hlen, hff⟩ := DataW.trod_struct Try.underlying53 ht
    have hx6 : xs.length = 6 := hlen
    have hCint : Try.prog.cellsOf 3 = 1 := by kernel_rfl
    have hCuint32 : Try.prog.cellsOf 22 = 1 := by kernel_rfl
    have hCapiCap : Try.prog.cellsOf 25 = 8 := by kernel_rfl
    have hCstring : Try.prog.cellsOf 9 = 1 := by kernel_rfl
    have g0 : DataW.trod enc Try.prog W base (fun _ => true) held nn 3 ((cs.drop 0).take (Try.prog.cellsOf 3)) = xs[0]? := hff 0 _ rfl
    rw [hCint, List.getElem?_eq_getElem (by omega)] at g0
    have g1 : DataW.trod enc Try.prog W base (fun _ => true) held nn 22 ((cs.drop 1).take (Try.prog.cellsOf 22)) = xs[1]? := hff 1 _ rfl
    rw [hCuint32, List.getElem?_eq_getElem (by omega)] at g1
    have g2 : DataW.trod enc Try.prog W base (fun _ => true) held nn 3 ((cs.drop 2).take (Try.prog.cellsOf 3)) = xs[2]? := hff 2 _ rfl
    rw [hCint, List.getElem?_eq_getElem (by omega)] at g2
    have g3 : DataW.trod enc Try.prog W base (fun _ => true) held nn 22 ((cs.drop 3).take (Try.prog.cellsOf 22)) = xs[3]? := hff 3 _ rfl
    rw [hCuint32, List.getElem?_eq_getElem (by omega)] at g3
    have g4 : DataW.trod enc Try.prog W base (fun _ => true) held nn 25 ((cs.drop 4).take (Try.prog.cellsOf 25)) = xs[4]? := hff 4 _ rfl
    rw [hCapiCap, List.getElem?_eq_getElem (by omega)] at g4
    have g5 : DataW.trod enc Try.prog W base (fun _ => true) held nn 9 ((cs.drop 12).take (Try.prog.cellsOf 9)) = xs[5]? := hff 5 _ rfl
    rw [hCstring, List.getElem?_eq_getElem (by omega)] at g5
    obtain ⟨x0, e0, -, w0⟩ := DataW.trod_int Try.underlying3 g0
    obtain ⟨x1, e1, -, w1⟩ := DataW.trod_int Try.underlying22 g1
    obtain ⟨x2, e2, -, w2⟩ := DataW.trod_int Try.underlying3 g2
    obtain ⟨x3, e3, -, w3⟩ := DataW.trod_int Try.underlying22 g3
    have hF := lay_fit 6 25 [some .u32, some .u8, some .u16, some .u16, some .u16, some .u16, some .u32, none] (by kernel_rfl) _ _ _ g4
    generalize hcap : (cs.drop 4).take 8 = cap8 at hF
    obtain ⟨_, _, rfl, ⟨x4, rfl, w4⟩, _, _, rfl, ⟨x5, rfl, w5⟩, _, _, rfl, ⟨x6, rfl, w6⟩, _, _, rfl, ⟨x7, rfl, w7⟩, _, _, rfl, ⟨x8, rfl, w8⟩, _, _, rfl, ⟨x9, rfl, w9⟩, _, _, rfl, ⟨x10, rfl, w10⟩, _, _, rfl, ⟨x11, rfl⟩, rfl⟩ := hF
    obtain ⟨s, e5, -, ws⟩ := DataW.trod_string Try.underlying9 g5
    obtain ⟨⟨sl⟩⟩ := s
    have hsl : sl.length < 9223372036854775808 := by
      have : sl.length ≤ maxLen := ws
      unfold maxLen at this
      omega
    obtain ⟨bq, off, spot⟩ := a
    have hspot : spot = none := by
      obtain ⟨cs', hc', _⟩ := hi 0 (by rw [hmm]; simp; omega)
      rw [hC] at hc'
      obtain ⟨_, hcl', hat'⟩ := World.cells?_some hc'
      have h0 := hat' 0 (by omega)
      rw [List.getElem?_eq_getElem (by omega)] at h0
      have := World.cell?_spot h0
      simpa [Addr.add] using this
    subst hspot
    have b0 := bounds_i64 w0
    have b1 := bounds_u32 w1
    have b2 := bounds_i64 w2
    have b3 := bounds_u32 w3
    have b4 := bounds_u32 w4
    have b5 := bounds_u8 w5
    have b6 := bounds_u16 w6
    have b7 := bounds_u16 w7
    have b8 := bounds_u16 w8
    have b9 := bounds_u16 w9
    have b10 := bounds_u32 w10
    obtain ⟨x1, rfl⟩ := Int.eq_ofNat_of_zero_le b1.1
    obtain ⟨x3, rfl⟩ := Int.eq_ofNat_of_zero_le b3.1
    obtain ⟨x4, rfl⟩ := Int.eq_ofNat_of_zero_le b4.1
    obtain ⟨x5, rfl⟩ := Int.eq_ofNat_of_zero_le b5.1
    obtain ⟨x6, rfl⟩ := Int.eq_ofNat_of_zero_le b6.1
    obtain ⟨x7, rfl⟩ := Int.eq_ofNat_of_zero_le b7.1
    obtain ⟨x8, rfl⟩ := Int.eq_ofNat_of_zero_le b8.1
    obtain ⟨x9, rfl⟩ := Int.eq_ofNat_of_zero_le b9.1
    obtain ⟨x10, rfl⟩ := Int.eq_ofNat_of_zero_le b10.1
    have hcell : ∀ j u, (drow x0 x1 x2 x3 x4 x5 x6 x7 x8 x9 x10 x11 sl)[j]? = some u → W.cell? ⟨bq, off + i * 13 + j, none⟩ = some u := fun j u hu => by
      have hj : j < 13 := by have := (List.getElem?_eq_some_iff.1 hu).1; simpa [drow] using this
      have h1 := hat j (by omega)
      simp only [Addr.add_lit] at h1
      rw [h1]
      have : j = 0 ∨ j = 1 ∨ j = 2 ∨ j = 3 ∨ (4 ≤ j ∧ j < 12) ∨ j = 12 := by omega
      rcases this with rfl | rfl | rfl | rfl | ⟨h4, h5⟩ | rfl
      · exact take_at e0 0 u hu
      · exact take_at e1 0 u hu
      · exact take_at e2 0 u hu
      · exact take_at e3 0 u hu
      · obtain ⟨q, rfl⟩ : ∃ q, j = 4 + q := ⟨j - 4, by omega⟩
        refine take_at hcap q u ?_
        have : q = 0 ∨ q = 1 ∨ q = 2 ∨ q = 3 ∨ q = 4 ∨ q = 5 ∨ q = 6 ∨ q = 7 := by omega
        rcases this with rfl | rfl | rfl | rfl | rfl | rfl | rfl | rfl <;> exact hu
      · exact take_at e5 0 u hu
    have hlt := cell_lt7 (hcell 0 _ rfl)
    exact ⟨bq, off, rfl, hlt, x0, x1, x2, x3, x4, x5, x6, x7, x8, x9, x10, x11, sl, ⟨⟨by omega, by omega⟩, ⟨by omega, by omega⟩, by omega, by omega, by omega, by omega, by omega, by omega, by omega, by omega, by omega, hsl⟩, hcell⟩
end Go.Proofs.Ytpopfmboonjplaa
