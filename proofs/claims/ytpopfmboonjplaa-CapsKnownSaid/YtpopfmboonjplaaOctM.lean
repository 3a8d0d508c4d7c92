/- Numbers as bytes, the lowest first: plain lemmas on lists. No statement is proved here. -/
import Derived.Test.YtpopfmboonjplaaMem
import Derived.Laws.BitsAllLaws
import Derived.WalkKit
import Derived.Lib.ConvBytes
namespace Go.Proofs.Ytpopfmboonjplaa
open Go.RowKit
set_option linter.unusedVariables false

def isW (n : Int) : Bool := n == 1 || n == 2 || n == 4
theorem isW_cases {n : Int} (h : isW n = true) : n = 1 ∨ n = 2 ∨ n = 4 := by
  simp [isW] at h; omega
theorem isW_not {n : Int} (h : isW n = false) : n ≠ 1 ∧ n ≠ 2 ∧ n ≠ 4 := by
  simp [isW] at h; omega

def le : List UInt8 → Nat
  | [] => 0
  | b :: r => b.toNat + 256 * le r
def leB : Nat → Nat → List UInt8
  | 0, _ => []
  | n + 1, v => UInt8.ofNat v :: leB n (v / 256)
theorem leB_length (n v : Nat) : (leB n v).length = n := by
  induction n generalizing v with
  | zero => rfl
  | succ n ih => simp [leB, ih]
theorem le_leB (n v : Nat) : le (leB n v) = v % 256 ^ n := by
  induction n generalizing v with
  | zero => simp [leB, le, Nat.mod_one]
  | succ n ih =>
    simp only [leB, le, ih, UInt8.toNat_ofNat']
    rw [show 256 ^ (n + 1) = 256 * 256 ^ n from by rw [Nat.pow_succ, Nat.mul_comm], Nat.mod_mul]
theorem le_lt (l : List UInt8) : le l < 256 ^ l.length := by
  induction l with
  | nil => simp [le]
  | cons b r ih =>
    have := b.toNat_lt
    simp only [le, List.length_cons, Nat.pow_succ]
    omega
def numOf (l : List UInt8) : Nat := if l.length = 1 ∨ l.length = 2 ∨ l.length = 4 then le l else 0
theorem numOf_lt (l : List UInt8) : numOf l < 4294967296 := by
  unfold numOf
  split
  · rename_i h
    have := le_lt l
    rcases h with h | h | h <;> rw [h] at this <;> omega
  · omega

theorem or_add (a b k : Nat) (h : b < 2 ^ k) : (a * 2 ^ k) ||| b = a * 2 ^ k + b := by
  rw [Nat.mul_comm]; exact (Nat.two_pow_add_eq_or_of_lt h a).symm
theorem or4 (x0 x1 x2 x3 : Nat) (h0 : x0 < 256) (h1 : x1 < 256) (h2 : x2 < 256) (h3 : x3 < 256) :
    bits BinOp.or IntKind.u32 (bits BinOp.or IntKind.u32 (bits BinOp.or IntKind.u32 ((x3 : Int) * 16777216) ((x2 : Int) * 65536)) ((x1 : Int) * 256)) (x0 : Int) = ((x0 + 256 * (x1 + 256 * (x2 + 256 * x3)) : Nat) : Int) := by
  have e3 : ((x3 : Int) * 16777216) = ((x3 * 16777216 : Nat) : Int) := by omega
  have e2 : ((x2 : Int) * 65536) = ((x2 * 65536 : Nat) : Int) := by omega
  have e1 : ((x1 : Int) * 256) = ((x1 * 256 : Nat) : Int) := by omega
  rw [e3, e2, e1, u32_or_nat _ _ (by omega) (by omega)]
  have a3 : x3 * 16777216 ||| x2 * 65536 = x3 * 16777216 + x2 * 65536 := or_add x3 (x2 * 65536) 24 (by omega)
  rw [a3, u32_or_nat _ _ (by omega) (by omega)]
  have a2 : x3 * 16777216 + x2 * 65536 ||| x1 * 256 = x3 * 16777216 + x2 * 65536 + x1 * 256 := by
    have := or_add (x3 * 256 + x2) (x1 * 256) 16 (by omega)
    rw [show x3 * 16777216 + x2 * 65536 = (x3 * 256 + x2) * 2 ^ 16 from by omega]
    exact this
  rw [a2, u32_or_nat _ _ (by omega) (by omega)]
  have a1 : x3 * 16777216 + x2 * 65536 + x1 * 256 ||| x0 = x3 * 16777216 + x2 * 65536 + x1 * 256 + x0 := by
    have := or_add (x3 * 65536 + x2 * 256 + x1) x0 8 (by omega)
    rw [show x3 * 16777216 + x2 * 65536 + x1 * 256 = (x3 * 65536 + x2 * 256 + x1) * 2 ^ 8 from by omega]
    exact this
  rw [a1]
  omega
theorem or00 : bits BinOp.or IntKind.u32 0 0 = 0 := by rfl
theorem or2 (x0 x1 : Nat) (h0 : x0 < 256) (h1 : x1 < 256) :
    bits BinOp.or IntKind.u32 (bits BinOp.or IntKind.u32 0 ((x1 : Int) * 256)) (x0 : Int) = ((x0 + 256 * x1 : Nat) : Int) := by
  have := or4 x0 x1 0 0 h0 h1 (by omega) (by omega)
  simpa [or00] using this
theorem or1 (x0 : Nat) (h0 : x0 < 256) : bits BinOp.or IntKind.u32 0 (x0 : Int) = (x0 : Int) := by
  have := or4 x0 0 0 0 h0 (by omega) (by omega) (by omega)
  simpa [or00] using this

/-- The world with the bytes laid from a place on. -/
def layW (w : World) (b off : Nat) : List UInt8 → World
  | [] => w
  | x :: r => (layW w b (off + 1) r).setCell ⟨b, off, none⟩ (.int .u8 (x.toNat : Int))

theorem layW_off (b : Nat) : ∀ (l : List UInt8) (off : Nat) (w : World) (q : Addr), (q.block = b → q.spot = none → q.off < off ∨ off + l.length ≤ q.off) → (layW w b off l).cell? q = w.cell? q
  | [], _, _, _, _ => rfl
  | x :: r, off, w, q, h => by
    rw [layW, World.cell?_setCell_other _ _ _ _ (fun e => by subst e; have := h rfl rfl; simp at this; omega), layW_off b r (off + 1) w q (fun h1 h2 => by have := h h1 h2; simp at this; omega)]
theorem layW_at (b : Nat) : ∀ (l : List UInt8) (off : Nat) (w : World), (∀ j, j < l.length → ∃ x, w.cell? ⟨b, off + j, none⟩ = some x) → ∀ j u, l[j]? = some u → (layW w b off l).cell? ⟨b, off + j, none⟩ = some (.int .u8 (u.toNat : Int))
  | [], _, _, _, j, u, hu => by simp at hu
  | x :: r, off, w, h, 0, u, hu => by
    obtain ⟨y, hy⟩ := h 0 (by simp)
    simp at hu
    subst hu
    have h0 : (layW w b (off + 1) r).cell? ⟨b, off, none⟩ = some y := (layW_off b r (off + 1) w _ (fun _ _ => .inl (by simp))).trans hy
    exact World.cell?_setCell_same _ _ _ h0
  | x :: r, off, w, h, j + 1, u, hu => by
    rw [layW, World.cell?_setCell_other _ _ _ _ (fun e => by simp at e)]
    have := layW_at b r (off + 1) w (fun j hj => by obtain ⟨y, hy⟩ := h (j + 1) (by simpa using hj); exact ⟨y, by rw [← hy]; congr 2; omega⟩) j u (by simpa using hu)
    rw [← this]; congr 2; omega
theorem layW_below {B b : Nat} (hB : B ≤ b) : ∀ (l : List UInt8) (off : Nat) {a w : World}, Below B a w → Below B a (layW w b off l)
  | [], _, _, _, h => h
  | x :: r, off, _, _, h => (layW_below hB r (off + 1) h).setCell hB _
theorem layW_frozen (b : Nat) : ∀ (l : List UInt8) (off : Nat) (w : World) (q : Addr), (layW w b off l).frozen? q = w.frozen? q
  | [], _, _, _ => rfl
  | x :: r, off, w, q => by rw [layW, World.frozen?_setCell]; exact layW_frozen b r (off + 1) w q
theorem layW_size (b : Nat) : ∀ (l : List UInt8) (off : Nat) (w : World), (layW w b off l).heap.size = w.heap.size
  | [], _, _ => rfl
  | x :: r, off, w => by rw [layW, World.size_setCell]; exact layW_size b r (off + 1) w


theorem str_cat (a b : List UInt8) : (⟨a.toArray⟩ : ByteArray) ++ ⟨b.toArray⟩ = ⟨(a ++ b).toArray⟩ := by
  apply ByteArray.ext; simp


theorem cut_str (s : ByteArray) (n : Nat) : ∃ l : List UInt8, s.extract 0 n = ⟨l.toArray⟩ ∧ min n s.size = l.length :=
  ⟨(s.extract 0 n).data.toList, rfl, by
    have h : (s.extract 0 n).size = min n s.size - 0 := ByteArray.size_extract
    rw [Array.length_toList]
    exact (h.trans (Nat.sub_zero _)).symm⟩
theorem str_list (s : ByteArray) : ∃ l : List UInt8, s = ⟨l.toArray⟩ := ⟨s.data.toList, rfl⟩
theorem ext_list (l : List UInt8) (i j : Nat) : (⟨l.toArray⟩ : ByteArray).extract i j = ⟨((l.drop i).take (j - i)).toArray⟩ := by
  apply ByteArray.ext
  simp [ByteArray.data_extract]
theorem size_list (l : List UInt8) : (⟨l.toArray⟩ : ByteArray).size = l.length := rfl

/-! The world behind a string's conversion to bytes. -/
theorem bw_below (w : World) (e : TypeId) (s : ByteArray) : Below w.heap.size w (Lib.bytesWorld w e s) :=
  ⟨rfl, rfl, rfl, by rw [Lib.bytesWorld_size]; omega, fun j hj => Lib.bytesWorld_at_old w e s j hj⟩
theorem bw_RB (w : World) (e : TypeId) (l : List UInt8) : RB (Lib.bytesWorld w e ⟨l.toArray⟩) (w.heap.size + 1) (some ⟨w.heap.size, 0, none⟩) l := fun _ =>
  ⟨w.heap.size, 0, rfl, by omega, fun j u hu => by
    have hj : j < l.length := (List.getElem?_eq_some_iff.1 hu).1
    rw [Nat.zero_add, Lib.bytesWorld_cell w e _ j (by simpa [ByteArray.size] using hj)]
    simp [List.getD, hu]⟩
theorem bw_cell (w : World) (e : TypeId) (l : List UInt8) (j : Nat) (u : UInt8) (hu : l[j]? = some u) : (Lib.bytesWorld w e ⟨l.toArray⟩).cell? ⟨w.heap.size, j, none⟩ = some (.int .u8 (u.toNat : Int)) := by
  have hj : j < l.length := (List.getElem?_eq_some_iff.1 hu).1
  rw [Lib.bytesWorld_cell w e _ j (by simpa [ByteArray.size] using hj)]
  simp [List.getD, hu]
theorem bw_free (w : World) (e : TypeId) (l : List UInt8) (j : Nat) (hj : j < l.length) : (Lib.bytesWorld w e ⟨l.toArray⟩).frozen? ⟨w.heap.size, j, none⟩ = false := by
  have h : j < (Lib.bytesCells w e ⟨l.toArray⟩).size := by simp [Lib.bytesCells]; omega
  simp [World.frozen?, Lib.bytesWorld_at_new]
  omega

end Go.Proofs.Ytpopfmboonjplaa
