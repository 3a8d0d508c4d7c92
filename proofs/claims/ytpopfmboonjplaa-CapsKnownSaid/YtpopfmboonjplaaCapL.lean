/- Contracts of the document's answers for layer caps: laid, taken. No statement is proved here. -/
import Derived.Test.YtpopfmboonjplaaChecked
import Derived.Test.YtpopfmboonjplaaOctM
import Derived.WalkSpells
import Derived.WalkLawsBesides
import Derived.Handy
import Derived.Below
import Derived.Lib.Hide
import Derived.Deep.LoopGhost
import Derived.Deep.DeepCutAuto
import Derived.Laws.AppendOwn
namespace Go.Proofs.Ytpopfmboonjplaa
open Go.RowKit
set_option linter.unusedVariables false

def vb (u : UInt8) : Value := .int .u8 (u.toNat : Int)
theorem leB_snoc : ∀ (j n : Nat), leB (j + 1) n = leB j n ++ [UInt8.ofNat (n / 256 ^ j)]
  | 0, n => by simp [leB]
  | j + 1, n => by
    rw [leB, leB_snoc j (n / 256), leB, Nat.div_div_eq_div_mul]
    simp [Nat.pow_succ, Nat.mul_comm]

/-- What 'laid' leaves: a row of the call's own. -/
def LaidPost (base : Nat) (w : World) (l : List UInt8) (e : Ending) (w' : World) : Prop :=
  ∃ v, e = .returned v ∧ w'.ownsRow base 5 1 v l.length (l.map vb) ∧ Below base w w'

theorem info8 : (Try.prog.info? 5).map (fun i => (i.zero, i.size, i.bytes)) = some (some (.int .u8 0), 1, 1) := by kernel_rfl

theorem below_own {base : Nat} {w w1 w2 : World} {v : Value} (h : Below base w w1) (hg : w1.grownBy w2 v.ownBlock) (hv : ∀ k, v.ownBlock = some k → base ≤ k) (hb : base ≤ w1.heap.size) : Below base w w2 :=
  h.trans ((Below.refl _ _).grown hg hb (fun k hk => hv k hk))

theorem laid_any (base : Nat) (v : Value) (l : List UInt8) (n k : Nat) (w : World) (hk : k ≤ 4) (hl : l.length ≤ 1000) (hn : n < 4294967296) (hown : w.ownsRow base 5 1 v l.length (l.map vb)) (hbase : base ≤ w.heap.size) :
    Calls Try.prog 88 #[v, .int .u32 n, .int .i64 k] w (LaidPost base w (l ++ leB k n)) := by
  obtain ⟨i0, hi, hz0, hz1, hz2⟩ := info_parts info8
  go_enter Try.func88, Try.ntmps88
  go_wp2_with fail
  go_loopw [0, 7] (fun b i wr => ∃ j : Nat, j ≤ k ∧ i = .int .i64 j ∧ wr.ownsRow base 5 1 b (l ++ leB j n).length ((l ++ leB j n).map vb) ∧ Below base w wr) (fun _ i _ => k - (intOf i).toNat)
  case atStart => exact ⟨0, by omega, rfl, by simpa [leB] using hown, Below.refl _ _⟩
  case round =>
    obtain ⟨j, hj, rfl, hown2, hbl⟩ := hrel
    have hB : ((n : Int) / 2 ^ (8 * j) % 256) = ((UInt8.ofNat (n / 256 ^ j)).toNat : Int) := by
      rw [UInt8.toNat_ofNat', show (256 : Nat) ^ j = 2 ^ (8 * j) from by rw [show (256 : Nat) = 2 ^ 8 from rfl, ← Nat.pow_mul], show ((2 : Int) ^ (8 * j)) = ((2 ^ (8 * j) : Nat) : Int) from by simp, ← Int.natCast_ediv]
      omega
    replace hB := Lib.hid hB
    have hlen : (l ++ leB j n).length = l.length + j := by rw [List.length_append, leB_length]
    have hO := Lib.hid hown2
    have hL := Lib.hid hbl
    have hW := Lib.hid hown
    clear hown2 hbl hown
    by_cases hlt : j < k
    · have hlt' : (j : Int) < k := by omega
      have hj8 : (j : Int) ≤ 3 := by omega
      replace hlen := Lib.hid hlen
      go_wp2_with (at_builtin; refine wpList_append_own _ rfl _ _ 28 rfl base 5 i0 (.int .u8 0) 1 1 Try.underlying28 hi hz0 hz1 hz2 rfl (by decide) _ _ _ rfl (hO.out.alloc _) ⟨wr.heap.size, 0, none⟩ 1 1 [.int .u8 ((n : Int) / 2 ^ (8 * j) % 256)] rfl rfl ?c1 ?c2 ?c3 ?c4 ?c5 ?_)
      case c1 =>
        intro i u hu
        match i, hu with
        | 0, hu => simp at hu; subst hu; simp [Addr.add]
      case c2 => intro u hu; simp at hu; subst hu; rfl
      case c3 => rw [hlen.out]; unfold maxLen; omega
      case c4 => rw [hlen.out]; omega
      case c5 => have := hL.out.size; simp; omega
      · intro v' w1 hown' hgrow _
        have hlo := hO.out.lt
        have hL1 : Below base w w1 := below_own (hL.out.alloc (Nat.le_trans hbase hL.out.size) _) hgrow (fun q hq => (hlo q hq).1) (by have := hL.out.size; simp; omega)
        have hO1 : w1.ownsRow base 5 1 v' (l ++ leB (j + 1) n).length ((l ++ leB (j + 1) n).map vb) := by
          have e1 : (l ++ leB (j + 1) n).map vb = l.map vb ++ ((leB j n).map vb ++ [.int .u8 ((n : Int) / 2 ^ (8 * j) % 256)]) := by
            rw [leB_snoc, hB.out, List.map_append, List.map_append]; rfl
          have e2 : (l ++ leB (j + 1) n).length = l.length + (leB j n).length + 1 := by rw [List.length_append, leB_length, leB_length]; omega
          rw [e1, e2]; exact hown'
        replace hL1 := Lib.hid hL1
        replace hO1 := Lib.hid hO1
        clear hown' hgrow hlo
        go_wp2
        go_roundw
        case rel => exact ⟨j + 1, by omega, by go_num, hO1.out, hL1.out⟩
        case measure => simp [intOf]; omega
    · obtain rfl : j = k := by omega
      go_wp2_with fail
      go_ret
      exact ⟨_, rfl, hO.out, hL.out⟩

theorem le_snoc : ∀ (l : List UInt8) (b : UInt8), le (l ++ [b]) = le l + b.toNat * 256 ^ l.length
  | [], b => by simp [le]
  | c :: l, b => by
    show c.toNat + 256 * le (l ++ [b]) = c.toNat + 256 * le l + b.toNat * 256 ^ (l.length + 1)
    rw [le_snoc l b, Nat.pow_succ, Nat.mul_add, ← Nat.mul_assoc, Nat.mul_comm (256 ^ l.length) 256, ← Nat.mul_assoc, Nat.mul_comm 256 b.toNat]
    omega
theorem take_more {l : List UInt8} {a j : Nat} (h : a + j < l.length) : (l.drop a).take (j + 1) = (l.drop a).take j ++ [l[a + j]] := by
  rw [List.take_add_one, List.getElem?_drop, List.getElem?_eq_getElem h]; rfl
theorem or_byte {x b j : Nat} (hx : x < 256 ^ j) (hb : b < 256) (hj : j ≤ 3) : bits BinOp.or IntKind.u32 (x : Int) ((b : Int) % 4294967296 * 2 ^ (8 * j) % 4294967296) = ((x + b * 256 ^ j : Nat) : Int) := by
  have e : (256 : Nat) ^ j = 2 ^ (8 * j) := by rw [show (256 : Nat) = 2 ^ 8 from rfl, ← Nat.pow_mul]
  have hp : 2 ^ (8 * j) ≤ 16777216 := Nat.le_trans (Nat.pow_le_pow_right (by decide) (show 8 * j ≤ 24 by omega)) (by decide)
  rw [e] at hx ⊢
  have hm : b * 2 ^ (8 * j) ≤ 255 * 16777216 := Nat.mul_le_mul (by omega) hp
  have h2 : ((b : Int) % 4294967296 * 2 ^ (8 * j) % 4294967296) = ((b * 2 ^ (8 * j) : Nat) : Int) := by
    rw [show (b : Int) % 4294967296 = b from by omega, show ((2 : Int) ^ (8 * j)) = ((2 ^ (8 * j) : Nat) : Int) from by simp, ← Int.natCast_mul]
    omega
  rw [h2, u32_or_nat _ _ (by omega) (by omega), Nat.or_comm, or_add b x (8 * j) hx, Nat.add_comm]

/-- The number that bytes of a text are, from a place on. -/
theorem taken_any (l : List UInt8) (a k : Nat) (w : World) (hk : k ≤ 4) (hl : l.length ≤ 1000) (ha : a + k ≤ l.length) :
    Calls Try.prog 89 #[.string ⟨l.toArray⟩, .int .i64 a, .int .i64 k] w fun e w' => e = .returned (.int .u32 (le ((l.drop a).take k) : Nat)) ∧ w = w' := by
  go_enter Try.func89, Try.ntmps89
  go_wp2_with fail
  go_loop [7, 8] (fun r i => ∃ j : Nat, j ≤ k ∧ i = .int .i64 j ∧ r = .int .u32 (le ((l.drop a).take j) : Nat)) (fun _ i => k - (intOf i).toNat)
  case atStart => exact ⟨0, by omega, rfl, by simp [le]⟩
  case round =>
    obtain ⟨j, hj, rfl, rfl⟩ := hrel
    by_cases hlt : j < k
    · have hlt' : (j : Int) < k := by omega
      have hj8 : (j : Int) ≤ 3 := by omega
      have hi0 : (a : Int) + j < l.length := by omega
      have hx : le ((l.drop a).take j) < 256 ^ j := by
        have := le_lt ((l.drop a).take j)
        rwa [List.length_take, List.length_drop, show min j (l.length - a) = j from by omega] at this
      have hsn := Lib.hid (show ∀ h : a + j < l.length, le ((l.drop a).take (j + 1)) = le ((l.drop a).take j) + (l[a + j]).toNat * 256 ^ j from fun h => by
        rw [take_more h, le_snoc, List.length_take, List.length_drop, show min j (l.length - a) = j from by omega])
      replace hx := Lib.hid hx
      go_wp2_with fail
      go_round
      case rel =>
        refine ⟨j + 1, by omega, by go_num, ?_⟩
        have hlt2 : a + j < l.length := by omega
        rw [hsn.out hlt2, ← or_byte hx.out (UInt8.toNat_lt _) (by omega)]
        rfl
      case measure => simp [intOf]; omega
    · obtain rfl : j = k := by omega
      go_wp2_with fail
      go_ret
      exact ⟨rfl, rfl⟩
end Go.Proofs.Ytpopfmboonjplaa
