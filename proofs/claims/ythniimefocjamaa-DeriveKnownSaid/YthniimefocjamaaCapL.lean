/- Contracts of the document's answers for layer caps: laid, taken. No statement is proved here. -/
import Derived.Test.YthniimefocjamaaChecked
import Derived.Test.YthniimefocjamaaOctM
import Derived.WalkSpells
import Derived.WalkLawsBesides
import Derived.Handy
import Derived.Below
import Derived.Lib.Hide
import Derived.Deep.LoopGhost
import Derived.Deep.DeepCutAuto
import Derived.Laws.AppendOwn
namespace Go.Proofs.Ythniimefocjamaa
open Go.RowKit
set_option linter.unusedVariables false

def vb (u : UInt8) : Value := .int .u8 (u.toNat : Int)
theorem leB_snoc : ∀ (j n : Nat), leB (j + 1) n = leB j n ++ [UInt8.ofNat (n / 256 ^ j)]
  | 0, n => by simp [leB]
  | j + 1, n => by
    rw [leB, leB_snoc j (n / 256), leB, Nat.div_div_eq_div_mul]
    simp [Nat.pow_succ, Nat.mul_comm]

/-- What 'laid' leaves: a row of the call's own. -/
def LaidPost (base : Nat) (w : World) (l : List UInt8) (e : Ending) (w' : World) : Prop :=
  ∃ v, e = .returned v ∧ w'.ownsRow base 5 1 v l.length (l.map vb) ∧ Below base w w'

theorem info8 : (Try.prog.info? 5).map (fun i => (i.zero, i.size, i.bytes)) = some (some (.int .u8 0), 1, 1) := by kernel_rfl

theorem below_own {base : Nat} {w w1 w2 : World} {v : Value} (h : Below base w w1) (hg : w1.grownBy w2 v.ownBlock) (hv : ∀ k, v.ownBlock = some k → base ≤ k) (hb : base ≤ w1.heap.size) : Below base w w2 :=
  h.trans ((Below.refl _ _).grown hg hb (fun k hk => hv k hk))

theorem le_snoc : ∀ (l : List UInt8) (b : UInt8), le (l ++ [b]) = le l + b.toNat * 256 ^ l.length
  | [], b => by simp [le]
  | c :: l, b => by
    show c.toNat + 256 * le (l ++ [b]) = c.toNat + 256 * le l + b.toNat * 256 ^ (l.length + 1)
    rw [le_snoc l b, Nat.pow_succ, Nat.mul_add, ← Nat.mul_assoc, Nat.mul_comm (256 ^ l.length) 256, ← Nat.mul_assoc, Nat.mul_comm 256 b.toNat]
    omega
theorem take_more {l : List UInt8} {a j : Nat} (h : a + j < l.length) : (l.drop a).take (j + 1) = (l.drop a).take j ++ [l[a + j]] := by
  rw [List.take_add_one, List.getElem?_drop, List.getElem?_eq_getElem h]; rfl
theorem or_byte {x b j : Nat} (hx : x < 256 ^ j) (hb : b < 256) (hj : j ≤ 3) : bits BinOp.or IntKind.u32 (x : Int) ((b : Int) % 4294967296 * 2 ^ (8 * j) % 4294967296) = ((x + b * 256 ^ j : Nat) : Int) := by
  have e : (256 : Nat) ^ j = 2 ^ (8 * j) := by rw [show (256 : Nat) = 2 ^ 8 from rfl, ← Nat.pow_mul]
  have hp : 2 ^ (8 * j) ≤ 16777216 := Nat.le_trans (Nat.pow_le_pow_right (by decide) (show 8 * j ≤ 24 by omega)) (by decide)
  rw [e] at hx ⊢
  have hm : b * 2 ^ (8 * j) ≤ 255 * 16777216 := Nat.mul_le_mul (by omega) hp
  have h2 : ((b : Int) % 4294967296 * 2 ^ (8 * j) % 4294967296) = ((b * 2 ^ (8 * j) : Nat) : Int) := by
    rw [show (b : Int) % 4294967296 = b from by omega, show ((2 : Int) ^ (8 * j)) = ((2 ^ (8 * j) : Nat) : Int) from by simp, ← Int.natCast_mul]
    omega
  rw [h2, u32_or_nat _ _ (by omega) (by omega), Nat.or_comm, or_add b x (8 * j) hx, Nat.add_comm]

end Go.Proofs.Ythniimefocjamaa
