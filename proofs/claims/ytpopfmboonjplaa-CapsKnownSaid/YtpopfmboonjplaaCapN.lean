/- A capability's bytes, and back: plain lemmas; and the law's own 'sound'. No statement is proved here. -/
import Derived.Test.YtpopfmboonjplaaCapP
import Derived.Laws.BitsAllLaws
namespace Go.Proofs.Ytpopfmboonjplaa
open Go.RowKit
set_option linter.unusedVariables false

theorem leB_le : ∀ l : List UInt8, leB l.length (le l) = l
  | [] => rfl
  | b :: r => by
    show UInt8.ofNat (b.toNat + 256 * le r) :: leB r.length ((b.toNat + 256 * le r) / 256) = b :: r
    have hb := b.toNat_lt
    rw [show (b.toNat + 256 * le r) / 256 = le r from by omega, leB_le r]
    congr 1
    apply UInt8.toNat_inj.1
    rw [UInt8.toNat_ofNat']
    omega
theorem piece {a k : Nat} (A M R : List UInt8) (ha : A.length = a) (hm : M.length = k) : ((A ++ (M ++ R)).drop a).take k = M := by
  subst ha hm
  rw [List.drop_left, List.take_left]
theorem nm_piece {a k v : Nat} {l : List UInt8} (A R : List UInt8) (hl : l = A ++ (leB k v ++ R)) (ha : A.length = a) (hv : v < 256 ^ k) : nm l a k = v := by
  unfold nm
  rw [hl, piece A (leB k v) R ha (leB_length k v), le_leB, Nat.mod_eq_of_lt hv]

section
variable {cu e b t pm ty rs : Nat} (l0 : cu < 4294967296) (l1 : e < 256) (l2 : b < 65536) (l3 : t < 65536) (l4 : pm < 65536) (l5 : ty < 65536) (l6 : rs < 16777216)
include l0 l1 l2 l3 l4 l5 l6
theorem nm_bytes : nm (bytesC cu e b t pm ty rs) 0 4 = cu ∧ nm (bytesC cu e b t pm ty rs) 4 1 = e ∧ nm (bytesC cu e b t pm ty rs) 5 2 = b ∧ nm (bytesC cu e b t pm ty rs) 7 2 = t ∧ nm (bytesC cu e b t pm ty rs) 9 2 = pm ∧ nm (bytesC cu e b t pm ty rs) 11 2 = ty ∧ nm (bytesC cu e b t pm ty rs) 13 3 = rs := by
  refine ⟨?_, ?_, ?_, ?_, ?_, ?_, ?_⟩
  · exact nm_piece [] (leB 1 e ++ leB 2 b ++ leB 2 t ++ leB 2 pm ++ leB 2 ty ++ leB 3 rs) (by simp [bytesC, List.append_assoc]) rfl (by simpa using l0)
  · exact nm_piece (leB 4 cu) (leB 2 b ++ leB 2 t ++ leB 2 pm ++ leB 2 ty ++ leB 3 rs) (by simp [bytesC, List.append_assoc]) (by simp [leB_length]) (by simpa using l1)
  · exact nm_piece (leB 4 cu ++ leB 1 e) (leB 2 t ++ leB 2 pm ++ leB 2 ty ++ leB 3 rs) (by simp [bytesC, List.append_assoc]) (by simp [leB_length]) (by simpa using l2)
  · exact nm_piece (leB 4 cu ++ leB 1 e ++ leB 2 b) (leB 2 pm ++ leB 2 ty ++ leB 3 rs) (by simp [bytesC, List.append_assoc]) (by simp [leB_length]) (by simpa using l3)
  · exact nm_piece (leB 4 cu ++ leB 1 e ++ leB 2 b ++ leB 2 t) (leB 2 ty ++ leB 3 rs) (by simp [bytesC, List.append_assoc]) (by simp [leB_length]) (by simpa using l4)
  · exact nm_piece (leB 4 cu ++ leB 1 e ++ leB 2 b ++ leB 2 t ++ leB 2 pm) (leB 3 rs) (by simp [bytesC, List.append_assoc]) (by simp [leB_length]) (by simpa using l5)
  · exact nm_piece (leB 4 cu ++ leB 1 e ++ leB 2 b ++ leB 2 t ++ leB 2 pm ++ leB 2 ty) [] (by simp [bytesC, List.append_assoc]) (by simp [leB_length]) (by simpa using l6)
end

theorem leB_nm {l : List UInt8} {a k : Nat} (h : a + k ≤ l.length) : leB k (nm l a k) = (l.drop a).take k := by
  have hk : ((l.drop a).take k).length = k := by rw [List.length_take, List.length_drop]; omega
  have := leB_le ((l.drop a).take k)
  rwa [hk] at this
theorem cut_more (l : List UInt8) (a k : Nat) : l.take a ++ (l.drop a).take k = l.take (a + k) := by
  rw [List.take_add]
theorem bytes_nm {l : List UInt8} (h : l.length = 16) : bytesC (nm l 0 4) (nm l 4 1) (nm l 5 2) (nm l 7 2) (nm l 9 2) (nm l 11 2) (nm l 13 3) = l := by
  unfold bytesC
  rw [leB_nm (by omega), leB_nm (by omega), leB_nm (by omega), leB_nm (by omega), leB_nm (by omega), leB_nm (by omega), leB_nm (by omega), List.drop_zero,
    cut_more, cut_more, cut_more, cut_more, cut_more, cut_more]
  exact List.take_of_length_le (by omega)

theorem and255 (pm : Nat) (h : pm < 65536) : bits BinOp.and IntKind.u16 (pm : Int) 255 = ((pm % 256 : Nat) : Int) := by
  have := u16_and_nat pm 255 h (by decide)
  rw [show ((255 : Nat) : Int) = 255 from rfl, nat_mask8] at this
  exact this

end Go.Proofs.Ytpopfmboonjplaa
