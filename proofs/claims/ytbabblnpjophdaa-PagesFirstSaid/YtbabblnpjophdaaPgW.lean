/- What the laws of layer pages ask first. No statement is proved here. -/
import Derived.Test.YtbabblnpjophdaaPgC
namespace Go.Proofs.Ytbabblnpjophdaa
set_option maxRecDepth 100000
open Go.RowKit
set_option linter.unusedVariables false

/-- A pool of one's own, made behind the world W. -/
structure PK (W : World) (p b wb n : Nat) (f : Nat → Bool) (w : World) : Prop where
  pool : PoolAt w p b wb n f
  bel : Below W.heap.size W w
  hw : W.heap.size ≤ wb
section
variable {W w w' : World} {p b wb n : Nat} {f : Nat → Bool}
theorem PK.of_below (K : PK W p b wb n f w) (h : Below w.heap.size w w') : PK W p b wb n f w' := ⟨K.pool.grow h, K.bel.trans (h.mono K.bel.size), K.hw⟩
theorem PK.of_next {g : Nat → Bool} {v : Value} {e : Ending} (K : PK W p b wb n f w) (h : PNext p b wb n g w v e w') : e = .returned v ∧ PK W p b wb n g w' :=
  ⟨h.1, h.2.1, K.bel.trans (h.2.2.below K.bel.size K.hw), K.hw⟩
theorem PK.drew (K : PK W p b wb n f w) : PK W p b wb n f w.drew := ⟨K.pool.drew, K.bel.drew, K.hw⟩
theorem ptakeK (K : PK W p b wb n f w) (run align : Int) (l0 : -9223372036854775808 ≤ run) (l1 : run ≤ 9223372036854775807) (l2 : align ≤ 9223372036854775807) (a : Int) (v : Bool) (g : Nat → Bool)
    (ha : ((fndA f n run align : Nat) : Int) = a) (hv : fndB f n run align = v) (hg : tkF f n run align = g) :
    Calls Try.prog 9 #[.pointer (some ⟨p, 0, none⟩), .int .i64 run, .int .i64 align] w fun e w' => e = .returned (.tuple #[.int .i64 a, .bool v]) ∧ PK W p b wb n g w' := by
  subst ha hv hg
  exact (ptake K.pool run align l0 l1 l2).mono fun e w' h => K.of_next h
theorem pputK (K : PK W p b wb n f w) (a run : Int) (l0 : -9223372036854775808 ≤ run) (l1 : run ≤ 9223372036854775807) (l2 : -9223372036854775808 ≤ a) (l3 : a ≤ 9223372036854775807) (v : Bool) (g : Nat → Bool)
    (hv : ptB f n a run = v) (hg : ptF f n a run = g) :
    Calls Try.prog 11 #[.pointer (some ⟨p, 0, none⟩), .int .i64 a, .int .i64 run] w fun e w' => e = .returned (.bool v) ∧ PK W p b wb n g w' := by
  subst hv hg
  exact (pput K.pool a run l0 l1 l2 l3).mono fun e w' h => K.of_next h
theorem pfreeK (K : PK W p b wb n f w) (a : Int) (v : Bool) (hv : (decide (0 ≤ a) && f a.toNat) = v) :
    Calls Try.prog 18 #[.pointer (some ⟨p, 0, none⟩), .int .i64 a] w fun e w' => e = .returned (.bool v) ∧ PK W p b wb n f w' := by
  subst hv
  exact (pfree K.pool a).mono fun e w' h => ⟨h.1, K.of_below h.2⟩
theorem pcountK (K : PK W p b wb n f w) (v : Int) (hv : ((cnt f n : Nat) : Int) = v) :
    Calls Try.prog 16 #[.pointer (some ⟨p, 0, none⟩)] w fun e w' => e = .returned (.int .i64 v) ∧ PK W p b wb n f w' := by
  subst hv
  exact (pcount K.pool).mono fun e w' h => ⟨h.1, K.of_below h.2⟩
theorem pfitsK (K : PK W p b wb n f w) (run align : Int) (l0 : -9223372036854775808 ≤ run) (l1 : run ≤ 9223372036854775807) (l2 : align ≤ 9223372036854775807) (v : Bool) (hv : fndB f n run align = v) :
    Calls Try.prog 14 #[.pointer (some ⟨p, 0, none⟩), .int .i64 run, .int .i64 align] w fun e w' => e = .returned (.bool v) ∧ PK W p b wb n f w' := by
  subst hv
  exact (pfits K.pool run align l0 l1 l2).mono fun e w' h => ⟨h.1, K.of_below h.2⟩
end
def gA : Nat → Bool := fun _ => false
def gB : Nat → Bool := ptF gA 8 1 6
def gC : Nat → Bool := tkF gB 8 2 2
def gD : Nat → Bool := tkF gC 8 2 1
def gE : Nat → Bool := tkF gD 8 3 1
theorem works12_any (W : World) : Calls Try.prog 19 #[] W fun e w' => e = .returned (.bool true) ∧ Below W.heap.size W w' := by
  have q1 := Lib.hid (show ptB gA 8 1 6 = true by decide +kernel)
  have q2 := Lib.hid (show cnt gB 8 = 6 by decide +kernel)
  have q3 := Lib.hid (show fndA gB 8 2 2 = 2 ∧ fndB gB 8 2 2 = true by decide +kernel)
  have q4 := Lib.hid (show fndA gC 8 2 1 = 4 ∧ fndB gC 8 2 1 = true by decide +kernel)
  have q5 := Lib.hid (show fndA gD 8 3 1 = 0 ∧ fndB gD 8 3 1 = false by decide +kernel)
  have q6 := Lib.hid (show cnt gE 8 = 2 by decide +kernel)
  have q7 := Lib.hid (show gE 1 = true ∧ gE 2 = false by decide +kernel)
  have hN := Lib.hid (pnew 8 W (by omega))
  go_enter Try.func19, Try.ntmps19
  go_wp2_with fail
  refine hN.out.mono ?_
  rintro e w1 ⟨p, b, wb, rfl, k1, k2, k3, k4, k5⟩
  have K1 := Lib.hid (show PK W p b wb 8 gA w1 from ⟨k1, k5, k4⟩)
  clear k1 k2 k3 k4 k5
  go_wp2_with fail
  refine (pputK K1.out 1 6 (by omega) (by omega) (by omega) (by omega) true gB q1.out rfl).mono ?_
  rintro e w2 ⟨rfl, k⟩
  have K2 := Lib.hid k
  clear k
  go_wp2_with fail
  refine (pcountK K2.out 6 (by rw [q2.out]; rfl)).mono ?_
  rintro e w3 ⟨rfl, k⟩
  have K3 := Lib.hid k
  clear k
  go_wp2_with fail
  refine (ptakeK K3.out 2 2 (by omega) (by omega) (by omega) 2 true gC (by rw [q3.out.1]; rfl) q3.out.2 rfl).mono ?_
  rintro e w4 ⟨rfl, k⟩
  have K4 := Lib.hid k
  clear k
  go_wp2_with fail
  refine (ptakeK K4.out 2 1 (by omega) (by omega) (by omega) 4 true gD (by rw [q4.out.1]; rfl) q4.out.2 rfl).mono ?_
  rintro e w5 ⟨rfl, k⟩
  have K5 := Lib.hid k
  clear k
  go_wp2_with fail
  refine (ptakeK K5.out 3 1 (by omega) (by omega) (by omega) 0 false gE (by rw [q5.out.1]; rfl) q5.out.2 rfl).mono ?_
  rintro e w6 ⟨rfl, k⟩
  have K6 := Lib.hid k
  clear k
  go_wp2_with fail
  refine (pcountK K6.out 2 (by rw [q6.out]; rfl)).mono ?_
  rintro e w7 ⟨rfl, k⟩
  have K7 := Lib.hid k
  clear k
  go_wp2_with fail
  refine (pfreeK K7.out 1 true q7.out.1).mono ?_
  rintro e w8 ⟨rfl, k⟩
  have K8 := Lib.hid k
  clear k
  go_wp2_with fail
  refine (pfreeK K8.out 2 false q7.out.2).mono ?_
  rintro e w9 ⟨rfl, k⟩
  have K9 := Lib.hid k
  clear k
  go_wp2
  go_ret
  exact ⟨rfl, K9.out.bel⟩
end Go.Proofs.Ytbabblnpjophdaa
