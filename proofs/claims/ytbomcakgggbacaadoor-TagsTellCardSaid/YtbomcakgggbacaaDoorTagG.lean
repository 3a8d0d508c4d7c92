/- Contracts of layer tags, in one form; what the laws ask first. No statement is proved here. -/
import Derived.Test.YtbomcakgggbacaaDoorTagE
import Derived.Test.YtbomcakgggbacaaDoorTagF
namespace Go.Proofs.YtbomcakgggbacaaDoor
open Go.RowKit
set_option linter.unusedVariables false

/-- A call on a map has answered v; the map is as g tells; nothing else has turned. -/
def Next (b wb n : Nat) (g : Nat → Bool) (w : World) (v : Value) (e : Ending) (W' : World) : Prop :=
  e = .returned v ∧ MapAt W' b wb n g ∧ Off w.heap.size wb w W'

section
variable {b wb n : Nat} {f g : Nat → Bool} {w : World}
theorem next_drew {v : Value} {e : Ending} {W' : World} (H : MapAt w b wb n f) (h : e = .returned v ∧ ∃ k, w.drewN k = W') : Next b wb n f w v e W' := by
  obtain ⟨rfl, k, rfl⟩ := h
  exact ⟨rfl, H.drewN k, (Off.refl _ _ _).drewN k⟩
theorem next_below {v : Value} {e : Ending} {W' : World} (H : MapAt w b wb n f) (h : e = .returned v ∧ Below w.heap.size w W') : Next b wb n f w v e W' :=
  ⟨h.1, H.below h.2 H.lb H.lw, Off.of_below h.2⟩
theorem len_u (H : MapAt w b wb n f) (v : Int) (hv : (n : Int) = v) : Calls Tryd.prog 12 #[.pointer (some ⟨b, 0, none⟩)] w (Next b wb n f w (.int .i64 v)) := by
  subst hv
  exact (len_any b wb n f w H).mono fun e W' h => next_drew H ⟨h.1, 0, h.2⟩
theorem put_u (H : MapAt w b wb n f) (a : Int) (v : Bool) (r : Bool) (hr : decide (0 ≤ a ∧ a < n) = r) (g : Nat → Bool) (hg : ∀ k, (if r then upd f a.toNat v else f) k = g k) :
    Calls Tryd.prog 6 #[.pointer (some ⟨b, 0, none⟩), .int .i64 a, .bool v] w (Next b wb n g w (.bool r)) := by
  cases r
  · have ha : a < 0 ∨ (n : Int) ≤ a := by have := of_decide_eq_false hr; omega
    have H' : MapAt w b wb n g := H.congr hg
    exact (put_no b wb n g a v w H' ha).mono fun e W' h => next_drew H' ⟨h.1, 0, h.2⟩
  · have ha := of_decide_eq_true hr
    obtain ⟨a, rfl⟩ := Int.eq_ofNat_of_zero_le ha.1
    exact (put_any b wb n f a v w H (by omega)).mono fun e W' h => ⟨h.1, h.2.1.congr hg, h.2.2⟩
theorem get_u (H : MapAt w b wb n f) (a : Int) (v : Bool) (hv : (decide (0 ≤ a ∧ a < n) && f a.toNat) = v) :
    Calls Tryd.prog 10 #[.pointer (some ⟨b, 0, none⟩), .int .i64 a] w (Next b wb n f w (.bool v)) := by
  subst hv
  by_cases ha : 0 ≤ a ∧ a < n
  · rw [decide_eq_true ha, Bool.true_and]
    obtain ⟨a, rfl⟩ := Int.eq_ofNat_of_zero_le ha.1
    exact (get_yes b wb n f a w H (by omega)).mono fun e W' h => next_drew H h
  · rw [decide_eq_false ha, Bool.false_and]
    exact (get_no b wb n f a w H (by omega)).mono fun e W' h => next_drew H h
theorem count_u (H : MapAt w b wb n f) (c : Int) (hc : ((cnt f n : Nat) : Int) = c) : Calls Tryd.prog 11 #[.pointer (some ⟨b, 0, none⟩)] w (Next b wb n f w (.int .i64 c)) := by
  subst hc
  exact (count_any b wb n f w H).mono fun e W' h => next_below H h
theorem any_u (H : MapAt w b wb n f) (fr to_ : Int) (h1 : -9223372036854775808 ≤ fr) (h2 : to_ ≤ 9223372036854775807) (v : Bool) (hv : decide (0 < cnt (fun k => f k && inr (max fr 0).toNat (min to_ n).toNat k) n) = v) :
    Calls Tryd.prog 13 #[.pointer (some ⟨b, 0, none⟩), .int .i64 fr, .int .i64 to_] w (Next b wb n f w (.bool v)) := by
  subst hv
  exact (any_any b wb n (max fr 0).toNat (min to_ n).toNat f fr to_ w H h1 h2 (by omega) rfl).mono fun e W' h => next_below H h
theorem clear_u (H : MapAt w b wb n f) (fr to_ : Int) (h1 : -9223372036854775808 ≤ fr) (h2 : to_ ≤ 9223372036854775807) (c : Int) (hc : ((cnt (fun k => f k && inr (max fr 0).toNat (min to_ n).toNat k) n : Nat) : Int) = c)
    (g : Nat → Bool) (hg : ∀ k, (f k && !inr (max fr 0).toNat (min to_ n).toNat k) = g k) :
    Calls Tryd.prog 9 #[.pointer (some ⟨b, 0, none⟩), .int .i64 fr, .int .i64 to_] w (Next b wb n g w (.int .i64 c)) := by
  subst hc
  exact (clear_any b wb n (max fr 0).toNat (min to_ n).toNat f fr to_ w H h1 h2 (by omega) rfl).mono fun e W' h => ⟨h.1, h.2.1.congr hg, h.2.2⟩
end

theorem Off.step {wb : Nat} {a b c : World} (h : Off a.heap.size wb a b) (k : Off b.heap.size wb b c) : Off a.heap.size wb a c := h.trans (k.mono h.size)

def s0 : Nat → Bool := fun _ => false
def s1 : Nat → Bool := upd s0 3 true
def s2 : Nat → Bool := upd s1 70 true
def s3 : Nat → Bool := fun k => s2 k && !inr 0 70 k

set_option maxRecDepth 100000 in
theorem works_any (w : World) : Calls Tryd.prog 4 #[] w fun e W' => e = .returned (.bool true) ∧ Below w.heap.size w W' := by
  have c2 : cnt s2 100 = 2 := by decide +kernel
  have a1 : cnt (fun k => s2 k && inr 64 71 k) 100 = 1 := by decide +kernel
  have a2 : cnt (fun k => s2 k && inr 64 70 k) 100 = 0 := by decide +kernel
  have a3 : cnt (fun k => s2 k && inr 0 70 k) 100 = 1 := by decide +kernel
  have F2 := Lib.hid c2
  have A1 := Lib.hid a1
  have A2 := Lib.hid a2
  have A3 := Lib.hid a3
  clear c2 a1 a2 a3
  have N := Lib.hid (new_yes 100 w (by decide))
  go_enter Tryd.func4, Tryd.ntmps4
  go_wp2_with fail
  refine N.out.mono ?_
  rintro e W1 ⟨rfl, m1, b1, z1⟩
  have M1 := Lib.hid m1
  have B1 := Lib.hid b1
  have Z1 := Lib.hid z1
  clear m1 b1 z1
  go_wp2_with fail
  refine (len_u M1.out 100 rfl).mono ?_
  rintro e W2 ⟨rfl, m2, o2⟩
  have M2 := Lib.hid m2
  have O2 := Lib.hid o2
  clear m2 o2
  go_wp2_with fail
  refine (put_u M2.out 3 true true (by decide) s1 (fun _ => rfl)).mono ?_
  rintro e W3 ⟨rfl, m3, o3⟩
  have M3 := Lib.hid m3
  have O3 := Lib.hid (O2.out.step o3)
  clear m3 o3 M2 O2
  go_wp2_with fail
  refine (put_u M3.out 70 true true (by decide) s2 (fun _ => rfl)).mono ?_
  rintro e W4 ⟨rfl, m4, o4⟩
  have M4 := Lib.hid m4
  have O4 := Lib.hid (O3.out.step o4)
  clear m4 o4 M3 O3
  go_wp2_with fail
  refine (get_u M4.out 3 true (by decide +kernel)).mono ?_
  rintro e W5 ⟨rfl, m5, o5⟩
  have M5 := Lib.hid m5
  have O5 := Lib.hid (O4.out.step o5)
  clear m5 o5 M4 O4
  go_wp2_with fail
  refine (get_u M5.out 4 false (by decide +kernel)).mono ?_
  rintro e W6 ⟨rfl, m6, o6⟩
  have M6 := Lib.hid m6
  have O6 := Lib.hid (O5.out.step o6)
  clear m6 o6 M5 O5
  go_wp2_with fail
  refine (count_u M6.out 2 (by rw [F2.out]; rfl)).mono ?_
  rintro e W7 ⟨rfl, m7, o7⟩
  have M7 := Lib.hid m7
  have O7 := Lib.hid (O6.out.step o7)
  clear m7 o7 M6 O6
  go_wp2_with fail
  refine (any_u M7.out 64 71 (by decide) (by decide) true (by show decide (0 < cnt (fun k => s2 k && inr 64 71 k) 100) = true; rw [A1.out]; rfl)).mono ?_
  rintro e W8 ⟨rfl, m8, o8⟩
  have M8 := Lib.hid m8
  have O8 := Lib.hid (O7.out.step o8)
  clear m8 o8 M7 O7
  go_wp2_with fail
  refine (any_u M8.out 64 70 (by decide) (by decide) false (by show decide (0 < cnt (fun k => s2 k && inr 64 70 k) 100) = false; rw [A2.out]; rfl)).mono ?_
  rintro e W9 ⟨rfl, m9, o9⟩
  have M9 := Lib.hid m9
  have O9 := Lib.hid (O8.out.step o9)
  clear m9 o9 M8 O8
  go_wp2_with fail
  refine (clear_u M9.out 0 70 (by decide) (by decide) 1 (by show ((cnt (fun k => s2 k && inr 0 70 k) 100 : Nat) : Int) = 1; rw [A3.out]; rfl) s3 (fun _ => rfl)).mono ?_
  rintro e W10 ⟨rfl, m10, o10⟩
  have M10 := Lib.hid m10
  have O10 := Lib.hid (O9.out.step o10)
  clear m10 o10 M9 O9
  go_wp2_with fail
  refine (get_u M10.out 3 false (by decide +kernel)).mono ?_
  rintro e W11 ⟨rfl, m11, o11⟩
  have M11 := Lib.hid m11
  have O11 := Lib.hid (O10.out.step o11)
  clear m11 o11 M10 O10
  go_wp2_with fail
  refine (get_u M11.out 70 true (by decide +kernel)).mono ?_
  rintro e W12 ⟨rfl, m12, o12⟩
  have O12 := Lib.hid (O11.out.step o12)
  clear m12 o12 M11 O11
  go_wp2
  go_ret
  exact ⟨rfl, B1.out.trans (O12.out.below (by have := Z1.out; omega) (Nat.le_refl _))⟩
end Go.Proofs.YtbomcakgggbacaaDoor
