/- Proved: what was divided comes together again, and what is left is less than what it was divided by; by 0 all is a trap (AluDivides). For every input; no condition. -/
import Derived.Test.YtjkeflldbmiohaaRows
import Derived.Test.YtjkeflldbmiohaaAlC
import Derived.ProofKit
import Derived.OpenShut
import Derived.ChangeOld
namespace Go.Proofs.Ytjkeflldbmiohaa.divides
open Go.ChangeShapes Go.WideShapes Go.ChangeAt Go.RowKit
set_option linter.unusedVariables false
set_option maxRecDepth 100000

set_option maxHeartbeats 2000000 in
theorem walk (a : Int) (wa : (Lit.int .u32 a).wf = true) (b : Int) (wb : (Lit.int .u32 b).wf = true) (W : World) :
    Calls Try.prog 6 #[.int .u32 a, .int .u32 b] W fun e w' => e = .returned (.bool true) ∧ Below W.heap.size W w' := by
  have ha := bounds_u32 wa
  obtain ⟨a, rfl⟩ := Int.eq_ofNat_of_zero_le ha.1
  replace ha : a < 4294967296 := by omega
  have hb := bounds_u32 wb
  obtain ⟨b, rfl⟩ := Int.eq_ofNat_of_zero_le hb.1
  replace hb : b < 4294967296 := by omega
  have hw : Hid (∀ w, _) := Lib.hid works_any
  have hW := Lib.hid (Below.refl W.heap.size W)
  by_cases h0 : b = 0
  · subst h0
    have r1 : Hid (∀ w, Calls Try.prog 10 #[.int .i64 6, .int .u32 (a : Nat), .int .u32 0] w fun e w' => e = .returned (.tuple #[.int .u32 0, .int .i64 7, .bool true]) ∧ Below w.heap.size w w') := Lib.hid (reckon_any 6 a 0 ha (by decide))
    have r2 : Hid (∀ w, Calls Try.prog 10 #[.int .i64 7, .int .u32 (a : Nat), .int .u32 0] w fun e w' => e = .returned (.tuple #[.int .u32 0, .int .i64 7, .bool true]) ∧ Below w.heap.size w w') := Lib.hid (reckon_any 7 a 0 ha (by decide))
    change Calls Try.prog 6 #[.int .u32 ((a : Nat) : Int), .int .u32 0] W _
    clear ha hb wa wb
    generalize ((a : Nat) : Int) = A at *
    go_enter Try.func6, Try.ntmps6
    go_wp2_with fail
    refine (r1.out _).mono ?_
    rintro e w ⟨rfl, hh⟩
    replace hW := Lib.hid (hW.out.trans (hh.mono hW.out.size))
    clear hh
    go_wp2_with fail
    refine (r2.out _).mono ?_
    rintro e w ⟨rfl, hh⟩
    replace hW := Lib.hid (hW.out.trans (hh.mono hW.out.size))
    clear hh
    go_wp2_with fail
    refine (hw.out _).mono ?_
    rintro e w ⟨rfl, hh⟩
    replace hW := Lib.hid (hW.out.trans (hh.mono hW.out.size))
    clear hh
    go_wp2
    go_ret
    exact ⟨rfl, hW.out⟩
  · obtain ⟨q, hq⟩ : ∃ q : Nat, q = a / b := ⟨_, rfl⟩
    obtain ⟨r, hr⟩ : ∃ r : Nat, r = a % b := ⟨_, rfl⟩
    have e1 : badR 6 b = false := by simp [badR, h0]
    have e2 : badR 7 b = false := by simp [badR, h0]
    have c1 : Hid (∀ w, Calls Try.prog 15 #[.int .i64 6, .int .u32 (a : Nat), .int .u32 (b : Nat)] w fun e w' => e = .returned (.int .u32 (q : Nat)) ∧ Below w.heap.size w w') := Lib.hid (of_is 6 a b q ha hb (by unfold valR; rw [e1]; exact hq.symm))
    have c2 : Hid (∀ w, Calls Try.prog 15 #[.int .i64 7, .int .u32 (a : Nat), .int .u32 (b : Nat)] w fun e w' => e = .returned (.int .u32 (r : Nat)) ∧ Below w.heap.size w w') := Lib.hid (of_is 7 a b r ha hb (by unfold valR; rw [e2]; exact hr.symm))
    have f1 : r < b := hr ▸ Nat.mod_lt _ (by omega)
    have f2 : q * b + r = a := by rw [hq, hr, Nat.mul_comm]; exact Nat.div_add_mod a b
    obtain ⟨d, hd⟩ : ∃ d : Nat, q * b = d := ⟨_, rfl⟩
    have f3 : ((q : Nat) : Int) * ((b : Nat) : Int) = ((d : Nat) : Int) := by rw [← hd]; simp
    have f4 : d ≤ 4294967295 := by omega
    have f5 : ((d : Nat) : Int) + ((r : Nat) : Int) = ((a : Nat) : Int) := by omega
    have f6 : q ≤ 4294967295 := by rw [hq]; exact Nat.le_trans (Nat.div_le_self a b) (by omega)
    change Calls Try.prog 6 #[.int .u32 ((a : Nat) : Int), .int .u32 ((b : Nat) : Int)] W _
    clear e1 e2 hq hr hd f2
    have g1 : 0 ≤ ((a : Nat) : Int) ∧ ((a : Nat) : Int) ≤ 4294967295 := by omega
    have g2 : 1 ≤ ((b : Nat) : Int) ∧ ((b : Nat) : Int) ≤ 4294967295 := by omega
    have g3 : 0 ≤ ((q : Nat) : Int) ∧ ((q : Nat) : Int) ≤ 4294967295 := by omega
    have g4 : 0 ≤ ((r : Nat) : Int) ∧ ((r : Nat) : Int) < ((b : Nat) : Int) := by omega
    have g5 : 0 ≤ ((d : Nat) : Int) ∧ ((d : Nat) : Int) ≤ 4294967295 := by omega
    have g6 : ¬ ((b : Nat) : Int) = 0 := by omega
    clear ha hb wa wb f1 f4 f6 h0
    generalize ((a : Nat) : Int) = A at *
    generalize ((b : Nat) : Int) = B at *
    generalize ((q : Nat) : Int) = Q at *
    generalize ((r : Nat) : Int) = R at *
    generalize ((d : Nat) : Int) = D at *
    obtain ⟨g1, g1'⟩ := g1
    obtain ⟨g2, g2'⟩ := g2
    obtain ⟨g3, g3'⟩ := g3
    obtain ⟨g4, g4'⟩ := g4
    obtain ⟨g5, g5'⟩ := g5
    have qA : (A == A) = true := by simp
    go_enter Try.func6, Try.ntmps6
    go_wp2_with fail
    refine (c1.out _).mono ?_
    rintro e w ⟨rfl, hh⟩
    replace hW := Lib.hid (hW.out.trans (hh.mono hW.out.size))
    clear hh
    go_wp2_with fail
    refine (c2.out _).mono ?_
    rintro e w ⟨rfl, hh⟩
    replace hW := Lib.hid (hW.out.trans (hh.mono hW.out.size))
    clear hh
    go_wp2_with fail
    refine (hw.out _).mono ?_
    rintro e w ⟨rfl, hh⟩
    replace hW := Lib.hid (hW.out.trans (hh.mono hW.out.size))
    clear hh
    go_wp2
    go_ret
    exact ⟨rfl, hW.out⟩
theorem own : ownKnob Try.prog.godebug = none := by kernel_rfl
theorem laidOut : laidOutB Try.prog = true := by kernel_rfl
set_option maxRecDepth 100000 in
theorem lifted (os : Os) (started : os.Started) (H : Type) (enc : TypeId × Value → H) :
    ReturnsInHanded {} Try.checked os 6 .any (Rows.aluDividesSpec.pre6 enc Try.prog Try.f6 Rows.aluDividesRow.domain false) (Rows.aluDividesSpec.post enc Try.prog Try.f6 false true false false) := by
  refine returnsInHanded_of_change (C := Try.checked) own started (by kernel_rfl) Try.func6
    (ChangeSpec.witness6 (enc := enc) (C := Try.checked) false ⟨#[], #[.int .u32 0, .int .u32 0], []⟩ 8 (by kernel_rfl) (by kernel_rfl) (by kernel_rfl) (by kernel_rfl)) ?_
  intro W base args ds gs before hval0 hW hcnd hsz
  have hval : ∀ (j : Nat) t v, Try.f6.params[j]? = some t → args[j]? = some v → Value.okWide Try.prog W .any base t v := hval0
  have hW' := hW
  obtain ⟨p, q, hA0, hV, rfl, hfz, hnd⟩ := hW
  have hA : DataW.TrodAll enc Try.prog W 0 (fun _ => true) true Try.f6.params.toList args.toList ds p := hA0
  rw [Try.params6] at hA hval
  obtain ⟨v0, vs0, d0, ds0, p0, q0, hargs, rfl, rfl, h0, r0⟩ := trodAll_cons hA
  obtain ⟨v1, vs1, d1, ds1, p1, q1, rfl, rfl, rfl, h1, r1⟩ := trodAll_cons r0
  obtain ⟨rfl, rfl, rfl⟩ := trodAll_nil r1
  obtain rfl : args = #[v0, v1] := by cases args; simp_all
  obtain ⟨rfl, rfl⟩ := trodVars_none hV
  have k0 := h0
  have lt0 : ∀ x ∈ p0, x.block < W.heap.size := by obtain ⟨m, hm⟩ := k0; exact DataW.trod_lt m _ _ _ hm
  have k1 := h1
  have lt1 : ∀ x ∈ p1, x.block < W.heap.size := by obtain ⟨m, hm⟩ := k1; exact DataW.trod_lt m _ _ _ hm
  obtain ⟨a, rfl, rfl, rfl, wa⟩ := open_int Try.underlying22 (hval 0 22 v0 rfl rfl) h0
  obtain ⟨b, rfl, rfl, rfl, wb⟩ := open_int Try.underlying22 (hval 1 22 v1 rfl rfl) h1
  clear hA0 hval0
  refine (walk a wa b wb W).mono fun e W' ⟨he, bel⟩ => ?_
  subst he
  exact ⟨_, rfl, _, _, _, [], _, [], hW', trodAll_mk1 (shut_bool Try.underlying4 _), (trodAll_cons_mk (Below.trod laidOut (by kernel_rfl) (of_decide_eq_true (by kernel_rfl)) k0 bel lt0) (trodAll_cons_mk (Below.trod laidOut (by kernel_rfl) (of_decide_eq_true (by kernel_rfl)) k1 bel lt1) trodAll_mk0)), rfl, bel.frame _, fun h => by cases h⟩
theorem over : Rows.aluDividesRow.holds Try.pinned (OpenSpec.ofChange Rows.aluDividesSpec) :=
  OpenClaim.holds_of_wide 6 Try.f6 rfl rfl rfl rfl rfl rfl rfl ⟨rfl, rfl, rfl, rfl, rfl⟩ rfl rfl rfl rfl rfl (by kernel_rfl) Try.func6 (by kernel_rfl)
    (of_decide_eq_true (by kernel_rfl)) (by unfold Func.isWrapper; first | (rw [if_pos (by decide +kernel)]; kernel_rfl) | (rw [if_neg (by decide +kernel)]; exact ⟨rfl, rfl⟩))
    (fun os started H enc _ => lifted os started H enc)
/-- The given statement. -/
theorem proved : Rows.AluDividesSaid := over
end Go.Proofs.Ytjkeflldbmiohaa.divides
