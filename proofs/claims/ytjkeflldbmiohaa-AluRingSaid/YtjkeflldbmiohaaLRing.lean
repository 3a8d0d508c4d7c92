/- Proved: sums and products hang on no order and no brackets, products go over sums, and what was taken away is there again (AluRing). For every input; no condition. -/
import Derived.Test.YtjkeflldbmiohaaRows
import Derived.Test.YtjkeflldbmiohaaAlC
import Derived.ProofKit
import Derived.OpenShut
import Derived.ChangeOld
namespace Go.Proofs.Ytjkeflldbmiohaa.ring
open Go.ChangeShapes Go.WideShapes Go.ChangeAt Go.RowKit
set_option linter.unusedVariables false
set_option maxRecDepth 100000

set_option maxHeartbeats 4000000 in
theorem walk (a : Int) (wa : (Lit.int .u32 a).wf = true) (b : Int) (wb : (Lit.int .u32 b).wf = true) (c : Int) (wc : (Lit.int .u32 c).wf = true) (W : World) :
    Calls Try.prog 5 #[.int .u32 a, .int .u32 b, .int .u32 c] W fun e w' => e = .returned (.bool true) ∧ Below W.heap.size W w' := by
  have ha := bounds_u32 wa
  obtain ⟨a, rfl⟩ := Int.eq_ofNat_of_zero_le ha.1
  replace ha : a < 4294967296 := by omega
  have hb := bounds_u32 wb
  obtain ⟨b, rfl⟩ := Int.eq_ofNat_of_zero_le hb.1
  replace hb : b < 4294967296 := by omega
  have hc := bounds_u32 wc
  obtain ⟨c, rfl⟩ := Int.eq_ofNat_of_zero_le hc.1
  replace hc : c < 4294967296 := by omega
  obtain ⟨s, e_s⟩ : ∃ s : Nat, s = (a + b) % 4294967296 := ⟨_, rfl⟩
  have l_s : s < 4294967296 := by rw [e_s]; exact Nat.mod_lt _ (by decide)
  obtain ⟨p, e_p⟩ : ∃ p : Nat, p = a * b % 4294967296 := ⟨_, rfl⟩
  have l_p : p < 4294967296 := by rw [e_p]; exact Nat.mod_lt _ (by decide)
  obtain ⟨t, e_t⟩ : ∃ t : Nat, t = (b + c) % 4294967296 := ⟨_, rfl⟩
  have l_t : t < 4294967296 := by rw [e_t]; exact Nat.mod_lt _ (by decide)
  obtain ⟨q, e_q⟩ : ∃ q : Nat, q = b * c % 4294967296 := ⟨_, rfl⟩
  have l_q : q < 4294967296 := by rw [e_q]; exact Nat.mod_lt _ (by decide)
  obtain ⟨u, e_u⟩ : ∃ u : Nat, u = a * c % 4294967296 := ⟨_, rfl⟩
  have l_u : u < 4294967296 := by rw [e_u]; exact Nat.mod_lt _ (by decide)
  obtain ⟨s3, e_s3⟩ : ∃ s3 : Nat, s3 = (s + c) % 4294967296 := ⟨_, rfl⟩
  have l_s3 : s3 < 4294967296 := by rw [e_s3]; exact Nat.mod_lt _ (by decide)
  obtain ⟨p3, e_p3⟩ : ∃ p3 : Nat, p3 = p * c % 4294967296 := ⟨_, rfl⟩
  have l_p3 : p3 < 4294967296 := by rw [e_p3]; exact Nat.mod_lt _ (by decide)
  obtain ⟨x, e_x⟩ : ∃ x : Nat, x = s * c % 4294967296 := ⟨_, rfl⟩
  have l_x : x < 4294967296 := by rw [e_x]; exact Nat.mod_lt _ (by decide)
  obtain ⟨d, e_d⟩ : ∃ d : Nat, d = (a + (4294967296 - b)) % 4294967296 := ⟨_, rfl⟩
  have l_d : d < 4294967296 := by rw [e_d]; exact Nat.mod_lt _ (by decide)
  have c1 : Hid (∀ w, Calls Try.prog 15 #[.int .i64 3, .int .u32 (a : Nat), .int .u32 (b : Nat)] w fun e w' => e = .returned (.int .u32 (s : Nat)) ∧ Below w.heap.size w w') := Lib.hid (of_is 3 a b s ha hb (e_s.symm))
  have c2 : Hid (∀ w, Calls Try.prog 15 #[.int .i64 3, .int .u32 (b : Nat), .int .u32 (a : Nat)] w fun e w' => e = .returned (.int .u32 (s : Nat)) ∧ Below w.heap.size w w') := Lib.hid (of_is 3 b a s hb ha (by rw [e_s, Nat.add_comm a b]; rfl))
  have c3 : Hid (∀ w, Calls Try.prog 15 #[.int .i64 5, .int .u32 (a : Nat), .int .u32 (b : Nat)] w fun e w' => e = .returned (.int .u32 (p : Nat)) ∧ Below w.heap.size w w') := Lib.hid (of_is 5 a b p ha hb (e_p.symm))
  have c4 : Hid (∀ w, Calls Try.prog 15 #[.int .i64 5, .int .u32 (b : Nat), .int .u32 (a : Nat)] w fun e w' => e = .returned (.int .u32 (p : Nat)) ∧ Below w.heap.size w w') := Lib.hid (of_is 5 b a p hb ha (by rw [e_p, Nat.mul_comm a b]; rfl))
  have c5 : Hid (∀ w, Calls Try.prog 15 #[.int .i64 3, .int .u32 (s : Nat), .int .u32 (c : Nat)] w fun e w' => e = .returned (.int .u32 (s3 : Nat)) ∧ Below w.heap.size w w') := Lib.hid (of_is 3 s c s3 l_s hc (e_s3.symm))
  have c6 : Hid (∀ w, Calls Try.prog 15 #[.int .i64 3, .int .u32 (b : Nat), .int .u32 (c : Nat)] w fun e w' => e = .returned (.int .u32 (t : Nat)) ∧ Below w.heap.size w w') := Lib.hid (of_is 3 b c t hb hc (e_t.symm))
  have c7 : Hid (∀ w, Calls Try.prog 15 #[.int .i64 3, .int .u32 (a : Nat), .int .u32 (t : Nat)] w fun e w' => e = .returned (.int .u32 (s3 : Nat)) ∧ Below w.heap.size w w') := Lib.hid (of_is 3 a t s3 ha l_t (show (a + t) % 4294967296 = s3 by rw [e_s3, e_s, e_t]; omega))
  have c8 : Hid (∀ w, Calls Try.prog 15 #[.int .i64 5, .int .u32 (p : Nat), .int .u32 (c : Nat)] w fun e w' => e = .returned (.int .u32 (p3 : Nat)) ∧ Below w.heap.size w w') := Lib.hid (of_is 5 p c p3 l_p hc (e_p3.symm))
  have c9 : Hid (∀ w, Calls Try.prog 15 #[.int .i64 5, .int .u32 (b : Nat), .int .u32 (c : Nat)] w fun e w' => e = .returned (.int .u32 (q : Nat)) ∧ Below w.heap.size w w') := Lib.hid (of_is 5 b c q hb hc (e_q.symm))
  have c10 : Hid (∀ w, Calls Try.prog 15 #[.int .i64 5, .int .u32 (a : Nat), .int .u32 (q : Nat)] w fun e w' => e = .returned (.int .u32 (p3 : Nat)) ∧ Below w.heap.size w w') := Lib.hid (of_is 5 a q p3 ha l_q (show a * q % 4294967296 = p3 by rw [e_p3, e_p, e_q, Nat.mul_mod_mod, Nat.mod_mul_mod, Nat.mul_assoc]))
  have c12 : Hid (∀ w, Calls Try.prog 15 #[.int .i64 5, .int .u32 (s : Nat), .int .u32 (c : Nat)] w fun e w' => e = .returned (.int .u32 (x : Nat)) ∧ Below w.heap.size w w') := Lib.hid (of_is 5 s c x l_s hc (e_x.symm))
  have c13 : Hid (∀ w, Calls Try.prog 15 #[.int .i64 5, .int .u32 (a : Nat), .int .u32 (c : Nat)] w fun e w' => e = .returned (.int .u32 (u : Nat)) ∧ Below w.heap.size w w') := Lib.hid (of_is 5 a c u ha hc (e_u.symm))
  have c14 : Hid (∀ w, Calls Try.prog 15 #[.int .i64 3, .int .u32 (u : Nat), .int .u32 (q : Nat)] w fun e w' => e = .returned (.int .u32 (x : Nat)) ∧ Below w.heap.size w w') := Lib.hid (of_is 3 u q x l_u l_q (show (u + q) % 4294967296 = x by rw [e_x, e_s, e_u, e_q, Nat.mod_mul_mod, Nat.add_mul]; exact (Nat.add_mod _ _ _).symm))
  have c15 : Hid (∀ w, Calls Try.prog 15 #[.int .i64 4, .int .u32 (a : Nat), .int .u32 (b : Nat)] w fun e w' => e = .returned (.int .u32 (d : Nat)) ∧ Below w.heap.size w w') := Lib.hid (of_is 4 a b d ha hb (e_d.symm))
  have c16 : Hid (∀ w, Calls Try.prog 15 #[.int .i64 3, .int .u32 (d : Nat), .int .u32 (b : Nat)] w fun e w' => e = .returned (.int .u32 (a : Nat)) ∧ Below w.heap.size w w') := Lib.hid (of_is 3 d b a l_d hb (show (d + b) % 4294967296 = a by rw [e_d]; omega))
  have c17 : Hid (∀ w, Calls Try.prog 15 #[.int .i64 4, .int .u32 (a : Nat), .int .u32 (a : Nat)] w fun e w' => e = .returned (.int .u32 0) ∧ Below w.heap.size w w') := Lib.hid (of_is 4 a a 0 ha ha (show (a + (4294967296 - a)) % 4294967296 = 0 by omega))
  have c18 : Hid (∀ w, Calls Try.prog 15 #[.int .i64 5, .int .u32 (a : Nat), .int .u32 1] w fun e w' => e = .returned (.int .u32 (a : Nat)) ∧ Below w.heap.size w w') := Lib.hid (of_is 5 a 1 a ha (by decide) (show a * 1 % 4294967296 = a by omega))
  have hW := Lib.hid (Below.refl W.heap.size W)
  have hw : Hid (∀ w, _) := Lib.hid works_any
  change Calls Try.prog 5 #[.int .u32 ((a : Nat) : Int), .int .u32 ((b : Nat) : Int), .int .u32 ((c : Nat) : Int)] W _
  clear e_s e_p e_t e_q e_u e_s3 e_p3 e_x e_d l_s l_p l_t l_q l_u l_s3 l_p3 l_x l_d ha hb hc wa wb wc
  generalize ((a : Nat) : Int) = A_ at *
  generalize ((b : Nat) : Int) = B_ at *
  generalize ((c : Nat) : Int) = C_ at *
  generalize ((s : Nat) : Int) = S_ at *
  generalize ((p : Nat) : Int) = P_ at *
  generalize ((t : Nat) : Int) = T_ at *
  generalize ((q : Nat) : Int) = Q_ at *
  generalize ((u : Nat) : Int) = U_ at *
  generalize ((s3 : Nat) : Int) = S3_ at *
  generalize ((p3 : Nat) : Int) = P3_ at *
  generalize ((x : Nat) : Int) = X_ at *
  generalize ((d : Nat) : Int) = D_ at *
  have q_a : (A_ == A_) = true := by simp
  have q_s : (S_ == S_) = true := by simp
  have q_p : (P_ == P_) = true := by simp
  have q_s3 : (S3_ == S3_) = true := by simp
  have q_p3 : (P3_ == P3_) = true := by simp
  have q_x : (X_ == X_) = true := by simp
  go_enter Try.func5, Try.ntmps5
  go_wp2_with fail
  refine (c1.out _).mono ?_
  rintro e w ⟨rfl, hh⟩
  replace hW := Lib.hid (hW.out.trans (hh.mono hW.out.size))
  clear hh
  go_wp2_with fail
  refine (c2.out _).mono ?_
  rintro e w ⟨rfl, hh⟩
  replace hW := Lib.hid (hW.out.trans (hh.mono hW.out.size))
  clear hh
  go_wp2_with fail
  refine (c3.out _).mono ?_
  rintro e w ⟨rfl, hh⟩
  replace hW := Lib.hid (hW.out.trans (hh.mono hW.out.size))
  clear hh
  go_wp2_with fail
  refine (c4.out _).mono ?_
  rintro e w ⟨rfl, hh⟩
  replace hW := Lib.hid (hW.out.trans (hh.mono hW.out.size))
  clear hh
  go_wp2_with fail
  refine (c1.out _).mono ?_
  rintro e w ⟨rfl, hh⟩
  replace hW := Lib.hid (hW.out.trans (hh.mono hW.out.size))
  clear hh
  go_wp2_with fail
  refine (c5.out _).mono ?_
  rintro e w ⟨rfl, hh⟩
  replace hW := Lib.hid (hW.out.trans (hh.mono hW.out.size))
  clear hh
  go_wp2_with fail
  refine (c6.out _).mono ?_
  rintro e w ⟨rfl, hh⟩
  replace hW := Lib.hid (hW.out.trans (hh.mono hW.out.size))
  clear hh
  go_wp2_with fail
  refine (c7.out _).mono ?_
  rintro e w ⟨rfl, hh⟩
  replace hW := Lib.hid (hW.out.trans (hh.mono hW.out.size))
  clear hh
  go_wp2_with fail
  refine (c3.out _).mono ?_
  rintro e w ⟨rfl, hh⟩
  replace hW := Lib.hid (hW.out.trans (hh.mono hW.out.size))
  clear hh
  go_wp2_with fail
  refine (c8.out _).mono ?_
  rintro e w ⟨rfl, hh⟩
  replace hW := Lib.hid (hW.out.trans (hh.mono hW.out.size))
  clear hh
  go_wp2_with fail
  refine (c9.out _).mono ?_
  rintro e w ⟨rfl, hh⟩
  replace hW := Lib.hid (hW.out.trans (hh.mono hW.out.size))
  clear hh
  go_wp2_with fail
  refine (c10.out _).mono ?_
  rintro e w ⟨rfl, hh⟩
  replace hW := Lib.hid (hW.out.trans (hh.mono hW.out.size))
  clear hh
  go_wp2_with fail
  refine (c1.out _).mono ?_
  rintro e w ⟨rfl, hh⟩
  replace hW := Lib.hid (hW.out.trans (hh.mono hW.out.size))
  clear hh
  go_wp2_with fail
  refine (c12.out _).mono ?_
  rintro e w ⟨rfl, hh⟩
  replace hW := Lib.hid (hW.out.trans (hh.mono hW.out.size))
  clear hh
  go_wp2_with fail
  refine (c13.out _).mono ?_
  rintro e w ⟨rfl, hh⟩
  replace hW := Lib.hid (hW.out.trans (hh.mono hW.out.size))
  clear hh
  go_wp2_with fail
  refine (c9.out _).mono ?_
  rintro e w ⟨rfl, hh⟩
  replace hW := Lib.hid (hW.out.trans (hh.mono hW.out.size))
  clear hh
  go_wp2_with fail
  refine (c14.out _).mono ?_
  rintro e w ⟨rfl, hh⟩
  replace hW := Lib.hid (hW.out.trans (hh.mono hW.out.size))
  clear hh
  go_wp2_with fail
  refine (c15.out _).mono ?_
  rintro e w ⟨rfl, hh⟩
  replace hW := Lib.hid (hW.out.trans (hh.mono hW.out.size))
  clear hh
  go_wp2_with fail
  refine (c16.out _).mono ?_
  rintro e w ⟨rfl, hh⟩
  replace hW := Lib.hid (hW.out.trans (hh.mono hW.out.size))
  clear hh
  go_wp2_with fail
  refine (c17.out _).mono ?_
  rintro e w ⟨rfl, hh⟩
  replace hW := Lib.hid (hW.out.trans (hh.mono hW.out.size))
  clear hh
  go_wp2_with fail
  refine (c18.out _).mono ?_
  rintro e w ⟨rfl, hh⟩
  replace hW := Lib.hid (hW.out.trans (hh.mono hW.out.size))
  clear hh
  go_wp2_with fail
  refine (hw.out _).mono ?_
  rintro e w ⟨rfl, hh⟩
  replace hW := Lib.hid (hW.out.trans (hh.mono hW.out.size))
  clear hh
  go_wp2
  go_ret
  exact ⟨rfl, hW.out⟩
theorem own : ownKnob Try.prog.godebug = none := by kernel_rfl
theorem laidOut : laidOutB Try.prog = true := by kernel_rfl
set_option maxRecDepth 100000 in
theorem lifted (os : Os) (started : os.Started) (H : Type) (enc : TypeId × Value → H) :
    ReturnsInHanded {} Try.checked os 5 .any (Rows.aluRingSpec.pre6 enc Try.prog Try.f5 Rows.aluRingRow.domain false) (Rows.aluRingSpec.post enc Try.prog Try.f5 false true false false) := by
  refine returnsInHanded_of_change (C := Try.checked) own started (by kernel_rfl) Try.func5
    (ChangeSpec.witness6 (enc := enc) (C := Try.checked) false ⟨#[], #[.int .u32 0, .int .u32 0, .int .u32 0], []⟩ 8 (by kernel_rfl) (by kernel_rfl) (by kernel_rfl) (by kernel_rfl)) ?_
  intro W base args ds gs before hval0 hW hcnd hsz
  have hval : ∀ (j : Nat) t v, Try.f5.params[j]? = some t → args[j]? = some v → Value.okWide Try.prog W .any base t v := hval0
  have hW' := hW
  obtain ⟨p, q, hA0, hV, rfl, hfz, hnd⟩ := hW
  have hA : DataW.TrodAll enc Try.prog W 0 (fun _ => true) true Try.f5.params.toList args.toList ds p := hA0
  rw [Try.params5] at hA hval
  obtain ⟨v0, vs0, d0, ds0, p0, q0, hargs, rfl, rfl, h0, r0⟩ := trodAll_cons hA
  obtain ⟨v1, vs1, d1, ds1, p1, q1, rfl, rfl, rfl, h1, r1⟩ := trodAll_cons r0
  obtain ⟨v2, vs2, d2, ds2, p2, q2, rfl, rfl, rfl, h2, r2⟩ := trodAll_cons r1
  obtain ⟨rfl, rfl, rfl⟩ := trodAll_nil r2
  obtain rfl : args = #[v0, v1, v2] := by cases args; simp_all
  obtain ⟨rfl, rfl⟩ := trodVars_none hV
  have k0 := h0
  have lt0 : ∀ x ∈ p0, x.block < W.heap.size := by obtain ⟨m, hm⟩ := k0; exact DataW.trod_lt m _ _ _ hm
  have k1 := h1
  have lt1 : ∀ x ∈ p1, x.block < W.heap.size := by obtain ⟨m, hm⟩ := k1; exact DataW.trod_lt m _ _ _ hm
  have k2 := h2
  have lt2 : ∀ x ∈ p2, x.block < W.heap.size := by obtain ⟨m, hm⟩ := k2; exact DataW.trod_lt m _ _ _ hm
  obtain ⟨a, rfl, rfl, rfl, wa⟩ := open_int Try.underlying22 (hval 0 22 v0 rfl rfl) h0
  obtain ⟨b, rfl, rfl, rfl, wb⟩ := open_int Try.underlying22 (hval 1 22 v1 rfl rfl) h1
  obtain ⟨c, rfl, rfl, rfl, wc⟩ := open_int Try.underlying22 (hval 2 22 v2 rfl rfl) h2
  clear hA0 hval0
  refine (walk a wa b wb c wc W).mono fun e W' ⟨he, bel⟩ => ?_
  subst he
  exact ⟨_, rfl, _, _, _, [], _, [], hW', trodAll_mk1 (shut_bool Try.underlying4 _), (trodAll_cons_mk (Below.trod laidOut (by kernel_rfl) (of_decide_eq_true (by kernel_rfl)) k0 bel lt0) (trodAll_cons_mk (Below.trod laidOut (by kernel_rfl) (of_decide_eq_true (by kernel_rfl)) k1 bel lt1) (trodAll_cons_mk (Below.trod laidOut (by kernel_rfl) (of_decide_eq_true (by kernel_rfl)) k2 bel lt2) trodAll_mk0))), rfl, bel.frame _, fun h => by cases h⟩
theorem over : Rows.aluRingRow.holds Try.pinned (OpenSpec.ofChange Rows.aluRingSpec) :=
  OpenClaim.holds_of_wide 5 Try.f5 rfl rfl rfl rfl rfl rfl rfl ⟨rfl, rfl, rfl, rfl, rfl⟩ rfl rfl rfl rfl rfl (by kernel_rfl) Try.func5 (by kernel_rfl)
    (of_decide_eq_true (by kernel_rfl)) (by unfold Func.isWrapper; first | (rw [if_pos (by decide +kernel)]; kernel_rfl) | (rw [if_neg (by decide +kernel)]; exact ⟨rfl, rfl⟩))
    (fun os started H enc _ => lifted os started H enc)
/-- The given statement. -/
theorem proved : Rows.AluRingSaid := over
end Go.Proofs.Ytjkeflldbmiohaa.ring
