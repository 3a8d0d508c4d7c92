/- Proved: what two numbers' bits make together, moved up and down again nothing is lost but what was moved out (AluBits). For every input; no condition. -/
import Derived.Test.YtjkeflldbmiohaaRows
import Derived.Test.YtjkeflldbmiohaaAlC
import Derived.Test.YtjkeflldbmiohaaAlN
import Derived.Test.YtjkeflldbmiohaaCls
import Derived.ProofKit
import Derived.OpenShut
import Derived.ChangeOld
namespace Go.Proofs.Ytjkeflldbmiohaa.bitsL
open Go.ChangeShapes Go.WideShapes Go.ChangeAt Go.RowKit
set_option linter.unusedVariables false
set_option maxRecDepth 100000

set_option maxHeartbeats 4000000 in
theorem walk (a : Int) (wa : (Lit.int .u32 a).wf = true) (b : Int) (wb : (Lit.int .u32 b).wf = true) (n : Int) (wn : (Lit.int .u32 n).wf = true) (W : World) :
    Calls Try.prog 7 #[.int .u32 a, .int .u32 b, .int .u32 n] W fun e w' => e = .returned (.bool true) ∧ Below W.heap.size W w' := by
  have ha := bounds_u32 wa
  obtain ⟨a, rfl⟩ := Int.eq_ofNat_of_zero_le ha.1
  replace ha : a < 4294967296 := by omega
  have hb := bounds_u32 wb
  obtain ⟨b, rfl⟩ := Int.eq_ofNat_of_zero_le hb.1
  replace hb : b < 4294967296 := by omega
  have hn := bounds_u32 wn
  obtain ⟨n, rfl⟩ := Int.eq_ofNat_of_zero_le hn.1
  replace hn : n < 4294967296 := by omega
  obtain ⟨k, e_k⟩ : ∃ k : Nat, k = n % 32 := ⟨_, rfl⟩
  have l_k : k < 4294967296 := by rw [e_k]; exact Nat.lt_trans (Nat.mod_lt _ (by decide)) (by decide)
  have lk : k < 32 := by rw [e_k]; exact Nat.mod_lt _ (by decide)
  obtain ⟨an, e_an⟩ : ∃ an : Nat, an = a &&& b := ⟨_, rfl⟩
  have l_an : an < 4294967296 := by rw [e_an]; exact Nat.and_lt_two_pow (n := 32) a hb
  obtain ⟨o, e_o⟩ : ∃ o : Nat, o = a ||| b := ⟨_, rfl⟩
  have l_o : o < 4294967296 := by rw [e_o]; exact Nat.or_lt_two_pow (n := 32) ha hb
  obtain ⟨x, e_x⟩ : ∃ x : Nat, x = a ^^^ b := ⟨_, rfl⟩
  have l_x : x < 4294967296 := by rw [e_x]; exact Nat.xor_lt_two_pow (n := 32) ha hb
  obtain ⟨s, e_s⟩ : ∃ s : Nat, s = (a + b) % 4294967296 := ⟨_, rfl⟩
  have l_s : s < 4294967296 := by rw [e_s]; exact Nat.mod_lt _ (by decide)
  obtain ⟨l, e_l⟩ : ∃ l : Nat, l = a * 2 ^ (n % 32) % 4294967296 := ⟨_, rfl⟩
  have l_l : l < 4294967296 := by rw [e_l]; exact Nat.mod_lt _ (by decide)
  obtain ⟨up, e_up⟩ : ∃ up : Nat, up = l / 2 ^ (n % 32) := ⟨_, rfl⟩
  have l_up : up < 4294967296 := by rw [e_up]; exact Nat.lt_of_le_of_lt (Nat.div_le_self _ _) l_l
  obtain ⟨h, e_h⟩ : ∃ h : Nat, h = a / 2 ^ (n % 32) := ⟨_, rfl⟩
  have l_h : h < 4294967296 := by rw [e_h]; exact Nat.lt_of_le_of_lt (Nat.div_le_self _ _) ha
  obtain ⟨dn, e_dn⟩ : ∃ dn : Nat, dn = h * 2 ^ (n % 32) % 4294967296 := ⟨_, rfl⟩
  have l_dn : dn < 4294967296 := by rw [e_dn]; exact Nat.mod_lt _ (by decide)
  have c1 : Hid (∀ w, Calls Try.prog 15 #[.int .i64 8, .int .u32 (a : Nat), .int .u32 (b : Nat)] w fun e w' => e = .returned (.int .u32 (an : Nat)) ∧ Below w.heap.size w w') := Lib.hid (of_is 8 a b an ha hb (e_an.symm))
  have c2 : Hid (∀ w, Calls Try.prog 15 #[.int .i64 9, .int .u32 (a : Nat), .int .u32 (b : Nat)] w fun e w' => e = .returned (.int .u32 (o : Nat)) ∧ Below w.heap.size w w') := Lib.hid (of_is 9 a b o ha hb (e_o.symm))
  have c3 : Hid (∀ w, Calls Try.prog 15 #[.int .i64 10, .int .u32 (a : Nat), .int .u32 (b : Nat)] w fun e w' => e = .returned (.int .u32 (x : Nat)) ∧ Below w.heap.size w w') := Lib.hid (of_is 10 a b x ha hb (e_x.symm))
  have c4 : Hid (∀ w, Calls Try.prog 15 #[.int .i64 3, .int .u32 (an : Nat), .int .u32 (o : Nat)] w fun e w' => e = .returned (.int .u32 (s : Nat)) ∧ Below w.heap.size w w') := Lib.hid (of_is 3 an o s l_an l_o (show (an + o) % 4294967296 = s by rw [e_an, e_o, and_or, e_s]))
  have c5 : Hid (∀ w, Calls Try.prog 15 #[.int .i64 3, .int .u32 (a : Nat), .int .u32 (b : Nat)] w fun e w' => e = .returned (.int .u32 (s : Nat)) ∧ Below w.heap.size w w') := Lib.hid (of_is 3 a b s ha hb (e_s.symm))
  have c6 : Hid (∀ w, Calls Try.prog 15 #[.int .i64 3, .int .u32 (an : Nat), .int .u32 (x : Nat)] w fun e w' => e = .returned (.int .u32 (o : Nat)) ∧ Below w.heap.size w w') := Lib.hid (of_is 3 an x o l_an l_x (show (an + x) % 4294967296 = o by rw [e_an, e_x, and_xor, ← e_o]; exact Nat.mod_eq_of_lt l_o))
  have c7 : Hid (∀ w, Calls Try.prog 15 #[.int .i64 10, .int .u32 (x : Nat), .int .u32 (b : Nat)] w fun e w' => e = .returned (.int .u32 (a : Nat)) ∧ Below w.heap.size w w') := Lib.hid (of_is 10 x b a l_x hb (show x ^^^ b = a by rw [e_x]; exact xor_back a b))
  have c8 : Hid (∀ w, Calls Try.prog 15 #[.int .i64 11, .int .u32 (a : Nat), .int .u32 (n : Nat)] w fun e w' => e = .returned (.int .u32 (l : Nat)) ∧ Below w.heap.size w w') := Lib.hid (of_is 11 a n l ha hn (e_l.symm))
  have c9 : Hid (∀ w, Calls Try.prog 15 #[.int .i64 12, .int .u32 (l : Nat), .int .u32 (n : Nat)] w fun e w' => e = .returned (.int .u32 (up : Nat)) ∧ Below w.heap.size w w') := Lib.hid (of_is 12 l n up l_l hn (e_up.symm))
  have c10 : Hid (∀ w, Calls Try.prog 15 #[.int .i64 12, .int .u32 (a : Nat), .int .u32 (n : Nat)] w fun e w' => e = .returned (.int .u32 (h : Nat)) ∧ Below w.heap.size w w') := Lib.hid (of_is 12 a n h ha hn (e_h.symm))
  have c11 : Hid (∀ w, Calls Try.prog 15 #[.int .i64 11, .int .u32 (h : Nat), .int .u32 (n : Nat)] w fun e w' => e = .returned (.int .u32 (dn : Nat)) ∧ Below w.heap.size w w') := Lib.hid (of_is 11 h n dn l_h hn (e_dn.symm))
  have c12 : Hid (∀ w, Calls Try.prog 15 #[.int .i64 11, .int .u32 (a : Nat), .int .u32 (k : Nat)] w fun e w' => e = .returned (.int .u32 (l : Nat)) ∧ Below w.heap.size w w') := Lib.hid (of_is 11 a k l ha l_k (show a * 2 ^ (k % 32) % 4294967296 = l by rw [Nat.mod_eq_of_lt lk, e_l, e_k]))
  have hpw : 2 ^ k ≤ 2147483648 := Nat.le_trans (Nat.pow_le_pow_right (by decide) (show k ≤ 31 by omega)) (by decide)
  have hpp : 0 < 2 ^ k := Nat.two_pow_pos k
  obtain ⟨u, e_u⟩ : ∃ u : Nat, u = 2 ^ k := ⟨_, rfl⟩
  have hU : (2 : Int) ^ k = ((u : Nat) : Int) := by rw [e_u]; simp
  have hU1 : 1 ≤ ((u : Nat) : Int) := by rw [e_u]; omega
  have hU2 : ((u : Nat) : Int) ≤ 2147483648 := by rw [e_u]; omega
  have hK : ((n : Nat) : Int).tmod 32 = ((k : Nat) : Int) := by rw [e_k]; rfl
  rw [← e_k, ← e_u] at e_l e_up e_h e_dn
  have g1 : ((a : Nat) : Int) * ((u : Nat) : Int) % 4294967296 = ((l : Nat) : Int) := by rw [e_l]; simp
  have g2 : ((l : Nat) : Int) / ((u : Nat) : Int) = ((up : Nat) : Int) := by rw [e_up]; simp
  have g3 : ((a : Nat) : Int) / ((u : Nat) : Int) = ((h : Nat) : Int) := by rw [e_h]; simp
  have g4 : ((h : Nat) : Int) * ((u : Nat) : Int) % 4294967296 = ((dn : Nat) : Int) := by rw [e_dn]; simp
  have g5 : 0 ≤ ((a : Nat) : Int) ∧ ((a : Nat) : Int) ≤ 4294967295 := by omega
  have hW := Lib.hid (Below.refl W.heap.size W)
  have hw : Hid (∀ w, _) := Lib.hid works_any
  change Calls Try.prog 7 #[.int .u32 ((a : Nat) : Int), .int .u32 ((b : Nat) : Int), .int .u32 ((n : Nat) : Int)] W _
  clear hpw hpp e_u e_k l_k e_an l_an e_o l_o e_x l_x e_s l_s e_l l_l e_up l_up e_h l_h e_dn l_dn ha hb hn wa wb wn
  generalize ((a : Nat) : Int) = A_ at *
  generalize ((b : Nat) : Int) = B_ at *
  generalize ((n : Nat) : Int) = N_ at *
  generalize ((an : Nat) : Int) = AN_ at *
  generalize ((o : Nat) : Int) = O_ at *
  generalize ((x : Nat) : Int) = X_ at *
  generalize ((s : Nat) : Int) = S_ at *
  generalize ((l : Nat) : Int) = L_ at *
  generalize ((up : Nat) : Int) = UP_ at *
  generalize ((h : Nat) : Int) = H_ at *
  generalize ((dn : Nat) : Int) = DN_ at *
  generalize ((u : Nat) : Int) = U_ at *
  have q_a : (A_ == A_) = true := by simp
  have q_s : (S_ == S_) = true := by simp
  have q_o : (O_ == O_) = true := by simp
  have q_up : (UP_ == UP_) = true := by simp
  have q_dn : (DN_ == DN_) = true := by simp
  have q_l : (L_ == L_) = true := by simp
  go_enter Try.func7, Try.ntmps7
  go_wp2_with fail
  refine (c1.out _).mono ?_
  rintro e w ⟨rfl, hh⟩
  replace hW := Lib.hid (hW.out.trans (hh.mono hW.out.size))
  clear hh
  go_wp2_with fail
  refine (c2.out _).mono ?_
  rintro e w ⟨rfl, hh⟩
  replace hW := Lib.hid (hW.out.trans (hh.mono hW.out.size))
  clear hh
  go_wp2_with fail
  refine (c3.out _).mono ?_
  rintro e w ⟨rfl, hh⟩
  replace hW := Lib.hid (hW.out.trans (hh.mono hW.out.size))
  clear hh
  go_wp2_with fail
  refine (c4.out _).mono ?_
  rintro e w ⟨rfl, hh⟩
  replace hW := Lib.hid (hW.out.trans (hh.mono hW.out.size))
  clear hh
  go_wp2_with fail
  refine (c5.out _).mono ?_
  rintro e w ⟨rfl, hh⟩
  replace hW := Lib.hid (hW.out.trans (hh.mono hW.out.size))
  clear hh
  go_wp2_with fail
  refine (c6.out _).mono ?_
  rintro e w ⟨rfl, hh⟩
  replace hW := Lib.hid (hW.out.trans (hh.mono hW.out.size))
  clear hh
  go_wp2_with fail
  refine (c7.out _).mono ?_
  rintro e w ⟨rfl, hh⟩
  replace hW := Lib.hid (hW.out.trans (hh.mono hW.out.size))
  clear hh
  go_wp2_with fail
  refine (c8.out _).mono ?_
  rintro e w ⟨rfl, hh⟩
  replace hW := Lib.hid (hW.out.trans (hh.mono hW.out.size))
  clear hh
  go_wp2_with fail
  refine (c9.out _).mono ?_
  rintro e w ⟨rfl, hh⟩
  replace hW := Lib.hid (hW.out.trans (hh.mono hW.out.size))
  clear hh
  go_wp2_with fail
  refine (c10.out _).mono ?_
  rintro e w ⟨rfl, hh⟩
  replace hW := Lib.hid (hW.out.trans (hh.mono hW.out.size))
  clear hh
  go_wp2_with fail
  refine (c11.out _).mono ?_
  rintro e w ⟨rfl, hh⟩
  replace hW := Lib.hid (hW.out.trans (hh.mono hW.out.size))
  clear hh
  go_wp2_with fail
  refine (c8.out _).mono ?_
  rintro e w ⟨rfl, hh⟩
  replace hW := Lib.hid (hW.out.trans (hh.mono hW.out.size))
  clear hh
  go_wp2_with fail
  refine (c12.out _).mono ?_
  rintro e w ⟨rfl, hh⟩
  replace hW := Lib.hid (hW.out.trans (hh.mono hW.out.size))
  clear hh
  go_wp2_with fail
  refine (hw.out _).mono ?_
  rintro e w ⟨rfl, hh⟩
  replace hW := Lib.hid (hW.out.trans (hh.mono hW.out.size))
  clear hh
  go_wp2
  go_ret
  exact ⟨rfl, hW.out⟩
theorem own : ownKnob Try.prog.godebug = none := by kernel_rfl
theorem laidOut : laidOutB Try.prog = true := by kernel_rfl
set_option maxRecDepth 100000 in
theorem lifted (os : Os) (started : os.Started) (H : Type) (enc : TypeId × Value → H) :
    ReturnsInHanded {} Try.checked os 7 .any (Rows.aluBitsSpec.pre6 enc Try.prog Try.f7 Rows.aluBitsRow.domain false) (Rows.aluBitsSpec.post enc Try.prog Try.f7 false true false false) := by
  refine returnsInHanded_of_change (C := Try.checked) own started (by kernel_rfl) Try.func7
    (ChangeSpec.witness6 (enc := enc) (C := Try.checked) false ⟨#[], #[.int .u32 0, .int .u32 0, .int .u32 0], []⟩ 8 (by kernel_rfl) (by kernel_rfl) (by kernel_rfl) (by kernel_rfl)) ?_
  intro W base args ds gs before hval0 hW hcnd hsz
  have hval : ∀ (j : Nat) t v, Try.f7.params[j]? = some t → args[j]? = some v → Value.okWide Try.prog W .any base t v := hval0
  have hW' := hW
  obtain ⟨p, q, hA0, hV, rfl, hfz, hnd⟩ := hW
  have hA : DataW.TrodAll enc Try.prog W 0 (fun _ => true) true Try.f7.params.toList args.toList ds p := hA0
  rw [Try.params7] at hA hval
  obtain ⟨v0, vs0, d0, ds0, p0, q0, hargs, rfl, rfl, h0, r0⟩ := trodAll_cons hA
  obtain ⟨v1, vs1, d1, ds1, p1, q1, rfl, rfl, rfl, h1, r1⟩ := trodAll_cons r0
  obtain ⟨v2, vs2, d2, ds2, p2, q2, rfl, rfl, rfl, h2, r2⟩ := trodAll_cons r1
  obtain ⟨rfl, rfl, rfl⟩ := trodAll_nil r2
  obtain rfl : args = #[v0, v1, v2] := by cases args; simp_all
  obtain ⟨rfl, rfl⟩ := trodVars_none hV
  have k0 := h0
  have lt0 : ∀ x ∈ p0, x.block < W.heap.size := by obtain ⟨m, hm⟩ := k0; exact DataW.trod_lt m _ _ _ hm
  have k1 := h1
  have lt1 : ∀ x ∈ p1, x.block < W.heap.size := by obtain ⟨m, hm⟩ := k1; exact DataW.trod_lt m _ _ _ hm
  have k2 := h2
  have lt2 : ∀ x ∈ p2, x.block < W.heap.size := by obtain ⟨m, hm⟩ := k2; exact DataW.trod_lt m _ _ _ hm
  obtain ⟨a, rfl, rfl, rfl, wa⟩ := open_int Try.underlying22 (hval 0 22 v0 rfl rfl) h0
  obtain ⟨b, rfl, rfl, rfl, wb⟩ := open_int Try.underlying22 (hval 1 22 v1 rfl rfl) h1
  obtain ⟨n, rfl, rfl, rfl, wn⟩ := open_int Try.underlying22 (hval 2 22 v2 rfl rfl) h2
  clear hA0 hval0
  refine (walk a wa b wb n wn W).mono fun e W' ⟨he, bel⟩ => ?_
  subst he
  exact ⟨_, rfl, _, _, _, [], _, [], hW', trodAll_mk1 (shut_bool Try.underlying4 _), (trodAll_cons_mk (Below.trod laidOut (by kernel_rfl) (of_decide_eq_true (by kernel_rfl)) k0 bel lt0) (trodAll_cons_mk (Below.trod laidOut (by kernel_rfl) (of_decide_eq_true (by kernel_rfl)) k1 bel lt1) (trodAll_cons_mk (Below.trod laidOut (by kernel_rfl) (of_decide_eq_true (by kernel_rfl)) k2 bel lt2) trodAll_mk0))), rfl, bel.frame _, fun h => by cases h⟩
theorem over : Rows.aluBitsRow.holds Try.pinned (OpenSpec.ofChange Rows.aluBitsSpec) :=
  OpenClaim.holds_of_wide 7 Try.f7 rfl rfl rfl rfl rfl rfl rfl ⟨rfl, rfl, rfl, rfl, rfl⟩ rfl rfl rfl rfl rfl (by kernel_rfl) Try.func7 (by kernel_rfl)
    (of_decide_eq_true (by kernel_rfl)) (by unfold Func.isWrapper; first | (rw [if_pos (by decide +kernel)]; kernel_rfl) | (rw [if_neg (by decide +kernel)]; exact ⟨rfl, rfl⟩))
    (fun os started H enc _ => lifted os started H enc)
/-- The given statement. -/
theorem proved : Rows.AluBitsSaid := over
end Go.Proofs.Ytjkeflldbmiohaa.bitsL
