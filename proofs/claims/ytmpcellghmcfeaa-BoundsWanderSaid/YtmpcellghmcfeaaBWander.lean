/- Proved: a cursor may go 1024 times 2^e below the rounded base, and 3071 times 2^e and a little above it, and the bounds stay (BoundsWander). For every input; no condition. -/
import Derived.Test.YtmpcellghmcfeaaRows
import Derived.Test.YtmpcellghmcfeaaBndW
import Derived.Test.YtmpcellghmcfeaaBndN
import Derived.Deep.DeepCutAuto
import Derived.ProofKit
import Derived.OpenShut
import Derived.ShutString
import Derived.ChangeOld
namespace Go.Proofs.Ytmpcellghmcfeaa.bwander
open Go.ChangeShapes Go.WideShapes Go.ChangeAt Go.RowKit
open Go.ChangeMaps (open_string shut_string)
set_option linter.unusedVariables false

theorem pickz (L H c : Int) (hL : 0 ≤ L) (h : L < H) (hH : H ≤ 4294967296) (hc : 0 ≤ c) :
    IntKind.u64.wrap (L + c % (H - L)) % 4294967296 = L + c % (H - L) ∧ 0 ≤ c % (H - L) ∧ c % (H - L) < H - L := by
  have a := Int.emod_nonneg c (b := H - L) (by omega)
  have b := Int.emod_lt_of_pos c (b := H - L) (by omega)
  refine ⟨?_, a, b⟩
  rw [IntKind.wrap_u64]
  generalize c % (H - L) = r at *
  omega
theorem pick0 (H c : Int) (h : 0 < H) (hH : H ≤ 4294967296) (hc : 0 ≤ c) :
    IntKind.u64.wrap (c % H) % 4294967296 = c % H ∧ 0 ≤ c % H ∧ c % H < H := by
  have a := Int.emod_nonneg c (b := H) (by omega)
  have b := Int.emod_lt_of_pos c h
  refine ⟨?_, a, b⟩
  rw [IntKind.wrap_u64]
  generalize c % H = r at *
  omega

set_option maxRecDepth 100000 in
set_option maxHeartbeats 2000000 in
theorem walk (a : Int) (wa : (Lit.int .u32 a).wf = true) (b : Int) (wb : (Lit.int .u32 b).wf = true) (c : Int) (wc : (Lit.int .u32 c).wf = true) (W : World) :
    Calls Try.prog 10 #[.int .u32 a, .int .u32 b, .int .u32 c] W fun e w' => e = .returned (.bool true) ∧ Below W.heap.size W w' := by
  have ha := bounds_u32 wa
  obtain ⟨a, rfl⟩ := Int.eq_ofNat_of_zero_le ha.1
  have la : a < 4294967296 := by omega
  clear ha wa
  have hb := bounds_u32 wb
  obtain ⟨b, rfl⟩ := Int.eq_ofNat_of_zero_le hb.1
  have lb : b < 4294967296 := by omega
  clear hb wb
  have hc := bounds_u32 wc
  obtain ⟨c, rfl⟩ := Int.eq_ofNat_of_zero_le hc.1
  have lc : c < 4294967296 := by omega
  clear hc wc
  obtain ⟨lo, hlo⟩ : ∃ lo, lo = min a b := ⟨_, rfl⟩
  obtain ⟨T, hT⟩ : ∃ T, T = max a b + 1 := ⟨_, rfl⟩
  have hG := Lib.hid (fun w => bring_any a b w la lb)
  rw [← hlo, ← hT] at hG
  have t0 : lo < T := by omega
  have t2 : T ≤ 4294967296 := by omega
  have t3 : lo < 4294967296 := by omega
  have t1 : lo ≤ T := by omega
  clear hlo hT
  have u1 := pow_pos2 (expo lo T)
  have k1 := expo_le lo t2
  have u2 := pow_le21 k1
  have d1 := dn_le (2 ^ expo lo T) lo
  have hE := Lib.hid (fun w => Encode_any lo T w t3 (by omega))
  have hR := Lib.hid (fun w => Round_any lo T w t3 (by omega))
  have win := within (c := lo) t1 t2 (Nat.le_refl _) t1
  have hK1 : ∀ nx, nx < 4294967296 → dn (2 ^ expo lo T) lo ≤ nx + 1024 * 2 ^ expo lo T → nx < dn (2 ^ expo lo T) lo + 3072 * 2 ^ expo lo T → ∀ w, Calls Try.prog 16 #[.int .u8 (enE lo T), .int .u16 (enB lo T), .int .u16 (enT lo T), .int .u32 lo, .int .u32 nx] w fun e' w' => e' = .returned (.bool true) ∧ Below w.heap.size w w' := by
    intro nx h0 h1 h2 w
    have wa := wanders t1 t2 h1 h2
    have h := Keeps_any (enE lo T) (enB lo T) (enT lo T) lo nx w t3 h0
    rw [keeps t1 t2 win.1 win.2 wa.1 wa.2] at h
    exact h
  have hK2 : ∀ nx, nx < 4294967296 → dn (2 ^ expo lo T) lo ≤ nx + 1024 * 2 ^ expo lo T → nx < dn (2 ^ expo lo T) lo + 3072 * 2 ^ expo lo T → ∀ w, Calls Try.prog 16 #[.int .u8 (enE lo T), .int .u16 (enB lo T), .int .u16 (enT lo T), .int .u32 nx, .int .u32 lo] w fun e' w' => e' = .returned (.bool true) ∧ Below w.heap.size w w' := by
    intro nx h0 h1 h2 w
    have wa := wanders t1 t2 h1 h2
    have h := Keeps_any (enE lo T) (enB lo T) (enT lo T) nx lo w h0 t3
    rw [keeps t1 t2 wa.1 wa.2 win.1 win.2] at h
    exact h
  rw [may_of t1 t2, enE_of t1 t2] at hE
  rw [may_of t1 t2, rdB_of t1 t2, rdT_of t1 t2] at hR
  rw [enE_of t1 t2] at hK1 hK2
  have v1 : IntKind.u64.wrap (1024 * 2 ^ expo lo T) = ((1024 * 2 ^ expo lo T : Nat) : Int) := by rw [cast_pow, IntKind.wrap_u64]; generalize 2 ^ expo lo T = U at *; omega
  have v2 : IntKind.u64.wrap (3072 * 2 ^ expo lo T) = ((3072 * 2 ^ expo lo T : Nat) : Int) := by rw [cast_pow, IntKind.wrap_u64]; generalize 2 ^ expo lo T = U at *; omega
  have hW := Lib.hid (fun w => works_any w)
  obtain ⟨k, hk⟩ : ∃ k, k = expo lo T := ⟨_, rfl⟩
  have ki : (k : Int) ≤ 21 := by omega
  obtain ⟨x, hx⟩ : ∃ x : Int, x = (dn (2 ^ expo lo T) lo : Nat) := ⟨_, rfl⟩
  obtain ⟨M, hM⟩ : ∃ M : Int, M = (1024 * 2 ^ expo lo T : Nat) := ⟨_, rfl⟩
  obtain ⟨N, hN⟩ : ∃ N : Int, N = (3072 * 2 ^ expo lo T : Nat) := ⟨_, rfl⟩
  have hNM : N = 3 * M := by omega
  have xb : 0 ≤ x ∧ x < 4294967296 := by omega
  have Mb : 1024 ≤ M ∧ M ≤ 2147483648 := by omega
  have hJ1 : ∀ z : Int, 0 ≤ z → z < 4294967296 → x ≤ z + M → z < x + N → ∀ w, Calls Try.prog 16 #[.int .u8 k, .int .u16 (enB lo T), .int .u16 (enT lo T), .int .u32 lo, .int .u32 z] w fun e' w' => e' = .returned (.bool true) ∧ Below w.heap.size w w' := by
    intro z h0 h1 h2 h3 w
    obtain ⟨nx, rfl⟩ := Int.eq_ofNat_of_zero_le h0
    rw [hk]
    exact hK1 nx (by omega) (by omega) (by omega) w
  have hJ2 : ∀ z : Int, 0 ≤ z → z < 4294967296 → x ≤ z + M → z < x + N → ∀ w, Calls Try.prog 16 #[.int .u8 k, .int .u16 (enB lo T), .int .u16 (enT lo T), .int .u32 z, .int .u32 lo] w fun e' w' => e' = .returned (.bool true) ∧ Below w.heap.size w w' := by
    intro z h0 h1 h2 h3 w
    obtain ⟨nx, rfl⟩ := Int.eq_ofNat_of_zero_le h0
    rw [hk]
    exact hK2 nx (by omega) (by omega) (by omega) w
  rw [← hx] at hR
  rw [← hk] at hE
  rw [← hM, ← hk] at v1
  rw [← hN, ← hk] at v2
  obtain ⟨Z, hZ⟩ : ∃ Z : Int, Z = (T : Int) := ⟨_, rfl⟩
  rw [← hZ] at hG hE hR
  generalize enB lo T = m at *
  generalize enT lo T = n at *
  generalize enX lo T = ex at *
  generalize up (2 ^ expo lo T) T = P at *
  clear hK1 hK2 win d1 u1 u2 k1 hk hx hM hZ t0 t1 t2 hN
  subst hNM
  replace hJ1 := Lib.hid hJ1
  replace hJ2 := Lib.hid hJ2
  obtain ⟨x0, x1⟩ := xb
  obtain ⟨m0, m1⟩ := Mb
  go_enter Try.func10, Try.ntmps10
  go_wp2_with fail
  refine (hG.out _).mono ?_
  rintro e' w1 ⟨rfl, n1, rfl⟩
  go_wp2_with fail
  refine (hE.out _).mono ?_
  rintro e' w2 ⟨rfl, h2⟩
  replace h2 := Lib.hid ((below_drewN (Below.refl _ W) n1).trans h2)
  go_wp2_with fail
  refine (hR.out _).mono ?_
  rintro e' w3 ⟨rfl, h3⟩
  replace h2 := Lib.hid (h2.out.trans (h3.mono h2.out.size))
  clear h3
  go_wp2_with fail
  · obtain ⟨z, hz⟩ : ∃ z : Int, z = IntKind.u64.wrap (x - M + (c : Int) % (4294967296 - (x - M))) % 4294967296 := ⟨_, rfl⟩
    have pz := pickz (x - M) (4294967296) c (by omega) (by omega) (by omega) (by omega)
    rw [pz.1] at hz
    rw [pz.1, ← hz]
    have f0 : 0 ≤ z := by omega
    have f1 : z < 4294967296 := by omega
    have f2 : x ≤ z + M := by omega
    have f3 : z < x + 3 * M := by omega
    have hj1 := Lib.hid (hJ1.out z f0 f1 f2 f3)
    have hj2 := Lib.hid (hJ2.out z f0 f1 f2 f3)
    clear pz hz f0 f1 f2 f3 hJ1 hJ2
    refine (hj1.out _).mono ?_
    rintro e' w4 ⟨rfl, h3⟩
    replace h2 := Lib.hid (h2.out.trans (h3.mono h2.out.size))
    clear h3
    go_wp2_with fail
    refine (hj2.out _).mono ?_
    rintro e' w5 ⟨rfl, h3⟩
    replace h2 := Lib.hid (h2.out.trans (h3.mono h2.out.size))
    clear h3
    go_wp2_with fail
    refine (hW.out _).mono ?_
    rintro e' w6 ⟨rfl, h3⟩
    replace h2 := Lib.hid (h2.out.trans (h3.mono h2.out.size))
    clear h3
    go_wp2
    go_ret
    exact ⟨rfl, h2.out⟩
  · obtain ⟨z, hz⟩ : ∃ z : Int, z = IntKind.u64.wrap (x - M + (c : Int) % (x + 3 * M - (x - M))) % 4294967296 := ⟨_, rfl⟩
    have pz := pickz (x - M) (x + 3 * M) c (by omega) (by omega) (by omega) (by omega)
    rw [pz.1] at hz
    rw [pz.1, ← hz]
    have f0 : 0 ≤ z := by omega
    have f1 : z < 4294967296 := by omega
    have f2 : x ≤ z + M := by omega
    have f3 : z < x + 3 * M := by omega
    have hj1 := Lib.hid (hJ1.out z f0 f1 f2 f3)
    have hj2 := Lib.hid (hJ2.out z f0 f1 f2 f3)
    clear pz hz f0 f1 f2 f3 hJ1 hJ2
    refine (hj1.out _).mono ?_
    rintro e' w4 ⟨rfl, h3⟩
    replace h2 := Lib.hid (h2.out.trans (h3.mono h2.out.size))
    clear h3
    go_wp2_with fail
    refine (hj2.out _).mono ?_
    rintro e' w5 ⟨rfl, h3⟩
    replace h2 := Lib.hid (h2.out.trans (h3.mono h2.out.size))
    clear h3
    go_wp2_with fail
    refine (hW.out _).mono ?_
    rintro e' w6 ⟨rfl, h3⟩
    replace h2 := Lib.hid (h2.out.trans (h3.mono h2.out.size))
    clear h3
    go_wp2
    go_ret
    exact ⟨rfl, h2.out⟩
  · obtain ⟨z, hz⟩ : ∃ z : Int, z = IntKind.u64.wrap ((c : Int) % 4294967296) % 4294967296 := ⟨_, rfl⟩
    have pz := pick0 (4294967296) c (by omega) (by omega) (by omega)
    rw [pz.1] at hz
    rw [pz.1, ← hz]
    have f0 : 0 ≤ z := by omega
    have f1 : z < 4294967296 := by omega
    have f2 : x ≤ z + M := by omega
    have f3 : z < x + 3 * M := by omega
    have hj1 := Lib.hid (hJ1.out z f0 f1 f2 f3)
    have hj2 := Lib.hid (hJ2.out z f0 f1 f2 f3)
    clear pz hz f0 f1 f2 f3 hJ1 hJ2
    refine (hj1.out _).mono ?_
    rintro e' w4 ⟨rfl, h3⟩
    replace h2 := Lib.hid (h2.out.trans (h3.mono h2.out.size))
    clear h3
    go_wp2_with fail
    refine (hj2.out _).mono ?_
    rintro e' w5 ⟨rfl, h3⟩
    replace h2 := Lib.hid (h2.out.trans (h3.mono h2.out.size))
    clear h3
    go_wp2_with fail
    refine (hW.out _).mono ?_
    rintro e' w6 ⟨rfl, h3⟩
    replace h2 := Lib.hid (h2.out.trans (h3.mono h2.out.size))
    clear h3
    go_wp2
    go_ret
    exact ⟨rfl, h2.out⟩
  · obtain ⟨z, hz⟩ : ∃ z : Int, z = IntKind.u64.wrap ((c : Int) % (x + 3 * M)) % 4294967296 := ⟨_, rfl⟩
    have pz := pick0 (x + 3 * M) c (by omega) (by omega) (by omega)
    rw [pz.1] at hz
    rw [pz.1, ← hz]
    have f0 : 0 ≤ z := by omega
    have f1 : z < 4294967296 := by omega
    have f2 : x ≤ z + M := by omega
    have f3 : z < x + 3 * M := by omega
    have hj1 := Lib.hid (hJ1.out z f0 f1 f2 f3)
    have hj2 := Lib.hid (hJ2.out z f0 f1 f2 f3)
    clear pz hz f0 f1 f2 f3 hJ1 hJ2
    refine (hj1.out _).mono ?_
    rintro e' w4 ⟨rfl, h3⟩
    replace h2 := Lib.hid (h2.out.trans (h3.mono h2.out.size))
    clear h3
    go_wp2_with fail
    refine (hj2.out _).mono ?_
    rintro e' w5 ⟨rfl, h3⟩
    replace h2 := Lib.hid (h2.out.trans (h3.mono h2.out.size))
    clear h3
    go_wp2_with fail
    refine (hW.out _).mono ?_
    rintro e' w6 ⟨rfl, h3⟩
    replace h2 := Lib.hid (h2.out.trans (h3.mono h2.out.size))
    clear h3
    go_wp2
    go_ret
    exact ⟨rfl, h2.out⟩
theorem own : ownKnob Try.prog.godebug = none := by kernel_rfl
theorem laidOut : laidOutB Try.prog = true := by kernel_rfl
set_option maxRecDepth 100000 in
theorem lifted (os : Os) (started : os.Started) (H : Type) (enc : TypeId × Value → H) :
    ReturnsInHanded {} Try.checked os 10 .any (Rows.boundsWanderSpec.pre6 enc Try.prog Try.f10 Rows.boundsWanderRow.domain false) (Rows.boundsWanderSpec.post enc Try.prog Try.f10 false true false false) := by
  refine returnsInHanded_of_change (C := Try.checked) own started (by kernel_rfl) Try.func10
    (ChangeSpec.witness6 (enc := enc) (C := Try.checked) false ⟨#[], #[.int .u32 0, .int .u32 0, .int .u32 0], []⟩ 8 (by kernel_rfl) (by kernel_rfl) (by kernel_rfl) (by kernel_rfl)) ?_
  intro W base args ds gs before hval0 hW hcnd hsz
  have hval : ∀ (j : Nat) t v, Try.f10.params[j]? = some t → args[j]? = some v → Value.okWide Try.prog W .any base t v := hval0
  have hW' := hW
  obtain ⟨p, q, hA0, hV, rfl, hfz, hnd⟩ := hW
  have hA : DataW.TrodAll enc Try.prog W 0 (fun _ => true) true Try.f10.params.toList args.toList ds p := hA0
  rw [Try.params10] at hA hval
  obtain ⟨v0, vs0, d0, ds0, p0, q0, hargs, rfl, rfl, h0, r0⟩ := trodAll_cons hA
  obtain ⟨v1, vs1, d1, ds1, p1, q1, rfl, rfl, rfl, h1, r1⟩ := trodAll_cons r0
  obtain ⟨v2, vs2, d2, ds2, p2, q2, rfl, rfl, rfl, h2, r2⟩ := trodAll_cons r1
  obtain ⟨rfl, rfl, rfl⟩ := trodAll_nil r2
  obtain rfl : args = #[v0, v1, v2] := by cases args; simp_all
  obtain ⟨rfl, rfl⟩ := trodVars_none hV
  have k0 := h0
  have lt0 : ∀ x ∈ p0, x.block < W.heap.size := by obtain ⟨m, hm⟩ := k0; exact DataW.trod_lt m _ _ _ hm
  have k1 := h1
  have lt1 : ∀ x ∈ p1, x.block < W.heap.size := by obtain ⟨m, hm⟩ := k1; exact DataW.trod_lt m _ _ _ hm
  have k2 := h2
  have lt2 : ∀ x ∈ p2, x.block < W.heap.size := by obtain ⟨m, hm⟩ := k2; exact DataW.trod_lt m _ _ _ hm
  obtain ⟨a, rfl, rfl, rfl, wa⟩ := open_int Try.underlying25 (hval 0 25 v0 rfl rfl) h0
  obtain ⟨b, rfl, rfl, rfl, wb⟩ := open_int Try.underlying25 (hval 1 25 v1 rfl rfl) h1
  obtain ⟨to_, rfl, rfl, rfl, wto_⟩ := open_int Try.underlying25 (hval 2 25 v2 rfl rfl) h2
  clear hA0 hval0
  refine (walk a wa b wb to_ wto_ W).mono fun e W' ⟨he, bel⟩ => ?_
  subst he
  exact ⟨_, rfl, _, _, _, [], _, [], hW', trodAll_mk1 (shut_bool Try.underlying4 _), (trodAll_cons_mk (Below.trod laidOut (by kernel_rfl) (of_decide_eq_true (by kernel_rfl)) k0 bel lt0) (trodAll_cons_mk (Below.trod laidOut (by kernel_rfl) (of_decide_eq_true (by kernel_rfl)) k1 bel lt1) (trodAll_cons_mk (Below.trod laidOut (by kernel_rfl) (of_decide_eq_true (by kernel_rfl)) k2 bel lt2) trodAll_mk0))), rfl, bel.frame _, fun h => by cases h⟩
theorem over : Rows.boundsWanderRow.holds Try.pinned (OpenSpec.ofChange Rows.boundsWanderSpec) :=
  OpenClaim.holds_of_wide 10 Try.f10 rfl rfl rfl rfl rfl rfl rfl ⟨rfl, rfl, rfl, rfl, rfl⟩ rfl rfl rfl rfl rfl (by kernel_rfl) Try.func10 (by kernel_rfl)
    (of_decide_eq_true (by kernel_rfl)) (by unfold Func.isWrapper; first | (rw [if_pos (by decide +kernel)]; kernel_rfl) | (rw [if_neg (by decide +kernel)]; exact ⟨rfl, rfl⟩))
    (fun os started H enc _ => lifted os started H enc)
/-- The given statement. -/
theorem proved : Rows.BoundsWanderSaid := over
end Go.Proofs.Ytmpcellghmcfeaa.bwander
