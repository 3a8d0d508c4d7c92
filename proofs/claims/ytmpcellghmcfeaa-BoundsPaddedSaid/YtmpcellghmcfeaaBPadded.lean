/- Proved: padded bytes, from a multiple of align on, have exact bounds; a size is not made less, and by less than align more; what is padded is padded to itself (BoundsPadded). For every input; no condition. -/
import Derived.Test.YtmpcellghmcfeaaRows
import Derived.Test.YtmpcellghmcfeaaBndW
import Derived.Test.YtmpcellghmcfeaaBndN
import Derived.Deep.DeepCutAuto
import Derived.ProofKit
import Derived.OpenShut
import Derived.ShutString
import Derived.ChangeOld
namespace Go.Proofs.Ytmpcellghmcfeaa.bpadded
open Go.ChangeShapes Go.WideShapes Go.ChangeAt Go.RowKit
open Go.ChangeMaps (open_string shut_string)
set_option linter.unusedVariables false

set_option maxRecDepth 100000 in
set_option maxHeartbeats 2000000 in
theorem walk (s : Int) (ws : (Lit.int .u32 s).wf = true) (p : Int) (wp : (Lit.int .u32 p).wf = true) (W : World) :
    Calls Try.prog 11 #[.int .u32 s, .int .u32 p] W fun e w' => e = .returned (.bool true) ∧ Below W.heap.size W w' := by
  have hs := bounds_u32 ws
  obtain ⟨s, rfl⟩ := Int.eq_ofNat_of_zero_le hs.1
  have ls : s < 4294967296 := by omega
  clear hs ws
  have hp := bounds_u32 wp
  obtain ⟨p, rfl⟩ := Int.eq_ofNat_of_zero_le hp.1
  have lp : p < 4294967296 := by omega
  clear hp wp
  have s2 : s ≤ 4294967296 := by omega
  have hm : may 0 s = true := may_of (Nat.zero_le _) s2
  have u1 := pow_pos2 (expo 0 s)
  have k1 := expo_le 0 s2
  have u2 := pow_le21 k1
  have d3 := up_ge s u1
  have d4 := up_lt s u1
  have hA := Lib.hid (fun w => Pad_any s w ls)
  have hW := Lib.hid (fun w => works_any w)
  have hP : pdP s = if up (2 ^ expo 0 s) s = 4294967296 then 0 else up (2 ^ expo 0 s) s := by simp [pdP, rdT, hm]
  have hQ : pdA s = if up (2 ^ expo 0 s) s = 4294967296 then 0 else 2 ^ expo 0 s := by simp [pdA, rdT, enE, hm]
  by_cases hb : up (2 ^ expo 0 s) s = 4294967296
  · rw [hP, hQ, if_pos hb, if_pos hb] at hA
    have hs : (4292870144 : Int) < s := by omega
    clear hP hQ hb d3 d4 u1 u2 k1 hm s2
    go_enter Try.func11, Try.ntmps11
    go_wp2_with fail
    refine (hA.out _).mono ?_
    rintro e' w1 ⟨rfl, h1⟩
    replace h1 := Lib.hid h1
    go_wp2_with fail
    refine (hW.out _).mono ?_
    rintro e' w2 ⟨rfl, h2⟩
    replace h1 := Lib.hid (h1.out.trans (h2.mono h1.out.size))
    clear h2
    go_wp2
    go_ret
    exact ⟨rfl, h1.out⟩
  · rw [hP, hQ, if_neg hb, if_neg hb] at hA
    have b1 : up (2 ^ expo 0 s) s ≤ 4294967296 := up_le_of_dvd u1 (dvd_whole (Nat.le_trans k1 (by decide))) s2
    have l1 : up (2 ^ expo 0 s) s < 4294967296 := by omega
    have hdv : 2 ^ expo 0 s ∣ up (2 ^ expo 0 s) s := up_dvd _ _
    have hs2 := pad_least s2 rfl (Nat.dvd_zero (2 ^ expo 0 s)) (by omega)
    rw [Nat.zero_add] at hs2
    have hup : up (2 ^ expo 0 s) (up (2 ^ expo 0 s) s) = up (2 ^ expo 0 s) s := up_of_dvd u1 hdv
    have hAg := Lib.hid (fun w => Pad_any (up (2 ^ expo 0 s) s) w l1)
    have hP2 : pdP (up (2 ^ expo 0 s) s) = up (2 ^ expo 0 s) s := by
      have hm2 : may 0 (up (2 ^ expo 0 s) s) = true := may_of (Nat.zero_le _) b1
      have : rdT 0 (up (2 ^ expo 0 s) s) = up (2 ^ expo 0 s) s := by rw [rdT_of (Nat.zero_le _) b1, hs2, hup]
      unfold pdP; rw [this, if_neg hb]
    have hQ2 : pdA (up (2 ^ expo 0 s) s) = 2 ^ expo 0 s := by
      have : rdT 0 (up (2 ^ expo 0 s) s) = up (2 ^ expo 0 s) s := by rw [rdT_of (Nat.zero_le _) b1, hs2, hup]
      unfold pdA; rw [this, if_neg hb, enE_of (Nat.zero_le _) b1, hs2]
    rw [hP2, hQ2] at hAg
    have hbd : 2 ^ expo 0 s ∣ dn (2 ^ expo 0 s) p := dn_dvd _ _
    have hbl := dn_le (2 ^ expo 0 s) p
    have hEn : dn (2 ^ expo 0 s) p + up (2 ^ expo 0 s) s ≤ 4294967296 → ∀ w, Calls Try.prog 18 #[.int .u32 (dn (2 ^ expo 0 s) p : Nat), .int .u64 (dn (2 ^ expo 0 s) p + up (2 ^ expo 0 s) s : Nat)] w fun e' w' =>
        (∃ x y z, e' = .returned (.tuple #[.int .u8 x, .int .u16 y, .int .u16 z, .bool true, .bool true])) ∧ Below w.heap.size w w' := by
      intro hle w
      have h := Encode_any (dn (2 ^ expo 0 s) p) (dn (2 ^ expo 0 s) p + up (2 ^ expo 0 s) s) w (by omega) (by omega)
      have a1 : dn (2 ^ expo 0 s) p ≤ dn (2 ^ expo 0 s) p + up (2 ^ expo 0 s) s := Nat.le_add_right _ _
      have hx : enX (dn (2 ^ expo 0 s) p) (dn (2 ^ expo 0 s) p + up (2 ^ expo 0 s) s) = true := by
        rw [enX_of a1 hle, rdB_of a1 hle, rdT_of a1 hle, pad_least s2 rfl hbd hle]
        exact decide_eq_true ⟨dn_of_dvd hbd, up_of_dvd u1 (Nat.dvd_add hbd hdv)⟩
      rw [may_of a1 hle, hx] at h
      exact h.mono fun _ _ k => ⟨⟨_, _, _, k.1⟩, k.2⟩
    have hmod : ((up (2 ^ expo 0 s) s : Nat) : Int) % ((2 ^ expo 0 s : Nat) : Int) = 0 := by rw [← Int.natCast_emod, Nat.mod_eq_zero_of_dvd hdv]; rfl
    have hdn : (p : Int) / ((2 ^ expo 0 s : Nat) : Int) * ((2 ^ expo 0 s : Nat) : Int) = (dn (2 ^ expo 0 s) p : Nat) := by rw [← Int.natCast_ediv, ← Int.natCast_mul]; rfl
    obtain ⟨q, hq⟩ : ∃ q : Int, q = (up (2 ^ expo 0 s) s : Nat) := ⟨_, rfl⟩
    obtain ⟨V, hV⟩ : ∃ V : Int, V = (2 ^ expo 0 s : Nat) := ⟨_, rfl⟩
    obtain ⟨y, hy⟩ : ∃ y : Int, y = (dn (2 ^ expo 0 s) p : Nat) := ⟨_, rfl⟩
    obtain ⟨S, hS⟩ : ∃ S : Int, S = (s : Int) := ⟨_, rfl⟩
    have hEn2 : y + q ≤ 4294967296 → ∀ w, Calls Try.prog 18 #[.int .u32 y, .int .u64 (y + q)] w fun e' w' => (∃ x y z, e' = .returned (.tuple #[.int .u8 x, .int .u16 y, .int .u16 z, .bool true, .bool true])) ∧ Below w.heap.size w w' := by
      intro h w
      have := hEn (by omega) w
      rw [Int.natCast_add, ← hy, ← hq] at this
      exact this
    have f1 : S ≤ q := by omega
    have f2 : q - S < V := by omega
    have f3 : 1 ≤ V := by omega
    have f4 : V ≤ 2097152 := by omega
    have f5 : 0 ≤ y := by omega
    have f6 : y < 4294967296 := by omega
    have f7 : 0 ≤ q := by omega
    have f8 : q < 4294967296 := by omega
    have f9 : 0 ≤ S := by omega
    rw [← hq, ← hV] at hmod
    rw [← hV, ← hy] at hdn
    rw [← hq, ← hV] at hAg
    rw [← hq, ← hV] at hA
    rw [← hS] at hA ⊢
    have g1 : 0 ≤ (p : Int) / V := Int.ediv_nonneg (by omega) (by omega)
    have g2 : (p : Int) / V ≤ 4294967295 := Int.le_trans (Int.ediv_le_self _ (by omega)) (by omega)
    clear hP hQ hb d3 d4 u1 u2 k1 hm s2 b1 l1 hdv hs2 hup hP2 hQ2 hbd hbl hEn hq hV hy hS ls
    replace hEn2 := Lib.hid hEn2
    by_cases hbig : y + q > 4294967296
    · go_enter Try.func11, Try.ntmps11
      go_wp2_with fail
      refine (hA.out _).mono ?_
      rintro e' w1 ⟨rfl, h1⟩
      replace h1 := Lib.hid h1
      go_wp2_with fail
      refine (hAg.out _).mono ?_
      rintro e' w2 ⟨rfl, h2⟩
      replace h1 := Lib.hid (h1.out.trans (h2.mono h1.out.size))
      clear h2
      go_wp2_with fail
      refine (hW.out _).mono ?_
      rintro e' w4 ⟨rfl, h2⟩
      replace h1 := Lib.hid (h1.out.trans (h2.mono h1.out.size))
      clear h2
      go_wp2
      go_ret
      exact ⟨rfl, h1.out⟩
    · go_enter Try.func11, Try.ntmps11
      go_wp2_with fail
      refine (hA.out _).mono ?_
      rintro e' w1 ⟨rfl, h1⟩
      replace h1 := Lib.hid h1
      go_wp2_with fail
      refine (hAg.out _).mono ?_
      rintro e' w2 ⟨rfl, h2⟩
      replace h1 := Lib.hid (h1.out.trans (h2.mono h1.out.size))
      clear h2
      go_wp2_with fail
      refine (hEn2.out (by assumption) _).mono ?_
      rintro e' w3 ⟨⟨ex, ey, ez, rfl⟩, h2⟩
      replace h1 := Lib.hid (h1.out.trans (h2.mono h1.out.size))
      clear h2
      go_wp2_with fail
      refine (hW.out _).mono ?_
      rintro e' w4 ⟨rfl, h2⟩
      replace h1 := Lib.hid (h1.out.trans (h2.mono h1.out.size))
      clear h2
      go_wp2
      go_ret
      exact ⟨rfl, h1.out⟩
theorem own : ownKnob Try.prog.godebug = none := by kernel_rfl
theorem laidOut : laidOutB Try.prog = true := by kernel_rfl
set_option maxRecDepth 100000 in
theorem lifted (os : Os) (started : os.Started) (H : Type) (enc : TypeId × Value → H) :
    ReturnsInHanded {} Try.checked os 11 .any (Rows.boundsPaddedSpec.pre6 enc Try.prog Try.f11 Rows.boundsPaddedRow.domain false) (Rows.boundsPaddedSpec.post enc Try.prog Try.f11 false true false false) := by
  refine returnsInHanded_of_change (C := Try.checked) own started (by kernel_rfl) Try.func11
    (ChangeSpec.witness6 (enc := enc) (C := Try.checked) false ⟨#[], #[.int .u32 0, .int .u32 0], []⟩ 8 (by kernel_rfl) (by kernel_rfl) (by kernel_rfl) (by kernel_rfl)) ?_
  intro W base args ds gs before hval0 hW hcnd hsz
  have hval : ∀ (j : Nat) t v, Try.f11.params[j]? = some t → args[j]? = some v → Value.okWide Try.prog W .any base t v := hval0
  have hW' := hW
  obtain ⟨p, q, hA0, hV, rfl, hfz, hnd⟩ := hW
  have hA : DataW.TrodAll enc Try.prog W 0 (fun _ => true) true Try.f11.params.toList args.toList ds p := hA0
  rw [Try.params11] at hA hval
  obtain ⟨v0, vs0, d0, ds0, p0, q0, hargs, rfl, rfl, h0, r0⟩ := trodAll_cons hA
  obtain ⟨v1, vs1, d1, ds1, p1, q1, rfl, rfl, rfl, h1, r1⟩ := trodAll_cons r0
  obtain ⟨rfl, rfl, rfl⟩ := trodAll_nil r1
  obtain rfl : args = #[v0, v1] := by cases args; simp_all
  obtain ⟨rfl, rfl⟩ := trodVars_none hV
  have k0 := h0
  have lt0 : ∀ x ∈ p0, x.block < W.heap.size := by obtain ⟨m, hm⟩ := k0; exact DataW.trod_lt m _ _ _ hm
  have k1 := h1
  have lt1 : ∀ x ∈ p1, x.block < W.heap.size := by obtain ⟨m, hm⟩ := k1; exact DataW.trod_lt m _ _ _ hm
  obtain ⟨size, rfl, rfl, rfl, wsize⟩ := open_int Try.underlying25 (hval 0 25 v0 rfl rfl) h0
  obtain ⟨place, rfl, rfl, rfl, wplace⟩ := open_int Try.underlying25 (hval 1 25 v1 rfl rfl) h1
  clear hA0 hval0
  refine (walk size wsize place wplace W).mono fun e W' ⟨he, bel⟩ => ?_
  subst he
  exact ⟨_, rfl, _, _, _, [], _, [], hW', trodAll_mk1 (shut_bool Try.underlying4 _), (trodAll_cons_mk (Below.trod laidOut (by kernel_rfl) (of_decide_eq_true (by kernel_rfl)) k0 bel lt0) (trodAll_cons_mk (Below.trod laidOut (by kernel_rfl) (of_decide_eq_true (by kernel_rfl)) k1 bel lt1) trodAll_mk0)), rfl, bel.frame _, fun h => by cases h⟩
theorem over : Rows.boundsPaddedRow.holds Try.pinned (OpenSpec.ofChange Rows.boundsPaddedSpec) :=
  OpenClaim.holds_of_wide 11 Try.f11 rfl rfl rfl rfl rfl rfl rfl ⟨rfl, rfl, rfl, rfl, rfl⟩ rfl rfl rfl rfl rfl (by kernel_rfl) Try.func11 (by kernel_rfl)
    (of_decide_eq_true (by kernel_rfl)) (by unfold Func.isWrapper; first | (rw [if_pos (by decide +kernel)]; kernel_rfl) | (rw [if_neg (by decide +kernel)]; exact ⟨rfl, rfl⟩))
    (fun os started H enc _ => lifted os started H enc)
/-- The given statement. -/
theorem proved : Rows.BoundsPaddedSaid := over
end Go.Proofs.Ytmpcellghmcfeaa.bpadded
