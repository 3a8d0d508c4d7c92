/- Proved: what is padded is not less than the size, a multiple of align, padded to itself; and from a multiple of align on, wherever it fits, its bounds are exact (SizesExact, the stage's theorem). For every input; no condition. -/
import Derived.Test.YtchonkkflklckaaRows
import Derived.Test.YtchonkkflklckaaSzB
import Derived.ProofKit
import Derived.OpenShut
import Derived.ShutString
import Derived.ChangeOld
namespace Go.Proofs.Ytchonkkflklckaa.zexact
open Go.ChangeShapes Go.WideShapes Go.ChangeAt Go.RowKit
open Go.ChangeMaps (open_string shut_string)
set_option linter.unusedVariables false
set_option maxHeartbeats 4000000 in
theorem walk (s : Int) (ws : (Lit.int .u32 s).wf = true) (h : Int) (wh : (Lit.int .u32 h).wf = true) (p : Int) (wp : (Lit.int .u32 p).wf = true) (W : World) :
    Calls Try.prog 6 #[.int .u32 s, .int .u32 h, .int .u32 p] W fun e w' => e = .returned (.bool true) ∧ Below W.heap.size W w' := by
  have hs := bounds_u32 ws
  obtain ⟨s, rfl⟩ := Int.eq_ofNat_of_zero_le hs.1
  have ls : s < 4294967296 := by omega
  clear hs ws
  have h0 := bounds_u32 wh
  obtain ⟨h, rfl⟩ := Int.eq_ofNat_of_zero_le h0.1
  have lh : h < 4294967296 := by omega
  clear h0 wh
  have hp := bounds_u32 wp
  obtain ⟨p, rfl⟩ := Int.eq_ofNat_of_zero_le hp.1
  have lp : p < 4294967296 := by omega
  clear hp wp
  have hA := Lib.hid (fun w => pPadded_any s h w ls lh)
  have hW := Lib.hid (fun w => szworks_any w)
  by_cases ok : szP s ≠ 0 ∧ szP s ≤ h
  · obtain ⟨f1, f2, f3, f4, f5, f6⟩ := sz_facts ok.1
    obtain ⟨s1, s2⟩ := sz_self ok.1
    have hB := Lib.hid (fun w => pPadded_any (szP s) h w f5 lh)
    obtain ⟨a1, a2, a3⟩ := pad_yes ok.1 ok.2
    obtain ⟨b1, b2, b3⟩ := pad_yes (s := szP s) (h := h) (by rw [s1]; exact ok.1) (by rw [s1]; exact ok.2)
    rw [a1, a2, a3] at hA
    rw [b1, b2, b3, s1, s2] at hB
    have hdv : szA s ∣ p / szA s * szA s := Nat.dvd_mul_left _ _
    have hbl : p / szA s * szA s ≤ p := Nat.div_mul_le_self p (szA s)
    have hEn : p / szA s * szA s + szP s ≤ 4294967296 → ∀ w, Calls Try.prog 20 #[.int .u32 (p / szA s * szA s : Nat), .int .u64 (p / szA s * szA s + szP s : Nat)] w fun e' w' =>
        (∃ x y z, e' = .returned (.tuple #[.int .u8 x, .int .u16 y, .int .u16 z, .bool true, .bool true])) ∧ Below w.heap.size w w' := by
      intro hle w
      have h := Encode_any (p / szA s * szA s) (p / szA s * szA s + szP s) w (by omega) (by omega)
      have hx := sz_exact ok.1 hdv hle
      rw [hx.1, hx.2] at h
      exact h.mono fun _ _ k => ⟨⟨_, _, _, k.1⟩, k.2⟩
    have hmod : ((szP s : Nat) : Int) % ((szA s : Nat) : Int) = 0 := by rw [← Int.natCast_emod, Nat.mod_eq_zero_of_dvd f3]; rfl
    have hm16 : ((szP s : Nat) : Int) % 16 = 0 := by omega
    have hdn : (p : Int) / ((szA s : Nat) : Int) * ((szA s : Nat) : Int) = (p / szA s * szA s : Nat) := by rw [← Int.natCast_ediv, ← Int.natCast_mul]
    obtain ⟨q, hq⟩ : ∃ q : Int, q = (szP s : Nat) := ⟨_, rfl⟩
    obtain ⟨V, hV⟩ : ∃ V : Int, V = (szA s : Nat) := ⟨_, rfl⟩
    obtain ⟨y, hy⟩ : ∃ y : Int, y = (p / szA s * szA s : Nat) := ⟨_, rfl⟩
    obtain ⟨S, hS⟩ : ∃ S : Int, S = (s : Int) := ⟨_, rfl⟩
    obtain ⟨H, hH⟩ : ∃ H : Int, H = (h : Int) := ⟨_, rfl⟩
    obtain ⟨Pp, hPp⟩ : ∃ P : Int, P = (p : Int) := ⟨_, rfl⟩
    have hEn2 : y + q ≤ 4294967296 → ∀ w, Calls Try.prog 20 #[.int .u32 y, .int .u64 (y + q)] w fun e' w' => (∃ x y z, e' = .returned (.tuple #[.int .u8 x, .int .u16 y, .int .u16 z, .bool true, .bool true])) ∧ Below w.heap.size w w' := by
      intro h w
      have := hEn (by omega) w
      rw [Int.natCast_add, ← hy, ← hq] at this
      exact this
    have g1 : S ≤ q := by omega
    have g2 : q ≤ H := by have := ok.2; omega
    have g3 : 16 ≤ V := by omega
    have g4 : V ≤ 4294967295 := by omega
    have g5 : 0 ≤ y := by omega
    have g6 : y < 4294967296 := by omega
    have g7 : 0 ≤ q := by omega
    have g8 : q < 4294967296 := by omega
    have g9 : 0 ≤ Pp := by omega
    have g10 : Pp < 4294967296 := by omega
    rw [← hq, ← hV] at hmod
    rw [← hq] at hm16
    rw [← hV, ← hy, ← hPp] at hdn
    rw [← hq, ← hV, ← hH] at hB
    rw [← hq, ← hV, ← hS, ← hH] at hA
    rw [← hS, ← hH, ← hPp]
    have k1 : 0 ≤ Pp / V := Int.ediv_nonneg (by omega) (by omega)
    have k2 : Pp / V ≤ 4294967295 := Int.le_trans (Int.ediv_le_self _ (by omega)) (by omega)
    clear ok f1 f2 f3 f4 f5 f6 s1 s2 a1 a2 a3 b1 b2 b3 hdv hbl hEn hq hV hy hS hH hPp ls lh lp
    have d1 : decide (q < S) = false := decide_eq_false (by omega)
    have d2 : decide (H < q) = false := decide_eq_false (by omega)
    have d3 : (V == 0) = false := by simp; omega
    have d4 : (q % V != 0) = false := by rw [hmod]; rfl
    have d5 : (q % 16 != 0) = false := by rw [hm16]; rfl
    have d6 : q.tmod V = q % V := Int.tmod_eq_emod_of_nonneg (by omega)
    have d7 : q.tmod 16 = q % 16 := Int.tmod_eq_emod_of_nonneg (by omega)
    replace hEn2 := Lib.hid hEn2
    by_cases hbig : y + q > 4294967296
    · go_enter Try.func6, Try.ntmps6
      go_wp2_with fail
      refine (hA.out _).mono ?_
      rintro e w1 ⟨rfl, g⟩
      have B := Lib.hid g
      clear g
      go_wp2_with fail
      refine (hB.out _).mono ?_
      rintro e w2 ⟨rfl, g⟩
      replace B := Lib.hid (B.out.trans (g.mono B.out.size))
      clear g
      go_wp2_with fail
      refine (hW.out _).mono ?_
      rintro e w3 ⟨rfl, g⟩
      replace B := Lib.hid (B.out.trans (g.mono B.out.size))
      clear g
      go_wp2
      go_ret
      exact ⟨rfl, B.out⟩
    · have hEe := Lib.hid (hEn2.out (by omega))
      go_enter Try.func6, Try.ntmps6
      go_wp2_with fail
      refine (hA.out _).mono ?_
      rintro e w1 ⟨rfl, g⟩
      have B := Lib.hid g
      clear g
      go_wp2_with fail
      refine (hB.out _).mono ?_
      rintro e w2 ⟨rfl, g⟩
      replace B := Lib.hid (B.out.trans (g.mono B.out.size))
      clear g
      go_wp2_with fail
      refine (hEe.out _).mono ?_
      rintro e w4 ⟨⟨ex, ey, ez, rfl⟩, g⟩
      replace B := Lib.hid (B.out.trans (g.mono B.out.size))
      clear g
      go_wp2_with fail
      refine (hW.out _).mono ?_
      rintro e w3 ⟨rfl, g⟩
      replace B := Lib.hid (B.out.trans (g.mono B.out.size))
      clear g
      go_wp2
      go_ret
      exact ⟨rfl, B.out⟩
  · obtain ⟨a1, a2, a3⟩ := pad_no (s := s) (h := h) (by omega)
    rw [a1, a2, a3] at hA
    clear ok a1 a2 a3
    go_enter Try.func6, Try.ntmps6
    go_wp2_with fail
    refine (hA.out _).mono ?_
    rintro e w1 ⟨rfl, g⟩
    have B := Lib.hid g
    clear g
    go_wp2_with fail
    refine (hW.out _).mono ?_
    rintro e w3 ⟨rfl, g⟩
    replace B := Lib.hid (B.out.trans (g.mono B.out.size))
    clear g
    go_wp2
    go_ret
    exact ⟨rfl, B.out⟩
theorem own : ownKnob Try.prog.godebug = none := by kernel_rfl
theorem laidOut : laidOutB Try.prog = true := by kernel_rfl
set_option maxRecDepth 100000 in
theorem lifted (os : Os) (started : os.Started) (H : Type) (enc : TypeId × Value → H) :
    ReturnsInHanded {} Try.checked os 6 .any (Rows.sizesExactSpec.pre6 enc Try.prog Try.f6 Rows.sizesExactRow.domain false) (Rows.sizesExactSpec.post enc Try.prog Try.f6 false true false false) := by
  refine returnsInHanded_of_change (C := Try.checked) own started (by kernel_rfl) Try.func6
    (ChangeSpec.witness6 (enc := enc) (C := Try.checked) false ⟨#[], #[.int .u32 0, .int .u32 0, .int .u32 0], []⟩ 8 (by kernel_rfl) (by kernel_rfl) (by kernel_rfl) (by kernel_rfl)) ?_
  intro W base args ds gs before hval0 hW hcnd hsz
  have hval : ∀ (j : Nat) t v, Try.f6.params[j]? = some t → args[j]? = some v → Value.okWide Try.prog W .any base t v := hval0
  have hW' := hW
  obtain ⟨p, q, hA0, hV, rfl, hfz, hnd⟩ := hW
  have hA : DataW.TrodAll enc Try.prog W 0 (fun _ => true) true Try.f6.params.toList args.toList ds p := hA0
  rw [Try.params6] at hA hval
  obtain ⟨v0, vs0, d0, ds0, p0, q0, hargs, rfl, rfl, h0, r0⟩ := trodAll_cons hA
  obtain ⟨v1, vs1, d1, ds1, p1, q1, rfl, rfl, rfl, h1, r1⟩ := trodAll_cons r0
  obtain ⟨v2, vs2, d2, ds2, p2, q2, rfl, rfl, rfl, h2, r2⟩ := trodAll_cons r1
  obtain ⟨rfl, rfl, rfl⟩ := trodAll_nil r2
  obtain rfl : args = #[v0, v1, v2] := by cases args; simp_all
  obtain ⟨rfl, rfl⟩ := trodVars_none hV
  have k0 := h0
  have lt0 : ∀ x ∈ p0, x.block < W.heap.size := by obtain ⟨m, hm⟩ := k0; exact DataW.trod_lt m _ _ _ hm
  have k1 := h1
  have lt1 : ∀ x ∈ p1, x.block < W.heap.size := by obtain ⟨m, hm⟩ := k1; exact DataW.trod_lt m _ _ _ hm
  have k2 := h2
  have lt2 : ∀ x ∈ p2, x.block < W.heap.size := by obtain ⟨m, hm⟩ := k2; exact DataW.trod_lt m _ _ _ hm
  obtain ⟨size, rfl, rfl, rfl, wsize⟩ := open_int Try.underlying22 (hval 0 22 v0 rfl rfl) h0
  obtain ⟨heap, rfl, rfl, rfl, wheap⟩ := open_int Try.underlying22 (hval 1 22 v1 rfl rfl) h1
  obtain ⟨place, rfl, rfl, rfl, wplace⟩ := open_int Try.underlying22 (hval 2 22 v2 rfl rfl) h2
  clear hA0 hval0
  refine (walk size wsize heap wheap place wplace W).mono fun e W' ⟨he, bel⟩ => ?_
  subst he
  exact ⟨_, rfl, _, _, _, [], _, [], hW', trodAll_mk1 (shut_bool Try.underlying4 _), (trodAll_cons_mk (Below.trod laidOut (by kernel_rfl) (of_decide_eq_true (by kernel_rfl)) k0 bel lt0) (trodAll_cons_mk (Below.trod laidOut (by kernel_rfl) (of_decide_eq_true (by kernel_rfl)) k1 bel lt1) (trodAll_cons_mk (Below.trod laidOut (by kernel_rfl) (of_decide_eq_true (by kernel_rfl)) k2 bel lt2) trodAll_mk0))), rfl, bel.frame _, fun h => by cases h⟩
theorem over : Rows.sizesExactRow.holds Try.pinned (OpenSpec.ofChange Rows.sizesExactSpec) :=
  OpenClaim.holds_of_wide 6 Try.f6 rfl rfl rfl rfl rfl rfl rfl ⟨rfl, rfl, rfl, rfl, rfl⟩ rfl rfl rfl rfl rfl (by kernel_rfl) Try.func6 (by kernel_rfl)
    (of_decide_eq_true (by kernel_rfl)) (by unfold Func.isWrapper; first | (rw [if_pos (by decide +kernel)]; kernel_rfl) | (rw [if_neg (by decide +kernel)]; exact ⟨rfl, rfl⟩))
    (fun os started H enc _ => lifted os started H enc)
/-- The given statement. -/
theorem proved : Rows.SizesExactSaid := over
end Go.Proofs.Ytchonkkflklckaa.zexact
