/- Contracts of the document's answers for layer bounds: Decode, Keeps, Encode, Round, Pad. No statement is proved here. -/
import Derived.Test.YtchonkkflklckaaBndQ
namespace Go.Proofs.Ytchonkkflklckaa
open Go.RowKit
set_option linter.unusedVariables false

theorem isB_not {e b t c : Nat} (h : mayP e b t = false) : isB e b t c = false := by
  have := of_decide_eq_false h
  exact decide_eq_false fun k => this ⟨k.1, k.2.1, k.2.2.1⟩
/-- What 'Tell' answers. -/
def raB (e b t c : Nat) : Int := if mayP e b t then plc (2 ^ e : Nat) b c b else 0
def raT (e b t c : Nat) : Int := if mayP e b t then plc (2 ^ e : Nat) b c t else 0
theorem ra_te {e b t c : Nat} (h : isB e b t c = true) : raB e b t c = teB e b t c ∧ raT e b t c = teT e b t c := by
  have k := of_decide_eq_true h
  have hm : mayP e b t = true := decide_eq_true ⟨k.1, k.2.1, k.2.2.1⟩
  simp [raB, raT, teB, teT, h, hm]

theorem rkp_eq (e b t c n : Nat) : (isB e b t c && (raB e b t c == raB e b t n && raT e b t c == raT e b t n)) = kp e b t c n := by
  unfold kp
  cases h : isB e b t c
  · simp only [Bool.false_and]
  · have k := of_decide_eq_true h
    have hm : mayP e b t = true := decide_eq_true ⟨k.1, k.2.1, k.2.2.1⟩
    rw [Bool.eq_iff_iff]
    simp [raB, raT, hm]


theorem rrounded_any (b t e : Nat) (w : World) (he : e ≤ 21) (hb : b < 4294967296) (ht : t ≤ 4294967296) :
    Calls Try.prog 28 #[.int .u32 b, .int .u64 t, .int .u8 e] w fun e' w' => e' = .returned (.tuple #[.int .u64 (dn (2 ^ e) b : Nat), .int .u64 (up (2 ^ e) t : Nat)]) ∧ ∃ n, w.drewN n = w' := by
  have hu : IntKind.u64.wrap (2 ^ e) = ((2 ^ e : Nat) : Int) := by rw [cast_pow, IntKind.wrap_u64]; have := pow_le21 he; generalize 2 ^ e = U at *; omega
  have u1 := pow_pos2 e
  have u2 := pow_le21 he
  generalize 2 ^ e = U at *
  have i1 : (e : Int) ≤ 21 := by omega
  have hB : IntKind.u64.wrap (IntKind.u64.wrap ((b : Int) / U) * U) = (dn U b : Nat) := by
    have a := Nat.div_le_self b U
    have c := dn_le U b
    unfold dn at *
    rw [← Int.natCast_ediv, IntKind.wrap_u64, IntKind.wrap_u64]
    generalize b / U = q at *
    rw [show (q : Int) % 18446744073709551616 = (q : Int) from by omega, ← Int.natCast_mul]
    omega
  have hT : IntKind.u64.wrap (((t : Int) + U - 1) / U * U) = (up U t : Nat) := by
    have c := up_lt t u1
    rw [show (t : Int) + U - 1 = ((t + U - 1 : Nat) : Int) from by omega, ← Int.natCast_ediv, ← Int.natCast_mul, IntKind.wrap_u64]
    unfold up at *
    omega
  replace hB := Lib.hid hB
  replace hT := Lib.hid hT
  clear he
  go_enter Try.func28, Try.ntmps28
  go_wp2_with fail
  go_quiet (fail)
  go_wp2
  go_ret2
  refine ⟨?_, _, rfl⟩
  show Ending.returned (.tuple #[.int .u64 (IntKind.u64.wrap (IntKind.u64.wrap ((b : Int) / U) * U)), .int .u64 (IntKind.u64.wrap (((t : Int) + U - 1) / U * U))]) = _
  rw [hB.out, hT.out]

set_option maxRecDepth 100000 in
theorem rPad_any (s : Nat) (w : World) (hs : s < 4294967296) :
    Calls Try.prog 24 #[.int .u32 s] w fun e' w' => e' = .returned (.tuple #[.int .u32 (pdP s), .int .u32 (pdA s)]) ∧ ∃ n, w.drewN n = w' := by
  have ht : s ≤ 4294967296 := by omega
  have hR := Lib.hid (fun e (he : e ≤ 21) w => rrounded_any 0 s e w he (by omega) ht)
  have hL := Lib.hid (fun e => expo_is (b := 0) (e := e) ht)
  have h21 := Lib.hid (ok_last (b := 0) ht)
  have hm : may 0 s = true := decide_eq_true ⟨by omega, by omega⟩
  have hP := Lib.hid (show pdP s = if up (2 ^ expo 0 s) s = 4294967296 then 0 else up (2 ^ expo 0 s) s from by simp [pdP, rdT, hm])
  have hA := Lib.hid (show pdA s = if up (2 ^ expo 0 s) s = 4294967296 then 0 else 2 ^ expo 0 s from by simp [pdA, rdT, enE, hm])
  have hok : ∀ k, k ≤ 21 → decide (((up (2 ^ k) s : Nat) : Int) ≤ IntKind.u64.wrap (2048 * 2 ^ k)) = decide (okE 0 s k) := by
    intro k hk
    have hU := pow_le21 hk
    have hU1 := pow_pos2 k
    rw [cast_pow, IntKind.wrap_u64, decide_eq_decide]
    unfold okE
    have := dn_le (2 ^ k) 0
    generalize 2 ^ k = U at *
    omega
  have hT : ∀ k, k ≤ 21 → up (2 ^ k) s ≤ 4294967296 := fun k hk => up_le_of_dvd (pow_pos2 _) (dvd_whole (Nat.le_trans hk (by decide))) ht
  have hu : ∀ k, k ≤ 21 → (2 : Int) ^ k % 4294967296 = ((2 ^ k : Nat) : Int) := by
    intro k hk
    have := pow_le21 hk; rw [cast_pow]; generalize 2 ^ k = U at *; omega
  replace hu := Lib.hid hu
  replace hT := Lib.hid hT
  replace hok := Lib.hid hok
  generalize pdP s = vP at *
  generalize pdA s = vA at *
  clear hm ht
  go_enter Try.func24, Try.ntmps24
  go_wp2_with fail
  go_loopw [4] (fun i wr => ∃ k n : Nat, k ≤ 21 ∧ i = .int .u8 k ∧ (∀ j, j < k → ¬ okE 0 s j) ∧ w.drewN n = wr) (fun i _ => 22 - (intOf i).toNat)
  case atStart => exact ⟨0, 0, by omega, rfl, fun j h => absurd h (by omega), rfl⟩
  case round =>
    obtain ⟨k, n0, hk, rfl, hno, rfl⟩ := hrel
    replace hno := Lib.hid hno
    go_wp2_with fail
    refine (hR.out k hk _).mono ?_
    rintro e' w1 ⟨rfl, n1, rfl⟩
    have hT2 := hT.out k hk
    by_cases ok : okE 0 s k
    · have hle := of_decide_eq_true ((hok.out k hk).trans (decide_eq_true ok))
      have he := hL.out k ok hno.out
      have hP2 := hP.out
      have hA2 := hA.out
      rw [he] at hP2 hA2
      have hu2 := Lib.hid (hu.out k hk)
      clear ok he hu
      generalize up (2 ^ k) s = T at *
      by_cases h : T = 4294967296
      · have hq : ((T : Int) == 4294967296) = true := by simp; omega
        rw [if_pos h] at hP2 hA2
        subst hP2 hA2
        replace h := Lib.hid h
        go_wp2_with fail
        go_ret2
        exact ⟨rfl, _, rfl⟩
      · have hq : ((T : Int) == 4294967296) = false := by simp; omega
        have b4 : T < 4294967296 := by omega
        rw [if_neg h] at hP2 hA2
        subst hP2
        subst hA2
        replace h := Lib.hid h
        go_wp2_with fail
        go_ret2
        refine ⟨?_, _, rfl⟩
        show Ending.returned (.tuple #[.int .u32 vP, .int .u32 (2 ^ k % 4294967296)]) = _
        rw [hu2.out]
    · have hle := of_decide_eq_false ((hok.out k hk).trans (decide_eq_false ok))
      have hk' : k < 21 := by
        rcases Nat.lt_or_ge k 21 with h | h
        · exact h
        · have : k = 21 := by omega
          subst this
          exact absurd h21.out ok
      replace ok := Lib.hid ok
      clear hT2
      generalize up (2 ^ k) s = T at *
      generalize dn (2 ^ k) 0 = D at *
      have hM : IntKind.u64.wrap (2048 * 2 ^ k) = ((2048 * 2 ^ k : Nat) : Int) := by
        have := pow_le21 hk
        rw [cast_pow, IntKind.wrap_u64]
        generalize 2 ^ k = U at *
        omega
      rw [hM] at hle
      generalize 2048 * 2 ^ k = M at *
      replace hk' := Lib.hid hk'
      clear hs hu hT hR hL h21 hok hP hA
      replace hle : (M : Int) < T := by omega
      go_wp2_with fail
      go_roundw
      case rel =>
        have hk2 := hk'.out
        refine ⟨k + 1, n0 + n1, by omega, by go_num, fun j hj => ?_, rfl⟩
        rcases Nat.lt_or_ge j k with h | h
        · exact hno.out j h
        · have : j = k := by omega
          subst this
          exact ok.out
      case measure => simp [intOf]; omega

end Go.Proofs.Ytchonkkflklckaa
