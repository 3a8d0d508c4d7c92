/- Contracts of the document's answers for layer bounds: Decode, Keeps, Encode, Round, Pad. No statement is proved here. -/
import Derived.Test.YthniimefocjamaaBndQ
namespace Go.Proofs.Ythniimefocjamaa
open Go.RowKit
set_option linter.unusedVariables false

theorem Tell_not (e b t c : Nat) (w : World) (h : mayP e b t = false) :
    Calls Try.prog 87 #[.int .u8 e, .int .u16 b, .int .u16 t, .int .u32 c] w fun e' w' => e' = .returned (.tuple #[.int .i64 0, .int .i64 0, .bool false]) ∧ w = w' := by
  have hM := Lib.hid (fun w => May_any e b t w)
  rw [h] at hM
  clear h
  go_enter Try.func87, Try.ntmps87
  go_wp2_with fail
  refine (hM.out _).mono ?_
  rintro e' w1 ⟨rfl, rfl⟩
  go_wp2_with fail
  go_ret3
  exact ⟨rfl, rfl⟩
theorem isB_not {e b t c : Nat} (h : mayP e b t = false) : isB e b t c = false := by
  have := of_decide_eq_false h
  exact decide_eq_false fun k => this ⟨k.1, k.2.1, k.2.2.1⟩
/-- What 'Tell' answers. -/
def raB (e b t c : Nat) : Int := if mayP e b t then plc (2 ^ e : Nat) b c b else 0
def raT (e b t c : Nat) : Int := if mayP e b t then plc (2 ^ e : Nat) b c t else 0
theorem Tell_any (e b t c : Nat) (w : World) (hc : c < 4294967296) :
    Calls Try.prog 87 #[.int .u8 e, .int .u16 b, .int .u16 t, .int .u32 c] w fun e' w' => e' = .returned (.tuple #[.int .i64 (raB e b t c), .int .i64 (raT e b t c), .bool (isB e b t c)]) ∧ w = w' := by
  unfold raB raT
  cases h : mayP e b t
  · rw [isB_not h]
    exact Tell_not e b t c w h
  · have k := of_decide_eq_true h
    exact Tell_may e b t c w k.1 k.2.1 k.2.2 hc
theorem ra_te {e b t c : Nat} (h : isB e b t c = true) : raB e b t c = teB e b t c ∧ raT e b t c = teT e b t c := by
  have k := of_decide_eq_true h
  have hm : mayP e b t = true := decide_eq_true ⟨k.1, k.2.1, k.2.2.1⟩
  simp [raB, raT, teB, teT, h, hm]

theorem rDecode_any (e b t c : Nat) (w : World) (hc : c < 4294967296) :
    Calls Try.prog 107 #[.int .u8 e, .int .u16 b, .int .u16 t, .int .u32 c] w fun e' w' => e' = .returned (.tuple #[.int .u32 (deB e b t c), .int .u64 (deT e b t c)]) ∧ w = w' := by
  have hT := Lib.hid (fun w => Tell_any e b t c w hc)
  have hb := te_bounds e b t c
  have hr := fun h => ra_te (e := e) (b := b) (t := t) (c := c) h
  have hB := Lib.hid (show deB e b t c = if teB e b t c = 4294967296 then 0 else teB e b t c from rfl)
  have hD := Lib.hid (show deT e b t c = if teB e b t c = 4294967296 then 0 else teT e b t c from rfl)
  have h0 : isB e b t c = false → teB e b t c = 0 ∧ teT e b t c = 0 := fun h => ⟨by unfold teB; rw [h]; rfl, by unfold teT; rw [h]; rfl⟩
  generalize deB e b t c = vB at *
  generalize deT e b t c = vT at *
  generalize teB e b t c = p1 at *
  generalize teT e b t c = p2 at *
  generalize raB e b t c = r1 at *
  generalize raT e b t c = r2 at *
  obtain ⟨b1, b2, b3⟩ := hb
  clear hc
  cases hi : isB e b t c
  · obtain ⟨rfl, rfl⟩ := h0 hi
    rw [hi] at hT
    rw [show vB = 0 from by rw [hB.out]; rfl, show vT = 0 from by rw [hD.out]; rfl]
    clear hB hD hr h0 hi
    go_enter Try.func107, Try.ntmps107
    go_wp2_with fail
    refine (hT.out _).mono ?_
    rintro e' w1 ⟨rfl, rfl⟩
    go_wp2_with fail
    go_ret2
    exact ⟨rfl, rfl⟩
  · obtain ⟨rfl, rfl⟩ := hr hi
    rw [hi] at hT
    clear hr h0 hi
    by_cases h : r1 = 4294967296
    · rw [show vB = 0 from by rw [hB.out, if_pos h], show vT = 0 from by rw [hD.out, if_pos h]]
      have hq : (r1 == 4294967296) = true := by simp [h]
      clear hB hD
      replace h := Lib.hid h
      go_enter Try.func107, Try.ntmps107
      go_wp2_with fail
      refine (hT.out _).mono ?_
      rintro e' w1 ⟨rfl, rfl⟩
      go_wp2_with fail
      go_ret2
      exact ⟨rfl, rfl⟩
    · rw [show vB = r1 from by rw [hB.out, if_neg h], show vT = r2 from by rw [hD.out, if_neg h]]
      have hq : (r1 == 4294967296) = false := by simp [h]
      have b4 : r1 < 4294967296 := by omega
      clear hB hD
      replace h := Lib.hid h
      go_enter Try.func107, Try.ntmps107
      go_wp2_with fail
      refine (hT.out _).mono ?_
      rintro e' w1 ⟨rfl, rfl⟩
      go_wp2_with fail
      go_ret2
      exact ⟨rfl, rfl⟩

theorem rkp_eq (e b t c n : Nat) : (isB e b t c && (raB e b t c == raB e b t n && raT e b t c == raT e b t n)) = kp e b t c n := by
  unfold kp
  cases h : isB e b t c
  · simp only [Bool.false_and]
  · have k := of_decide_eq_true h
    have hm : mayP e b t = true := decide_eq_true ⟨k.1, k.2.1, k.2.2.1⟩
    rw [Bool.eq_iff_iff]
    simp [raB, raT, hm]

theorem rKeeps_any (e b t c n : Nat) (w : World) (hc : c < 4294967296) (hn : n < 4294967296) :
    Calls Try.prog 61 #[.int .u8 e, .int .u16 b, .int .u16 t, .int .u32 c, .int .u32 n] w fun e' w' => e' = .returned (.bool (kp e b t c n)) ∧ w = w' := by
  have hT := Lib.hid (fun w => Tell_any e b t c w hc)
  have hN := Lib.hid (fun w => Tell_any e b t n w hn)
  rw [← rkp_eq]
  generalize raB e b t c = p1 at *
  generalize raT e b t c = p2 at *
  generalize raB e b t n = q1 at *
  generalize raT e b t n = q2 at *
  generalize isB e b t c = i1 at *
  generalize isB e b t n = i2 at *
  clear hc hn
  cases i1
  · go_enter Try.func61, Try.ntmps61
    go_wp2_with fail
    refine (hT.out _).mono ?_
    rintro e' w1 ⟨rfl, rfl⟩
    go_wp2_with fail
    refine (hN.out _).mono ?_
    rintro e' w1 ⟨rfl, rfl⟩
    go_wp2_with fail
    go_ret
    exact ⟨rfl, rfl⟩
  · cases hq : (p1 == q1)
    · go_enter Try.func61, Try.ntmps61
      go_wp2_with fail
      refine (hT.out _).mono ?_
      rintro e' w1 ⟨rfl, rfl⟩
      go_wp2_with fail
      refine (hN.out _).mono ?_
      rintro e' w1 ⟨rfl, rfl⟩
      go_wp2_with fail
      go_ret
      exact ⟨rfl, rfl⟩
    · go_enter Try.func61, Try.ntmps61
      go_wp2_with fail
      refine (hT.out _).mono ?_
      rintro e' w1 ⟨rfl, rfl⟩
      go_wp2_with fail
      refine (hN.out _).mono ?_
      rintro e' w1 ⟨rfl, rfl⟩
      go_wp2_with fail
      all_goals go_ret
      all_goals exact ⟨rfl, rfl⟩

theorem rrounded_any (b t e : Nat) (w : World) (he : e ≤ 21) (hb : b < 4294967296) (ht : t ≤ 4294967296) :
    Calls Try.prog 106 #[.int .u32 b, .int .u64 t, .int .u8 e] w fun e' w' => e' = .returned (.tuple #[.int .u64 (dn (2 ^ e) b : Nat), .int .u64 (up (2 ^ e) t : Nat)]) ∧ ∃ n, w.drewN n = w' := by
  have hu : IntKind.u64.wrap (2 ^ e) = ((2 ^ e : Nat) : Int) := by rw [cast_pow, IntKind.wrap_u64]; have := pow_le21 he; generalize 2 ^ e = U at *; omega
  have u1 := pow_pos2 e
  have u2 := pow_le21 he
  generalize 2 ^ e = U at *
  have i1 : (e : Int) ≤ 21 := by omega
  have hB : IntKind.u64.wrap (IntKind.u64.wrap ((b : Int) / U) * U) = (dn U b : Nat) := by
    have a := Nat.div_le_self b U
    have c := dn_le U b
    unfold dn at *
    rw [← Int.natCast_ediv, IntKind.wrap_u64, IntKind.wrap_u64]
    generalize b / U = q at *
    rw [show (q : Int) % 18446744073709551616 = (q : Int) from by omega, ← Int.natCast_mul]
    omega
  have hT : IntKind.u64.wrap (((t : Int) + U - 1) / U * U) = (up U t : Nat) := by
    have c := up_lt t u1
    rw [show (t : Int) + U - 1 = ((t + U - 1 : Nat) : Int) from by omega, ← Int.natCast_ediv, ← Int.natCast_mul, IntKind.wrap_u64]
    unfold up at *
    omega
  replace hB := Lib.hid hB
  replace hT := Lib.hid hT
  clear he
  go_enter Try.func106, Try.ntmps106
  go_wp2_with fail
  go_quiet (fail)
  go_wp2
  go_ret2
  refine ⟨?_, _, rfl⟩
  show Ending.returned (.tuple #[.int .u64 (IntKind.u64.wrap (IntKind.u64.wrap ((b : Int) / U) * U)), .int .u64 (IntKind.u64.wrap (((t : Int) + U - 1) / U * U))]) = _
  rw [hB.out, hT.out]

theorem exponent_any (b t : Nat) (w : World) (hb : b ≤ t) (ht : t ≤ 4294967296) (hb2 : b < 4294967296) :
    Calls Try.prog 105 #[.int .u32 b, .int .u64 t] w fun e' w' => e' = .returned (.int .u8 (expo b t)) ∧ ∃ n, w.drewN n = w' := by
  have hR := Lib.hid (fun e (he : e ≤ 21) w => rrounded_any b t e w he hb2 ht)
  have hL := Lib.hid (fun e => expo_is (b := b) (e := e) ht)
  have h21 := Lib.hid (ok_last (b := b) ht)
  have hok : ∀ k, k ≤ 21 → decide (IntKind.u64.wrap ((up (2 ^ k) t : Nat) - (dn (2 ^ k) b : Nat) : Int) ≤ IntKind.u64.wrap (2048 * 2 ^ k)) = decide (okE b t k) := by
    intro k hk
    have hU := pow_le21 hk
    have hU1 := pow_pos2 k
    have a1 := dn_le (2 ^ k) b
    have a2 := up_ge t hU1
    have a3 := up_lt t hU1
    rw [cast_pow, IntKind.wrap_u64, IntKind.wrap_u64, decide_eq_decide]
    unfold okE
    generalize 2 ^ k = U at *
    omega
  replace hok := Lib.hid hok
  clear hb ht hb2
  go_enter Try.func105, Try.ntmps105
  go_wp2_with fail
  go_loopw [5] (fun i wr => ∃ k n : Nat, k ≤ 21 ∧ i = .int .u8 k ∧ (∀ j, j < k → ¬ okE b t j) ∧ w.drewN n = wr) (fun i _ => 22 - (intOf i).toNat)
  case atStart => exact ⟨0, 0, by omega, rfl, fun j h => absurd h (by omega), rfl⟩
  case round =>
    obtain ⟨k, n0, hk, rfl, hno, rfl⟩ := hrel
    replace hno := Lib.hid hno
    go_wp2_with fail
    refine (hR.out k hk _).mono ?_
    rintro e' w1 ⟨rfl, n1, rfl⟩
    by_cases ok : okE b t k
    · have hle := of_decide_eq_true ((hok.out k hk).trans (decide_eq_true ok))
      have he := Lib.hid (hL.out k ok hno.out)
      clear ok
      go_wp2_with fail
      go_ret
      exact ⟨by rw [he.out]; rfl, _, rfl⟩
    · have hle := of_decide_eq_false ((hok.out k hk).trans (decide_eq_false ok))
      have hk' : k < 21 := by
        rcases Nat.lt_or_ge k 21 with h | h
        · exact h
        · have : k = 21 := by omega
          subst this
          exact absurd h21.out ok
      replace ok := Lib.hid ok
      go_wp2_with fail
      go_roundw
      case rel =>
        refine ⟨k + 1, n0 + n1, by omega, by go_num, fun j hj => ?_, rfl⟩
        rcases Nat.lt_or_ge j k with h | h
        · exact hno.out j h
        · have : j = k := by omega
          subst this
          exact ok.out
      case measure => simp [intOf]; omega

theorem rRound_any (b t : Nat) (w : World) (hb : b < 4294967296) (ht : t < 18446744073709551616) :
    Calls Try.prog 92 #[.int .u32 b, .int .u64 t] w fun e' w' => e' = .returned (.tuple #[.int .u32 (rdB b t), .int .u64 (rdT b t), .bool (may b t)]) ∧ ∃ n, w.drewN n = w' := by
  cases hm : may b t
  · rw [show rdB b t = 0 from by simp [rdB, hm], show rdT b t = 0 from by simp [rdT, hm]]
    have hn := of_decide_eq_false hm
    clear hm
    by_cases h : (t : Int) < b
    · go_enter Try.func92, Try.ntmps92
      go_wp2_with fail
      go_ret3
      exact ⟨rfl, 0, rfl⟩
    · have h' : (4294967296 : Int) < t := by omega
      go_enter Try.func92, Try.ntmps92
      go_wp2_with fail
      go_ret3
      exact ⟨rfl, 0, rfl⟩
  · rw [show rdB b t = dn (2 ^ expo b t) b from by simp [rdB, hm], show rdT b t = up (2 ^ expo b t) t from by simp [rdT, hm]]
    have h := of_decide_eq_true hm
    have hX := Lib.hid (fun w => exponent_any b t w h.1 h.2 hb)
    have hR := Lib.hid (fun w => rrounded_any b t (expo b t) w (expo_le b h.2) hb h.2)
    have h1 : ¬ (t : Int) < b := by omega
    have h2 : ¬ (4294967296 : Int) < t := by omega
    have b1 : dn (2 ^ expo b t) b < 4294967296 := Nat.lt_of_le_of_lt (dn_le _ _) hb
    have b2 : up (2 ^ expo b t) t ≤ 4294967296 := up_le_of_dvd (pow_pos2 _) (dvd_whole (Nat.le_trans (expo_le b h.2) (by decide))) h.2
    generalize dn (2 ^ expo b t) b = D at *
    generalize up (2 ^ expo b t) t = T at *
    generalize expo b t = k at *
    clear hm h
    go_enter Try.func92, Try.ntmps92
    go_wp2_with fail
    refine (hX.out _).mono ?_
    rintro e' w1 ⟨rfl, n1, rfl⟩
    go_wp2_with fail
    refine (hR.out _).mono ?_
    rintro e' w1 ⟨rfl, n2, rfl⟩
    go_wp2_with fail
    go_ret3
    exact ⟨rfl, n1 + n2, rfl⟩

theorem rEncode_any (b t : Nat) (w : World) (hb : b < 4294967296) (ht : t < 18446744073709551616) :
    Calls Try.prog 91 #[.int .u32 b, .int .u64 t] w fun e' w' => e' = .returned (.tuple #[.int .u8 (enE b t), .int .u16 (enB b t), .int .u16 (enT b t), .bool (enX b t), .bool (may b t)]) ∧ ∃ n, w.drewN n = w' := by
  cases hm : may b t
  · rw [show enE b t = 0 from by simp [enE, hm], show enB b t = 0 from by simp [enB, rdB, hm], show enT b t = 0 from by simp [enT, rdT, hm], show enX b t = false from by simp [enX, hm]]
    have hn := of_decide_eq_false hm
    clear hm
    by_cases h : (t : Int) < b
    · go_enter Try.func91, Try.ntmps91
      go_wp2_with fail
      exact bodyPost_ret (v := .tuple #[.int .u8 0, .int .u16 0, .int .u16 0, .bool false, .bool false]) (by simp [results, Try.results91, go_sem]) rfl ⟨rfl, 0, rfl⟩
    · have h' : (4294967296 : Int) < t := by omega
      go_enter Try.func91, Try.ntmps91
      go_wp2_with fail
      exact bodyPost_ret (v := .tuple #[.int .u8 0, .int .u16 0, .int .u16 0, .bool false, .bool false]) (by simp [results, Try.results91, go_sem]) rfl ⟨rfl, 0, rfl⟩
  · rw [show enX b t = decide (rdB b t = b ∧ rdT b t = t) from by simp [enX, hm]]
    unfold enB enT
    rw [show enE b t = expo b t from by simp [enE, hm], show rdB b t = dn (2 ^ expo b t) b from by simp [rdB, hm], show rdT b t = up (2 ^ expo b t) t from by simp [rdT, hm]]
    have h := of_decide_eq_true hm
    have hX := Lib.hid (fun w => exponent_any b t w h.1 h.2 hb)
    have hR := Lib.hid (fun w => rrounded_any b t (expo b t) w (expo_le b h.2) hb h.2)
    have h1 : ¬ (t : Int) < b := by omega
    have h2 : ¬ (4294967296 : Int) < t := by omega
    have b1 : dn (2 ^ expo b t) b < 4294967296 := Nat.lt_of_le_of_lt (dn_le _ _) hb
    have b2 : up (2 ^ expo b t) t ≤ 4294967296 := up_le_of_dvd (pow_pos2 _) (dvd_whole (Nat.le_trans (expo_le b h.2) (by decide))) h.2
    have hu : IntKind.u64.wrap (2 ^ expo b t) = ((2 ^ expo b t : Nat) : Int) := by rw [cast_pow, IntKind.wrap_u64]; have := pow_le21 (expo_le b h.2); generalize 2 ^ expo b t = U at *; omega
    have hk := expo_le b h.2
    have u1 := pow_pos2 (expo b t)
    have u2 := pow_le21 (expo_le b h.2)
    generalize dn (2 ^ expo b t) b = D at *
    generalize up (2 ^ expo b t) t = T at *
    generalize expo b t = k at *
    generalize 2 ^ k = U at *
    have d1 : 0 ≤ (D : Int) / U := Int.ediv_nonneg (by omega) (by omega)
    have d2 : (D : Int) / U ≤ 4294967296 := Int.le_trans (Int.ediv_le_self _ (by omega)) (by omega)
    have d3 : 0 ≤ (T : Int) / U := Int.ediv_nonneg (by omega) (by omega)
    have d4 : (T : Int) / U ≤ 4294967296 := Int.le_trans (Int.ediv_le_self _ (by omega)) (by omega)
    have hz : decide (D = b ∧ T = t) = ((((D : Int) == (b : Int)) && ((T : Int) == (t : Int)))) := by
      rw [Bool.eq_iff_iff]; simp; omega
    rw [hz]
    have hx : (D : Int) / U % 4096 = ((D / U % 4096 : Nat) : Int) := by rw [Int.natCast_emod, Int.natCast_ediv]; rfl
    have hy : (T : Int) / U % 4096 = ((T / U % 4096 : Nat) : Int) := by rw [Int.natCast_emod, Int.natCast_ediv]; rfl
    rw [← hx, ← hy]
    clear hm h hz hx hy
    cases hq1 : ((D : Int) == (b : Int))
    · go_enter Try.func91, Try.ntmps91
      go_wp2_with fail
      refine (hX.out _).mono ?_
      rintro e' w1 ⟨rfl, n1, rfl⟩
      go_wp2_with fail
      refine (hR.out _).mono ?_
      rintro e' w1 ⟨rfl, n2, rfl⟩
      go_wp2_with fail
      go_quiet (fail)
      go_wp2
      exact bodyPost_ret (v := .tuple #[.int .u8 k, .int .u16 ((D : Int) / U % 4096), .int .u16 ((T : Int) / U % 4096), .bool false, .bool true]) (by simp [results, Try.results91, go_sem]) rfl ⟨rfl, n1 + n2 + nq, by simp [go_sem]⟩
    · cases hq2 : ((T : Int) == (t : Int))
      · go_enter Try.func91, Try.ntmps91
        go_wp2_with fail
        refine (hX.out _).mono ?_
        rintro e' w1 ⟨rfl, n1, rfl⟩
        go_wp2_with fail
        refine (hR.out _).mono ?_
        rintro e' w1 ⟨rfl, n2, rfl⟩
        go_wp2_with fail
        go_quiet (fail)
        go_wp2
        exact bodyPost_ret (v := .tuple #[.int .u8 k, .int .u16 ((D : Int) / U % 4096), .int .u16 ((T : Int) / U % 4096), .bool false, .bool true]) (by simp [results, Try.results91, go_sem]) rfl ⟨rfl, n1 + n2 + nq, by simp [go_sem]⟩
      · go_enter Try.func91, Try.ntmps91
        go_wp2_with fail
        refine (hX.out _).mono ?_
        rintro e' w1 ⟨rfl, n1, rfl⟩
        go_wp2_with fail
        refine (hR.out _).mono ?_
        rintro e' w1 ⟨rfl, n2, rfl⟩
        go_wp2_with fail
        go_quiet (fail)
        go_wp2
        exact bodyPost_ret (v := .tuple #[.int .u8 k, .int .u16 ((D : Int) / U % 4096), .int .u16 ((T : Int) / U % 4096), .bool true, .bool true]) (by simp [results, Try.results91, go_sem]) rfl ⟨rfl, n1 + n2 + nq, by simp [go_sem]⟩


end Go.Proofs.Ythniimefocjamaa
