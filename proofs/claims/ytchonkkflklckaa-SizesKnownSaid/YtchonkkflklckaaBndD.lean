/- Contracts of layer bounds: rounding, and the exponent. No statement is proved here. -/
import Derived.Test.YtchonkkflklckaaBndA
import Derived.Deep.LoopGhost
import Derived.Deep.DeepCutAuto
namespace Go.Proofs.Ytchonkkflklckaa
open Go.RowKit
set_option linter.unusedVariables false

theorem mayBe_any (b t : Nat) (w : World) (hb : b < 4294967296) : Calls Try.prog 25 #[.int .u32 b, .int .u64 t] w fun e w' => e = .returned (.bool (may b t)) ∧ w = w' := by
  by_cases h : (t : Int) ≤ 4294967296
  · go_enter Try.func25, Try.ntmps25
    go_wp2
    go_ret
    refine ⟨ret_bool ?_, rfl⟩
    unfold may
    rw [decide_eq_decide]
    omega
  · go_enter Try.func25, Try.ntmps25
    go_wp2
    go_ret
    refine ⟨ret_bool ?_, rfl⟩
    exact (decide_eq_false (by omega)).symm

theorem mantissa_any (bx n x : Nat) (w : World) (h : w.cell? ⟨bx, 0, none⟩ = some (.int .i64 n)) (hn : n ≤ 21) : Calls Try.prog 27 #[.int .i64 x, .pointer (some ⟨bx, 0, none⟩)] w fun e w' => e = .returned (.int .u16 (x / 2 ^ n % 4096 : Nat)) ∧ w = w' := by
  have e : IntKind.u16.wrap (((x : Int) / 2 ^ min n 64).tmod 4096) = ((x / 2 ^ n % 4096 : Nat) : Int) := by
    rw [show min n 64 = n from by omega, cast_pow, IntKind.wrap_u16, Int.tmod_eq_emod_of_nonneg (Int.ediv_nonneg (Int.natCast_nonneg _) (Int.natCast_nonneg _)), Int.natCast_emod, Int.natCast_ediv]
    generalize (x : Int) / ((2 ^ n : Nat) : Int) = r
    omega
  replace e := Lib.hid e
  clear hn
  go_enter Try.func27, Try.ntmps27
  go_wp2
  go_ret
  exact ⟨ret_int e.out, rfl⟩

theorem andnot_nat (x e : Nat) (hx : x < 2 ^ 62) (he : e ≤ 21) : bits .andNot .i64 (x : Int) ((2 ^ e - 1 : Nat) : Int) = (dn (2 ^ e) x : Nat) := by
  have hk : (BitVec.ofInt 64 (x : Int) &&& ~~~BitVec.ofInt 64 ((2 ^ e - 1 : Nat) : Int)).toNat = dn (2 ^ e) x := by
    apply Nat.eq_of_testBit_eq
    intro j
    unfold dn
    rw [BitVec.testBit_toNat, BitVec.ofInt_natCast, BitVec.ofInt_natCast, Nat.testBit_mul_two_pow, Nat.testBit_div_two_pow]
    by_cases hj : j < 64
    · simp only [BitVec.getLsbD_and, BitVec.getLsbD_not, BitVec.getLsbD_ofNat, Nat.testBit_two_pow_sub_one, hj]
      by_cases h : j < e
      · simp [h]; omega
      · have e1 : j - e + e = j := by omega
        simp [h, Nat.not_lt.mp h, e1]
    · have : x.testBit j = false := Nat.testBit_lt_two_pow (Nat.lt_of_lt_of_le hx (Nat.pow_le_pow_right (by decide) (by omega)))
      by_cases h : e ≤ j
      · have e1 : j - e + e = j := by omega
        simp [hj, h, e1, this]
      · simp [hj, h]
  show IntKind.i64.wrap ((BitVec.ofInt 64 (x : Int) &&& ~~~BitVec.ofInt 64 ((2 ^ e - 1 : Nat) : Int)).toNat : Int) = _
  rw [hk, IntKind.wrap_i64]
  have := dn_le (2 ^ e) x
  have h2 : (2 : Nat) ^ 62 = 4611686018427387904 := by decide
  omega

theorem rest_num {e : Nat} (he : e ≤ 21) : wrap64 (wrap64 (2 ^ min e 64) - 1) = ((2 ^ e - 1 : Nat) : Int) := by
  rw [e64 he]
  have hU := pow_le21 he
  have hU1 := pow_pos2 e
  generalize 2 ^ e = U at *
  rw [IntWalk.wrap64_in (U : Int) (by omega), IntWalk.wrap64_in _ (by omega)]
  omega

theorem rounded_any (b t e : Nat) (w : World) (hb : b < 8589934592) (ht : t < 8589934592) (he : e ≤ 21) :
    Calls Try.prog 29 #[.agg #[.int .i64 b, .int .i64 t], .int .i64 e] w fun e' w' => e' = .returned (.agg #[.int .i64 (dn (2 ^ e) b : Nat), .int .i64 (up (2 ^ e) t : Nat)]) ∧ Below w.heap.size w w' := by
  have h62 : (2 : Nat) ^ 62 = 4611686018427387904 := by decide
  have hr := rest_num he
  have hU := pow_le21 he
  have hU1 := pow_pos2 e
  have hB : bits BinOp.andNot IntKind.i64 (b : Int) (wrap64 (wrap64 (2 ^ min e 64) - 1)) = (dn (2 ^ e) b : Nat) := by
    rw [hr]; exact andnot_nat b e (by omega) he
  have hs : wrap64 ((t : Int) + wrap64 (wrap64 (2 ^ min e 64) - 1)) = ((t + 2 ^ e - 1 : Nat) : Int) := by
    rw [hr]
    generalize 2 ^ e = U at *
    rw [IntWalk.wrap64_in _ (by omega)]
    omega
  have hT : bits BinOp.andNot IntKind.i64 (wrap64 ((t : Int) + wrap64 (wrap64 (2 ^ min e 64) - 1))) (wrap64 (wrap64 (2 ^ min e 64) - 1)) = (up (2 ^ e) t : Nat) := by
    rw [hs, hr]; exact andnot_nat (t + 2 ^ e - 1) e (by omega) he
  replace hB := Lib.hid hB
  replace hT := Lib.hid hT
  clear hs hr hU hU1 hb ht he h62
  go_enter Try.func29, Try.ntmps29
  go_wp2
  refine bodyPost_ret (v := .agg #[.int .i64 (dn (2 ^ e) b : Nat), .int .i64 (up (2 ^ e) t : Nat)]) ?_ rfl ⟨rfl, by go_grown⟩
  simp [results, Try.results29, go_sem, hB.out, hT.out]

/-- What holds at each round's head: what was given, and what was found last. -/
structure FitAt (w wr : World) (b t : Nat) : Prop where
  g0 : wr.cell? ⟨w.heap.size, 0, none⟩ = some (.int .i64 b)
  g1 : wr.cell? ⟨w.heap.size, 1, none⟩ = some (.int .i64 t)
  f0 : ∃ x, wr.cell? ⟨w.heap.size + 1, 0, none⟩ = some x
  f1 : ∃ x, wr.cell? ⟨w.heap.size + 1, 1, none⟩ = some x
  z0 : wr.frozen? ⟨w.heap.size + 1, 0, none⟩ = false
  z1 : wr.frozen? ⟨w.heap.size + 1, 1, none⟩ = false
  s : w.heap.size + 2 ≤ wr.heap.size
  bl : Below w.heap.size w wr

theorem fit_any (b t : Nat) (w : World) (hb : b ≤ t) (ht : t ≤ 4294967296) :
    Calls Try.prog 26 #[.agg #[.int .i64 b, .int .i64 t]] w fun e' w' => e' = .returned (.tuple #[.int .i64 (expo b t), .agg #[.int .i64 (dn (2 ^ expo b t) b : Nat), .int .i64 (up (2 ^ expo b t) t : Nat)]]) ∧ Below w.heap.size w w' := by
  have hR := Lib.hid (fun e (he : e ≤ 21) w => rounded_any b t e w (by omega) (by omega) he)
  have hL := Lib.hid (fun e => expo_is (b := b) (e := e) ht)
  have h21 := Lib.hid (ok_last (b := b) ht)
  go_enter Try.func26, Try.ntmps26
  go_wp2_with fail
  go_loopw [2, 4] (fun e i wr => ∃ k m : Nat, k ≤ 21 ∧ i = .int .i64 k ∧ e = .int .i64 m ∧ (∀ j, j < k → ¬ okE b t j) ∧ FitAt w wr b t) (fun _ i _ => 22 - (intOf i).toNat)
  case atStart =>
    exact ⟨0, 0, by omega, rfl, rfl, fun j h => absurd h (by omega), by simp [go_sem], by simp [go_sem], ⟨_, by simp [go_sem]; rfl⟩, ⟨_, by simp [go_sem]; rfl⟩, by simp [go_sem], by simp [go_sem], by simp, by go_grown⟩
  case round =>
    obtain ⟨k, m, hk, rfl, rfl, hno, H⟩ := hrel
    have q0 := H.g0
    have q1 := H.g1
    have hok : decide (wrap64 ((up (2 ^ k) t : Nat) - (dn (2 ^ k) b : Nat) : Int) ≤ wrap64 (2048 * 2 ^ k)) = decide (okE b t k) := by
      have hU := pow_le21 hk
      have hU1 := pow_pos2 k
      have a1 := dn_le (2 ^ k) b
      have a2 := up_ge t hU1
      have a3 := up_lt t hU1
      rw [cast_pow, IntWalk.wrap64_in _ (by omega), IntWalk.wrap64_in _ (by omega), decide_eq_decide]
      unfold okE
      omega
    replace hok := Lib.hid hok
    clear hb ht
    go_wp2_with fail
    refine (hR.out k hk wr).mono ?_
    rintro e' w1 ⟨rfl, h1⟩
    have hs := H.s
    have p0 : w1.cell? ⟨w.heap.size, 0, none⟩ = some (.int .i64 b) := (h1.cell (by show w.heap.size < _; omega)).trans H.g0
    have p1 : w1.cell? ⟨w.heap.size, 1, none⟩ = some (.int .i64 t) := (h1.cell (by show w.heap.size < _; omega)).trans H.g1
    obtain ⟨x0, f0⟩ := H.f0
    obtain ⟨x1, f1⟩ := H.f1
    replace f0 : w1.cell? ⟨w.heap.size + 1, 0, none⟩ = some x0 := (h1.cell (by show w.heap.size + 1 < _; omega)).trans f0
    replace f1 : w1.cell? ⟨w.heap.size + 1, 1, none⟩ = some x1 := (h1.cell (by show w.heap.size + 1 < _; omega)).trans f1
    have z0 : w1.frozen? ⟨w.heap.size + 1, 0, none⟩ = false := (h1.frozen (by show w.heap.size + 1 < _; omega)).trans H.z0
    have z1 : w1.frozen? ⟨w.heap.size + 1, 1, none⟩ = false := (h1.frozen (by show w.heap.size + 1 < _; omega)).trans H.z1
    have hb := Lib.hid (H.bl.trans (h1.mono (by omega)))
    have hs1 := Lib.hid (show w.heap.size + 2 ≤ w1.heap.size from Nat.le_trans hs h1.size)
    have hn := Lib.hid hno
    have hR' := hR
    clear H q0 q1 hs h1 hno hR
    generalize hD : dn (2 ^ k) b = D at hok
    generalize hT : up (2 ^ k) t = T at hok
    replace hD := Lib.hid hD
    replace hT := Lib.hid hT
    go_wp2_with fail
    go_quiet (fail)
    rw [hok.out]
    have c0 : ∀ W : World, (∀ p, W.cell? p = ((w1.setCell ⟨w.heap.size + 1, 0, none⟩ (.int .i64 D)).setCell ⟨w.heap.size + 1, 1, none⟩ (.int .i64 T)).cell? p) → W.cell? ⟨w.heap.size + 1, 0, none⟩ = some (.int .i64 D) ∧ W.cell? ⟨w.heap.size + 1, 1, none⟩ = some (.int .i64 T) ∧ W.cell? ⟨w.heap.size, 0, none⟩ = some (.int .i64 b) ∧ W.cell? ⟨w.heap.size, 1, none⟩ = some (.int .i64 t) := by
      intro W hW
      rw [hW, hW, hW, hW]
      refine ⟨?_, ?_, ?_, ?_⟩
      · rw [World.cell?_setCell_other _ _ _ _ (by simp)]; exact World.cell?_setCell_same' _ _ _ (by rw [f0]; rfl)
      · exact World.cell?_setCell_same' _ _ _ (by rw [World.cell?_setCell_other _ _ _ _ (by simp), f1]; rfl)
      · rw [World.cell?_setCell_other _ _ _ _ (by simp), World.cell?_setCell_other _ _ _ _ (by simp)]; exact p0
      · rw [World.cell?_setCell_other _ _ _ _ (by simp), World.cell?_setCell_other _ _ _ _ (by simp)]; exact p1
    obtain ⟨W3, hW3⟩ : ∃ W3, W3 = ((w1.setCell ⟨w.heap.size + 1, 0, none⟩ (.int .i64 D)).setCell ⟨w.heap.size + 1, 1, none⟩ (.int .i64 T)).drewN nq := ⟨_, rfl⟩
    rw [← hW3]
    have c1 := c0 W3 (by rw [hW3]; exact fun _ => rfl)
    have y0 : W3.frozen? ⟨w.heap.size + 1, 0, none⟩ = false := by rw [hW3]; show World.frozen? ((w1.setCell _ _).setCell _ _) _ = _; rw [World.frozen?_setCell, World.frozen?_setCell]; exact z0
    have y1 : W3.frozen? ⟨w.heap.size + 1, 1, none⟩ = false := by rw [hW3]; show World.frozen? ((w1.setCell _ _).setCell _ _) _ = _; rw [World.frozen?_setCell, World.frozen?_setCell]; exact z1
    have hb3 : Below w.heap.size w W3 := by rw [hW3]; exact below_drewN ((hb.out.setCell (by simp) _).setCell (by simp) _) _
    have hs3 : w.heap.size + 2 ≤ W3.heap.size := by rw [hW3]; show _ ≤ ((w1.setCell _ _).setCell _ _).heap.size; simpa [World.setCell] using hs1.out
    replace hb3 := Lib.hid hb3
    replace hs3 := Lib.hid hs3
    clear c0 hW3 p0 p1 f0 f1 z0 z1 hb hs1
    obtain ⟨c1, c2, c3, c4⟩ := c1
    by_cases ok : okE b t k
    · rw [decide_eq_true ok]
      have he := Lib.hid (hL.out k ok hn.out)
      clear hok ok
      go_wp2_with fail
      go_region
      go_wp2
      have k2 : ∀ W : World, (∀ p, W.cell? p = ((W3.setCell ⟨w.heap.size + 1, 0, none⟩ (.int .i64 D)).setCell ⟨w.heap.size + 1, 1, none⟩ (.int .i64 T)).cell? p) → W.cell? ⟨w.heap.size + 1, 0, none⟩ = some (.int .i64 D) ∧ W.cell? ⟨w.heap.size + 1, 1, none⟩ = some (.int .i64 T) := by
        intro W hW
        rw [hW, hW]
        refine ⟨?_, ?_⟩
        · rw [World.cell?_setCell_other _ _ _ _ (by simp)]; exact World.cell?_setCell_same' _ _ _ (by rw [c1]; rfl)
        · exact World.cell?_setCell_same' _ _ _ (by rw [World.cell?_setCell_other _ _ _ _ (by simp), c2]; rfl)
      obtain ⟨W4, hW4⟩ : ∃ W4, W4 = ((W3.setCell ⟨w.heap.size + 1, 0, none⟩ (.int .i64 D)).setCell ⟨w.heap.size + 1, 1, none⟩ (.int .i64 T)).drew := ⟨_, rfl⟩
      rw [← hW4]
      have kk := k2 W4 (by rw [hW4]; exact fun _ => rfl)
      have hb4 : Below w.heap.size w W4 := by rw [hW4]; exact ((hb3.out.setCell (by simp) _).setCell (by simp) _).drew
      rw [he.out, hD.out, hT.out]
      exact bodyPost_ret (v := .tuple #[.int .i64 k, .agg #[.int .i64 D, .int .i64 T]]) (by simp [results, Try.results26, go_sem, kk.1, kk.2]) rfl ⟨rfl, hb4⟩
    · rw [decide_eq_false ok]
      have hk' : k < 21 := by
        rcases Nat.lt_or_ge k 21 with h | h
        · exact h
        · have : k = 21 := by omega
          subst this
          exact absurd h21.out ok
      replace ok := Lib.hid ok
      go_wp2_with fail
      go_roundw
      case rel =>
        refine ⟨k + 1, k, by omega, by go_num, rfl, fun j hj => ?_, c3, c4, ⟨_, c1⟩, ⟨_, c2⟩, y0, y1, hs3.out, hb3.out⟩
        rcases Nat.lt_or_ge j k with h | h
        · exact hn.out j h
        · have : j = k := by omega
          subst this
          exact ok.out
      case measure => simp [intOf]; omega
end Go.Proofs.Ytchonkkflklckaa
