/- Contracts of layer bounds: rounding, and the exponent. No statement is proved here.; Contracts of layer bounds: Decode, Keeps, Encode, Round, Pad. No statement is proved here.; Contracts of the document's answers for layer bounds: May, turn, Tell. No statement is proved here.; Contracts of the document's answers for layer bounds: Decode, Keeps, Encode, Round, Pad. No statement is proved here.; Contracts of layer sizes. No statement is proved here. -/
import Derived.Test.YticfpnhfhhagpaaDoormq
import Derived.Deep.LoopGhost
import Derived.Deep.DeepCutAuto
import Derived.Test.YticfpnhfhhagpaaDoormh
import Derived.WalkMore
namespace Go.Proofs.YticfpnhfhhagpaaDoor
open Go.RowKit
set_option linter.unusedVariables false

theorem mayBe_any (b t : Nat) (w : World) (hb : b < 4294967296) : Calls Tryd.prog 29 #[.int .u32 b, .int .u64 t] w fun e w' => e = .returned (.bool (may b t)) ∧ w = w' := by
  by_cases h : (t : Int) ≤ 4294967296
  · go_enter Tryd.func29, Tryd.ntmps29
    go_wp2
    go_ret
    refine ⟨ret_bool ?_, rfl⟩
    unfold may
    rw [decide_eq_decide]
    omega
  · go_enter Tryd.func29, Tryd.ntmps29
    go_wp2
    go_ret
    refine ⟨ret_bool ?_, rfl⟩
    exact (decide_eq_false (by omega)).symm

theorem mantissa_any (bx n x : Nat) (w : World) (h : w.cell? ⟨bx, 0, none⟩ = some (.int .i64 n)) (hn : n ≤ 21) : Calls Tryd.prog 31 #[.int .i64 x, .pointer (some ⟨bx, 0, none⟩)] w fun e w' => e = .returned (.int .u16 (x / 2 ^ n % 4096 : Nat)) ∧ w = w' := by
  have e : IntKind.u16.wrap (((x : Int) / 2 ^ min n 64).tmod 4096) = ((x / 2 ^ n % 4096 : Nat) : Int) := by
    rw [show min n 64 = n from by omega, cast_pow, IntKind.wrap_u16, Int.tmod_eq_emod_of_nonneg (Int.ediv_nonneg (Int.natCast_nonneg _) (Int.natCast_nonneg _)), Int.natCast_emod, Int.natCast_ediv]
    generalize (x : Int) / ((2 ^ n : Nat) : Int) = r
    omega
  replace e := Lib.hid e
  clear hn
  go_enter Tryd.func31, Tryd.ntmps31
  go_wp2
  go_ret
  exact ⟨ret_int e.out, rfl⟩

theorem andnot_nat (x e : Nat) (hx : x < 2 ^ 62) (he : e ≤ 21) : bits .andNot .i64 (x : Int) ((2 ^ e - 1 : Nat) : Int) = (dn (2 ^ e) x : Nat) := by
  have hk : (BitVec.ofInt 64 (x : Int) &&& ~~~BitVec.ofInt 64 ((2 ^ e - 1 : Nat) : Int)).toNat = dn (2 ^ e) x := by
    apply Nat.eq_of_testBit_eq
    intro j
    unfold dn
    rw [BitVec.testBit_toNat, BitVec.ofInt_natCast, BitVec.ofInt_natCast, Nat.testBit_mul_two_pow, Nat.testBit_div_two_pow]
    by_cases hj : j < 64
    · simp only [BitVec.getLsbD_and, BitVec.getLsbD_not, BitVec.getLsbD_ofNat, Nat.testBit_two_pow_sub_one, hj]
      by_cases h : j < e
      · simp [h]; omega
      · have e1 : j - e + e = j := by omega
        simp [h, Nat.not_lt.mp h, e1]
    · have : x.testBit j = false := Nat.testBit_lt_two_pow (Nat.lt_of_lt_of_le hx (Nat.pow_le_pow_right (by decide) (by omega)))
      by_cases h : e ≤ j
      · have e1 : j - e + e = j := by omega
        simp [hj, h, e1, this]
      · simp [hj, h]
  show IntKind.i64.wrap ((BitVec.ofInt 64 (x : Int) &&& ~~~BitVec.ofInt 64 ((2 ^ e - 1 : Nat) : Int)).toNat : Int) = _
  rw [hk, IntKind.wrap_i64]
  have := dn_le (2 ^ e) x
  have h2 : (2 : Nat) ^ 62 = 4611686018427387904 := by decide
  omega

theorem rest_num {e : Nat} (he : e ≤ 21) : wrap64 (wrap64 (2 ^ min e 64) - 1) = ((2 ^ e - 1 : Nat) : Int) := by
  rw [e64 he]
  have hU := pow_le21 he
  have hU1 := pow_pos2 e
  generalize 2 ^ e = U at *
  rw [IntWalk.wrap64_in (U : Int) (by omega), IntWalk.wrap64_in _ (by omega)]
  omega

theorem rounded_any (b t e : Nat) (w : World) (hb : b < 8589934592) (ht : t < 8589934592) (he : e ≤ 21) :
    Calls Tryd.prog 48 #[.agg #[.int .i64 b, .int .i64 t], .int .i64 e] w fun e' w' => e' = .returned (.agg #[.int .i64 (dn (2 ^ e) b : Nat), .int .i64 (up (2 ^ e) t : Nat)]) ∧ Below w.heap.size w w' := by
  have h62 : (2 : Nat) ^ 62 = 4611686018427387904 := by decide
  have hr := rest_num he
  have hU := pow_le21 he
  have hU1 := pow_pos2 e
  have hB : bits BinOp.andNot IntKind.i64 (b : Int) (wrap64 (wrap64 (2 ^ min e 64) - 1)) = (dn (2 ^ e) b : Nat) := by
    rw [hr]; exact andnot_nat b e (by omega) he
  have hs : wrap64 ((t : Int) + wrap64 (wrap64 (2 ^ min e 64) - 1)) = ((t + 2 ^ e - 1 : Nat) : Int) := by
    rw [hr]
    generalize 2 ^ e = U at *
    rw [IntWalk.wrap64_in _ (by omega)]
    omega
  have hT : bits BinOp.andNot IntKind.i64 (wrap64 ((t : Int) + wrap64 (wrap64 (2 ^ min e 64) - 1))) (wrap64 (wrap64 (2 ^ min e 64) - 1)) = (up (2 ^ e) t : Nat) := by
    rw [hs, hr]; exact andnot_nat (t + 2 ^ e - 1) e (by omega) he
  replace hB := Lib.hid hB
  replace hT := Lib.hid hT
  clear hs hr hU hU1 hb ht he h62
  go_enter Tryd.func48, Tryd.ntmps48
  go_wp2
  refine bodyPost_ret (v := .agg #[.int .i64 (dn (2 ^ e) b : Nat), .int .i64 (up (2 ^ e) t : Nat)]) ?_ rfl ⟨rfl, by go_grown⟩
  simp [results, Tryd.results48, go_sem, hB.out, hT.out]

/-- What holds at each round's head: what was given, and what was found last. -/
structure FitAt (w wr : World) (b t : Nat) : Prop where
  g0 : wr.cell? ⟨w.heap.size, 0, none⟩ = some (.int .i64 b)
  g1 : wr.cell? ⟨w.heap.size, 1, none⟩ = some (.int .i64 t)
  f0 : ∃ x, wr.cell? ⟨w.heap.size + 1, 0, none⟩ = some x
  f1 : ∃ x, wr.cell? ⟨w.heap.size + 1, 1, none⟩ = some x
  z0 : wr.frozen? ⟨w.heap.size + 1, 0, none⟩ = false
  z1 : wr.frozen? ⟨w.heap.size + 1, 1, none⟩ = false
  s : w.heap.size + 2 ≤ wr.heap.size
  bl : Below w.heap.size w wr

theorem fit_any (b t : Nat) (w : World) (hb : b ≤ t) (ht : t ≤ 4294967296) :
    Calls Tryd.prog 30 #[.agg #[.int .i64 b, .int .i64 t]] w fun e' w' => e' = .returned (.tuple #[.int .i64 (expo b t), .agg #[.int .i64 (dn (2 ^ expo b t) b : Nat), .int .i64 (up (2 ^ expo b t) t : Nat)]]) ∧ Below w.heap.size w w' := by
  have hR := Lib.hid (fun e (he : e ≤ 21) w => rounded_any b t e w (by omega) (by omega) he)
  have hL := Lib.hid (fun e => expo_is (b := b) (e := e) ht)
  have h21 := Lib.hid (ok_last (b := b) ht)
  go_enter Tryd.func30, Tryd.ntmps30
  go_wp2_with fail
  go_loopw [2, 4] (fun e i wr => ∃ k m : Nat, k ≤ 21 ∧ i = .int .i64 k ∧ e = .int .i64 m ∧ (∀ j, j < k → ¬ okE b t j) ∧ FitAt w wr b t) (fun _ i _ => 22 - (intOf i).toNat)
  case atStart =>
    exact ⟨0, 0, by omega, rfl, rfl, fun j h => absurd h (by omega), by simp [go_sem], by simp [go_sem], ⟨_, by simp [go_sem]; rfl⟩, ⟨_, by simp [go_sem]; rfl⟩, by simp [go_sem], by simp [go_sem], by simp, by go_grown⟩
  case round =>
    obtain ⟨k, m, hk, rfl, rfl, hno, H⟩ := hrel
    have q0 := H.g0
    have q1 := H.g1
    have hok : decide (wrap64 ((up (2 ^ k) t : Nat) - (dn (2 ^ k) b : Nat) : Int) ≤ wrap64 (2048 * 2 ^ k)) = decide (okE b t k) := by
      have hU := pow_le21 hk
      have hU1 := pow_pos2 k
      have a1 := dn_le (2 ^ k) b
      have a2 := up_ge t hU1
      have a3 := up_lt t hU1
      rw [cast_pow, IntWalk.wrap64_in _ (by omega), IntWalk.wrap64_in _ (by omega), decide_eq_decide]
      unfold okE
      omega
    replace hok := Lib.hid hok
    clear hb ht
    go_wp2_with fail
    refine (hR.out k hk wr).mono ?_
    rintro e' w1 ⟨rfl, h1⟩
    have hs := H.s
    have p0 : w1.cell? ⟨w.heap.size, 0, none⟩ = some (.int .i64 b) := (h1.cell (by show w.heap.size < _; omega)).trans H.g0
    have p1 : w1.cell? ⟨w.heap.size, 1, none⟩ = some (.int .i64 t) := (h1.cell (by show w.heap.size < _; omega)).trans H.g1
    obtain ⟨x0, f0⟩ := H.f0
    obtain ⟨x1, f1⟩ := H.f1
    replace f0 : w1.cell? ⟨w.heap.size + 1, 0, none⟩ = some x0 := (h1.cell (by show w.heap.size + 1 < _; omega)).trans f0
    replace f1 : w1.cell? ⟨w.heap.size + 1, 1, none⟩ = some x1 := (h1.cell (by show w.heap.size + 1 < _; omega)).trans f1
    have z0 : w1.frozen? ⟨w.heap.size + 1, 0, none⟩ = false := (h1.frozen (by show w.heap.size + 1 < _; omega)).trans H.z0
    have z1 : w1.frozen? ⟨w.heap.size + 1, 1, none⟩ = false := (h1.frozen (by show w.heap.size + 1 < _; omega)).trans H.z1
    have hb := Lib.hid (H.bl.trans (h1.mono (by omega)))
    have hs1 := Lib.hid (show w.heap.size + 2 ≤ w1.heap.size from Nat.le_trans hs h1.size)
    have hn := Lib.hid hno
    have hR' := hR
    clear H q0 q1 hs h1 hno hR
    generalize hD : dn (2 ^ k) b = D at hok
    generalize hT : up (2 ^ k) t = T at hok
    replace hD := Lib.hid hD
    replace hT := Lib.hid hT
    go_wp2_with fail
    go_quiet (fail)
    rw [hok.out]
    have c0 : ∀ W : World, (∀ p, W.cell? p = ((w1.setCell ⟨w.heap.size + 1, 0, none⟩ (.int .i64 D)).setCell ⟨w.heap.size + 1, 1, none⟩ (.int .i64 T)).cell? p) → W.cell? ⟨w.heap.size + 1, 0, none⟩ = some (.int .i64 D) ∧ W.cell? ⟨w.heap.size + 1, 1, none⟩ = some (.int .i64 T) ∧ W.cell? ⟨w.heap.size, 0, none⟩ = some (.int .i64 b) ∧ W.cell? ⟨w.heap.size, 1, none⟩ = some (.int .i64 t) := by
      intro W hW
      rw [hW, hW, hW, hW]
      refine ⟨?_, ?_, ?_, ?_⟩
      · rw [World.cell?_setCell_other _ _ _ _ (by simp)]; exact World.cell?_setCell_same' _ _ _ (by rw [f0]; rfl)
      · exact World.cell?_setCell_same' _ _ _ (by rw [World.cell?_setCell_other _ _ _ _ (by simp), f1]; rfl)
      · rw [World.cell?_setCell_other _ _ _ _ (by simp), World.cell?_setCell_other _ _ _ _ (by simp)]; exact p0
      · rw [World.cell?_setCell_other _ _ _ _ (by simp), World.cell?_setCell_other _ _ _ _ (by simp)]; exact p1
    obtain ⟨W3, hW3⟩ : ∃ W3, W3 = ((w1.setCell ⟨w.heap.size + 1, 0, none⟩ (.int .i64 D)).setCell ⟨w.heap.size + 1, 1, none⟩ (.int .i64 T)).drewN nq := ⟨_, rfl⟩
    rw [← hW3]
    have c1 := c0 W3 (by rw [hW3]; exact fun _ => rfl)
    have y0 : W3.frozen? ⟨w.heap.size + 1, 0, none⟩ = false := by rw [hW3]; show World.frozen? ((w1.setCell _ _).setCell _ _) _ = _; rw [World.frozen?_setCell, World.frozen?_setCell]; exact z0
    have y1 : W3.frozen? ⟨w.heap.size + 1, 1, none⟩ = false := by rw [hW3]; show World.frozen? ((w1.setCell _ _).setCell _ _) _ = _; rw [World.frozen?_setCell, World.frozen?_setCell]; exact z1
    have hb3 : Below w.heap.size w W3 := by rw [hW3]; exact below_drewN ((hb.out.setCell (by simp) _).setCell (by simp) _) _
    have hs3 : w.heap.size + 2 ≤ W3.heap.size := by rw [hW3]; show _ ≤ ((w1.setCell _ _).setCell _ _).heap.size; simpa [World.setCell] using hs1.out
    replace hb3 := Lib.hid hb3
    replace hs3 := Lib.hid hs3
    clear c0 hW3 p0 p1 f0 f1 z0 z1 hb hs1
    obtain ⟨c1, c2, c3, c4⟩ := c1
    by_cases ok : okE b t k
    · rw [decide_eq_true ok]
      have he := Lib.hid (hL.out k ok hn.out)
      clear hok ok
      go_wp2_with fail
      go_region
      go_wp2
      have k2 : ∀ W : World, (∀ p, W.cell? p = ((W3.setCell ⟨w.heap.size + 1, 0, none⟩ (.int .i64 D)).setCell ⟨w.heap.size + 1, 1, none⟩ (.int .i64 T)).cell? p) → W.cell? ⟨w.heap.size + 1, 0, none⟩ = some (.int .i64 D) ∧ W.cell? ⟨w.heap.size + 1, 1, none⟩ = some (.int .i64 T) := by
        intro W hW
        rw [hW, hW]
        refine ⟨?_, ?_⟩
        · rw [World.cell?_setCell_other _ _ _ _ (by simp)]; exact World.cell?_setCell_same' _ _ _ (by rw [c1]; rfl)
        · exact World.cell?_setCell_same' _ _ _ (by rw [World.cell?_setCell_other _ _ _ _ (by simp), c2]; rfl)
      obtain ⟨W4, hW4⟩ : ∃ W4, W4 = ((W3.setCell ⟨w.heap.size + 1, 0, none⟩ (.int .i64 D)).setCell ⟨w.heap.size + 1, 1, none⟩ (.int .i64 T)).drew := ⟨_, rfl⟩
      rw [← hW4]
      have kk := k2 W4 (by rw [hW4]; exact fun _ => rfl)
      have hb4 : Below w.heap.size w W4 := by rw [hW4]; exact ((hb3.out.setCell (by simp) _).setCell (by simp) _).drew
      rw [he.out, hD.out, hT.out]
      exact bodyPost_ret (v := .tuple #[.int .i64 k, .agg #[.int .i64 D, .int .i64 T]]) (by simp [results, Tryd.results30, go_sem, kk.1, kk.2]) rfl ⟨rfl, hb4⟩
    · rw [decide_eq_false ok]
      have hk' : k < 21 := by
        rcases Nat.lt_or_ge k 21 with h | h
        · exact h
        · have : k = 21 := by omega
          subst this
          exact absurd h21.out ok
      replace ok := Lib.hid ok
      go_wp2_with fail
      go_roundw
      case rel =>
        refine ⟨k + 1, k, by omega, by go_num, rfl, fun j hj => ?_, c3, c4, ⟨_, c1⟩, ⟨_, c2⟩, y0, y1, hs3.out, hb3.out⟩
        rcases Nat.lt_or_ge j k with h | h
        · exact hn.out j h
        · have : j = k := by omega
          subst this
          exact ok.out
      case measure => simp [intOf]; omega
end Go.Proofs.YticfpnhfhhagpaaDoor
namespace Go.Proofs.YticfpnhfhhagpaaDoor
open Go.RowKit
set_option linter.unusedVariables false

theorem arr_eq' (d : Nat) (p1 p2 q1 q2 : Int) (w : World) : (Op.equalIn (d + 1 + 1) 64 (.agg #[.int .i64 p1, .int .i64 p2]) (.agg #[.int .i64 q1, .int .i64 q2])).run Tryd.prog w = .ok (decide (p1 = q1 ∧ p2 = q2)) w := by
  have hu : Tryd.prog.underlying 64 = some (.array 2 2) := by kernel_rfl
  have hs : ∀ w, (sizeOf 2).run Tryd.prog w = .ok 1 w := fun w => by kernel_rfl
  have ha : ∀ (x y : Int) w, (part 2 #[.int .i64 x, .int .i64 y] 0).run Tryd.prog w = .ok (.int .i64 x) w := fun x y w => by kernel_rfl
  have hb : ∀ (x y : Int) w, (part 2 #[.int .i64 x, .int .i64 y] 1).run Tryd.prog w = .ok (.int .i64 y) w := fun x y w => by kernel_rfl
  have hi : ∀ (x y : Int) w, (Op.equalIn (d + 1) 2 (.int .i64 x) (.int .i64 y)).run Tryd.prog w = .ok (x == y) w := fun x y w => run_equalIn_int w d 2 .i64 .i64 x y (by kernel_rfl)
  unfold Op.equalIn
  simp only [Sem.run_bind, run_underlying hu, Result.andThen_ok, hs]
  have hr : List.range' 0 2 1 = [0, 1] := by decide
  simp [Std.Legacy.Range.forIn_eq_forIn_range', Std.Legacy.Range.size, hr, Sem.run_bind, ha, hb, hi, Result.andThen_ok, Sem.run_ite]
  by_cases h1 : p1 = q1 <;> by_cases h2 : p2 = q2 <;> simp [h1, h2]
/-- Two arrays are compared. -/
theorem arr_eq (p1 p2 q1 q2 : Int) (w : World) : (Op.equalIn 10000 64 (.agg #[.int .i64 p1, .int .i64 p2]) (.agg #[.int .i64 q1, .int .i64 q2])).run Tryd.prog w = .ok (decide (p1 = q1 ∧ p2 = q2)) w := arr_eq' 9998 p1 p2 q1 q2 w

theorem kp_eq (e b t c n : Nat) : (isB e b t c && (isB e b t n && decide (teB e b t c = teB e b t n ∧ teT e b t c = teT e b t n))) = kp e b t c n := by
  unfold kp
  cases h : isB e b t c
  · simp only [Bool.false_and]
  · cases h2 : isB e b t n
    · symm
      simp only [Bool.true_and, Bool.false_and]
      refine decide_eq_false fun k => ?_
      unfold isB at h h2
      rw [← k.1, ← k.2] at h2
      rw [h2] at h
      exact Bool.noConfusion h
    · simp [teB, teT, h, h2]



theorem Pad_any (s : Nat) (w : World) (hs : s < 4294967296) :
    Calls Tryd.prog 36 #[.int .u32 s] w fun e' w' => e' = .returned (.tuple #[.int .u32 (pdP s), .int .u32 (pdA s)]) ∧ Below w.heap.size w w' := by
  have hF := Lib.hid (fun w => fit_any 0 s w (Nat.zero_le _) (by omega))
  have hm : may 0 s = true := decide_eq_true ⟨by omega, by omega⟩
  have b2 : up (2 ^ expo 0 s) s ≤ 4294967296 := up_le_of_dvd (pow_pos2 _) (dvd_whole (Nat.le_trans (expo_le 0 (by omega)) (by decide))) (by omega)
  have hB := Lib.hid (show pdP s = if up (2 ^ expo 0 s) s = 4294967296 then 0 else up (2 ^ expo 0 s) s from by simp [pdP, rdT, hm])
  have hD := Lib.hid (show pdA s = if up (2 ^ expo 0 s) s = 4294967296 then 0 else 2 ^ expo 0 s from by simp [pdA, rdT, enE, hm])
  have hk := expo_le 0 (t := s) (by omega)
  generalize up (2 ^ expo 0 s) s = T at *
  generalize pdP s = vB at *
  generalize pdA s = vT at *
  generalize expo 0 s = k at *
  generalize dn (2 ^ k) 0 = D at *
  clear hm
  by_cases h : T = 4294967296
  · rw [show vB = 0 from by rw [hB.out, if_pos h], show vT = 0 from by rw [hD.out, if_pos h]]
    have hq : ((T : Int) == 4294967296) = true := by simp; omega
    clear hB hD
    replace h := Lib.hid h
    go_enter Tryd.func36, Tryd.ntmps36
    go_wp2_with fail
    refine (hF.out _).mono ?_
    rintro e' w1 ⟨rfl, h1⟩
    replace h1 := Lib.hid h1
    go_wp2_with fail
    go_ret2
    exact ⟨rfl, h1.out.alloc h1.out.size _⟩
  · rw [show vB = T from by rw [hB.out, if_neg h], show vT = 2 ^ k from by rw [hD.out, if_neg h]]
    have hq : ((T : Int) == 4294967296) = false := by simp; omega
    have b4 : T < 4294967296 := by omega
    have hu := Lib.hid (show (2 : Int) ^ k % 4294967296 = ((2 ^ k : Nat) : Int) from by have := pow_le21 hk; rw [cast_pow]; generalize 2 ^ k = U at *; omega)
    clear hB hD
    replace h := Lib.hid h
    go_enter Tryd.func36, Tryd.ntmps36
    go_wp2_with fail
    refine (hF.out _).mono ?_
    rintro e' w1 ⟨rfl, h1⟩
    replace h1 := Lib.hid h1
    go_wp2_with fail
    go_quiet (fail)
    go_wp2
    go_ret2
    refine ⟨?_, below_drewN (h1.out.alloc h1.out.size _) _⟩
    show Ending.returned (.tuple #[.int .u32 T, .int .u32 (2 ^ k % 4294967296)]) = _
    rw [hu.out]

theorem Encode_any (b t : Nat) (w : World) (hb : b < 4294967296) (ht : t < 18446744073709551616) :
    Calls Tryd.prog 13 #[.int .u32 b, .int .u64 t] w fun e' w' => e' = .returned (.tuple #[.int .u8 (enE b t), .int .u16 (enB b t), .int .u16 (enT b t), .bool (enX b t), .bool (may b t)]) ∧ Below w.heap.size w w' := by
  have hM := Lib.hid (fun w => mayBe_any b t w hb)
  cases hm : may b t
  · rw [show enE b t = 0 from by simp [enE, hm], show enB b t = 0 from by simp [enB, rdB, hm], show enT b t = 0 from by simp [enT, rdT, hm], show enX b t = false from by simp [enX, hm]]
    rw [hm] at hM
    replace hm := Lib.hid hm
    go_enter Tryd.func13, Tryd.ntmps13
    go_wp2_with fail
    refine (hM.out _).mono ?_
    rintro e' w1 ⟨rfl, rfl⟩
    go_wp2_with fail
    exact bodyPost_ret (v := .tuple #[.int .u8 0, .int .u16 0, .int .u16 0, .bool false, .bool false]) (by simp [results, Tryd.results13, go_sem]) rfl ⟨rfl, Below.refl _ _⟩
  · rw [show enX b t = decide (rdB b t = b ∧ rdT b t = t) from by simp [enX, hm]]
    unfold enB enT
    rw [show enE b t = expo b t from by simp [enE, hm], show rdB b t = dn (2 ^ expo b t) b from by simp [rdB, hm], show rdT b t = up (2 ^ expo b t) t from by simp [rdT, hm]]
    rw [hm] at hM
    have h := of_decide_eq_true hm
    have hF := Lib.hid (fun w => fit_any b t w h.1 h.2)
    have b1 : dn (2 ^ expo b t) b < 4294967296 := Nat.lt_of_le_of_lt (dn_le _ _) hb
    have b2 : up (2 ^ expo b t) t ≤ 4294967296 := up_le_of_dvd (pow_pos2 _) (dvd_whole (Nat.le_trans (expo_le b h.2) (by decide))) h.2
    have h2 : t ≤ 4294967296 := h.2
    have hk := expo_le b h.2
    generalize dn (2 ^ expo b t) b = D at *
    generalize up (2 ^ expo b t) t = T at *
    generalize expo b t = k at *
    clear hm h
    have hq := fun w => arr_eq D T b t w
    have hz : decide ((D : Int) = b ∧ (T : Int) = t) = decide (D = b ∧ T = t) := by rw [decide_eq_decide]; omega
    rw [hz] at hq
    clear hz
    generalize decide (D = b ∧ T = t) = z at *
    go_enter Tryd.func13, Tryd.ntmps13
    go_wp2_with fail
    refine (hM.out _).mono ?_
    rintro e' w1 ⟨rfl, rfl⟩
    go_wp2_with fail
    refine (hF.out _).mono ?_
    rintro e' w1 ⟨rfl, h1⟩
    have hb1 : Below w.heap.size w w1 := ((Below.refl _ _).alloc (Nat.le_refl _) _).trans (h1.mono (by simp))
    have s1 : w.heap.size < w1.heap.size := by have := h1.size; simp at this; omega
    have k0 : w1.cell? ⟨w.heap.size, 0, none⟩ = some (.int .i64 b) := (h1.cell (by simp)).trans (by simp [go_sem])
    have k1 : w1.cell? ⟨w.heap.size, 1, none⟩ = some (.int .i64 t) := (h1.cell (by simp)).trans (by simp [go_sem])
    clear h1
    have hE := Lib.hid (fun (x n : Nat) => mantissa_any w1.heap.size k x (((w1.alloc (.cells #[.int .i64 k] 3)).alloc (.cells #[.int .i64 D, .int .i64 T] 64)).drewN n) (by simp [go_sem]) hk)
    replace hb1 := Lib.hid hb1
    go_wp2_with fail
    go_quiet ((go_at_call 31; exact Calls.quiet_of_same ((hE.out _ _).mono fun _ _ h => ⟨h.1, h.2.symm⟩)))
    go_wp2
    exact bodyPost_ret (v := .tuple #[.int .u8 k, .int .u16 (D / 2 ^ k % 4096 : Nat), .int .u16 (T / 2 ^ k % 4096 : Nat), .bool z, .bool true]) (by simp [results, Tryd.results13, go_sem]) rfl ⟨rfl, below_drewN ((hb1.out.alloc hb1.out.size _).alloc (by have := hb1.out.size; simp; omega) _) _⟩
end Go.Proofs.YticfpnhfhhagpaaDoor
namespace Go.Proofs.YticfpnhfhhagpaaDoor
open Go.RowKit
set_option linter.unusedVariables false

def mayP (e b t : Nat) : Bool := decide (e ≤ 21 ∧ b < 4096 ∧ t < 4096)
theorem rplace_num {U x c : Nat} (b : Int) (hU1 : 1 ≤ U) (hU : U ≤ 2097152) (hx : x < 65536) (hc : c < 4294967296) :
    wrap64 (wrap64 (wrap64 (wrap64 (wrap64 ((c : Int) / (U * 4096) + trn x ((b + 3072) % 4096)) - trn ((c : Int) / U % 4096) ((b + 3072) % 4096)) * U) * 4096) + wrap64 (x * U)) = plc U b c x := by
  unfold plc
  have hd : 0 ≤ (c : Int) / ((U : Int) * 4096) := Int.ediv_nonneg (by omega) (by omega)
  have hm : (c : Int) / ((U : Int) * 4096) * ((U : Int) * 4096) ≤ c := Int.ediv_mul_le _ (by omega)
  have hm0 : 0 ≤ (c : Int) / ((U : Int) * 4096) * ((U : Int) * 4096) := Int.mul_nonneg hd (by omega)
  have hd2 : (c : Int) / ((U : Int) * 4096) ≤ c := Int.ediv_le_self _ (by omega)
  have hxU : (x : Int) * U ≤ 65536 * 2097152 := Int.mul_le_mul (by omega) (by omega) (by omega) (by omega)
  have hxU0 : 0 ≤ (x : Int) * U := Int.mul_nonneg (by omega) (by omega)
  generalize hq : (c : Int) / ((U : Int) * 4096) = q at *
  have a := trn_two x ((b + 3072) % 4096)
  have b' := trn_two ((c : Int) / U % 4096) ((b + 3072) % 4096)
  generalize trn x ((b + 3072) % 4096) = r at *
  generalize trn ((c : Int) / U % 4096) ((b + 3072) % 4096) = s at *
  have h3 : (q + r - s) * ((U : Int) * 4096) = q * ((U : Int) * 4096) + (r - s) * ((U : Int) * 4096) := by rw [← Int.add_mul]; congr 1; omega
  have h3b : (r - s) * ((U : Int) * 4096) ≤ (U : Int) * 4096 ∧ -((U : Int) * 4096) ≤ (r - s) * ((U : Int) * 4096) := by
    rcases a with rfl | rfl <;> rcases b' with rfl | rfl <;> constructor <;> simp <;> omega
  have h4 : (q + r - s) * U * 4096 = (q + r - s) * ((U : Int) * 4096) := Int.mul_assoc _ _ _
  rw [IntWalk.wrap64_in (q + r) (by omega), IntWalk.wrap64_in (q + r - s) (by omega), IntWalk.wrap64_in ((q + r - s) * U) (by omega), h4, IntWalk.wrap64_in ((q + r - s) * ((U : Int) * 4096)) (by omega), IntWalk.wrap64_in ((x : Int) * U) (by omega), IntWalk.wrap64_in _ (by omega)]

end Go.Proofs.YticfpnhfhhagpaaDoor
namespace Go.Proofs.YticfpnhfhhagpaaDoor
open Go.RowKit
set_option linter.unusedVariables false

theorem isB_not {e b t c : Nat} (h : mayP e b t = false) : isB e b t c = false := by
  have := of_decide_eq_false h
  exact decide_eq_false fun k => this ⟨k.1, k.2.1, k.2.2.1⟩
/-- What 'Tell' answers. -/
def raB (e b t c : Nat) : Int := if mayP e b t then plc (2 ^ e : Nat) b c b else 0
def raT (e b t c : Nat) : Int := if mayP e b t then plc (2 ^ e : Nat) b c t else 0
theorem ra_te {e b t c : Nat} (h : isB e b t c = true) : raB e b t c = teB e b t c ∧ raT e b t c = teT e b t c := by
  have k := of_decide_eq_true h
  have hm : mayP e b t = true := decide_eq_true ⟨k.1, k.2.1, k.2.2.1⟩
  simp [raB, raT, teB, teT, h, hm]

theorem rkp_eq (e b t c n : Nat) : (isB e b t c && (raB e b t c == raB e b t n && raT e b t c == raT e b t n)) = kp e b t c n := by
  unfold kp
  cases h : isB e b t c
  · simp only [Bool.false_and]
  · have k := of_decide_eq_true h
    have hm : mayP e b t = true := decide_eq_true ⟨k.1, k.2.1, k.2.2.1⟩
    rw [Bool.eq_iff_iff]
    simp [raB, raT, hm]


end Go.Proofs.YticfpnhfhhagpaaDoor
namespace Go.Proofs.YticfpnhfhhagpaaDoor
set_option maxRecDepth 100000
open Go.RowKit
set_option linter.unusedVariables false
def sltI (c : Int) : Nat := if 0 ≤ c ∧ c < 5 then 16 * 2 ^ c.toNat else 0
def pgN (s : Nat) : Nat := (s + 255) / 256
theorem pClasses_any (w : World) : Calls Tryd.prog 75 #[] w fun e w' => e = .returned (.int .i64 5) ∧ w = w' := by
  go_enter Tryd.func75, Tryd.ntmps75
  go_wp2_with fail
  go_ret
  exact ⟨rfl, rfl⟩
theorem five {c : Int} (h : 0 ≤ c ∧ c < 5) : c = 0 ∨ c = 1 ∨ c = 2 ∨ c = 3 ∨ c = 4 := by omega
theorem pSlot_any (c : Int) (w : World) : Calls Tryd.prog 26 #[.int .i64 c] w fun e w' => e = .returned (.int .u32 (sltI c : Nat)) ∧ w = w' := by
  by_cases h : 0 ≤ c ∧ c < 5
  · rcases five h with rfl | rfl | rfl | rfl | rfl
    all_goals
      go_enter Tryd.func26, Tryd.ntmps26
      go_wp2_with fail
      go_ret
      exact ⟨rfl, rfl⟩
  · have e : sltI c = 0 := if_neg h
    rw [e]
    by_cases h0 : c < 0
    · clear h e
      go_enter Tryd.func26, Tryd.ntmps26
      go_wp2_with fail
      go_ret
      exact ⟨rfl, rfl⟩
    · have h5 : 5 ≤ c := by omega
      clear h e
      go_enter Tryd.func26, Tryd.ntmps26
      go_wp2_with fail
      go_ret
      exact ⟨rfl, rfl⟩
theorem pPages_any (s : Nat) (w : World) (hs : s < 4294967296) : Calls Tryd.prog 19 #[.int .u32 s] w fun e w' => e = .returned (.int .i64 (pgN s : Nat)) ∧ w = w' := by
  have e1 : ((pgN s : Nat) : Int) = ((s : Int) + 256 - 1) / 256 := by unfold pgN; omega
  rw [e1]
  go_enter Tryd.func19, Tryd.ntmps19
  go_wp2_with fail
  go_ret
  exact ⟨rfl, rfl⟩
theorem slt_int {j : Nat} (h : j < 5) : sltI (j : Int) = sltN j := by
  unfold sltI sltN
  rw [if_pos (by omega), if_pos h, Int.toNat_natCast]
theorem cls_is {s j : Nat} (h0 : 0 < s) (hj : j < 5) (h : s ≤ sltN j) (hl : ∀ i, i < j → sltN i < s) : clsN s = j ∧ clsB s = true := by
  have e0 : sltN 0 = 16 := rfl
  have e1 : sltN 1 = 32 := rfl
  have e2 : sltN 2 = 64 := rfl
  have e3 : sltN 3 = 128 := rfl
  have e4 : sltN 4 = 256 := rfl
  have hb : s ≤ 256 := by
    rcases (show j = 0 ∨ j = 1 ∨ j = 2 ∨ j = 3 ∨ j = 4 by omega) with rfl | rfl | rfl | rfl | rfl <;> omega
  refine ⟨?_, decide_eq_true ⟨h0, hb⟩⟩
  unfold clsN
  rcases (show j = 0 ∨ j = 1 ∨ j = 2 ∨ j = 3 ∨ j = 4 by omega) with rfl | rfl | rfl | rfl | rfl
  · rw [if_pos (by omega)]
  · have := hl 0 (by omega)
    rw [if_neg (by omega), if_pos (by omega)]
  · have := hl 1 (by omega)
    rw [if_neg (by omega), if_neg (by omega), if_pos (by omega)]
  · have := hl 2 (by omega)
    rw [if_neg (by omega), if_neg (by omega), if_neg (by omega), if_pos (by omega)]
  · have := hl 3 (by omega)
    rw [if_neg (by omega), if_neg (by omega), if_neg (by omega), if_neg (by omega), if_pos (by omega)]
theorem cls_no {s : Nat} (h : sltN 4 < s) : clsN s = 0 ∧ clsB s = false := by
  have e4 : sltN 4 = 256 := rfl
  unfold clsN
  exact ⟨by rw [if_neg (by omega), if_neg (by omega), if_neg (by omega), if_neg (by omega), if_neg (by omega)], decide_eq_false (by omega)⟩
theorem fits_any (sl s q : Nat) (w : World) (h : w.cell? ⟨q, 0, none⟩ = some (.int .u32 s)) : Calls Tryd.prog 54 #[.int .u32 sl, .pointer (some ⟨q, 0, none⟩)] w fun e w' => e = .returned (.bool (decide (s ≤ sl))) ∧ ∃ n, w.drewN n = w' := by
  go_enter Tryd.func54, Tryd.ntmps54
  go_wp2_with fail
  go_ret
  exact ⟨ret_bool (by simp), ⟨0, rfl⟩⟩
theorem least_any (s q : Nat) (h0 : 0 < s) (w : World) (h : w.cell? ⟨q, 0, none⟩ = some (.int .u32 s)) : Calls Tryd.prog 53 #[.func (Fn.func 54) #[] #[.pointer (some ⟨q, 0, none⟩)]] w fun e w' => e = .returned (.tuple #[.int .i64 (clsN s : Nat), .bool (clsB s)]) ∧ ∃ n, w.drewN n = w' := by
  have hC := Lib.hid pClasses_any
  have hS := Lib.hid (fun (j : Nat) (hj : j < 5) (w : World) => (show Calls Tryd.prog 26 #[.int .i64 j] w fun e w' => e = .returned (.int .u32 (sltN j : Nat)) ∧ w = w' from by
    have := pSlot_any j w
    rwa [slt_int hj] at this))
  have hF := Lib.hid (fun (sl : Nat) (w : World) (h : w.cell? ⟨q, 0, none⟩ = some (.int .u32 s)) => fits_any sl s q w h)
  have hI := Lib.hid (fun (j : Nat) (hj : j < 5) (h : s ≤ sltN j) (hl : ∀ i, i < j → sltN i < s) => cls_is h0 hj h hl)
  have hN := Lib.hid (cls_no (s := s))
  replace h := Lib.hid h
  generalize clsN s = cN at *
  generalize clsB s = cB at *
  clear h0
  go_enter Tryd.func53, Tryd.ntmps53
  go_wp2_with fail
  refine (hC.out _).mono ?_
  rintro e w1 ⟨rfl, rfl⟩
  go_wp2_with fail
  go_loopw [6] (fun i wr => ∃ j n : Nat, j ≤ 5 ∧ i = .int .i64 j ∧ (∀ k, k < j → sltN k < s) ∧ w.drewN n = wr) (fun i _ => 5 - (intOf i).toNat)
  case atStart => exact ⟨0, 0, by omega, rfl, fun j h => absurd h (by omega), rfl⟩
  case round =>
    obtain ⟨j, n0, hj, rfl, hno, rfl⟩ := hrel
    replace hno := Lib.hid hno
    by_cases hlt : j < 5
    · have jl : (j : Int) < 5 := by omega
      go_wp2_with fail
      refine (hS.out j hlt _).mono ?_
      rintro e w2 ⟨rfl, rfl⟩
      go_wp2_with fail
      refine (hF.out (sltN j) (w.drewN n0) h.out).mono ?_
      rintro e w2 ⟨rfl, n1, rfl⟩
      by_cases hs : s ≤ sltN j
      · obtain ⟨e1, e2⟩ := hI.out j hlt hs hno.out
        have hd : decide (s ≤ sltN j) = true := decide_eq_true hs
        subst e1
        subst e2
        clear hs
        go_wp2_with fail
        go_ret2
        exact ⟨rfl, _, rfl⟩
      · have hd : decide (s ≤ sltN j) = false := decide_eq_false hs
        replace hs := Lib.hid hs
        go_wp2_with fail
        go_roundw
        case rel => exact ⟨j + 1, n0 + n1, by omega, by go_num, fun k hk => by
          rcases Nat.lt_or_ge k j with h' | h'
          · exact hno.out k h'
          · obtain rfl : k = j := by omega
            have := hs.out
            omega, by first | rfl | trivial⟩
        case measure => simp [intOf]; omega
    · obtain rfl : j = 5 := by omega
      obtain ⟨e1, e2⟩ := hN.out (hno.out 4 (by omega))
      subst e1
      subst e2
      go_wp2_with fail
      go_ret2
      exact ⟨rfl, _, rfl⟩
theorem pClass_any (s : Nat) (w : World) (hs : s < 4294967296) : Calls Tryd.prog 35 #[.int .u32 s] w fun e w' => e = .returned (.tuple #[.int .i64 (clsN s : Nat), .bool (clsB s)]) ∧ Below w.heap.size w w' := by
  have hc : (w.alloc (.cells #[.int .u32 s] 24)).cell? ⟨w.heap.size, 0, none⟩ = some (.int .u32 s) := by rw [World.cell?_alloc_at (hn := rfl)]; rfl
  have hb := Lib.hid ((Below.refl w.heap.size w).alloc (Nat.le_refl _) (.cells #[.int .u32 s] 24))
  have hL := Lib.hid (fun h0 w1 h => least_any s w.heap.size h0 w1 h)
  by_cases h0 : s = 0
  · subst h0
    clear hL
    go_enter Tryd.func35, Tryd.ntmps35
    go_upto_region 1 with (fail)
    generalize (w.alloc (.cells #[.int .u32 _] 24)) = w1 at hc hb ⊢
    go_wp2_with fail
    go_ret2
    exact ⟨rfl, hb.out⟩
  · have h1 : ((s : Int) == 0) = false := by simp; omega
    replace hL := Lib.hid (hL.out (by omega))
    generalize clsN s = x at *
    generalize clsB s = y at *
    clear h0
    go_enter Tryd.func35, Tryd.ntmps35
    go_upto_region 1 with (fail)
    generalize (w.alloc (.cells #[.int .u32 _] 24)) = w1 at hc hb ⊢
    go_wp2_with fail
    refine (hL.out w1 hc).mono ?_
    rintro e w2 ⟨rfl, n, rfl⟩
    go_wp2_with fail
    go_ret2
    exact ⟨rfl, below_drewN hb.out n⟩
/-- What Padded answers, of what was reckoned. -/
theorem pad_no {s h : Nat} (k : szP s = 0 ∨ h < szP s) : padP s h = 0 ∧ padA s h = 0 ∧ padE s h = 6 := by
  have : szO s h = false := decide_eq_false (by omega)
  unfold padP padA padE
  rw [this]
  exact ⟨rfl, rfl, rfl⟩
theorem pad_yes {s h : Nat} (k : szP s ≠ 0) (k2 : szP s ≤ h) : padP s h = szP s ∧ padA s h = szA s ∧ padE s h = 0 := by
  have : szO s h = true := decide_eq_true ⟨k, k2⟩
  unfold padP padA padE
  rw [this]
  exact ⟨rfl, rfl, rfl⟩
theorem szP_lt (s : Nat) : szP s < 4294967296 := by
  by_cases h : szP s = 0
  · omega
  · exact (sz_facts h).2.2.2.2.1
theorem szA_lt (s : Nat) : szA s < 4294967296 := by
  unfold szA
  cases hc : clsB s
  · simp only [Bool.false_eq_true, if_false]
    have : pdA (up 256 s) ≤ 2 ^ 21 := by
      unfold pdA
      split
      · omega
      · refine Nat.pow_le_pow_right (by decide) ?_
        unfold enE
        split
        · rename_i h
          have h' := of_decide_eq_true h
          exact expo_le 0 h'.2
        · omega
    have : (2 : Nat) ^ 21 = 2097152 := by decide
    omega
  · have := cls_ge hc
    simp only [if_true]; omega
set_option maxHeartbeats 4000000 in
theorem pPadded_any (s h : Nat) (w : World) (hs : s < 4294967296) (hh : h < 4294967296) : Calls Tryd.prog 18 #[.int .u32 s, .int .u32 h] w fun e w' => e = .returned (.tuple #[.int .u32 (padP s h : Nat), .int .u32 (padA s h : Nat), .int .i64 (padE s h)]) ∧ Below w.heap.size w w' := by
  have hC := Lib.hid (fun p w (hp : p < 4294967296) => pClass_any p w hp)
  have hP := Lib.hid (fun p w (hp : p < 4294967296) => Pad_any p w hp)
  have hS := Lib.hid (fun (j : Nat) (hj : j < 5) (w : World) => (show Calls Tryd.prog 26 #[.int .i64 j] w fun e w' => e = .returned (.int .u32 (sltN j : Nat)) ∧ w = w' from by
    have := pSlot_any j w
    rwa [slt_int hj] at this))
  have hend : ∀ (X Y : Nat), X = szP s → (X ≠ 0 → Y = szA s) → ((X = 0 ∨ h < X) ∧ padP s h = 0 ∧ padA s h = 0 ∧ padE s h = 6) ∨ (X ≠ 0 ∧ X ≤ h ∧ padP s h = X ∧ padA s h = Y ∧ padE s h = 0) := fun X Y e1 e2 => by
    subst e1
    by_cases k : szP s ≠ 0 ∧ szP s ≤ h
    · have e2 := e2 k.1
      subst e2
      exact .inr ⟨k.1, k.2, pad_yes k.1 k.2⟩
    · exact .inl ⟨by omega, pad_no (by omega)⟩
  have hsm := Lib.hid (show clsB s = true → szP s = sltN (clsN s) ∧ szA s = sltN (clsN s) from fun k => by unfold szP szA; rw [k]; simp)
  have hbg := Lib.hid (show ∀ p, clsB p = false → (p = s ∧ s % 256 = 0 ∨ clsB s = false ∧ p = up 256 s % 4294967296) → pdP p = szP s ∧ (pdP p ≠ 0 → max (pdA p) 256 = szA s) from fun p hp k => by
    have hb : clsB s = false := by
      rcases k with k | k
      · rw [← k.1]; exact hp
      · exact k.1
    have hu : p = up 256 s % 4294967296 := by
      rcases k with k | k
      · rw [up256, k.1]; omega
      · exact k.2
    have hle : up 256 s ≤ 4294967296 := by rw [up256]; omega
    unfold szP szA
    rw [hb]
    simp only [Bool.false_eq_true, if_false]
    by_cases hw : 4294967296 ≤ up 256 s
    · have e : up 256 s = 4294967296 := by omega
      have hp0 : p = 0 := by rw [hu, e]
      rw [if_pos hw, hp0]
      have hz : pdP 0 = 0 := by
        have := sz_zero
        unfold szP at this
        rw [show clsB 0 = false from rfl] at this
        simp only [Bool.false_eq_true, if_false] at this
        rwa [show up 256 0 = 0 from rfl, if_neg (by decide)] at this
      exact ⟨hz, fun k => absurd hz k⟩
    · rw [if_neg hw]
      have : p = up 256 s := by omega
      rw [this]
      exact ⟨rfl, fun _ => rfl⟩)
  replace hend := Lib.hid hend
  have hge := Lib.hid (fun p => cls_ge (s := p))
  have hal := Lib.hid (fun p => szA_lt p)
  obtain ⟨S, hSe⟩ : ∃ S : Int, S = (s : Int) := ⟨_, rfl⟩
  generalize padP s h = oP at *
  generalize padA s h = oA at *
  generalize padE s h = oE at *
  go_enter Tryd.func18, Tryd.ntmps18
  go_wp2_with fail
  go_step3
  go_wp2_with fail
  go_step3
  go_wp2_with fail
  go_loopw [4] (fun i wr => ∃ p : Nat, i = .int .u32 p ∧ (p = s ∨ clsB s = false ∧ p = up 256 s % 4294967296) ∧ Below w.heap.size w wr) (fun i _ => if (intOf i).toNat % 256 = 0 then 0 else 1)
  case atStart => exact ⟨s, rfl, .inl rfl, Below.refl _ _⟩
  case round =>
    obtain ⟨p, rfl, hp, hB⟩ := hrel
    have lp : p < 4294967296 := by omega
    replace hp := Lib.hid hp
    replace hB := Lib.hid hB
    go_wp2_with fail
    refine (hC.out p _ lp).mono ?_
    rintro e w2 ⟨rfl, g⟩
    have B2 := Lib.hid (hB.out.trans (g.mono hB.out.size))
    clear g hB
    cases hc : clsB p
    · by_cases hm : p % 256 = 0
      · have hv := hbg.out p hc (by
          rcases hp.out with k | k
          · exact .inl ⟨k, by rw [← k]; exact hm⟩
          · exact .inr k)
        have hPd := Lib.hid (hP.out p)
        have hE := hend.out (pdP p) (max (pdA p) 256) hv.1 hv.2
        have hm' : ((p : Int) % 256 == 0) = true := by simp; omega
        clear hv hend hbg hsm hge hal hP hS hC hp hm
        generalize pdP p = X at *
        generalize pdA p = Y at *
        generalize clsN p = cn at *
        obtain ⟨Z, hZ, hZ2⟩ : ∃ Z, max Y 256 = Z ∧ (256 ≤ (Y : Int) ∧ Z = Y ∨ ¬ 256 ≤ (Y : Int) ∧ Z = 256) := ⟨_, rfl, by omega⟩
        rw [hZ] at hE
        clear hZ
        go_wp2_with fail
        refine (hPd.out _ lp).mono ?_
        rintro e w3 ⟨rfl, g⟩
        have B3 := Lib.hid (B2.out.trans (g.mono B2.out.size))
        clear g B2 hPd
        rcases hE with ⟨k, rfl, rfl, rfl⟩ | ⟨k1, k2, rfl, rfl, rfl⟩
        · rcases k with rfl | k
          · rcases hZ2 with ⟨a, rfl⟩ | ⟨a, rfl⟩
            all_goals
              go_wp2_with fail
              try rw [Exit.noGoto_ret]
              go_ret3
              exact ⟨rfl, B3.out⟩
          · have k' : (h : Int) < (X : Int) := by omega
            have k0 : ((X : Int) == 0) = false := by simp; omega
            clear k
            rcases hZ2 with ⟨a, rfl⟩ | ⟨a, rfl⟩
            all_goals
              go_wp2_with fail
              try rw [Exit.noGoto_ret]
              go_ret3
              exact ⟨rfl, B3.out⟩
        · have k' : (oP : Int) ≤ (h : Int) := by omega
          have kd : decide (h < oP) = false := decide_eq_false (by omega)
          have kn : ¬ h < oP := by omega
          have k0 : ((oP : Int) == 0) = false := by simp; omega
          clear k2
          rcases hZ2 with ⟨a, rfl⟩ | ⟨a, rfl⟩
          all_goals
            go_wp2_with fail
            try rw [Exit.noGoto_ret]
            go_ret3
            exact ⟨rfl, B3.out⟩
      · have hm' : ((p : Int) % 256 == 0) = false := by simp; omega
        obtain ⟨rfl, hb⟩ : p = s ∧ clsB s = false := by
          rcases hp.out with k | k
          · exact ⟨k, by rw [← k]; exact hc⟩
          · have := k.2
            rw [up256] at this
            exact absurd (show p % 256 = 0 by omega) hm
        have hn : ((p : Int) + (256 - (p : Int) % 256)) % 4294967296 = ((up 256 p % 4294967296 : Nat) : Int) := by
          rw [up256]; omega
        have hz : (up 256 p % 4294967296) % 256 = 0 := by rw [up256]; omega
        obtain ⟨Q, hQ⟩ : ∃ Q, Q = up 256 p % 4294967296 := ⟨_, rfl⟩
        rw [← hQ] at hn hz
        have hR := Lib.hid (show Q = p ∨ clsB p = false ∧ Q = up 256 p % 4294967296 from .inr ⟨hb, hQ⟩)
        replace hm := Lib.hid hm
        replace hz := Lib.hid hz
        clear hQ hb
        go_wp2_with fail
        go_roundw
        case rel => exact ⟨Q, by go_num, hR.out, B2.out⟩
        case measure =>
          show (if (((p : Int) + (256 - (p : Int) % 256)) % 4294967296).toNat % 256 = 0 then 0 else 1) < (if ((p : Int)).toNat % 256 = 0 then 0 else 1)
          rw [hn, Int.toNat_natCast, Int.toNat_natCast, if_pos hz.out, if_neg hm.out]
          decide
    · have hp' : p = s := by
        rcases hp.out with k | k
        · exact k
        · have h1 := of_decide_eq_true hc
          have h2 := k.2
          have h3 := of_decide_eq_false k.1
          rw [up256] at h2
          omega
      subst hp'
      have hv := hsm.out hc
      have hE := hend.out (sltN (clsN p)) (sltN (clsN p)) hv.1.symm (fun _ => hv.2.symm)
      have hg := hge.out p hc
      have l5 := hg.2.2.2
      have k0 : ((sltN (clsN p) : Nat) : Int) ≠ 0 := by omega
      have hS' := Lib.hid (hS.out (clsN p) l5)
      clear hv hend hbg hsm hge hal hP hS hC hp hg l5
      generalize hX : sltN (clsN p) = X at *
      clear hX
      generalize clsN p = cn at *
      go_wp2_with fail
      refine (hS'.out _).mono ?_
      rintro e w3 ⟨rfl, rfl⟩
      go_wp2_with fail
      refine (hS'.out _).mono ?_
      rintro e w3 ⟨rfl, rfl⟩
      have k0' : ((X : Int) == 0) = false := by simp; omega
      rcases hE with ⟨k, rfl, rfl, rfl⟩ | ⟨k1, k2, q1, q2, rfl⟩
      · have k' : (h : Int) < (X : Int) := by omega
        clear k k0
        go_wp2_with fail
        try rw [Exit.noGoto_ret]
        go_ret3
        exact ⟨rfl, B2.out⟩
      · subst q1
        subst q2
        have k' : (oA : Int) ≤ (h : Int) := by omega
        have kd : decide (h < oA) = false := decide_eq_false (by omega)
        have kn : ¬ h < oA := by omega
        clear k2 k0
        go_wp2_with fail
        try rw [Exit.noGoto_ret]
        go_ret3
        exact ⟨rfl, B2.out⟩
end Go.Proofs.YticfpnhfhhagpaaDoor
