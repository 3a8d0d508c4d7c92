/- Bounds in few bits: plain lemmas on numbers. No statement is proved here.; Contracts of layer bounds: the two closures of tell. No statement is proved here.; Contracts of layer bounds: rounding, and the exponent. No statement is proved here.; Bounds in few bits: what is made tells what was asked for. Plain lemmas; no statement is proved here. -/
import Derived.WalkKit
import Derived.Test.YtkmgdfcambdeeaaGreatDoorChecked
import Derived.WalkSpells
import Derived.WalkLawsBesides
import Derived.Deep.QuietTactic
import Derived.BigQuiet
import Derived.Handy
import Derived.Below
import Derived.Laws.Bits64b
import Derived.Laws.BitsLemmas
import Derived.Lib.Hide
import Derived.Deep.OwnRows
import Derived.Deep.RegionWith
import Derived.StillTailTactics
import Derived.Deep.LoopGhost
import Derived.Deep.DeepCutAuto
import Derived.Test.YtkmgdfcambdeeaaGreatDoorPaa
namespace Go.Proofs.YtkmgdfcambdeeaaGreatDoor
open Go.RowKit
set_option linter.unusedVariables false

/-- Rounded down, and up, to a multiple of U. -/
def dn (U x : Nat) : Nat := x / U * U
def up (U x : Nat) : Nat := (x + U - 1) / U * U
def okE (b t e : Nat) : Prop := up (2 ^ e) t - dn (2 ^ e) b ≤ 2048 * 2 ^ e
instance (b t e : Nat) : Decidable (okE b t e) := inferInstanceAs (Decidable (_ ≤ _))
def expoF (b t : Nat) : Nat → Nat → Nat
  | 0, e => e
  | f + 1, e => if okE b t e then e else expoF b t f (e + 1)
/-- The least exponent that goes. -/
def expo (b t : Nat) : Nat := expoF b t 21 0

theorem pow_pos2 (e : Nat) : 1 ≤ 2 ^ e := Nat.one_le_two_pow
theorem dn_le (U x : Nat) : dn U x ≤ x := Nat.div_mul_le_self x U
theorem up_ge {U : Nat} (x : Nat) (h : 1 ≤ U) : x ≤ up U x := by
  have := Nat.lt_div_mul_add (a := x + U - 1) (b := U) (by omega)
  unfold up; omega
theorem up_lt {U : Nat} (x : Nat) (h : 1 ≤ U) : up U x < x + U := by
  have := Nat.div_mul_le_self (x + U - 1) U
  unfold up; omega
theorem up_mono {U x y : Nat} (h : x ≤ y) : up U x ≤ up U y := Nat.mul_le_mul_right _ (Nat.div_le_div_right (by omega))
theorem up_of_dvd {U x : Nat} (h1 : 1 ≤ U) (h : U ∣ x) : up U x = x := by
  obtain ⟨k, rfl⟩ := h
  unfold up
  have : (U * k + U - 1) / U = k := by
    rw [show U * k + U - 1 = (U - 1) + U * k from by omega, Nat.add_mul_div_left _ _ (by omega), Nat.div_eq_of_lt (by omega)]
    omega
  rw [this, Nat.mul_comm]
theorem up_le_of_dvd {U x m : Nat} (h1 : 1 ≤ U) (h : U ∣ m) (hx : x ≤ m) : up U x ≤ m := by
  have := up_mono (U := U) hx
  rwa [up_of_dvd h1 h] at this
theorem dvd_whole {e : Nat} (he : e ≤ 32) : 2 ^ e ∣ 4294967296 := by
  rw [show 4294967296 = 2 ^ 32 from rfl]; exact Nat.pow_dvd_pow 2 he

theorem ok_last {b t : Nat} (ht : t ≤ 4294967296) : okE b t 21 := by
  have := up_le_of_dvd (U := 2 ^ 21) (by decide) (dvd_whole (by decide)) ht
  have e : (2 : Nat) ^ 21 = 2097152 := by decide
  unfold okE
  rw [e] at this ⊢
  omega
theorem expoF_spec (b t : Nat) (ht : t ≤ 4294967296) : ∀ f e, f + e = 21 → (∀ k, k < e → ¬ okE b t k) → okE b t (expoF b t f e) ∧ expoF b t f e ≤ 21 ∧ ∀ k, k < expoF b t f e → ¬ okE b t k
  | 0, e, h, hk => by
    have : e = 21 := by omega
    subst this
    exact ⟨ok_last ht, Nat.le_refl _, hk⟩
  | f + 1, e, h, hk => by
    unfold expoF
    split
    · rename_i ho
      exact ⟨ho, by omega, hk⟩
    · rename_i ho
      refine expoF_spec b t ht f (e + 1) (by omega) fun k hlt => ?_
      rcases Nat.lt_or_ge k e with h' | h'
      · exact hk k h'
      · have : k = e := by omega
        subst this; exact ho
theorem expo_ok (b : Nat) {t : Nat} (ht : t ≤ 4294967296) : okE b t (expo b t) := (expoF_spec b t ht 21 0 rfl (fun _ h => absurd h (by omega))).1
theorem expo_le (b : Nat) {t : Nat} (ht : t ≤ 4294967296) : expo b t ≤ 21 := (expoF_spec b t ht 21 0 rfl (fun _ h => absurd h (by omega))).2.1
theorem expo_least (b : Nat) {t : Nat} (ht : t ≤ 4294967296) : ∀ k, k < expo b t → ¬ okE b t k := (expoF_spec b t ht 21 0 rfl (fun _ h => absurd h (by omega))).2.2
theorem expo_is {b t e : Nat} (ht : t ≤ 4294967296) (h : okE b t e) (hk : ∀ k, k < e → ¬ okE b t k) : expo b t = e := by
  rcases Nat.lt_trichotomy (expo b t) e with h' | h' | h'
  · exact absurd (expo_ok b ht) (hk _ h')
  · exact h'
  · exact absurd h (expo_least b ht _ h')

/-- The turn of a mantissa; what a mantissa tells at a cursor. -/
def trn (x g : Int) : Int := if x < g then 1 else 0
def plc (U b c x : Int) : Int := (c / (U * 4096) + trn x ((b + 3072) % 4096) - trn (c / U % 4096) ((b + 3072) % 4096)) * (U * 4096) + x * U
def isB (e b t c : Nat) : Bool := decide (e ≤ 21 ∧ b < 4096 ∧ t < 4096 ∧ 0 ≤ plc (2 ^ e : Nat) b c b ∧ plc (2 ^ e : Nat) b c b ≤ plc (2 ^ e : Nat) b c t ∧ plc (2 ^ e : Nat) b c t ≤ 4294967296)
def teB (e b t c : Nat) : Int := if isB e b t c then plc (2 ^ e : Nat) b c b else 0
def teT (e b t c : Nat) : Int := if isB e b t c then plc (2 ^ e : Nat) b c t else 0
def deB (e b t c : Nat) : Int := if teB e b t c = 4294967296 then 0 else teB e b t c
def deT (e b t c : Nat) : Int := if teB e b t c = 4294967296 then 0 else teT e b t c
def kp (e b t c n : Nat) : Bool := isB e b t c && decide (plc (2 ^ e : Nat) b c b = plc (2 ^ e : Nat) b n b ∧ plc (2 ^ e : Nat) b c t = plc (2 ^ e : Nat) b n t)

/-- What is asked for may be; the parts that are made. -/
def may (b t : Nat) : Bool := decide (b ≤ t ∧ t ≤ 4294967296)
def rdB (b t : Nat) : Nat := if may b t then dn (2 ^ expo b t) b else 0
def rdT (b t : Nat) : Nat := if may b t then up (2 ^ expo b t) t else 0
def enE (b t : Nat) : Nat := if may b t then expo b t else 0
def enB (b t : Nat) : Nat := rdB b t / 2 ^ enE b t % 4096
def enT (b t : Nat) : Nat := rdT b t / 2 ^ enE b t % 4096
def enX (b t : Nat) : Bool := may b t && decide (rdB b t = b ∧ rdT b t = t)
theorem te_bounds (e b t c : Nat) : 0 ≤ teB e b t c ∧ teB e b t c ≤ teT e b t c ∧ teT e b t c ≤ 4294967296 := by
  unfold teB teT
  cases h : isB e b t c
  · simp
  · have := of_decide_eq_true h
    simp only [if_true]
    exact ⟨this.2.2.2.1, this.2.2.2.2.1, this.2.2.2.2.2⟩

/-- The cursor's place decides the turn: within the window the same number is told. -/
theorem turn_div (x g : Int) (hg : 0 ≤ g) (hg2 : g < 4096) : x / 4096 - trn (x % 4096) g = (x - g) / 4096 := by
  unfold trn
  split <;> omega
theorem told (U : Nat) (hU : 1 ≤ U) (q x c : Int) (h1 : q - 1024 ≤ x) (h2 : x < q + 3072) (h3 : q - 1024 ≤ c / (U : Int)) (h4 : c / (U : Int) < q + 3072) :
    plc U (q % 4096) c (x % 4096) = x * U := by
  have hd : c / ((U : Int) * 4096) = c / (U : Int) / 4096 := (Int.ediv_ediv_of_nonneg (by omega)).symm
  unfold plc
  rw [hd]
  generalize c / (U : Int) = r at *
  have hg0 : 0 ≤ (q % 4096 + 3072) % 4096 := by omega
  have hg1 : (q % 4096 + 3072) % 4096 < 4096 := by omega
  have a := turn_div r _ hg0 hg1
  have b := turn_div x _ hg0 hg1
  have e : (r - (q % 4096 + 3072) % 4096) / 4096 = (x - (q % 4096 + 3072) % 4096) / 4096 := by omega
  have k : r / 4096 + trn (x % 4096) ((q % 4096 + 3072) % 4096) - trn (r % 4096) ((q % 4096 + 3072) % 4096) = x / 4096 := by omega
  rw [k, show x / 4096 * ((U : Int) * 4096) = (x / 4096 * 4096) * U from by rw [Int.mul_comm (U : Int) 4096, ← Int.mul_assoc], ← Int.add_mul]
  congr 1
  omega
end Go.Proofs.YtkmgdfcambdeeaaGreatDoor
namespace Go.Proofs.YtkmgdfcambdeeaaGreatDoor
open Go.RowKit
set_option linter.unusedVariables false


theorem trn_two (x g : Int) : trn x g = 0 ∨ trn x g = 1 := by unfold trn; split <;> simp
theorem pow_le21 {e : Nat} (he : e ≤ 21) : 2 ^ e ≤ 2097152 := by
  have := Nat.pow_le_pow_right (n := 2) (by decide) he
  simpa using this
theorem cast_pow (e : Nat) : ((2 : Int) ^ e) = ((2 ^ e : Nat) : Int) := by simp
theorem e12 {e : Nat} (he : e ≤ 21) : (2 : Int) ^ min (IntKind.u8.wrap ((e : Int) + 12)).toNat 64 = ((2 ^ e : Nat) : Int) * 4096 := by
  have h : min (IntKind.u8.wrap ((e : Int) + 12)).toNat 64 = e + 12 := by rw [IntKind.wrap_u8']; omega
  rw [h, Int.pow_add, cast_pow]
  rfl
theorem e64 {e : Nat} (he : e ≤ 21) : (2 : Int) ^ min e 64 = ((2 ^ e : Nat) : Int) := by
  rw [show min e 64 = e from by omega, cast_pow]
theorem place_num {e x c : Nat} (he : e ≤ 21) (hx : x < 65536) (hc : c < 4294967296) (g m : Int) :
    IntKind.i64.wrap (IntKind.i64.wrap (IntKind.i64.wrap (IntKind.i64.wrap ((c : Int) / ((2 ^ e : Nat) * 4096) + trn x g) - trn m g) * 2 ^ min (IntKind.u8.wrap ((e : Int) + 12)).toNat 64) + IntKind.i64.wrap (IntKind.i64.wrap x * 2 ^ min e 64))
      = ((c : Int) / ((2 ^ e : Nat) * 4096) + trn x g - trn m g) * ((2 ^ e : Nat) * 4096) + x * (2 ^ e : Nat) := by
  rw [e12 he, e64 he]
  have hU := pow_le21 he
  have hU1 := pow_pos2 e
  generalize 2 ^ e = U at *
  have hd : 0 ≤ (c : Int) / ((U : Int) * 4096) := Int.ediv_nonneg (by omega) (by omega)
  have hm : (c : Int) / ((U : Int) * 4096) * ((U : Int) * 4096) ≤ c := Int.ediv_mul_le _ (by omega)
  have hm0 : 0 ≤ (c : Int) / ((U : Int) * 4096) * ((U : Int) * 4096) := Int.mul_nonneg hd (by omega)
  have hd2 : (c : Int) / ((U : Int) * 4096) ≤ c := Int.ediv_le_self _ (by omega)
  have hxU : (x : Int) * U ≤ 65536 * 2097152 := Int.mul_le_mul (by omega) (by omega) (by omega) (by omega)
  have hxU0 : 0 ≤ (x : Int) * U := Int.mul_nonneg (by omega) (by omega)
  generalize hq : (c : Int) / ((U : Int) * 4096) = q at *
  have a := trn_two x g
  have b := trn_two m g
  generalize trn x g = r at *
  generalize trn m g = s at *
  have h1 : IntKind.i64.wrap (q + r) = q + r := by rw [IntKind.wrap_i64]; omega
  have h2 : IntKind.i64.wrap (q + r - s) = q + r - s := by rw [IntKind.wrap_i64]; omega
  have h3 : (q + r - s) * ((U : Int) * 4096) = q * ((U : Int) * 4096) + (r - s) * ((U : Int) * 4096) := by rw [← Int.add_mul]; congr 1; omega
  have h3b : (r - s) * ((U : Int) * 4096) ≤ (U : Int) * 4096 ∧ -((U : Int) * 4096) ≤ (r - s) * ((U : Int) * 4096) := by
    rcases a with rfl | rfl <;> rcases b with rfl | rfl <;> constructor <;> simp <;> omega
  have h4 : IntKind.i64.wrap ((q + r - s) * ((U : Int) * 4096)) = (q + r - s) * ((U : Int) * 4096) := by rw [IntKind.wrap_i64, h3]; omega
  have h5 : IntKind.i64.wrap (x : Int) = x := by rw [IntKind.wrap_i64]; omega
  have h6 : IntKind.i64.wrap ((x : Int) * U) = x * U := by rw [IntKind.wrap_i64]; omega
  have h7 : IntKind.i64.wrap ((q + r - s) * ((U : Int) * 4096) + x * U) = (q + r - s) * ((U : Int) * 4096) + x * U := by rw [IntKind.wrap_i64, h3]; omega
  rw [h1, h2, h4, h5, h6, h7]

theorem turn_any (b : Nat) (x g : Int) (w : World) (h : w.cell? ⟨b, 0, none⟩ = some (.int .u16 g)) : Calls Tryz.prog 209 #[.int .u16 x, .pointer (some ⟨b, 0, none⟩)] w fun e w' => e = .returned (.int .i64 (trn x g)) ∧ w = w' := by
  go_enter Tryz.func209, Tryz.ntmps209
  go_wp2
  all_goals go_ret
  · refine ⟨?_, rfl⟩
    simp [trn, *]
  · refine ⟨?_, rfl⟩
    simp [trn, *]

/-- The boxes of 'tell': the exponent, the edge, the two closures' cells. -/
structure TellAt (w : World) (be bg bt bh bm e : Nat) (g hi m : Int) : Prop where
  e : w.cell? ⟨be, 0, none⟩ = some (.int .u8 e)
  g : w.cell? ⟨bg, 0, none⟩ = some (.int .u16 g)
  t : w.cell? ⟨bt, 0, none⟩ = some (.func (.func 209) #[] #[.pointer (some ⟨bg, 0, none⟩)])
  h : w.cell? ⟨bh, 0, none⟩ = some (.int .i64 hi)
  m : w.cell? ⟨bm, 0, none⟩ = some (.int .u16 m)
theorem TellAt.drewN {w : World} {be bg bt bh bm e : Nat} {g hi m : Int} (h : TellAt w be bg bt bh bm e g hi m) (n : Nat) : TellAt (w.drewN n) be bg bt bh bm e g hi m := ⟨h.e, h.g, h.t, h.h, h.m⟩

theorem place_any (be bg bt bh bm x e c : Nat) (g hi m : Int) (w : World) (H : TellAt w be bg bt bh bm e g hi m) (he : e ≤ 21) (hx : x < 65536) (hc : c < 4294967296) (hh : hi = (c : Int) / ((2 ^ e : Nat) * 4096)) :
    Calls Tryz.prog 210 #[.int .u16 x, .pointer (some ⟨bh, 0, none⟩), .pointer (some ⟨bt, 0, none⟩), .pointer (some ⟨bm, 0, none⟩), .pointer (some ⟨be, 0, none⟩)] w fun e' w' =>
      e' = .returned (.int .i64 (((c : Int) / ((2 ^ e : Nat) * 4096) + trn x g - trn m g) * ((2 ^ e : Nat) * 4096) + x * (2 ^ e : Nat))) ∧ ∃ n, w.drewN n = w' := by
  have hn := Lib.hid (place_num he hx hc g m)
  rw [← hh] at hn
  obtain ⟨h1, h2, h3, h4, h5⟩ := H
  have hT := Lib.hid (fun (x : Int) (n : Nat) => turn_any bg x g (w.drewN n) h2)
  rw [← hh]
  clear hh he hx hc
  go_enter Tryz.func210, Tryz.ntmps210
  go_wp2_with fail
  go_quiet ((go_at_call 209; exact Calls.quiet_of_same ((hT.out _ _).mono fun _ _ h => ⟨h.1, h.2.symm⟩)))
  go_wp2
  go_ret
  exact ⟨ret_int hn.out, _, rfl⟩

end Go.Proofs.YtkmgdfcambdeeaaGreatDoor
namespace Go.Proofs.YtkmgdfcambdeeaaGreatDoor
open Go.RowKit
set_option linter.unusedVariables false

theorem mayBe_any (b t : Nat) (w : World) (hb : b < 4294967296) : Calls Tryz.prog 167 #[.int .u32 b, .int .u64 t] w fun e w' => e = .returned (.bool (may b t)) ∧ w = w' := by
  by_cases h : (t : Int) ≤ 4294967296
  · go_enter Tryz.func167, Tryz.ntmps167
    go_wp2
    go_ret
    refine ⟨ret_bool ?_, rfl⟩
    unfold may
    rw [decide_eq_decide]
    omega
  · go_enter Tryz.func167, Tryz.ntmps167
    go_wp2
    go_ret
    refine ⟨ret_bool ?_, rfl⟩
    exact (decide_eq_false (by omega)).symm

theorem mantissa_any (bx n x : Nat) (w : World) (h : w.cell? ⟨bx, 0, none⟩ = some (.int .i64 n)) (hn : n ≤ 21) : Calls Tryz.prog 169 #[.int .i64 x, .pointer (some ⟨bx, 0, none⟩)] w fun e w' => e = .returned (.int .u16 (x / 2 ^ n % 4096 : Nat)) ∧ w = w' := by
  have e : IntKind.u16.wrap (((x : Int) / 2 ^ min n 64).tmod 4096) = ((x / 2 ^ n % 4096 : Nat) : Int) := by
    rw [show min n 64 = n from by omega, cast_pow, IntKind.wrap_u16, Int.tmod_eq_emod_of_nonneg (Int.ediv_nonneg (Int.natCast_nonneg _) (Int.natCast_nonneg _)), Int.natCast_emod, Int.natCast_ediv]
    generalize (x : Int) / ((2 ^ n : Nat) : Int) = r
    omega
  replace e := Lib.hid e
  clear hn
  go_enter Tryz.func169, Tryz.ntmps169
  go_wp2
  go_ret
  exact ⟨ret_int e.out, rfl⟩

theorem andnot_nat (x e : Nat) (hx : x < 2 ^ 62) (he : e ≤ 21) : bits .andNot .i64 (x : Int) ((2 ^ e - 1 : Nat) : Int) = (dn (2 ^ e) x : Nat) := by
  have hk : (BitVec.ofInt 64 (x : Int) &&& ~~~BitVec.ofInt 64 ((2 ^ e - 1 : Nat) : Int)).toNat = dn (2 ^ e) x := by
    apply Nat.eq_of_testBit_eq
    intro j
    unfold dn
    rw [BitVec.testBit_toNat, BitVec.ofInt_natCast, BitVec.ofInt_natCast, Nat.testBit_mul_two_pow, Nat.testBit_div_two_pow]
    by_cases hj : j < 64
    · simp only [BitVec.getLsbD_and, BitVec.getLsbD_not, BitVec.getLsbD_ofNat, Nat.testBit_two_pow_sub_one, hj]
      by_cases h : j < e
      · simp [h]; omega
      · have e1 : j - e + e = j := by omega
        simp [h, Nat.not_lt.mp h, e1]
    · have : x.testBit j = false := Nat.testBit_lt_two_pow (Nat.lt_of_lt_of_le hx (Nat.pow_le_pow_right (by decide) (by omega)))
      by_cases h : e ≤ j
      · have e1 : j - e + e = j := by omega
        simp [hj, h, e1, this]
      · simp [hj, h]
  show IntKind.i64.wrap ((BitVec.ofInt 64 (x : Int) &&& ~~~BitVec.ofInt 64 ((2 ^ e - 1 : Nat) : Int)).toNat : Int) = _
  rw [hk, IntKind.wrap_i64]
  have := dn_le (2 ^ e) x
  have h2 : (2 : Nat) ^ 62 = 4611686018427387904 := by decide
  omega

theorem rest_num {e : Nat} (he : e ≤ 21) : wrap64 (wrap64 (2 ^ min e 64) - 1) = ((2 ^ e - 1 : Nat) : Int) := by
  rw [e64 he]
  have hU := pow_le21 he
  have hU1 := pow_pos2 e
  generalize 2 ^ e = U at *
  rw [IntWalk.wrap64_in (U : Int) (by omega), IntWalk.wrap64_in _ (by omega)]
  omega

theorem rounded_any (b t e : Nat) (w : World) (hb : b < 8589934592) (ht : t < 8589934592) (he : e ≤ 21) :
    Calls Tryz.prog 206 #[.agg #[.int .i64 b, .int .i64 t], .int .i64 e] w fun e' w' => e' = .returned (.agg #[.int .i64 (dn (2 ^ e) b : Nat), .int .i64 (up (2 ^ e) t : Nat)]) ∧ Below w.heap.size w w' := by
  have h62 : (2 : Nat) ^ 62 = 4611686018427387904 := by decide
  have hr := rest_num he
  have hU := pow_le21 he
  have hU1 := pow_pos2 e
  have hB : bits BinOp.andNot IntKind.i64 (b : Int) (wrap64 (wrap64 (2 ^ min e 64) - 1)) = (dn (2 ^ e) b : Nat) := by
    rw [hr]; exact andnot_nat b e (by omega) he
  have hs : wrap64 ((t : Int) + wrap64 (wrap64 (2 ^ min e 64) - 1)) = ((t + 2 ^ e - 1 : Nat) : Int) := by
    rw [hr]
    generalize 2 ^ e = U at *
    rw [IntWalk.wrap64_in _ (by omega)]
    omega
  have hT : bits BinOp.andNot IntKind.i64 (wrap64 ((t : Int) + wrap64 (wrap64 (2 ^ min e 64) - 1))) (wrap64 (wrap64 (2 ^ min e 64) - 1)) = (up (2 ^ e) t : Nat) := by
    rw [hs, hr]; exact andnot_nat (t + 2 ^ e - 1) e (by omega) he
  replace hB := Lib.hid hB
  replace hT := Lib.hid hT
  clear hs hr hU hU1 hb ht he h62
  go_enter Tryz.func206, Tryz.ntmps206
  go_wp2
  refine bodyPost_ret (v := .agg #[.int .i64 (dn (2 ^ e) b : Nat), .int .i64 (up (2 ^ e) t : Nat)]) ?_ rfl ⟨rfl, by go_grown⟩
  simp [results, Tryz.results206, go_sem, hB.out, hT.out]

/-- What holds at each round's head: what was given, and what was found last. -/
structure FitAt (w wr : World) (b t : Nat) : Prop where
  g0 : wr.cell? ⟨w.heap.size, 0, none⟩ = some (.int .i64 b)
  g1 : wr.cell? ⟨w.heap.size, 1, none⟩ = some (.int .i64 t)
  f0 : ∃ x, wr.cell? ⟨w.heap.size + 1, 0, none⟩ = some x
  f1 : ∃ x, wr.cell? ⟨w.heap.size + 1, 1, none⟩ = some x
  z0 : wr.frozen? ⟨w.heap.size + 1, 0, none⟩ = false
  z1 : wr.frozen? ⟨w.heap.size + 1, 1, none⟩ = false
  s : w.heap.size + 2 ≤ wr.heap.size
  bl : Below w.heap.size w wr

theorem fit_any (b t : Nat) (w : World) (hb : b ≤ t) (ht : t ≤ 4294967296) :
    Calls Tryz.prog 168 #[.agg #[.int .i64 b, .int .i64 t]] w fun e' w' => e' = .returned (.tuple #[.int .i64 (expo b t), .agg #[.int .i64 (dn (2 ^ expo b t) b : Nat), .int .i64 (up (2 ^ expo b t) t : Nat)]]) ∧ Below w.heap.size w w' := by
  have hR := Lib.hid (fun e (he : e ≤ 21) w => rounded_any b t e w (by omega) (by omega) he)
  have hL := Lib.hid (fun e => expo_is (b := b) (e := e) ht)
  have h21 := Lib.hid (ok_last (b := b) ht)
  go_enter Tryz.func168, Tryz.ntmps168
  go_wp2_with fail
  go_loopw [2, 4] (fun e i wr => ∃ k m : Nat, k ≤ 21 ∧ i = .int .i64 k ∧ e = .int .i64 m ∧ (∀ j, j < k → ¬ okE b t j) ∧ FitAt w wr b t) (fun _ i _ => 22 - (intOf i).toNat)
  case atStart =>
    exact ⟨0, 0, by omega, rfl, rfl, fun j h => absurd h (by omega), by simp [go_sem], by simp [go_sem], ⟨_, by simp [go_sem]; rfl⟩, ⟨_, by simp [go_sem]; rfl⟩, by simp [go_sem], by simp [go_sem], by simp, by go_grown⟩
  case round =>
    obtain ⟨k, m, hk, rfl, rfl, hno, H⟩ := hrel
    have q0 := H.g0
    have q1 := H.g1
    have hok : decide (wrap64 ((up (2 ^ k) t : Nat) - (dn (2 ^ k) b : Nat) : Int) ≤ wrap64 (2048 * 2 ^ k)) = decide (okE b t k) := by
      have hU := pow_le21 hk
      have hU1 := pow_pos2 k
      have a1 := dn_le (2 ^ k) b
      have a2 := up_ge t hU1
      have a3 := up_lt t hU1
      rw [cast_pow, IntWalk.wrap64_in _ (by omega), IntWalk.wrap64_in _ (by omega), decide_eq_decide]
      unfold okE
      omega
    replace hok := Lib.hid hok
    clear hb ht
    go_wp2_with fail
    refine (hR.out k hk wr).mono ?_
    rintro e' w1 ⟨rfl, h1⟩
    have hs := H.s
    have p0 : w1.cell? ⟨w.heap.size, 0, none⟩ = some (.int .i64 b) := (h1.cell (by show w.heap.size < _; omega)).trans H.g0
    have p1 : w1.cell? ⟨w.heap.size, 1, none⟩ = some (.int .i64 t) := (h1.cell (by show w.heap.size < _; omega)).trans H.g1
    obtain ⟨x0, f0⟩ := H.f0
    obtain ⟨x1, f1⟩ := H.f1
    replace f0 : w1.cell? ⟨w.heap.size + 1, 0, none⟩ = some x0 := (h1.cell (by show w.heap.size + 1 < _; omega)).trans f0
    replace f1 : w1.cell? ⟨w.heap.size + 1, 1, none⟩ = some x1 := (h1.cell (by show w.heap.size + 1 < _; omega)).trans f1
    have z0 : w1.frozen? ⟨w.heap.size + 1, 0, none⟩ = false := (h1.frozen (by show w.heap.size + 1 < _; omega)).trans H.z0
    have z1 : w1.frozen? ⟨w.heap.size + 1, 1, none⟩ = false := (h1.frozen (by show w.heap.size + 1 < _; omega)).trans H.z1
    have hb := Lib.hid (H.bl.trans (h1.mono (by omega)))
    have hs1 := Lib.hid (show w.heap.size + 2 ≤ w1.heap.size from Nat.le_trans hs h1.size)
    have hn := Lib.hid hno
    have hR' := hR
    clear H q0 q1 hs h1 hno hR
    generalize hD : dn (2 ^ k) b = D at hok
    generalize hT : up (2 ^ k) t = T at hok
    replace hD := Lib.hid hD
    replace hT := Lib.hid hT
    go_wp2_with fail
    go_quiet (fail)
    rw [hok.out]
    have c0 : ∀ W : World, (∀ p, W.cell? p = ((w1.setCell ⟨w.heap.size + 1, 0, none⟩ (.int .i64 D)).setCell ⟨w.heap.size + 1, 1, none⟩ (.int .i64 T)).cell? p) → W.cell? ⟨w.heap.size + 1, 0, none⟩ = some (.int .i64 D) ∧ W.cell? ⟨w.heap.size + 1, 1, none⟩ = some (.int .i64 T) ∧ W.cell? ⟨w.heap.size, 0, none⟩ = some (.int .i64 b) ∧ W.cell? ⟨w.heap.size, 1, none⟩ = some (.int .i64 t) := by
      intro W hW
      rw [hW, hW, hW, hW]
      refine ⟨?_, ?_, ?_, ?_⟩
      · rw [World.cell?_setCell_other _ _ _ _ (by simp)]; exact World.cell?_setCell_same' _ _ _ (by rw [f0]; rfl)
      · exact World.cell?_setCell_same' _ _ _ (by rw [World.cell?_setCell_other _ _ _ _ (by simp), f1]; rfl)
      · rw [World.cell?_setCell_other _ _ _ _ (by simp), World.cell?_setCell_other _ _ _ _ (by simp)]; exact p0
      · rw [World.cell?_setCell_other _ _ _ _ (by simp), World.cell?_setCell_other _ _ _ _ (by simp)]; exact p1
    obtain ⟨W3, hW3⟩ : ∃ W3, W3 = ((w1.setCell ⟨w.heap.size + 1, 0, none⟩ (.int .i64 D)).setCell ⟨w.heap.size + 1, 1, none⟩ (.int .i64 T)).drewN nq := ⟨_, rfl⟩
    rw [← hW3]
    have c1 := c0 W3 (by rw [hW3]; exact fun _ => rfl)
    have y0 : W3.frozen? ⟨w.heap.size + 1, 0, none⟩ = false := by rw [hW3]; show World.frozen? ((w1.setCell _ _).setCell _ _) _ = _; rw [World.frozen?_setCell, World.frozen?_setCell]; exact z0
    have y1 : W3.frozen? ⟨w.heap.size + 1, 1, none⟩ = false := by rw [hW3]; show World.frozen? ((w1.setCell _ _).setCell _ _) _ = _; rw [World.frozen?_setCell, World.frozen?_setCell]; exact z1
    have hb3 : Below w.heap.size w W3 := by rw [hW3]; exact below_drewN ((hb.out.setCell (by simp) _).setCell (by simp) _) _
    have hs3 : w.heap.size + 2 ≤ W3.heap.size := by rw [hW3]; show _ ≤ ((w1.setCell _ _).setCell _ _).heap.size; simpa [World.setCell] using hs1.out
    replace hb3 := Lib.hid hb3
    replace hs3 := Lib.hid hs3
    clear c0 hW3 p0 p1 f0 f1 z0 z1 hb hs1
    obtain ⟨c1, c2, c3, c4⟩ := c1
    by_cases ok : okE b t k
    · rw [decide_eq_true ok]
      have he := Lib.hid (hL.out k ok hn.out)
      clear hok ok
      go_wp2_with fail
      go_region
      go_wp2
      have k2 : ∀ W : World, (∀ p, W.cell? p = ((W3.setCell ⟨w.heap.size + 1, 0, none⟩ (.int .i64 D)).setCell ⟨w.heap.size + 1, 1, none⟩ (.int .i64 T)).cell? p) → W.cell? ⟨w.heap.size + 1, 0, none⟩ = some (.int .i64 D) ∧ W.cell? ⟨w.heap.size + 1, 1, none⟩ = some (.int .i64 T) := by
        intro W hW
        rw [hW, hW]
        refine ⟨?_, ?_⟩
        · rw [World.cell?_setCell_other _ _ _ _ (by simp)]; exact World.cell?_setCell_same' _ _ _ (by rw [c1]; rfl)
        · exact World.cell?_setCell_same' _ _ _ (by rw [World.cell?_setCell_other _ _ _ _ (by simp), c2]; rfl)
      obtain ⟨W4, hW4⟩ : ∃ W4, W4 = ((W3.setCell ⟨w.heap.size + 1, 0, none⟩ (.int .i64 D)).setCell ⟨w.heap.size + 1, 1, none⟩ (.int .i64 T)).drew := ⟨_, rfl⟩
      rw [← hW4]
      have kk := k2 W4 (by rw [hW4]; exact fun _ => rfl)
      have hb4 : Below w.heap.size w W4 := by rw [hW4]; exact ((hb3.out.setCell (by simp) _).setCell (by simp) _).drew
      rw [he.out, hD.out, hT.out]
      exact bodyPost_ret (v := .tuple #[.int .i64 k, .agg #[.int .i64 D, .int .i64 T]]) (by simp [results, Tryz.results168, go_sem, kk.1, kk.2]) rfl ⟨rfl, hb4⟩
    · rw [decide_eq_false ok]
      have hk' : k < 21 := by
        rcases Nat.lt_or_ge k 21 with h | h
        · exact h
        · have : k = 21 := by omega
          subst this
          exact absurd h21.out ok
      replace ok := Lib.hid ok
      go_wp2_with fail
      go_roundw
      case rel =>
        refine ⟨k + 1, k, by omega, by go_num, rfl, fun j hj => ?_, c3, c4, ⟨_, c1⟩, ⟨_, c2⟩, y0, y1, hs3.out, hb3.out⟩
        rcases Nat.lt_or_ge j k with h | h
        · exact hn.out j h
        · have : j = k := by omega
          subst this
          exact ok.out
      case measure => simp [intOf]; omega
end Go.Proofs.YtkmgdfcambdeeaaGreatDoor
namespace Go.Proofs.YtkmgdfcambdeeaaGreatDoor
open Go.RowKit
set_option linter.unusedVariables false

theorem may_of {b t : Nat} (hb : b ≤ t) (ht : t ≤ 4294967296) : may b t = true := decide_eq_true ⟨hb, ht⟩
theorem enE_of {b t : Nat} (hb : b ≤ t) (ht : t ≤ 4294967296) : enE b t = expo b t := by simp [enE, may_of hb ht]
theorem rdB_of {b t : Nat} (hb : b ≤ t) (ht : t ≤ 4294967296) : rdB b t = dn (2 ^ expo b t) b := by simp [rdB, may_of hb ht]
theorem rdT_of {b t : Nat} (hb : b ≤ t) (ht : t ≤ 4294967296) : rdT b t = up (2 ^ expo b t) t := by simp [rdT, may_of hb ht]
theorem enB_of {b t : Nat} (hb : b ≤ t) (ht : t ≤ 4294967296) : enB b t = b / 2 ^ expo b t % 4096 := by
  unfold enB
  rw [rdB_of hb ht, enE_of hb ht]
  unfold dn
  rw [Nat.mul_div_cancel _ (pow_pos2 _)]
theorem enT_of {b t : Nat} (hb : b ≤ t) (ht : t ≤ 4294967296) : enT b t = (t + 2 ^ expo b t - 1) / 2 ^ expo b t % 4096 := by
  unfold enT
  rw [rdT_of hb ht, enE_of hb ht]
  unfold up
  rw [Nat.mul_div_cancel _ (pow_pos2 _)]

/-- The base's and the top's numbers of units are at most 2048 apart. -/
theorem apart {b t : Nat} (hb : b ≤ t) (ht : t ≤ 4294967296) : b / 2 ^ expo b t ≤ (t + 2 ^ expo b t - 1) / 2 ^ expo b t ∧ (t + 2 ^ expo b t - 1) / 2 ^ expo b t ≤ b / 2 ^ expo b t + 2048 := by
  have h := expo_ok b ht
  unfold okE up dn at h
  have h1 := pow_pos2 (expo b t)
  generalize 2 ^ expo b t = U at *
  constructor
  · exact Nat.div_le_div_right (by omega)
  · generalize (t + U - 1) / U = p at *
    generalize b / U = q at *
    have : p * U ≤ (q + 2048) * U := by rw [Nat.add_mul]; omega
    exact Nat.le_of_mul_le_mul_right this (by omega)

theorem window {b t c : Nat} (hb : b ≤ t) (ht : t ≤ 4294967296) (h1 : b / 2 ^ expo b t ≤ c / 2 ^ expo b t + 1024) (h2 : c / 2 ^ expo b t < b / 2 ^ expo b t + 3072) :
    plc (2 ^ expo b t : Nat) (enB b t) c (enB b t) = (dn (2 ^ expo b t) b : Nat) ∧ plc (2 ^ expo b t : Nat) (enB b t) c (enT b t) = (up (2 ^ expo b t) t : Nat) := by
  obtain ⟨a1, a2⟩ := apart hb ht
  have hu := pow_pos2 (expo b t)
  rw [enB_of hb ht, enT_of hb ht]
  unfold dn up
  generalize 2 ^ expo b t = U at *
  have hc : ((c / U : Nat) : Int) = (c : Int) / (U : Int) := Int.natCast_ediv _ _
  generalize hp : (t + U - 1) / U = p at *
  generalize hq : b / U = q at *
  have e1 := told U hu (q : Int) (q : Int) c (by omega) (by omega) (by omega) (by omega)
  have e2 := told U hu (q : Int) (p : Int) c (by omega) (by omega) (by omega) (by omega)
  constructor
  · rw [Int.natCast_mul]
    have : ((q % 4096 : Nat) : Int) = (q : Int) % 4096 := by omega
    rw [this]; exact e1
  · rw [Int.natCast_mul]
    have h3 : ((q % 4096 : Nat) : Int) = (q : Int) % 4096 := by omega
    have h4 : ((p % 4096 : Nat) : Int) = (p : Int) % 4096 := by omega
    rw [h3, h4]; exact e2

theorem window_is {b t c : Nat} (hb : b ≤ t) (ht : t ≤ 4294967296) (h1 : b / 2 ^ expo b t ≤ c / 2 ^ expo b t + 1024) (h2 : c / 2 ^ expo b t < b / 2 ^ expo b t + 3072) :
    isB (enE b t) (enB b t) (enT b t) c = true := by
  have w := window hb ht h1 h2
  have m1 : enB b t < 4096 := Nat.mod_lt _ (by decide)
  have m2 : enT b t < 4096 := Nat.mod_lt _ (by decide)
  have u := up_le_of_dvd (pow_pos2 (expo b t)) (dvd_whole (Nat.le_trans (expo_le b ht) (by decide))) ht
  have d := dn_le (2 ^ expo b t) b
  have g := up_ge t (pow_pos2 (expo b t))
  unfold isB
  rw [enE_of hb ht, w.1, w.2]
  refine decide_eq_true ⟨expo_le b ht, m1, m2, ?_, ?_, ?_⟩
  · omega
  · omega
  · omega

theorem tells {b t c : Nat} (hb : b ≤ t) (ht : t ≤ 4294967296) (hb2 : b < 4294967296) (h1 : b / 2 ^ expo b t ≤ c / 2 ^ expo b t + 1024) (h2 : c / 2 ^ expo b t < b / 2 ^ expo b t + 3072) :
    deB (enE b t) (enB b t) (enT b t) c = (dn (2 ^ expo b t) b : Nat) ∧ deT (enE b t) (enB b t) (enT b t) c = (up (2 ^ expo b t) t : Nat) := by
  have w := window hb ht h1 h2
  have i := window_is hb ht h1 h2
  have d := dn_le (2 ^ expo b t) b
  have e : teB (enE b t) (enB b t) (enT b t) c = (dn (2 ^ expo b t) b : Nat) := by unfold teB; rw [i, if_pos rfl, enE_of hb ht]; exact w.1
  have f : teT (enE b t) (enB b t) (enT b t) c = (up (2 ^ expo b t) t : Nat) := by unfold teT; rw [i, if_pos rfl, enE_of hb ht]; exact w.2
  unfold deB deT
  rw [e, f, if_neg (by omega), if_neg (by omega)]
  exact ⟨rfl, rfl⟩

theorem within {b t c : Nat} (hb : b ≤ t) (ht : t ≤ 4294967296) (h1 : b ≤ c) (h2 : c ≤ t) : b / 2 ^ expo b t ≤ c / 2 ^ expo b t + 1024 ∧ c / 2 ^ expo b t < b / 2 ^ expo b t + 3072 := by
  obtain ⟨a1, a2⟩ := apart hb ht
  have hu := pow_pos2 (expo b t)
  generalize 2 ^ expo b t = U at *
  have := Nat.div_le_div_right (c := U) h1
  have := Nat.div_le_div_right (c := U) (show c ≤ t + U - 1 by omega)
  omega

end Go.Proofs.YtkmgdfcambdeeaaGreatDoor
