/- Proved: a number's bytes are the number, and 12 bytes 0; and what has bytes like that, and is not valid, is a number (CapsNumbers). For every input; no condition. -/
import Derived.Test.YtikgeombccoahaaRows
import Derived.Test.YtikgeombccoahaaCapW
import Derived.Test.YtikgeombccoahaaCapN
import Derived.Test.YtikgeombccoahaaCapK
import Derived.Test.YtikgeombccoahaaFlat
import Derived.Deep.RegionHeld3
import Derived.ProofKit
import Derived.OpenShut
import Derived.ShutString
import Derived.ChangeOld
namespace Go.Proofs.Ytikgeombccoahaa.cnums
open Go.ChangeShapes Go.WideShapes Go.ChangeAt Go.RowKit
open Go.ChangeMaps (open_string shut_string)
set_option linter.unusedVariables false

theorem byte_of {x : Int} (h : (Lit.int .u8 x).wf = true) : ∃ u : UInt8, x = (u.toNat : Int) := by
  have := bounds_u8 h
  refine ⟨UInt8.ofNat x.toNat, ?_⟩
  rw [UInt8.toNat_ofNat']
  omega
/-- Are the bytes from place 4 to place i nought? -/
def restOf (l : List UInt8) (i : Nat) : Bool := ((l.drop 4).take (i - 4)).all (· == 0)
theorem restOf_step {l : List UInt8} {i : Nat} {u : UInt8} (h : l[i]? = some u) (hi : 4 ≤ i) : restOf l (i + 1) = (restOf l i && u == 0) := by
  unfold restOf
  have hlt := (List.getElem?_eq_some_iff.1 h).1
  have e : (l.drop 4).take (i + 1 - 4) = (l.drop 4).take (i - 4) ++ [u] := by
    rw [show i + 1 - 4 = (i - 4) + 1 from by omega, List.take_add_one, List.getElem?_drop, show 4 + (i - 4) = i from by omega, h]
    rfl
  rw [e, List.all_append]
  simp
theorem le_zero : ∀ l : List UInt8, le l = 0 ↔ l.all (· == 0) = true
  | [] => by simp [le]
  | b :: r => by
    have := le_zero r
    show b.toNat + 256 * le r = 0 ↔ _
    rw [List.all_cons, Bool.and_eq_true, ← this]
    constructor
    · intro h; exact ⟨by simp [← UInt8.toNat_inj]; omega, by omega⟩
    · intro ⟨h1, h2⟩
      have : b = 0 := by simpa using h1
      subst this
      simp [h2]
theorem isNum_rest {l : List UInt8} (hl : l.length = 16) : isNumP (nm l 4 1) (nm l 5 2) (nm l 7 2) (nm l 9 2) (nm l 11 2) (nm l 13 3) false = restOf l 16 := by
  have e : (l.drop 4).take (16 - 4) = (l.drop 4).take 1 ++ (l.drop 5).take 2 ++ (l.drop 7).take 2 ++ (l.drop 9).take 2 ++ (l.drop 11).take 2 ++ (l.drop 13).take 3 := by
    have k : ∀ a m n, (l.drop a).take m ++ (l.drop (a + m)).take n = (l.drop a).take (m + n) := fun a m n => by
      rw [List.take_add, List.drop_drop]
    rw [k 4 1 2, k 4 (1 + 2) 2, k 4 (1 + 2 + 2) 2, k 4 (1 + 2 + 2 + 2) 2, k 4 (1 + 2 + 2 + 2 + 2) 3]
  unfold restOf
  rw [e]
  simp only [List.all_append]
  rw [Bool.eq_iff_iff]
  simp only [isNumP, nm, le_zero, decide_eq_true_eq, Bool.and_eq_true, and_true, and_assoc]

/-- The bytes' box. -/
structure BN (W : World) (l : List UInt8) (w : World) : Prop where
  x : RB w (W.heap.size + 1) (some ⟨W.heap.size, 0, none⟩) l
  bl : Below W.heap.size W w
  n : W.heap.size < w.heap.size
theorem BN.below {W : World} {l : List UInt8} {w w' : World} (h : BN W l w) (k : Below w.heap.size w w') : BN W l w' :=
  ⟨h.x.keep (fun q hq => k.cell (by have := h.n; omega)), h.bl.trans (k.mono (by have := h.n; omega)), Nat.lt_of_lt_of_le h.n k.size⟩

theorem BN.at {W : World} {l : List UInt8} {w : World} {j : Nat} {u : UInt8} (h : BN W l w) (hu : l[j]? = some u) : w.cell? ⟨W.heap.size, j, none⟩ = some (.int .u8 (u.toNat : Int)) := by
  obtain ⟨b, off, e1, e2, e3⟩ := h.x (by have := (List.getElem?_eq_some_iff.1 hu).1; omega)
  injection e1 with e1
  injection e1 with e1 e4
  subst e1 e4
  have := e3 j u hu
  rwa [Nat.zero_add] at this
theorem BN.drew {W : World} {l : List UInt8} {w : World} (h : BN W l w) : BN W l w.drew := ⟨h.x.drew, h.bl.drew, h.n⟩

theorem BN.first (W : World) (u0 u1 u2 u3 u4 u5 u6 u7 u8 u9 u10 u11 u12 u13 u14 u15 : UInt8) : BN W [u0, u1, u2, u3, u4, u5, u6, u7, u8, u9, u10, u11, u12, u13, u14, u15] (W.alloc (.cells #[.int .u8 (u0.toNat : Int), .int .u8 (u1.toNat : Int), .int .u8 (u2.toNat : Int), .int .u8 (u3.toNat : Int), .int .u8 (u4.toNat : Int), .int .u8 (u5.toNat : Int), .int .u8 (u6.toNat : Int), .int .u8 (u7.toNat : Int), .int .u8 (u8.toNat : Int), .int .u8 (u9.toNat : Int), .int .u8 (u10.toNat : Int), .int .u8 (u11.toNat : Int), .int .u8 (u12.toNat : Int), .int .u8 (u13.toNat : Int), .int .u8 (u14.toNat : Int), .int .u8 (u15.toNat : Int)] 41)) := by
  refine ⟨fun _ => ⟨_, 0, rfl, by omega, fun j u hu => ?_⟩, (Below.refl _ _).alloc (Nat.le_refl _) _, by simp⟩
  rw [World.cell?_alloc_at (hn := rfl), Nat.zero_add]
  have hj : j < 16 := by simpa using (List.getElem?_eq_some_iff.1 hu).1
  have : j = 0 ∨ j = 1 ∨ j = 2 ∨ j = 3 ∨ j = 4 ∨ j = 5 ∨ j = 6 ∨ j = 7 ∨ j = 8 ∨ j = 9 ∨ j = 10 ∨ j = 11 ∨ j = 12 ∨ j = 13 ∨ j = 14 ∨ j = 15 := by omega
  rcases this with rfl | rfl | rfl | rfl | rfl | rfl | rfl | rfl | rfl | rfl | rfl | rfl | rfl | rfl | rfl | rfl <;> (simp at hu; subst hu; rfl)

/-- What is kept behind the loop. -/
structure SN (W : World) (bz k0 k1 k2 k3 k4 k5 k6 : Nat) (w : World) : Prop where
  c : CapAt w bz k0 k1 k2 k3 k4 k5 k6 false
  bl : Below W.heap.size W w
  n : bz < w.heap.size
  m : W.heap.size < w.heap.size
theorem SN.below {W : World} {bz k0 k1 k2 k3 k4 k5 k6 : Nat} {w w' : World} (h : SN W bz k0 k1 k2 k3 k4 k5 k6 w) (k : Below w.heap.size w w') : SN W bz k0 k1 k2 k3 k4 k5 k6 w' :=
  ⟨h.c.below k h.n, h.bl.trans (k.mono (Nat.le_of_lt h.m)), Nat.lt_of_lt_of_le h.n k.size, Nat.lt_of_lt_of_le h.m k.size⟩
theorem SN.alloc {W : World} {bz k0 k1 k2 k3 k4 k5 k6 : Nat} {w : World} (h : SN W bz k0 k1 k2 k3 k4 k5 k6 w) (ob : Obj) : SN W bz k0 k1 k2 k3 k4 k5 k6 (w.alloc ob) := h.below ((Below.refl _ _).alloc (Nat.le_refl _) ob)
theorem SN.drew {W : World} {bz k0 k1 k2 k3 k4 k5 k6 : Nat} {w : World} (h : SN W bz k0 k1 k2 k3 k4 k5 k6 w) : SN W bz k0 k1 k2 k3 k4 k5 k6 w.drew := ⟨h.c.drew, h.bl.drew, h.n, h.m⟩

set_option maxRecDepth 100000 in
set_option maxHeartbeats 2000000 in
theorem walkN (v : Nat) (u0 u1 u2 u3 u4 u5 u6 u7 u8 u9 u10 u11 u12 u13 u14 u15 : UInt8) (lv : v < 4294967296) (W : World) :
    Calls Try.prog 8 #[.int .u32 v, .agg #[.int .u8 (u0.toNat : Int), .int .u8 (u1.toNat : Int), .int .u8 (u2.toNat : Int), .int .u8 (u3.toNat : Int), .int .u8 (u4.toNat : Int), .int .u8 (u5.toNat : Int), .int .u8 (u6.toNat : Int), .int .u8 (u7.toNat : Int), .int .u8 (u8.toNat : Int), .int .u8 (u9.toNat : Int), .int .u8 (u10.toNat : Int), .int .u8 (u11.toNat : Int), .int .u8 (u12.toNat : Int), .int .u8 (u13.toNat : Int), .int .u8 (u14.toNat : Int), .int .u8 (u15.toNat : Int)]] W fun e w' => e = .returned (.bool true) ∧ Below W.heap.size W w' := by
  have hW := Lib.hid (fun w => works_any w)
  have hN := Lib.hid (fun w => pNumber_any v lv w)
  have hB := Lib.hid (fun w => pBytes_any v 0 0 0 0 0 0 false lv (by decide) (by decide) (by decide) (by decide) (by decide) (by decide) w)
  have h0 := BN.first W u0 u1 u2 u3 u4 u5 u6 u7 u8 u9 u10 u11 u12 u13 u14 u15
  generalize hl : [u0, u1, u2, u3, u4, u5, u6, u7, u8, u9, u10, u11, u12, u13, u14, u15] = l at h0
  have hl16 : l.length = 16 := by rw [← hl]; rfl
  clear hl
  have hO := Lib.hid (fun w => pOf_yes l false hl16 w)
  have m0 := nm_lt l 0 4
  have m1 := nm_lt l 4 1
  have m2 := nm_lt l 5 2
  have m3 := nm_lt l 7 2
  have m4 := nm_lt l 9 2
  have m5 := nm_lt l 11 2
  have m6 := nm_lt l 13 3
  simp only [Nat.reducePow] at m0 m1 m2 m3 m4 m5 m6
  have hI := Lib.hid (fun w => pIsNumber_any (nm l 0 4) (nm l 4 1) (nm l 5 2) (nm l 7 2) (nm l 9 2) (nm l 11 2) (nm l 13 3) false m0 m1 m2 m3 m4 m5 (by omega) w)
  rw [isNum_rest hl16] at hI
  rw [Bool.false_and] at hO
  generalize nm l 0 4 = k0 at *
  generalize nm l 4 1 = k1 at *
  generalize nm l 5 2 = k2 at *
  generalize nm l 7 2 = k3 at *
  generalize nm l 9 2 = k4 at *
  generalize nm l 11 2 = k5 at *
  generalize nm l 13 3 = k6 at *
  clear m0 m1 m2 m3 m4 m5 m6
  replace h0 := Lib.hid h0
  go_enter Try.func8, Try.ntmps8
  go_wp2_with fail
  generalize (W.alloc (.cells #[.int .u8 (u0.toNat : Int), .int .u8 (u1.toNat : Int), .int .u8 (u2.toNat : Int), .int .u8 (u3.toNat : Int), .int .u8 (u4.toNat : Int), .int .u8 (u5.toNat : Int), .int .u8 (u6.toNat : Int), .int .u8 (u7.toNat : Int), .int .u8 (u8.toNat : Int), .int .u8 (u9.toNat : Int), .int .u8 (u10.toNat : Int), .int .u8 (u11.toNat : Int), .int .u8 (u12.toNat : Int), .int .u8 (u13.toNat : Int), .int .u8 (u14.toNat : Int), .int .u8 (u15.toNat : Int)] 41)) = W0 at *
  refine (hW.out _).mono ?_
  rintro e w1 ⟨rfl, h1⟩
  replace h0 := Lib.hid (h0.out.below h1)
  clear h1
  go_wp2_with fail
  refine (hN.out _).mono ?_
  rintro e w2 ⟨rfl, h1⟩
  replace h0 := Lib.hid (h0.out.below h1)
  clear h1
  go_wp2_with fail
  refine (hB.out _).mono ?_
  rintro e w3 ⟨rfl, h1⟩
  replace h0 := h0.out.below h1
  have hcv := conv_RB 16 h0.x
  rw [hl16] at hcv
  replace h0 := Lib.hid h0
  clear h1
  go_wp2_with fail
  refine (hO.out _).mono ?_
  rintro e X ⟨rfl, h1⟩
  replace h0 := Lib.hid (h0.out.below h1)
  clear h1 hcv
  go_upto_region 5 with (fail)
  have b3 : Below X.heap.size X (X.alloc (.cells #[.int .u32 k0, .int .u8 k1, .int .u16 k2, .int .u16 k3, .int .u16 k4, .int .u16 k5, .int .u32 k6, .bool false] 25)) := (Below.refl _ _).alloc (Nat.le_refl _) _
  have K0 : BN W l (X.alloc (.cells #[.int .u32 k0, .int .u8 k1, .int .u16 k2, .int .u16 k3, .int .u16 k4, .int .u16 k5, .int .u32 k6, .bool false] 25)) ∧ CapAt (X.alloc (.cells #[.int .u32 k0, .int .u8 k1, .int .u16 k2, .int .u16 k3, .int .u16 k4, .int .u16 k5, .int .u32 k6, .bool false] 25)) X.heap.size k0 k1 k2 k3 k4 k5 k6 false ∧ X.heap.size < (X.alloc (.cells #[.int .u32 k0, .int .u8 k1, .int .u16 k2, .int .u16 k3, .int .u16 k4, .int .u16 k5, .int .u32 k6, .bool false] 25)).heap.size := ⟨h0.out.below b3, CapAt.make X k0 k1 k2 k3 k4 k5 k6 false, by simp⟩
  generalize X.heap.size = bz at *
  generalize X.alloc (.cells #[.int .u32 k0, .int .u8 k1, .int .u16 k2, .int .u16 k3, .int .u16 k4, .int .u16 k5, .int .u32 k6, .bool false] 25) = Y at *
  clear b3 h0
  replace K0 := Lib.hid K0
  go_wp2_with fail
  go_loop [8, 9] (fun r i => ∃ j : Nat, 4 ≤ j ∧ j ≤ 16 ∧ i = .int .i64 j ∧ r = .bool (restOf l j)) (fun _ i => 16 - (intOf i).toNat)
  case atStart => exact ⟨4, by omega, by omega, rfl, by simp [restOf]⟩
  case round =>
    obtain ⟨j, hj4, hj16, rfl, rfl⟩ := hrel
    by_cases hlt : j < 16
    · obtain ⟨u, hu⟩ : ∃ u, l[j]? = some u := ⟨l[j], List.getElem?_eq_getElem (by omega)⟩
      have hcell := K0.out.1.at hu
      have hst := restOf_step hu hj4
      have hlt' : (j : Int) < 16 := by omega
      replace hst := Lib.hid hst
      clear hu hW hN hB hO hI
      generalize hR : restOf l j = R at *
      replace hR := Lib.hid hR
      cases R
      · go_wp2_with fail
        go_round
        case rel => exact ⟨j + 1, by omega, by omega, by go_num, by rw [hst.out]; rfl⟩
        case measure => simp [intOf]; omega
      · by_cases hz : u = 0
        · subst hz
          go_wp2_with fail
          go_round
          case rel => exact ⟨j + 1, by omega, by omega, by go_num, by rw [hst.out]; rfl⟩
          case measure => simp [intOf]; omega
        · have hz2 : ((u.toNat : Int) == 0) = false := by
            rw [beq_eq_false_iff_ne]; intro e; apply hz; apply UInt8.toNat_inj.1; simpa using e
          have hz3 : (u == 0) = false := by simpa using hz
          replace hz3 := Lib.hid hz3
          go_wp2_with fail
          go_round
          case rel => exact ⟨j + 1, by omega, by omega, by go_num, by rw [hst.out, hz3.out]; rfl⟩
          case measure => simp [intOf]; omega
    · obtain rfl : j = 16 := by omega
      generalize restOf l 16 = R at *
      go_wp2_with fail
      have all : ∀ w, SN W bz k0 k1 k2 k3 k4 k5 k6 w → w.cell? ⟨bz, 0, none⟩ = some (.int .u32 k0) ∧ w.cell? ⟨bz, 1, none⟩ = some (.int .u8 k1) ∧ w.cell? ⟨bz, 2, none⟩ = some (.int .u16 k2) ∧ w.cell? ⟨bz, 3, none⟩ = some (.int .u16 k3) ∧ w.cell? ⟨bz, 4, none⟩ = some (.int .u16 k4) ∧ w.cell? ⟨bz, 5, none⟩ = some (.int .u16 k5) ∧ w.cell? ⟨bz, 6, none⟩ = some (.int .u32 k6) ∧ w.cell? ⟨bz, 7, none⟩ = some (.bool false) ∧ SN W bz k0 k1 k2 k3 k4 k5 k6 w := fun w h => ⟨h.c.q0, h.c.q1, h.c.q2, h.c.q3, h.c.q4, h.c.q5, h.c.q6, h.c.q7, h⟩
      have tr : ∀ w, (w.cell? ⟨bz, 0, none⟩ = some (.int .u32 k0) ∧ w.cell? ⟨bz, 1, none⟩ = some (.int .u8 k1) ∧ w.cell? ⟨bz, 2, none⟩ = some (.int .u16 k2) ∧ w.cell? ⟨bz, 3, none⟩ = some (.int .u16 k3) ∧ w.cell? ⟨bz, 4, none⟩ = some (.int .u16 k4) ∧ w.cell? ⟨bz, 5, none⟩ = some (.int .u16 k5) ∧ w.cell? ⟨bz, 6, none⟩ = some (.int .u32 k6) ∧ w.cell? ⟨bz, 7, none⟩ = some (.bool false) ∧ SN W bz k0 k1 k2 k3 k4 k5 k6 w) → SN W bz k0 k1 k2 k3 k4 k5 k6 w := fun w ⟨_, _, _, _, _, _, _, _, h⟩ => h
      have al : ∀ w ob, (w.cell? ⟨bz, 0, none⟩ = some (.int .u32 k0) ∧ w.cell? ⟨bz, 1, none⟩ = some (.int .u8 k1) ∧ w.cell? ⟨bz, 2, none⟩ = some (.int .u16 k2) ∧ w.cell? ⟨bz, 3, none⟩ = some (.int .u16 k3) ∧ w.cell? ⟨bz, 4, none⟩ = some (.int .u16 k4) ∧ w.cell? ⟨bz, 5, none⟩ = some (.int .u16 k5) ∧ w.cell? ⟨bz, 6, none⟩ = some (.int .u32 k6) ∧ w.cell? ⟨bz, 7, none⟩ = some (.bool false) ∧ SN W bz k0 k1 k2 k3 k4 k5 k6 w) → (w.alloc ob).cell? ⟨bz, 0, none⟩ = some (.int .u32 k0) ∧ (w.alloc ob).cell? ⟨bz, 1, none⟩ = some (.int .u8 k1) ∧ (w.alloc ob).cell? ⟨bz, 2, none⟩ = some (.int .u16 k2) ∧ (w.alloc ob).cell? ⟨bz, 3, none⟩ = some (.int .u16 k3) ∧ (w.alloc ob).cell? ⟨bz, 4, none⟩ = some (.int .u16 k4) ∧ (w.alloc ob).cell? ⟨bz, 5, none⟩ = some (.int .u16 k5) ∧ (w.alloc ob).cell? ⟨bz, 6, none⟩ = some (.int .u32 k6) ∧ (w.alloc ob).cell? ⟨bz, 7, none⟩ = some (.bool false) ∧ SN W bz k0 k1 k2 k3 k4 k5 k6 (w.alloc ob) := fun w ob h => all _ ((tr _ h).below ((Below.refl _ _).alloc (Nat.le_refl _) ob))
      have fN := Lib.hid (fun w (h : w.cell? ⟨bz, 0, none⟩ = some (.int .u32 k0) ∧ w.cell? ⟨bz, 1, none⟩ = some (.int .u8 k1) ∧ w.cell? ⟨bz, 2, none⟩ = some (.int .u16 k2) ∧ w.cell? ⟨bz, 3, none⟩ = some (.int .u16 k3) ∧ w.cell? ⟨bz, 4, none⟩ = some (.int .u16 k4) ∧ w.cell? ⟨bz, 5, none⟩ = some (.int .u16 k5) ∧ w.cell? ⟨bz, 6, none⟩ = some (.int .u32 k6) ∧ w.cell? ⟨bz, 7, none⟩ = some (.bool false) ∧ SN W bz k0 k1 k2 k3 k4 k5 k6 w) => (hN.out w).mono (R' := fun ee w' => ee = .returned (.agg #[.int .u32 v, .int .u8 0, .int .u16 0, .int .u16 0, .int .u16 0, .int .u16 0, .int .u32 0, .bool false]) ∧ w'.cell? ⟨bz, 0, none⟩ = some (.int .u32 k0) ∧ w'.cell? ⟨bz, 1, none⟩ = some (.int .u8 k1) ∧ w'.cell? ⟨bz, 2, none⟩ = some (.int .u16 k2) ∧ w'.cell? ⟨bz, 3, none⟩ = some (.int .u16 k3) ∧ w'.cell? ⟨bz, 4, none⟩ = some (.int .u16 k4) ∧ w'.cell? ⟨bz, 5, none⟩ = some (.int .u16 k5) ∧ w'.cell? ⟨bz, 6, none⟩ = some (.int .u32 k6) ∧ w'.cell? ⟨bz, 7, none⟩ = some (.bool false) ∧ SN W bz k0 k1 k2 k3 k4 k5 k6 w') fun _ _ k => ⟨k.1, all _ ((tr _ h).below k.2)⟩)
      have fI := Lib.hid (fun w (h : w.cell? ⟨bz, 0, none⟩ = some (.int .u32 k0) ∧ w.cell? ⟨bz, 1, none⟩ = some (.int .u8 k1) ∧ w.cell? ⟨bz, 2, none⟩ = some (.int .u16 k2) ∧ w.cell? ⟨bz, 3, none⟩ = some (.int .u16 k3) ∧ w.cell? ⟨bz, 4, none⟩ = some (.int .u16 k4) ∧ w.cell? ⟨bz, 5, none⟩ = some (.int .u16 k5) ∧ w.cell? ⟨bz, 6, none⟩ = some (.int .u32 k6) ∧ w.cell? ⟨bz, 7, none⟩ = some (.bool false) ∧ SN W bz k0 k1 k2 k3 k4 k5 k6 w) => (hI.out w).mono (R' := fun ee w' => ee = .returned (.bool R) ∧ w'.cell? ⟨bz, 0, none⟩ = some (.int .u32 k0) ∧ w'.cell? ⟨bz, 1, none⟩ = some (.int .u8 k1) ∧ w'.cell? ⟨bz, 2, none⟩ = some (.int .u16 k2) ∧ w'.cell? ⟨bz, 3, none⟩ = some (.int .u16 k3) ∧ w'.cell? ⟨bz, 4, none⟩ = some (.int .u16 k4) ∧ w'.cell? ⟨bz, 5, none⟩ = some (.int .u16 k5) ∧ w'.cell? ⟨bz, 6, none⟩ = some (.int .u32 k6) ∧ w'.cell? ⟨bz, 7, none⟩ = some (.bool false) ∧ SN W bz k0 k1 k2 k3 k4 k5 k6 w') fun _ _ k => ⟨k.1, all _ ((tr _ h).below k.2)⟩)
      have K2 : SN W bz k0 k1 k2 k3 k4 k5 k6 Y := ⟨K0.out.2.1, K0.out.1.bl, K0.out.2.2, K0.out.1.n⟩
      have K1 := Lib.hid (all _ K2.drew)
      obtain ⟨d0, d1, d2, d3, d4, d5, d6, d7, _⟩ := all _ K2
      replace al := Lib.hid al
      clear K2 K0 hI hN hO hB hW all tr
      have hmk : ∀ w : World, (Instr.makeSlice 43 (.int .i64 12) (.int .i64 12)).run Try.prog w = .ok (.slice (some ⟨w.heap.size, 0, none⟩) 12 12) (w.alloc (.cells (madeCells #[.int .u8 0] 12) 5)) := run_make_row' (P := Try.prog) 43 5 (.int .u8 0) 1 Try.underlying43 info8 rfl .i64 .i64 12 (by omega) (by omega)
      have hs16 : (bytesC v 0 0 0 0 0 0).length = 16 := bytesC_length _ _ _ _ _ _ _
      have hx1 : (⟨(bytesC v 0 0 0 0 0 0).toArray⟩ : ByteArray).extract 0 4 = ⟨(leB 4 v).toArray⟩ := by
        rw [ext_list]; simp [bytesC, leB]
      have hx2 : (⟨(bytesC v 0 0 0 0 0 0).toArray⟩ : ByteArray).extract 4 16 = ⟨(List.replicate 12 0).toArray⟩ := by
        rw [ext_list]; simp [bytesC, leB]
      generalize bytesC v 0 0 0 0 0 0 = s at *
      have hcA : (convert 43 9 (.slice (some ⟨Y.heap.size, 0, none⟩) 4 4)).run Try.prog (Y.alloc (.cells #[.int .u8 (IntKind.u8.wrap (v : Int)), .int .u8 (IntKind.u8.wrap ((v : Int) / 256)), .int .u8 (IntKind.u8.wrap ((v : Int) / 65536)), .int .u8 (IntKind.u8.wrap ((v : Int) / 16777216))] 5)).drew = .ok (.string ⟨(leB 4 v).toArray⟩) (Y.alloc (.cells #[.int .u8 (IntKind.u8.wrap (v : Int)), .int .u8 (IntKind.u8.wrap ((v : Int) / 256)), .int .u8 (IntKind.u8.wrap ((v : Int) / 65536)), .int .u8 (IntKind.u8.wrap ((v : Int) / 16777216))] 5)).drew := by
        refine run_convert_bytes_back (P := Try.prog) _ 43 9 5 ⟨Y.heap.size, 0, none⟩ 4 (leB 4 v) Try.underlying43 Try.underlying5 Try.underlying9 (fun j hj => ?_)
        rw [Addr.add_lit, Nat.zero_add]
        show World.cell? (Y.alloc (.cells #[.int .u8 (IntKind.u8.wrap (v : Int)), .int .u8 (IntKind.u8.wrap ((v : Int) / 256)), .int .u8 (IntKind.u8.wrap ((v : Int) / 65536)), .int .u8 (IntKind.u8.wrap ((v : Int) / 16777216))] 5)) _ = _
        rw [World.cell?_alloc_at (hn := rfl)]
        have hj4 : j < 4 := by simpa [leB_length] using hj
        have : j = 0 ∨ j = 1 ∨ j = 2 ∨ j = 3 := by omega
        rcases this with rfl | rfl | rfl | rfl <;> (simp [leB, IntKind.wrap_u8] <;> omega)
      have hcB : (convert 43 9 (.slice (some ⟨Y.heap.size + 1, 0, none⟩) 12 12)).run Try.prog ((Y.alloc (.cells #[.int .u8 (IntKind.u8.wrap (v : Int)), .int .u8 (IntKind.u8.wrap ((v : Int) / 256)), .int .u8 (IntKind.u8.wrap ((v : Int) / 65536)), .int .u8 (IntKind.u8.wrap ((v : Int) / 16777216))] 5)).alloc (.cells (madeCells #[.int .u8 0] 12) 5)).drew = .ok (.string ⟨(List.replicate 12 0).toArray⟩) ((Y.alloc (.cells #[.int .u8 (IntKind.u8.wrap (v : Int)), .int .u8 (IntKind.u8.wrap ((v : Int) / 256)), .int .u8 (IntKind.u8.wrap ((v : Int) / 65536)), .int .u8 (IntKind.u8.wrap ((v : Int) / 16777216))] 5)).alloc (.cells (madeCells #[.int .u8 0] 12) 5)).drew := by
        refine run_convert_bytes_back (P := Try.prog) _ 43 9 5 ⟨Y.heap.size + 1, 0, none⟩ 12 (List.replicate 12 0) Try.underlying43 Try.underlying5 Try.underlying9 (fun j hj => ?_)
        rw [Addr.add_lit, Nat.zero_add]
        show World.cell? ((Y.alloc (.cells #[.int .u8 (IntKind.u8.wrap (v : Int)), .int .u8 (IntKind.u8.wrap ((v : Int) / 256)), .int .u8 (IntKind.u8.wrap ((v : Int) / 65536)), .int .u8 (IntKind.u8.wrap ((v : Int) / 16777216))] 5)).alloc (.cells (madeCells #[.int .u8 0] 12) 5)) _ = _
        have hj4 : j < 12 := by simpa using hj
        rw [World.cell?_alloc_at (hn := by simp), ← Array.getElem?_toList, toList_madeCells_one, List.getElem?_replicate, if_pos hj4, List.getElem_replicate]
        rfl
      have hfld : ∀ w : World, (Instr.field 25 (.agg #[.int .u32 (v : Int), .int .u8 0, .int .u16 0, .int .u16 0, .int .u16 0, .int .u16 0, .int .u32 0, .bool false]) 0).run Try.prog w = .ok (.int .u32 v) w := fun w => by kernel_rfl
      go_region_held (fun w' => w'.cell? ⟨bz, 0, none⟩ = some (.int .u32 k0) ∧ w'.cell? ⟨bz, 1, none⟩ = some (.int .u8 k1) ∧ w'.cell? ⟨bz, 2, none⟩ = some (.int .u16 k2) ∧ w'.cell? ⟨bz, 3, none⟩ = some (.int .u16 k3) ∧ w'.cell? ⟨bz, 4, none⟩ = some (.int .u16 k4) ∧ w'.cell? ⟨bz, 5, none⟩ = some (.int .u16 k5) ∧ w'.cell? ⟨bz, 6, none⟩ = some (.int .u32 k6) ∧ w'.cell? ⟨bz, 7, none⟩ = some (.bool false) ∧ SN W bz k0 k1 k2 k3 k4 k5 k6 w')
        (first | exact K1.out | exact k1 | exact al.out _ _ (by assumption) | go_keep)
        (first
          | (go_at_call 32; ((with_reducible refine (fN.out _ ?_).mono ?_); (first | assumption | simp [*]); rintro ee w1' ⟨rfl, k1⟩))
          | (go_at_call 18; ((with_reducible refine (fI.out _ ?_).mono ?_); (first | assumption | simp [*]); rintro ee w1' ⟨rfl, k1⟩)))
      obtain ⟨_, _, _, _, _, _, _, _, hk⟩ := k1
      have hkb := Lib.hid hk.bl
      go_wp2
      go_ret
      exact ⟨rfl, hkb.out⟩
end Go.Proofs.Ytikgeombccoahaa.cnums
