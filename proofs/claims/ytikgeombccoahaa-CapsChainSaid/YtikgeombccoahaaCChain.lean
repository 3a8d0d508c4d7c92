/- Proved: what lies within a capability that lies within a third one lies within that; what one meets or holds, the one that it lies within meets or holds (CapsChain). For every input; no condition. -/
import Derived.Test.YtikgeombccoahaaRows
import Derived.Test.YtikgeombccoahaaCapW
import Derived.Test.YtikgeombccoahaaFlat
import Derived.Laws.BitsAllLaws
import Derived.Deep.RegionHeld3
import Derived.Deep.DeepCutAuto
import Derived.ProofKit
import Derived.OpenShut
import Derived.ShutString
import Derived.ChangeOld
namespace Go.Proofs.Ytikgeombccoahaa.cchain
open Go.ChangeShapes Go.WideShapes Go.ChangeAt Go.RowKit
open Go.ChangeMaps (open_string shut_string)
set_option linter.unusedVariables false

/-- Below; what is kept. -/
def SBk (W : World) (p q s : Nat) (w : World) : Prop := Below W.heap.size W w ∧ W.heap.size + 1 < w.heap.size ∧ p < w.heap.size ∧ q < w.heap.size ∧ s < w.heap.size
theorem SBk.keep {W w w' : World} {p q s : Nat} (h : SBk W p q s w) (k : Below w.heap.size w w') : SBk W p q s w' :=
  ⟨h.1.trans (k.mono h.1.size), Nat.lt_of_lt_of_le h.2.1 k.size, Nat.lt_of_lt_of_le h.2.2.1 k.size, Nat.lt_of_lt_of_le h.2.2.2.1 k.size, Nat.lt_of_lt_of_le h.2.2.2.2 k.size⟩
theorem SBk.drew {W w : World} {p q s : Nat} (h : SBk W p q s w) : SBk W p q s w.drew := ⟨h.1.drew, h.2⟩
theorem ch_step {W w w' : World} {p q s : Nat} {cu1 : Nat} {e1 : Nat} {b1 : Nat} {t1 : Nat} {pm1 : Nat} {ty1 : Nat} {rs1 : Nat} {va1 : Bool} {cu2 : Nat} {e2 : Nat} {b2 : Nat} {t2 : Nat} {pm2 : Nat} {ty2 : Nat} {rs2 : Nat} {va2 : Bool} {cu3 : Nat} {e3 : Nat} {b3 : Nat} {t3 : Nat} {pm3 : Nat} {ty3 : Nat} {rs3 : Nat} {va3 : Bool} {ra rz : Nat} (h : w.cell? ⟨p, 0, none⟩ = some (.int .u32 cu1) ∧ w.cell? ⟨p, 1, none⟩ = some (.int .u8 e1) ∧ w.cell? ⟨p, 2, none⟩ = some (.int .u16 b1) ∧ w.cell? ⟨p, 3, none⟩ = some (.int .u16 t1) ∧ w.cell? ⟨p, 4, none⟩ = some (.int .u16 pm1) ∧ w.cell? ⟨p, 5, none⟩ = some (.int .u16 ty1) ∧ w.cell? ⟨p, 6, none⟩ = some (.int .u32 rs1) ∧ w.cell? ⟨p, 7, none⟩ = some (.bool va1) ∧ w.cell? ⟨q, 0, none⟩ = some (.int .u32 cu2) ∧ w.cell? ⟨q, 1, none⟩ = some (.int .u8 e2) ∧ w.cell? ⟨q, 2, none⟩ = some (.int .u16 b2) ∧ w.cell? ⟨q, 3, none⟩ = some (.int .u16 t2) ∧ w.cell? ⟨q, 4, none⟩ = some (.int .u16 pm2) ∧ w.cell? ⟨q, 5, none⟩ = some (.int .u16 ty2) ∧ w.cell? ⟨q, 6, none⟩ = some (.int .u32 rs2) ∧ w.cell? ⟨q, 7, none⟩ = some (.bool va2) ∧ w.cell? ⟨s, 0, none⟩ = some (.int .u32 cu3) ∧ w.cell? ⟨s, 1, none⟩ = some (.int .u8 e3) ∧ w.cell? ⟨s, 2, none⟩ = some (.int .u16 b3) ∧ w.cell? ⟨s, 3, none⟩ = some (.int .u16 t3) ∧ w.cell? ⟨s, 4, none⟩ = some (.int .u16 pm3) ∧ w.cell? ⟨s, 5, none⟩ = some (.int .u16 ty3) ∧ w.cell? ⟨s, 6, none⟩ = some (.int .u32 rs3) ∧ w.cell? ⟨s, 7, none⟩ = some (.bool va3) ∧ w.cell? ⟨W.heap.size + 1, 0, none⟩ = some (.int .u32 ra) ∧ w.cell? ⟨W.heap.size + 1, 1, none⟩ = some (.int .u32 rz) ∧ SBk W p q s w) (k : Below w.heap.size w w') : w'.cell? ⟨p, 0, none⟩ = some (.int .u32 cu1) ∧ w'.cell? ⟨p, 1, none⟩ = some (.int .u8 e1) ∧ w'.cell? ⟨p, 2, none⟩ = some (.int .u16 b1) ∧ w'.cell? ⟨p, 3, none⟩ = some (.int .u16 t1) ∧ w'.cell? ⟨p, 4, none⟩ = some (.int .u16 pm1) ∧ w'.cell? ⟨p, 5, none⟩ = some (.int .u16 ty1) ∧ w'.cell? ⟨p, 6, none⟩ = some (.int .u32 rs1) ∧ w'.cell? ⟨p, 7, none⟩ = some (.bool va1) ∧ w'.cell? ⟨q, 0, none⟩ = some (.int .u32 cu2) ∧ w'.cell? ⟨q, 1, none⟩ = some (.int .u8 e2) ∧ w'.cell? ⟨q, 2, none⟩ = some (.int .u16 b2) ∧ w'.cell? ⟨q, 3, none⟩ = some (.int .u16 t2) ∧ w'.cell? ⟨q, 4, none⟩ = some (.int .u16 pm2) ∧ w'.cell? ⟨q, 5, none⟩ = some (.int .u16 ty2) ∧ w'.cell? ⟨q, 6, none⟩ = some (.int .u32 rs2) ∧ w'.cell? ⟨q, 7, none⟩ = some (.bool va2) ∧ w'.cell? ⟨s, 0, none⟩ = some (.int .u32 cu3) ∧ w'.cell? ⟨s, 1, none⟩ = some (.int .u8 e3) ∧ w'.cell? ⟨s, 2, none⟩ = some (.int .u16 b3) ∧ w'.cell? ⟨s, 3, none⟩ = some (.int .u16 t3) ∧ w'.cell? ⟨s, 4, none⟩ = some (.int .u16 pm3) ∧ w'.cell? ⟨s, 5, none⟩ = some (.int .u16 ty3) ∧ w'.cell? ⟨s, 6, none⟩ = some (.int .u32 rs3) ∧ w'.cell? ⟨s, 7, none⟩ = some (.bool va3) ∧ w'.cell? ⟨W.heap.size + 1, 0, none⟩ = some (.int .u32 ra) ∧ w'.cell? ⟨W.heap.size + 1, 1, none⟩ = some (.int .u32 rz) ∧ SBk W p q s w' := by
  obtain ⟨a0, a1, a2, a3, a4, a5, a6, a7, c0, c1, c2, c3, c4, c5, c6, c7, d0, d1, d2, d3, d4, d5, d6, d7, r0, r1, hs⟩ := h
  exact ⟨(k.cell hs.2.2.1).trans a0, (k.cell hs.2.2.1).trans a1, (k.cell hs.2.2.1).trans a2, (k.cell hs.2.2.1).trans a3, (k.cell hs.2.2.1).trans a4, (k.cell hs.2.2.1).trans a5, (k.cell hs.2.2.1).trans a6, (k.cell hs.2.2.1).trans a7, (k.cell hs.2.2.2.1).trans c0, (k.cell hs.2.2.2.1).trans c1, (k.cell hs.2.2.2.1).trans c2, (k.cell hs.2.2.2.1).trans c3, (k.cell hs.2.2.2.1).trans c4, (k.cell hs.2.2.2.1).trans c5, (k.cell hs.2.2.2.1).trans c6, (k.cell hs.2.2.2.1).trans c7, (k.cell hs.2.2.2.2).trans d0, (k.cell hs.2.2.2.2).trans d1, (k.cell hs.2.2.2.2).trans d2, (k.cell hs.2.2.2.2).trans d3, (k.cell hs.2.2.2.2).trans d4, (k.cell hs.2.2.2.2).trans d5, (k.cell hs.2.2.2.2).trans d6, (k.cell hs.2.2.2.2).trans d7, (k.cell (by have := hs.2.1; omega)).trans r0, (k.cell hs.2.1).trans r1, hs.keep k⟩
theorem wi_self (pm : Nat) (x y : Int) : wiP pm pm x y x y = true := decide_eq_true ⟨Nat.and_self pm, .inr ⟨Int.le_refl _, Int.le_refl _⟩⟩
theorem and_in {a b c : Nat} (h : a &&& b = a) (k : b &&& c = b) : a &&& c = a := by
  rw [← h, Nat.and_assoc, k]
theorem wi_trans {a b c : Nat} {x y x' y' x'' y'' : Int} (h : wiP a b x y x' y' = true) (k : wiP b c x' y' x'' y'' = true) : wiP a c x y x'' y'' = true := by
  have h1 := of_decide_eq_true h
  have k1 := of_decide_eq_true k
  exact decide_eq_true ⟨and_in h1.1 k1.1, by omega⟩
theorem wi_meets {a b : Nat} {x y x' y' : Int} {at_ sz : Nat} (h : wiP a b x y x' y' = true) (k : meP x y at_ sz = true) : meP x' y' at_ sz = true := by
  have h1 := of_decide_eq_true h
  have k1 := of_decide_eq_true k
  exact decide_eq_true (by omega)
theorem wi_holds {a b : Nat} {x y x' y' : Int} {at_ sz : Nat} (h : wiP a b x y x' y' = true) (hx : x < y) (k : hoP x y at_ sz = true) : hoP x' y' at_ sz = true := by
  have h1 := of_decide_eq_true h
  have k1 := of_decide_eq_true k
  exact decide_eq_true (by omega)
theorem and_not0 {a b : Nat} (ha : a < 65536) (hb : b < 65536) (h : a &&& b = a) : bits BinOp.andNot IntKind.u16 (a : Int) (b : Int) = 0 := by
  have hb1 : 65535 - b = 2 ^ 16 - (b + 1) := by omega
  rw [u16_andNot_nat a b ha hb, hb1]
  suffices a &&& (2 ^ 16 - (b + 1)) = 0 by rw [this]; rfl
  apply Nat.eq_of_testBit_eq
  intro i
  have hi := congrArg (·.testBit i) h
  simp only [Nat.testBit_and] at hi
  rw [Nat.testBit_and, Nat.testBit_two_pow_sub_succ (by omega), Nat.zero_testBit]
  cases h1 : a.testBit i <;> cases h2 : b.testBit i <;> simp_all
theorem fit {W w1 w' : World} {p q s : Nat} {cu1 : Nat} {e1 : Nat} {b1 : Nat} {t1 : Nat} {pm1 : Nat} {ty1 : Nat} {rs1 : Nat} {va1 : Bool} {cu2 : Nat} {e2 : Nat} {b2 : Nat} {t2 : Nat} {pm2 : Nat} {ty2 : Nat} {rs2 : Nat} {va2 : Bool} {cu3 : Nat} {e3 : Nat} {b3 : Nat} {t3 : Nat} {pm3 : Nat} {ty3 : Nat} {rs3 : Nat} {va3 : Bool} {ra rz : Nat} (hK : Below w1.heap.size w1 w') (r0 : w1.cell? ⟨W.heap.size + 1, 0, none⟩ = some (.int .u32 ra)) (r1 : w1.cell? ⟨W.heap.size + 1, 1, none⟩ = some (.int .u32 rz)) (s1 : W.heap.size + 1 < w1.heap.size) (hb : Below W.heap.size W w1) (hp : p < w'.heap.size) (hq : q < w'.heap.size) (hs : s < w'.heap.size)
    (A : CapAt w' p cu1 e1 b1 t1 pm1 ty1 rs1 va1) (B : CapAt w' q cu2 e2 b2 t2 pm2 ty2 rs2 va2) (C : CapAt w' s cu3 e3 b3 t3 pm3 ty3 rs3 va3) : w'.cell? ⟨p, 0, none⟩ = some (.int .u32 cu1) ∧ w'.cell? ⟨p, 1, none⟩ = some (.int .u8 e1) ∧ w'.cell? ⟨p, 2, none⟩ = some (.int .u16 b1) ∧ w'.cell? ⟨p, 3, none⟩ = some (.int .u16 t1) ∧ w'.cell? ⟨p, 4, none⟩ = some (.int .u16 pm1) ∧ w'.cell? ⟨p, 5, none⟩ = some (.int .u16 ty1) ∧ w'.cell? ⟨p, 6, none⟩ = some (.int .u32 rs1) ∧ w'.cell? ⟨p, 7, none⟩ = some (.bool va1) ∧ w'.cell? ⟨q, 0, none⟩ = some (.int .u32 cu2) ∧ w'.cell? ⟨q, 1, none⟩ = some (.int .u8 e2) ∧ w'.cell? ⟨q, 2, none⟩ = some (.int .u16 b2) ∧ w'.cell? ⟨q, 3, none⟩ = some (.int .u16 t2) ∧ w'.cell? ⟨q, 4, none⟩ = some (.int .u16 pm2) ∧ w'.cell? ⟨q, 5, none⟩ = some (.int .u16 ty2) ∧ w'.cell? ⟨q, 6, none⟩ = some (.int .u32 rs2) ∧ w'.cell? ⟨q, 7, none⟩ = some (.bool va2) ∧ w'.cell? ⟨s, 0, none⟩ = some (.int .u32 cu3) ∧ w'.cell? ⟨s, 1, none⟩ = some (.int .u8 e3) ∧ w'.cell? ⟨s, 2, none⟩ = some (.int .u16 b3) ∧ w'.cell? ⟨s, 3, none⟩ = some (.int .u16 t3) ∧ w'.cell? ⟨s, 4, none⟩ = some (.int .u16 pm3) ∧ w'.cell? ⟨s, 5, none⟩ = some (.int .u16 ty3) ∧ w'.cell? ⟨s, 6, none⟩ = some (.int .u32 rs3) ∧ w'.cell? ⟨s, 7, none⟩ = some (.bool va3) ∧ w'.cell? ⟨W.heap.size + 1, 0, none⟩ = some (.int .u32 ra) ∧ w'.cell? ⟨W.heap.size + 1, 1, none⟩ = some (.int .u32 rz) ∧ SBk W p q s w' :=
  ⟨A.q0, A.q1, A.q2, A.q3, A.q4, A.q5, A.q6, A.q7, B.q0, B.q1, B.q2, B.q3, B.q4, B.q5, B.q6, B.q7, C.q0, C.q1, C.q2, C.q3, C.q4, C.q5, C.q6, C.q7, (hK.cell (by omega)).trans r0, (hK.cell s1).trans r1, ⟨hb.trans (hK.mono hb.size), Nat.lt_of_lt_of_le s1 hK.size, hp, hq, hs⟩⟩
set_option maxRecDepth 100000 in
set_option maxHeartbeats 4000000 in
theorem walkN (cu1 : Nat) (e1 : Nat) (b1 : Nat) (t1 : Nat) (pm1 : Nat) (ty1 : Nat) (rs1 : Nat) (va1 : Bool) (cu2 : Nat) (e2 : Nat) (b2 : Nat) (t2 : Nat) (pm2 : Nat) (ty2 : Nat) (rs2 : Nat) (va2 : Bool) (cu3 : Nat) (e3 : Nat) (b3 : Nat) (t3 : Nat) (pm3 : Nat) (ty3 : Nat) (rs3 : Nat) (va3 : Bool) (ra rz : Nat) (lcu1 : cu1 < 4294967296) (le1 : e1 < 256) (lb1 : b1 < 65536) (lt1 : t1 < 65536) (lpm1 : pm1 < 65536) (lty1 : ty1 < 65536) (lrs1 : rs1 < 4294967296) (lcu2 : cu2 < 4294967296) (le2 : e2 < 256) (lb2 : b2 < 65536) (lt2 : t2 < 65536) (lpm2 : pm2 < 65536) (lty2 : ty2 < 65536) (lrs2 : rs2 < 4294967296) (lcu3 : cu3 < 4294967296) (le3 : e3 < 256) (lb3 : b3 < 65536) (lt3 : t3 < 65536) (lpm3 : pm3 < 65536) (lty3 : ty3 < 65536) (lrs3 : rs3 < 4294967296) (lra : ra < 4294967296) (lrz : rz < 4294967296) (W : World) :
    Calls Try.prog 9 #[.agg #[.int .u32 cu1, .int .u8 e1, .int .u16 b1, .int .u16 t1, .int .u16 pm1, .int .u16 ty1, .int .u32 rs1, .bool va1, .int .u32 cu2, .int .u8 e2, .int .u16 b2, .int .u16 t2, .int .u16 pm2, .int .u16 ty2, .int .u32 rs2, .bool va2, .int .u32 cu3, .int .u8 e3, .int .u16 b3, .int .u16 t3, .int .u16 pm3, .int .u16 ty3, .int .u32 rs3, .bool va3], .agg #[.int .u32 ra, .int .u32 rz]] W fun e w' => e = .returned (.bool true) ∧ Below W.heap.size W w' := by
  have hW := Lib.hid (fun w => works_any w)
  obtain ⟨z12, hz12⟩ : ∃ z, z = wiP pm1 pm2 (deB e1 b1 t1 cu1) (deT e1 b1 t1 cu1) (deB e2 b2 t2 cu2) (deT e2 b2 t2 cu2) := ⟨_, rfl⟩
  obtain ⟨z23, hz23⟩ : ∃ z, z = wiP pm2 pm3 (deB e2 b2 t2 cu2) (deT e2 b2 t2 cu2) (deB e3 b3 t3 cu3) (deT e3 b3 t3 cu3) := ⟨_, rfl⟩
  obtain ⟨z13, hz13⟩ : ∃ z, z = wiP pm1 pm3 (deB e1 b1 t1 cu1) (deT e1 b1 t1 cu1) (deB e3 b3 t3 cu3) (deT e3 b3 t3 cu3) := ⟨_, rfl⟩
  obtain ⟨z11, hz11⟩ : ∃ z, z = wiP pm1 pm1 (deB e1 b1 t1 cu1) (deT e1 b1 t1 cu1) (deB e1 b1 t1 cu1) (deT e1 b1 t1 cu1) := ⟨_, rfl⟩
  obtain ⟨z22, hz22⟩ : ∃ z, z = wiP pm2 pm2 (deB e2 b2 t2 cu2) (deT e2 b2 t2 cu2) (deB e2 b2 t2 cu2) (deT e2 b2 t2 cu2) := ⟨_, rfl⟩
  obtain ⟨m1, hm1⟩ : ∃ z, z = meP (deB e1 b1 t1 cu1) (deT e1 b1 t1 cu1) ra rz := ⟨_, rfl⟩
  obtain ⟨o1, ho1⟩ : ∃ z, z = hoP (deB e1 b1 t1 cu1) (deT e1 b1 t1 cu1) ra rz := ⟨_, rfl⟩
  obtain ⟨x1, hx1⟩ : ∃ z, z = deB e1 b1 t1 cu1 := ⟨_, rfl⟩
  obtain ⟨y1, hy1⟩ : ∃ z, z = deT e1 b1 t1 cu1 := ⟨_, rfl⟩
  have hxy1 := de_bounds e1 b1 t1 cu1
  rw [← hx1, ← hy1] at hxy1
  obtain ⟨x10, x11, x12, x13⟩ := hxy1
  obtain ⟨m2, hm2⟩ : ∃ z, z = meP (deB e2 b2 t2 cu2) (deT e2 b2 t2 cu2) ra rz := ⟨_, rfl⟩
  obtain ⟨o2, ho2⟩ : ∃ z, z = hoP (deB e2 b2 t2 cu2) (deT e2 b2 t2 cu2) ra rz := ⟨_, rfl⟩
  obtain ⟨x2, hx2⟩ : ∃ z, z = deB e2 b2 t2 cu2 := ⟨_, rfl⟩
  obtain ⟨y2, hy2⟩ : ∃ z, z = deT e2 b2 t2 cu2 := ⟨_, rfl⟩
  have hxy2 := de_bounds e2 b2 t2 cu2
  rw [← hx2, ← hy2] at hxy2
  obtain ⟨x20, x21, x22, x23⟩ := hxy2
  have t11 : z11 = true := hz11.trans (wi_self _ _ _)
  have t22 : z22 = true := hz22.trans (wi_self _ _ _)
  have t13 : z12 = true → z23 = true → z13 = true := fun h k => hz13.trans (wi_trans (hz12 ▸ h) (hz23 ▸ k))
  have tm : z12 = true → m1 = true → m2 = true := fun h k => hm2.trans (wi_meets (hz12 ▸ h) (hm1 ▸ k))
  have to_ : z12 = true → x1 < y1 → o1 = true → o2 = true := fun h l k => ho2.trans (wi_holds (hz12 ▸ h) (by rw [hx1, hy1] at l; exact l) (ho1 ▸ k))
  have tp : z12 = true → bits BinOp.andNot IntKind.u16 (pm1 : Int) (pm2 : Int) = 0 := fun h => and_not0 lpm1 lpm2 (of_decide_eq_true (hz12 ▸ h)).1
  go_enter Try.func9, Try.ntmps9
  go_wp2_with fail
  refine (hW.out _).mono ?_
  rintro ee w1 ⟨rfl, h1⟩
  go_upto_region 3 with (fail)
  go_cut [5, 6, 7] (fun v5 v6 v7 w' => ∃ p q s : Nat, v5 = .pointer (some ⟨p, 0, none⟩) ∧ v6 = .pointer (some ⟨q, 0, none⟩) ∧ v7 = .pointer (some ⟨s, 0, none⟩) ∧ (w'.cell? ⟨p, 0, none⟩ = some (.int .u32 cu1) ∧ w'.cell? ⟨p, 1, none⟩ = some (.int .u8 e1) ∧ w'.cell? ⟨p, 2, none⟩ = some (.int .u16 b1) ∧ w'.cell? ⟨p, 3, none⟩ = some (.int .u16 t1) ∧ w'.cell? ⟨p, 4, none⟩ = some (.int .u16 pm1) ∧ w'.cell? ⟨p, 5, none⟩ = some (.int .u16 ty1) ∧ w'.cell? ⟨p, 6, none⟩ = some (.int .u32 rs1) ∧ w'.cell? ⟨p, 7, none⟩ = some (.bool va1) ∧ w'.cell? ⟨q, 0, none⟩ = some (.int .u32 cu2) ∧ w'.cell? ⟨q, 1, none⟩ = some (.int .u8 e2) ∧ w'.cell? ⟨q, 2, none⟩ = some (.int .u16 b2) ∧ w'.cell? ⟨q, 3, none⟩ = some (.int .u16 t2) ∧ w'.cell? ⟨q, 4, none⟩ = some (.int .u16 pm2) ∧ w'.cell? ⟨q, 5, none⟩ = some (.int .u16 ty2) ∧ w'.cell? ⟨q, 6, none⟩ = some (.int .u32 rs2) ∧ w'.cell? ⟨q, 7, none⟩ = some (.bool va2) ∧ w'.cell? ⟨s, 0, none⟩ = some (.int .u32 cu3) ∧ w'.cell? ⟨s, 1, none⟩ = some (.int .u8 e3) ∧ w'.cell? ⟨s, 2, none⟩ = some (.int .u16 b3) ∧ w'.cell? ⟨s, 3, none⟩ = some (.int .u16 t3) ∧ w'.cell? ⟨s, 4, none⟩ = some (.int .u16 pm3) ∧ w'.cell? ⟨s, 5, none⟩ = some (.int .u16 ty3) ∧ w'.cell? ⟨s, 6, none⟩ = some (.int .u32 rs3) ∧ w'.cell? ⟨s, 7, none⟩ = some (.bool va3) ∧ w'.cell? ⟨W.heap.size + 1, 0, none⟩ = some (.int .u32 ra) ∧ w'.cell? ⟨W.heap.size + 1, 1, none⟩ = some (.int .u32 rz) ∧ SBk W p q s w'))
  case first =>
    have c0 : w1.cell? ⟨W.heap.size, 0, none⟩ = some (.int .u32 cu1) := (h1.cell (by simp <;> omega)).trans (by simp [go_sem])
    have c1 : w1.cell? ⟨W.heap.size, 1, none⟩ = some (.int .u8 e1) := (h1.cell (by simp <;> omega)).trans (by simp [go_sem])
    have c2 : w1.cell? ⟨W.heap.size, 2, none⟩ = some (.int .u16 b1) := (h1.cell (by simp <;> omega)).trans (by simp [go_sem])
    have c3 : w1.cell? ⟨W.heap.size, 3, none⟩ = some (.int .u16 t1) := (h1.cell (by simp <;> omega)).trans (by simp [go_sem])
    have c4 : w1.cell? ⟨W.heap.size, 4, none⟩ = some (.int .u16 pm1) := (h1.cell (by simp <;> omega)).trans (by simp [go_sem])
    have c5 : w1.cell? ⟨W.heap.size, 5, none⟩ = some (.int .u16 ty1) := (h1.cell (by simp <;> omega)).trans (by simp [go_sem])
    have c6 : w1.cell? ⟨W.heap.size, 6, none⟩ = some (.int .u32 rs1) := (h1.cell (by simp <;> omega)).trans (by simp [go_sem])
    have c7 : w1.cell? ⟨W.heap.size, 7, none⟩ = some (.bool va1) := (h1.cell (by simp <;> omega)).trans (by simp [go_sem])
    have c8 : w1.cell? ⟨W.heap.size, 8, none⟩ = some (.int .u32 cu2) := (h1.cell (by simp <;> omega)).trans (by simp [go_sem])
    have c9 : w1.cell? ⟨W.heap.size, 9, none⟩ = some (.int .u8 e2) := (h1.cell (by simp <;> omega)).trans (by simp [go_sem])
    have c10 : w1.cell? ⟨W.heap.size, 10, none⟩ = some (.int .u16 b2) := (h1.cell (by simp <;> omega)).trans (by simp [go_sem])
    have c11 : w1.cell? ⟨W.heap.size, 11, none⟩ = some (.int .u16 t2) := (h1.cell (by simp <;> omega)).trans (by simp [go_sem])
    have c12 : w1.cell? ⟨W.heap.size, 12, none⟩ = some (.int .u16 pm2) := (h1.cell (by simp <;> omega)).trans (by simp [go_sem])
    have c13 : w1.cell? ⟨W.heap.size, 13, none⟩ = some (.int .u16 ty2) := (h1.cell (by simp <;> omega)).trans (by simp [go_sem])
    have c14 : w1.cell? ⟨W.heap.size, 14, none⟩ = some (.int .u32 rs2) := (h1.cell (by simp <;> omega)).trans (by simp [go_sem])
    have c15 : w1.cell? ⟨W.heap.size, 15, none⟩ = some (.bool va2) := (h1.cell (by simp <;> omega)).trans (by simp [go_sem])
    have c16 : w1.cell? ⟨W.heap.size, 16, none⟩ = some (.int .u32 cu3) := (h1.cell (by simp <;> omega)).trans (by simp [go_sem])
    have c17 : w1.cell? ⟨W.heap.size, 17, none⟩ = some (.int .u8 e3) := (h1.cell (by simp <;> omega)).trans (by simp [go_sem])
    have c18 : w1.cell? ⟨W.heap.size, 18, none⟩ = some (.int .u16 b3) := (h1.cell (by simp <;> omega)).trans (by simp [go_sem])
    have c19 : w1.cell? ⟨W.heap.size, 19, none⟩ = some (.int .u16 t3) := (h1.cell (by simp <;> omega)).trans (by simp [go_sem])
    have c20 : w1.cell? ⟨W.heap.size, 20, none⟩ = some (.int .u16 pm3) := (h1.cell (by simp <;> omega)).trans (by simp [go_sem])
    have c21 : w1.cell? ⟨W.heap.size, 21, none⟩ = some (.int .u16 ty3) := (h1.cell (by simp <;> omega)).trans (by simp [go_sem])
    have c22 : w1.cell? ⟨W.heap.size, 22, none⟩ = some (.int .u32 rs3) := (h1.cell (by simp <;> omega)).trans (by simp [go_sem])
    have c23 : w1.cell? ⟨W.heap.size, 23, none⟩ = some (.bool va3) := (h1.cell (by simp <;> omega)).trans (by simp [go_sem])
    have r0 : w1.cell? ⟨W.heap.size + 1, 0, none⟩ = some (.int .u32 ra) := (h1.cell (by simp <;> omega)).trans (by simp [go_sem])
    have r1 : w1.cell? ⟨W.heap.size + 1, 1, none⟩ = some (.int .u32 rz) := (h1.cell (by simp <;> omega)).trans (by simp [go_sem])
    have s1 : W.heap.size + 1 < w1.heap.size := by have := h1.size; simp at this; omega
    have s0 : W.heap.size < w1.heap.size := by omega
    have s2 : W.heap.size < w1.heap.size + 1 := by omega
    have s3 : W.heap.size < w1.heap.size + 1 + 1 := by omega
    have s4 : ¬ W.heap.size = w1.heap.size := by omega
    have s5 : ¬ W.heap.size = w1.heap.size + 1 := by omega
    have s6 : ¬ W.heap.size = w1.heap.size + 1 + 1 := by omega
    have hb1 := Lib.hid ((((Below.refl W.heap.size W).alloc (Nat.le_refl _) (.cells #[.int .u32 cu1, .int .u8 e1, .int .u16 b1, .int .u16 t1, .int .u16 pm1, .int .u16 ty1, .int .u32 rs1, .bool va1, .int .u32 cu2, .int .u8 e2, .int .u16 b2, .int .u16 t2, .int .u16 pm2, .int .u16 ty2, .int .u32 rs2, .bool va2, .int .u32 cu3, .int .u8 e3, .int .u16 b3, .int .u16 t3, .int .u16 pm3, .int .u16 ty3, .int .u32 rs3, .bool va3] 48)).alloc (by simp) (.cells #[.int .u32 ra, .int .u32 rz] 33)).trans (h1.mono (by simp <;> omega)))
    clear h1 hW hz12 hz23 hz13 hz11 hz22 hm1 ho1 hm2 ho2 hx1 hy1 hx2 hy2 t11 t22 t13 tm to_ tp
    go_region
    all_goals
      go_wp2_with fail
      go_meet
      refine ⟨_, _, _, rfl, rfl, rfl, ?_⟩
      exact fit ((((Below.refl w1.heap.size w1).alloc (Nat.le_refl _) _).alloc (by simp <;> omega) _).alloc (by simp <;> omega) _).drew r0 r1 s1 hb1.out (by simp <;> omega) (by simp <;> omega) (by simp <;> omega) ⟨by simp [go_sem], by simp [go_sem], by simp [go_sem], by simp [go_sem], by simp [go_sem], by simp [go_sem], by simp [go_sem], by simp [go_sem]⟩ ⟨by simp [go_sem], by simp [go_sem], by simp [go_sem], by simp [go_sem], by simp [go_sem], by simp [go_sem], by simp [go_sem], by simp [go_sem]⟩ ⟨by simp [go_sem], by simp [go_sem], by simp [go_sem], by simp [go_sem], by simp [go_sem], by simp [go_sem], by simp [go_sem], by simp [go_sem]⟩
  case rest =>
  obtain ⟨p, q, s, rfl, rfl, rfl, hF⟩ := hcut
  have kaa := Lib.hid (fun w (h : w.cell? ⟨p, 0, none⟩ = some (.int .u32 cu1) ∧ w.cell? ⟨p, 1, none⟩ = some (.int .u8 e1) ∧ w.cell? ⟨p, 2, none⟩ = some (.int .u16 b1) ∧ w.cell? ⟨p, 3, none⟩ = some (.int .u16 t1) ∧ w.cell? ⟨p, 4, none⟩ = some (.int .u16 pm1) ∧ w.cell? ⟨p, 5, none⟩ = some (.int .u16 ty1) ∧ w.cell? ⟨p, 6, none⟩ = some (.int .u32 rs1) ∧ w.cell? ⟨p, 7, none⟩ = some (.bool va1) ∧ w.cell? ⟨q, 0, none⟩ = some (.int .u32 cu2) ∧ w.cell? ⟨q, 1, none⟩ = some (.int .u8 e2) ∧ w.cell? ⟨q, 2, none⟩ = some (.int .u16 b2) ∧ w.cell? ⟨q, 3, none⟩ = some (.int .u16 t2) ∧ w.cell? ⟨q, 4, none⟩ = some (.int .u16 pm2) ∧ w.cell? ⟨q, 5, none⟩ = some (.int .u16 ty2) ∧ w.cell? ⟨q, 6, none⟩ = some (.int .u32 rs2) ∧ w.cell? ⟨q, 7, none⟩ = some (.bool va2) ∧ w.cell? ⟨s, 0, none⟩ = some (.int .u32 cu3) ∧ w.cell? ⟨s, 1, none⟩ = some (.int .u8 e3) ∧ w.cell? ⟨s, 2, none⟩ = some (.int .u16 b3) ∧ w.cell? ⟨s, 3, none⟩ = some (.int .u16 t3) ∧ w.cell? ⟨s, 4, none⟩ = some (.int .u16 pm3) ∧ w.cell? ⟨s, 5, none⟩ = some (.int .u16 ty3) ∧ w.cell? ⟨s, 6, none⟩ = some (.int .u32 rs3) ∧ w.cell? ⟨s, 7, none⟩ = some (.bool va3) ∧ w.cell? ⟨W.heap.size + 1, 0, none⟩ = some (.int .u32 ra) ∧ w.cell? ⟨W.heap.size + 1, 1, none⟩ = some (.int .u32 rz) ∧ SBk W p q s w) => show Calls Try.prog 27 #[.agg #[.int .u32 cu1, .int .u8 e1, .int .u16 b1, .int .u16 t1, .int .u16 pm1, .int .u16 ty1, .int .u32 rs1, .bool va1], .agg #[.int .u32 cu1, .int .u8 e1, .int .u16 b1, .int .u16 t1, .int .u16 pm1, .int .u16 ty1, .int .u32 rs1, .bool va1]] w (fun ee w' => ee = .returned (.bool z11) ∧ (w'.cell? ⟨p, 0, none⟩ = some (.int .u32 cu1) ∧ w'.cell? ⟨p, 1, none⟩ = some (.int .u8 e1) ∧ w'.cell? ⟨p, 2, none⟩ = some (.int .u16 b1) ∧ w'.cell? ⟨p, 3, none⟩ = some (.int .u16 t1) ∧ w'.cell? ⟨p, 4, none⟩ = some (.int .u16 pm1) ∧ w'.cell? ⟨p, 5, none⟩ = some (.int .u16 ty1) ∧ w'.cell? ⟨p, 6, none⟩ = some (.int .u32 rs1) ∧ w'.cell? ⟨p, 7, none⟩ = some (.bool va1) ∧ w'.cell? ⟨q, 0, none⟩ = some (.int .u32 cu2) ∧ w'.cell? ⟨q, 1, none⟩ = some (.int .u8 e2) ∧ w'.cell? ⟨q, 2, none⟩ = some (.int .u16 b2) ∧ w'.cell? ⟨q, 3, none⟩ = some (.int .u16 t2) ∧ w'.cell? ⟨q, 4, none⟩ = some (.int .u16 pm2) ∧ w'.cell? ⟨q, 5, none⟩ = some (.int .u16 ty2) ∧ w'.cell? ⟨q, 6, none⟩ = some (.int .u32 rs2) ∧ w'.cell? ⟨q, 7, none⟩ = some (.bool va2) ∧ w'.cell? ⟨s, 0, none⟩ = some (.int .u32 cu3) ∧ w'.cell? ⟨s, 1, none⟩ = some (.int .u8 e3) ∧ w'.cell? ⟨s, 2, none⟩ = some (.int .u16 b3) ∧ w'.cell? ⟨s, 3, none⟩ = some (.int .u16 t3) ∧ w'.cell? ⟨s, 4, none⟩ = some (.int .u16 pm3) ∧ w'.cell? ⟨s, 5, none⟩ = some (.int .u16 ty3) ∧ w'.cell? ⟨s, 6, none⟩ = some (.int .u32 rs3) ∧ w'.cell? ⟨s, 7, none⟩ = some (.bool va3) ∧ w'.cell? ⟨W.heap.size + 1, 0, none⟩ = some (.int .u32 ra) ∧ w'.cell? ⟨W.heap.size + 1, 1, none⟩ = some (.int .u32 rz) ∧ SBk W p q s w')) from by rw [hz11]; exact (pWithin_any cu1 e1 b1 t1 pm1 ty1 rs1 va1 cu1 e1 b1 t1 pm1 ty1 rs1 va1 lcu1 le1 lb1 lt1 lpm1 lty1 lrs1 lcu1 le1 lb1 lt1 lpm1 lty1 lrs1 w).mono fun _ _ k => ⟨k.1, ch_step h k.2⟩)
  have kbb := Lib.hid (fun w (h : w.cell? ⟨p, 0, none⟩ = some (.int .u32 cu1) ∧ w.cell? ⟨p, 1, none⟩ = some (.int .u8 e1) ∧ w.cell? ⟨p, 2, none⟩ = some (.int .u16 b1) ∧ w.cell? ⟨p, 3, none⟩ = some (.int .u16 t1) ∧ w.cell? ⟨p, 4, none⟩ = some (.int .u16 pm1) ∧ w.cell? ⟨p, 5, none⟩ = some (.int .u16 ty1) ∧ w.cell? ⟨p, 6, none⟩ = some (.int .u32 rs1) ∧ w.cell? ⟨p, 7, none⟩ = some (.bool va1) ∧ w.cell? ⟨q, 0, none⟩ = some (.int .u32 cu2) ∧ w.cell? ⟨q, 1, none⟩ = some (.int .u8 e2) ∧ w.cell? ⟨q, 2, none⟩ = some (.int .u16 b2) ∧ w.cell? ⟨q, 3, none⟩ = some (.int .u16 t2) ∧ w.cell? ⟨q, 4, none⟩ = some (.int .u16 pm2) ∧ w.cell? ⟨q, 5, none⟩ = some (.int .u16 ty2) ∧ w.cell? ⟨q, 6, none⟩ = some (.int .u32 rs2) ∧ w.cell? ⟨q, 7, none⟩ = some (.bool va2) ∧ w.cell? ⟨s, 0, none⟩ = some (.int .u32 cu3) ∧ w.cell? ⟨s, 1, none⟩ = some (.int .u8 e3) ∧ w.cell? ⟨s, 2, none⟩ = some (.int .u16 b3) ∧ w.cell? ⟨s, 3, none⟩ = some (.int .u16 t3) ∧ w.cell? ⟨s, 4, none⟩ = some (.int .u16 pm3) ∧ w.cell? ⟨s, 5, none⟩ = some (.int .u16 ty3) ∧ w.cell? ⟨s, 6, none⟩ = some (.int .u32 rs3) ∧ w.cell? ⟨s, 7, none⟩ = some (.bool va3) ∧ w.cell? ⟨W.heap.size + 1, 0, none⟩ = some (.int .u32 ra) ∧ w.cell? ⟨W.heap.size + 1, 1, none⟩ = some (.int .u32 rz) ∧ SBk W p q s w) => show Calls Try.prog 27 #[.agg #[.int .u32 cu2, .int .u8 e2, .int .u16 b2, .int .u16 t2, .int .u16 pm2, .int .u16 ty2, .int .u32 rs2, .bool va2], .agg #[.int .u32 cu2, .int .u8 e2, .int .u16 b2, .int .u16 t2, .int .u16 pm2, .int .u16 ty2, .int .u32 rs2, .bool va2]] w (fun ee w' => ee = .returned (.bool z22) ∧ (w'.cell? ⟨p, 0, none⟩ = some (.int .u32 cu1) ∧ w'.cell? ⟨p, 1, none⟩ = some (.int .u8 e1) ∧ w'.cell? ⟨p, 2, none⟩ = some (.int .u16 b1) ∧ w'.cell? ⟨p, 3, none⟩ = some (.int .u16 t1) ∧ w'.cell? ⟨p, 4, none⟩ = some (.int .u16 pm1) ∧ w'.cell? ⟨p, 5, none⟩ = some (.int .u16 ty1) ∧ w'.cell? ⟨p, 6, none⟩ = some (.int .u32 rs1) ∧ w'.cell? ⟨p, 7, none⟩ = some (.bool va1) ∧ w'.cell? ⟨q, 0, none⟩ = some (.int .u32 cu2) ∧ w'.cell? ⟨q, 1, none⟩ = some (.int .u8 e2) ∧ w'.cell? ⟨q, 2, none⟩ = some (.int .u16 b2) ∧ w'.cell? ⟨q, 3, none⟩ = some (.int .u16 t2) ∧ w'.cell? ⟨q, 4, none⟩ = some (.int .u16 pm2) ∧ w'.cell? ⟨q, 5, none⟩ = some (.int .u16 ty2) ∧ w'.cell? ⟨q, 6, none⟩ = some (.int .u32 rs2) ∧ w'.cell? ⟨q, 7, none⟩ = some (.bool va2) ∧ w'.cell? ⟨s, 0, none⟩ = some (.int .u32 cu3) ∧ w'.cell? ⟨s, 1, none⟩ = some (.int .u8 e3) ∧ w'.cell? ⟨s, 2, none⟩ = some (.int .u16 b3) ∧ w'.cell? ⟨s, 3, none⟩ = some (.int .u16 t3) ∧ w'.cell? ⟨s, 4, none⟩ = some (.int .u16 pm3) ∧ w'.cell? ⟨s, 5, none⟩ = some (.int .u16 ty3) ∧ w'.cell? ⟨s, 6, none⟩ = some (.int .u32 rs3) ∧ w'.cell? ⟨s, 7, none⟩ = some (.bool va3) ∧ w'.cell? ⟨W.heap.size + 1, 0, none⟩ = some (.int .u32 ra) ∧ w'.cell? ⟨W.heap.size + 1, 1, none⟩ = some (.int .u32 rz) ∧ SBk W p q s w')) from by rw [hz22]; exact (pWithin_any cu2 e2 b2 t2 pm2 ty2 rs2 va2 cu2 e2 b2 t2 pm2 ty2 rs2 va2 lcu2 le2 lb2 lt2 lpm2 lty2 lrs2 lcu2 le2 lb2 lt2 lpm2 lty2 lrs2 w).mono fun _ _ k => ⟨k.1, ch_step h k.2⟩)
  have kab := Lib.hid (fun w (h : w.cell? ⟨p, 0, none⟩ = some (.int .u32 cu1) ∧ w.cell? ⟨p, 1, none⟩ = some (.int .u8 e1) ∧ w.cell? ⟨p, 2, none⟩ = some (.int .u16 b1) ∧ w.cell? ⟨p, 3, none⟩ = some (.int .u16 t1) ∧ w.cell? ⟨p, 4, none⟩ = some (.int .u16 pm1) ∧ w.cell? ⟨p, 5, none⟩ = some (.int .u16 ty1) ∧ w.cell? ⟨p, 6, none⟩ = some (.int .u32 rs1) ∧ w.cell? ⟨p, 7, none⟩ = some (.bool va1) ∧ w.cell? ⟨q, 0, none⟩ = some (.int .u32 cu2) ∧ w.cell? ⟨q, 1, none⟩ = some (.int .u8 e2) ∧ w.cell? ⟨q, 2, none⟩ = some (.int .u16 b2) ∧ w.cell? ⟨q, 3, none⟩ = some (.int .u16 t2) ∧ w.cell? ⟨q, 4, none⟩ = some (.int .u16 pm2) ∧ w.cell? ⟨q, 5, none⟩ = some (.int .u16 ty2) ∧ w.cell? ⟨q, 6, none⟩ = some (.int .u32 rs2) ∧ w.cell? ⟨q, 7, none⟩ = some (.bool va2) ∧ w.cell? ⟨s, 0, none⟩ = some (.int .u32 cu3) ∧ w.cell? ⟨s, 1, none⟩ = some (.int .u8 e3) ∧ w.cell? ⟨s, 2, none⟩ = some (.int .u16 b3) ∧ w.cell? ⟨s, 3, none⟩ = some (.int .u16 t3) ∧ w.cell? ⟨s, 4, none⟩ = some (.int .u16 pm3) ∧ w.cell? ⟨s, 5, none⟩ = some (.int .u16 ty3) ∧ w.cell? ⟨s, 6, none⟩ = some (.int .u32 rs3) ∧ w.cell? ⟨s, 7, none⟩ = some (.bool va3) ∧ w.cell? ⟨W.heap.size + 1, 0, none⟩ = some (.int .u32 ra) ∧ w.cell? ⟨W.heap.size + 1, 1, none⟩ = some (.int .u32 rz) ∧ SBk W p q s w) => show Calls Try.prog 27 #[.agg #[.int .u32 cu1, .int .u8 e1, .int .u16 b1, .int .u16 t1, .int .u16 pm1, .int .u16 ty1, .int .u32 rs1, .bool va1], .agg #[.int .u32 cu2, .int .u8 e2, .int .u16 b2, .int .u16 t2, .int .u16 pm2, .int .u16 ty2, .int .u32 rs2, .bool va2]] w (fun ee w' => ee = .returned (.bool z12) ∧ (w'.cell? ⟨p, 0, none⟩ = some (.int .u32 cu1) ∧ w'.cell? ⟨p, 1, none⟩ = some (.int .u8 e1) ∧ w'.cell? ⟨p, 2, none⟩ = some (.int .u16 b1) ∧ w'.cell? ⟨p, 3, none⟩ = some (.int .u16 t1) ∧ w'.cell? ⟨p, 4, none⟩ = some (.int .u16 pm1) ∧ w'.cell? ⟨p, 5, none⟩ = some (.int .u16 ty1) ∧ w'.cell? ⟨p, 6, none⟩ = some (.int .u32 rs1) ∧ w'.cell? ⟨p, 7, none⟩ = some (.bool va1) ∧ w'.cell? ⟨q, 0, none⟩ = some (.int .u32 cu2) ∧ w'.cell? ⟨q, 1, none⟩ = some (.int .u8 e2) ∧ w'.cell? ⟨q, 2, none⟩ = some (.int .u16 b2) ∧ w'.cell? ⟨q, 3, none⟩ = some (.int .u16 t2) ∧ w'.cell? ⟨q, 4, none⟩ = some (.int .u16 pm2) ∧ w'.cell? ⟨q, 5, none⟩ = some (.int .u16 ty2) ∧ w'.cell? ⟨q, 6, none⟩ = some (.int .u32 rs2) ∧ w'.cell? ⟨q, 7, none⟩ = some (.bool va2) ∧ w'.cell? ⟨s, 0, none⟩ = some (.int .u32 cu3) ∧ w'.cell? ⟨s, 1, none⟩ = some (.int .u8 e3) ∧ w'.cell? ⟨s, 2, none⟩ = some (.int .u16 b3) ∧ w'.cell? ⟨s, 3, none⟩ = some (.int .u16 t3) ∧ w'.cell? ⟨s, 4, none⟩ = some (.int .u16 pm3) ∧ w'.cell? ⟨s, 5, none⟩ = some (.int .u16 ty3) ∧ w'.cell? ⟨s, 6, none⟩ = some (.int .u32 rs3) ∧ w'.cell? ⟨s, 7, none⟩ = some (.bool va3) ∧ w'.cell? ⟨W.heap.size + 1, 0, none⟩ = some (.int .u32 ra) ∧ w'.cell? ⟨W.heap.size + 1, 1, none⟩ = some (.int .u32 rz) ∧ SBk W p q s w')) from by rw [hz12]; exact (pWithin_any cu1 e1 b1 t1 pm1 ty1 rs1 va1 cu2 e2 b2 t2 pm2 ty2 rs2 va2 lcu1 le1 lb1 lt1 lpm1 lty1 lrs1 lcu2 le2 lb2 lt2 lpm2 lty2 lrs2 w).mono fun _ _ k => ⟨k.1, ch_step h k.2⟩)
  have kbc := Lib.hid (fun w (h : w.cell? ⟨p, 0, none⟩ = some (.int .u32 cu1) ∧ w.cell? ⟨p, 1, none⟩ = some (.int .u8 e1) ∧ w.cell? ⟨p, 2, none⟩ = some (.int .u16 b1) ∧ w.cell? ⟨p, 3, none⟩ = some (.int .u16 t1) ∧ w.cell? ⟨p, 4, none⟩ = some (.int .u16 pm1) ∧ w.cell? ⟨p, 5, none⟩ = some (.int .u16 ty1) ∧ w.cell? ⟨p, 6, none⟩ = some (.int .u32 rs1) ∧ w.cell? ⟨p, 7, none⟩ = some (.bool va1) ∧ w.cell? ⟨q, 0, none⟩ = some (.int .u32 cu2) ∧ w.cell? ⟨q, 1, none⟩ = some (.int .u8 e2) ∧ w.cell? ⟨q, 2, none⟩ = some (.int .u16 b2) ∧ w.cell? ⟨q, 3, none⟩ = some (.int .u16 t2) ∧ w.cell? ⟨q, 4, none⟩ = some (.int .u16 pm2) ∧ w.cell? ⟨q, 5, none⟩ = some (.int .u16 ty2) ∧ w.cell? ⟨q, 6, none⟩ = some (.int .u32 rs2) ∧ w.cell? ⟨q, 7, none⟩ = some (.bool va2) ∧ w.cell? ⟨s, 0, none⟩ = some (.int .u32 cu3) ∧ w.cell? ⟨s, 1, none⟩ = some (.int .u8 e3) ∧ w.cell? ⟨s, 2, none⟩ = some (.int .u16 b3) ∧ w.cell? ⟨s, 3, none⟩ = some (.int .u16 t3) ∧ w.cell? ⟨s, 4, none⟩ = some (.int .u16 pm3) ∧ w.cell? ⟨s, 5, none⟩ = some (.int .u16 ty3) ∧ w.cell? ⟨s, 6, none⟩ = some (.int .u32 rs3) ∧ w.cell? ⟨s, 7, none⟩ = some (.bool va3) ∧ w.cell? ⟨W.heap.size + 1, 0, none⟩ = some (.int .u32 ra) ∧ w.cell? ⟨W.heap.size + 1, 1, none⟩ = some (.int .u32 rz) ∧ SBk W p q s w) => show Calls Try.prog 27 #[.agg #[.int .u32 cu2, .int .u8 e2, .int .u16 b2, .int .u16 t2, .int .u16 pm2, .int .u16 ty2, .int .u32 rs2, .bool va2], .agg #[.int .u32 cu3, .int .u8 e3, .int .u16 b3, .int .u16 t3, .int .u16 pm3, .int .u16 ty3, .int .u32 rs3, .bool va3]] w (fun ee w' => ee = .returned (.bool z23) ∧ (w'.cell? ⟨p, 0, none⟩ = some (.int .u32 cu1) ∧ w'.cell? ⟨p, 1, none⟩ = some (.int .u8 e1) ∧ w'.cell? ⟨p, 2, none⟩ = some (.int .u16 b1) ∧ w'.cell? ⟨p, 3, none⟩ = some (.int .u16 t1) ∧ w'.cell? ⟨p, 4, none⟩ = some (.int .u16 pm1) ∧ w'.cell? ⟨p, 5, none⟩ = some (.int .u16 ty1) ∧ w'.cell? ⟨p, 6, none⟩ = some (.int .u32 rs1) ∧ w'.cell? ⟨p, 7, none⟩ = some (.bool va1) ∧ w'.cell? ⟨q, 0, none⟩ = some (.int .u32 cu2) ∧ w'.cell? ⟨q, 1, none⟩ = some (.int .u8 e2) ∧ w'.cell? ⟨q, 2, none⟩ = some (.int .u16 b2) ∧ w'.cell? ⟨q, 3, none⟩ = some (.int .u16 t2) ∧ w'.cell? ⟨q, 4, none⟩ = some (.int .u16 pm2) ∧ w'.cell? ⟨q, 5, none⟩ = some (.int .u16 ty2) ∧ w'.cell? ⟨q, 6, none⟩ = some (.int .u32 rs2) ∧ w'.cell? ⟨q, 7, none⟩ = some (.bool va2) ∧ w'.cell? ⟨s, 0, none⟩ = some (.int .u32 cu3) ∧ w'.cell? ⟨s, 1, none⟩ = some (.int .u8 e3) ∧ w'.cell? ⟨s, 2, none⟩ = some (.int .u16 b3) ∧ w'.cell? ⟨s, 3, none⟩ = some (.int .u16 t3) ∧ w'.cell? ⟨s, 4, none⟩ = some (.int .u16 pm3) ∧ w'.cell? ⟨s, 5, none⟩ = some (.int .u16 ty3) ∧ w'.cell? ⟨s, 6, none⟩ = some (.int .u32 rs3) ∧ w'.cell? ⟨s, 7, none⟩ = some (.bool va3) ∧ w'.cell? ⟨W.heap.size + 1, 0, none⟩ = some (.int .u32 ra) ∧ w'.cell? ⟨W.heap.size + 1, 1, none⟩ = some (.int .u32 rz) ∧ SBk W p q s w')) from by rw [hz23]; exact (pWithin_any cu2 e2 b2 t2 pm2 ty2 rs2 va2 cu3 e3 b3 t3 pm3 ty3 rs3 va3 lcu2 le2 lb2 lt2 lpm2 lty2 lrs2 lcu3 le3 lb3 lt3 lpm3 lty3 lrs3 w).mono fun _ _ k => ⟨k.1, ch_step h k.2⟩)
  have kac := Lib.hid (fun w (h : w.cell? ⟨p, 0, none⟩ = some (.int .u32 cu1) ∧ w.cell? ⟨p, 1, none⟩ = some (.int .u8 e1) ∧ w.cell? ⟨p, 2, none⟩ = some (.int .u16 b1) ∧ w.cell? ⟨p, 3, none⟩ = some (.int .u16 t1) ∧ w.cell? ⟨p, 4, none⟩ = some (.int .u16 pm1) ∧ w.cell? ⟨p, 5, none⟩ = some (.int .u16 ty1) ∧ w.cell? ⟨p, 6, none⟩ = some (.int .u32 rs1) ∧ w.cell? ⟨p, 7, none⟩ = some (.bool va1) ∧ w.cell? ⟨q, 0, none⟩ = some (.int .u32 cu2) ∧ w.cell? ⟨q, 1, none⟩ = some (.int .u8 e2) ∧ w.cell? ⟨q, 2, none⟩ = some (.int .u16 b2) ∧ w.cell? ⟨q, 3, none⟩ = some (.int .u16 t2) ∧ w.cell? ⟨q, 4, none⟩ = some (.int .u16 pm2) ∧ w.cell? ⟨q, 5, none⟩ = some (.int .u16 ty2) ∧ w.cell? ⟨q, 6, none⟩ = some (.int .u32 rs2) ∧ w.cell? ⟨q, 7, none⟩ = some (.bool va2) ∧ w.cell? ⟨s, 0, none⟩ = some (.int .u32 cu3) ∧ w.cell? ⟨s, 1, none⟩ = some (.int .u8 e3) ∧ w.cell? ⟨s, 2, none⟩ = some (.int .u16 b3) ∧ w.cell? ⟨s, 3, none⟩ = some (.int .u16 t3) ∧ w.cell? ⟨s, 4, none⟩ = some (.int .u16 pm3) ∧ w.cell? ⟨s, 5, none⟩ = some (.int .u16 ty3) ∧ w.cell? ⟨s, 6, none⟩ = some (.int .u32 rs3) ∧ w.cell? ⟨s, 7, none⟩ = some (.bool va3) ∧ w.cell? ⟨W.heap.size + 1, 0, none⟩ = some (.int .u32 ra) ∧ w.cell? ⟨W.heap.size + 1, 1, none⟩ = some (.int .u32 rz) ∧ SBk W p q s w) => show Calls Try.prog 27 #[.agg #[.int .u32 cu1, .int .u8 e1, .int .u16 b1, .int .u16 t1, .int .u16 pm1, .int .u16 ty1, .int .u32 rs1, .bool va1], .agg #[.int .u32 cu3, .int .u8 e3, .int .u16 b3, .int .u16 t3, .int .u16 pm3, .int .u16 ty3, .int .u32 rs3, .bool va3]] w (fun ee w' => ee = .returned (.bool z13) ∧ (w'.cell? ⟨p, 0, none⟩ = some (.int .u32 cu1) ∧ w'.cell? ⟨p, 1, none⟩ = some (.int .u8 e1) ∧ w'.cell? ⟨p, 2, none⟩ = some (.int .u16 b1) ∧ w'.cell? ⟨p, 3, none⟩ = some (.int .u16 t1) ∧ w'.cell? ⟨p, 4, none⟩ = some (.int .u16 pm1) ∧ w'.cell? ⟨p, 5, none⟩ = some (.int .u16 ty1) ∧ w'.cell? ⟨p, 6, none⟩ = some (.int .u32 rs1) ∧ w'.cell? ⟨p, 7, none⟩ = some (.bool va1) ∧ w'.cell? ⟨q, 0, none⟩ = some (.int .u32 cu2) ∧ w'.cell? ⟨q, 1, none⟩ = some (.int .u8 e2) ∧ w'.cell? ⟨q, 2, none⟩ = some (.int .u16 b2) ∧ w'.cell? ⟨q, 3, none⟩ = some (.int .u16 t2) ∧ w'.cell? ⟨q, 4, none⟩ = some (.int .u16 pm2) ∧ w'.cell? ⟨q, 5, none⟩ = some (.int .u16 ty2) ∧ w'.cell? ⟨q, 6, none⟩ = some (.int .u32 rs2) ∧ w'.cell? ⟨q, 7, none⟩ = some (.bool va2) ∧ w'.cell? ⟨s, 0, none⟩ = some (.int .u32 cu3) ∧ w'.cell? ⟨s, 1, none⟩ = some (.int .u8 e3) ∧ w'.cell? ⟨s, 2, none⟩ = some (.int .u16 b3) ∧ w'.cell? ⟨s, 3, none⟩ = some (.int .u16 t3) ∧ w'.cell? ⟨s, 4, none⟩ = some (.int .u16 pm3) ∧ w'.cell? ⟨s, 5, none⟩ = some (.int .u16 ty3) ∧ w'.cell? ⟨s, 6, none⟩ = some (.int .u32 rs3) ∧ w'.cell? ⟨s, 7, none⟩ = some (.bool va3) ∧ w'.cell? ⟨W.heap.size + 1, 0, none⟩ = some (.int .u32 ra) ∧ w'.cell? ⟨W.heap.size + 1, 1, none⟩ = some (.int .u32 rz) ∧ SBk W p q s w')) from by rw [hz13]; exact (pWithin_any cu1 e1 b1 t1 pm1 ty1 rs1 va1 cu3 e3 b3 t3 pm3 ty3 rs3 va3 lcu1 le1 lb1 lt1 lpm1 lty1 lrs1 lcu3 le3 lb3 lt3 lpm3 lty3 lrs3 w).mono fun _ _ k => ⟨k.1, ch_step h k.2⟩)
  have ga := Lib.hid (fun w (h : w.cell? ⟨p, 0, none⟩ = some (.int .u32 cu1) ∧ w.cell? ⟨p, 1, none⟩ = some (.int .u8 e1) ∧ w.cell? ⟨p, 2, none⟩ = some (.int .u16 b1) ∧ w.cell? ⟨p, 3, none⟩ = some (.int .u16 t1) ∧ w.cell? ⟨p, 4, none⟩ = some (.int .u16 pm1) ∧ w.cell? ⟨p, 5, none⟩ = some (.int .u16 ty1) ∧ w.cell? ⟨p, 6, none⟩ = some (.int .u32 rs1) ∧ w.cell? ⟨p, 7, none⟩ = some (.bool va1) ∧ w.cell? ⟨q, 0, none⟩ = some (.int .u32 cu2) ∧ w.cell? ⟨q, 1, none⟩ = some (.int .u8 e2) ∧ w.cell? ⟨q, 2, none⟩ = some (.int .u16 b2) ∧ w.cell? ⟨q, 3, none⟩ = some (.int .u16 t2) ∧ w.cell? ⟨q, 4, none⟩ = some (.int .u16 pm2) ∧ w.cell? ⟨q, 5, none⟩ = some (.int .u16 ty2) ∧ w.cell? ⟨q, 6, none⟩ = some (.int .u32 rs2) ∧ w.cell? ⟨q, 7, none⟩ = some (.bool va2) ∧ w.cell? ⟨s, 0, none⟩ = some (.int .u32 cu3) ∧ w.cell? ⟨s, 1, none⟩ = some (.int .u8 e3) ∧ w.cell? ⟨s, 2, none⟩ = some (.int .u16 b3) ∧ w.cell? ⟨s, 3, none⟩ = some (.int .u16 t3) ∧ w.cell? ⟨s, 4, none⟩ = some (.int .u16 pm3) ∧ w.cell? ⟨s, 5, none⟩ = some (.int .u16 ty3) ∧ w.cell? ⟨s, 6, none⟩ = some (.int .u32 rs3) ∧ w.cell? ⟨s, 7, none⟩ = some (.bool va3) ∧ w.cell? ⟨W.heap.size + 1, 0, none⟩ = some (.int .u32 ra) ∧ w.cell? ⟨W.heap.size + 1, 1, none⟩ = some (.int .u32 rz) ∧ SBk W p q s w) => show Calls Try.prog 21 #[.agg #[.int .u32 cu1, .int .u8 e1, .int .u16 b1, .int .u16 t1, .int .u16 pm1, .int .u16 ty1, .int .u32 rs1, .bool va1]] w (fun ee w' => ee = .returned (.tuple #[.int .u32 x1, .int .u64 y1]) ∧ (w'.cell? ⟨p, 0, none⟩ = some (.int .u32 cu1) ∧ w'.cell? ⟨p, 1, none⟩ = some (.int .u8 e1) ∧ w'.cell? ⟨p, 2, none⟩ = some (.int .u16 b1) ∧ w'.cell? ⟨p, 3, none⟩ = some (.int .u16 t1) ∧ w'.cell? ⟨p, 4, none⟩ = some (.int .u16 pm1) ∧ w'.cell? ⟨p, 5, none⟩ = some (.int .u16 ty1) ∧ w'.cell? ⟨p, 6, none⟩ = some (.int .u32 rs1) ∧ w'.cell? ⟨p, 7, none⟩ = some (.bool va1) ∧ w'.cell? ⟨q, 0, none⟩ = some (.int .u32 cu2) ∧ w'.cell? ⟨q, 1, none⟩ = some (.int .u8 e2) ∧ w'.cell? ⟨q, 2, none⟩ = some (.int .u16 b2) ∧ w'.cell? ⟨q, 3, none⟩ = some (.int .u16 t2) ∧ w'.cell? ⟨q, 4, none⟩ = some (.int .u16 pm2) ∧ w'.cell? ⟨q, 5, none⟩ = some (.int .u16 ty2) ∧ w'.cell? ⟨q, 6, none⟩ = some (.int .u32 rs2) ∧ w'.cell? ⟨q, 7, none⟩ = some (.bool va2) ∧ w'.cell? ⟨s, 0, none⟩ = some (.int .u32 cu3) ∧ w'.cell? ⟨s, 1, none⟩ = some (.int .u8 e3) ∧ w'.cell? ⟨s, 2, none⟩ = some (.int .u16 b3) ∧ w'.cell? ⟨s, 3, none⟩ = some (.int .u16 t3) ∧ w'.cell? ⟨s, 4, none⟩ = some (.int .u16 pm3) ∧ w'.cell? ⟨s, 5, none⟩ = some (.int .u16 ty3) ∧ w'.cell? ⟨s, 6, none⟩ = some (.int .u32 rs3) ∧ w'.cell? ⟨s, 7, none⟩ = some (.bool va3) ∧ w'.cell? ⟨W.heap.size + 1, 0, none⟩ = some (.int .u32 ra) ∧ w'.cell? ⟨W.heap.size + 1, 1, none⟩ = some (.int .u32 rz) ∧ SBk W p q s w')) from by rw [hx1, hy1]; exact (pRange_any cu1 e1 b1 t1 pm1 ty1 rs1 va1 lcu1 le1 lb1 lt1 lpm1 lty1 lrs1 w).mono fun _ _ k => ⟨k.1, ch_step h k.2⟩)
  have gb := Lib.hid (fun w (h : w.cell? ⟨p, 0, none⟩ = some (.int .u32 cu1) ∧ w.cell? ⟨p, 1, none⟩ = some (.int .u8 e1) ∧ w.cell? ⟨p, 2, none⟩ = some (.int .u16 b1) ∧ w.cell? ⟨p, 3, none⟩ = some (.int .u16 t1) ∧ w.cell? ⟨p, 4, none⟩ = some (.int .u16 pm1) ∧ w.cell? ⟨p, 5, none⟩ = some (.int .u16 ty1) ∧ w.cell? ⟨p, 6, none⟩ = some (.int .u32 rs1) ∧ w.cell? ⟨p, 7, none⟩ = some (.bool va1) ∧ w.cell? ⟨q, 0, none⟩ = some (.int .u32 cu2) ∧ w.cell? ⟨q, 1, none⟩ = some (.int .u8 e2) ∧ w.cell? ⟨q, 2, none⟩ = some (.int .u16 b2) ∧ w.cell? ⟨q, 3, none⟩ = some (.int .u16 t2) ∧ w.cell? ⟨q, 4, none⟩ = some (.int .u16 pm2) ∧ w.cell? ⟨q, 5, none⟩ = some (.int .u16 ty2) ∧ w.cell? ⟨q, 6, none⟩ = some (.int .u32 rs2) ∧ w.cell? ⟨q, 7, none⟩ = some (.bool va2) ∧ w.cell? ⟨s, 0, none⟩ = some (.int .u32 cu3) ∧ w.cell? ⟨s, 1, none⟩ = some (.int .u8 e3) ∧ w.cell? ⟨s, 2, none⟩ = some (.int .u16 b3) ∧ w.cell? ⟨s, 3, none⟩ = some (.int .u16 t3) ∧ w.cell? ⟨s, 4, none⟩ = some (.int .u16 pm3) ∧ w.cell? ⟨s, 5, none⟩ = some (.int .u16 ty3) ∧ w.cell? ⟨s, 6, none⟩ = some (.int .u32 rs3) ∧ w.cell? ⟨s, 7, none⟩ = some (.bool va3) ∧ w.cell? ⟨W.heap.size + 1, 0, none⟩ = some (.int .u32 ra) ∧ w.cell? ⟨W.heap.size + 1, 1, none⟩ = some (.int .u32 rz) ∧ SBk W p q s w) => show Calls Try.prog 21 #[.agg #[.int .u32 cu2, .int .u8 e2, .int .u16 b2, .int .u16 t2, .int .u16 pm2, .int .u16 ty2, .int .u32 rs2, .bool va2]] w (fun ee w' => ee = .returned (.tuple #[.int .u32 x2, .int .u64 y2]) ∧ (w'.cell? ⟨p, 0, none⟩ = some (.int .u32 cu1) ∧ w'.cell? ⟨p, 1, none⟩ = some (.int .u8 e1) ∧ w'.cell? ⟨p, 2, none⟩ = some (.int .u16 b1) ∧ w'.cell? ⟨p, 3, none⟩ = some (.int .u16 t1) ∧ w'.cell? ⟨p, 4, none⟩ = some (.int .u16 pm1) ∧ w'.cell? ⟨p, 5, none⟩ = some (.int .u16 ty1) ∧ w'.cell? ⟨p, 6, none⟩ = some (.int .u32 rs1) ∧ w'.cell? ⟨p, 7, none⟩ = some (.bool va1) ∧ w'.cell? ⟨q, 0, none⟩ = some (.int .u32 cu2) ∧ w'.cell? ⟨q, 1, none⟩ = some (.int .u8 e2) ∧ w'.cell? ⟨q, 2, none⟩ = some (.int .u16 b2) ∧ w'.cell? ⟨q, 3, none⟩ = some (.int .u16 t2) ∧ w'.cell? ⟨q, 4, none⟩ = some (.int .u16 pm2) ∧ w'.cell? ⟨q, 5, none⟩ = some (.int .u16 ty2) ∧ w'.cell? ⟨q, 6, none⟩ = some (.int .u32 rs2) ∧ w'.cell? ⟨q, 7, none⟩ = some (.bool va2) ∧ w'.cell? ⟨s, 0, none⟩ = some (.int .u32 cu3) ∧ w'.cell? ⟨s, 1, none⟩ = some (.int .u8 e3) ∧ w'.cell? ⟨s, 2, none⟩ = some (.int .u16 b3) ∧ w'.cell? ⟨s, 3, none⟩ = some (.int .u16 t3) ∧ w'.cell? ⟨s, 4, none⟩ = some (.int .u16 pm3) ∧ w'.cell? ⟨s, 5, none⟩ = some (.int .u16 ty3) ∧ w'.cell? ⟨s, 6, none⟩ = some (.int .u32 rs3) ∧ w'.cell? ⟨s, 7, none⟩ = some (.bool va3) ∧ w'.cell? ⟨W.heap.size + 1, 0, none⟩ = some (.int .u32 ra) ∧ w'.cell? ⟨W.heap.size + 1, 1, none⟩ = some (.int .u32 rz) ∧ SBk W p q s w')) from by rw [hx2, hy2]; exact (pRange_any cu2 e2 b2 t2 pm2 ty2 rs2 va2 lcu2 le2 lb2 lt2 lpm2 lty2 lrs2 w).mono fun _ _ k => ⟨k.1, ch_step h k.2⟩)
  have ma := Lib.hid (fun w (h : w.cell? ⟨p, 0, none⟩ = some (.int .u32 cu1) ∧ w.cell? ⟨p, 1, none⟩ = some (.int .u8 e1) ∧ w.cell? ⟨p, 2, none⟩ = some (.int .u16 b1) ∧ w.cell? ⟨p, 3, none⟩ = some (.int .u16 t1) ∧ w.cell? ⟨p, 4, none⟩ = some (.int .u16 pm1) ∧ w.cell? ⟨p, 5, none⟩ = some (.int .u16 ty1) ∧ w.cell? ⟨p, 6, none⟩ = some (.int .u32 rs1) ∧ w.cell? ⟨p, 7, none⟩ = some (.bool va1) ∧ w.cell? ⟨q, 0, none⟩ = some (.int .u32 cu2) ∧ w.cell? ⟨q, 1, none⟩ = some (.int .u8 e2) ∧ w.cell? ⟨q, 2, none⟩ = some (.int .u16 b2) ∧ w.cell? ⟨q, 3, none⟩ = some (.int .u16 t2) ∧ w.cell? ⟨q, 4, none⟩ = some (.int .u16 pm2) ∧ w.cell? ⟨q, 5, none⟩ = some (.int .u16 ty2) ∧ w.cell? ⟨q, 6, none⟩ = some (.int .u32 rs2) ∧ w.cell? ⟨q, 7, none⟩ = some (.bool va2) ∧ w.cell? ⟨s, 0, none⟩ = some (.int .u32 cu3) ∧ w.cell? ⟨s, 1, none⟩ = some (.int .u8 e3) ∧ w.cell? ⟨s, 2, none⟩ = some (.int .u16 b3) ∧ w.cell? ⟨s, 3, none⟩ = some (.int .u16 t3) ∧ w.cell? ⟨s, 4, none⟩ = some (.int .u16 pm3) ∧ w.cell? ⟨s, 5, none⟩ = some (.int .u16 ty3) ∧ w.cell? ⟨s, 6, none⟩ = some (.int .u32 rs3) ∧ w.cell? ⟨s, 7, none⟩ = some (.bool va3) ∧ w.cell? ⟨W.heap.size + 1, 0, none⟩ = some (.int .u32 ra) ∧ w.cell? ⟨W.heap.size + 1, 1, none⟩ = some (.int .u32 rz) ∧ SBk W p q s w) => show Calls Try.prog 25 #[.agg #[.int .u32 cu1, .int .u8 e1, .int .u16 b1, .int .u16 t1, .int .u16 pm1, .int .u16 ty1, .int .u32 rs1, .bool va1], .agg #[.int .u32 ra, .int .u32 rz]] w (fun ee w' => ee = .returned (.bool m1) ∧ (w'.cell? ⟨p, 0, none⟩ = some (.int .u32 cu1) ∧ w'.cell? ⟨p, 1, none⟩ = some (.int .u8 e1) ∧ w'.cell? ⟨p, 2, none⟩ = some (.int .u16 b1) ∧ w'.cell? ⟨p, 3, none⟩ = some (.int .u16 t1) ∧ w'.cell? ⟨p, 4, none⟩ = some (.int .u16 pm1) ∧ w'.cell? ⟨p, 5, none⟩ = some (.int .u16 ty1) ∧ w'.cell? ⟨p, 6, none⟩ = some (.int .u32 rs1) ∧ w'.cell? ⟨p, 7, none⟩ = some (.bool va1) ∧ w'.cell? ⟨q, 0, none⟩ = some (.int .u32 cu2) ∧ w'.cell? ⟨q, 1, none⟩ = some (.int .u8 e2) ∧ w'.cell? ⟨q, 2, none⟩ = some (.int .u16 b2) ∧ w'.cell? ⟨q, 3, none⟩ = some (.int .u16 t2) ∧ w'.cell? ⟨q, 4, none⟩ = some (.int .u16 pm2) ∧ w'.cell? ⟨q, 5, none⟩ = some (.int .u16 ty2) ∧ w'.cell? ⟨q, 6, none⟩ = some (.int .u32 rs2) ∧ w'.cell? ⟨q, 7, none⟩ = some (.bool va2) ∧ w'.cell? ⟨s, 0, none⟩ = some (.int .u32 cu3) ∧ w'.cell? ⟨s, 1, none⟩ = some (.int .u8 e3) ∧ w'.cell? ⟨s, 2, none⟩ = some (.int .u16 b3) ∧ w'.cell? ⟨s, 3, none⟩ = some (.int .u16 t3) ∧ w'.cell? ⟨s, 4, none⟩ = some (.int .u16 pm3) ∧ w'.cell? ⟨s, 5, none⟩ = some (.int .u16 ty3) ∧ w'.cell? ⟨s, 6, none⟩ = some (.int .u32 rs3) ∧ w'.cell? ⟨s, 7, none⟩ = some (.bool va3) ∧ w'.cell? ⟨W.heap.size + 1, 0, none⟩ = some (.int .u32 ra) ∧ w'.cell? ⟨W.heap.size + 1, 1, none⟩ = some (.int .u32 rz) ∧ SBk W p q s w')) from by rw [hm1]; exact (pMeets_any cu1 e1 b1 t1 pm1 ty1 rs1 va1 ra rz lcu1 le1 lb1 lt1 lpm1 lty1 lrs1 lra lrz w).mono fun _ _ k => ⟨k.1, ch_step h k.2⟩)
  have mb := Lib.hid (fun w (h : w.cell? ⟨p, 0, none⟩ = some (.int .u32 cu1) ∧ w.cell? ⟨p, 1, none⟩ = some (.int .u8 e1) ∧ w.cell? ⟨p, 2, none⟩ = some (.int .u16 b1) ∧ w.cell? ⟨p, 3, none⟩ = some (.int .u16 t1) ∧ w.cell? ⟨p, 4, none⟩ = some (.int .u16 pm1) ∧ w.cell? ⟨p, 5, none⟩ = some (.int .u16 ty1) ∧ w.cell? ⟨p, 6, none⟩ = some (.int .u32 rs1) ∧ w.cell? ⟨p, 7, none⟩ = some (.bool va1) ∧ w.cell? ⟨q, 0, none⟩ = some (.int .u32 cu2) ∧ w.cell? ⟨q, 1, none⟩ = some (.int .u8 e2) ∧ w.cell? ⟨q, 2, none⟩ = some (.int .u16 b2) ∧ w.cell? ⟨q, 3, none⟩ = some (.int .u16 t2) ∧ w.cell? ⟨q, 4, none⟩ = some (.int .u16 pm2) ∧ w.cell? ⟨q, 5, none⟩ = some (.int .u16 ty2) ∧ w.cell? ⟨q, 6, none⟩ = some (.int .u32 rs2) ∧ w.cell? ⟨q, 7, none⟩ = some (.bool va2) ∧ w.cell? ⟨s, 0, none⟩ = some (.int .u32 cu3) ∧ w.cell? ⟨s, 1, none⟩ = some (.int .u8 e3) ∧ w.cell? ⟨s, 2, none⟩ = some (.int .u16 b3) ∧ w.cell? ⟨s, 3, none⟩ = some (.int .u16 t3) ∧ w.cell? ⟨s, 4, none⟩ = some (.int .u16 pm3) ∧ w.cell? ⟨s, 5, none⟩ = some (.int .u16 ty3) ∧ w.cell? ⟨s, 6, none⟩ = some (.int .u32 rs3) ∧ w.cell? ⟨s, 7, none⟩ = some (.bool va3) ∧ w.cell? ⟨W.heap.size + 1, 0, none⟩ = some (.int .u32 ra) ∧ w.cell? ⟨W.heap.size + 1, 1, none⟩ = some (.int .u32 rz) ∧ SBk W p q s w) => show Calls Try.prog 25 #[.agg #[.int .u32 cu2, .int .u8 e2, .int .u16 b2, .int .u16 t2, .int .u16 pm2, .int .u16 ty2, .int .u32 rs2, .bool va2], .agg #[.int .u32 ra, .int .u32 rz]] w (fun ee w' => ee = .returned (.bool m2) ∧ (w'.cell? ⟨p, 0, none⟩ = some (.int .u32 cu1) ∧ w'.cell? ⟨p, 1, none⟩ = some (.int .u8 e1) ∧ w'.cell? ⟨p, 2, none⟩ = some (.int .u16 b1) ∧ w'.cell? ⟨p, 3, none⟩ = some (.int .u16 t1) ∧ w'.cell? ⟨p, 4, none⟩ = some (.int .u16 pm1) ∧ w'.cell? ⟨p, 5, none⟩ = some (.int .u16 ty1) ∧ w'.cell? ⟨p, 6, none⟩ = some (.int .u32 rs1) ∧ w'.cell? ⟨p, 7, none⟩ = some (.bool va1) ∧ w'.cell? ⟨q, 0, none⟩ = some (.int .u32 cu2) ∧ w'.cell? ⟨q, 1, none⟩ = some (.int .u8 e2) ∧ w'.cell? ⟨q, 2, none⟩ = some (.int .u16 b2) ∧ w'.cell? ⟨q, 3, none⟩ = some (.int .u16 t2) ∧ w'.cell? ⟨q, 4, none⟩ = some (.int .u16 pm2) ∧ w'.cell? ⟨q, 5, none⟩ = some (.int .u16 ty2) ∧ w'.cell? ⟨q, 6, none⟩ = some (.int .u32 rs2) ∧ w'.cell? ⟨q, 7, none⟩ = some (.bool va2) ∧ w'.cell? ⟨s, 0, none⟩ = some (.int .u32 cu3) ∧ w'.cell? ⟨s, 1, none⟩ = some (.int .u8 e3) ∧ w'.cell? ⟨s, 2, none⟩ = some (.int .u16 b3) ∧ w'.cell? ⟨s, 3, none⟩ = some (.int .u16 t3) ∧ w'.cell? ⟨s, 4, none⟩ = some (.int .u16 pm3) ∧ w'.cell? ⟨s, 5, none⟩ = some (.int .u16 ty3) ∧ w'.cell? ⟨s, 6, none⟩ = some (.int .u32 rs3) ∧ w'.cell? ⟨s, 7, none⟩ = some (.bool va3) ∧ w'.cell? ⟨W.heap.size + 1, 0, none⟩ = some (.int .u32 ra) ∧ w'.cell? ⟨W.heap.size + 1, 1, none⟩ = some (.int .u32 rz) ∧ SBk W p q s w')) from by rw [hm2]; exact (pMeets_any cu2 e2 b2 t2 pm2 ty2 rs2 va2 ra rz lcu2 le2 lb2 lt2 lpm2 lty2 lrs2 lra lrz w).mono fun _ _ k => ⟨k.1, ch_step h k.2⟩)
  have ha := Lib.hid (fun w (h : w.cell? ⟨p, 0, none⟩ = some (.int .u32 cu1) ∧ w.cell? ⟨p, 1, none⟩ = some (.int .u8 e1) ∧ w.cell? ⟨p, 2, none⟩ = some (.int .u16 b1) ∧ w.cell? ⟨p, 3, none⟩ = some (.int .u16 t1) ∧ w.cell? ⟨p, 4, none⟩ = some (.int .u16 pm1) ∧ w.cell? ⟨p, 5, none⟩ = some (.int .u16 ty1) ∧ w.cell? ⟨p, 6, none⟩ = some (.int .u32 rs1) ∧ w.cell? ⟨p, 7, none⟩ = some (.bool va1) ∧ w.cell? ⟨q, 0, none⟩ = some (.int .u32 cu2) ∧ w.cell? ⟨q, 1, none⟩ = some (.int .u8 e2) ∧ w.cell? ⟨q, 2, none⟩ = some (.int .u16 b2) ∧ w.cell? ⟨q, 3, none⟩ = some (.int .u16 t2) ∧ w.cell? ⟨q, 4, none⟩ = some (.int .u16 pm2) ∧ w.cell? ⟨q, 5, none⟩ = some (.int .u16 ty2) ∧ w.cell? ⟨q, 6, none⟩ = some (.int .u32 rs2) ∧ w.cell? ⟨q, 7, none⟩ = some (.bool va2) ∧ w.cell? ⟨s, 0, none⟩ = some (.int .u32 cu3) ∧ w.cell? ⟨s, 1, none⟩ = some (.int .u8 e3) ∧ w.cell? ⟨s, 2, none⟩ = some (.int .u16 b3) ∧ w.cell? ⟨s, 3, none⟩ = some (.int .u16 t3) ∧ w.cell? ⟨s, 4, none⟩ = some (.int .u16 pm3) ∧ w.cell? ⟨s, 5, none⟩ = some (.int .u16 ty3) ∧ w.cell? ⟨s, 6, none⟩ = some (.int .u32 rs3) ∧ w.cell? ⟨s, 7, none⟩ = some (.bool va3) ∧ w.cell? ⟨W.heap.size + 1, 0, none⟩ = some (.int .u32 ra) ∧ w.cell? ⟨W.heap.size + 1, 1, none⟩ = some (.int .u32 rz) ∧ SBk W p q s w) => show Calls Try.prog 23 #[.agg #[.int .u32 cu1, .int .u8 e1, .int .u16 b1, .int .u16 t1, .int .u16 pm1, .int .u16 ty1, .int .u32 rs1, .bool va1], .agg #[.int .u32 ra, .int .u32 rz]] w (fun ee w' => ee = .returned (.bool o1) ∧ (w'.cell? ⟨p, 0, none⟩ = some (.int .u32 cu1) ∧ w'.cell? ⟨p, 1, none⟩ = some (.int .u8 e1) ∧ w'.cell? ⟨p, 2, none⟩ = some (.int .u16 b1) ∧ w'.cell? ⟨p, 3, none⟩ = some (.int .u16 t1) ∧ w'.cell? ⟨p, 4, none⟩ = some (.int .u16 pm1) ∧ w'.cell? ⟨p, 5, none⟩ = some (.int .u16 ty1) ∧ w'.cell? ⟨p, 6, none⟩ = some (.int .u32 rs1) ∧ w'.cell? ⟨p, 7, none⟩ = some (.bool va1) ∧ w'.cell? ⟨q, 0, none⟩ = some (.int .u32 cu2) ∧ w'.cell? ⟨q, 1, none⟩ = some (.int .u8 e2) ∧ w'.cell? ⟨q, 2, none⟩ = some (.int .u16 b2) ∧ w'.cell? ⟨q, 3, none⟩ = some (.int .u16 t2) ∧ w'.cell? ⟨q, 4, none⟩ = some (.int .u16 pm2) ∧ w'.cell? ⟨q, 5, none⟩ = some (.int .u16 ty2) ∧ w'.cell? ⟨q, 6, none⟩ = some (.int .u32 rs2) ∧ w'.cell? ⟨q, 7, none⟩ = some (.bool va2) ∧ w'.cell? ⟨s, 0, none⟩ = some (.int .u32 cu3) ∧ w'.cell? ⟨s, 1, none⟩ = some (.int .u8 e3) ∧ w'.cell? ⟨s, 2, none⟩ = some (.int .u16 b3) ∧ w'.cell? ⟨s, 3, none⟩ = some (.int .u16 t3) ∧ w'.cell? ⟨s, 4, none⟩ = some (.int .u16 pm3) ∧ w'.cell? ⟨s, 5, none⟩ = some (.int .u16 ty3) ∧ w'.cell? ⟨s, 6, none⟩ = some (.int .u32 rs3) ∧ w'.cell? ⟨s, 7, none⟩ = some (.bool va3) ∧ w'.cell? ⟨W.heap.size + 1, 0, none⟩ = some (.int .u32 ra) ∧ w'.cell? ⟨W.heap.size + 1, 1, none⟩ = some (.int .u32 rz) ∧ SBk W p q s w')) from by rw [ho1]; exact (pHolds_any cu1 e1 b1 t1 pm1 ty1 rs1 va1 ra rz lcu1 le1 lb1 lt1 lpm1 lty1 lrs1 lra lrz w).mono fun _ _ k => ⟨k.1, ch_step h k.2⟩)
  have hb_ := Lib.hid (fun w (h : w.cell? ⟨p, 0, none⟩ = some (.int .u32 cu1) ∧ w.cell? ⟨p, 1, none⟩ = some (.int .u8 e1) ∧ w.cell? ⟨p, 2, none⟩ = some (.int .u16 b1) ∧ w.cell? ⟨p, 3, none⟩ = some (.int .u16 t1) ∧ w.cell? ⟨p, 4, none⟩ = some (.int .u16 pm1) ∧ w.cell? ⟨p, 5, none⟩ = some (.int .u16 ty1) ∧ w.cell? ⟨p, 6, none⟩ = some (.int .u32 rs1) ∧ w.cell? ⟨p, 7, none⟩ = some (.bool va1) ∧ w.cell? ⟨q, 0, none⟩ = some (.int .u32 cu2) ∧ w.cell? ⟨q, 1, none⟩ = some (.int .u8 e2) ∧ w.cell? ⟨q, 2, none⟩ = some (.int .u16 b2) ∧ w.cell? ⟨q, 3, none⟩ = some (.int .u16 t2) ∧ w.cell? ⟨q, 4, none⟩ = some (.int .u16 pm2) ∧ w.cell? ⟨q, 5, none⟩ = some (.int .u16 ty2) ∧ w.cell? ⟨q, 6, none⟩ = some (.int .u32 rs2) ∧ w.cell? ⟨q, 7, none⟩ = some (.bool va2) ∧ w.cell? ⟨s, 0, none⟩ = some (.int .u32 cu3) ∧ w.cell? ⟨s, 1, none⟩ = some (.int .u8 e3) ∧ w.cell? ⟨s, 2, none⟩ = some (.int .u16 b3) ∧ w.cell? ⟨s, 3, none⟩ = some (.int .u16 t3) ∧ w.cell? ⟨s, 4, none⟩ = some (.int .u16 pm3) ∧ w.cell? ⟨s, 5, none⟩ = some (.int .u16 ty3) ∧ w.cell? ⟨s, 6, none⟩ = some (.int .u32 rs3) ∧ w.cell? ⟨s, 7, none⟩ = some (.bool va3) ∧ w.cell? ⟨W.heap.size + 1, 0, none⟩ = some (.int .u32 ra) ∧ w.cell? ⟨W.heap.size + 1, 1, none⟩ = some (.int .u32 rz) ∧ SBk W p q s w) => show Calls Try.prog 23 #[.agg #[.int .u32 cu2, .int .u8 e2, .int .u16 b2, .int .u16 t2, .int .u16 pm2, .int .u16 ty2, .int .u32 rs2, .bool va2], .agg #[.int .u32 ra, .int .u32 rz]] w (fun ee w' => ee = .returned (.bool o2) ∧ (w'.cell? ⟨p, 0, none⟩ = some (.int .u32 cu1) ∧ w'.cell? ⟨p, 1, none⟩ = some (.int .u8 e1) ∧ w'.cell? ⟨p, 2, none⟩ = some (.int .u16 b1) ∧ w'.cell? ⟨p, 3, none⟩ = some (.int .u16 t1) ∧ w'.cell? ⟨p, 4, none⟩ = some (.int .u16 pm1) ∧ w'.cell? ⟨p, 5, none⟩ = some (.int .u16 ty1) ∧ w'.cell? ⟨p, 6, none⟩ = some (.int .u32 rs1) ∧ w'.cell? ⟨p, 7, none⟩ = some (.bool va1) ∧ w'.cell? ⟨q, 0, none⟩ = some (.int .u32 cu2) ∧ w'.cell? ⟨q, 1, none⟩ = some (.int .u8 e2) ∧ w'.cell? ⟨q, 2, none⟩ = some (.int .u16 b2) ∧ w'.cell? ⟨q, 3, none⟩ = some (.int .u16 t2) ∧ w'.cell? ⟨q, 4, none⟩ = some (.int .u16 pm2) ∧ w'.cell? ⟨q, 5, none⟩ = some (.int .u16 ty2) ∧ w'.cell? ⟨q, 6, none⟩ = some (.int .u32 rs2) ∧ w'.cell? ⟨q, 7, none⟩ = some (.bool va2) ∧ w'.cell? ⟨s, 0, none⟩ = some (.int .u32 cu3) ∧ w'.cell? ⟨s, 1, none⟩ = some (.int .u8 e3) ∧ w'.cell? ⟨s, 2, none⟩ = some (.int .u16 b3) ∧ w'.cell? ⟨s, 3, none⟩ = some (.int .u16 t3) ∧ w'.cell? ⟨s, 4, none⟩ = some (.int .u16 pm3) ∧ w'.cell? ⟨s, 5, none⟩ = some (.int .u16 ty3) ∧ w'.cell? ⟨s, 6, none⟩ = some (.int .u32 rs3) ∧ w'.cell? ⟨s, 7, none⟩ = some (.bool va3) ∧ w'.cell? ⟨W.heap.size + 1, 0, none⟩ = some (.int .u32 ra) ∧ w'.cell? ⟨W.heap.size + 1, 1, none⟩ = some (.int .u32 rz) ∧ SBk W p q s w')) from by rw [ho2]; exact (pHolds_any cu2 e2 b2 t2 pm2 ty2 rs2 va2 ra rz lcu2 le2 lb2 lt2 lpm2 lty2 lrs2 lra lrz w).mono fun _ _ k => ⟨k.1, ch_step h k.2⟩)
  clear hz12 hz23 hz13 hz11 hz22 hm1 ho1 hm2 ho2 hx1 hy1 hx2 hy2 lcu1 le1 lb1 lt1 lpm1 lty1 lrs1 lcu2 le2 lb2 lt2 lpm2 lty2 lrs2 lcu3 le3 lb3 lt3 lpm3 lty3 lrs3 lra lrz h1
  subst t11 t22
  obtain ⟨a0, a1, a2, a3, a4, a5, a6, a7, c0, c1, c2, c3, c4, c5, c6, c7, d0, d1, d2, d3, d4, d5, d6, d7, r0, r1, hs⟩ := hF
  go_wp2_with fail
  refine (kaa.out _ ⟨a0, a1, a2, a3, a4, a5, a6, a7, c0, c1, c2, c3, c4, c5, c6, c7, d0, d1, d2, d3, d4, d5, d6, d7, r0, r1, hs⟩).mono ?_
  rintro ee w' ⟨rfl, k1⟩
  clear a0 a1 a2 a3 a4 a5 a6 a7 c0 c1 c2 c3 c4 c5 c6 c7 d0 d1 d2 d3 d4 d5 d6 d7 r0 r1 hs
  obtain ⟨a0, a1, a2, a3, a4, a5, a6, a7, c0, c1, c2, c3, c4, c5, c6, c7, d0, d1, d2, d3, d4, d5, d6, d7, r0, r1, hs⟩ := k1
  go_wp2_with fail
  refine (kbb.out _ ⟨a0, a1, a2, a3, a4, a5, a6, a7, c0, c1, c2, c3, c4, c5, c6, c7, d0, d1, d2, d3, d4, d5, d6, d7, r0, r1, hs⟩).mono ?_
  rintro ee w' ⟨rfl, k1⟩
  clear a0 a1 a2 a3 a4 a5 a6 a7 c0 c1 c2 c3 c4 c5 c6 c7 d0 d1 d2 d3 d4 d5 d6 d7 r0 r1 hs
  obtain ⟨a0, a1, a2, a3, a4, a5, a6, a7, c0, c1, c2, c3, c4, c5, c6, c7, d0, d1, d2, d3, d4, d5, d6, d7, r0, r1, hs⟩ := k1
  go_wp2_with fail
  refine (ga.out _ ⟨a0, a1, a2, a3, a4, a5, a6, a7, c0, c1, c2, c3, c4, c5, c6, c7, d0, d1, d2, d3, d4, d5, d6, d7, r0, r1, hs⟩).mono ?_
  rintro ee w' ⟨rfl, k1⟩
  clear a0 a1 a2 a3 a4 a5 a6 a7 c0 c1 c2 c3 c4 c5 c6 c7 d0 d1 d2 d3 d4 d5 d6 d7 r0 r1 hs
  obtain ⟨a0, a1, a2, a3, a4, a5, a6, a7, c0, c1, c2, c3, c4, c5, c6, c7, d0, d1, d2, d3, d4, d5, d6, d7, r0, r1, hs⟩ := k1
  go_wp2_with fail
  cases z12 with
  | false =>
    refine (kab.out _ ⟨a0, a1, a2, a3, a4, a5, a6, a7, c0, c1, c2, c3, c4, c5, c6, c7, d0, d1, d2, d3, d4, d5, d6, d7, r0, r1, hs⟩).mono ?_
    rintro ee w' ⟨rfl, k1⟩
    clear a0 a1 a2 a3 a4 a5 a6 a7 c0 c1 c2 c3 c4 c5 c6 c7 d0 d1 d2 d3 d4 d5 d6 d7 r0 r1 hs
    obtain ⟨a0, a1, a2, a3, a4, a5, a6, a7, c0, c1, c2, c3, c4, c5, c6, c7, d0, d1, d2, d3, d4, d5, d6, d7, r0, r1, hs⟩ := k1
    go_wp2_with fail
    refine (gb.out _ ⟨a0, a1, a2, a3, a4, a5, a6, a7, c0, c1, c2, c3, c4, c5, c6, c7, d0, d1, d2, d3, d4, d5, d6, d7, r0, r1, hs⟩).mono ?_
    rintro ee w' ⟨rfl, k1⟩
    clear a0 a1 a2 a3 a4 a5 a6 a7 c0 c1 c2 c3 c4 c5 c6 c7 d0 d1 d2 d3 d4 d5 d6 d7 r0 r1 hs
    obtain ⟨a0, a1, a2, a3, a4, a5, a6, a7, c0, c1, c2, c3, c4, c5, c6, c7, d0, d1, d2, d3, d4, d5, d6, d7, r0, r1, hs⟩ := k1
    go_wp2_with fail
    refine (kab.out _ ⟨a0, a1, a2, a3, a4, a5, a6, a7, c0, c1, c2, c3, c4, c5, c6, c7, d0, d1, d2, d3, d4, d5, d6, d7, r0, r1, hs⟩).mono ?_
    rintro ee w' ⟨rfl, k1⟩
    clear a0 a1 a2 a3 a4 a5 a6 a7 c0 c1 c2 c3 c4 c5 c6 c7 d0 d1 d2 d3 d4 d5 d6 d7 r0 r1 hs
    obtain ⟨a0, a1, a2, a3, a4, a5, a6, a7, c0, c1, c2, c3, c4, c5, c6, c7, d0, d1, d2, d3, d4, d5, d6, d7, r0, r1, hs⟩ := k1
    go_wp2
    go_ret
    exact ⟨rfl, hs.1⟩
  | true =>
    have hp := tp rfl
    clear tp
    rcases (show (m1 = true ∧ m2 = true) ∨ m1 = false from by cases m1 with | false => exact .inr rfl | true => exact .inl ⟨rfl, tm rfl rfl⟩) with ⟨rfl, rfl⟩ | rfl
    · by_cases hlt : x1 < y1
      · rcases (show (o1 = true ∧ o2 = true) ∨ o1 = false from by cases o1 with | false => exact .inr rfl | true => exact .inl ⟨rfl, to_ rfl hlt rfl⟩) with ⟨rfl, rfl⟩ | rfl
        · refine (kab.out _ ⟨a0, a1, a2, a3, a4, a5, a6, a7, c0, c1, c2, c3, c4, c5, c6, c7, d0, d1, d2, d3, d4, d5, d6, d7, r0, r1, hs⟩).mono ?_
          rintro ee w' ⟨rfl, k1⟩
          clear a0 a1 a2 a3 a4 a5 a6 a7 c0 c1 c2 c3 c4 c5 c6 c7 d0 d1 d2 d3 d4 d5 d6 d7 r0 r1 hs
          obtain ⟨a0, a1, a2, a3, a4, a5, a6, a7, c0, c1, c2, c3, c4, c5, c6, c7, d0, d1, d2, d3, d4, d5, d6, d7, r0, r1, hs⟩ := k1
          go_wp2_with fail
          refine (ma.out _ ⟨a0, a1, a2, a3, a4, a5, a6, a7, c0, c1, c2, c3, c4, c5, c6, c7, d0, d1, d2, d3, d4, d5, d6, d7, r0, r1, hs⟩).mono ?_
          rintro ee w' ⟨rfl, k1⟩
          clear a0 a1 a2 a3 a4 a5 a6 a7 c0 c1 c2 c3 c4 c5 c6 c7 d0 d1 d2 d3 d4 d5 d6 d7 r0 r1 hs
          obtain ⟨a0, a1, a2, a3, a4, a5, a6, a7, c0, c1, c2, c3, c4, c5, c6, c7, d0, d1, d2, d3, d4, d5, d6, d7, r0, r1, hs⟩ := k1
          go_wp2_with fail
          refine (mb.out _ ⟨a0, a1, a2, a3, a4, a5, a6, a7, c0, c1, c2, c3, c4, c5, c6, c7, d0, d1, d2, d3, d4, d5, d6, d7, r0, r1, hs⟩).mono ?_
          rintro ee w' ⟨rfl, k1⟩
          clear a0 a1 a2 a3 a4 a5 a6 a7 c0 c1 c2 c3 c4 c5 c6 c7 d0 d1 d2 d3 d4 d5 d6 d7 r0 r1 hs
          obtain ⟨a0, a1, a2, a3, a4, a5, a6, a7, c0, c1, c2, c3, c4, c5, c6, c7, d0, d1, d2, d3, d4, d5, d6, d7, r0, r1, hs⟩ := k1
          go_wp2_with fail
          refine (ha.out _ ⟨a0, a1, a2, a3, a4, a5, a6, a7, c0, c1, c2, c3, c4, c5, c6, c7, d0, d1, d2, d3, d4, d5, d6, d7, r0, r1, hs⟩).mono ?_
          rintro ee w' ⟨rfl, k1⟩
          clear a0 a1 a2 a3 a4 a5 a6 a7 c0 c1 c2 c3 c4 c5 c6 c7 d0 d1 d2 d3 d4 d5 d6 d7 r0 r1 hs
          obtain ⟨a0, a1, a2, a3, a4, a5, a6, a7, c0, c1, c2, c3, c4, c5, c6, c7, d0, d1, d2, d3, d4, d5, d6, d7, r0, r1, hs⟩ := k1
          go_wp2_with fail
          refine (hb_.out _ ⟨a0, a1, a2, a3, a4, a5, a6, a7, c0, c1, c2, c3, c4, c5, c6, c7, d0, d1, d2, d3, d4, d5, d6, d7, r0, r1, hs⟩).mono ?_
          rintro ee w' ⟨rfl, k1⟩
          clear a0 a1 a2 a3 a4 a5 a6 a7 c0 c1 c2 c3 c4 c5 c6 c7 d0 d1 d2 d3 d4 d5 d6 d7 r0 r1 hs
          obtain ⟨a0, a1, a2, a3, a4, a5, a6, a7, c0, c1, c2, c3, c4, c5, c6, c7, d0, d1, d2, d3, d4, d5, d6, d7, r0, r1, hs⟩ := k1
          go_wp2_with fail
          cases z23 with
          | false =>
            refine (gb.out _ ⟨a0, a1, a2, a3, a4, a5, a6, a7, c0, c1, c2, c3, c4, c5, c6, c7, d0, d1, d2, d3, d4, d5, d6, d7, r0, r1, hs⟩).mono ?_
            rintro ee w' ⟨rfl, k1⟩
            clear a0 a1 a2 a3 a4 a5 a6 a7 c0 c1 c2 c3 c4 c5 c6 c7 d0 d1 d2 d3 d4 d5 d6 d7 r0 r1 hs
            obtain ⟨a0, a1, a2, a3, a4, a5, a6, a7, c0, c1, c2, c3, c4, c5, c6, c7, d0, d1, d2, d3, d4, d5, d6, d7, r0, r1, hs⟩ := k1
            go_wp2_with fail
            refine (kab.out _ ⟨a0, a1, a2, a3, a4, a5, a6, a7, c0, c1, c2, c3, c4, c5, c6, c7, d0, d1, d2, d3, d4, d5, d6, d7, r0, r1, hs⟩).mono ?_
            rintro ee w' ⟨rfl, k1⟩
            clear a0 a1 a2 a3 a4 a5 a6 a7 c0 c1 c2 c3 c4 c5 c6 c7 d0 d1 d2 d3 d4 d5 d6 d7 r0 r1 hs
            obtain ⟨a0, a1, a2, a3, a4, a5, a6, a7, c0, c1, c2, c3, c4, c5, c6, c7, d0, d1, d2, d3, d4, d5, d6, d7, r0, r1, hs⟩ := k1
            go_wp2_with fail
            refine (kbc.out _ ⟨a0, a1, a2, a3, a4, a5, a6, a7, c0, c1, c2, c3, c4, c5, c6, c7, d0, d1, d2, d3, d4, d5, d6, d7, r0, r1, hs⟩).mono ?_
            rintro ee w' ⟨rfl, k1⟩
            clear a0 a1 a2 a3 a4 a5 a6 a7 c0 c1 c2 c3 c4 c5 c6 c7 d0 d1 d2 d3 d4 d5 d6 d7 r0 r1 hs
            obtain ⟨a0, a1, a2, a3, a4, a5, a6, a7, c0, c1, c2, c3, c4, c5, c6, c7, d0, d1, d2, d3, d4, d5, d6, d7, r0, r1, hs⟩ := k1
            go_wp2
            go_ret
            exact ⟨rfl, hs.1⟩
          | true =>
            obtain rfl : z13 = true := by simpa using t13
            refine (gb.out _ ⟨a0, a1, a2, a3, a4, a5, a6, a7, c0, c1, c2, c3, c4, c5, c6, c7, d0, d1, d2, d3, d4, d5, d6, d7, r0, r1, hs⟩).mono ?_
            rintro ee w' ⟨rfl, k1⟩
            clear a0 a1 a2 a3 a4 a5 a6 a7 c0 c1 c2 c3 c4 c5 c6 c7 d0 d1 d2 d3 d4 d5 d6 d7 r0 r1 hs
            obtain ⟨a0, a1, a2, a3, a4, a5, a6, a7, c0, c1, c2, c3, c4, c5, c6, c7, d0, d1, d2, d3, d4, d5, d6, d7, r0, r1, hs⟩ := k1
            go_wp2_with fail
            refine (kab.out _ ⟨a0, a1, a2, a3, a4, a5, a6, a7, c0, c1, c2, c3, c4, c5, c6, c7, d0, d1, d2, d3, d4, d5, d6, d7, r0, r1, hs⟩).mono ?_
            rintro ee w' ⟨rfl, k1⟩
            clear a0 a1 a2 a3 a4 a5 a6 a7 c0 c1 c2 c3 c4 c5 c6 c7 d0 d1 d2 d3 d4 d5 d6 d7 r0 r1 hs
            obtain ⟨a0, a1, a2, a3, a4, a5, a6, a7, c0, c1, c2, c3, c4, c5, c6, c7, d0, d1, d2, d3, d4, d5, d6, d7, r0, r1, hs⟩ := k1
            go_wp2_with fail
            refine (kbc.out _ ⟨a0, a1, a2, a3, a4, a5, a6, a7, c0, c1, c2, c3, c4, c5, c6, c7, d0, d1, d2, d3, d4, d5, d6, d7, r0, r1, hs⟩).mono ?_
            rintro ee w' ⟨rfl, k1⟩
            clear a0 a1 a2 a3 a4 a5 a6 a7 c0 c1 c2 c3 c4 c5 c6 c7 d0 d1 d2 d3 d4 d5 d6 d7 r0 r1 hs
            obtain ⟨a0, a1, a2, a3, a4, a5, a6, a7, c0, c1, c2, c3, c4, c5, c6, c7, d0, d1, d2, d3, d4, d5, d6, d7, r0, r1, hs⟩ := k1
            go_wp2_with fail
            refine (kac.out _ ⟨a0, a1, a2, a3, a4, a5, a6, a7, c0, c1, c2, c3, c4, c5, c6, c7, d0, d1, d2, d3, d4, d5, d6, d7, r0, r1, hs⟩).mono ?_
            rintro ee w' ⟨rfl, k1⟩
            clear a0 a1 a2 a3 a4 a5 a6 a7 c0 c1 c2 c3 c4 c5 c6 c7 d0 d1 d2 d3 d4 d5 d6 d7 r0 r1 hs
            obtain ⟨a0, a1, a2, a3, a4, a5, a6, a7, c0, c1, c2, c3, c4, c5, c6, c7, d0, d1, d2, d3, d4, d5, d6, d7, r0, r1, hs⟩ := k1
            go_wp2
            go_ret
            exact ⟨rfl, hs.1⟩
        · refine (kab.out _ ⟨a0, a1, a2, a3, a4, a5, a6, a7, c0, c1, c2, c3, c4, c5, c6, c7, d0, d1, d2, d3, d4, d5, d6, d7, r0, r1, hs⟩).mono ?_
          rintro ee w' ⟨rfl, k1⟩
          clear a0 a1 a2 a3 a4 a5 a6 a7 c0 c1 c2 c3 c4 c5 c6 c7 d0 d1 d2 d3 d4 d5 d6 d7 r0 r1 hs
          obtain ⟨a0, a1, a2, a3, a4, a5, a6, a7, c0, c1, c2, c3, c4, c5, c6, c7, d0, d1, d2, d3, d4, d5, d6, d7, r0, r1, hs⟩ := k1
          go_wp2_with fail
          refine (ma.out _ ⟨a0, a1, a2, a3, a4, a5, a6, a7, c0, c1, c2, c3, c4, c5, c6, c7, d0, d1, d2, d3, d4, d5, d6, d7, r0, r1, hs⟩).mono ?_
          rintro ee w' ⟨rfl, k1⟩
          clear a0 a1 a2 a3 a4 a5 a6 a7 c0 c1 c2 c3 c4 c5 c6 c7 d0 d1 d2 d3 d4 d5 d6 d7 r0 r1 hs
          obtain ⟨a0, a1, a2, a3, a4, a5, a6, a7, c0, c1, c2, c3, c4, c5, c6, c7, d0, d1, d2, d3, d4, d5, d6, d7, r0, r1, hs⟩ := k1
          go_wp2_with fail
          refine (mb.out _ ⟨a0, a1, a2, a3, a4, a5, a6, a7, c0, c1, c2, c3, c4, c5, c6, c7, d0, d1, d2, d3, d4, d5, d6, d7, r0, r1, hs⟩).mono ?_
          rintro ee w' ⟨rfl, k1⟩
          clear a0 a1 a2 a3 a4 a5 a6 a7 c0 c1 c2 c3 c4 c5 c6 c7 d0 d1 d2 d3 d4 d5 d6 d7 r0 r1 hs
          obtain ⟨a0, a1, a2, a3, a4, a5, a6, a7, c0, c1, c2, c3, c4, c5, c6, c7, d0, d1, d2, d3, d4, d5, d6, d7, r0, r1, hs⟩ := k1
          go_wp2_with fail
          refine (ha.out _ ⟨a0, a1, a2, a3, a4, a5, a6, a7, c0, c1, c2, c3, c4, c5, c6, c7, d0, d1, d2, d3, d4, d5, d6, d7, r0, r1, hs⟩).mono ?_
          rintro ee w' ⟨rfl, k1⟩
          clear a0 a1 a2 a3 a4 a5 a6 a7 c0 c1 c2 c3 c4 c5 c6 c7 d0 d1 d2 d3 d4 d5 d6 d7 r0 r1 hs
          obtain ⟨a0, a1, a2, a3, a4, a5, a6, a7, c0, c1, c2, c3, c4, c5, c6, c7, d0, d1, d2, d3, d4, d5, d6, d7, r0, r1, hs⟩ := k1
          go_wp2_with fail
          cases z23 with
          | false =>
            refine (gb.out _ ⟨a0, a1, a2, a3, a4, a5, a6, a7, c0, c1, c2, c3, c4, c5, c6, c7, d0, d1, d2, d3, d4, d5, d6, d7, r0, r1, hs⟩).mono ?_
            rintro ee w' ⟨rfl, k1⟩
            clear a0 a1 a2 a3 a4 a5 a6 a7 c0 c1 c2 c3 c4 c5 c6 c7 d0 d1 d2 d3 d4 d5 d6 d7 r0 r1 hs
            obtain ⟨a0, a1, a2, a3, a4, a5, a6, a7, c0, c1, c2, c3, c4, c5, c6, c7, d0, d1, d2, d3, d4, d5, d6, d7, r0, r1, hs⟩ := k1
            go_wp2_with fail
            refine (kab.out _ ⟨a0, a1, a2, a3, a4, a5, a6, a7, c0, c1, c2, c3, c4, c5, c6, c7, d0, d1, d2, d3, d4, d5, d6, d7, r0, r1, hs⟩).mono ?_
            rintro ee w' ⟨rfl, k1⟩
            clear a0 a1 a2 a3 a4 a5 a6 a7 c0 c1 c2 c3 c4 c5 c6 c7 d0 d1 d2 d3 d4 d5 d6 d7 r0 r1 hs
            obtain ⟨a0, a1, a2, a3, a4, a5, a6, a7, c0, c1, c2, c3, c4, c5, c6, c7, d0, d1, d2, d3, d4, d5, d6, d7, r0, r1, hs⟩ := k1
            go_wp2_with fail
            refine (kbc.out _ ⟨a0, a1, a2, a3, a4, a5, a6, a7, c0, c1, c2, c3, c4, c5, c6, c7, d0, d1, d2, d3, d4, d5, d6, d7, r0, r1, hs⟩).mono ?_
            rintro ee w' ⟨rfl, k1⟩
            clear a0 a1 a2 a3 a4 a5 a6 a7 c0 c1 c2 c3 c4 c5 c6 c7 d0 d1 d2 d3 d4 d5 d6 d7 r0 r1 hs
            obtain ⟨a0, a1, a2, a3, a4, a5, a6, a7, c0, c1, c2, c3, c4, c5, c6, c7, d0, d1, d2, d3, d4, d5, d6, d7, r0, r1, hs⟩ := k1
            go_wp2
            go_ret
            exact ⟨rfl, hs.1⟩
          | true =>
            obtain rfl : z13 = true := by simpa using t13
            refine (gb.out _ ⟨a0, a1, a2, a3, a4, a5, a6, a7, c0, c1, c2, c3, c4, c5, c6, c7, d0, d1, d2, d3, d4, d5, d6, d7, r0, r1, hs⟩).mono ?_
            rintro ee w' ⟨rfl, k1⟩
            clear a0 a1 a2 a3 a4 a5 a6 a7 c0 c1 c2 c3 c4 c5 c6 c7 d0 d1 d2 d3 d4 d5 d6 d7 r0 r1 hs
            obtain ⟨a0, a1, a2, a3, a4, a5, a6, a7, c0, c1, c2, c3, c4, c5, c6, c7, d0, d1, d2, d3, d4, d5, d6, d7, r0, r1, hs⟩ := k1
            go_wp2_with fail
            refine (kab.out _ ⟨a0, a1, a2, a3, a4, a5, a6, a7, c0, c1, c2, c3, c4, c5, c6, c7, d0, d1, d2, d3, d4, d5, d6, d7, r0, r1, hs⟩).mono ?_
            rintro ee w' ⟨rfl, k1⟩
            clear a0 a1 a2 a3 a4 a5 a6 a7 c0 c1 c2 c3 c4 c5 c6 c7 d0 d1 d2 d3 d4 d5 d6 d7 r0 r1 hs
            obtain ⟨a0, a1, a2, a3, a4, a5, a6, a7, c0, c1, c2, c3, c4, c5, c6, c7, d0, d1, d2, d3, d4, d5, d6, d7, r0, r1, hs⟩ := k1
            go_wp2_with fail
            refine (kbc.out _ ⟨a0, a1, a2, a3, a4, a5, a6, a7, c0, c1, c2, c3, c4, c5, c6, c7, d0, d1, d2, d3, d4, d5, d6, d7, r0, r1, hs⟩).mono ?_
            rintro ee w' ⟨rfl, k1⟩
            clear a0 a1 a2 a3 a4 a5 a6 a7 c0 c1 c2 c3 c4 c5 c6 c7 d0 d1 d2 d3 d4 d5 d6 d7 r0 r1 hs
            obtain ⟨a0, a1, a2, a3, a4, a5, a6, a7, c0, c1, c2, c3, c4, c5, c6, c7, d0, d1, d2, d3, d4, d5, d6, d7, r0, r1, hs⟩ := k1
            go_wp2_with fail
            refine (kac.out _ ⟨a0, a1, a2, a3, a4, a5, a6, a7, c0, c1, c2, c3, c4, c5, c6, c7, d0, d1, d2, d3, d4, d5, d6, d7, r0, r1, hs⟩).mono ?_
            rintro ee w' ⟨rfl, k1⟩
            clear a0 a1 a2 a3 a4 a5 a6 a7 c0 c1 c2 c3 c4 c5 c6 c7 d0 d1 d2 d3 d4 d5 d6 d7 r0 r1 hs
            obtain ⟨a0, a1, a2, a3, a4, a5, a6, a7, c0, c1, c2, c3, c4, c5, c6, c7, d0, d1, d2, d3, d4, d5, d6, d7, r0, r1, hs⟩ := k1
            go_wp2
            go_ret
            exact ⟨rfl, hs.1⟩
      · refine (kab.out _ ⟨a0, a1, a2, a3, a4, a5, a6, a7, c0, c1, c2, c3, c4, c5, c6, c7, d0, d1, d2, d3, d4, d5, d6, d7, r0, r1, hs⟩).mono ?_
        rintro ee w' ⟨rfl, k1⟩
        clear a0 a1 a2 a3 a4 a5 a6 a7 c0 c1 c2 c3 c4 c5 c6 c7 d0 d1 d2 d3 d4 d5 d6 d7 r0 r1 hs
        obtain ⟨a0, a1, a2, a3, a4, a5, a6, a7, c0, c1, c2, c3, c4, c5, c6, c7, d0, d1, d2, d3, d4, d5, d6, d7, r0, r1, hs⟩ := k1
        go_wp2_with fail
        refine (ma.out _ ⟨a0, a1, a2, a3, a4, a5, a6, a7, c0, c1, c2, c3, c4, c5, c6, c7, d0, d1, d2, d3, d4, d5, d6, d7, r0, r1, hs⟩).mono ?_
        rintro ee w' ⟨rfl, k1⟩
        clear a0 a1 a2 a3 a4 a5 a6 a7 c0 c1 c2 c3 c4 c5 c6 c7 d0 d1 d2 d3 d4 d5 d6 d7 r0 r1 hs
        obtain ⟨a0, a1, a2, a3, a4, a5, a6, a7, c0, c1, c2, c3, c4, c5, c6, c7, d0, d1, d2, d3, d4, d5, d6, d7, r0, r1, hs⟩ := k1
        go_wp2_with fail
        refine (mb.out _ ⟨a0, a1, a2, a3, a4, a5, a6, a7, c0, c1, c2, c3, c4, c5, c6, c7, d0, d1, d2, d3, d4, d5, d6, d7, r0, r1, hs⟩).mono ?_
        rintro ee w' ⟨rfl, k1⟩
        clear a0 a1 a2 a3 a4 a5 a6 a7 c0 c1 c2 c3 c4 c5 c6 c7 d0 d1 d2 d3 d4 d5 d6 d7 r0 r1 hs
        obtain ⟨a0, a1, a2, a3, a4, a5, a6, a7, c0, c1, c2, c3, c4, c5, c6, c7, d0, d1, d2, d3, d4, d5, d6, d7, r0, r1, hs⟩ := k1
        go_wp2_with fail
        cases z23 with
        | false =>
          refine (gb.out _ ⟨a0, a1, a2, a3, a4, a5, a6, a7, c0, c1, c2, c3, c4, c5, c6, c7, d0, d1, d2, d3, d4, d5, d6, d7, r0, r1, hs⟩).mono ?_
          rintro ee w' ⟨rfl, k1⟩
          clear a0 a1 a2 a3 a4 a5 a6 a7 c0 c1 c2 c3 c4 c5 c6 c7 d0 d1 d2 d3 d4 d5 d6 d7 r0 r1 hs
          obtain ⟨a0, a1, a2, a3, a4, a5, a6, a7, c0, c1, c2, c3, c4, c5, c6, c7, d0, d1, d2, d3, d4, d5, d6, d7, r0, r1, hs⟩ := k1
          go_wp2_with fail
          refine (kab.out _ ⟨a0, a1, a2, a3, a4, a5, a6, a7, c0, c1, c2, c3, c4, c5, c6, c7, d0, d1, d2, d3, d4, d5, d6, d7, r0, r1, hs⟩).mono ?_
          rintro ee w' ⟨rfl, k1⟩
          clear a0 a1 a2 a3 a4 a5 a6 a7 c0 c1 c2 c3 c4 c5 c6 c7 d0 d1 d2 d3 d4 d5 d6 d7 r0 r1 hs
          obtain ⟨a0, a1, a2, a3, a4, a5, a6, a7, c0, c1, c2, c3, c4, c5, c6, c7, d0, d1, d2, d3, d4, d5, d6, d7, r0, r1, hs⟩ := k1
          go_wp2_with fail
          refine (kbc.out _ ⟨a0, a1, a2, a3, a4, a5, a6, a7, c0, c1, c2, c3, c4, c5, c6, c7, d0, d1, d2, d3, d4, d5, d6, d7, r0, r1, hs⟩).mono ?_
          rintro ee w' ⟨rfl, k1⟩
          clear a0 a1 a2 a3 a4 a5 a6 a7 c0 c1 c2 c3 c4 c5 c6 c7 d0 d1 d2 d3 d4 d5 d6 d7 r0 r1 hs
          obtain ⟨a0, a1, a2, a3, a4, a5, a6, a7, c0, c1, c2, c3, c4, c5, c6, c7, d0, d1, d2, d3, d4, d5, d6, d7, r0, r1, hs⟩ := k1
          go_wp2
          go_ret
          exact ⟨rfl, hs.1⟩
        | true =>
          obtain rfl : z13 = true := by simpa using t13
          refine (gb.out _ ⟨a0, a1, a2, a3, a4, a5, a6, a7, c0, c1, c2, c3, c4, c5, c6, c7, d0, d1, d2, d3, d4, d5, d6, d7, r0, r1, hs⟩).mono ?_
          rintro ee w' ⟨rfl, k1⟩
          clear a0 a1 a2 a3 a4 a5 a6 a7 c0 c1 c2 c3 c4 c5 c6 c7 d0 d1 d2 d3 d4 d5 d6 d7 r0 r1 hs
          obtain ⟨a0, a1, a2, a3, a4, a5, a6, a7, c0, c1, c2, c3, c4, c5, c6, c7, d0, d1, d2, d3, d4, d5, d6, d7, r0, r1, hs⟩ := k1
          go_wp2_with fail
          refine (kab.out _ ⟨a0, a1, a2, a3, a4, a5, a6, a7, c0, c1, c2, c3, c4, c5, c6, c7, d0, d1, d2, d3, d4, d5, d6, d7, r0, r1, hs⟩).mono ?_
          rintro ee w' ⟨rfl, k1⟩
          clear a0 a1 a2 a3 a4 a5 a6 a7 c0 c1 c2 c3 c4 c5 c6 c7 d0 d1 d2 d3 d4 d5 d6 d7 r0 r1 hs
          obtain ⟨a0, a1, a2, a3, a4, a5, a6, a7, c0, c1, c2, c3, c4, c5, c6, c7, d0, d1, d2, d3, d4, d5, d6, d7, r0, r1, hs⟩ := k1
          go_wp2_with fail
          refine (kbc.out _ ⟨a0, a1, a2, a3, a4, a5, a6, a7, c0, c1, c2, c3, c4, c5, c6, c7, d0, d1, d2, d3, d4, d5, d6, d7, r0, r1, hs⟩).mono ?_
          rintro ee w' ⟨rfl, k1⟩
          clear a0 a1 a2 a3 a4 a5 a6 a7 c0 c1 c2 c3 c4 c5 c6 c7 d0 d1 d2 d3 d4 d5 d6 d7 r0 r1 hs
          obtain ⟨a0, a1, a2, a3, a4, a5, a6, a7, c0, c1, c2, c3, c4, c5, c6, c7, d0, d1, d2, d3, d4, d5, d6, d7, r0, r1, hs⟩ := k1
          go_wp2_with fail
          refine (kac.out _ ⟨a0, a1, a2, a3, a4, a5, a6, a7, c0, c1, c2, c3, c4, c5, c6, c7, d0, d1, d2, d3, d4, d5, d6, d7, r0, r1, hs⟩).mono ?_
          rintro ee w' ⟨rfl, k1⟩
          clear a0 a1 a2 a3 a4 a5 a6 a7 c0 c1 c2 c3 c4 c5 c6 c7 d0 d1 d2 d3 d4 d5 d6 d7 r0 r1 hs
          obtain ⟨a0, a1, a2, a3, a4, a5, a6, a7, c0, c1, c2, c3, c4, c5, c6, c7, d0, d1, d2, d3, d4, d5, d6, d7, r0, r1, hs⟩ := k1
          go_wp2
          go_ret
          exact ⟨rfl, hs.1⟩
    · by_cases hlt : x1 < y1
      · rcases (show (o1 = true ∧ o2 = true) ∨ o1 = false from by cases o1 with | false => exact .inr rfl | true => exact .inl ⟨rfl, to_ rfl hlt rfl⟩) with ⟨rfl, rfl⟩ | rfl
        · refine (kab.out _ ⟨a0, a1, a2, a3, a4, a5, a6, a7, c0, c1, c2, c3, c4, c5, c6, c7, d0, d1, d2, d3, d4, d5, d6, d7, r0, r1, hs⟩).mono ?_
          rintro ee w' ⟨rfl, k1⟩
          clear a0 a1 a2 a3 a4 a5 a6 a7 c0 c1 c2 c3 c4 c5 c6 c7 d0 d1 d2 d3 d4 d5 d6 d7 r0 r1 hs
          obtain ⟨a0, a1, a2, a3, a4, a5, a6, a7, c0, c1, c2, c3, c4, c5, c6, c7, d0, d1, d2, d3, d4, d5, d6, d7, r0, r1, hs⟩ := k1
          go_wp2_with fail
          refine (ma.out _ ⟨a0, a1, a2, a3, a4, a5, a6, a7, c0, c1, c2, c3, c4, c5, c6, c7, d0, d1, d2, d3, d4, d5, d6, d7, r0, r1, hs⟩).mono ?_
          rintro ee w' ⟨rfl, k1⟩
          clear a0 a1 a2 a3 a4 a5 a6 a7 c0 c1 c2 c3 c4 c5 c6 c7 d0 d1 d2 d3 d4 d5 d6 d7 r0 r1 hs
          obtain ⟨a0, a1, a2, a3, a4, a5, a6, a7, c0, c1, c2, c3, c4, c5, c6, c7, d0, d1, d2, d3, d4, d5, d6, d7, r0, r1, hs⟩ := k1
          go_wp2_with fail
          refine (ha.out _ ⟨a0, a1, a2, a3, a4, a5, a6, a7, c0, c1, c2, c3, c4, c5, c6, c7, d0, d1, d2, d3, d4, d5, d6, d7, r0, r1, hs⟩).mono ?_
          rintro ee w' ⟨rfl, k1⟩
          clear a0 a1 a2 a3 a4 a5 a6 a7 c0 c1 c2 c3 c4 c5 c6 c7 d0 d1 d2 d3 d4 d5 d6 d7 r0 r1 hs
          obtain ⟨a0, a1, a2, a3, a4, a5, a6, a7, c0, c1, c2, c3, c4, c5, c6, c7, d0, d1, d2, d3, d4, d5, d6, d7, r0, r1, hs⟩ := k1
          go_wp2_with fail
          refine (hb_.out _ ⟨a0, a1, a2, a3, a4, a5, a6, a7, c0, c1, c2, c3, c4, c5, c6, c7, d0, d1, d2, d3, d4, d5, d6, d7, r0, r1, hs⟩).mono ?_
          rintro ee w' ⟨rfl, k1⟩
          clear a0 a1 a2 a3 a4 a5 a6 a7 c0 c1 c2 c3 c4 c5 c6 c7 d0 d1 d2 d3 d4 d5 d6 d7 r0 r1 hs
          obtain ⟨a0, a1, a2, a3, a4, a5, a6, a7, c0, c1, c2, c3, c4, c5, c6, c7, d0, d1, d2, d3, d4, d5, d6, d7, r0, r1, hs⟩ := k1
          go_wp2_with fail
          cases z23 with
          | false =>
            refine (gb.out _ ⟨a0, a1, a2, a3, a4, a5, a6, a7, c0, c1, c2, c3, c4, c5, c6, c7, d0, d1, d2, d3, d4, d5, d6, d7, r0, r1, hs⟩).mono ?_
            rintro ee w' ⟨rfl, k1⟩
            clear a0 a1 a2 a3 a4 a5 a6 a7 c0 c1 c2 c3 c4 c5 c6 c7 d0 d1 d2 d3 d4 d5 d6 d7 r0 r1 hs
            obtain ⟨a0, a1, a2, a3, a4, a5, a6, a7, c0, c1, c2, c3, c4, c5, c6, c7, d0, d1, d2, d3, d4, d5, d6, d7, r0, r1, hs⟩ := k1
            go_wp2_with fail
            refine (kab.out _ ⟨a0, a1, a2, a3, a4, a5, a6, a7, c0, c1, c2, c3, c4, c5, c6, c7, d0, d1, d2, d3, d4, d5, d6, d7, r0, r1, hs⟩).mono ?_
            rintro ee w' ⟨rfl, k1⟩
            clear a0 a1 a2 a3 a4 a5 a6 a7 c0 c1 c2 c3 c4 c5 c6 c7 d0 d1 d2 d3 d4 d5 d6 d7 r0 r1 hs
            obtain ⟨a0, a1, a2, a3, a4, a5, a6, a7, c0, c1, c2, c3, c4, c5, c6, c7, d0, d1, d2, d3, d4, d5, d6, d7, r0, r1, hs⟩ := k1
            go_wp2_with fail
            refine (kbc.out _ ⟨a0, a1, a2, a3, a4, a5, a6, a7, c0, c1, c2, c3, c4, c5, c6, c7, d0, d1, d2, d3, d4, d5, d6, d7, r0, r1, hs⟩).mono ?_
            rintro ee w' ⟨rfl, k1⟩
            clear a0 a1 a2 a3 a4 a5 a6 a7 c0 c1 c2 c3 c4 c5 c6 c7 d0 d1 d2 d3 d4 d5 d6 d7 r0 r1 hs
            obtain ⟨a0, a1, a2, a3, a4, a5, a6, a7, c0, c1, c2, c3, c4, c5, c6, c7, d0, d1, d2, d3, d4, d5, d6, d7, r0, r1, hs⟩ := k1
            go_wp2
            go_ret
            exact ⟨rfl, hs.1⟩
          | true =>
            obtain rfl : z13 = true := by simpa using t13
            refine (gb.out _ ⟨a0, a1, a2, a3, a4, a5, a6, a7, c0, c1, c2, c3, c4, c5, c6, c7, d0, d1, d2, d3, d4, d5, d6, d7, r0, r1, hs⟩).mono ?_
            rintro ee w' ⟨rfl, k1⟩
            clear a0 a1 a2 a3 a4 a5 a6 a7 c0 c1 c2 c3 c4 c5 c6 c7 d0 d1 d2 d3 d4 d5 d6 d7 r0 r1 hs
            obtain ⟨a0, a1, a2, a3, a4, a5, a6, a7, c0, c1, c2, c3, c4, c5, c6, c7, d0, d1, d2, d3, d4, d5, d6, d7, r0, r1, hs⟩ := k1
            go_wp2_with fail
            refine (kab.out _ ⟨a0, a1, a2, a3, a4, a5, a6, a7, c0, c1, c2, c3, c4, c5, c6, c7, d0, d1, d2, d3, d4, d5, d6, d7, r0, r1, hs⟩).mono ?_
            rintro ee w' ⟨rfl, k1⟩
            clear a0 a1 a2 a3 a4 a5 a6 a7 c0 c1 c2 c3 c4 c5 c6 c7 d0 d1 d2 d3 d4 d5 d6 d7 r0 r1 hs
            obtain ⟨a0, a1, a2, a3, a4, a5, a6, a7, c0, c1, c2, c3, c4, c5, c6, c7, d0, d1, d2, d3, d4, d5, d6, d7, r0, r1, hs⟩ := k1
            go_wp2_with fail
            refine (kbc.out _ ⟨a0, a1, a2, a3, a4, a5, a6, a7, c0, c1, c2, c3, c4, c5, c6, c7, d0, d1, d2, d3, d4, d5, d6, d7, r0, r1, hs⟩).mono ?_
            rintro ee w' ⟨rfl, k1⟩
            clear a0 a1 a2 a3 a4 a5 a6 a7 c0 c1 c2 c3 c4 c5 c6 c7 d0 d1 d2 d3 d4 d5 d6 d7 r0 r1 hs
            obtain ⟨a0, a1, a2, a3, a4, a5, a6, a7, c0, c1, c2, c3, c4, c5, c6, c7, d0, d1, d2, d3, d4, d5, d6, d7, r0, r1, hs⟩ := k1
            go_wp2_with fail
            refine (kac.out _ ⟨a0, a1, a2, a3, a4, a5, a6, a7, c0, c1, c2, c3, c4, c5, c6, c7, d0, d1, d2, d3, d4, d5, d6, d7, r0, r1, hs⟩).mono ?_
            rintro ee w' ⟨rfl, k1⟩
            clear a0 a1 a2 a3 a4 a5 a6 a7 c0 c1 c2 c3 c4 c5 c6 c7 d0 d1 d2 d3 d4 d5 d6 d7 r0 r1 hs
            obtain ⟨a0, a1, a2, a3, a4, a5, a6, a7, c0, c1, c2, c3, c4, c5, c6, c7, d0, d1, d2, d3, d4, d5, d6, d7, r0, r1, hs⟩ := k1
            go_wp2
            go_ret
            exact ⟨rfl, hs.1⟩
        · refine (kab.out _ ⟨a0, a1, a2, a3, a4, a5, a6, a7, c0, c1, c2, c3, c4, c5, c6, c7, d0, d1, d2, d3, d4, d5, d6, d7, r0, r1, hs⟩).mono ?_
          rintro ee w' ⟨rfl, k1⟩
          clear a0 a1 a2 a3 a4 a5 a6 a7 c0 c1 c2 c3 c4 c5 c6 c7 d0 d1 d2 d3 d4 d5 d6 d7 r0 r1 hs
          obtain ⟨a0, a1, a2, a3, a4, a5, a6, a7, c0, c1, c2, c3, c4, c5, c6, c7, d0, d1, d2, d3, d4, d5, d6, d7, r0, r1, hs⟩ := k1
          go_wp2_with fail
          refine (ma.out _ ⟨a0, a1, a2, a3, a4, a5, a6, a7, c0, c1, c2, c3, c4, c5, c6, c7, d0, d1, d2, d3, d4, d5, d6, d7, r0, r1, hs⟩).mono ?_
          rintro ee w' ⟨rfl, k1⟩
          clear a0 a1 a2 a3 a4 a5 a6 a7 c0 c1 c2 c3 c4 c5 c6 c7 d0 d1 d2 d3 d4 d5 d6 d7 r0 r1 hs
          obtain ⟨a0, a1, a2, a3, a4, a5, a6, a7, c0, c1, c2, c3, c4, c5, c6, c7, d0, d1, d2, d3, d4, d5, d6, d7, r0, r1, hs⟩ := k1
          go_wp2_with fail
          refine (ha.out _ ⟨a0, a1, a2, a3, a4, a5, a6, a7, c0, c1, c2, c3, c4, c5, c6, c7, d0, d1, d2, d3, d4, d5, d6, d7, r0, r1, hs⟩).mono ?_
          rintro ee w' ⟨rfl, k1⟩
          clear a0 a1 a2 a3 a4 a5 a6 a7 c0 c1 c2 c3 c4 c5 c6 c7 d0 d1 d2 d3 d4 d5 d6 d7 r0 r1 hs
          obtain ⟨a0, a1, a2, a3, a4, a5, a6, a7, c0, c1, c2, c3, c4, c5, c6, c7, d0, d1, d2, d3, d4, d5, d6, d7, r0, r1, hs⟩ := k1
          go_wp2_with fail
          cases z23 with
          | false =>
            refine (gb.out _ ⟨a0, a1, a2, a3, a4, a5, a6, a7, c0, c1, c2, c3, c4, c5, c6, c7, d0, d1, d2, d3, d4, d5, d6, d7, r0, r1, hs⟩).mono ?_
            rintro ee w' ⟨rfl, k1⟩
            clear a0 a1 a2 a3 a4 a5 a6 a7 c0 c1 c2 c3 c4 c5 c6 c7 d0 d1 d2 d3 d4 d5 d6 d7 r0 r1 hs
            obtain ⟨a0, a1, a2, a3, a4, a5, a6, a7, c0, c1, c2, c3, c4, c5, c6, c7, d0, d1, d2, d3, d4, d5, d6, d7, r0, r1, hs⟩ := k1
            go_wp2_with fail
            refine (kab.out _ ⟨a0, a1, a2, a3, a4, a5, a6, a7, c0, c1, c2, c3, c4, c5, c6, c7, d0, d1, d2, d3, d4, d5, d6, d7, r0, r1, hs⟩).mono ?_
            rintro ee w' ⟨rfl, k1⟩
            clear a0 a1 a2 a3 a4 a5 a6 a7 c0 c1 c2 c3 c4 c5 c6 c7 d0 d1 d2 d3 d4 d5 d6 d7 r0 r1 hs
            obtain ⟨a0, a1, a2, a3, a4, a5, a6, a7, c0, c1, c2, c3, c4, c5, c6, c7, d0, d1, d2, d3, d4, d5, d6, d7, r0, r1, hs⟩ := k1
            go_wp2_with fail
            refine (kbc.out _ ⟨a0, a1, a2, a3, a4, a5, a6, a7, c0, c1, c2, c3, c4, c5, c6, c7, d0, d1, d2, d3, d4, d5, d6, d7, r0, r1, hs⟩).mono ?_
            rintro ee w' ⟨rfl, k1⟩
            clear a0 a1 a2 a3 a4 a5 a6 a7 c0 c1 c2 c3 c4 c5 c6 c7 d0 d1 d2 d3 d4 d5 d6 d7 r0 r1 hs
            obtain ⟨a0, a1, a2, a3, a4, a5, a6, a7, c0, c1, c2, c3, c4, c5, c6, c7, d0, d1, d2, d3, d4, d5, d6, d7, r0, r1, hs⟩ := k1
            go_wp2
            go_ret
            exact ⟨rfl, hs.1⟩
          | true =>
            obtain rfl : z13 = true := by simpa using t13
            refine (gb.out _ ⟨a0, a1, a2, a3, a4, a5, a6, a7, c0, c1, c2, c3, c4, c5, c6, c7, d0, d1, d2, d3, d4, d5, d6, d7, r0, r1, hs⟩).mono ?_
            rintro ee w' ⟨rfl, k1⟩
            clear a0 a1 a2 a3 a4 a5 a6 a7 c0 c1 c2 c3 c4 c5 c6 c7 d0 d1 d2 d3 d4 d5 d6 d7 r0 r1 hs
            obtain ⟨a0, a1, a2, a3, a4, a5, a6, a7, c0, c1, c2, c3, c4, c5, c6, c7, d0, d1, d2, d3, d4, d5, d6, d7, r0, r1, hs⟩ := k1
            go_wp2_with fail
            refine (kab.out _ ⟨a0, a1, a2, a3, a4, a5, a6, a7, c0, c1, c2, c3, c4, c5, c6, c7, d0, d1, d2, d3, d4, d5, d6, d7, r0, r1, hs⟩).mono ?_
            rintro ee w' ⟨rfl, k1⟩
            clear a0 a1 a2 a3 a4 a5 a6 a7 c0 c1 c2 c3 c4 c5 c6 c7 d0 d1 d2 d3 d4 d5 d6 d7 r0 r1 hs
            obtain ⟨a0, a1, a2, a3, a4, a5, a6, a7, c0, c1, c2, c3, c4, c5, c6, c7, d0, d1, d2, d3, d4, d5, d6, d7, r0, r1, hs⟩ := k1
            go_wp2_with fail
            refine (kbc.out _ ⟨a0, a1, a2, a3, a4, a5, a6, a7, c0, c1, c2, c3, c4, c5, c6, c7, d0, d1, d2, d3, d4, d5, d6, d7, r0, r1, hs⟩).mono ?_
            rintro ee w' ⟨rfl, k1⟩
            clear a0 a1 a2 a3 a4 a5 a6 a7 c0 c1 c2 c3 c4 c5 c6 c7 d0 d1 d2 d3 d4 d5 d6 d7 r0 r1 hs
            obtain ⟨a0, a1, a2, a3, a4, a5, a6, a7, c0, c1, c2, c3, c4, c5, c6, c7, d0, d1, d2, d3, d4, d5, d6, d7, r0, r1, hs⟩ := k1
            go_wp2_with fail
            refine (kac.out _ ⟨a0, a1, a2, a3, a4, a5, a6, a7, c0, c1, c2, c3, c4, c5, c6, c7, d0, d1, d2, d3, d4, d5, d6, d7, r0, r1, hs⟩).mono ?_
            rintro ee w' ⟨rfl, k1⟩
            clear a0 a1 a2 a3 a4 a5 a6 a7 c0 c1 c2 c3 c4 c5 c6 c7 d0 d1 d2 d3 d4 d5 d6 d7 r0 r1 hs
            obtain ⟨a0, a1, a2, a3, a4, a5, a6, a7, c0, c1, c2, c3, c4, c5, c6, c7, d0, d1, d2, d3, d4, d5, d6, d7, r0, r1, hs⟩ := k1
            go_wp2
            go_ret
            exact ⟨rfl, hs.1⟩
      · refine (kab.out _ ⟨a0, a1, a2, a3, a4, a5, a6, a7, c0, c1, c2, c3, c4, c5, c6, c7, d0, d1, d2, d3, d4, d5, d6, d7, r0, r1, hs⟩).mono ?_
        rintro ee w' ⟨rfl, k1⟩
        clear a0 a1 a2 a3 a4 a5 a6 a7 c0 c1 c2 c3 c4 c5 c6 c7 d0 d1 d2 d3 d4 d5 d6 d7 r0 r1 hs
        obtain ⟨a0, a1, a2, a3, a4, a5, a6, a7, c0, c1, c2, c3, c4, c5, c6, c7, d0, d1, d2, d3, d4, d5, d6, d7, r0, r1, hs⟩ := k1
        go_wp2_with fail
        refine (ma.out _ ⟨a0, a1, a2, a3, a4, a5, a6, a7, c0, c1, c2, c3, c4, c5, c6, c7, d0, d1, d2, d3, d4, d5, d6, d7, r0, r1, hs⟩).mono ?_
        rintro ee w' ⟨rfl, k1⟩
        clear a0 a1 a2 a3 a4 a5 a6 a7 c0 c1 c2 c3 c4 c5 c6 c7 d0 d1 d2 d3 d4 d5 d6 d7 r0 r1 hs
        obtain ⟨a0, a1, a2, a3, a4, a5, a6, a7, c0, c1, c2, c3, c4, c5, c6, c7, d0, d1, d2, d3, d4, d5, d6, d7, r0, r1, hs⟩ := k1
        go_wp2_with fail
        cases z23 with
        | false =>
          refine (gb.out _ ⟨a0, a1, a2, a3, a4, a5, a6, a7, c0, c1, c2, c3, c4, c5, c6, c7, d0, d1, d2, d3, d4, d5, d6, d7, r0, r1, hs⟩).mono ?_
          rintro ee w' ⟨rfl, k1⟩
          clear a0 a1 a2 a3 a4 a5 a6 a7 c0 c1 c2 c3 c4 c5 c6 c7 d0 d1 d2 d3 d4 d5 d6 d7 r0 r1 hs
          obtain ⟨a0, a1, a2, a3, a4, a5, a6, a7, c0, c1, c2, c3, c4, c5, c6, c7, d0, d1, d2, d3, d4, d5, d6, d7, r0, r1, hs⟩ := k1
          go_wp2_with fail
          refine (kab.out _ ⟨a0, a1, a2, a3, a4, a5, a6, a7, c0, c1, c2, c3, c4, c5, c6, c7, d0, d1, d2, d3, d4, d5, d6, d7, r0, r1, hs⟩).mono ?_
          rintro ee w' ⟨rfl, k1⟩
          clear a0 a1 a2 a3 a4 a5 a6 a7 c0 c1 c2 c3 c4 c5 c6 c7 d0 d1 d2 d3 d4 d5 d6 d7 r0 r1 hs
          obtain ⟨a0, a1, a2, a3, a4, a5, a6, a7, c0, c1, c2, c3, c4, c5, c6, c7, d0, d1, d2, d3, d4, d5, d6, d7, r0, r1, hs⟩ := k1
          go_wp2_with fail
          refine (kbc.out _ ⟨a0, a1, a2, a3, a4, a5, a6, a7, c0, c1, c2, c3, c4, c5, c6, c7, d0, d1, d2, d3, d4, d5, d6, d7, r0, r1, hs⟩).mono ?_
          rintro ee w' ⟨rfl, k1⟩
          clear a0 a1 a2 a3 a4 a5 a6 a7 c0 c1 c2 c3 c4 c5 c6 c7 d0 d1 d2 d3 d4 d5 d6 d7 r0 r1 hs
          obtain ⟨a0, a1, a2, a3, a4, a5, a6, a7, c0, c1, c2, c3, c4, c5, c6, c7, d0, d1, d2, d3, d4, d5, d6, d7, r0, r1, hs⟩ := k1
          go_wp2
          go_ret
          exact ⟨rfl, hs.1⟩
        | true =>
          obtain rfl : z13 = true := by simpa using t13
          refine (gb.out _ ⟨a0, a1, a2, a3, a4, a5, a6, a7, c0, c1, c2, c3, c4, c5, c6, c7, d0, d1, d2, d3, d4, d5, d6, d7, r0, r1, hs⟩).mono ?_
          rintro ee w' ⟨rfl, k1⟩
          clear a0 a1 a2 a3 a4 a5 a6 a7 c0 c1 c2 c3 c4 c5 c6 c7 d0 d1 d2 d3 d4 d5 d6 d7 r0 r1 hs
          obtain ⟨a0, a1, a2, a3, a4, a5, a6, a7, c0, c1, c2, c3, c4, c5, c6, c7, d0, d1, d2, d3, d4, d5, d6, d7, r0, r1, hs⟩ := k1
          go_wp2_with fail
          refine (kab.out _ ⟨a0, a1, a2, a3, a4, a5, a6, a7, c0, c1, c2, c3, c4, c5, c6, c7, d0, d1, d2, d3, d4, d5, d6, d7, r0, r1, hs⟩).mono ?_
          rintro ee w' ⟨rfl, k1⟩
          clear a0 a1 a2 a3 a4 a5 a6 a7 c0 c1 c2 c3 c4 c5 c6 c7 d0 d1 d2 d3 d4 d5 d6 d7 r0 r1 hs
          obtain ⟨a0, a1, a2, a3, a4, a5, a6, a7, c0, c1, c2, c3, c4, c5, c6, c7, d0, d1, d2, d3, d4, d5, d6, d7, r0, r1, hs⟩ := k1
          go_wp2_with fail
          refine (kbc.out _ ⟨a0, a1, a2, a3, a4, a5, a6, a7, c0, c1, c2, c3, c4, c5, c6, c7, d0, d1, d2, d3, d4, d5, d6, d7, r0, r1, hs⟩).mono ?_
          rintro ee w' ⟨rfl, k1⟩
          clear a0 a1 a2 a3 a4 a5 a6 a7 c0 c1 c2 c3 c4 c5 c6 c7 d0 d1 d2 d3 d4 d5 d6 d7 r0 r1 hs
          obtain ⟨a0, a1, a2, a3, a4, a5, a6, a7, c0, c1, c2, c3, c4, c5, c6, c7, d0, d1, d2, d3, d4, d5, d6, d7, r0, r1, hs⟩ := k1
          go_wp2_with fail
          refine (kac.out _ ⟨a0, a1, a2, a3, a4, a5, a6, a7, c0, c1, c2, c3, c4, c5, c6, c7, d0, d1, d2, d3, d4, d5, d6, d7, r0, r1, hs⟩).mono ?_
          rintro ee w' ⟨rfl, k1⟩
          clear a0 a1 a2 a3 a4 a5 a6 a7 c0 c1 c2 c3 c4 c5 c6 c7 d0 d1 d2 d3 d4 d5 d6 d7 r0 r1 hs
          obtain ⟨a0, a1, a2, a3, a4, a5, a6, a7, c0, c1, c2, c3, c4, c5, c6, c7, d0, d1, d2, d3, d4, d5, d6, d7, r0, r1, hs⟩ := k1
          go_wp2
          go_ret
          exact ⟨rfl, hs.1⟩
end Go.Proofs.Ytikgeombccoahaa.cchain
