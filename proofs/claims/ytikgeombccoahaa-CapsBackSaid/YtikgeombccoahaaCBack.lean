/- Proved: a capability that is sound comes back from its bytes, and bytes that are taken are laid again (CapsBack). For every input; no condition. -/
import Derived.Test.YtikgeombccoahaaRows
import Derived.Test.YtikgeombccoahaaCapW
import Derived.Test.YtikgeombccoahaaCapN
import Derived.Test.YtikgeombccoahaaCapK
import Derived.Test.YtikgeombccoahaaCls
import Derived.Test.YtikgeombccoahaaFlat
import Derived.Deep.RegionHeld3
import Derived.ProofKit
import Derived.OpenShut
import Derived.ShutString
import Derived.ChangeOld
namespace Go.Proofs.Ytikgeombccoahaa.cback
open Go.ChangeShapes Go.WideShapes Go.ChangeAt Go.RowKit
open Go.ChangeMaps (open_string shut_string)
set_option linter.unusedVariables false

theorem byte_of {x : Int} (h : (Lit.int .u8 x).wf = true) : ∃ u : UInt8, x = (u.toNat : Int) := by
  have := bounds_u8 h
  refine ⟨UInt8.ofNat x.toNat, ?_⟩
  rw [UInt8.toNat_ofNat']
  omega

/-- The two boxes, and what is kept. -/
structure BK (W : World) (cu e b t pm ty rs : Nat) (va : Bool) (l : List UInt8) (w : World) : Prop where
  c : CapAt w W.heap.size cu e b t pm ty rs va
  f : ∀ k, w.frozen? ⟨W.heap.size, k, none⟩ = false
  x : RB w (W.heap.size + 2) (some ⟨W.heap.size + 1, 0, none⟩) l
  bl : Below W.heap.size W w
  n : W.heap.size + 1 < w.heap.size
theorem BK.below {W : World} {cu e b t pm ty rs : Nat} {va : Bool} {l : List UInt8} {w w' : World} (h : BK W cu e b t pm ty rs va l w) (k : Below w.heap.size w w') : BK W cu e b t pm ty rs va l w' :=
  ⟨h.c.below k (by have := h.n; omega), fun j => (k.frozen (p := ⟨W.heap.size, j, none⟩) (by show W.heap.size < _; have := h.n; omega)).trans (h.f j), h.x.keep (fun q hq => k.cell (by have := h.n; omega)), h.bl.trans (k.mono (by have := h.n; omega)), Nat.lt_of_lt_of_le h.n k.size⟩
theorem BK.drew {W : World} {cu e b t pm ty rs : Nat} {va : Bool} {l : List UInt8} {w : World} (h : BK W cu e b t pm ty rs va l w) : BK W cu e b t pm ty rs va l w.drew :=
  ⟨⟨h.c.q0, h.c.q1, h.c.q2, h.c.q3, h.c.q4, h.c.q5, h.c.q6, h.c.q7⟩, h.f, h.x.drew, h.bl.drew, h.n⟩

theorem BK.first (W : World) (cu e b t pm ty rs : Nat) (va : Bool) (u0 u1 u2 u3 u4 u5 u6 u7 u8 u9 u10 u11 u12 u13 u14 u15 : UInt8) : BK W cu e b t pm ty rs va [u0, u1, u2, u3, u4, u5, u6, u7, u8, u9, u10, u11, u12, u13, u14, u15] ((W.alloc (.cells #[.int .u32 cu, .int .u8 e, .int .u16 b, .int .u16 t, .int .u16 pm, .int .u16 ty, .int .u32 rs, .bool va] 25)).alloc (.cells #[.int .u8 (u0.toNat : Int), .int .u8 (u1.toNat : Int), .int .u8 (u2.toNat : Int), .int .u8 (u3.toNat : Int), .int .u8 (u4.toNat : Int), .int .u8 (u5.toNat : Int), .int .u8 (u6.toNat : Int), .int .u8 (u7.toNat : Int), .int .u8 (u8.toNat : Int), .int .u8 (u9.toNat : Int), .int .u8 (u10.toNat : Int), .int .u8 (u11.toNat : Int), .int .u8 (u12.toNat : Int), .int .u8 (u13.toNat : Int), .int .u8 (u14.toNat : Int), .int .u8 (u15.toNat : Int)] 41)) := by
  have k : CapAt (W.alloc (.cells #[.int .u32 cu, .int .u8 e, .int .u16 b, .int .u16 t, .int .u16 pm, .int .u16 ty, .int .u32 rs, .bool va] 25)) W.heap.size cu e b t pm ty rs va := ⟨by simp [go_sem], by simp [go_sem], by simp [go_sem], by simp [go_sem], by simp [go_sem], by simp [go_sem], by simp [go_sem], by simp [go_sem]⟩
  have b2 : Below (W.heap.size + 1) (W.alloc (.cells #[.int .u32 cu, .int .u8 e, .int .u16 b, .int .u16 t, .int .u16 pm, .int .u16 ty, .int .u32 rs, .bool va] 25)) ((W.alloc (.cells #[.int .u32 cu, .int .u8 e, .int .u16 b, .int .u16 t, .int .u16 pm, .int .u16 ty, .int .u32 rs, .bool va] 25)).alloc (.cells #[.int .u8 (u0.toNat : Int), .int .u8 (u1.toNat : Int), .int .u8 (u2.toNat : Int), .int .u8 (u3.toNat : Int), .int .u8 (u4.toNat : Int), .int .u8 (u5.toNat : Int), .int .u8 (u6.toNat : Int), .int .u8 (u7.toNat : Int), .int .u8 (u8.toNat : Int), .int .u8 (u9.toNat : Int), .int .u8 (u10.toNat : Int), .int .u8 (u11.toNat : Int), .int .u8 (u12.toNat : Int), .int .u8 (u13.toNat : Int), .int .u8 (u14.toNat : Int), .int .u8 (u15.toNat : Int)] 41)) := (Below.refl _ _).alloc (by simp) _
  refine ⟨k.below b2 (by omega), fun j => ?_, fun _ => ⟨_, 0, rfl, by omega, fun j u hu => ?_⟩, ((Below.refl _ _).alloc (Nat.le_refl _) _).alloc (by simp) _, by simp⟩
  · refine (b2.frozen (p := ⟨W.heap.size, j, none⟩) (by show W.heap.size < _; omega)).trans ?_
    rw [World.frozen?_alloc_at (hn := rfl)]
  · rw [World.cell?_alloc_at (hn := by simp), Nat.zero_add]
    have hj : j < 16 := by simpa using (List.getElem?_eq_some_iff.1 hu).1
    have : j = 0 ∨ j = 1 ∨ j = 2 ∨ j = 3 ∨ j = 4 ∨ j = 5 ∨ j = 6 ∨ j = 7 ∨ j = 8 ∨ j = 9 ∨ j = 10 ∨ j = 11 ∨ j = 12 ∨ j = 13 ∨ j = 14 ∨ j = 15 := by omega
    rcases this with rfl | rfl | rfl | rfl | rfl | rfl | rfl | rfl | rfl | rfl | rfl | rfl | rfl | rfl | rfl | rfl <;> (simp at hu; subst hu; rfl)

/-- Beside them a box of its own, nought as yet. -/
def OB (W : World) (cu e b t pm ty rs : Nat) (va : Bool) (l : List UInt8) (bx : Nat) (w : World) : Prop :=
  BK W cu e b t pm ty rs va l w ∧ CapAt w bx 0 0 0 0 0 0 0 false ∧ (∀ k, w.frozen? ⟨bx, k, none⟩ = false) ∧ W.heap.size + 1 < bx ∧ bx < w.heap.size
section
variable {W : World} {cu e b t pm ty rs : Nat} {va : Bool} {l : List UInt8} {w w' : World} {bx : Nat}
theorem BK.alloc (h : BK W cu e b t pm ty rs va l w) (ob : Obj) : BK W cu e b t pm ty rs va l (w.alloc ob) := h.below ((Below.refl _ _).alloc (Nat.le_refl _) _)
theorem OB.below (h : OB W cu e b t pm ty rs va l bx w) (k : Below w.heap.size w w') : OB W cu e b t pm ty rs va l bx w' :=
  ⟨h.1.below k, h.2.1.below k h.2.2.2.2, fun j => (k.frozen (p := ⟨bx, j, none⟩) h.2.2.2.2).trans (h.2.2.1 j), h.2.2.2.1, Nat.lt_of_lt_of_le h.2.2.2.2 k.size⟩
theorem OB.of (h : BK W cu e b t pm ty rs va l w) : OB W cu e b t pm ty rs va l w.heap.size (w.alloc (.cells #[.int .u32 0, .int .u8 0, .int .u16 0, .int .u16 0, .int .u16 0, .int .u16 0, .int .u32 0, .bool false] 25)) :=
  ⟨h.alloc _, CapAt.make w 0 0 0 0 0 0 0 false, fun k => by rw [World.frozen?_alloc_at (hn := rfl)], h.n, by simp⟩
theorem OB.drew (h : OB W cu e b t pm ty rs va l bx w) : OB W cu e b t pm ty rs va l bx w.drew := ⟨h.1.drew, h.2.1.drew, h.2.2.1, h.2.2.2.1, h.2.2.2.2⟩
theorem BK.store (h : BK W cu e b t pm ty rs va l w) (cu' e' b' t' pm' ty' rs' : Nat) (va' : Bool) : BK W cu' e' b' t' pm' ty' rs' va' l (setRow W.heap.size 0 [.int .u32 cu', .int .u8 e', .int .u16 b', .int .u16 t', .int .u16 pm', .int .u16 ty', .int .u32 rs', .bool va'] w) :=
  ⟨h.c.store _ _ _ _ _ _ _ _, fun j => by rw [setRow_frozen]; exact h.f j, fun hp => by
    obtain ⟨g, off, e1, e2, e3⟩ := h.x hp
    injection e1 with e1
    injection e1 with e1 e4
    subst e1 e4
    exact ⟨_, _, rfl, e2, fun j u hu => (setRow_other _ _ _ _ _ (by simp)).trans (e3 j u hu)⟩, setRow_below _ (Nat.le_refl _) _ _ _ h.bl, by rw [setRow_size]; exact h.n⟩
theorem OB.store (h : OB W cu e b t pm ty rs va l bx w) (cu' e' b' t' pm' ty' rs' : Nat) (va' : Bool) :
    BK W cu e b t pm ty rs va l (setRow bx 0 [.int .u32 cu', .int .u8 e', .int .u16 b', .int .u16 t', .int .u16 pm', .int .u16 ty', .int .u32 rs', .bool va'] w) ∧ CapAt (setRow bx 0 [.int .u32 cu', .int .u8 e', .int .u16 b', .int .u16 t', .int .u16 pm', .int .u16 ty', .int .u32 rs', .bool va'] w) bx cu' e' b' t' pm' ty' rs' va' := by
  obtain ⟨k, c, f, n1, n2⟩ := h
  refine ⟨⟨k.c.other (by omega) _, fun j => by rw [setRow_frozen]; exact k.f j, k.x.keep (fun q hq => setRow_other _ _ _ _ _ (by omega)), setRow_below _ (by omega) _ _ _ k.bl, by rw [setRow_size]; exact k.n⟩, c.store _ _ _ _ _ _ _ _⟩
/-- The three boxes of capabilities, and the bytes. -/
structure TR (W : World) (cu e b t pm ty rs : Nat) (va : Bool) (l : List UInt8) (bx bz k0 k1 k2 k3 k4 k5 k6 : Nat) (k7 : Bool) (w : World) : Prop where
  k : BK W cu e b t pm ty rs va l w
  a : CapAt w bx cu e b t pm ty rs va
  c : CapAt w bz k0 k1 k2 k3 k4 k5 k6 k7
  na : bx < w.heap.size
  nc : bz < w.heap.size
theorem TR.below {bz k0 k1 k2 k3 k4 k5 k6 : Nat} {k7 : Bool} (h : TR W cu e b t pm ty rs va l bx bz k0 k1 k2 k3 k4 k5 k6 k7 w) (k : Below w.heap.size w w') : TR W cu e b t pm ty rs va l bx bz k0 k1 k2 k3 k4 k5 k6 k7 w' :=
  ⟨h.k.below k, h.a.below k h.na, h.c.below k h.nc, Nat.lt_of_lt_of_le h.na k.size, Nat.lt_of_lt_of_le h.nc k.size⟩
theorem TR.drew {bz k0 k1 k2 k3 k4 k5 k6 : Nat} {k7 : Bool} (h : TR W cu e b t pm ty rs va l bx bz k0 k1 k2 k3 k4 k5 k6 k7 w) : TR W cu e b t pm ty rs va l bx bz k0 k1 k2 k3 k4 k5 k6 k7 w.drew :=
  ⟨h.k.drew, h.a.drew, h.c.drew, h.na, h.nc⟩
theorem BK.cut (k : BK W cu e b t pm ty rs va l w) : ∃ bx' : Nat, Value.pointer (some ⟨w.heap.size, 0, none⟩) = .pointer (some ⟨bx', 0, none⟩) ∧ Value.bool true = .bool true ∧ CapAt (w.alloc (.cells #[.int .u32 cu, .int .u8 e, .int .u16 b, .int .u16 t, .int .u16 pm, .int .u16 ty, .int .u32 rs, .bool va] 25)) bx' cu e b t pm ty rs va ∧ bx' < (w.alloc (.cells #[.int .u32 cu, .int .u8 e, .int .u16 b, .int .u16 t, .int .u16 pm, .int .u16 ty, .int .u32 rs, .bool va] 25)).heap.size ∧ BK W cu e b t pm ty rs va l (w.alloc (.cells #[.int .u32 cu, .int .u8 e, .int .u16 b, .int .u16 t, .int .u16 pm, .int .u16 ty, .int .u32 rs, .bool va] 25)) :=
  ⟨_, rfl, rfl, CapAt.make w cu e b t pm ty rs va, by simp, k.alloc _⟩
theorem OB.cut (k : OB W cu e b t pm ty rs va l bx w) : ∃ bx' : Nat, Value.pointer (some ⟨bx, 0, none⟩) = .pointer (some ⟨bx', 0, none⟩) ∧ Value.bool true = .bool true ∧ CapAt (setRow bx 0 [.int .u32 cu, .int .u8 e, .int .u16 b, .int .u16 t, .int .u16 pm, .int .u16 ty, .int .u32 rs, .bool va] w) bx' cu e b t pm ty rs va ∧ bx' < (setRow bx 0 [.int .u32 cu, .int .u8 e, .int .u16 b, .int .u16 t, .int .u16 pm, .int .u16 ty, .int .u32 rs, .bool va] w).heap.size ∧ BK W cu e b t pm ty rs va l (setRow bx 0 [.int .u32 cu, .int .u8 e, .int .u16 b, .int .u16 t, .int .u16 pm, .int .u16 ty, .int .u32 rs, .bool va] w) :=
  ⟨_, rfl, rfl, (k.store cu e b t pm ty rs va).2, by rw [setRow_size]; exact k.2.2.2.2, (k.store cu e b t pm ty rs va).1⟩
theorem OB.cut' (k : OB W cu e b t pm ty rs va l bx w) : ∃ bx' : Nat, Value.pointer (some ⟨bx, 0, none⟩) = .pointer (some ⟨bx', 0, none⟩) ∧ Value.bool true = .bool true ∧ CapAt (((((((((w.setCell ⟨bx, 0, none⟩ (.int .u32 cu)).setCell ⟨bx, 1, none⟩ (.int .u8 e)).setCell ⟨bx, 2, none⟩ (.int .u16 b)).setCell ⟨bx, 3, none⟩ (.int .u16 t)).setCell ⟨bx, 4, none⟩ (.int .u16 pm)).setCell ⟨bx, 5, none⟩ (.int .u16 ty)).setCell ⟨bx, 6, none⟩ (.int .u32 rs)).setCell ⟨bx, 7, none⟩ (.bool va))) bx' cu e b t pm ty rs va ∧ bx' < (((((((((w.setCell ⟨bx, 0, none⟩ (.int .u32 cu)).setCell ⟨bx, 1, none⟩ (.int .u8 e)).setCell ⟨bx, 2, none⟩ (.int .u16 b)).setCell ⟨bx, 3, none⟩ (.int .u16 t)).setCell ⟨bx, 4, none⟩ (.int .u16 pm)).setCell ⟨bx, 5, none⟩ (.int .u16 ty)).setCell ⟨bx, 6, none⟩ (.int .u32 rs)).setCell ⟨bx, 7, none⟩ (.bool va))).heap.size ∧ BK W cu e b t pm ty rs va l (((((((((w.setCell ⟨bx, 0, none⟩ (.int .u32 cu)).setCell ⟨bx, 1, none⟩ (.int .u8 e)).setCell ⟨bx, 2, none⟩ (.int .u16 b)).setCell ⟨bx, 3, none⟩ (.int .u16 t)).setCell ⟨bx, 4, none⟩ (.int .u16 pm)).setCell ⟨bx, 5, none⟩ (.int .u16 ty)).setCell ⟨bx, 6, none⟩ (.int .u32 rs)).setCell ⟨bx, 7, none⟩ (.bool va))) := by
  have := OB.cut k
  simpa only [setRow, Nat.zero_add, Nat.reduceAdd] using this
end

set_option maxRecDepth 100000 in
set_option maxHeartbeats 4000000 in
theorem walkN (cu e b t pm ty rs : Nat) (va : Bool) (u0 u1 u2 u3 u4 u5 u6 u7 u8 u9 u10 u11 u12 u13 u14 u15 : UInt8) (vd : Bool) (lcu : cu < 4294967296) (le : e < 256) (lb : b < 65536) (lt : t < 65536) (lpm : pm < 65536) (lty : ty < 65536) (lrs : rs < 4294967296) (W : World) :
    Calls Try.prog 7 #[.agg #[.int .u32 cu, .int .u8 e, .int .u16 b, .int .u16 t, .int .u16 pm, .int .u16 ty, .int .u32 rs, .bool va], .agg #[.int .u8 (u0.toNat : Int), .int .u8 (u1.toNat : Int), .int .u8 (u2.toNat : Int), .int .u8 (u3.toNat : Int), .int .u8 (u4.toNat : Int), .int .u8 (u5.toNat : Int), .int .u8 (u6.toNat : Int), .int .u8 (u7.toNat : Int), .int .u8 (u8.toNat : Int), .int .u8 (u9.toNat : Int), .int .u8 (u10.toNat : Int), .int .u8 (u11.toNat : Int), .int .u8 (u12.toNat : Int), .int .u8 (u13.toNat : Int), .int .u8 (u14.toNat : Int), .int .u8 (u15.toNat : Int)], .bool vd] W fun e w' => e = .returned (.bool true) ∧ Below W.heap.size W w' := by
  have hW := Lib.hid (fun w => works_any w)
  have hS := Lib.hid (fun w => sound_any cu e b t pm ty rs va w lpm)
  have h0 := BK.first W cu e b t pm ty rs va u0 u1 u2 u3 u4 u5 u6 u7 u8 u9 u10 u11 u12 u13 u14 u15
  generalize hl : [u0, u1, u2, u3, u4, u5, u6, u7, u8, u9, u10, u11, u12, u13, u14, u15] = l at h0
  have hl16 : l.length = 16 := by rw [← hl]; rfl
  clear hl
  have hs1 : e % 22 ≤ 21 := by omega
  have hs2 : b % 4096 < 4096 := by omega
  have hs3 : t % 4096 < 4096 := by omega
  have hs4 : pm % 256 ≤ 255 := by omega
  have hs5 : ty % 4096 < 4096 := by omega
  have hs6 : rs % 16777216 < 16777216 := by omega
  generalize e % 22 = e' at hS hs1 hs2 hs3 hs4 hs5 hs6
  generalize b % 4096 = b' at hS hs1 hs2 hs3 hs4 hs5 hs6
  generalize t % 4096 = t' at hS hs1 hs2 hs3 hs4 hs5 hs6
  generalize pm % 256 = pm' at hS hs1 hs2 hs3 hs4 hs5 hs6
  generalize ty % 4096 = ty' at hS hs1 hs2 hs3 hs4 hs5 hs6
  generalize rs % 16777216 = rs' at hS hs1 hs2 hs3 hs4 hs5 hs6
  have hsn : sndP e' b' t' pm' ty' rs' = true := decide_eq_true ⟨hs1, hs2, hs3, hs4, hs5, hs6⟩
  have hB := Lib.hid (fun w => pBytes_any cu e' b' t' pm' ty' rs' va lcu (by omega) (by omega) (by omega) (by omega) (by omega) (by omega) w)
  have hO := pOf_yes (bytesC cu e' b' t' pm' ty' rs') va (bytesC_length _ _ _ _ _ _ _)
  obtain ⟨n0, n1, n2, n3, n4, n5, n6⟩ := nm_bytes (cu := cu) (e := e') (b := b') (t := t') (pm := pm') (ty := ty') (rs := rs') lcu (by omega) (by omega) (by omega) (by omega) (by omega) hs6
  rw [n0, n1, n2, n3, n4, n5, n6, hsn, Bool.and_true] at hO
  clear n0 n1 n2 n3 n4 n5 n6
  replace hO := Lib.hid hO
  generalize bytesC cu e' b' t' pm' ty' rs' = s1 at hB hO
  have hN := Lib.hid (fun w => pSound_any cu e' b' t' pm' ty' rs' va lcu (by omega) (by omega) (by omega) (by omega) (by omega) (by omega) w)
  rw [hsn] at hN
  have hEq : ∀ w : World, (Op.equalIn 10000 25 (.agg #[.int .u32 cu, .int .u8 e', .int .u16 b', .int .u16 t', .int .u16 pm', .int .u16 ty', .int .u32 rs', .bool va]) (.agg #[.int .u32 cu, .int .u8 e', .int .u16 b', .int .u16 t', .int .u16 pm', .int .u16 ty', .int .u32 rs', .bool va])).run Try.prog w = .ok true w := fun w => by rw [cap_eq]; simp
  have hO2 := Lib.hid (fun w => pOf_yes l vd hl16 w)
  have hb2 := bytes_nm hl16
  have m0 := nm_lt l 0 4
  have m1 := nm_lt l 4 1
  have m2 := nm_lt l 5 2
  have m3 := nm_lt l 7 2
  have m4 := nm_lt l 9 2
  have m5 := nm_lt l 11 2
  have m6 := nm_lt l 13 3
  simp only [Nat.reducePow] at m0 m1 m2 m3 m4 m5 m6
  have hB2 := Lib.hid (fun va w => pBytes_any (nm l 0 4) (nm l 4 1) (nm l 5 2) (nm l 7 2) (nm l 9 2) (nm l 11 2) (nm l 13 3) va m0 m1 m2 m3 m4 m5 (by omega) w)
  rw [hb2] at hB2
  have hN2 := Lib.hid (fun va w => pSound_any (nm l 0 4) (nm l 4 1) (nm l 5 2) (nm l 7 2) (nm l 9 2) (nm l 11 2) (nm l 13 3) va m0 m1 m2 m3 m4 m5 (by omega) w)
  generalize sndP (nm l 4 1) (nm l 5 2) (nm l 7 2) (nm l 9 2) (nm l 11 2) (nm l 13 3) = z at *
  generalize nm l 0 4 = k0 at *
  generalize nm l 4 1 = k1 at *
  generalize nm l 5 2 = k2 at *
  generalize nm l 7 2 = k3 at *
  generalize nm l 9 2 = k4 at *
  generalize nm l 11 2 = k5 at *
  generalize nm l 13 3 = k6 at *
  clear hb2 m0 m1 m2 m3 m4 m5 m6 hs1 hs2 hs3 hs4 hs5 hs6 hsn
  replace h0 := Lib.hid h0
  go_enter Try.func7, Try.ntmps7
  go_wp2_with fail
  generalize ((W.alloc (.cells #[.int .u32 cu, .int .u8 e, .int .u16 b, .int .u16 t, .int .u16 pm, .int .u16 ty, .int .u32 rs, .bool va] 25)).alloc (.cells #[.int .u8 (u0.toNat : Int), .int .u8 (u1.toNat : Int), .int .u8 (u2.toNat : Int), .int .u8 (u3.toNat : Int), .int .u8 (u4.toNat : Int), .int .u8 (u5.toNat : Int), .int .u8 (u6.toNat : Int), .int .u8 (u7.toNat : Int), .int .u8 (u8.toNat : Int), .int .u8 (u9.toNat : Int), .int .u8 (u10.toNat : Int), .int .u8 (u11.toNat : Int), .int .u8 (u12.toNat : Int), .int .u8 (u13.toNat : Int), .int .u8 (u14.toNat : Int), .int .u8 (u15.toNat : Int)] 41)) = W0 at *
  refine (hW.out _).mono ?_
  rintro e w1 ⟨rfl, h1⟩
  replace h0 := h0.out.below h1
  obtain ⟨q0, q1, q2, q3, q4, q5, q6, q7⟩ := id h0.c
  replace h0 := Lib.hid h0
  clear h1
  go_wp2_with fail
  refine (hS.out _).mono ?_
  rintro e w2 ⟨rfl, h1⟩
  replace h0 := h0.out.below h1
  clear h1 q0 q1 q2 q3 q4 q5 q6 q7
  obtain ⟨q0, q1, q2, q3, q4, q5, q6, q7⟩ := id h0.c
  have f0 := h0.f 0
  have f1 := h0.f 1
  have f2 := h0.f 2
  have f3 := h0.f 3
  have f4 := h0.f 4
  have f5 := h0.f 5
  have f6 := h0.f 6
  have f7 := h0.f 7
  replace h0 := Lib.hid h0
  go_upto_region 4 with (fail)
  have h2 := Lib.hid (h0.out.store cu e' b' t' pm' ty' rs' va)
  change Code.wp _ _ _ _ (setRow W.heap.size 0 [.int .u32 cu, .int .u8 e', .int .u16 b', .int .u16 t', .int .u16 pm', .int .u16 ty', .int .u32 rs', .bool va] w2)
  generalize setRow W.heap.size 0 [.int .u32 cu, .int .u8 e', .int .u16 b', .int .u16 t', .int .u16 pm', .int .u16 ty', .int .u32 rs', .bool va] w2 = V at *
  clear h0 q0 q1 q2 q3 q4 q5 q6 q7 f0 f1 f2 f3 f4 f5 f6 f7
  go_cut [7, 8] (fun v7 v8 w' => ∃ bx : Nat, v7 = .pointer (some ⟨bx, 0, none⟩) ∧ v8 = .bool true ∧ CapAt w' bx cu e' b' t' pm' ty' rs' va ∧ bx < w'.heap.size ∧ BK W cu e' b' t' pm' ty' rs' va l w')
  case first =>
    obtain ⟨q0, q1, q2, q3, q4, q5, q6, q7⟩ := id h2.out.c
    have cA := Lib.hid ((hB.out V.drew).mono (R' := fun ee w' => ee = .returned (.string ⟨s1.toArray⟩) ∧ BK W cu e' b' t' pm' ty' rs' va l w') fun _ _ k => ⟨k.1, h2.out.drew.below k.2⟩)
    have cB := Lib.hid ((hB.out (V.alloc (.cells #[.int .u32 0, .int .u8 0, .int .u16 0, .int .u16 0, .int .u16 0, .int .u16 0, .int .u32 0, .bool false] 25)).drew).mono (R' := fun ee w' => ee = .returned (.string ⟨s1.toArray⟩) ∧ OB W cu e' b' t' pm' ty' rs' va l V.heap.size w') fun _ _ k => ⟨k.1, (OB.of h2.out).drew.below k.2⟩)
    have dA := Lib.hid (fun X (k1 : BK W cu e' b' t' pm' ty' rs' va l X) => (hO.out X).mono (R' := fun ee w' => ee = .returned (.tuple #[.agg #[.int .u32 cu, .int .u8 e', .int .u16 b', .int .u16 t', .int .u16 pm', .int .u16 ty', .int .u32 rs', .bool va], .bool true]) ∧ BK W cu e' b' t' pm' ty' rs' va l w') fun _ _ k => ⟨k.1, k1.below k.2⟩)
    have dB := Lib.hid (fun X (k1 : BK W cu e' b' t' pm' ty' rs' va l X) => (hO.out (X.alloc (.cells #[.int .u32 0, .int .u8 0, .int .u16 0, .int .u16 0, .int .u16 0, .int .u16 0, .int .u32 0, .bool false] 25))).mono (R' := fun ee w' => ee = .returned (.tuple #[.agg #[.int .u32 cu, .int .u8 e', .int .u16 b', .int .u16 t', .int .u16 pm', .int .u16 ty', .int .u32 rs', .bool va], .bool true]) ∧ OB W cu e' b' t' pm' ty' rs' va l X.heap.size w') fun _ _ k => ⟨k.1, (OB.of k1).below k.2⟩)
    have dC := Lib.hid (fun X bx (k1 : OB W cu e' b' t' pm' ty' rs' va l bx X) => (hO.out X).mono (R' := fun ee w' => ee = .returned (.tuple #[.agg #[.int .u32 cu, .int .u8 e', .int .u16 b', .int .u16 t', .int .u16 pm', .int .u16 ty', .int .u32 rs', .bool va], .bool true]) ∧ OB W cu e' b' t' pm' ty' rs' va l bx w') fun _ _ k => ⟨k.1, k1.below k.2⟩)
    have m0 : W.heap.size < V.heap.size := Nat.lt_of_succ_lt h2.out.n
    clear hO hB hW hS hN hO2 hB2 hN2 hEq
    go_region_with (first
      | (go_at_call 14; ((with_reducible refine cA.out.mono ?_); rintro ee X ⟨rfl, k1⟩; obtain ⟨p0, p1, p2, p3, p4, p5, p6, p7⟩ := id k1.c; have m1 : W.heap.size < X.heap.size := Nat.lt_of_succ_lt k1.n))
      | (go_at_call 14; ((with_reducible refine cB.out.mono ?_); rintro ee X ⟨rfl, k2⟩; obtain ⟨p0, p1, p2, p3, p4, p5, p6, p7⟩ := id k2.1.c; obtain ⟨z0, z1, z2, z3, z4, z5, z6, z7⟩ := id k2.2.1; have m1 : W.heap.size < X.heap.size := Nat.lt_of_succ_lt k2.1.n))
      | (go_at_call 12; ((with_reducible refine (dC.out _ _ k2).mono ?_); rintro ee Y ⟨rfl, k3⟩; obtain ⟨z0, z1, z2, z3, z4, z5, z6, z7⟩ := id k3.2.1; have zf := k3.2.2.1))
      | (go_at_call 12; ((with_reducible refine (dB.out _ k1).mono ?_); rintro ee Y ⟨rfl, k3⟩; obtain ⟨z0, z1, z2, z3, z4, z5, z6, z7⟩ := id k3.2.1; have zf := k3.2.2.1))
      | (go_at_call 12; ((with_reducible refine (dA.out _ k1).mono ?_); rintro ee Y ⟨rfl, k4⟩)))
    all_goals go_wp2_with fail
    all_goals go_meet
    all_goals first | with_reducible exact BK.cut k4 | with_reducible exact OB.cut' k3
  case rest =>
    obtain ⟨bx, rfl, rfl, kc, kn, kb⟩ := hcut
    have hcv := conv_RB (16) kb.x
    rw [hl16] at hcv
    replace kc := Lib.hid kc
    replace kn := Lib.hid kn
    replace kb := Lib.hid kb
    clear h2
    go_wp2_with fail
    refine (hO2.out _).mono ?_
    rintro ee X ⟨rfl, g⟩
    have kc2 := Lib.hid (kc.out.below g kn.out)
    have kb2 := Lib.hid (kb.out.below g)
    have kn2 := Lib.hid (Nat.lt_of_lt_of_le kn.out g.size)
    clear kc kb kn g hcv
    go_upto_region 6 with (fail)
    have b3 : Below X.heap.size X (X.alloc (.cells #[.int .u32 k0, .int .u8 k1, .int .u16 k2, .int .u16 k3, .int .u16 k4, .int .u16 k5, .int .u32 k6, .bool (vd && z)] 25)) := (Below.refl _ _).alloc (Nat.le_refl _) _
    have K0 : TR W cu e' b' t' pm' ty' rs' va l bx X.heap.size k0 k1 k2 k3 k4 k5 k6 (vd && z) (X.alloc (.cells #[.int .u32 k0, .int .u8 k1, .int .u16 k2, .int .u16 k3, .int .u16 k4, .int .u16 k5, .int .u32 k6, .bool (vd && z)] 25)) := ⟨kb2.out.below b3, kc2.out.below b3 kn2.out, CapAt.make X k0 k1 k2 k3 k4 k5 k6 (vd && z), Nat.lt_of_lt_of_le kn2.out b3.size, by simp⟩
    generalize X.heap.size = bz at *
    generalize X.alloc (.cells #[.int .u32 k0, .int .u8 k1, .int .u16 k2, .int .u16 k3, .int .u16 k4, .int .u16 k5, .int .u32 k6, .bool (vd && z)] 25) = Y at *
    clear b3 kc2 kb2 kn2
    have hE2 : vd = false ∨ (vd = true ∧ z = false) ∨ (vd = true ∧ z = true) := by cases vd <;> cases z <;> simp
    rcases hE2 with rfl | ⟨rfl, rfl⟩ | ⟨rfl, rfl⟩
    · replace K0 : TR W cu e' b' t' pm' ty' rs' va l bx bz k0 k1 k2 k3 k4 k5 k6 false Y := K0
      have fN := Lib.hid (cls_call (S := TR W cu e' b' t' pm' ty' rs' va l bx bz k0 k1 k2 k3 k4 k5 k6 false) fun w h => (hN.out w).mono (R' := fun ee w' => ee = .returned (.bool true) ∧ TR W cu e' b' t' pm' ty' rs' va l bx bz k0 k1 k2 k3 k4 k5 k6 false w') fun _ _ k => ⟨k.1, h.below k.2⟩)
      have fB := Lib.hid (cls_call (S := TR W cu e' b' t' pm' ty' rs' va l bx bz k0 k1 k2 k3 k4 k5 k6 false) fun w h => (hB2.out false w).mono (R' := fun ee w' => ee = .returned (.string ⟨l.toArray⟩) ∧ TR W cu e' b' t' pm' ty' rs' va l bx bz k0 k1 k2 k3 k4 k5 k6 false w') fun _ _ k => ⟨k.1, h.below k.2⟩)
      have fM := Lib.hid (cls_call (S := TR W cu e' b' t' pm' ty' rs' va l bx bz k0 k1 k2 k3 k4 k5 k6 false) fun w h => (hN2.out false w).mono (R' := fun ee w' => ee = .returned (.bool z) ∧ TR W cu e' b' t' pm' ty' rs' va l bx bz k0 k1 k2 k3 k4 k5 k6 false w') fun _ _ k => ⟨k.1, h.below k.2⟩)
      have a0 : ∀ y : Wd (TR W cu e' b' t' pm' ty' rs' va l bx bz k0 k1 k2 k3 k4 k5 k6 false), y.w.cell? ⟨W.heap.size, 0, none⟩ = some (.int .u32 cu) := fun y => y.h.k.c.q0
      have a1 : ∀ y : Wd (TR W cu e' b' t' pm' ty' rs' va l bx bz k0 k1 k2 k3 k4 k5 k6 false), y.w.cell? ⟨W.heap.size, 1, none⟩ = some (.int .u8 e') := fun y => y.h.k.c.q1
      have a2 : ∀ y : Wd (TR W cu e' b' t' pm' ty' rs' va l bx bz k0 k1 k2 k3 k4 k5 k6 false), y.w.cell? ⟨W.heap.size, 2, none⟩ = some (.int .u16 b') := fun y => y.h.k.c.q2
      have a3 : ∀ y : Wd (TR W cu e' b' t' pm' ty' rs' va l bx bz k0 k1 k2 k3 k4 k5 k6 false), y.w.cell? ⟨W.heap.size, 3, none⟩ = some (.int .u16 t') := fun y => y.h.k.c.q3
      have a4 : ∀ y : Wd (TR W cu e' b' t' pm' ty' rs' va l bx bz k0 k1 k2 k3 k4 k5 k6 false), y.w.cell? ⟨W.heap.size, 4, none⟩ = some (.int .u16 pm') := fun y => y.h.k.c.q4
      have a5 : ∀ y : Wd (TR W cu e' b' t' pm' ty' rs' va l bx bz k0 k1 k2 k3 k4 k5 k6 false), y.w.cell? ⟨W.heap.size, 5, none⟩ = some (.int .u16 ty') := fun y => y.h.k.c.q5
      have a6 : ∀ y : Wd (TR W cu e' b' t' pm' ty' rs' va l bx bz k0 k1 k2 k3 k4 k5 k6 false), y.w.cell? ⟨W.heap.size, 6, none⟩ = some (.int .u32 rs') := fun y => y.h.k.c.q6
      have a7 : ∀ y : Wd (TR W cu e' b' t' pm' ty' rs' va l bx bz k0 k1 k2 k3 k4 k5 k6 false), y.w.cell? ⟨W.heap.size, 7, none⟩ = some (.bool va) := fun y => y.h.k.c.q7
      have c0 : ∀ y : Wd (TR W cu e' b' t' pm' ty' rs' va l bx bz k0 k1 k2 k3 k4 k5 k6 false), y.w.cell? ⟨bx, 0, none⟩ = some (.int .u32 cu) := fun y => y.h.a.q0
      have c1 : ∀ y : Wd (TR W cu e' b' t' pm' ty' rs' va l bx bz k0 k1 k2 k3 k4 k5 k6 false), y.w.cell? ⟨bx, 1, none⟩ = some (.int .u8 e') := fun y => y.h.a.q1
      have c2 : ∀ y : Wd (TR W cu e' b' t' pm' ty' rs' va l bx bz k0 k1 k2 k3 k4 k5 k6 false), y.w.cell? ⟨bx, 2, none⟩ = some (.int .u16 b') := fun y => y.h.a.q2
      have c3 : ∀ y : Wd (TR W cu e' b' t' pm' ty' rs' va l bx bz k0 k1 k2 k3 k4 k5 k6 false), y.w.cell? ⟨bx, 3, none⟩ = some (.int .u16 t') := fun y => y.h.a.q3
      have c4 : ∀ y : Wd (TR W cu e' b' t' pm' ty' rs' va l bx bz k0 k1 k2 k3 k4 k5 k6 false), y.w.cell? ⟨bx, 4, none⟩ = some (.int .u16 pm') := fun y => y.h.a.q4
      have c5 : ∀ y : Wd (TR W cu e' b' t' pm' ty' rs' va l bx bz k0 k1 k2 k3 k4 k5 k6 false), y.w.cell? ⟨bx, 5, none⟩ = some (.int .u16 ty') := fun y => y.h.a.q5
      have c6 : ∀ y : Wd (TR W cu e' b' t' pm' ty' rs' va l bx bz k0 k1 k2 k3 k4 k5 k6 false), y.w.cell? ⟨bx, 6, none⟩ = some (.int .u32 rs') := fun y => y.h.a.q6
      have c7 : ∀ y : Wd (TR W cu e' b' t' pm' ty' rs' va l bx bz k0 k1 k2 k3 k4 k5 k6 false), y.w.cell? ⟨bx, 7, none⟩ = some (.bool va) := fun y => y.h.a.q7
      have d0 : ∀ y : Wd (TR W cu e' b' t' pm' ty' rs' va l bx bz k0 k1 k2 k3 k4 k5 k6 false), y.w.cell? ⟨bz, 0, none⟩ = some (.int .u32 k0) := fun y => y.h.c.q0
      have d1 : ∀ y : Wd (TR W cu e' b' t' pm' ty' rs' va l bx bz k0 k1 k2 k3 k4 k5 k6 false), y.w.cell? ⟨bz, 1, none⟩ = some (.int .u8 k1) := fun y => y.h.c.q1
      have d2 : ∀ y : Wd (TR W cu e' b' t' pm' ty' rs' va l bx bz k0 k1 k2 k3 k4 k5 k6 false), y.w.cell? ⟨bz, 2, none⟩ = some (.int .u16 k2) := fun y => y.h.c.q2
      have d3 : ∀ y : Wd (TR W cu e' b' t' pm' ty' rs' va l bx bz k0 k1 k2 k3 k4 k5 k6 false), y.w.cell? ⟨bz, 3, none⟩ = some (.int .u16 k3) := fun y => y.h.c.q3
      have d4 : ∀ y : Wd (TR W cu e' b' t' pm' ty' rs' va l bx bz k0 k1 k2 k3 k4 k5 k6 false), y.w.cell? ⟨bz, 4, none⟩ = some (.int .u16 k4) := fun y => y.h.c.q4
      have d5 : ∀ y : Wd (TR W cu e' b' t' pm' ty' rs' va l bx bz k0 k1 k2 k3 k4 k5 k6 false), y.w.cell? ⟨bz, 5, none⟩ = some (.int .u16 k5) := fun y => y.h.c.q5
      have d6 : ∀ y : Wd (TR W cu e' b' t' pm' ty' rs' va l bx bz k0 k1 k2 k3 k4 k5 k6 false), y.w.cell? ⟨bz, 6, none⟩ = some (.int .u32 k6) := fun y => y.h.c.q6
      have d7 : ∀ y : Wd (TR W cu e' b' t' pm' ty' rs' va l bx bz k0 k1 k2 k3 k4 k5 k6 false), y.w.cell? ⟨bz, 7, none⟩ = some (.bool false) := fun y => y.h.c.q7
      have hcv : ∀ y : Wd (TR W cu e' b' t' pm' ty' rs' va l bx bz k0 k1 k2 k3 k4 k5 k6 false), (convert 43 9 (.slice (some ⟨W.heap.size + 1, 0, none⟩) 16 16)).run Try.prog y.w = .ok (.string ⟨l.toArray⟩) y.w := fun y => by
        have hc := conv_RB 16 y.h.k.x
        rwa [hl16] at hc
      refine region_cls (TR W cu e' b' t' pm' ty' rs' va l bx bz k0 k1 k2 k3 k4 k5 k6 false) (by kernel_rfl) (by kernel_rfl) K0.drew ?_
      clear hN hB2 hN2 hS hB hO hO2 hW K0
      repeat (first
        | go_big_quiet_skip
        | (go_big_quiet_want
           go_big_quiet_op
           first
           | go_big_quiet_on
           | (apply Exists.intro
              refine ⟨fun y => ?_, ?_⟩
              · first | exact rfl | with_reducible exact fB.out y | with_reducible exact fN.out y | with_reducible exact fM.out y
              go_big_quiet_on)))
      refine wpQuiet_nil ?_
      intro y
      have hk := Lib.hid y.h.k.bl
      go_wp2
      go_ret
      exact ⟨rfl, hk.out⟩
    · replace K0 : TR W cu e' b' t' pm' ty' rs' va l bx bz k0 k1 k2 k3 k4 k5 k6 false Y := K0
      have fN := Lib.hid (cls_call (S := TR W cu e' b' t' pm' ty' rs' va l bx bz k0 k1 k2 k3 k4 k5 k6 false) fun w h => (hN.out w).mono (R' := fun ee w' => ee = .returned (.bool true) ∧ TR W cu e' b' t' pm' ty' rs' va l bx bz k0 k1 k2 k3 k4 k5 k6 false w') fun _ _ k => ⟨k.1, h.below k.2⟩)
      have fB := Lib.hid (cls_call (S := TR W cu e' b' t' pm' ty' rs' va l bx bz k0 k1 k2 k3 k4 k5 k6 false) fun w h => (hB2.out false w).mono (R' := fun ee w' => ee = .returned (.string ⟨l.toArray⟩) ∧ TR W cu e' b' t' pm' ty' rs' va l bx bz k0 k1 k2 k3 k4 k5 k6 false w') fun _ _ k => ⟨k.1, h.below k.2⟩)
      have fM := Lib.hid (cls_call (S := TR W cu e' b' t' pm' ty' rs' va l bx bz k0 k1 k2 k3 k4 k5 k6 false) fun w h => (hN2.out false w).mono (R' := fun ee w' => ee = .returned (.bool false) ∧ TR W cu e' b' t' pm' ty' rs' va l bx bz k0 k1 k2 k3 k4 k5 k6 false w') fun _ _ k => ⟨k.1, h.below k.2⟩)
      have a0 : ∀ y : Wd (TR W cu e' b' t' pm' ty' rs' va l bx bz k0 k1 k2 k3 k4 k5 k6 false), y.w.cell? ⟨W.heap.size, 0, none⟩ = some (.int .u32 cu) := fun y => y.h.k.c.q0
      have a1 : ∀ y : Wd (TR W cu e' b' t' pm' ty' rs' va l bx bz k0 k1 k2 k3 k4 k5 k6 false), y.w.cell? ⟨W.heap.size, 1, none⟩ = some (.int .u8 e') := fun y => y.h.k.c.q1
      have a2 : ∀ y : Wd (TR W cu e' b' t' pm' ty' rs' va l bx bz k0 k1 k2 k3 k4 k5 k6 false), y.w.cell? ⟨W.heap.size, 2, none⟩ = some (.int .u16 b') := fun y => y.h.k.c.q2
      have a3 : ∀ y : Wd (TR W cu e' b' t' pm' ty' rs' va l bx bz k0 k1 k2 k3 k4 k5 k6 false), y.w.cell? ⟨W.heap.size, 3, none⟩ = some (.int .u16 t') := fun y => y.h.k.c.q3
      have a4 : ∀ y : Wd (TR W cu e' b' t' pm' ty' rs' va l bx bz k0 k1 k2 k3 k4 k5 k6 false), y.w.cell? ⟨W.heap.size, 4, none⟩ = some (.int .u16 pm') := fun y => y.h.k.c.q4
      have a5 : ∀ y : Wd (TR W cu e' b' t' pm' ty' rs' va l bx bz k0 k1 k2 k3 k4 k5 k6 false), y.w.cell? ⟨W.heap.size, 5, none⟩ = some (.int .u16 ty') := fun y => y.h.k.c.q5
      have a6 : ∀ y : Wd (TR W cu e' b' t' pm' ty' rs' va l bx bz k0 k1 k2 k3 k4 k5 k6 false), y.w.cell? ⟨W.heap.size, 6, none⟩ = some (.int .u32 rs') := fun y => y.h.k.c.q6
      have a7 : ∀ y : Wd (TR W cu e' b' t' pm' ty' rs' va l bx bz k0 k1 k2 k3 k4 k5 k6 false), y.w.cell? ⟨W.heap.size, 7, none⟩ = some (.bool va) := fun y => y.h.k.c.q7
      have c0 : ∀ y : Wd (TR W cu e' b' t' pm' ty' rs' va l bx bz k0 k1 k2 k3 k4 k5 k6 false), y.w.cell? ⟨bx, 0, none⟩ = some (.int .u32 cu) := fun y => y.h.a.q0
      have c1 : ∀ y : Wd (TR W cu e' b' t' pm' ty' rs' va l bx bz k0 k1 k2 k3 k4 k5 k6 false), y.w.cell? ⟨bx, 1, none⟩ = some (.int .u8 e') := fun y => y.h.a.q1
      have c2 : ∀ y : Wd (TR W cu e' b' t' pm' ty' rs' va l bx bz k0 k1 k2 k3 k4 k5 k6 false), y.w.cell? ⟨bx, 2, none⟩ = some (.int .u16 b') := fun y => y.h.a.q2
      have c3 : ∀ y : Wd (TR W cu e' b' t' pm' ty' rs' va l bx bz k0 k1 k2 k3 k4 k5 k6 false), y.w.cell? ⟨bx, 3, none⟩ = some (.int .u16 t') := fun y => y.h.a.q3
      have c4 : ∀ y : Wd (TR W cu e' b' t' pm' ty' rs' va l bx bz k0 k1 k2 k3 k4 k5 k6 false), y.w.cell? ⟨bx, 4, none⟩ = some (.int .u16 pm') := fun y => y.h.a.q4
      have c5 : ∀ y : Wd (TR W cu e' b' t' pm' ty' rs' va l bx bz k0 k1 k2 k3 k4 k5 k6 false), y.w.cell? ⟨bx, 5, none⟩ = some (.int .u16 ty') := fun y => y.h.a.q5
      have c6 : ∀ y : Wd (TR W cu e' b' t' pm' ty' rs' va l bx bz k0 k1 k2 k3 k4 k5 k6 false), y.w.cell? ⟨bx, 6, none⟩ = some (.int .u32 rs') := fun y => y.h.a.q6
      have c7 : ∀ y : Wd (TR W cu e' b' t' pm' ty' rs' va l bx bz k0 k1 k2 k3 k4 k5 k6 false), y.w.cell? ⟨bx, 7, none⟩ = some (.bool va) := fun y => y.h.a.q7
      have d0 : ∀ y : Wd (TR W cu e' b' t' pm' ty' rs' va l bx bz k0 k1 k2 k3 k4 k5 k6 false), y.w.cell? ⟨bz, 0, none⟩ = some (.int .u32 k0) := fun y => y.h.c.q0
      have d1 : ∀ y : Wd (TR W cu e' b' t' pm' ty' rs' va l bx bz k0 k1 k2 k3 k4 k5 k6 false), y.w.cell? ⟨bz, 1, none⟩ = some (.int .u8 k1) := fun y => y.h.c.q1
      have d2 : ∀ y : Wd (TR W cu e' b' t' pm' ty' rs' va l bx bz k0 k1 k2 k3 k4 k5 k6 false), y.w.cell? ⟨bz, 2, none⟩ = some (.int .u16 k2) := fun y => y.h.c.q2
      have d3 : ∀ y : Wd (TR W cu e' b' t' pm' ty' rs' va l bx bz k0 k1 k2 k3 k4 k5 k6 false), y.w.cell? ⟨bz, 3, none⟩ = some (.int .u16 k3) := fun y => y.h.c.q3
      have d4 : ∀ y : Wd (TR W cu e' b' t' pm' ty' rs' va l bx bz k0 k1 k2 k3 k4 k5 k6 false), y.w.cell? ⟨bz, 4, none⟩ = some (.int .u16 k4) := fun y => y.h.c.q4
      have d5 : ∀ y : Wd (TR W cu e' b' t' pm' ty' rs' va l bx bz k0 k1 k2 k3 k4 k5 k6 false), y.w.cell? ⟨bz, 5, none⟩ = some (.int .u16 k5) := fun y => y.h.c.q5
      have d6 : ∀ y : Wd (TR W cu e' b' t' pm' ty' rs' va l bx bz k0 k1 k2 k3 k4 k5 k6 false), y.w.cell? ⟨bz, 6, none⟩ = some (.int .u32 k6) := fun y => y.h.c.q6
      have d7 : ∀ y : Wd (TR W cu e' b' t' pm' ty' rs' va l bx bz k0 k1 k2 k3 k4 k5 k6 false), y.w.cell? ⟨bz, 7, none⟩ = some (.bool false) := fun y => y.h.c.q7
      have hcv : ∀ y : Wd (TR W cu e' b' t' pm' ty' rs' va l bx bz k0 k1 k2 k3 k4 k5 k6 false), (convert 43 9 (.slice (some ⟨W.heap.size + 1, 0, none⟩) 16 16)).run Try.prog y.w = .ok (.string ⟨l.toArray⟩) y.w := fun y => by
        have hc := conv_RB 16 y.h.k.x
        rwa [hl16] at hc
      refine region_cls (TR W cu e' b' t' pm' ty' rs' va l bx bz k0 k1 k2 k3 k4 k5 k6 false) (by kernel_rfl) (by kernel_rfl) K0.drew ?_
      clear hN hB2 hN2 hS hB hO hO2 hW K0
      repeat (first
        | go_big_quiet_skip
        | (go_big_quiet_want
           go_big_quiet_op
           first
           | go_big_quiet_on
           | (apply Exists.intro
              refine ⟨fun y => ?_, ?_⟩
              · first | exact rfl | with_reducible exact fB.out y | with_reducible exact fN.out y | with_reducible exact fM.out y
              go_big_quiet_on)))
      refine wpQuiet_nil ?_
      intro y
      have hk := Lib.hid y.h.k.bl
      go_wp2
      go_ret
      exact ⟨rfl, hk.out⟩
    · replace K0 : TR W cu e' b' t' pm' ty' rs' va l bx bz k0 k1 k2 k3 k4 k5 k6 true Y := K0
      have fN := Lib.hid (cls_call (S := TR W cu e' b' t' pm' ty' rs' va l bx bz k0 k1 k2 k3 k4 k5 k6 true) fun w h => (hN.out w).mono (R' := fun ee w' => ee = .returned (.bool true) ∧ TR W cu e' b' t' pm' ty' rs' va l bx bz k0 k1 k2 k3 k4 k5 k6 true w') fun _ _ k => ⟨k.1, h.below k.2⟩)
      have fB := Lib.hid (cls_call (S := TR W cu e' b' t' pm' ty' rs' va l bx bz k0 k1 k2 k3 k4 k5 k6 true) fun w h => (hB2.out true w).mono (R' := fun ee w' => ee = .returned (.string ⟨l.toArray⟩) ∧ TR W cu e' b' t' pm' ty' rs' va l bx bz k0 k1 k2 k3 k4 k5 k6 true w') fun _ _ k => ⟨k.1, h.below k.2⟩)
      have fM := Lib.hid (cls_call (S := TR W cu e' b' t' pm' ty' rs' va l bx bz k0 k1 k2 k3 k4 k5 k6 true) fun w h => (hN2.out true w).mono (R' := fun ee w' => ee = .returned (.bool true) ∧ TR W cu e' b' t' pm' ty' rs' va l bx bz k0 k1 k2 k3 k4 k5 k6 true w') fun _ _ k => ⟨k.1, h.below k.2⟩)
      have a0 : ∀ y : Wd (TR W cu e' b' t' pm' ty' rs' va l bx bz k0 k1 k2 k3 k4 k5 k6 true), y.w.cell? ⟨W.heap.size, 0, none⟩ = some (.int .u32 cu) := fun y => y.h.k.c.q0
      have a1 : ∀ y : Wd (TR W cu e' b' t' pm' ty' rs' va l bx bz k0 k1 k2 k3 k4 k5 k6 true), y.w.cell? ⟨W.heap.size, 1, none⟩ = some (.int .u8 e') := fun y => y.h.k.c.q1
      have a2 : ∀ y : Wd (TR W cu e' b' t' pm' ty' rs' va l bx bz k0 k1 k2 k3 k4 k5 k6 true), y.w.cell? ⟨W.heap.size, 2, none⟩ = some (.int .u16 b') := fun y => y.h.k.c.q2
      have a3 : ∀ y : Wd (TR W cu e' b' t' pm' ty' rs' va l bx bz k0 k1 k2 k3 k4 k5 k6 true), y.w.cell? ⟨W.heap.size, 3, none⟩ = some (.int .u16 t') := fun y => y.h.k.c.q3
      have a4 : ∀ y : Wd (TR W cu e' b' t' pm' ty' rs' va l bx bz k0 k1 k2 k3 k4 k5 k6 true), y.w.cell? ⟨W.heap.size, 4, none⟩ = some (.int .u16 pm') := fun y => y.h.k.c.q4
      have a5 : ∀ y : Wd (TR W cu e' b' t' pm' ty' rs' va l bx bz k0 k1 k2 k3 k4 k5 k6 true), y.w.cell? ⟨W.heap.size, 5, none⟩ = some (.int .u16 ty') := fun y => y.h.k.c.q5
      have a6 : ∀ y : Wd (TR W cu e' b' t' pm' ty' rs' va l bx bz k0 k1 k2 k3 k4 k5 k6 true), y.w.cell? ⟨W.heap.size, 6, none⟩ = some (.int .u32 rs') := fun y => y.h.k.c.q6
      have a7 : ∀ y : Wd (TR W cu e' b' t' pm' ty' rs' va l bx bz k0 k1 k2 k3 k4 k5 k6 true), y.w.cell? ⟨W.heap.size, 7, none⟩ = some (.bool va) := fun y => y.h.k.c.q7
      have c0 : ∀ y : Wd (TR W cu e' b' t' pm' ty' rs' va l bx bz k0 k1 k2 k3 k4 k5 k6 true), y.w.cell? ⟨bx, 0, none⟩ = some (.int .u32 cu) := fun y => y.h.a.q0
      have c1 : ∀ y : Wd (TR W cu e' b' t' pm' ty' rs' va l bx bz k0 k1 k2 k3 k4 k5 k6 true), y.w.cell? ⟨bx, 1, none⟩ = some (.int .u8 e') := fun y => y.h.a.q1
      have c2 : ∀ y : Wd (TR W cu e' b' t' pm' ty' rs' va l bx bz k0 k1 k2 k3 k4 k5 k6 true), y.w.cell? ⟨bx, 2, none⟩ = some (.int .u16 b') := fun y => y.h.a.q2
      have c3 : ∀ y : Wd (TR W cu e' b' t' pm' ty' rs' va l bx bz k0 k1 k2 k3 k4 k5 k6 true), y.w.cell? ⟨bx, 3, none⟩ = some (.int .u16 t') := fun y => y.h.a.q3
      have c4 : ∀ y : Wd (TR W cu e' b' t' pm' ty' rs' va l bx bz k0 k1 k2 k3 k4 k5 k6 true), y.w.cell? ⟨bx, 4, none⟩ = some (.int .u16 pm') := fun y => y.h.a.q4
      have c5 : ∀ y : Wd (TR W cu e' b' t' pm' ty' rs' va l bx bz k0 k1 k2 k3 k4 k5 k6 true), y.w.cell? ⟨bx, 5, none⟩ = some (.int .u16 ty') := fun y => y.h.a.q5
      have c6 : ∀ y : Wd (TR W cu e' b' t' pm' ty' rs' va l bx bz k0 k1 k2 k3 k4 k5 k6 true), y.w.cell? ⟨bx, 6, none⟩ = some (.int .u32 rs') := fun y => y.h.a.q6
      have c7 : ∀ y : Wd (TR W cu e' b' t' pm' ty' rs' va l bx bz k0 k1 k2 k3 k4 k5 k6 true), y.w.cell? ⟨bx, 7, none⟩ = some (.bool va) := fun y => y.h.a.q7
      have d0 : ∀ y : Wd (TR W cu e' b' t' pm' ty' rs' va l bx bz k0 k1 k2 k3 k4 k5 k6 true), y.w.cell? ⟨bz, 0, none⟩ = some (.int .u32 k0) := fun y => y.h.c.q0
      have d1 : ∀ y : Wd (TR W cu e' b' t' pm' ty' rs' va l bx bz k0 k1 k2 k3 k4 k5 k6 true), y.w.cell? ⟨bz, 1, none⟩ = some (.int .u8 k1) := fun y => y.h.c.q1
      have d2 : ∀ y : Wd (TR W cu e' b' t' pm' ty' rs' va l bx bz k0 k1 k2 k3 k4 k5 k6 true), y.w.cell? ⟨bz, 2, none⟩ = some (.int .u16 k2) := fun y => y.h.c.q2
      have d3 : ∀ y : Wd (TR W cu e' b' t' pm' ty' rs' va l bx bz k0 k1 k2 k3 k4 k5 k6 true), y.w.cell? ⟨bz, 3, none⟩ = some (.int .u16 k3) := fun y => y.h.c.q3
      have d4 : ∀ y : Wd (TR W cu e' b' t' pm' ty' rs' va l bx bz k0 k1 k2 k3 k4 k5 k6 true), y.w.cell? ⟨bz, 4, none⟩ = some (.int .u16 k4) := fun y => y.h.c.q4
      have d5 : ∀ y : Wd (TR W cu e' b' t' pm' ty' rs' va l bx bz k0 k1 k2 k3 k4 k5 k6 true), y.w.cell? ⟨bz, 5, none⟩ = some (.int .u16 k5) := fun y => y.h.c.q5
      have d6 : ∀ y : Wd (TR W cu e' b' t' pm' ty' rs' va l bx bz k0 k1 k2 k3 k4 k5 k6 true), y.w.cell? ⟨bz, 6, none⟩ = some (.int .u32 k6) := fun y => y.h.c.q6
      have d7 : ∀ y : Wd (TR W cu e' b' t' pm' ty' rs' va l bx bz k0 k1 k2 k3 k4 k5 k6 true), y.w.cell? ⟨bz, 7, none⟩ = some (.bool true) := fun y => y.h.c.q7
      have hcv : ∀ y : Wd (TR W cu e' b' t' pm' ty' rs' va l bx bz k0 k1 k2 k3 k4 k5 k6 true), (convert 43 9 (.slice (some ⟨W.heap.size + 1, 0, none⟩) 16 16)).run Try.prog y.w = .ok (.string ⟨l.toArray⟩) y.w := fun y => by
        have hc := conv_RB 16 y.h.k.x
        rwa [hl16] at hc
      refine region_cls (TR W cu e' b' t' pm' ty' rs' va l bx bz k0 k1 k2 k3 k4 k5 k6 true) (by kernel_rfl) (by kernel_rfl) K0.drew ?_
      clear hN hB2 hN2 hS hB hO hO2 hW K0
      repeat (first
        | go_big_quiet_skip
        | (go_big_quiet_want
           go_big_quiet_op
           first
           | go_big_quiet_on
           | (apply Exists.intro
              refine ⟨fun y => ?_, ?_⟩
              · first | exact rfl | with_reducible exact fB.out y | with_reducible exact fN.out y | with_reducible exact fM.out y
              go_big_quiet_on)))
      refine wpQuiet_nil ?_
      intro y
      have hk := Lib.hid y.h.k.bl
      go_wp2
      go_ret
      exact ⟨rfl, hk.out⟩
end Go.Proofs.Ytikgeombccoahaa.cback
