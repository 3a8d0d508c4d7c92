/- What the laws of layer paint ask first. No statement is proved here. -/
import Derived.Test.YticfpnhfhhagpaaPtE
import Derived.Deep.DeepCutAuto
namespace Go.Proofs.Yticfpnhfhhagpaa
set_option maxRecDepth 100000
open Go.RowKit Go.Shelf
set_option linter.unusedVariables false

/-- A paint of one's own, made behind the world W. -/
structure TK (W : World) (p b wb n : Nat) (f : Nat → Bool) (w : World) : Prop where
  pt : PtAt w p b wb n f
  bel : Below W.heap.size W w
  hw : W.heap.size ≤ wb
section
variable {W w w' : World} {p b wb n : Nat} {f g : Nat → Bool}
theorem TK.grow (K : TK W p b wb n f w) (h : Below w.heap.size w w') : TK W p b wb n f w' := ⟨K.pt.grow h, K.bel.trans (h.mono K.bel.size), K.hw⟩
theorem TK.post {v : Value} {e : Ending} (K : TK W p b wb n f w) (h : PtPost p b wb n g v w e w') : e = .returned v ∧ TK W p b wb n g w' :=
  ⟨h.1, h.2.1, K.bel.trans (h.2.2.below K.bel.size K.hw), K.hw⟩
theorem taddK (K : TK W p b wb n f w) (a s : Nat) (ha : a < 4294967296) (hs : s < 4294967296) (v : Bool) (hv : okT n f a s true = v) (hg : tnF n f a s true = g) :
    Calls Try.prog 10 #[.pointer (some ⟨p, 0, none⟩), .agg #[.int .u32 a, .int .u32 s]] w fun e w' => e = .returned (.bool v) ∧ TK W p b wb n g w' := by
  subst hv hg
  exact (ptadd a s ha hs K.pt).mono fun e w' h => K.post h
theorem tremK (K : TK W p b wb n f w) (a s : Nat) (ha : a < 4294967296) (hs : s < 4294967296) (v : Bool) (hv : okT n f a s false = v) (hg : tnF n f a s false = g) :
    Calls Try.prog 12 #[.pointer (some ⟨p, 0, none⟩), .agg #[.int .u32 a, .int .u32 s]] w fun e w' => e = .returned (.bool v) ∧ TK W p b wb n g w' := by
  subst hv hg
  exact (ptrem a s ha hs K.pt).mono fun e w' h => K.post h
theorem thasK (K : TK W p b wb n f w) (a : Nat) (ha : a < 4294967296) (v : Bool) (hv : f (a / 16) = v) :
    Calls Try.prog 17 #[.pointer (some ⟨p, 0, none⟩), .int .u32 a] w fun e w' => e = .returned (.bool v) ∧ TK W p b wb n f w' := by
  subst hv
  exact (pthas K.pt a ha).mono fun e w' h => ⟨h.1, K.grow h.2⟩
theorem tcountK (K : TK W p b wb n f w) (v : Int) (hv : ((cnt f n : Nat) : Int) = v) :
    Calls Try.prog 15 #[.pointer (some ⟨p, 0, none⟩)] w fun e w' => e = .returned (.int .i64 v) ∧ TK W p b wb n f w' := by
  subst hv
  exact (ptcount K.pt).mono fun e w' h => ⟨h.1, K.grow h.2⟩
theorem tnewK (n : Nat) (w : World) (h : n ≤ 16384) (hB : Below W.heap.size W w) (v : Int) (hv : ((16 * n : Nat) : Int) = v) : Calls Try.prog 7 #[.int .i64 v] w fun e w' => ∃ p b wb, e = .returned (.pointer (some ⟨p, 0, none⟩)) ∧ TK W p b wb n (fun _ => false) w' := by
  subst hv
  exact (ptnew_yes n w h).mono fun e w' ⟨p, b, wb, k1, k2, k3, k4, k5, k6⟩ => ⟨p, b, wb, k1, k2, hB.trans (k6.mono hB.size), Nat.le_trans hB.size k5⟩
/-- And a region in a box beside it. -/
structure TQ (W : World) (p b wb n : Nat) (f : Nat → Bool) (q a s : Nat) (w : World) : Prop where
  k : TK W p b wb n f w
  r : RgAt w q a s
  ne : q ≠ wb
theorem TQ.box (K : TK W p b wb n f w) (a s : Nat) : TQ W p b wb n f w.heap.size a s (w.alloc (.cells #[.int .u32 a, .int .u32 s] 33)) :=
  ⟨K.grow ((Below.refl _ _).alloc (Nat.le_refl _) _), ⟨by simp, by simp, by simp⟩, by have := K.pt.m.lw; omega⟩
variable {q x y : Nat}
theorem TQ.grow (K : TQ W p b wb n f q x y w) (h : Below w.heap.size w w') : TQ W p b wb n f q x y w' := ⟨K.k.grow h, K.r.grow h, K.ne⟩
theorem TQ.post {v : Value} {e : Ending} (K : TQ W p b wb n f q x y w) (h : PtPost p b wb n g v w e w') : e = .returned v ∧ TQ W p b wb n g q x y w' :=
  ⟨h.1, (K.k.post h).2, K.r.keep (KpR.of_off h.2.2 K.r.l K.ne), K.ne⟩
theorem taddQ (K : TQ W p b wb n f q x y w) (a s : Nat) (ha : a < 4294967296) (hs : s < 4294967296) (v : Bool) (hv : okT n f a s true = v) (hg : tnF n f a s true = g) :
    Calls Try.prog 10 #[.pointer (some ⟨p, 0, none⟩), .agg #[.int .u32 a, .int .u32 s]] w fun e w' => e = .returned (.bool v) ∧ TQ W p b wb n g q x y w' := by
  subst hv hg
  exact (ptadd a s ha hs K.k.pt).mono fun e w' h => K.post h
theorem tremQ (K : TQ W p b wb n f q x y w) (a s : Nat) (ha : a < 4294967296) (hs : s < 4294967296) (v : Bool) (hv : okT n f a s false = v) (hg : tnF n f a s false = g) :
    Calls Try.prog 12 #[.pointer (some ⟨p, 0, none⟩), .agg #[.int .u32 a, .int .u32 s]] w fun e w' => e = .returned (.bool v) ∧ TQ W p b wb n g q x y w' := by
  subst hv hg
  exact (ptrem a s ha hs K.k.pt).mono fun e w' h => K.post h
theorem thasQ (K : TQ W p b wb n f q x y w) (a : Nat) (ha : a < 4294967296) (v : Bool) (hv : f (a / 16) = v) :
    Calls Try.prog 17 #[.pointer (some ⟨p, 0, none⟩), .int .u32 a] w fun e w' => e = .returned (.bool v) ∧ TQ W p b wb n f q x y w' := by
  subst hv
  exact (pthas K.k.pt a ha).mono fun e w' h => ⟨h.1, K.grow h.2⟩
theorem tcountQ (K : TQ W p b wb n f q x y w) (v : Int) (hv : ((cnt f n : Nat) : Int) = v) :
    Calls Try.prog 15 #[.pointer (some ⟨p, 0, none⟩)] w fun e w' => e = .returned (.int .i64 v) ∧ TQ W p b wb n f q x y w' := by
  subst hv
  exact (ptcount K.k.pt).mono fun e w' h => ⟨h.1, K.grow h.2⟩
/-- The same, and what stood at a world before stands, but for the map's words. -/
def TX (W W0 : World) (p b wb n : Nat) (f : Nat → Bool) (q x y : Nat) (w : World) : Prop := TQ W p b wb n f q x y w ∧ Off W0.heap.size wb W0 w
theorem taddX {W0 : World} (K : TX W W0 p b wb n f q x y w) (a s : Nat) (ha : a < 4294967296) (hs : s < 4294967296) (v : Bool) (hv : okT n f a s true = v) (hg : tnF n f a s true = g) :
    Calls Try.prog 10 #[.pointer (some ⟨p, 0, none⟩), .agg #[.int .u32 a, .int .u32 s]] w fun e w' => e = .returned (.bool v) ∧ TX W W0 p b wb n g q x y w' := by
  subst hv hg
  exact (ptadd a s ha hs K.1.k.pt).mono fun e w' h => ⟨(K.1.post h).1, (K.1.post h).2, K.2.trans (h.2.2.mono K.2.size)⟩
theorem tremX {W0 : World} (K : TX W W0 p b wb n f q x y w) (a s : Nat) (ha : a < 4294967296) (hs : s < 4294967296) (v : Bool) (hv : okT n f a s false = v) (hg : tnF n f a s false = g) :
    Calls Try.prog 12 #[.pointer (some ⟨p, 0, none⟩), .agg #[.int .u32 a, .int .u32 s]] w fun e w' => e = .returned (.bool v) ∧ TX W W0 p b wb n g q x y w' := by
  subst hv hg
  exact (ptrem a s ha hs K.1.k.pt).mono fun e w' h => ⟨(K.1.post h).1, (K.1.post h).2, K.2.trans (h.2.2.mono K.2.size)⟩
def TO (W W0 : World) (p b wb n : Nat) (f : Nat → Bool) (w : World) : Prop := TK W p b wb n f w ∧ Off W0.heap.size wb W0 w
theorem thasO {W0 : World} (K : TO W W0 p b wb n f w) (a : Nat) (ha : a < 4294967296) (v : Bool) (hv : f (a / 16) = v) :
    Calls Try.prog 17 #[.pointer (some ⟨p, 0, none⟩), .int .u32 a] w fun e w' => e = .returned (.bool v) ∧ TO W W0 p b wb n f w' := by
  subst hv
  exact (pthas K.1.pt a ha).mono fun e w' h => ⟨h.1, K.1.grow h.2, K.2.trans (Off.of_below (h.2.mono K.2.size))⟩
theorem TX.box {W0 : World} (K : TO W W0 p b wb n f w) (a s : Nat) : TX W W0 p b wb n f w.heap.size a s (w.alloc (.cells #[.int .u32 a, .int .u32 s] 33)) :=
  ⟨TQ.box K.1 a s, K.2.alloc K.2.size _⟩
end
def gA : Nat → Bool := fun _ => false
def gB : Nat → Bool := fun k => if 2 ≤ k ∧ k < 4 then true else gA k
def gC : Nat → Bool := fun k => if 2 ≤ k ∧ k < 4 then false else gB k
set_option maxHeartbeats 4000000 in
theorem works15_any (W : World) : Calls Try.prog 9 #[] W fun e w' => e = .returned (.bool true) ∧ Below W.heap.size W w' := by
  have q1 := Lib.hid (show okT 16 gA 32 32 true = true by decide +kernel)
  have q2 := Lib.hid (show tnF 16 gA 32 32 true = gB by unfold tnF; rw [q1.out]; rfl)
  have q3 := Lib.hid (show cnt gB 16 = 2 by decide +kernel)
  have q4 := Lib.hid (show okT 16 gB 32 32 false = true by decide +kernel)
  have q5 := Lib.hid (show tnF 16 gB 32 32 false = gC by unfold tnF; rw [q4.out]; rfl)
  have q6 := Lib.hid (show cnt gC 16 = 0 by decide +kernel)
  have q7 := Lib.hid (show gB 3 = true ∧ gB 4 = false by decide +kernel)
  have hN := Lib.hid (tnewK (W := W) 16 W (by omega) (Below.refl _ _) 256 (by rfl))
  go_enter Try.func9, Try.ntmps9
  go_wp2_with fail
  refine hN.out.mono ?_
  rintro e w1 ⟨p, b, wb, rfl, k⟩
  have K1 := Lib.hid (show TK W p b wb 16 gA w1 from k)
  clear k
  go_upto_region 3 with (fail)
  have K2 := Lib.hid (TQ.box K1.out 32 32)
  obtain ⟨q, hq⟩ : ∃ q, q = w1.heap.size := ⟨_, rfl⟩
  rw [← hq] at K2 ⊢
  clear hq
  generalize w1.alloc (.cells #[.int .u32 (32 : Nat), .int .u32 (32 : Nat)] 33) = w2 at *
  have r0 := K2.out.r.c0
  have r1 := K2.out.r.c1
  go_wp2_with fail
  refine (taddQ K2.out 32 32 (by omega) (by omega) true q1.out q2.out).mono ?_
  rintro e w3 ⟨rfl, k⟩
  have K3 := Lib.hid k
  have r0 := K3.out.r.c0
  have r1 := K3.out.r.c1
  clear k
  go_wp2_with fail
  refine (thasQ K3.out 63 (by omega) true q7.out.1).mono ?_
  rintro e w4 ⟨rfl, k⟩
  have K4 := Lib.hid k
  have r0 := K4.out.r.c0
  have r1 := K4.out.r.c1
  clear k
  go_wp2_with fail
  refine (thasQ K4.out 64 (by omega) false q7.out.2).mono ?_
  rintro e w5 ⟨rfl, k⟩
  have K5 := Lib.hid k
  have r0 := K5.out.r.c0
  have r1 := K5.out.r.c1
  clear k
  go_wp2_with fail
  refine (tcountQ K5.out 2 (by rw [q3.out]; rfl)).mono ?_
  rintro e w6 ⟨rfl, k⟩
  have K6 := Lib.hid k
  have r0 := K6.out.r.c0
  have r1 := K6.out.r.c1
  clear k
  go_wp2_with fail
  refine (tremQ K6.out 32 32 (by omega) (by omega) true q4.out q5.out).mono ?_
  rintro e w7 ⟨rfl, k⟩
  have K7 := Lib.hid k
  have r0 := K7.out.r.c0
  have r1 := K7.out.r.c1
  clear k
  go_wp2_with fail
  refine (tcountQ K7.out 0 (by rw [q6.out]; rfl)).mono ?_
  rintro e w8 ⟨rfl, k⟩
  have K8 := Lib.hid k
  have r0 := K8.out.r.c0
  have r1 := K8.out.r.c1
  clear k
  go_wp2
  go_ret
  exact ⟨rfl, K8.out.k.bel⟩
end Go.Proofs.Yticfpnhfhhagpaa
