/- What derive's calls make of capabilities, as numbers: less than there was. Plain mathematics; no statement is proved here. -/
import Derived.Test.YthniimefocjamaaDerW
import Derived.Test.YthniimefocjamaaBndN
namespace Go.Proofs.Ythniimefocjamaa
set_option linter.unusedVariables false

/-- A capability's fields. -/
structure Cp where
  cu : Nat
  e : Nat
  b : Nat
  t : Nat
  pm : Nat
  ty : Nat
  rs : Nat
  va : Bool
/-- Each field is one of its type. -/
structure Cp.fit (c : Cp) : Prop where
  l0 : c.cu < 4294967296
  l1 : c.e < 256
  l2 : c.b < 65536
  l3 : c.t < 65536
  l4 : c.pm < 65536
  l5 : c.ty < 65536
  l6 : c.rs < 4294967296
def Cp.lo (c : Cp) : Int := deB c.e c.b c.t c.cu
def Cp.hi (c : Cp) : Int := deT c.e c.b c.t c.cu
/-- Does a lie within b? -/
def Cp.inn (a b : Cp) : Bool := wiP a.pm b.pm a.lo a.hi b.lo b.hi
def Cp.free (c : Cp) : Bool := c.va && decide (c.ty = 0)
def cAddr (c : Cp) (n : Nat) : Cp := ⟨n, c.e, c.b, c.t, c.pm, c.ty, c.rs, c.va && decide (c.ty = 0) && kp c.e c.b c.t c.cu n⟩
def cAnd (c : Cp) (n : Nat) : Cp := ⟨c.cu, c.e, c.b, c.t, c.pm &&& (n % 65536), c.ty, c.rs, c.va && decide (c.ty = 0)⟩
def cSet (c : Cp) (n : Nat) : Cp := ⟨c.cu, bdE c.e c.cu n, bdB c.b c.cu n, bdT c.t c.cu n, c.pm, c.ty, c.rs, c.va && decide (c.ty = 0) && hdP c.e c.b c.t c.cu n⟩
def cExact (c : Cp) (n : Nat) : Cp := ⟨c.cu, bdE c.e c.cu n, bdB c.b c.cu n, bdT c.t c.cu n, c.pm, c.ty, c.rs, c.va && decide (c.ty = 0) && (hdP c.e c.b c.t c.cu n && enX c.cu (c.cu + n))⟩
def cSeal (c y : Cp) : Cp := ⟨c.cu, c.e, c.b, c.t, c.pm, if (c.va && decide (c.ty = 0) && (y.va && decide (y.ty = 0) && auP y.e y.b y.t y.cu y.pm y.cu 32)) then y.cu % 65536 else c.ty, c.rs, c.va && (c.va && decide (c.ty = 0) && (y.va && decide (y.ty = 0) && auP y.e y.b y.t y.cu y.pm y.cu 32))⟩
def cOpen (c y : Cp) : Cp := ⟨c.cu, c.e, c.b, c.t, c.pm, if (c.va && !decide (c.ty = 0) && (y.va && decide (y.ty = 0) && auP y.e y.b y.t y.cu y.pm c.ty 64)) then 0 else c.ty, c.rs, c.va && (c.va && !decide (c.ty = 0) && (y.va && decide (y.ty = 0) && auP y.e y.b y.t y.cu y.pm c.ty 64))⟩
def cBuild (c y : Cp) : Cp := ⟨c.cu, c.e, c.b, c.t, c.pm, c.ty, c.rs, y.va && decide (y.ty = 0) && buP c.e c.b c.t c.pm c.ty c.rs (wiP c.pm y.pm (deB c.e c.b c.t c.cu) (deT c.e c.b c.t c.cu) (deB y.e y.b y.t y.cu) (deT y.e y.b y.t y.cu))⟩
def cClear (c : Cp) : Cp := ⟨c.cu, c.e, c.b, c.t, c.pm, c.ty, c.rs, false⟩
/-- What a change makes of c. -/
def chg (what : Int) (n : Nat) (c y : Cp) : Cp :=
  if what = 0 then cAddr c n else if what = 1 then cSet c n else if what = 2 then cExact c n else if what = 3 then cAnd c n
  else if what = 4 then cSeal c y else if what = 5 then cOpen c y else if what = 6 then cBuild y c else cClear c

theorem expo_small (b t : Nat) : enE b t < 256 := by
  unfold enE
  split
  · rename_i h
    have := of_decide_eq_true h
    have := expo_le b this.2
    omega
  · omega
theorem Cp.fit.bd {c : Cp} (h : c.fit) (n : Nat) : bdE c.e c.cu n < 256 ∧ bdB c.b c.cu n < 65536 ∧ bdT c.t c.cu n < 65536 := by
  have h1 := h.l1
  have h2 := h.l2
  have h3 := h.l3
  have := expo_small c.cu (c.cu + n)
  refine ⟨?_, ?_, ?_⟩
  · unfold bdE; split <;> omega
  · unfold bdB enB; split <;> omega
  · unfold bdT enT; split <;> omega
theorem chg_fit {what : Int} {n : Nat} {c y : Cp} (h : c.fit) (k : y.fit) (hn : n < 4294967296) : (chg what n c y).fit := by
  obtain ⟨h0, h1, h2, h3, h4, h5, h6⟩ := id h
  obtain ⟨k0, k1, k2, k3, k4, k5, k6⟩ := id k
  obtain ⟨b1, b2, b3⟩ := h.bd n
  unfold chg
  split
  · exact ⟨hn, h1, h2, h3, h4, h5, h6⟩
  split
  · exact ⟨h0, b1, b2, b3, h4, h5, h6⟩
  split
  · exact ⟨h0, b1, b2, b3, h4, h5, h6⟩
  split
  · exact ⟨h0, h1, h2, h3, Nat.lt_of_le_of_lt Nat.and_le_left h4, h5, h6⟩
  split
  · refine ⟨h0, h1, h2, h3, h4, ?_, h6⟩
    show (if _ then _ else _) < 65536
    split
    · first | exact Nat.mod_lt _ (by decide) | exact (by decide : 0 < 65536)
    · exact h5
  split
  · refine ⟨h0, h1, h2, h3, h4, ?_, h6⟩
    show (if _ then _ else _) < 65536
    split
    · first | exact Nat.mod_lt _ (by decide) | exact (by decide : 0 < 65536)
    · exact h5
  split
  · exact ⟨k0, k1, k2, k3, k4, k5, k6⟩
  · exact ⟨h0, h1, h2, h3, h4, h5, h6⟩

theorem kp_same {e b t c n : Nat} (h : kp e b t c n = true) : deB e b t n = deB e b t c ∧ deT e b t n = deT e b t c := by
  rw [← kp_eq] at h
  simp only [Bool.and_eq_true, decide_eq_true_eq] at h
  unfold deB deT
  rw [h.2.2.1, h.2.2.2]
  exact ⟨rfl, rfl⟩
theorem wi_refl (pm : Nat) (x y : Int) : wiP pm pm x y x y = true := decide_eq_true ⟨Nat.and_self pm, .inr ⟨Int.le_refl _, Int.le_refl _⟩⟩
theorem and_trans {a b c : Nat} (h : a &&& b = a) (k : b &&& c = b) : a &&& c = a := by
  rw [← h, Nat.and_assoc, k]
theorem Cp.inn_trans {a b c : Cp} (h : a.inn b = true) (k : b.inn c = true) : a.inn c = true := by
  have h := of_decide_eq_true h
  have k := of_decide_eq_true k
  exact decide_eq_true ⟨and_trans h.1 k.1, by have := h.2; have := k.2; omega⟩
theorem Cp.inn_refl (c : Cp) : c.inn c = true := wi_refl _ _ _
/-- New bounds within the old ones. -/
theorem set_in {c : Cp} {n : Nat} (h : c.fit) (hh : hdP c.e c.b c.t c.cu n = true) (va : Bool) : Cp.inn ⟨c.cu, bdE c.e c.cu n, bdB c.b c.cu n, bdT c.t c.cu n, c.pm, c.ty, c.rs, va⟩ c = true := by
  unfold hdP at hh
  simp only [Bool.and_eq_true, decide_eq_true_eq] at hh
  obtain ⟨hm, hb, ht⟩ := hh
  have hm2 := of_decide_eq_true hm
  have hw := within hm2.1 hm2.2 (Nat.le_refl _) hm2.1
  have hT := tells hm2.1 hm2.2 h.l0 hw.1 hw.2
  refine decide_eq_true ⟨Nat.and_self _, .inr ?_⟩
  unfold Cp.lo Cp.hi bdE bdB bdT
  simp only [hm, if_true]
  rw [hT.1, hT.2]
  rw [rdB_of hm2.1 hm2.2] at hb
  rw [rdT_of hm2.1 hm2.2] at ht
  exact ⟨hb, ht⟩
/-- What a change makes valid lies within what it was made of, and that was valid. -/
theorem chg_less {what : Int} {n : Nat} {c y : Cp} (h : c.fit) (hv : (chg what n c y).va = true) : c.va = true ∧ (chg what n c y).inn c = true := by
  unfold chg at hv ⊢
  split
  · rename_i h0
    simp only [h0, if_true, cAddr, Bool.and_eq_true] at hv
    refine ⟨hv.1.1, ?_⟩
    unfold Cp.inn Cp.lo Cp.hi
    simp only [cAddr]
    rw [(kp_same hv.2).1, (kp_same hv.2).2]
    exact wi_refl _ _ _
  rename_i h0
  simp only [h0, if_false] at hv
  split
  · rename_i h1
    simp only [h1, if_true, cSet, Bool.and_eq_true] at hv
    exact ⟨hv.1.1, set_in h hv.2 _⟩
  rename_i h1
  simp only [h1, if_false] at hv
  split
  · rename_i h2
    simp only [h2, if_true, cExact, Bool.and_eq_true] at hv
    exact ⟨hv.1.1, set_in h hv.2.1 _⟩
  rename_i h2
  simp only [h2, if_false] at hv
  split
  · rename_i h3
    simp only [h3, if_true, cAnd, Bool.and_eq_true] at hv
    refine ⟨hv.1, decide_eq_true ⟨?_, .inr ⟨Int.le_refl _, Int.le_refl _⟩⟩⟩
    show c.pm &&& (n % 65536) &&& c.pm = _
    rw [Nat.and_comm, ← Nat.and_assoc, Nat.and_self]
    rfl
  rename_i h3
  simp only [h3, if_false] at hv
  split
  · rename_i h4
    simp only [h4, if_true, cSeal, Bool.and_eq_true] at hv
    exact ⟨hv.1, wi_refl _ _ _⟩
  rename_i h4
  simp only [h4, if_false] at hv
  split
  · rename_i h5
    simp only [h5, if_true, cOpen, Bool.and_eq_true] at hv
    exact ⟨hv.1, wi_refl _ _ _⟩
  rename_i h5
  simp only [h5, if_false] at hv
  split
  · rename_i h6
    simp only [h6, if_true, cBuild, buP, Bool.and_eq_true] at hv
    exact ⟨hv.1.1, hv.2.2⟩
  rename_i h6
  simp only [h6, if_false, cClear, Bool.false_eq_true] at hv
end Go.Proofs.Ythniimefocjamaa
