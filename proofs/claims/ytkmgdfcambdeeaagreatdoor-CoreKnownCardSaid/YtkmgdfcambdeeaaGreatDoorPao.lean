/- What derive's calls make of capabilities, as numbers: less than there was. Plain mathematics; no statement is proved here.; Frames: sixteen registers and the program's capability, as one row of cells. Plain lemmas; no statement is proved here.; Contracts of layer core: together, refusal, oneIf, sizeOf, permsOf. No statement is proved here.; Arguments by value that are made of numbers and truths alone, however nested: structs and arrays, opened to their cells. Plain lemmas over whatever program; no statement is proved here.; A slice of what is to stand in an arena: what its cells hold. Plain lemmas.; Two frames are compared (layer core). Plain lemmas; no statement is proved here.; A frame that came in as an argument. Plain lemmas; no statement is proved here. -/
import Derived.Deep.RegionHeld3
import Derived.Deep.MidRow
import Derived.LoopTactic
import Derived.Handy
import Derived.BigFrame
import Derived.Test.YtkmgdfcambdeeaaGreatDoorChecked
import Derived.Below
import Derived.ChangeSame
import Derived.ProofKit
import Derived.OpenShut
import Derived.Deep.Slices
import Derived.Deep.Strs
import Derived.Test.YtkmgdfcambdeeaaGreatDoorPaf
import Derived.Test.YtkmgdfcambdeeaaGreatDoorPab
import Derived.Test.YtkmgdfcambdeeaaGreatDoorPam
import Derived.Test.YtkmgdfcambdeeaaGreatDoorPai
import Derived.Test.YtkmgdfcambdeeaaGreatDoorPal
import Derived.Test.YtkmgdfcambdeeaaGreatDoorPaa
import Derived.Test.YtkmgdfcambdeeaaGreatDoorPak
import Derived.Test.YtkmgdfcambdeeaaGreatDoorPan
namespace Go.Proofs.YtkmgdfcambdeeaaGreatDoor
set_option linter.unusedVariables false

/-- A capability's fields. -/
structure Cp where
  cu : Nat
  e : Nat
  b : Nat
  t : Nat
  pm : Nat
  ty : Nat
  rs : Nat
  va : Bool
/-- Each field is one of its type. -/
structure Cp.fit (c : Cp) : Prop where
  l0 : c.cu < 4294967296
  l1 : c.e < 256
  l2 : c.b < 65536
  l3 : c.t < 65536
  l4 : c.pm < 65536
  l5 : c.ty < 65536
  l6 : c.rs < 4294967296
def Cp.lo (c : Cp) : Int := deB c.e c.b c.t c.cu
def Cp.hi (c : Cp) : Int := deT c.e c.b c.t c.cu
/-- Does a lie within b? -/
def Cp.inn (a b : Cp) : Bool := wiP a.pm b.pm a.lo a.hi b.lo b.hi
def Cp.free (c : Cp) : Bool := c.va && decide (c.ty = 0)
def cAddr (c : Cp) (n : Nat) : Cp := ⟨n, c.e, c.b, c.t, c.pm, c.ty, c.rs, c.va && decide (c.ty = 0) && kp c.e c.b c.t c.cu n⟩
def cAnd (c : Cp) (n : Nat) : Cp := ⟨c.cu, c.e, c.b, c.t, c.pm &&& (n % 65536), c.ty, c.rs, c.va && decide (c.ty = 0)⟩
def cSet (c : Cp) (n : Nat) : Cp := ⟨c.cu, bdE c.e c.cu n, bdB c.b c.cu n, bdT c.t c.cu n, c.pm, c.ty, c.rs, c.va && decide (c.ty = 0) && hdP c.e c.b c.t c.cu n⟩
def cExact (c : Cp) (n : Nat) : Cp := ⟨c.cu, bdE c.e c.cu n, bdB c.b c.cu n, bdT c.t c.cu n, c.pm, c.ty, c.rs, c.va && decide (c.ty = 0) && (hdP c.e c.b c.t c.cu n && enX c.cu (c.cu + n))⟩
def cSeal (c y : Cp) : Cp := ⟨c.cu, c.e, c.b, c.t, c.pm, if (c.va && decide (c.ty = 0) && (y.va && decide (y.ty = 0) && auP y.e y.b y.t y.cu y.pm y.cu 32)) then y.cu % 65536 else c.ty, c.rs, c.va && (c.va && decide (c.ty = 0) && (y.va && decide (y.ty = 0) && auP y.e y.b y.t y.cu y.pm y.cu 32))⟩
def cOpen (c y : Cp) : Cp := ⟨c.cu, c.e, c.b, c.t, c.pm, if (c.va && !decide (c.ty = 0) && (y.va && decide (y.ty = 0) && auP y.e y.b y.t y.cu y.pm c.ty 64)) then 0 else c.ty, c.rs, c.va && (c.va && !decide (c.ty = 0) && (y.va && decide (y.ty = 0) && auP y.e y.b y.t y.cu y.pm c.ty 64))⟩
def cBuild (c y : Cp) : Cp := ⟨c.cu, c.e, c.b, c.t, c.pm, c.ty, c.rs, y.va && decide (y.ty = 0) && buP c.e c.b c.t c.pm c.ty c.rs (wiP c.pm y.pm (deB c.e c.b c.t c.cu) (deT c.e c.b c.t c.cu) (deB y.e y.b y.t y.cu) (deT y.e y.b y.t y.cu))⟩
def cClear (c : Cp) : Cp := ⟨c.cu, c.e, c.b, c.t, c.pm, c.ty, c.rs, false⟩
/-- What a change makes of c. -/
def chg (what : Int) (n : Nat) (c y : Cp) : Cp :=
  if what = 0 then cAddr c n else if what = 1 then cSet c n else if what = 2 then cExact c n else if what = 3 then cAnd c n
  else if what = 4 then cSeal c y else if what = 5 then cOpen c y else if what = 6 then cBuild y c else cClear c

theorem expo_small (b t : Nat) : enE b t < 256 := by
  unfold enE
  split
  · rename_i h
    have := of_decide_eq_true h
    have := expo_le b this.2
    omega
  · omega
theorem Cp.fit.bd {c : Cp} (h : c.fit) (n : Nat) : bdE c.e c.cu n < 256 ∧ bdB c.b c.cu n < 65536 ∧ bdT c.t c.cu n < 65536 := by
  have h1 := h.l1
  have h2 := h.l2
  have h3 := h.l3
  have := expo_small c.cu (c.cu + n)
  refine ⟨?_, ?_, ?_⟩
  · unfold bdE; split <;> omega
  · unfold bdB enB; split <;> omega
  · unfold bdT enT; split <;> omega
theorem chg_fit {what : Int} {n : Nat} {c y : Cp} (h : c.fit) (k : y.fit) (hn : n < 4294967296) : (chg what n c y).fit := by
  obtain ⟨h0, h1, h2, h3, h4, h5, h6⟩ := id h
  obtain ⟨k0, k1, k2, k3, k4, k5, k6⟩ := id k
  obtain ⟨b1, b2, b3⟩ := h.bd n
  unfold chg
  split
  · exact ⟨hn, h1, h2, h3, h4, h5, h6⟩
  split
  · exact ⟨h0, b1, b2, b3, h4, h5, h6⟩
  split
  · exact ⟨h0, b1, b2, b3, h4, h5, h6⟩
  split
  · exact ⟨h0, h1, h2, h3, Nat.lt_of_le_of_lt Nat.and_le_left h4, h5, h6⟩
  split
  · refine ⟨h0, h1, h2, h3, h4, ?_, h6⟩
    show (if _ then _ else _) < 65536
    split
    · first | exact Nat.mod_lt _ (by decide) | exact (by decide : 0 < 65536)
    · exact h5
  split
  · refine ⟨h0, h1, h2, h3, h4, ?_, h6⟩
    show (if _ then _ else _) < 65536
    split
    · first | exact Nat.mod_lt _ (by decide) | exact (by decide : 0 < 65536)
    · exact h5
  split
  · exact ⟨k0, k1, k2, k3, k4, k5, k6⟩
  · exact ⟨h0, h1, h2, h3, h4, h5, h6⟩

theorem kp_same {e b t c n : Nat} (h : kp e b t c n = true) : deB e b t n = deB e b t c ∧ deT e b t n = deT e b t c := by
  rw [← kp_eq] at h
  simp only [Bool.and_eq_true, decide_eq_true_eq] at h
  unfold deB deT
  rw [h.2.2.1, h.2.2.2]
  exact ⟨rfl, rfl⟩
theorem wi_refl (pm : Nat) (x y : Int) : wiP pm pm x y x y = true := decide_eq_true ⟨Nat.and_self pm, .inr ⟨Int.le_refl _, Int.le_refl _⟩⟩
theorem and_trans {a b c : Nat} (h : a &&& b = a) (k : b &&& c = b) : a &&& c = a := by
  rw [← h, Nat.and_assoc, k]
theorem Cp.inn_trans {a b c : Cp} (h : a.inn b = true) (k : b.inn c = true) : a.inn c = true := by
  have h := of_decide_eq_true h
  have k := of_decide_eq_true k
  exact decide_eq_true ⟨and_trans h.1 k.1, by have := h.2; have := k.2; omega⟩
theorem Cp.inn_refl (c : Cp) : c.inn c = true := wi_refl _ _ _
/-- New bounds within the old ones. -/
theorem set_in {c : Cp} {n : Nat} (h : c.fit) (hh : hdP c.e c.b c.t c.cu n = true) (va : Bool) : Cp.inn ⟨c.cu, bdE c.e c.cu n, bdB c.b c.cu n, bdT c.t c.cu n, c.pm, c.ty, c.rs, va⟩ c = true := by
  unfold hdP at hh
  simp only [Bool.and_eq_true, decide_eq_true_eq] at hh
  obtain ⟨hm, hb, ht⟩ := hh
  have hm2 := of_decide_eq_true hm
  have hw := within hm2.1 hm2.2 (Nat.le_refl _) hm2.1
  have hT := tells hm2.1 hm2.2 h.l0 hw.1 hw.2
  refine decide_eq_true ⟨Nat.and_self _, .inr ?_⟩
  unfold Cp.lo Cp.hi bdE bdB bdT
  simp only [hm, if_true]
  rw [hT.1, hT.2]
  rw [rdB_of hm2.1 hm2.2] at hb
  rw [rdT_of hm2.1 hm2.2] at ht
  exact ⟨hb, ht⟩
/-- What a change makes valid lies within what it was made of, and that was valid. -/
theorem chg_less {what : Int} {n : Nat} {c y : Cp} (h : c.fit) (hv : (chg what n c y).va = true) : c.va = true ∧ (chg what n c y).inn c = true := by
  unfold chg at hv ⊢
  split
  · rename_i h0
    simp only [h0, if_true, cAddr, Bool.and_eq_true] at hv
    refine ⟨hv.1.1, ?_⟩
    unfold Cp.inn Cp.lo Cp.hi
    simp only [cAddr]
    rw [(kp_same hv.2).1, (kp_same hv.2).2]
    exact wi_refl _ _ _
  rename_i h0
  simp only [h0, if_false] at hv
  split
  · rename_i h1
    simp only [h1, if_true, cSet, Bool.and_eq_true] at hv
    exact ⟨hv.1.1, set_in h hv.2 _⟩
  rename_i h1
  simp only [h1, if_false] at hv
  split
  · rename_i h2
    simp only [h2, if_true, cExact, Bool.and_eq_true] at hv
    exact ⟨hv.1.1, set_in h hv.2.1 _⟩
  rename_i h2
  simp only [h2, if_false] at hv
  split
  · rename_i h3
    simp only [h3, if_true, cAnd, Bool.and_eq_true] at hv
    refine ⟨hv.1, decide_eq_true ⟨?_, .inr ⟨Int.le_refl _, Int.le_refl _⟩⟩⟩
    show c.pm &&& (n % 65536) &&& c.pm = _
    rw [Nat.and_comm, ← Nat.and_assoc, Nat.and_self]
    rfl
  rename_i h3
  simp only [h3, if_false] at hv
  split
  · rename_i h4
    simp only [h4, if_true, cSeal, Bool.and_eq_true] at hv
    exact ⟨hv.1, wi_refl _ _ _⟩
  rename_i h4
  simp only [h4, if_false] at hv
  split
  · rename_i h5
    simp only [h5, if_true, cOpen, Bool.and_eq_true] at hv
    exact ⟨hv.1, wi_refl _ _ _⟩
  rename_i h5
  simp only [h5, if_false] at hv
  split
  · rename_i h6
    simp only [h6, if_true, cBuild, buP, Bool.and_eq_true] at hv
    exact ⟨hv.1.1, hv.2.2⟩
  rename_i h6
  simp only [h6, if_false, cClear, Bool.false_eq_true] at hv
end Go.Proofs.YtkmgdfcambdeeaaGreatDoor
namespace Go.Proofs.YtkmgdfcambdeeaaGreatDoor
open Go.RowKit
set_option linter.unusedVariables false

/-- A capability's cells. -/
def Cp.C (c : Cp) : List Value := cv c.cu c.e c.b c.t c.pm c.ty c.rs c.va
theorem Cp.C_len (c : Cp) : c.C.length = 8 := rfl
/-- A row of capabilities, as cells. -/
def fC : List Cp → List Value
  | [] => []
  | c :: F => c.C ++ fC F
theorem fC_len : ∀ F : List Cp, (fC F).length = F.length * 8
  | [] => rfl
  | c :: F => by rw [fC, List.length_append, fC_len F, Cp.C_len, List.length_cons]; omega
theorem fC_at : ∀ (F : List Cp) (i k : Nat) (c : Cp), k < 8 → F[i]? = some c → (fC F)[i * 8 + k]? = c.C[k]?
  | [], i, k, c, hk, h => by simp at h
  | d :: F, 0, k, c, hk, h => by
    simp only [List.getElem?_cons_zero, Option.some.injEq] at h
    subst h
    rw [fC, Nat.zero_mul, Nat.zero_add, List.getElem?_append_left (by rw [Cp.C_len]; exact hk)]
  | d :: F, i + 1, k, c, hk, h => by
    rw [fC, List.getElem?_append_right (by rw [Cp.C_len]; omega), Cp.C_len, show (i + 1) * 8 + k - 8 = i * 8 + k by omega]
    exact fC_at F i k c hk (by simpa using h)
theorem fC_append (F G : List Cp) : fC (F ++ G) = fC F ++ fC G := by
  induction F with
  | nil => rfl
  | cons c F ih => rw [List.cons_append, fC, fC, ih, List.append_assoc]
theorem fC_take : ∀ (F : List Cp) (i : Nat), (fC F).take (i * 8) = fC (F.take i)
  | [], i => by simp [fC]
  | c :: F, 0 => by simp [fC]
  | c :: F, i + 1 => by
    rw [List.take_succ_cons, fC, fC, List.take_append, Cp.C_len, show (i + 1) * 8 - 8 = i * 8 by omega, fC_take F i, List.take_of_length_le (by rw [Cp.C_len]; omega)]
theorem fC_drop : ∀ (F : List Cp) (i : Nat), (fC F).drop (i * 8) = fC (F.drop i)
  | [], i => by simp [fC]
  | c :: F, 0 => by simp [fC]
  | c :: F, i + 1 => by
    rw [List.drop_succ_cons, fC, List.drop_append, Cp.C_len, show (i + 1) * 8 - 8 = i * 8 by omega, fC_drop F i, List.drop_eq_nil_of_le (by rw [Cp.C_len]; omega), List.nil_append]
theorem fC_set (F : List Cp) (i : Nat) (c : Cp) (h : i < F.length) : (fC F).take (i * 8) ++ c.C ++ (fC F).drop (i * 8 + 8) = fC (F.set i c) := by
  rw [fC_take, show i * 8 + 8 = (i + 1) * 8 by omega, fC_drop, List.set_eq_take_append_cons_drop, if_pos h, fC_append, fC]
  simp
theorem fC_one : ∀ (F : List Cp) (v : Value), v ∈ fC F → v.oneCell' = true
  | [], v, h => by simp [fC] at h
  | c :: F, v, h => by
    rw [fC] at h
    rcases List.mem_append.1 h with h | h
    · unfold Cp.C cv at h
      simp only [List.mem_cons, List.not_mem_nil, or_false] at h
      rcases h with rfl | rfl | rfl | rfl | rfl | rfl | rfl | rfl <;> rfl
    · exact fC_one F v h
/-- A capability, a frame, as values. -/
def Cp.V (c : Cp) : Value := .agg c.C.toArray
def fV (F : List Cp) : Value := .agg (fC F).toArray
/-- The frame's registers are numbers of their types. -/
structure Fit (F : List Cp) : Prop where
  len : F.length = 17
  all : ∀ c, c ∈ F → c.fit
def zC : Cp := ⟨0, 0, 0, 0, 0, 0, 0, false⟩
def reg (F : List Cp) (i : Nat) : Cp := F.getD i zC
theorem reg_get {F : List Cp} {i : Nat} (h : i < F.length) : F[i]? = some (reg F i) := by
  unfold reg
  rw [List.getD_eq_getElem?_getD, List.getElem?_eq_getElem h]; rfl
theorem Fit.reg {F : List Cp} (h : Fit F) (i : Nat) : (reg F i).fit := by
  unfold Go.Proofs.YtkmgdfcambdeeaaGreatDoor.reg
  rw [List.getD_eq_getElem?_getD]
  cases e : F[i]? with
  | none => exact ⟨by decide, by decide, by decide, by decide, by decide, by decide, by decide⟩
  | some c => exact h.all c (List.mem_of_getElem? e)
theorem Fit.set {F : List Cp} (h : Fit F) (i : Nat) {c : Cp} (hc : c.fit) : Fit (F.set i c) := ⟨by rw [List.length_set]; exact h.len, fun d hd => by
  rcases List.mem_or_eq_of_mem_set hd with hd | rfl
  · exact h.all d hd
  · exact hc⟩
section
variable {W w : World} {L : List Rw}
/-- The cells of a register. -/
theorem KR.reg (h : KR W L w) {g : Nat} {F : List Cp} (hx : (⟨g, fC F⟩ : Rw) ∈ L) {i : Nat} {c : Cp} (hc : F[i]? = some c) :
    w.cell? ⟨g, i * 8, none⟩ = some (.int .u32 c.cu) ∧ w.cell? ⟨g, i * 8 + 1, none⟩ = some (.int .u8 c.e) ∧ w.cell? ⟨g, i * 8 + 2, none⟩ = some (.int .u16 c.b) ∧ w.cell? ⟨g, i * 8 + 3, none⟩ = some (.int .u16 c.t) ∧ w.cell? ⟨g, i * 8 + 4, none⟩ = some (.int .u16 c.pm) ∧ w.cell? ⟨g, i * 8 + 5, none⟩ = some (.int .u16 c.ty) ∧ w.cell? ⟨g, i * 8 + 6, none⟩ = some (.int .u32 c.rs) ∧ w.cell? ⟨g, i * 8 + 7, none⟩ = some (.bool c.va) :=
  ⟨h.cell _ hx ((fC_at F i 0 c (by decide) hc).trans rfl), h.cell _ hx ((fC_at F i 1 c (by decide) hc).trans rfl), h.cell _ hx ((fC_at F i 2 c (by decide) hc).trans rfl), h.cell _ hx ((fC_at F i 3 c (by decide) hc).trans rfl), h.cell _ hx ((fC_at F i 4 c (by decide) hc).trans rfl), h.cell _ hx ((fC_at F i 5 c (by decide) hc).trans rfl), h.cell _ hx ((fC_at F i 6 c (by decide) hc).trans rfl), h.cell _ hx ((fC_at F i 7 c (by decide) hc).trans rfl)⟩
end
/-- A capability's box for a result. -/
def zBox : Obj := .cells #[.int .u32 0, .int .u8 0, .int .u16 0, .int .u16 0, .int .u16 0, .int .u16 0, .int .u32 0, .bool false] 25
theorem start_fc (F : List Cp) (W : World) : KR W [⟨W.heap.size + 1, zC.C⟩, ⟨W.heap.size, fC F⟩] ((W.alloc (.cells (fC F).toArray 28)).alloc (.cells #[.int .u32 0, .int .u8 0, .int .u16 0, .int .u16 0, .int .u16 0, .int .u16 0, .int .u32 0, .bool false] 25)) := by
  have := ((KR.start (W := W)).push (fC F) 28).push zC.C 25
  rw [show (W.alloc (Obj.cells (fC F).toArray 28)).heap.size = W.heap.size + 1 from by simp] at this
  exact this
/-! Rows as ranges. -/
theorem setCells_row (g : Nat) : ∀ (us : List Value) (k : Nat) (w : World), w.setCells g k us = setRow g k us w
  | [], _, _ => rfl
  | u :: us, k, w => by rw [World.setCells, setRow, setCells_row g us]
section
variable {W w : World} {L : List Rw}
theorem KR.range (h : KR W L w) {g : Nat} {vs : List Value} (hx : (⟨g, vs⟩ : Rw) ∈ L) : w.rangeAt g 0 vs := fun j v hv => by rw [Nat.zero_add]; exact h.cell _ hx hv
theorem KR.part (h : KR W L w) {g : Nat} {vs : List Value} (hx : (⟨g, vs⟩ : Rw) ∈ L) (o : Nat) (us : List Value) (hu : ∀ j u, us[j]? = some u → vs[o + j]? = some u) : w.rangeAt g o us := fun j v hv => h.cell _ hx (hu j v hv)
theorem KR.there (h : KR W L w) {g : Nat} {vs : List Value} (hx : (⟨g, vs⟩ : Rw) ∈ L) (o n : Nat) (hn : o + n ≤ vs.length) : w.there g o n := fun j hj =>
  ⟨by rw [h.cell _ hx (List.getElem?_eq_getElem (show o + j < vs.length by omega))]; rfl, h.soft hx _⟩
theorem KR.put {g : Nat} {vs : List Value} (h : KR W (⟨g, vs⟩ :: L) w) (hg : W.heap.size ≤ g) (hn : ∀ x, x ∈ L → x.g ≠ g) (k : Nat) (us : List Value) (hk : k + us.length ≤ vs.length) : KR W (⟨g, vs.take k ++ us ++ vs.drop (k + us.length)⟩ :: L) (w.setCells g k us) := by
  rw [setCells_row]
  exact KR.row us vs k w h hg hn hk
/-- A register is stored. -/
theorem KR.putF {g : Nat} {F : List Cp} (h : KR W (⟨g, fC F⟩ :: L) w) (hg : W.heap.size ≤ g) (hn : ∀ x, x ∈ L → x.g ≠ g) (i : Nat) (c : Cp) (hi : i < F.length) : KR W (⟨g, fC (F.set i c)⟩ :: L) (w.setCells g (i * 8) c.C) := by
  have := h.put hg hn (i * 8) c.C (by rw [fC_len, Cp.C_len]; omega)
  rwa [Cp.C_len, fC_set F i c hi] at this
/-- A whole row is stored. -/
theorem KR.putA {g : Nat} {vs : List Value} (us : List Value) (h : KR W (⟨g, vs⟩ :: L) w) (hg : W.heap.size ≤ g) (hn : ∀ x, x ∈ L → x.g ≠ g) (hl : us.length = vs.length) : KR W (⟨g, us⟩ :: L) (w.setCells g 0 us) := by
  rw [setCells_row]
  exact h.whole us hg hn hl
end
theorem size_fr {F : List Cp} (hl : F.length = 17) : (Tryz.prog.info? 28).map (·.size) = some (fC F).length := by rw [fC_len, hl]; kernel_rfl
theorem size_fa {F : List Cp} (hl : F.length = 17) : (Tryz.prog.info? 28).map (·.size) = some (fC F).toArray.size := by rw [List.size_toArray]; exact size_fr hl
theorem size_cp (c : Cp) : (Tryz.prog.info? 25).map (·.size) = some c.C.length := by rw [Cp.C_len]; kernel_rfl
theorem size_ca (c : Cp) : (Tryz.prog.info? 25).map (·.size) = some c.C.toArray.size := by rw [List.size_toArray]; exact size_cp c
theorem one_fr (F : List Cp) : (fC F).toArray.all (·.oneCell') = true := all_oneCell_toArray (fC_one F)
theorem one_cp (c : Cp) : c.C.toArray.all (·.oneCell') = true := all_oneCell_toArray (fun v h => fC_one [c] v (by simpa [fC] using h))
/-- A frame of noughts. -/
def zF : List Cp := List.replicate 17 zC
theorem zero_fr : Tryz.zeroCells28 = (fC zF).toArray := by kernel_rfl
theorem start_ff (F : List Cp) (W : World) : KR W [⟨W.heap.size + 1, fC zF⟩, ⟨W.heap.size, fC F⟩] ((W.alloc (.cells (fC F).toArray 28)).alloc (.cells Tryz.zeroCells28 28)) := by
  have := ((KR.start (W := W)).push (fC F) 28).push (fC zF) 28
  rw [show (W.alloc (Obj.cells (fC F).toArray 28)).heap.size = W.heap.size + 1 from by simp, ← zero_fr] at this
  exact this
theorem load_fr {W w : World} {L : List Rw} (h : KR W L w) {g : Nat} {F : List Cp} (hx : (⟨g, fC F⟩ : Rw) ∈ L) (hl : F.length = 17) : (loadVar 28 ⟨g, 0, none⟩).run Tryz.prog w = .ok (fV F) w :=
  run_loadVar_mid w g 0 _ (fC F) _ (h.range hx) Tryz.underlying28 rfl (size_fr hl)
end Go.Proofs.YtkmgdfcambdeeaaGreatDoor
namespace Go.Proofs.YtkmgdfcambdeeaaGreatDoor
set_option maxRecDepth 100000
open Go.RowKit
set_option linter.unusedVariables false
/-- Why a capability may not be used with these permissions. -/
def refT (c : Cp) (pm : Nat) : Int := if c.va = false then 1 else if c.ty ≠ 0 then 2 else if c.pm &&& pm ≠ pm then 3 else 0
theorem ptog_any (W : World) (q c : Nat) (ps : List Nat) (acc : Nat → Int) (h0 : acc 0 = 0) (hs : ∀ (j p : Nat), ps[j]? = some p → bits BinOp.or IntKind.u16 (acc j) (p : Int) = acc (j + 1)) (hc : ∀ (j p : Nat), ps[j]? = some p → W.cell? ⟨q, j, none⟩ = some (.int .u16 p)) (hl : ps.length ≤ 9223372036854775807) :
    Calls Tryz.prog 45 #[.slice (some ⟨q, 0, none⟩) ps.length c] W fun e w' => e = .returned (.int .u16 (acc ps.length)) ∧ W = w' := by
  replace hc := Lib.hid hc
  replace hs := Lib.hid hs
  go_enter Tryz.func45, Tryz.ntmps45
  go_wp2_with fail
  go_loopw [2, 7] (fun a i wr => ∃ j : Nat, j ≤ ps.length ∧ i = .int .i64 j ∧ a = .int .u16 (acc j) ∧ wr = W) (fun _ i _ => ps.length - (intOf i).toNat)
  case atStart => exact ⟨0, by omega, rfl, by rw [h0], rfl⟩
  case round =>
    obtain ⟨j, hj, rfl, rfl, rfl⟩ := hrel
    by_cases hlt : j < ps.length
    · obtain ⟨p, hp⟩ : ∃ p, ps[j]? = some p := ⟨ps[j], List.getElem?_eq_getElem hlt⟩
      have c0 := hc.out j p hp
      have s0 := hs.out j p hp
      replace s0 := Lib.hid s0
      go_wp2_with fail
      go_roundw
      case rel => exact ⟨j + 1, by omega, by go_num, by rw [s0.out], trivial⟩
      case measure => simp [intOf]; omega
    · have : j = ps.length := by omega
      subst this
      go_wp2_with fail
      go_ret
      exact ⟨rfl, rfl⟩
/-- A yes as the number 1. -/
def oneI (t : Bool) : Nat := if t then 1 else 0
theorem pone_any (t : Bool) (W : World) : Calls Tryz.prog 151 #[.bool t] W fun e w' => e = .returned (.int .u32 (oneI t)) ∧ W = w' := by
  cases t
  · go_enter Tryz.func151, Tryz.ntmps151
    go_wp2_with fail
    go_ret
    exact ⟨rfl, rfl⟩
  · go_enter Tryz.func151, Tryz.ntmps151
    go_wp2_with fail
    go_ret
    exact ⟨rfl, rfl⟩
/-- To how many bytes an operation goes. -/
def sizN (op : Int) : Nat := if op = 17 ∨ op = 20 then 1 else if op = 18 ∨ op = 21 then 2 else if op = 19 ∨ op = 22 then 4 else 16
theorem psize_any (op : Int) (W : World) : Calls Tryz.prog 80 #[.int .i64 op] W fun e w' => e = .returned (.int .u32 (sizN op)) ∧ W = w' := by
  obtain ⟨x, hx⟩ : ∃ x, x = sizN op := ⟨_, rfl⟩
  rw [← hx]
  unfold sizN at hx
  replace hx := Lib.hid hx
  go_enter Tryz.func80, Tryz.ntmps80
  go_wp2_with fail
  all_goals go_ret
  all_goals refine ⟨ret_int ?_, rfl⟩
  all_goals rw [hx.out]
  all_goals simp only [beq_iff_eq, beq_eq_false_iff_ne, ne_eq] at *
  all_goals simp_all
set_option maxHeartbeats 1000000 in
theorem pref_any (c : Cp) (hc : c.fit) (pm : Nat) (lp : pm < 65536) (W : World) : Calls Tryz.prog 44 #[c.V, .int .u16 pm] W fun e w' => e = .returned (.int .i64 (refT c pm)) ∧ Below W.heap.size W w' := by
  have eA := u16_and_nat c.pm pm hc.l4 lp
  obtain ⟨z, hz⟩ : ∃ z, z = refT c pm := ⟨_, rfl⟩
  rw [← hz]
  unfold refT at hz
  clear hc
  obtain ⟨cu, e, b, t, q, ty, rs, va⟩ := c
  unfold Cp.V Cp.C cv
  dsimp only at *
  replace hz := Lib.hid hz
  by_cases h3 : q &&& pm = pm
  · have h3' : (bits BinOp.and IntKind.u16 (q : Int) (pm : Int) == (pm : Int)) = true := by rw [eA]; simp [h3]
    clear eA
    go_enter Tryz.func44, Tryz.ntmps44
    go_wp2_with fail
    all_goals go_ret
    all_goals refine ⟨ret_int ?_, by go_grown⟩
    all_goals rw [hz.out]
    all_goals simp_all
  · have h3' : (bits BinOp.and IntKind.u16 (q : Int) (pm : Int) == (pm : Int)) = false := by rw [eA]; simp; omega
    clear eA
    go_enter Tryz.func44, Tryz.ntmps44
    go_wp2_with fail
    all_goals go_ret
    all_goals refine ⟨ret_int ?_, by go_grown⟩
    all_goals rw [hz.out]
    all_goals simp_all
end Go.Proofs.YtkmgdfcambdeeaaGreatDoor
namespace Go.Proofs.YtkmgdfcambdeeaaGreatDoor
open Go.ChangeShapes Go.WideShapes Go.RowKit
set_option linter.unusedVariables false

/-- What a cell holds: a number of a kind ('some k'), or a truth ('none'). -/
def fits : Option IntKind → Value → Prop
  | some k, u => ∃ x : Int, u = .int k x ∧ (Lit.int k x).wf = true
  | none, u => ∃ b : Bool, u = .bool b
def FitL : List (Option IntKind) → List Value → Prop
  | [], cs => cs = []
  | o :: ks, cs => ∃ (u : Value) (r : List Value), cs = u :: r ∧ fits o u ∧ FitL ks r
theorem FitL.length : ∀ {ks : List (Option IntKind)} {cs : List Value}, FitL ks cs → cs.length = ks.length
  | [], cs, h => by rw [show cs = [] from h]; rfl
  | o :: ks, cs, ⟨u, r, e, _, h⟩ => by rw [e]; simp [h.length]
theorem FitL.append : ∀ {a b : List (Option IntKind)} {c d : List Value}, FitL a c → FitL b d → FitL (a ++ b) (c ++ d)
  | [], b, c, d, h, k => by rw [show c = [] from h]; exact k
  | o :: a, b, c, d, ⟨u, r, e, f, h⟩, k => by rw [e]; exact ⟨u, r ++ d, rfl, f, h.append k⟩

/-- The fields of a struct, one behind the other from a cell on. -/
def layFields (P : Program) (g : TypeId → Option (List (Option IntKind))) : Nat → List Field → Option (List (Option IntKind))
  | _, [] => some []
  | off, f :: fs =>
    match g f.type with
    | none => none
    | some a => if f.offset = off ∧ P.cellsOf f.type = a.length then (layFields P g (off + a.length) fs).map (a ++ ·) else none
/-- The cells of a type: none, unless it is made of numbers and truths alone. -/
def layOf (P : Program) : Nat → TypeId → Option (List (Option IntKind))
  | 0, _ => none
  | d + 1, t =>
    match P.underlying t with
    | some (.int k) => some [some k]
    | some .bool => some [none]
    | some (.struct fs) =>
      match layFields P (layOf P d) 0 fs.toList with
      | none => none
      | some a => if P.cellsOf t = a.length then some a else none
    | some (.array n e) =>
      match layOf P d e with
      | none => none
      | some a => if P.cellsOf e = a.length ∧ P.cellsOf t = n * a.length then some (List.replicate n a).flatten else none
    | _ => none

section
variable {H : Type} {enc : TypeId × Value → H} {P : Program} {w : World} {base : Nat} {spare : Nat → Bool} {held : Bool}

theorem take_drop_app (cs : List Value) (a b : Nat) : (cs.drop a).take b ++ cs.drop (a + b) = cs.drop a := by
  rw [← List.drop_drop]; exact List.take_append_drop b _

theorem fields_fit {g : TypeId → Option (List (Option IntKind))} {n : Nat} {cs : List Value}
    (hg : ∀ t a cs x, g t = some a → DataW.trod enc P w base spare held n t cs = some x → FitL a cs) :
    ∀ (fs : List Field) (off : Nat) (ks : List (Option IntKind)), layFields P g off fs = some ks → (∀ f, f ∈ fs → ∃ y, DataW.trod enc P w base spare held n f.type ((cs.drop f.offset).take (P.cellsOf f.type)) = some y) →
      off + ks.length = cs.length → FitL ks (cs.drop off)
  | [], off, ks, h, _, hl => by
    have : ks = [] := by simpa [layFields] using h.symm
    subst this
    show cs.drop off = []
    exact List.drop_of_length_le (by simpa using Nat.le_of_eq hl.symm)
  | f :: fs, off, ks, h, hy, hl => by
    unfold layFields at h
    split at h
    · exact absurd h (by simp)
    · rename_i a ha
      split at h
      · rename_i hc
        obtain ⟨r, hr, rfl⟩ := Option.map_eq_some_iff.1 h
        obtain ⟨y, hy0⟩ := hy f (List.mem_cons_self)
        rw [hc.1, hc.2] at hy0
        have h1 := hg _ _ _ _ ha hy0
        have h2 := fields_fit hg fs (off + a.length) r hr (fun f' hf' => hy f' (List.mem_cons_of_mem _ hf')) (by simp at hl; omega)
        rw [← take_drop_app cs off a.length]
        exact h1.append h2
      · exact absurd h (by simp)

theorem array_fit {a : List (Option IntKind)} : ∀ (n : Nat) (cs : List Value), cs.length = n * a.length → (∀ i, i < n → FitL a ((cs.drop (i * a.length)).take a.length)) → FitL (List.replicate n a).flatten cs
  | 0, cs, hl, _ => by
    have : cs = [] := List.length_eq_zero_iff.1 (by simpa using hl)
    simpa [FitL] using this
  | n + 1, cs, hl, h => by
    rw [List.replicate_succ, List.flatten_cons]
    have h0 := h 0 (by omega)
    rw [Nat.zero_mul, List.drop_zero] at h0
    have h1 := array_fit (a := a) n (cs.drop a.length) (by rw [List.length_drop, hl, Nat.succ_mul]; omega) (fun i hi => by
      have := h (i + 1) (by omega)
      rwa [List.drop_drop, show a.length + i * a.length = (i + 1) * a.length from by rw [Nat.succ_mul]; omega])
    have := h0.append h1
    rwa [List.take_append_drop] at this

theorem lay_fit : ∀ (d : Nat) (t : TypeId) (ks : List (Option IntKind)), layOf P d t = some ks → ∀ (fuel : Nat) (cs : List Value) (x : DataW H × List MemPlace), DataW.trod enc P w base spare held fuel t cs = some x → FitL ks cs
  | 0, t, ks, h, _, _, _, _ => by simp [layOf] at h
  | d + 1, t, ks, h, fuel, cs, x, hx => by
    unfold layOf at h
    split at h
    · rename_i k hu
      obtain ⟨m, rfl, _, hw⟩ := DataW.trod_int hu hx
      have : ks = [some k] := by simpa using h.symm
      subst this
      exact ⟨_, [], rfl, ⟨m, rfl, hw⟩, rfl⟩
    · rename_i hu
      obtain ⟨b, rfl, _⟩ := DataW.trod_bool hu hx
      have : ks = [none] := by simpa using h.symm
      subst this
      exact ⟨_, [], rfl, ⟨b, rfl⟩, rfl⟩
    · rename_i fs hu
      split at h
      · exact absurd h (by simp)
      · rename_i a ha
        split at h
        · rename_i hc
          have : ks = a := by simpa using h.symm
          subst this
          obtain ⟨xs, n, rfl, _, hl, hlen, hf⟩ := DataW.trod_struct hu hx
          have := fields_fit (cs := cs) (n := n) (enc := enc) (w := w) (base := base) (spare := spare) (held := held) (fun t a cs x ht hx' => lay_fit d t a ht n cs x hx') fs.toList 0 ks ha (fun f hfm => ?_) (by rw [hl, hc]; omega)
          · simpa using this
          · obtain ⟨i, hi⟩ := List.mem_iff_getElem?.1 hfm
            have hi' : fs[i]? = some f := by simpa using hi
            have := hf i f hi'
            have hlt : i < fs.size := (Array.getElem?_eq_some_iff.1 hi').1
            rw [List.getElem?_eq_getElem (by omega)] at this
            exact ⟨_, this⟩
        · exact absurd h (by simp)
    · rename_i n e hu
      split at h
      · exact absurd h (by simp)
      · rename_i a ha
        split at h
        · rename_i hc
          have : ks = (List.replicate n a).flatten := by simpa using h.symm
          subst this
          obtain ⟨xs, m, rfl, _, hl, hlen, hi⟩ := DataW.trod_array hu hx
          refine array_fit n cs (by rw [hl, hc.2]) fun i hlt => ?_
          have := hi i hlt
          rw [List.getElem?_eq_getElem (by omega), hc.1] at this
          exact lay_fit d e a ha m _ _ this
        · exact absurd h (by simp)
    · exact absurd h (by simp)

end

/- A trial of it: this program's parts. -/
end Go.Proofs.YtkmgdfcambdeeaaGreatDoor
namespace Go.Proofs.YtkmgdfcambdeeaaGreatDoor
open Go.ChangeShapes Go.WideShapes Go.Deep Go.RowKit
set_option linter.unusedVariables false

/-- A store's row of cells. -/
def prow (at_ : Nat) (wd : Bool) (v cu e b t pm ty rs : Nat) (va : Bool) : List Value := [.int .u16 at_, .bool wd, .int .u32 v, .int .u32 cu, .int .u8 e, .int .u16 b, .int .u16 t, .int .u16 pm, .int .u16 ty, .int .u32 rs, .bool va]
/-- The slice's n elements are stores; they lie below block B. -/
def PutsIn (w : World) (B : Nat) (A : Option Addr) (n : Nat) : Prop :=
  ∀ i, i < n → ∃ bq off, A = some ⟨bq, off, none⟩ ∧ bq < B ∧ ∃ (at_ : Nat) (wd : Bool) (v cu e b t pm ty rs : Nat) (va : Bool), (at_ < 65536 ∧ v < 4294967296 ∧ cu < 4294967296 ∧ e < 256 ∧ b < 65536 ∧ t < 65536 ∧ pm < 65536 ∧ ty < 65536 ∧ rs < 4294967296) ∧
    ∀ j u, (prow at_ wd v cu e b t pm ty rs va)[j]? = some u → w.cell? ⟨bq, off + i * 11 + j, none⟩ = some u
theorem PutsIn.below {w w' : World} {B : Nat} {A : Option Addr} {n : Nat} (h : PutsIn w B A n) (hb : Below B w w') : PutsIn w' B A n := fun i hi => by
  obtain ⟨bq, off, e, hlt, at_, wd, v, cu, e', b, t, pm, ty, rs, va, h1, h3⟩ := h i hi
  exact ⟨bq, off, e, hlt, at_, wd, v, cu, e', b, t, pm, ty, rs, va, h1, fun j u hu => (hb.cell (p := ⟨bq, _, none⟩) hlt).trans (h3 j u hu)⟩
theorem cell_lt10 {w : World} {p : Addr} {v : Value} (h : w.cell? p = some v) : p.block < w.heap.size := by
  rcases Nat.lt_or_ge p.block w.heap.size with hlt | hge
  · exact hlt
  · simp [World.cell?, Array.getElem?_eq_none hge] at h

set_option maxRecDepth 100000 in
theorem puts_of {H : Type} {enc : TypeId × Value → H} {W : World} {base : Nat} {held : Bool} {r : Reach} {b0 : Nat} {v : Value} {d : DataW H} {ps : List MemPlace}
    (hv : Value.okWide Tryz.prog W r b0 31 v) (hd : DataW.Trod enc Tryz.prog W base (fun _ => true) held 31 v d ps) :
    ∃ A n cap, v = .slice A n cap ∧ n ≤ cap ∧ cap ≤ maxLen ∧ PutsIn W W.heap.size A n := by
  obtain ⟨a0, len, cap, rfl⟩ := okWide_slice Tryz.underlying31 hv
  obtain ⟨fuel, hf⟩ := hd
  rcases open_slice Tryz.underlying31 hf with ⟨hcs, _⟩ | ⟨a, l, c, m, n, D, Pl, hcs, _, hl, hm, hmm, _, hi⟩
  · simp [Value.cells] at hcs
    obtain ⟨rfl, rfl, rfl⟩ := hcs
    exact ⟨none, 0, 0, rfl, Nat.le_refl _, Nat.zero_le _, fun i hi => absurd hi (by omega)⟩
  · simp [Value.cells] at hcs
    obtain ⟨rfl, rfl, rfl⟩ := hcs
    refine ⟨some a, len, cap, rfl, hl, hm, fun i hlt => ?_⟩
    have hC : Tryz.prog.cellsOf 67 = 11 := by kernel_rfl
    obtain ⟨cs, hc, ht⟩ := hi i (by rw [hmm]; simp; omega)
    rw [hC] at hc
    obtain ⟨_, hcl, hat⟩ := World.cells?_some hc
    have hF := lay_fit 6 67 [some .u16, none, some .u32, some .u32, some .u8, some .u16, some .u16, some .u16, some .u16, some .u32, none] (by kernel_rfl) _ cs _ ht
    obtain ⟨_, _, rfl, ⟨x0, rfl, w0⟩, _, _, rfl, ⟨x1, rfl⟩, _, _, rfl, ⟨x2, rfl, w2⟩, _, _, rfl, ⟨x3, rfl, w3⟩, _, _, rfl, ⟨x4, rfl, w4⟩, _, _, rfl, ⟨x5, rfl, w5⟩, _, _, rfl, ⟨x6, rfl, w6⟩, _, _, rfl, ⟨x7, rfl, w7⟩, _, _, rfl, ⟨x8, rfl, w8⟩, _, _, rfl, ⟨x9, rfl, w9⟩, _, _, rfl, ⟨x10, rfl⟩, rfl⟩ := hF
    obtain ⟨bq, off, spot⟩ := a
    have hspot : spot = none := by
      obtain ⟨cs', hc', _⟩ := hi 0 (by rw [hmm]; simp; omega)
      rw [hC] at hc'
      obtain ⟨_, hcl', hat'⟩ := World.cells?_some hc'
      have h0 := hat' 0 (by omega)
      rw [List.getElem?_eq_getElem (by omega)] at h0
      have := World.cell?_spot h0
      simpa [Addr.add] using this
    subst hspot
    have b0 := bounds_u16 w0
    have b2 := bounds_u32 w2
    have b3 := bounds_u32 w3
    have b4 := bounds_u8 w4
    have b5 := bounds_u16 w5
    have b6 := bounds_u16 w6
    have b7 := bounds_u16 w7
    have b8 := bounds_u16 w8
    have b9 := bounds_u32 w9
    obtain ⟨x0, rfl⟩ := Int.eq_ofNat_of_zero_le b0.1
    obtain ⟨x2, rfl⟩ := Int.eq_ofNat_of_zero_le b2.1
    obtain ⟨x3, rfl⟩ := Int.eq_ofNat_of_zero_le b3.1
    obtain ⟨x4, rfl⟩ := Int.eq_ofNat_of_zero_le b4.1
    obtain ⟨x5, rfl⟩ := Int.eq_ofNat_of_zero_le b5.1
    obtain ⟨x6, rfl⟩ := Int.eq_ofNat_of_zero_le b6.1
    obtain ⟨x7, rfl⟩ := Int.eq_ofNat_of_zero_le b7.1
    obtain ⟨x8, rfl⟩ := Int.eq_ofNat_of_zero_le b8.1
    obtain ⟨x9, rfl⟩ := Int.eq_ofNat_of_zero_le b9.1
    have hcell : ∀ j u, (prow x0 x1 x2 x3 x4 x5 x6 x7 x8 x9 x10)[j]? = some u → W.cell? ⟨bq, off + i * 11 + j, none⟩ = some u := fun j u hu => by
      have hj : j < 11 := by have := (List.getElem?_eq_some_iff.1 hu).1; simpa [prow] using this
      have h1 := hat j (by omega)
      simp only [Addr.add_lit] at h1
      rw [h1]
      exact hu
    have hlt := cell_lt10 (hcell 0 _ rfl)
    exact ⟨bq, off, rfl, hlt, x0, x1, x2, x3, x4, x5, x6, x7, x8, x9, x10, ⟨by omega, by omega, by omega, by omega, by omega, by omega, by omega, by omega, by omega⟩, hcell⟩
end Go.Proofs.YtkmgdfcambdeeaaGreatDoor
namespace Go.Proofs.YtkmgdfcambdeeaaGreatDoor
open Go.RowKit
set_option linter.unusedVariables false
/-- Two arrays whose parts are alike. -/
theorem eqA_same {P : Program} {w : World} {d n len : Nat} {t elem : TypeId} {xs ys : Array Value} (hu : P.underlying t = some (.array len elem)) (hs : ∀ w, (sizeOf elem).run P w = .ok n w)
    (h : ∀ i, i < len → ∃ x y, (part elem xs (i * n)).run P w = .ok x w ∧ (part elem ys (i * n)).run P w = .ok y w ∧ (Op.equalIn d elem x y).run P w = .ok true w) :
    (Op.equalIn (d + 1) t (.agg xs) (.agg ys)).run P w = .ok true w := by
  simp only [Op.equalIn, Sem.run_bind, run_underlying hu, Result.andThen_ok, hs]
  simp only [Std.Legacy.Range.forIn_eq_forIn_range', Std.Legacy.Range.size]
  have hl : ∀ i, i ∈ List.range' 0 ((len - 0 + 1 - 1) / 1) 1 → i < len := fun i hi => by
    have := List.mem_range'.1 hi
    omega
  generalize List.range' 0 ((len - 0 + 1 - 1) / 1) 1 = l at hl ⊢
  clear hu
  induction l with
  | nil => simp
  | cons i l ih =>
    obtain ⟨x, y, h1, h2, h3⟩ := h i (hl i (List.mem_cons_self ..))
    simp only [List.forIn_cons, Sem.run_bind, h1, h2, h3, Result.andThen_ok, Bool.not_true, Bool.false_eq_true, if_false]
    simpa using ih (fun j hj => hl j (List.mem_cons_of_mem _ hj))
theorem fC_slice (F : List Cp) (i : Nat) (h : i < F.length) : ((fC F).drop (i * 8)).take 8 = (reg F i).C := by
  rw [fC_drop, List.drop_eq_getElem_cons h, fC, List.take_append_of_le_length (by rw [Cp.C_len]; exact Nat.le_refl _), List.take_of_length_le (by rw [Cp.C_len]; exact Nat.le_refl _)]
  have := reg_get h
  rw [List.getElem?_eq_getElem h, Option.some.injEq] at this
  rw [this]
theorem cp_same (d : Nat) (c : Cp) (w : World) : (Op.equalIn (d + 1 + 1) 25 c.V c.V).run Tryz.prog w = .ok true w := by
  refine (cap_eq' d c.cu c.e c.b c.t c.pm c.ty c.rs c.va c.cu c.e c.b c.t c.pm c.ty c.rs c.va w).trans ?_
  simp
theorem part_cp (xs : Array Value) (o : Nat) (w : World) : (part 25 xs o).run Tryz.prog w = .ok (.agg (xs.extract o (o + 8))) w := by kernel_rfl
theorem part_ca (xs : Array Value) (o : Nat) (w : World) : (part 26 xs o).run Tryz.prog w = .ok (.agg (xs.extract o (o + 128))) w := by kernel_rfl
/-- A frame and itself. -/
theorem fr_same (F : List Cp) (h : F.length = 17) (w : World) : (Op.equalIn 10000 28 (fV F) (fV F)).run Tryz.prog w = .ok true w := by
  unfold fV
  rw [run_equalIn_struct w 9999 28 _ _ (by kernel_rfl) (by kernel_rfl)]
  have hf : (Tryz.prog.fieldsOf 28).toList.map (fun f => (f.name, f.type, f.offset)) = [("Regs", 26, 0), ("Pc", 25, 128)] := by kernel_rfl
  generalize (Tryz.prog.fieldsOf 28).toList = fs at *
  obtain ⟨f0, fs, rfl, hf0, hf⟩ := List.map_eq_cons_iff.1 hf
  obtain ⟨f1, fs, rfl, hf1, hf⟩ := List.map_eq_cons_iff.1 hf
  obtain rfl := List.map_eq_nil_iff.1 hf
  simp only [Prod.mk.injEq] at hf0 hf1
  have hp : (.agg ((fC F).toArray.extract 128 (128 + 8)) : Value) = (reg F 16).V := by
    unfold Cp.V
    rw [← fC_slice F 16 (by omega)]
    simp
  have hq : ∀ i, i < 16 → (.agg (((fC F).toArray.extract 0 (0 + 128)).extract (i * 8) (i * 8 + 8)) : Value) = (reg F i).V := fun i hi => by
    unfold Cp.V
    rw [← fC_slice F i (by omega)]
    congr 1
    simp [List.drop_take, List.take_take]
    omega
  refine eqF_step (r := true) (s := true) hf0 (by decide) (part_ca _ _ _) (part_ca _ _ _) ?_ ?_
  · refine eqA_same (n := 8) (d := 9998) (by kernel_rfl : Tryz.prog.underlying 26 = some (.array 16 25)) (fun w => by kernel_rfl) (fun i hi => ⟨_, _, part_cp _ _ _, part_cp _ _ _, ?_⟩)
    rw [hq i hi]
    exact cp_same 9996 _ w
  · refine eqF_step (r := true) (s := true) hf1 (by decide) (part_cp _ _ _) (part_cp _ _ _) ?_ eqF_nil
    rw [hp]
    exact cp_same 9997 _ w
/-- The comparison, as an operation. -/
theorem fr_eql (F : List Cp) (h : F.length = 17) (w : World) : (binOp .eql 28 (.agg (fC F).toArray) (.agg (fC F).toArray)).run Tryz.prog w = .ok (.bool true) w := by
  rw [run_eql_struct]
  have := fr_same F h w
  unfold fV at this
  rw [this]; rfl
theorem fr_guard (F G : List Cp) (x y : Operand) (w : World) : (eqGuard .eql 28 x y (.agg (fC F).toArray) (.agg (fC G).toArray)).run Tryz.prog w = .ok () w :=
  run_eqGuard_agg w .eql 28 x y _ _ (by kernel_rfl)
theorem fr_neq (F : List Cp) (h : F.length = 17) (w : World) : (binOp .neq 28 (.agg (fC F).toArray) (.agg (fC F).toArray)).run Tryz.prog w = .ok (.bool false) w := by
  have := fr_same F h w
  unfold fV at this
  simp only [binOp, Op.equal, Op.maxDepth, Sem.run_bind, this, Result.andThen_ok]
  rfl
theorem fr_nguard (F G : List Cp) (x y : Operand) (w : World) : (eqGuard .neq 28 x y (.agg (fC F).toArray) (.agg (fC G).toArray)).run Tryz.prog w = .ok () w :=
  run_eqGuard_agg w .neq 28 x y _ _ (by kernel_rfl)
end Go.Proofs.YtkmgdfcambdeeaaGreatDoor
namespace Go.Proofs.YtkmgdfcambdeeaaGreatDoor
open Go.RowKit
set_option linter.unusedVariables false
def cpK : List (Option IntKind) := [some .u32, some .u8, some .u16, some .u16, some .u16, some .u16, some .u32, none]
def frK : List (Option IntKind) := (List.replicate 17 cpK).flatten
theorem fitL_split : ∀ {a b : List (Option IntKind)} {cs : List Value}, FitL (a ++ b) cs → ∃ c d, cs = c ++ d ∧ FitL a c ∧ FitL b d
  | [], b, cs, h => ⟨[], cs, rfl, rfl, h⟩
  | o :: a, b, cs, ⟨u, r, e, f, h⟩ => by
    obtain ⟨c, d, rfl, h1, h2⟩ := fitL_split h
    exact ⟨u :: c, d, by rw [e]; rfl, ⟨u, c, rfl, f, h1⟩, h2⟩
theorem cp_of {cs : List Value} (h : FitL cpK cs) : ∃ c : Cp, c.fit ∧ cs = c.C := by
  obtain ⟨_, _, rfl, ⟨x0, rfl, w0⟩, _, _, rfl, ⟨x1, rfl, w1⟩, _, _, rfl, ⟨x2, rfl, w2⟩, _, _, rfl, ⟨x3, rfl, w3⟩, _, _, rfl, ⟨x4, rfl, w4⟩, _, _, rfl, ⟨x5, rfl, w5⟩, _, _, rfl, ⟨x6, rfl, w6⟩, _, _, rfl, ⟨x7, rfl⟩, rfl⟩ := h
  have b0 := bounds_u32 w0
  have b1 := bounds_u8 w1
  have b2 := bounds_u16 w2
  have b3 := bounds_u16 w3
  have b4 := bounds_u16 w4
  have b5 := bounds_u16 w5
  have b6 := bounds_u32 w6
  obtain ⟨x0, rfl⟩ := Int.eq_ofNat_of_zero_le b0.1
  obtain ⟨x1, rfl⟩ := Int.eq_ofNat_of_zero_le b1.1
  obtain ⟨x2, rfl⟩ := Int.eq_ofNat_of_zero_le b2.1
  obtain ⟨x3, rfl⟩ := Int.eq_ofNat_of_zero_le b3.1
  obtain ⟨x4, rfl⟩ := Int.eq_ofNat_of_zero_le b4.1
  obtain ⟨x5, rfl⟩ := Int.eq_ofNat_of_zero_le b5.1
  obtain ⟨x6, rfl⟩ := Int.eq_ofNat_of_zero_le b6.1
  exact ⟨⟨x0, x1, x2, x3, x4, x5, x6, x7⟩, ⟨by show x0 < _; omega, by show x1 < _; omega, by show x2 < _; omega, by show x3 < _; omega, by show x4 < _; omega, by show x5 < _; omega, by show x6 < _; omega⟩, rfl⟩
theorem cps_of : ∀ (n : Nat) {cs : List Value}, FitL (List.replicate n cpK).flatten cs → ∃ F : List Cp, F.length = n ∧ (∀ c, c ∈ F → c.fit) ∧ cs = fC F
  | 0, cs, h => ⟨[], rfl, by simp, by simpa [FitL, fC] using h⟩
  | n + 1, cs, h => by
    rw [List.replicate_succ, List.flatten_cons] at h
    obtain ⟨c, d, rfl, h1, h2⟩ := fitL_split h
    obtain ⟨x, hx, rfl⟩ := cp_of h1
    obtain ⟨F, hl, hF, rfl⟩ := cps_of n h2
    exact ⟨x :: F, by simp [hl], fun y hy => by
      rcases List.mem_cons.1 hy with rfl | hy
      · exact hx
      · exact hF y hy, rfl⟩
theorem frame_of {cs : List Value} (h : FitL frK cs) : ∃ F : List Cp, Fit F ∧ cs = fC F := by
  obtain ⟨F, h1, h2, h3⟩ := cps_of 17 h
  exact ⟨F, ⟨h1, h2⟩, h3⟩
end Go.Proofs.YtkmgdfcambdeeaaGreatDoor
