/- For core. -/
import Derived.Deep.MidRow
import Derived.LoopTactic
import Derived.BigFrame
import Derived.Lib.OthersKept
import Derived.ProofKit
import Derived.OpenShut
import Derived.Deep.Slices
import Derived.Deep.Strs
import Derived.Test.YtkmgdfcambdeeaaGreatDoorQam
import Derived.Test.YtkmgdfcambdeeaaGreatDoorQao
import Derived.Test.YtkmgdfcambdeeaaGreatDoorQaq
namespace Go.Proofs.YtkmgdfcambdeeaaGreatDoor
open Lib (hid)
set_option linter.unusedVariables false
structure Cp where
 cu : Nat
 e : Nat
 b : Nat
 t : Nat
 pm : Nat
 ty : Nat
 rs : Nat
 va : Bool
structure Cp.fit (c : Cp) : Prop where
 l0 : c.cu < 4294967296
 l1 : c.e < 256
 l2 : c.b < 65536
 l3 : c.t < 65536
 l4 : c.pm < 65536
 l5 : c.ty < 65536
 l6 : c.rs < 4294967296
def Cp.lo (c : Cp) : Int := deB c.e c.b c.t c.cu
def Cp.hi (c : Cp) : Int := deT c.e c.b c.t c.cu
def cAddr (c : Cp) (n : Nat) : Cp := ⟨n, c.e, c.b, c.t, c.pm, c.ty, c.rs, c.va && decide (c.ty = 0) && kp c.e c.b c.t c.cu n⟩
def cAnd (c : Cp) (n : Nat) : Cp := ⟨c.cu, c.e, c.b, c.t, c.pm &&& (n % 65536), c.ty, c.rs, c.va && decide (c.ty = 0)⟩
def cSet (c : Cp) (n : Nat) : Cp := ⟨c.cu, bdE c.e c.cu n, bdB c.b c.cu n, bdT c.t c.cu n, c.pm, c.ty, c.rs, c.va && decide (c.ty = 0) && hdP c.e c.b c.t c.cu n⟩
def cExact (c : Cp) (n : Nat) : Cp := ⟨c.cu, bdE c.e c.cu n, bdB c.b c.cu n, bdT c.t c.cu n, c.pm, c.ty, c.rs, c.va && decide (c.ty = 0) && (hdP c.e c.b c.t c.cu n && enX c.cu (c.cu + n))⟩
def cSeal (c y : Cp) : Cp := ⟨c.cu, c.e, c.b, c.t, c.pm, if (c.va && decide (c.ty = 0) && (y.va && decide (y.ty = 0) && auP y.e y.b y.t y.cu y.pm y.cu 32)) then y.cu % 65536 else c.ty, c.rs, c.va && (c.va && decide (c.ty = 0) && (y.va && decide (y.ty = 0) && auP y.e y.b y.t y.cu y.pm y.cu 32))⟩
def cOpen (c y : Cp) : Cp := ⟨c.cu, c.e, c.b, c.t, c.pm, if (c.va && !decide (c.ty = 0) && (y.va && decide (y.ty = 0) && auP y.e y.b y.t y.cu y.pm c.ty 64)) then 0 else c.ty, c.rs, c.va && (c.va && !decide (c.ty = 0) && (y.va && decide (y.ty = 0) && auP y.e y.b y.t y.cu y.pm c.ty 64))⟩
def cBuild (c y : Cp) : Cp := ⟨c.cu, c.e, c.b, c.t, c.pm, c.ty, c.rs, y.va && decide (y.ty = 0) && buP c.e c.b c.t c.pm c.ty c.rs (wiP c.pm y.pm (deB c.e c.b c.t c.cu) (deT c.e c.b c.t c.cu) (deB y.e y.b y.t y.cu) (deT y.e y.b y.t y.cu))⟩
def cClear (c : Cp) : Cp := ⟨c.cu, c.e, c.b, c.t, c.pm, c.ty, c.rs, false⟩
def chg (what : Int) (n : Nat) (c y : Cp) : Cp :=
 if what = 0 then cAddr c n else if what = 1 then cSet c n else if what = 2 then cExact c n else if what = 3 then cAnd c n
 else if what = 4 then cSeal c y else if what = 5 then cOpen c y else if what = 6 then cBuild y c else cClear c
theorem expo_small (b t : Nat) : enE b t < 256 := by
 unfold enE
 split
 · rename_i h
   have := of_decide_eq_true h
   have := expo_le b this.2
   omega
 · omega
theorem Cp.fit.bd {c : Cp} (h : c.fit) (n : Nat) : bdE c.e c.cu n < 256 ∧ bdB c.b c.cu n < 65536 ∧ bdT c.t c.cu n < 65536 := by
 have h1 := h.l1
 have h2 := h.l2
 have h3 := h.l3
 have := expo_small c.cu (c.cu + n)
 refine ⟨?_, ?_, ?_⟩
 · unfold bdE; split <;> omega
 · unfold bdB enB; split <;> omega
 · unfold bdT enT; split <;> omega
theorem chg_fit {what : Int} {n : Nat} {c y : Cp} (h : c.fit) (k : y.fit) (hn : n < 4294967296) : (chg what n c y).fit := by
 obtain ⟨h0, h1, h2, h3, h4, h5, h6⟩ := id h
 obtain ⟨k0, k1, k2, k3, k4, k5, k6⟩ := id k
 obtain ⟨b1, b2, b3⟩ := h.bd n
 unfold chg
 split
 · exact ⟨hn, h1, h2, h3, h4, h5, h6⟩
 split
 · exact ⟨h0, b1, b2, b3, h4, h5, h6⟩
 split
 · exact ⟨h0, b1, b2, b3, h4, h5, h6⟩
 split
 · exact ⟨h0, h1, h2, h3, Nat.lt_of_le_of_lt Nat.and_le_left h4, h5, h6⟩
 split
 · refine ⟨h0, h1, h2, h3, h4, ?_, h6⟩
   show (if _ then _ else _) < 65536
   split
   · first | exact Nat.mod_lt _ (by decide) | exact (by decide : 0 < 65536)
   · exact h5
 split
 · refine ⟨h0, h1, h2, h3, h4, ?_, h6⟩
   show (if _ then _ else _) < 65536
   split
   · first | exact Nat.mod_lt _ (by decide) | exact (by decide : 0 < 65536)
   · exact h5
 split
 · exact ⟨k0, k1, k2, k3, k4, k5, k6⟩
 · exact ⟨h0, h1, h2, h3, h4, h5, h6⟩
open Go.RowKit
def Cp.C (c : Cp) : List Value := cv c.cu c.e c.b c.t c.pm c.ty c.rs c.va
theorem Cp.C_len (c : Cp) : c.C.length = 8 := rfl
def fC : List Cp → List Value
 | [] => []
 | c :: F => c.C ++ fC F
theorem fC_len : ∀ F : List Cp, (fC F).length = F.length * 8
 | [] => rfl
 | c :: F => by rw [fC, List.length_append, fC_len F, Cp.C_len, List.length_cons]; omega
theorem fC_at : ∀ (F : List Cp) (i k : Nat) (c : Cp), k < 8 → F[i]? = some c → (fC F)[i * 8 + k]? = c.C[k]?
 | [], i, k, c, hk, h => by simp at h
 | d :: F, 0, k, c, hk, h => by
   simp only [List.getElem?_cons_zero, Option.some.injEq] at h
   subst h
   rw [fC, Nat.zero_mul, Nat.zero_add, List.getElem?_append_left (by rw [Cp.C_len]; exact hk)]
 | d :: F, i + 1, k, c, hk, h => by
   rw [fC, List.getElem?_append_right (by rw [Cp.C_len]; omega), Cp.C_len, show (i + 1) * 8 + k - 8 = i * 8 + k by omega]
   exact fC_at F i k c hk (by simpa using h)
theorem fC_append (F G : List Cp) : fC (F ++ G) = fC F ++ fC G := by
 induction F with
 | nil => rfl
 | cons c F ih => rw [List.cons_append, fC, fC, ih, List.append_assoc]
theorem fC_take : ∀ (F : List Cp) (i : Nat), (fC F).take (i * 8) = fC (F.take i)
 | [], i => by simp [fC]
 | c :: F, 0 => by simp [fC]
 | c :: F, i + 1 => by
   rw [List.take_succ_cons, fC, fC, List.take_append, Cp.C_len, show (i + 1) * 8 - 8 = i * 8 by omega, fC_take F i, List.take_of_length_le (by rw [Cp.C_len]; omega)]
theorem fC_drop : ∀ (F : List Cp) (i : Nat), (fC F).drop (i * 8) = fC (F.drop i)
 | [], i => by simp [fC]
 | c :: F, 0 => by simp [fC]
 | c :: F, i + 1 => by
   rw [List.drop_succ_cons, fC, List.drop_append, Cp.C_len, show (i + 1) * 8 - 8 = i * 8 by omega, fC_drop F i, List.drop_eq_nil_of_le (by rw [Cp.C_len]; omega), List.nil_append]
theorem fC_set (F : List Cp) (i : Nat) (c : Cp) (h : i < F.length) : (fC F).take (i * 8) ++ c.C ++ (fC F).drop (i * 8 + 8) = fC (F.set i c) := by
 rw [fC_take, show i * 8 + 8 = (i + 1) * 8 by omega, fC_drop, List.set_eq_take_append_cons_drop, if_pos h, fC_append, fC]
 simp
theorem fC_one : ∀ (F : List Cp) (v : Value), v ∈ fC F → v.oneCell' = true
 | [], v, h => by simp [fC] at h
 | c :: F, v, h => by
   rw [fC] at h
   rcases List.mem_append.1 h with h | h
   · unfold Cp.C cv at h
     simp only [List.mem_cons, List.not_mem_nil, or_false] at h
     rcases h with rfl | rfl | rfl | rfl | rfl | rfl | rfl | rfl <;> rfl
   · exact fC_one F v h
def Cp.V (c : Cp) : Value := .agg c.C.toArray
def fV (F : List Cp) : Value := .agg (fC F).toArray
structure Fit (F : List Cp) : Prop where
 len : F.length = 17
 all : ∀ c, c ∈ F → c.fit
def zC : Cp := ⟨0, 0, 0, 0, 0, 0, 0, false⟩
def reg (F : List Cp) (i : Nat) : Cp := F.getD i zC
theorem reg_get {F : List Cp} {i : Nat} (h : i < F.length) : F[i]? = some (reg F i) := by
 unfold reg
 rw [List.getD_eq_getElem?_getD, List.getElem?_eq_getElem h]; rfl
theorem Fit.reg {F : List Cp} (h : Fit F) (i : Nat) : (reg F i).fit := by
 unfold Go.Proofs.YtkmgdfcambdeeaaGreatDoor.reg
 rw [List.getD_eq_getElem?_getD]
 cases e : F[i]? with
 | none => exact ⟨by decide, by decide, by decide, by decide, by decide, by decide, by decide⟩
 | some c => exact h.all c (List.mem_of_getElem? e)
theorem Fit.set {F : List Cp} (h : Fit F) (i : Nat) {c : Cp} (hc : c.fit) : Fit (F.set i c) := ⟨by rw [List.length_set]; exact h.len, fun d hd => by
 rcases List.mem_or_eq_of_mem_set hd with hd | rfl
 · exact h.all d hd
 · exact hc⟩
section
variable {W w : World} {L : List Rw}
theorem KR.reg (h : KR W L w) {g : Nat} {F : List Cp} (hx : (⟨g, fC F⟩ : Rw) ∈ L) {i : Nat} {c : Cp} (hc : F[i]? = some c) :
   w.cell? ⟨g, i * 8, none⟩ = some (.int .u32 c.cu) ∧ w.cell? ⟨g, i * 8 + 1, none⟩ = some (.int .u8 c.e) ∧ w.cell? ⟨g, i * 8 + 2, none⟩ = some (.int .u16 c.b) ∧ w.cell? ⟨g, i * 8 + 3, none⟩ = some (.int .u16 c.t) ∧ w.cell? ⟨g, i * 8 + 4, none⟩ = some (.int .u16 c.pm) ∧ w.cell? ⟨g, i * 8 + 5, none⟩ = some (.int .u16 c.ty) ∧ w.cell? ⟨g, i * 8 + 6, none⟩ = some (.int .u32 c.rs) ∧ w.cell? ⟨g, i * 8 + 7, none⟩ = some (.bool c.va) :=
 ⟨h.cell _ hx ((fC_at F i 0 c (by decide) hc).trans rfl), h.cell _ hx ((fC_at F i 1 c (by decide) hc).trans rfl), h.cell _ hx ((fC_at F i 2 c (by decide) hc).trans rfl), h.cell _ hx ((fC_at F i 3 c (by decide) hc).trans rfl), h.cell _ hx ((fC_at F i 4 c (by decide) hc).trans rfl), h.cell _ hx ((fC_at F i 5 c (by decide) hc).trans rfl), h.cell _ hx ((fC_at F i 6 c (by decide) hc).trans rfl), h.cell _ hx ((fC_at F i 7 c (by decide) hc).trans rfl)⟩
end
theorem start_fc (F : List Cp) (W : World) : KR W [⟨W.heap.size + 1, zC.C⟩, ⟨W.heap.size, fC F⟩] ((W.alloc (.cells (fC F).toArray 28)).alloc (.cells #[.int .u32 0, .int .u8 0, .int .u16 0, .int .u16 0, .int .u16 0, .int .u16 0, .int .u32 0, .bool false] 25)) := by
 have := ((KR.start (W := W)).push (fC F) 28).push zC.C 25
 rw [show (W.alloc (Obj.cells (fC F).toArray 28)).heap.size = W.heap.size + 1 from by simp] at this
 exact this
theorem setCells_row (g : Nat) : ∀ (us : List Value) (k : Nat) (w : World), w.setCells g k us = setRow g k us w
 | [], _, _ => rfl
 | u :: us, k, w => by rw [World.setCells, setRow, setCells_row g us]
section
variable {W w : World} {L : List Rw}
theorem KR.range (h : KR W L w) {g : Nat} {vs : List Value} (hx : (⟨g, vs⟩ : Rw) ∈ L) : w.rangeAt g 0 vs := fun j v hv => by rw [Nat.zero_add]; exact h.cell _ hx hv
theorem KR.there (h : KR W L w) {g : Nat} {vs : List Value} (hx : (⟨g, vs⟩ : Rw) ∈ L) (o n : Nat) (hn : o + n ≤ vs.length) : w.there g o n := fun j hj =>
 ⟨by rw [h.cell _ hx (List.getElem?_eq_getElem (show o + j < vs.length by omega))]; rfl, h.soft hx _⟩
theorem KR.put {g : Nat} {vs : List Value} (h : KR W (⟨g, vs⟩ :: L) w) (hg : W.heap.size ≤ g) (hn : ∀ x, x ∈ L → x.g ≠ g) (k : Nat) (us : List Value) (hk : k + us.length ≤ vs.length) : KR W (⟨g, vs.take k ++ us ++ vs.drop (k + us.length)⟩ :: L) (w.setCells g k us) := by
 rw [setCells_row]
 exact KR.row us vs k w h hg hn hk
theorem KR.putF {g : Nat} {F : List Cp} (h : KR W (⟨g, fC F⟩ :: L) w) (hg : W.heap.size ≤ g) (hn : ∀ x, x ∈ L → x.g ≠ g) (i : Nat) (c : Cp) (hi : i < F.length) : KR W (⟨g, fC (F.set i c)⟩ :: L) (w.setCells g (i * 8) c.C) := by
 have := h.put hg hn (i * 8) c.C (by rw [fC_len, Cp.C_len]; omega)
 rwa [Cp.C_len, fC_set F i c hi] at this
theorem KR.putA {g : Nat} {vs : List Value} (us : List Value) (h : KR W (⟨g, vs⟩ :: L) w) (hg : W.heap.size ≤ g) (hn : ∀ x, x ∈ L → x.g ≠ g) (hl : us.length = vs.length) : KR W (⟨g, us⟩ :: L) (w.setCells g 0 us) := by
 rw [setCells_row]
 exact h.whole us hg hn hl
end
theorem size_fr {F : List Cp} (hl : F.length = 17) : (Tryz.prog.info? 28).map (·.size) = some (fC F).length := by rw [fC_len, hl]; kernel_rfl
theorem size_fa {F : List Cp} (hl : F.length = 17) : (Tryz.prog.info? 28).map (·.size) = some (fC F).toArray.size := by rw [List.size_toArray]; exact size_fr hl
theorem size_cp (c : Cp) : (Tryz.prog.info? 25).map (·.size) = some c.C.length := by rw [Cp.C_len]; kernel_rfl
theorem size_ca (c : Cp) : (Tryz.prog.info? 25).map (·.size) = some c.C.toArray.size := by rw [List.size_toArray]; exact size_cp c
theorem one_fr (F : List Cp) : (fC F).toArray.all (·.oneCell') = true := all_oneCell_toArray (fC_one F)
theorem one_cp (c : Cp) : c.C.toArray.all (·.oneCell') = true := all_oneCell_toArray (fun v h => fC_one [c] v (by simpa [fC] using h))
def zF : List Cp := List.replicate 17 zC
theorem zero_fr : Tryz.zeroCells28 = (fC zF).toArray := by kernel_rfl
theorem start_ff (F : List Cp) (W : World) : KR W [⟨W.heap.size + 1, fC zF⟩, ⟨W.heap.size, fC F⟩] ((W.alloc (.cells (fC F).toArray 28)).alloc (.cells Tryz.zeroCells28 28)) := by
 have := ((KR.start (W := W)).push (fC F) 28).push (fC zF) 28
 rw [show (W.alloc (Obj.cells (fC F).toArray 28)).heap.size = W.heap.size + 1 from by simp, ← zero_fr] at this
 exact this
theorem load_fr {W w : World} {L : List Rw} (h : KR W L w) {g : Nat} {F : List Cp} (hx : (⟨g, fC F⟩ : Rw) ∈ L) (hl : F.length = 17) : (loadVar 28 ⟨g, 0, none⟩).run Tryz.prog w = .ok (fV F) w :=
 run_loadVar_mid w g 0 _ (fC F) _ (h.range hx) Tryz.underlying28 rfl (size_fr hl)
set_option maxRecDepth 100000
def refT (c : Cp) (pm : Nat) : Int := if c.va = false then 1 else if c.ty ≠ 0 then 2 else if c.pm &&& pm ≠ pm then 3 else 0
theorem ptog_any (W : World) (q c : Nat) (ps : List Nat) (acc : Nat → Int) (h0 : acc 0 = 0) (hs : ∀ (j p : Nat), ps[j]? = some p → bits BinOp.or IntKind.u16 (acc j) (p : Int) = acc (j + 1)) (hc : ∀ (j p : Nat), ps[j]? = some p → W.cell? ⟨q, j, none⟩ = some (.int .u16 p)) (hl : ps.length ≤ 9223372036854775807) :
   Calls Tryz.prog 45 #[.slice (some ⟨q, 0, none⟩) ps.length c] W fun e w' => e = .returned (.int .u16 (acc ps.length)) ∧ W = w' := by
 replace hc := hid hc
 replace hs := hid hs
 go_enter Tryz.func45, Tryz.ntmps45
 go_wp2_with fail
 go_loopw [2, 7] (fun a i wr => ∃ j : Nat, j ≤ ps.length ∧ i = .int .i64 j ∧ a = .int .u16 (acc j) ∧ wr = W) (fun _ i _ => ps.length - (intOf i).toNat)
 case atStart => exact ⟨0, by omega, rfl, by rw [h0], rfl⟩
 case round =>
   obtain ⟨j, hj, rfl, rfl, rfl⟩ := hrel
   by_cases hlt : j < ps.length
   · obtain ⟨p, hp⟩ : ∃ p, ps[j]? = some p := ⟨ps[j], List.getElem?_eq_getElem hlt⟩
     have c0 := hc.out j p hp
     have s0 := hs.out j p hp
     replace s0 := hid s0
     go_wp2_with fail
     go_roundw
     case rel => exact ⟨j + 1, by omega, by go_num, by rw [s0.out], trivial⟩
     case measure => simp [intOf]; omega
   · have : j = ps.length := by omega
     subst this
     go_wp2_with fail
     go_ret
     exact ⟨rfl, rfl⟩
def oneI (t : Bool) : Nat := if t then 1 else 0
theorem pone_any (t : Bool) (W : World) : Calls Tryz.prog 151 #[.bool t] W fun e w' => e = .returned (.int .u32 (oneI t)) ∧ W = w' := by
 cases t
 · go_enter Tryz.func151, Tryz.ntmps151
   go_wp2_with fail
   go_ret
   exact ⟨rfl, rfl⟩
 · go_enter Tryz.func151, Tryz.ntmps151
   go_wp2_with fail
   go_ret
   exact ⟨rfl, rfl⟩
def sizN (op : Int) : Nat := if op = 17 ∨ op = 20 then 1 else if op = 18 ∨ op = 21 then 2 else if op = 19 ∨ op = 22 then 4 else 16
theorem psize_any (op : Int) (W : World) : Calls Tryz.prog 80 #[.int .i64 op] W fun e w' => e = .returned (.int .u32 (sizN op)) ∧ W = w' := by
 obtain ⟨x, hx⟩ : ∃ x, x = sizN op := ⟨_, rfl⟩
 rw [← hx]
 unfold sizN at hx
 replace hx := hid hx
 go_enter Tryz.func80, Tryz.ntmps80
 go_wp2_with fail
 all_goals go_ret
 all_goals refine ⟨ret_int ?_, rfl⟩
 all_goals rw [hx.out]
 all_goals simp only [beq_iff_eq, beq_eq_false_iff_ne, ne_eq] at *
 all_goals simp_all
set_option maxHeartbeats 1000000 in
theorem pref_any (c : Cp) (hc : c.fit) (pm : Nat) (lp : pm < 65536) (W : World) : Calls Tryz.prog 44 #[c.V, .int .u16 pm] W fun e w' => e = .returned (.int .i64 (refT c pm)) ∧ Below W.heap.size W w' := by
 have eA := u16_and_nat c.pm pm hc.l4 lp
 obtain ⟨z, hz⟩ : ∃ z, z = refT c pm := ⟨_, rfl⟩
 rw [← hz]
 unfold refT at hz
 clear hc
 obtain ⟨cu, e, b, t, q, ty, rs, va⟩ := c
 unfold Cp.V Cp.C cv
 dsimp only at *
 replace hz := hid hz
 by_cases h3 : q &&& pm = pm
 · have h3' : (bits BinOp.and IntKind.u16 (q : Int) (pm : Int) == (pm : Int)) = true := by rw [eA]; simp [h3]
   clear eA
   go_enter Tryz.func44, Tryz.ntmps44
   go_wp2_with fail
   all_goals go_ret
   all_goals refine ⟨ret_int ?_, by go_grown⟩
   all_goals rw [hz.out]
   all_goals simp_all
 · have h3' : (bits BinOp.and IntKind.u16 (q : Int) (pm : Int) == (pm : Int)) = false := by rw [eA]; simp; omega
   clear eA
   go_enter Tryz.func44, Tryz.ntmps44
   go_wp2_with fail
   all_goals go_ret
   all_goals refine ⟨ret_int ?_, by go_grown⟩
   all_goals rw [hz.out]
   all_goals simp_all
def iv (i : Ins) : Value := .agg #[.int .i64 i.op, .int .i64 i.a, .int .i64 i.b, .int .i64 i.c, .int .i64 i.m]
def ir (op a b c m : Int) : List Value := [.int .i64 op, .int .i64 a, .int .i64 b, .int .i64 c, .int .i64 m]
theorem KR.set5 {W w : World} {L : List Rw} {g : Nat} {v0 v1 v2 v3 v4 : Value} (h : KR W (⟨g, [v0, v1, v2, v3, v4]⟩ :: L) w) (hg : W.heap.size ≤ g) (hn : ∀ x, x ∈ L → x.g ≠ g) (u0 u1 u2 u3 u4 : Value) :
   KR W (⟨g, [u0, u1, u2, u3, u4]⟩ :: L) (((((w.setCell ⟨g, 0, none⟩ u0).setCell ⟨g, 1, none⟩ u1).setCell ⟨g, 2, none⟩ u2).setCell ⟨g, 3, none⟩ u3).setCell ⟨g, 4, none⟩ u4) :=
 ((((h.set hg hn 0 u0 (by simp)).set hg hn 1 u1 (by simp)).set hg hn 2 u2 (by simp)).set hg hn 3 u3 (by simp)).set hg hn 4 u4 (by simp)
theorem KR.cells5 {W w : World} {L : List Rw} {g : Nat} {v0 v1 v2 v3 v4 : Value} (h : KR W L w) (hx : (⟨g, [v0, v1, v2, v3, v4]⟩ : Rw) ∈ L) :
   w.cell? ⟨g, 0, none⟩ = some v0 ∧ w.cell? ⟨g, 1, none⟩ = some v1 ∧ w.cell? ⟨g, 2, none⟩ = some v2 ∧ w.cell? ⟨g, 3, none⟩ = some v3 ∧ w.cell? ⟨g, 4, none⟩ = some v4 ∧ ∀ j, w.frozen? ⟨g, j, none⟩ = false :=
 ⟨h.cell _ hx rfl, h.cell _ hx rfl, h.cell _ hx rfl, h.cell _ hx rfl, h.cell _ hx rfl, h.soft hx⟩
def DecPost (W : World) (x : Int) (e : Ending) (w' : World) : Prop := e = .returned (iv (decW x)) ∧ Below W.heap.size W w'
theorem DecPost.mk {W w' : World} {x : Int} {i : Ins} {e : Ending} (h : i = decW x) (he : e = .returned (iv i)) (k : Below W.heap.size W w') : DecPost W x e w' := ⟨by rw [he, h], k⟩
theorem dec_no {x : Int} {i : Ins} (hr : rdW x = i) (h : mayB i = false) : Ins.zero = decW x := by
 unfold decW; rw [hr, if_neg (fun k => by rw [h] at k; cases k.1)]
theorem dec_un {x : Int} {i : Ins} (hr : rdW x = i) (h : encW i ≠ x) : Ins.zero = decW x := by
 unfold decW; rw [hr, if_neg (fun k => h k.2)]
theorem dec_yes {x : Int} {i : Ins} (hr : rdW x = i) (h : mayB i = true) (he : encW i = x) : i = decW x := by
 unfold decW; rw [hr, if_pos ⟨h, he⟩]
def EncPost (W : World) (i : Ins) (e : Ending) (w' : World) : Prop := e = .returned (.tuple #[.int .u32 (if mayB i then encW i else 0), .int .i64 (if mayB i then 0 else 2)]) ∧ Below W.heap.size W w'
theorem EncPost.yes {W w' : World} {i : Ins} {x : Int} {e : Ending} (h : mayB i = true) (hx : x = encW i) (he : e = .returned (.tuple #[.int .u32 x, .int .i64 0])) (k : Below W.heap.size W w') : EncPost W i e w' := by
 subst he hx
 unfold EncPost
 rw [h]
 exact ⟨rfl, k⟩
theorem EncPost.no {W w' : World} {i : Ins} {e : Ending} (h : mayB i = false) (he : e = .returned (.tuple #[.int .u32 0, .int .i64 2])) (k : Below W.heap.size W w') : EncPost W i e w' := by
 subst he
 unfold EncPost
 rw [h]
 exact ⟨rfl, k⟩
theorem EncPost.at_yes {W w' : World} {i : Ins} {e : Ending} (h : EncPost W i e w') (hm : mayB i = true) : e = .returned (.tuple #[.int .u32 (encW i), .int .i64 0]) ∧ Below W.heap.size W w' := by
 unfold EncPost at h
 rw [hm] at h
 exact h
theorem EncPost.at_no {W w' : World} {i : Ins} {e : Ending} (h : EncPost W i e w') (hm : mayB i = false) : e = .returned (.tuple #[.int .u32 0, .int .i64 2]) ∧ Below W.heap.size W w' := by
 unfold EncPost at h
 rw [hm] at h
 exact h
theorem ret_word {a b n : Int} (h : a = b) : Ending.returned (.tuple #[.int .u32 a, .int .i64 n]) = .returned (.tuple #[.int .u32 b, .int .i64 n]) := by rw [h]
set_option maxHeartbeats 2000000 in
theorem iREncode_any (op a b c m : Int) (W : World) : Calls Tryz.prog 120 #[.agg #[.int .i64 op, .int .i64 a, .int .i64 b, .int .i64 c, .int .i64 m]] W (EncPost W ⟨op, a, b, c, m⟩) := by
 obtain ⟨w0, hw0⟩ : ∃ w0, w0 = W.alloc (.cells #[.int .i64 op, .int .i64 a, .int .i64 b, .int .i64 c, .int .i64 m] 30) := ⟨_, rfl⟩
 have k0 : KR W [⟨W.heap.size, [.int .i64 op, .int .i64 a, .int .i64 b, .int .i64 c, .int .i64 m]⟩] w0 := hw0 ▸ KR.start.push _ _
 have hF := hid (rForm_any op)
 have hM := iMay_any op a b c m
 have hJ := has_form op 106 106 rfl
 cases hmay : mayB ⟨op, a, b, c, m⟩
 · rw [hmay] at hM
   replace hM := hid hM
   replace hmay := hid hmay
   replace k0 := hid k0
   replace hw0 := hid hw0
   go_enter Tryz.func120, Tryz.ntmps120
   go_wp2_with fail
   rw [← hw0.out]
   refine (hM.out w0).mono ?_
   rintro e w1 ⟨rfl, hb⟩
   have k1 := hid (k0.out.below hb)
   clear hb
   go_wp2_with fail
   go_ret2
   exact EncPost.no hmay.out rfl k1.out.bl
 · rw [hmay] at hM
   replace hM := hid hM
   obtain ⟨h1, h2, ha, hb, hc, hm⟩ := may_parts hmay
   have a1 := fld_in ha; have b1 := fld_in hb; have c1 := fld_in hc; have m1 := imm_in hm
   dsimp only at h1 h2 a1 b1 c1 m1
   have mm : -524288 ≤ m ∧ m ≤ 524287 := by
     obtain ⟨x1, x2, x3⟩ := m1
     by_cases e6 : (formAt op).contains 106 = true
     · exact x1 e6
     · have e6' : (formAt op).contains 106 = false := by simpa using e6
       by_cases e5 : (formAt op).contains 105 = true
       · have := x2 e6' e5; omega
       · have := x3 e6' (by simpa using e5); omega
   have hE : ∀ pj, (formAt op).contains 106 = pj → encW ⟨op, a, b, c, m⟩ = op * 16777216 + a * 1048576 + b * 65536 + c * 4096 + (if m < 0 then (if pj = true then m + 1048576 else m + 4096) else m) := fun pj e => by
     unfold encW immW; dsimp only; rw [e]
   have hR := enc_lt hmay
   have hlow : (formAt op).contains 106 = false → -2048 ≤ m := fun e6' => by
     obtain ⟨x1, x2, x3⟩ := m1
     by_cases e5 : (formAt op).contains 105 = true
     · have := x2 e6' e5; omega
     · have := x3 e6' (by simpa using e5); omega
   obtain ⟨z, hz⟩ : ∃ z, z = encW ⟨op, a, b, c, m⟩ := ⟨_, rfl⟩
   rw [← hz] at hE hR
   generalize hpj : (formAt op).contains 106 = pj at *
   replace hE := hid (hE pj rfl)
   replace hlow := hid hlow
   replace hz := hid hz
   replace hR := hid hR
   replace hpj := hid hpj
   replace hJ := hid hJ
   replace hmay := hid hmay
   replace k0 := hid k0
   replace hw0 := hid hw0
   obtain ⟨a0, a9, -⟩ := a1
   obtain ⟨b0, b9, -⟩ := b1
   obtain ⟨c0, c9, -⟩ := c1
   obtain ⟨m0, m9⟩ := mm
   clear ha hb hc hm m1
   by_cases hneg : m < 0
   · cases pj
     all_goals
       have hE' := hid hE.out
       clear hE
       go_enter Tryz.func120, Tryz.ntmps120
       go_wp2_with fail
       rw [← hw0.out]
       refine (hM.out w0).mono ?_
       rintro e w1 ⟨rfl, hb⟩
       have k1 := k0.out.below hb
       have d0 : w1.cell? ⟨W.heap.size, 0, none⟩ = some (.int .i64 op) := k1.cell _ (List.mem_cons_self ..) rfl
       have d1 : w1.cell? ⟨W.heap.size, 1, none⟩ = some (.int .i64 a) := k1.cell _ (List.mem_cons_self ..) rfl
       have d2 : w1.cell? ⟨W.heap.size, 2, none⟩ = some (.int .i64 b) := k1.cell _ (List.mem_cons_self ..) rfl
       have d3 : w1.cell? ⟨W.heap.size, 3, none⟩ = some (.int .i64 c) := k1.cell _ (List.mem_cons_self ..) rfl
       have d4 : w1.cell? ⟨W.heap.size, 4, none⟩ = some (.int .i64 m) := k1.cell _ (List.mem_cons_self ..) rfl
       replace k1 := hid k1
       clear hb k0
       go_wp2_with fail
       refine (hF.out _).mono ?_
       rintro e w' ⟨rfl, rfl⟩
       go_wp2_with fail
       refine (hJ.out _).mono ?_
       rintro e w' ⟨rfl, rfl⟩
       go_wp2_with fail
       go_ret2
       refine EncPost.yes (x := z) hmay.out hz.out (ret_word ?_) k1.out.bl
       have y1 := hE'.out
       have y2 := hR.out
       have y3 := hlow.out
       simp [hneg] at y1 y3
       omega
   · go_enter Tryz.func120, Tryz.ntmps120
     go_wp2_with fail
     rw [← hw0.out]
     refine (hM.out w0).mono ?_
     rintro e w1 ⟨rfl, hb⟩
     have k1 := k0.out.below hb
     have d0 : w1.cell? ⟨W.heap.size, 0, none⟩ = some (.int .i64 op) := k1.cell _ (List.mem_cons_self ..) rfl
     have d1 : w1.cell? ⟨W.heap.size, 1, none⟩ = some (.int .i64 a) := k1.cell _ (List.mem_cons_self ..) rfl
     have d2 : w1.cell? ⟨W.heap.size, 2, none⟩ = some (.int .i64 b) := k1.cell _ (List.mem_cons_self ..) rfl
     have d3 : w1.cell? ⟨W.heap.size, 3, none⟩ = some (.int .i64 c) := k1.cell _ (List.mem_cons_self ..) rfl
     have d4 : w1.cell? ⟨W.heap.size, 4, none⟩ = some (.int .i64 m) := k1.cell _ (List.mem_cons_self ..) rfl
     replace k1 := hid k1
     clear hb k0
     go_wp2_with fail
     go_ret2
     refine EncPost.yes (x := z) hmay.out hz.out (ret_word ?_) k1.out.bl
     have y1 := hE.out
     have y2 := hR.out
     rw [if_neg (by omega)] at y1
     omega
structure LP (W : World) (L : List Rw) (it : Nat) (s : ByteArray) (p : Nat) (w : World) : Prop where
 k : KR W L w
 i : w.heap[it]? = some (.stringIter s p)
 hi : W.heap.size ≤ it
 hn : ∀ x, x ∈ L → x.g ≠ it
section
variable {W w w' : World} {L : List Rw} {it p : Nat} {s : ByteArray}
theorem LP.lt (h : LP W L it s p w) : it < w.heap.size := (Array.getElem?_eq_some_iff.1 h.i).1
theorem LP.start (h : KR W L w) (s : ByteArray) : LP W L w.heap.size s 0 (w.iter s 0) :=
 ⟨h.alloc _, World.iter_heap w s 0, h.bl.size, fun x hx => Nat.ne_of_lt (h.al x hx).1⟩
theorem LP.below (h : LP W L it s p w) (k : Below w.heap.size w w') : LP W L it s p w' := ⟨h.k.below k, (k.block it h.lt).trans h.i, h.hi, h.hn⟩
theorem cell_iterAt (w : World) (it : Nat) (s : ByteArray) (p g j : Nat) (h : g ≠ it) : (w.iterAt it s p).cell? ⟨g, j, none⟩ = w.cell? ⟨g, j, none⟩ := by
 simp [World.cell?, Lib.iterAt_other _ _ _ _ _ h]
theorem frozen_iterAt (w : World) (it : Nat) (s : ByteArray) (p g j : Nat) (h : g ≠ it) : (w.iterAt it s p).frozen? ⟨g, j, none⟩ = w.frozen? ⟨g, j, none⟩ := by
 simp [World.frozen?, Lib.iterAt_other _ _ _ _ _ h]
theorem LP.next (h : LP W L it s p w) (p' : Nat) : LP W L it s p' (w.iterAt it s p') :=
 ⟨⟨Lib.below_iterAt h.k.bl h.hi s p', fun x hx => ⟨by rw [Lib.iterAt_size]; exact (h.k.al x hx).1, fun j => (frozen_iterAt w it s p' x.g j (h.hn x hx)).trans ((h.k.al x hx).2.1 j), fun j u hu => (cell_iterAt w it s p' x.g j (h.hn x hx)).trans ((h.k.al x hx).2.2 j u hu)⟩⟩,
   Lib.iterAt_heap w it s p p' h.i, h.hi, h.hn⟩
theorem LP.swap {a b : Rw} (h : LP W (a :: b :: L) it s p w) : LP W (b :: a :: L) it s p w := ⟨h.k.swap, h.i, h.hi, fun x hx => h.hn x (by
 rcases List.mem_cons.1 hx with rfl | hx
 · exact List.mem_cons_of_mem _ (List.mem_cons_self ..)
 · rcases List.mem_cons.1 hx with rfl | hx
   · exact List.mem_cons_self ..
   · exact List.mem_cons_of_mem _ (List.mem_cons_of_mem _ hx))⟩
theorem LP.set {g : Nat} {vs : List Value} (h : LP W (⟨g, vs⟩ :: L) it s p w) (hg : W.heap.size ≤ g) (hd : ∀ x, x ∈ L → x.g ≠ g) (j : Nat) (u : Value) (hj : j < vs.length) : LP W (⟨g, vs.set j u⟩ :: L) it s p (w.setCell ⟨g, j, none⟩ u) :=
 ⟨h.k.set hg hd j u hj, by rw [Below.heap_setCell _ _ _ _ (fun e => h.hn _ (List.mem_cons_self ..) e.symm)]; exact h.i, h.hi, fun x hx => by
   rcases List.mem_cons.1 hx with rfl | hx
   · exact h.hn (⟨g, vs⟩ : Rw) (List.mem_cons_self ..)
   · exact h.hn x (List.mem_cons_of_mem _ hx)⟩
theorem LP.sto {g : Nat} {x u : Value} (h : LP W (⟨g, [x]⟩ :: L) it s p w) (hg : W.heap.size ≤ g) (hd : ∀ x, x ∈ L → x.g ≠ g) (k : Sto w g u w') : LP W (⟨g, [u]⟩ :: L) it s p w' :=
 let ⟨w1, k1, k2⟩ := k
 ((h.below k1).set hg hd 0 u (by simp)).below (by rw [World.size_setCell]; exact k2)
theorem LP.pos (h : LP W L it s p w) : w.iterPos it = p := by simp [World.iterPos, h.i]
end
theorem next_at {P : Program} {w : World} {it : Nat} {l : List UInt8} {p : Nat} (ch : UInt8) (n : Int) (hi : w.heap[it]? = some (.stringIter ⟨l.toArray⟩ p)) (hp : p < l.length) (hc : ch = l[p]) (hn : n = (ch.toNat : Int)) (hs : ch.toNat < 128) :
   ∀ ty, (Instr.next (.pointer (some ⟨it, 0, none⟩)) true ty).run P w = .ok (.tuple #[.bool true, .int .i64 p, .int .i32 n]) (w.iterAt it ⟨l.toArray⟩ (p + 1)) := fun ty => by
 have hz : p < (⟨l.toArray⟩ : ByteArray).size := by simpa [ByteArray.size] using hp
 have e : (⟨l.toArray⟩ : ByteArray)[p]'hz = l[p] := by
   show l.toArray[p]'(by simpa using hp) = l[p]
   simp
 have := Lib.run_next_ascii_at (P := P) w it ⟨l.toArray⟩ p ty hi hz (by rw [e, ← hc]; exact hs)
 rw [e, ← hc, ← hn] at this
 exact this
theorem next_end {P : Program} {w : World} {it : Nat} {l : List UInt8} {p : Nat} (hi : w.heap[it]? = some (.stringIter ⟨l.toArray⟩ p)) (hp : ¬ p < l.length) :
   ∀ ty, (Instr.next (.pointer (some ⟨it, 0, none⟩)) true ty).run P w = .ok (.tuple #[.bool false]) w := fun ty =>
 Lib.run_next_end_at (P := P) w it ⟨l.toArray⟩ p ty hi (by simpa [ByteArray.size] using hp)
theorem form_letters (op : Int) : ∀ x, x ∈ formAt op → x = 97 ∨ x = 98 ∨ x = 99 ∨ x = 105 ∨ x = 106 := by
 rcases form_cases op with h | h | h | h | h | h | h <;> rw [h] <;> decide
structure DSt where
 a : Int
 b : Int
 c : Int
 m : Int
 r : Int
def tkS (t : DSt) (x : UInt8) : DSt :=
 if x = 97 then { t with a := t.r / 1048576 % 16, r := t.r - t.r / 1048576 % 16 * 1048576 }
 else if x = 98 then { t with b := t.r / 65536 % 16, r := t.r - t.r / 65536 % 16 * 65536 }
 else if x = 99 then { t with c := t.r / 4096 % 16, r := t.r - t.r / 4096 % 16 * 4096 }
 else if x = 105 then { t with m := sx 4096 2048 (t.r % 4096), r := t.r - t.r % 4096 }
 else { t with m := sx 1048576 524288 (t.r % 1048576), r := t.r - t.r % 1048576 }
theorem tkS_low {t : DSt} (x : UInt8) (h : 0 ≤ t.r ∧ t.r < 4294967296) : 0 ≤ (tkS t x).r ∧ (tkS t x).r < 4294967296 := by
 unfold tkS
 repeat' split
 all_goals (dsimp only; omega)
theorem tk_low (l : List UInt8) : ∀ {t : DSt}, 0 ≤ t.r ∧ t.r < 4294967296 → 0 ≤ (l.foldl tkS t).r ∧ (l.foldl tkS t).r < 4294967296 := by
 induction l with
 | nil => exact fun h => h
 | cons x l ih => exact fun h => ih (tkS_low x h)
theorem fold_snoc {α β : Type} (f : β → α → β) (z : β) (l : List α) (p : Nat) (h : p < l.length) : (l.take (p + 1)).foldl f z = f ((l.take p).foldl f z) l[p] := by
 rw [List.take_succ_eq_append_getElem h, List.foldl_append]; rfl
def decP (x : Int) : Ins :=
 let t := (formAt (x / 16777216 % 256)).foldl tkS ⟨0, 0, 0, 0, x - x / 16777216 % 256 * 16777216⟩
 if (1 ≤ x / 16777216 % 256 ∧ x / 16777216 % 256 ≤ 53) ∧ t.r = 0 then ⟨x / 16777216 % 256, t.a, t.b, t.c, t.m⟩ else Ins.zero
theorem dec_yes' {i : Ins} {x : Int} (h : mayB i = true) (e : encW i = x) : decW x = i := by rw [← e, dec_enc h]
theorem rd_op (y : Int) : (rdW y).op = y / 16777216 := by unfold rdW; split <;> rfl
theorem enc_op {i : Ins} (h : mayB i = true) : encW i / 16777216 = i.op := by rw [← rd_op, rd_enc h]
set_option maxHeartbeats 4000000 in
theorem decP_is (x : Int) (h0 : 0 ≤ x) (h1 : x < 4294967296) : decP x = decW x := by
 have hop : x / 16777216 % 256 = x / 16777216 := by omega
 unfold decP
 rw [hop]
 dsimp only
 by_cases hin : 1 ≤ x / 16777216 ∧ x / 16777216 ≤ 53
 · by_cases hr : ((formAt (x / 16777216)).foldl tkS ⟨0, 0, 0, 0, x - x / 16777216 * 16777216⟩).r = 0
   · rw [if_pos ⟨hin, hr⟩]
     refine (dec_yes' ?_ ?_).symm
     · refine imay_of ⟨hin.1, hin.2, ?_⟩
       dsimp only
       rcases form_cases (x / 16777216) with e | e | e | e | e | e | e <;> rw [e] at hr ⊢ <;> simp [tkS, fldB, immB, sx] at hr ⊢ <;> (try split) <;> omega
     · unfold encW immW
       dsimp only
       rcases form_cases (x / 16777216) with e | e | e | e | e | e | e <;> rw [e] at hr ⊢ <;> simp [tkS, sx] at hr ⊢ <;> (repeat' split) <;> omega
   · rw [if_neg (fun k => hr k.2)]
     rcases decW_zero_or x with h | ⟨hm, he⟩
     · exact h.symm
     · exfalso
       apply hr
       have hod := enc_op hm
       rw [he] at hod
       generalize decW x = d at *
       obtain ⟨op, a, b, c, m⟩ := d
       obtain ⟨k1, k2, ha, hb, hc, hmm⟩ := may_parts hm
       have a1 := fld_in ha; have b1 := fld_in hb; have c1 := fld_in hc; have m1 := imm_in hmm
       dsimp only at hod a1 b1 c1 m1
       rw [hod]
       unfold encW immW at he
       dsimp only at he
       clear hr hm ha hb hc hmm
       rcases form_cases op with e | e | e | e | e | e | e <;> rw [e] at a1 b1 c1 m1 he ⊢ <;> simp [tkS] at a1 b1 c1 m1 he ⊢ <;> (split at he <;> omega)
 · rw [if_neg (fun k => hin k.1)]
   rcases decW_zero_or x with h | ⟨hm, he⟩
   · exact h.symm
   · exfalso
     have hod := enc_op hm
     rw [he] at hod
     obtain ⟨k1, k2, -⟩ := may_parts hm
     omega
theorem ins_eq' (d : Nat) (op a b c m op' a' b' c' m' : Int) (w : World) :
   (Op.equalIn (d + 1 + 1) 30 (.agg #[.int .i64 op, .int .i64 a, .int .i64 b, .int .i64 c, .int .i64 m]) (.agg #[.int .i64 op', .int .i64 a', .int .i64 b', .int .i64 c', .int .i64 m'])).run Tryz.prog w = .ok ((op == op') && ((a == a') && ((b == b') && ((c == c') && ((m == m') && true))))) w := by
 rw [run_equalIn_struct w (d + 1) 30 _ _ (by kernel_rfl) (by kernel_rfl)]
 have hf : (Tryz.prog.fieldsOf 30).toList.map (fun f => (f.name, f.type, f.offset)) = [("Op", 3, 0), ("A", 3, 1), ("B", 3, 2), ("C", 3, 3), ("Imm", 3, 4)] := by kernel_rfl
 have i64 : ∀ (x y : Int) w, (Op.equalIn (d + 1) 3 (.int .i64 x) (.int .i64 y)).run Tryz.prog w = .ok (x == y) w := fun x y w => run_equalIn_int w d 3 .i64 .i64 x y (by kernel_rfl)
 generalize (Tryz.prog.fieldsOf 30).toList = fs at *
 obtain ⟨f0, fs, rfl, hf0, hf⟩ := List.map_eq_cons_iff.1 hf
 obtain ⟨f1, fs, rfl, hf1, hf⟩ := List.map_eq_cons_iff.1 hf
 obtain ⟨f2, fs, rfl, hf2, hf⟩ := List.map_eq_cons_iff.1 hf
 obtain ⟨f3, fs, rfl, hf3, hf⟩ := List.map_eq_cons_iff.1 hf
 obtain ⟨f4, fs, rfl, hf4, hf⟩ := List.map_eq_cons_iff.1 hf
 obtain rfl := List.map_eq_nil_iff.1 hf
 simp only [Prod.mk.injEq] at hf0 hf1 hf2 hf3 hf4
 refine eqF_step hf0 (by decide) (by kernel_rfl) (by kernel_rfl) (i64 _ _ _) ?_
 refine eqF_step hf1 (by decide) (by kernel_rfl) (by kernel_rfl) (i64 _ _ _) ?_
 refine eqF_step hf2 (by decide) (by kernel_rfl) (by kernel_rfl) (i64 _ _ _) ?_
 refine eqF_step hf3 (by decide) (by kernel_rfl) (by kernel_rfl) (i64 _ _ _) ?_
 exact eqF_step hf4 (by decide) (by kernel_rfl) (by kernel_rfl) (i64 _ _ _) eqF_nil
theorem ins_eq (i j : Ins) (w : World) : (Op.equalIn 10000 30 (iv i) (iv j)).run Tryz.prog w = .ok (decide (i = j)) w := by
 obtain ⟨op, a, b, c, m⟩ := i
 obtain ⟨op', a', b', c', m'⟩ := j
 have := ins_eq' 9998 op a b c m op' a' b' c' m' w
 rw [show decide ((⟨op, a, b, c, m⟩ : Ins) = ⟨op', a', b', c', m'⟩) = ((op == op') && ((a == a') && ((b == b') && ((c == c') && ((m == m') && true))))) from by
   rw [Bool.eq_iff_iff]; simp [Ins.mk.injEq]]
 exact this
def ptS (i : Ins) (w : Int) (x : UInt8) : Int :=
 if x = 97 then bits .or .u32 w (i.a % 16 * 1048576)
 else if x = 98 then bits .or .u32 w (i.b % 16 * 65536)
 else if x = 99 then bits .or .u32 w (i.c % 16 * 4096)
 else if x = 105 then bits .or .u32 w (i.m % 4096)
 else bits .or .u32 w (i.m % 1048576)
def encP (i : Ins) : Int := (formAt i.op).foldl (ptS i) (bits .or .u32 0 (i.op % 256 * 16777216))
theorem orJ (k : Nat) (x y : Int) (hx : x % 2 ^ k = 0) (h0 : 0 ≤ x) (h1 : x < 4294967296) (h2 : 0 ≤ y) (h3 : y < 2 ^ k) (h4 : y < 4294967296) : bits .or .u32 x y = x + y :=
 bits_join .u32 32 (by decide) wraps_u32b k x y h0 hx h1 h2 h3 h4
theorem or0 (y : Int) (h2 : 0 ≤ y) (h3 : y < 4294967296) : bits .or .u32 0 y = y := by
 have := orJ 32 0 y (by decide) (by decide) (by decide) h2 (by simpa using h3) h3
 simpa using this
theorem or24 (x y : Int) (hx : x % 16777216 = 0) (h0 : 0 ≤ x) (h1 : x < 4294967296) (h2 : 0 ≤ y) (h3 : y < 16777216) : bits .or .u32 x y = x + y := orJ 24 x y hx h0 h1 h2 h3 (by omega)
theorem or20 (x y : Int) (hx : x % 1048576 = 0) (h0 : 0 ≤ x) (h1 : x < 4294967296) (h2 : 0 ≤ y) (h3 : y < 1048576) : bits .or .u32 x y = x + y := orJ 20 x y hx h0 h1 h2 h3 (by omega)
theorem or16 (x y : Int) (hx : x % 65536 = 0) (h0 : 0 ≤ x) (h1 : x < 4294967296) (h2 : 0 ≤ y) (h3 : y < 65536) : bits .or .u32 x y = x + y := orJ 16 x y hx h0 h1 h2 h3 (by omega)
set_option maxHeartbeats 4000000 in
theorem encP_val (i : Ins) : 0 ≤ encP i ∧ encP i < 4294967296 ∧ (mayB i = true → encP i = encW i) := by
 have low : ∀ {x y : Int}, 0 ≤ bits .or .u32 x y ∧ bits .or .u32 x y < 4294967296 := fun {x y} => by
   show 0 ≤ IntKind.u32.wrap _ ∧ IntKind.u32.wrap _ < 4294967296
   rw [IntKind.wrap_u32]
   omega
 refine ⟨?_, ?_, fun h => ?_⟩
 · unfold encP
   rcases form_cases i.op with e | e | e | e | e | e | e <;> rw [e] <;> simp only [List.foldl, ptS] <;> (try simp) <;> exact low.1
 · unfold encP
   rcases form_cases i.op with e | e | e | e | e | e | e <;> rw [e] <;> simp only [List.foldl, ptS] <;> (try simp) <;> exact low.2
 · obtain ⟨h1, h2, ha, hb, hc, hm⟩ := may_parts h
   have a1 := fld_in ha; have b1 := fld_in hb; have c1 := fld_in hc; have m1 := imm_in hm
   unfold encP encW immW
   obtain ⟨op, a, b, c, m⟩ := i
   dsimp only at *
   rw [or0 _ (by omega) (by omega)]
   rcases form_cases op with e | e | e | e | e | e | e <;> rw [e] at a1 b1 c1 m1 ⊢ <;> simp only [List.foldl, ptS] <;> simp at a1 b1 c1 m1 ⊢
   · split <;> omega
   · rw [or24 (op % 256 * 16777216) (a % 16 * 1048576) (by omega) (by omega) (by omega) (by omega) (by omega), or20 _ _ (by omega) (by omega) (by omega) (by omega) (by omega)]
     split <;> omega
   · rw [or24 (op % 256 * 16777216) (a % 16 * 1048576) (by omega) (by omega) (by omega) (by omega) (by omega), or20 _ _ (by omega) (by omega) (by omega) (by omega) (by omega)]
     split <;> omega
   · rw [or24 (op % 256 * 16777216) (a % 16 * 1048576) (by omega) (by omega) (by omega) (by omega) (by omega), or20 _ (b % 16 * 65536) (by omega) (by omega) (by omega) (by omega) (by omega), or16 _ _ (by omega) (by omega) (by omega) (by omega) (by omega)]
     split <;> omega
   · rw [or24 (op % 256 * 16777216) (a % 16 * 1048576) (by omega) (by omega) (by omega) (by omega) (by omega), or20 _ (b % 16 * 65536) (by omega) (by omega) (by omega) (by omega) (by omega), or16 _ _ (by omega) (by omega) (by omega) (by omega) (by omega)]
     split <;> omega
   · rw [or24 (op % 256 * 16777216) (a % 16 * 1048576) (by omega) (by omega) (by omega) (by omega) (by omega), or20 _ _ (by omega) (by omega) (by omega) (by omega) (by omega)]
     split <;> omega
   · rw [or24 _ _ (by omega) (by omega) (by omega) (by omega) (by omega)]
     split <;> omega
theorem enc_test {i : Ins} (h0 : i.op ≠ 0) : decide (decW (encP i) = i) = mayB i := by
 rw [Bool.eq_iff_iff, decide_eq_true_iff]
 constructor
 · intro h
   rcases decW_zero_or (encP i) with k | k
   · rw [k] at h; rw [← h] at h0; exact absurd rfl h0
   · rw [← h]; exact k.1
 · intro h
   rw [(encP_val i).2.2 h, dec_enc h]
end Go.Proofs.YtkmgdfcambdeeaaGreatDoor
namespace Go.Proofs.YtkmgdfcambdeeaaGreatDoor
open Lib (hid)
open Go.ChangeShapes Go.WideShapes Go.RowKit
set_option linter.unusedVariables false
def fits : Option IntKind → Value → Prop
 | some k, u => ∃ x : Int, u = .int k x ∧ (Lit.int k x).wf = true
 | none, u => ∃ b : Bool, u = .bool b
def FitL : List (Option IntKind) → List Value → Prop
 | [], cs => cs = []
 | o :: ks, cs => ∃ (u : Value) (r : List Value), cs = u :: r ∧ fits o u ∧ FitL ks r
theorem FitL.length : ∀ {ks : List (Option IntKind)} {cs : List Value}, FitL ks cs → cs.length = ks.length
 | [], cs, h => by rw [show cs = [] from h]; rfl
 | o :: ks, cs, ⟨u, r, e, _, h⟩ => by rw [e]; simp [h.length]
theorem FitL.append : ∀ {a b : List (Option IntKind)} {c d : List Value}, FitL a c → FitL b d → FitL (a ++ b) (c ++ d)
 | [], b, c, d, h, k => by rw [show c = [] from h]; exact k
 | o :: a, b, c, d, ⟨u, r, e, f, h⟩, k => by rw [e]; exact ⟨u, r ++ d, rfl, f, h.append k⟩
def layFields (P : Program) (g : TypeId → Option (List (Option IntKind))) : Nat → List Field → Option (List (Option IntKind))
 | _, [] => some []
 | off, f :: fs =>
   match g f.type with
   | none => none
   | some a => if f.offset = off ∧ P.cellsOf f.type = a.length then (layFields P g (off + a.length) fs).map (a ++ ·) else none
def layOf (P : Program) : Nat → TypeId → Option (List (Option IntKind))
 | 0, _ => none
 | d + 1, t =>
   match P.underlying t with
   | some (.int k) => some [some k]
   | some .bool => some [none]
   | some (.struct fs) =>
     match layFields P (layOf P d) 0 fs.toList with
     | none => none
     | some a => if P.cellsOf t = a.length then some a else none
   | some (.array n e) =>
     match layOf P d e with
     | none => none
     | some a => if P.cellsOf e = a.length ∧ P.cellsOf t = n * a.length then some (List.replicate n a).flatten else none
   | _ => none
section
variable {H : Type} {enc : TypeId × Value → H} {P : Program} {w : World} {base : Nat} {spare : Nat → Bool} {held : Bool}
theorem take_drop_app (cs : List Value) (a b : Nat) : (cs.drop a).take b ++ cs.drop (a + b) = cs.drop a := by
 rw [← List.drop_drop]; exact List.take_append_drop b _
theorem fields_fit {g : TypeId → Option (List (Option IntKind))} {n : Nat} {cs : List Value}
   (hg : ∀ t a cs x, g t = some a → DataW.trod enc P w base spare held n t cs = some x → FitL a cs) :
   ∀ (fs : List Field) (off : Nat) (ks : List (Option IntKind)), layFields P g off fs = some ks → (∀ f, f ∈ fs → ∃ y, DataW.trod enc P w base spare held n f.type ((cs.drop f.offset).take (P.cellsOf f.type)) = some y) →
     off + ks.length = cs.length → FitL ks (cs.drop off)
 | [], off, ks, h, _, hl => by
   have : ks = [] := by simpa [layFields] using h.symm
   subst this
   show cs.drop off = []
   exact List.drop_of_length_le (by simpa using Nat.le_of_eq hl.symm)
 | f :: fs, off, ks, h, hy, hl => by
   unfold layFields at h
   split at h
   · exact absurd h (by simp)
   · rename_i a ha
     split at h
     · rename_i hc
       obtain ⟨r, hr, rfl⟩ := Option.map_eq_some_iff.1 h
       obtain ⟨y, hy0⟩ := hy f (List.mem_cons_self)
       rw [hc.1, hc.2] at hy0
       have h1 := hg _ _ _ _ ha hy0
       have h2 := fields_fit hg fs (off + a.length) r hr (fun f' hf' => hy f' (List.mem_cons_of_mem _ hf')) (by simp at hl; omega)
       rw [← take_drop_app cs off a.length]
       exact h1.append h2
     · exact absurd h (by simp)
theorem array_fit {a : List (Option IntKind)} : ∀ (n : Nat) (cs : List Value), cs.length = n * a.length → (∀ i, i < n → FitL a ((cs.drop (i * a.length)).take a.length)) → FitL (List.replicate n a).flatten cs
 | 0, cs, hl, _ => by
   have : cs = [] := List.length_eq_zero_iff.1 (by simpa using hl)
   simpa [FitL] using this
 | n + 1, cs, hl, h => by
   rw [List.replicate_succ, List.flatten_cons]
   have h0 := h 0 (by omega)
   rw [Nat.zero_mul, List.drop_zero] at h0
   have h1 := array_fit (a := a) n (cs.drop a.length) (by rw [List.length_drop, hl, Nat.succ_mul]; omega) (fun i hi => by
     have := h (i + 1) (by omega)
     rwa [List.drop_drop, show a.length + i * a.length = (i + 1) * a.length from by rw [Nat.succ_mul]; omega])
   have := h0.append h1
   rwa [List.take_append_drop] at this
theorem lay_fit : ∀ (d : Nat) (t : TypeId) (ks : List (Option IntKind)), layOf P d t = some ks → ∀ (fuel : Nat) (cs : List Value) (x : DataW H × List MemPlace), DataW.trod enc P w base spare held fuel t cs = some x → FitL ks cs
 | 0, t, ks, h, _, _, _, _ => by simp [layOf] at h
 | d + 1, t, ks, h, fuel, cs, x, hx => by
   unfold layOf at h
   split at h
   · rename_i k hu
     obtain ⟨m, rfl, _, hw⟩ := DataW.trod_int hu hx
     have : ks = [some k] := by simpa using h.symm
     subst this
     exact ⟨_, [], rfl, ⟨m, rfl, hw⟩, rfl⟩
   · rename_i hu
     obtain ⟨b, rfl, _⟩ := DataW.trod_bool hu hx
     have : ks = [none] := by simpa using h.symm
     subst this
     exact ⟨_, [], rfl, ⟨b, rfl⟩, rfl⟩
   · rename_i fs hu
     split at h
     · exact absurd h (by simp)
     · rename_i a ha
       split at h
       · rename_i hc
         have : ks = a := by simpa using h.symm
         subst this
         obtain ⟨xs, n, rfl, _, hl, hlen, hf⟩ := DataW.trod_struct hu hx
         have := fields_fit (cs := cs) (n := n) (enc := enc) (w := w) (base := base) (spare := spare) (held := held) (fun t a cs x ht hx' => lay_fit d t a ht n cs x hx') fs.toList 0 ks ha (fun f hfm => ?_) (by rw [hl, hc]; omega)
         · simpa using this
         · obtain ⟨i, hi⟩ := List.mem_iff_getElem?.1 hfm
           have hi' : fs[i]? = some f := by simpa using hi
           have := hf i f hi'
           have hlt : i < fs.size := (Array.getElem?_eq_some_iff.1 hi').1
           rw [List.getElem?_eq_getElem (by omega)] at this
           exact ⟨_, this⟩
       · exact absurd h (by simp)
   · rename_i n e hu
     split at h
     · exact absurd h (by simp)
     · rename_i a ha
       split at h
       · rename_i hc
         have : ks = (List.replicate n a).flatten := by simpa using h.symm
         subst this
         obtain ⟨xs, m, rfl, _, hl, hlen, hi⟩ := DataW.trod_array hu hx
         refine array_fit n cs (by rw [hl, hc.2]) fun i hlt => ?_
         have := hi i hlt
         rw [List.getElem?_eq_getElem (by omega), hc.1] at this
         exact lay_fit d e a ha m _ _ this
       · exact absurd h (by simp)
   · exact absurd h (by simp)
theorem open_flat {r : Reach} {b0 : Nat} {t : TypeId} {v : Value} {dd : DataW H} {p : List MemPlace} (d : Nat) {ks : List (Option IntKind)} (hl : layOf P d t = some ks)
   (hs : (∃ fs, P.underlying t = some (.struct fs)) ∨ ∃ n e, P.underlying t = some (.array n e))
   (hv : Value.okWide P w r b0 t v) (h : DataW.Trod enc P w base spare held t v dd p) : ∃ cs : List Value, v = .agg cs.toArray ∧ FitL ks cs := by
 obtain ⟨fuel, hf⟩ := h
 have hk := lay_fit d t ks hl fuel _ _ hf
 rcases hs with ⟨fs, hu⟩ | ⟨n, e, hu⟩
 · obtain ⟨cs, rfl, _⟩ := okWide_struct hu hv
   exact ⟨cs.toList, by simp, by simpa [Value.cells] using hk⟩
 · simp only [Value.okWide, hu] at hv
   obtain ⟨cs, rfl, _⟩ := hv
   exact ⟨cs.toList, by simp, by simpa [Value.cells] using hk⟩
end
end Go.Proofs.YtkmgdfcambdeeaaGreatDoor
namespace Go.Proofs.YtkmgdfcambdeeaaGreatDoor
open Lib (hid)
open Go.ChangeShapes Go.WideShapes Go.Deep Go.RowKit
set_option linter.unusedVariables false
def prow (at_ : Nat) (wd : Bool) (v cu e b t pm ty rs : Nat) (va : Bool) : List Value := [.int .u16 at_, .bool wd, .int .u32 v, .int .u32 cu, .int .u8 e, .int .u16 b, .int .u16 t, .int .u16 pm, .int .u16 ty, .int .u32 rs, .bool va]
def PutsIn (w : World) (B : Nat) (A : Option Addr) (n : Nat) : Prop :=
 ∀ i, i < n → ∃ bq off, A = some ⟨bq, off, none⟩ ∧ bq < B ∧ ∃ (at_ : Nat) (wd : Bool) (v cu e b t pm ty rs : Nat) (va : Bool), (at_ < 65536 ∧ v < 4294967296 ∧ cu < 4294967296 ∧ e < 256 ∧ b < 65536 ∧ t < 65536 ∧ pm < 65536 ∧ ty < 65536 ∧ rs < 4294967296) ∧
   ∀ j u, (prow at_ wd v cu e b t pm ty rs va)[j]? = some u → w.cell? ⟨bq, off + i * 11 + j, none⟩ = some u
theorem PutsIn.below {w w' : World} {B : Nat} {A : Option Addr} {n : Nat} (h : PutsIn w B A n) (hb : Below B w w') : PutsIn w' B A n := fun i hi => by
 obtain ⟨bq, off, e, hlt, at_, wd, v, cu, e', b, t, pm, ty, rs, va, h1, h3⟩ := h i hi
 exact ⟨bq, off, e, hlt, at_, wd, v, cu, e', b, t, pm, ty, rs, va, h1, fun j u hu => (hb.cell (p := ⟨bq, _, none⟩) hlt).trans (h3 j u hu)⟩
theorem cell_lt10 {w : World} {p : Addr} {v : Value} (h : w.cell? p = some v) : p.block < w.heap.size := by
 rcases Nat.lt_or_ge p.block w.heap.size with hlt | hge
 · exact hlt
 · simp [World.cell?, Array.getElem?_eq_none hge] at h
set_option maxRecDepth 100000 in
theorem puts_of {H : Type} {enc : TypeId × Value → H} {W : World} {base : Nat} {held : Bool} {r : Reach} {b0 : Nat} {v : Value} {d : DataW H} {ps : List MemPlace}
   (hv : Value.okWide Tryz.prog W r b0 31 v) (hd : DataW.Trod enc Tryz.prog W base (fun _ => true) held 31 v d ps) :
   ∃ A n cap, v = .slice A n cap ∧ n ≤ cap ∧ cap ≤ maxLen ∧ PutsIn W W.heap.size A n := by
 obtain ⟨a0, len, cap, rfl⟩ := okWide_slice Tryz.underlying31 hv
 obtain ⟨fuel, hf⟩ := hd
 rcases open_slice Tryz.underlying31 hf with ⟨hcs, _⟩ | ⟨a, l, c, m, n, D, Pl, hcs, _, hl, hm, hmm, _, hi⟩
 · simp [Value.cells] at hcs
   obtain ⟨rfl, rfl, rfl⟩ := hcs
   exact ⟨none, 0, 0, rfl, Nat.le_refl _, Nat.zero_le _, fun i hi => absurd hi (by omega)⟩
 · simp [Value.cells] at hcs
   obtain ⟨rfl, rfl, rfl⟩ := hcs
   refine ⟨some a, len, cap, rfl, hl, hm, fun i hlt => ?_⟩
   have hC : Tryz.prog.cellsOf 67 = 11 := by kernel_rfl
   obtain ⟨cs, hc, ht⟩ := hi i (by rw [hmm]; simp; omega)
   rw [hC] at hc
   obtain ⟨_, hcl, hat⟩ := World.cells?_some hc
   have hF := lay_fit 6 67 [some .u16, none, some .u32, some .u32, some .u8, some .u16, some .u16, some .u16, some .u16, some .u32, none] (by kernel_rfl) _ cs _ ht
   obtain ⟨_, _, rfl, ⟨x0, rfl, w0⟩, _, _, rfl, ⟨x1, rfl⟩, _, _, rfl, ⟨x2, rfl, w2⟩, _, _, rfl, ⟨x3, rfl, w3⟩, _, _, rfl, ⟨x4, rfl, w4⟩, _, _, rfl, ⟨x5, rfl, w5⟩, _, _, rfl, ⟨x6, rfl, w6⟩, _, _, rfl, ⟨x7, rfl, w7⟩, _, _, rfl, ⟨x8, rfl, w8⟩, _, _, rfl, ⟨x9, rfl, w9⟩, _, _, rfl, ⟨x10, rfl⟩, rfl⟩ := hF
   obtain ⟨bq, off, spot⟩ := a
   have hspot : spot = none := by
     obtain ⟨cs', hc', _⟩ := hi 0 (by rw [hmm]; simp; omega)
     rw [hC] at hc'
     obtain ⟨_, hcl', hat'⟩ := World.cells?_some hc'
     have h0 := hat' 0 (by omega)
     rw [List.getElem?_eq_getElem (by omega)] at h0
     have := World.cell?_spot h0
     simpa [Addr.add] using this
   subst hspot
   have b0 := bounds_u16 w0
   have b2 := bounds_u32 w2
   have b3 := bounds_u32 w3
   have b4 := bounds_u8 w4
   have b5 := bounds_u16 w5
   have b6 := bounds_u16 w6
   have b7 := bounds_u16 w7
   have b8 := bounds_u16 w8
   have b9 := bounds_u32 w9
   obtain ⟨x0, rfl⟩ := Int.eq_ofNat_of_zero_le b0.1
   obtain ⟨x2, rfl⟩ := Int.eq_ofNat_of_zero_le b2.1
   obtain ⟨x3, rfl⟩ := Int.eq_ofNat_of_zero_le b3.1
   obtain ⟨x4, rfl⟩ := Int.eq_ofNat_of_zero_le b4.1
   obtain ⟨x5, rfl⟩ := Int.eq_ofNat_of_zero_le b5.1
   obtain ⟨x6, rfl⟩ := Int.eq_ofNat_of_zero_le b6.1
   obtain ⟨x7, rfl⟩ := Int.eq_ofNat_of_zero_le b7.1
   obtain ⟨x8, rfl⟩ := Int.eq_ofNat_of_zero_le b8.1
   obtain ⟨x9, rfl⟩ := Int.eq_ofNat_of_zero_le b9.1
   have hcell : ∀ j u, (prow x0 x1 x2 x3 x4 x5 x6 x7 x8 x9 x10)[j]? = some u → W.cell? ⟨bq, off + i * 11 + j, none⟩ = some u := fun j u hu => by
     have hj : j < 11 := by have := (List.getElem?_eq_some_iff.1 hu).1; simpa [prow] using this
     have h1 := hat j (by omega)
     simp only [Addr.add_lit] at h1
     rw [h1]
     exact hu
   have hlt := cell_lt10 (hcell 0 _ rfl)
   exact ⟨bq, off, rfl, hlt, x0, x1, x2, x3, x4, x5, x6, x7, x8, x9, x10, ⟨by omega, by omega, by omega, by omega, by omega, by omega, by omega, by omega, by omega⟩, hcell⟩
end Go.Proofs.YtkmgdfcambdeeaaGreatDoor
namespace Go.Proofs.YtkmgdfcambdeeaaGreatDoor
open Lib (hid)
open Go.RowKit
set_option linter.unusedVariables false
theorem eqA_same {P : Program} {w : World} {d n len : Nat} {t elem : TypeId} {xs ys : Array Value} (hu : P.underlying t = some (.array len elem)) (hs : ∀ w, (sizeOf elem).run P w = .ok n w)
   (h : ∀ i, i < len → ∃ x y, (part elem xs (i * n)).run P w = .ok x w ∧ (part elem ys (i * n)).run P w = .ok y w ∧ (Op.equalIn d elem x y).run P w = .ok true w) :
   (Op.equalIn (d + 1) t (.agg xs) (.agg ys)).run P w = .ok true w := by
 simp only [Op.equalIn, Sem.run_bind, run_underlying hu, Result.andThen_ok, hs]
 simp only [Std.Legacy.Range.forIn_eq_forIn_range', Std.Legacy.Range.size]
 have hl : ∀ i, i ∈ List.range' 0 ((len - 0 + 1 - 1) / 1) 1 → i < len := fun i hi => by
   have := List.mem_range'.1 hi
   omega
 generalize List.range' 0 ((len - 0 + 1 - 1) / 1) 1 = l at hl ⊢
 clear hu
 induction l with
 | nil => simp
 | cons i l ih =>
   obtain ⟨x, y, h1, h2, h3⟩ := h i (hl i (List.mem_cons_self ..))
   simp only [List.forIn_cons, Sem.run_bind, h1, h2, h3, Result.andThen_ok, Bool.not_true, Bool.false_eq_true, if_false]
   simpa using ih (fun j hj => hl j (List.mem_cons_of_mem _ hj))
theorem fC_slice (F : List Cp) (i : Nat) (h : i < F.length) : ((fC F).drop (i * 8)).take 8 = (reg F i).C := by
 rw [fC_drop, List.drop_eq_getElem_cons h, fC, List.take_append_of_le_length (by rw [Cp.C_len]; exact Nat.le_refl _), List.take_of_length_le (by rw [Cp.C_len]; exact Nat.le_refl _)]
 have := reg_get h
 rw [List.getElem?_eq_getElem h, Option.some.injEq] at this
 rw [this]
theorem cp_same (d : Nat) (c : Cp) (w : World) : (Op.equalIn (d + 1 + 1) 25 c.V c.V).run Tryz.prog w = .ok true w := by
 refine (cap_eq' d c.cu c.e c.b c.t c.pm c.ty c.rs c.va c.cu c.e c.b c.t c.pm c.ty c.rs c.va w).trans ?_
 simp
theorem part_cp (xs : Array Value) (o : Nat) (w : World) : (part 25 xs o).run Tryz.prog w = .ok (.agg (xs.extract o (o + 8))) w := by kernel_rfl
theorem part_ca (xs : Array Value) (o : Nat) (w : World) : (part 26 xs o).run Tryz.prog w = .ok (.agg (xs.extract o (o + 128))) w := by kernel_rfl
theorem fr_same (F : List Cp) (h : F.length = 17) (w : World) : (Op.equalIn 10000 28 (fV F) (fV F)).run Tryz.prog w = .ok true w := by
 unfold fV
 rw [run_equalIn_struct w 9999 28 _ _ (by kernel_rfl) (by kernel_rfl)]
 have hf : (Tryz.prog.fieldsOf 28).toList.map (fun f => (f.name, f.type, f.offset)) = [("Regs", 26, 0), ("Pc", 25, 128)] := by kernel_rfl
 generalize (Tryz.prog.fieldsOf 28).toList = fs at *
 obtain ⟨f0, fs, rfl, hf0, hf⟩ := List.map_eq_cons_iff.1 hf
 obtain ⟨f1, fs, rfl, hf1, hf⟩ := List.map_eq_cons_iff.1 hf
 obtain rfl := List.map_eq_nil_iff.1 hf
 simp only [Prod.mk.injEq] at hf0 hf1
 have hp : (.agg ((fC F).toArray.extract 128 (128 + 8)) : Value) = (reg F 16).V := by
   unfold Cp.V
   rw [← fC_slice F 16 (by omega)]
   simp
 have hq : ∀ i, i < 16 → (.agg (((fC F).toArray.extract 0 (0 + 128)).extract (i * 8) (i * 8 + 8)) : Value) = (reg F i).V := fun i hi => by
   unfold Cp.V
   rw [← fC_slice F i (by omega)]
   congr 1
   simp [List.drop_take, List.take_take]
   omega
 refine eqF_step (r := true) (s := true) hf0 (by decide) (part_ca _ _ _) (part_ca _ _ _) ?_ ?_
 · refine eqA_same (n := 8) (d := 9998) (by kernel_rfl : Tryz.prog.underlying 26 = some (.array 16 25)) (fun w => by kernel_rfl) (fun i hi => ⟨_, _, part_cp _ _ _, part_cp _ _ _, ?_⟩)
   rw [hq i hi]
   exact cp_same 9996 _ w
 · refine eqF_step (r := true) (s := true) hf1 (by decide) (part_cp _ _ _) (part_cp _ _ _) ?_ eqF_nil
   rw [hp]
   exact cp_same 9997 _ w
theorem fr_eql (F : List Cp) (h : F.length = 17) (w : World) : (binOp .eql 28 (.agg (fC F).toArray) (.agg (fC F).toArray)).run Tryz.prog w = .ok (.bool true) w := by
 rw [run_eql_struct]
 have := fr_same F h w
 unfold fV at this
 rw [this]; rfl
theorem fr_guard (F G : List Cp) (x y : Operand) (w : World) : (eqGuard .eql 28 x y (.agg (fC F).toArray) (.agg (fC G).toArray)).run Tryz.prog w = .ok () w :=
 run_eqGuard_agg w .eql 28 x y _ _ (by kernel_rfl)
theorem fr_neq (F : List Cp) (h : F.length = 17) (w : World) : (binOp .neq 28 (.agg (fC F).toArray) (.agg (fC F).toArray)).run Tryz.prog w = .ok (.bool false) w := by
 have := fr_same F h w
 unfold fV at this
 simp only [binOp, Op.equal, Op.maxDepth, Sem.run_bind, this, Result.andThen_ok]
 rfl
theorem fr_nguard (F G : List Cp) (x y : Operand) (w : World) : (eqGuard .neq 28 x y (.agg (fC F).toArray) (.agg (fC G).toArray)).run Tryz.prog w = .ok () w :=
 run_eqGuard_agg w .neq 28 x y _ _ (by kernel_rfl)
theorem ins_neq (op A B C m : Int) (w : World) : (binOp .neq 30 (.agg #[.int .i64 op, .int .i64 A, .int .i64 B, .int .i64 C, .int .i64 m]) (.agg #[.int .i64 op, .int .i64 A, .int .i64 B, .int .i64 C, .int .i64 m])).run Tryz.prog w = .ok (.bool false) w := by
 have := ins_eq' 9998 op A B C m op A B C m w
 simp only [binOp, Op.equal, Op.maxDepth, Sem.run_bind, this, Result.andThen_ok]
 simp
def cpK : List (Option IntKind) := [some .u32, some .u8, some .u16, some .u16, some .u16, some .u16, some .u32, none]
def frK : List (Option IntKind) := (List.replicate 17 cpK).flatten
theorem fitL_split : ∀ {a b : List (Option IntKind)} {cs : List Value}, FitL (a ++ b) cs → ∃ c d, cs = c ++ d ∧ FitL a c ∧ FitL b d
 | [], b, cs, h => ⟨[], cs, rfl, rfl, h⟩
 | o :: a, b, cs, ⟨u, r, e, f, h⟩ => by
   obtain ⟨c, d, rfl, h1, h2⟩ := fitL_split h
   exact ⟨u :: c, d, by rw [e]; rfl, ⟨u, c, rfl, f, h1⟩, h2⟩
theorem cp_of {cs : List Value} (h : FitL cpK cs) : ∃ c : Cp, c.fit ∧ cs = c.C := by
 obtain ⟨_, _, rfl, ⟨x0, rfl, w0⟩, _, _, rfl, ⟨x1, rfl, w1⟩, _, _, rfl, ⟨x2, rfl, w2⟩, _, _, rfl, ⟨x3, rfl, w3⟩, _, _, rfl, ⟨x4, rfl, w4⟩, _, _, rfl, ⟨x5, rfl, w5⟩, _, _, rfl, ⟨x6, rfl, w6⟩, _, _, rfl, ⟨x7, rfl⟩, rfl⟩ := h
 have b0 := bounds_u32 w0
 have b1 := bounds_u8 w1
 have b2 := bounds_u16 w2
 have b3 := bounds_u16 w3
 have b4 := bounds_u16 w4
 have b5 := bounds_u16 w5
 have b6 := bounds_u32 w6
 obtain ⟨x0, rfl⟩ := Int.eq_ofNat_of_zero_le b0.1
 obtain ⟨x1, rfl⟩ := Int.eq_ofNat_of_zero_le b1.1
 obtain ⟨x2, rfl⟩ := Int.eq_ofNat_of_zero_le b2.1
 obtain ⟨x3, rfl⟩ := Int.eq_ofNat_of_zero_le b3.1
 obtain ⟨x4, rfl⟩ := Int.eq_ofNat_of_zero_le b4.1
 obtain ⟨x5, rfl⟩ := Int.eq_ofNat_of_zero_le b5.1
 obtain ⟨x6, rfl⟩ := Int.eq_ofNat_of_zero_le b6.1
 exact ⟨⟨x0, x1, x2, x3, x4, x5, x6, x7⟩, ⟨by show x0 < _; omega, by show x1 < _; omega, by show x2 < _; omega, by show x3 < _; omega, by show x4 < _; omega, by show x5 < _; omega, by show x6 < _; omega⟩, rfl⟩
theorem cps_of : ∀ (n : Nat) {cs : List Value}, FitL (List.replicate n cpK).flatten cs → ∃ F : List Cp, F.length = n ∧ (∀ c, c ∈ F → c.fit) ∧ cs = fC F
 | 0, cs, h => ⟨[], rfl, by simp, by simpa [FitL, fC] using h⟩
 | n + 1, cs, h => by
   rw [List.replicate_succ, List.flatten_cons] at h
   obtain ⟨c, d, rfl, h1, h2⟩ := fitL_split h
   obtain ⟨x, hx, rfl⟩ := cp_of h1
   obtain ⟨F, hl, hF, rfl⟩ := cps_of n h2
   exact ⟨x :: F, by simp [hl], fun y hy => by
     rcases List.mem_cons.1 hy with rfl | hy
     · exact hx
     · exact hF y hy, rfl⟩
theorem frame_of {cs : List Value} (h : FitL frK cs) : ∃ F : List Cp, Fit F ∧ cs = fC F := by
 obtain ⟨F, h1, h2, h3⟩ := cps_of 17 h
 exact ⟨F, ⟨h1, h2⟩, h3⟩
end Go.Proofs.YtkmgdfcambdeeaaGreatDoor
