/- Who holds which page: three arrays beside a pool. Plain lemmas. -/
import Derived.Test.YtbabblnpjophdaaPgT
namespace Go.Proofs.Ytbabblnpjophdaa
set_option maxRecDepth 100000
open Go.RowKit
set_option linter.unusedVariables false

def updN (h : Nat → Nat) (a v : Nat) : Nat → Nat := fun k => if k = a then v else h k
/-- At block q stand m numbers, as h tells. -/
structure IntArr (W : World) (q m : Nat) (h : Nat → Nat) : Prop where
  cs : ∀ i, i < m → W.cell? ⟨q, i, none⟩ = some (.int .i64 (h i : Int)) ∧ W.frozen? ⟨q, i, none⟩ = false
section
variable {W W' : World} {q m : Nat} {h g : Nat → Nat}
theorem IntArr.keep (H : IntArr W q m h) (hk : W'.heap[q]? = W.heap[q]?) : IntArr W' q m h :=
  ⟨fun i hi => ⟨(World.cell?_of_block hk).trans (H.cs i hi).1, (World.frozen?_of_block hk).trans (H.cs i hi).2⟩⟩
theorem IntArr.congr (H : IntArr W q m h) (e : ∀ k, k < m → h k = g k) : IntArr W q m g := ⟨fun i hi => e i hi ▸ H.cs i hi⟩
theorem IntArr.store (H : IntArr W q m h) {a : Nat} (ha : a < m) (v : Nat) : IntArr (W.setCell ⟨q, a, none⟩ (.int .i64 (v : Int))) q m (updN h a v) := by
  refine ⟨fun i hi => ⟨?_, (World.frozen?_setCell _ _ _ _).trans (H.cs i hi).2⟩⟩
  unfold updN
  by_cases e : i = a
  · subst e
    rw [if_pos rfl]
    exact World.cell?_setCell_same' _ _ _ (by rw [(H.cs i hi).1]; rfl)
  · rw [if_neg e, World.cell?_setCell_other _ _ _ _ (fun e' => e (by simpa using (congrArg Addr.off e').symm))]
    exact (H.cs i hi).1
theorem IntArr.zero (W : World) (m : Nat) (t : TypeId) : IntArr (W.alloc (.cells (Array.replicate m (.int .i64 0)) t)) W.heap.size m (fun _ => 0) := ⟨fun i hi => by
  constructor
  · simp [hi]
  · simp⟩
end
/-- A pool, and beside it three arrays: who holds each page, and from where on, and how many, each one holds. -/
structure ST (W : World) (p b wb qh qf qr : Nat) (f : Nat → Bool) (h fr rn : Nat → Nat) (w : World) : Prop where
  k : PK W p b wb 64 f w
  ha : IntArr w qh 64 h
  fa : IntArr w qf 41 fr
  ra : IntArr w qr 41 rn
  o1 : p < qh ∧ b < qh ∧ wb < qh
  o2 : qh < qf ∧ qf < qr ∧ qr < w.heap.size
section
variable {W w w' : World} {p b wb qh qf qr : Nat} {f g : Nat → Bool} {h fr rn : Nat → Nat} {v : Value} {e : Ending}
theorem ST.hw (S : ST W p b wb qh qf qr f h fr rn w) : W.heap.size ≤ qh := by have := S.k.hw; have := S.o1; omega
theorem ST.below (S : ST W p b wb qh qf qr f h fr rn w) (hb : Below w.heap.size w w') : ST W p b wb qh qf qr f h fr rn w' := by
  have := S.o2
  exact ⟨S.k.of_below hb, S.ha.keep (hb.block qh (by omega)), S.fa.keep (hb.block qf (by omega)), S.ra.keep (hb.block qr (by omega)), S.o1, by have := hb.size; omega⟩
theorem ST.pool (S : ST W p b wb qh qf qr f h fr rn w) (H : PNext p b wb 64 g w v e w') : e = .returned v ∧ ST W p b wb qh qf qr g h fr rn w' := by
  have := S.o1
  have := S.o2
  have o := H.2.2
  exact ⟨H.1, (S.k.of_next H).2, S.ha.keep (o.block qh (by omega) (by omega)), S.fa.keep (o.block qf (by omega) (by omega)), S.ra.keep (o.block qr (by omega) (by omega)), S.o1, by have := o.size; omega⟩
theorem ST.congr {h' : Nat → Nat} (S : ST W p b wb qh qf qr f h fr rn w) (e1 : ∀ k, k < 64 → h k = h' k) : ST W p b wb qh qf qr f h' fr rn w :=
  ⟨S.k, S.ha.congr e1, S.fa, S.ra, S.o1, S.o2⟩
theorem ST.setH (S : ST W p b wb qh qf qr f h fr rn w) {a : Nat} (ha : a < 64) (x : Nat) : ST W p b wb qh qf qr f (updN h a x) fr rn (w.setCell ⟨qh, a, none⟩ (.int .i64 (x : Int))) := by
  have h1 := S.o1
  have h2 := S.o2
  have o : Off w.heap.size qh w (w.setCell ⟨qh, a, none⟩ (.int .i64 (x : Int))) := (Off.refl w.heap.size qh w).setCell (p := ⟨qh, a, none⟩) (.inr rfl) (.int .i64 (x : Int))
  exact ⟨⟨S.k.pool.other o ⟨by omega, by omega, by omega⟩, S.k.bel.trans (o.below S.k.bel.size S.hw), S.k.hw⟩, S.ha.store ha x, S.fa.keep (o.block qf (by omega) (by omega)), S.ra.keep (o.block qr (by omega) (by omega)), S.o1, by have := o.size; omega⟩
theorem ST.setF (S : ST W p b wb qh qf qr f h fr rn w) {a : Nat} (ha : a < 41) (x : Nat) : ST W p b wb qh qf qr f h (updN fr a x) rn (w.setCell ⟨qf, a, none⟩ (.int .i64 (x : Int))) := by
  have h1 := S.o1
  have h2 := S.o2
  have o : Off w.heap.size qf w (w.setCell ⟨qf, a, none⟩ (.int .i64 (x : Int))) := (Off.refl w.heap.size qf w).setCell (p := ⟨qf, a, none⟩) (.inr rfl) (.int .i64 (x : Int))
  exact ⟨⟨S.k.pool.other o ⟨by omega, by omega, by omega⟩, S.k.bel.trans (o.below S.k.bel.size (by have := S.hw; omega)), S.k.hw⟩, S.ha.keep (o.block qh (by omega) (by omega)), S.fa.store ha x, S.ra.keep (o.block qr (by omega) (by omega)), S.o1, by have := o.size; omega⟩
theorem ST.setR (S : ST W p b wb qh qf qr f h fr rn w) {a : Nat} (ha : a < 41) (x : Nat) : ST W p b wb qh qf qr f h fr (updN rn a x) (w.setCell ⟨qr, a, none⟩ (.int .i64 (x : Int))) := by
  have h1 := S.o1
  have h2 := S.o2
  have o : Off w.heap.size qr w (w.setCell ⟨qr, a, none⟩ (.int .i64 (x : Int))) := (Off.refl w.heap.size qr w).setCell (p := ⟨qr, a, none⟩) (.inr rfl) (.int .i64 (x : Int))
  exact ⟨⟨S.k.pool.other o ⟨by omega, by omega, by omega⟩, S.k.bel.trans (o.below S.k.bel.size (by have := S.hw; omega)), S.k.hw⟩, S.ha.keep (o.block qh (by omega) (by omega)), S.fa.keep (o.block qf (by omega) (by omega)), S.ra.store ha x, S.o1, by have := o.size; omega⟩
theorem ST.drew (S : ST W p b wb qh qf qr f h fr rn w) : ST W p b wb qh qf qr f h fr rn w.drew := S.below (Below.refl _ _).drew
end
/-- What holds of them: those from E on, below N, hold a run each. -/
structure HOk (f : Nat → Bool) (h fr rn : Nat → Nat) (E N : Nat) : Prop where
  fh : ∀ k, k < 64 → f k = decide (h k = 0)
  run : ∀ e, E ≤ e → e < N → 1 ≤ rn e ∧ fr e + rn e ≤ 64 ∧ ∀ k, fr e ≤ k → k < fr e + rn e → h k = e
  one : 1 ≤ E
  le : E ≤ N
/-- j numbers from a on turned to v. -/
def stretch (h : Nat → Nat) (a j v : Nat) : Nat → Nat := fun k => if a ≤ k ∧ k < a + j then v else h k
theorem stretch_zero (h : Nat → Nat) (a v k : Nat) : stretch h a 0 v k = h k := by unfold stretch; rw [if_neg (by omega)]
theorem stretch_step (h : Nat → Nat) (a j v k : Nat) : updN (stretch h a j v) (a + j) v k = stretch h a (j + 1) v k := by
  unfold updN stretch
  by_cases e : k = a + j
  · rw [if_pos e, if_pos (by omega)]
  · rw [if_neg e]
    by_cases e2 : a ≤ k ∧ k < a + j
    · rw [if_pos e2, if_pos (by omega)]
    · rw [if_neg e2, if_neg (by omega)]
theorem HOk.put {f : Nat → Bool} {h fr rn : Nat → Nat} {E N : Nat} (H : HOk f h fr rn E N) (hE : E < N) :
    ptB f 64 (fr E : Nat) (rn E : Nat) = true ∧ HOk (ptF f 64 (fr E : Nat) (rn E : Nat)) (stretch h (fr E) (rn E) 0) fr rn (E + 1) N := by
  obtain ⟨h1, h2, h3⟩ := H.run E (Nat.le_refl _) hE
  have h0 := H.one
  have hp : ptB f 64 (fr E : Nat) (rn E : Nat) = true := pt_iff.2 ⟨by omega, by omega, by omega, fun k k1 k2 => by
    rw [H.fh k (by omega), h3 k (by omega) (by omega)]
    exact decide_eq_false (by omega)⟩
  refine ⟨hp, ⟨fun k hk => ?_, fun e e1 e2 => ?_, by omega, by omega⟩⟩
  · unfold ptF
    rw [hp, if_pos rfl]
    unfold stretch inr
    rw [H.fh k hk]
    by_cases e : fr E ≤ k ∧ k < fr E + rn E
    · rw [if_pos e]; simp; omega
    · rw [if_neg e]
      have : (decide (((fr E : Nat) : Int).toNat ≤ k) && decide (k < (((fr E : Nat) : Int) + ((rn E : Nat) : Int)).toNat)) = false := by simp; omega
      rw [this, Bool.or_false]
  · obtain ⟨r1, r2, r3⟩ := H.run e (by omega) e2
    refine ⟨r1, r2, fun k k1 k2 => ?_⟩
    unfold stretch
    rw [if_neg ?_]
    · exact r3 k k1 k2
    · intro hk
      have := h3 k hk.1 hk.2
      have := r3 k k1 k2
      omega
theorem HOk.take {f : Nat → Bool} {h fr rn : Nat → Nat} {E N : Nat} (H : HOk f h fr rn E N) (run align : Int) (hv : fndB f 64 run align = true) :
    (1 ≤ run ∧ ((fndA f 64 run align : Nat) : Int) + run ≤ 64 ∧ ((fndA f 64 run align : Nat) : Int) % align = 0 ∧ ∀ k, fndA f 64 run align ≤ k → k < fndA f 64 run align + run.toNat → h k = 0 ∧ tkF f 64 run align k = false) ∧
    HOk (tkF f 64 run align) (stretch h (fndA f 64 run align) run.toNat N) (updN fr N (fndA f 64 run align)) (updN rn N run.toNat) E (N + 1) := by
  obtain ⟨⟨h1, h2, h3⟩, h4⟩ := And.imp_left good_iff.1 (fnd_is hv)
  obtain ⟨h5, h6, h7⟩ := fit_iff.1 h3
  have hh : ∀ k, fndA f 64 run align ≤ k → k < fndA f 64 run align + run.toNat → h k = 0 := fun k k1 k2 => by
    have := h7 k k1 (by omega)
    rw [H.fh k (by omega)] at this
    exact of_decide_eq_true this
  have h0 := H.one
  have hE := H.le
  refine ⟨⟨h5, h6, h2, fun k k1 k2 => ⟨hh k k1 k2, ?_⟩⟩, ⟨fun k hk => ?_, fun e e1 e2 => ?_, h0, by omega⟩⟩
  · unfold tkF
    rw [hv, if_pos rfl]
    have : inr (fndA f 64 run align) (fndA f 64 run align + run.toNat) k = true := by unfold inr; simp; omega
    rw [this]; simp
  · unfold tkF
    rw [hv, if_pos rfl]
    unfold stretch inr
    by_cases e : fndA f 64 run align ≤ k ∧ k < fndA f 64 run align + run.toNat
    · rw [if_pos e]; simp [e]; omega
    · rw [if_neg e, ← H.fh k hk]
      have : (decide (fndA f 64 run align ≤ k) && decide (k < fndA f 64 run align + run.toNat)) = false := by simp; omega
      rw [this]; simp
  · by_cases eN : e = N
    · subst eN
      unfold updN
      rw [if_pos rfl, if_pos rfl]
      refine ⟨by omega, by omega, fun k k1 k2 => ?_⟩
      unfold stretch
      rw [if_pos ⟨k1, k2⟩]
    · unfold updN
      rw [if_neg eN, if_neg eN]
      obtain ⟨r1, r2, r3⟩ := H.run e e1 (by omega)
      refine ⟨r1, r2, fun k k1 k2 => ?_⟩
      unfold stretch
      rw [if_neg ?_]
      · exact r3 k k1 k2
      · intro hk
        have := hh k hk.1 hk.2
        have := r3 k k1 k2
        omega
end Go.Proofs.Ytbabblnpjophdaa
