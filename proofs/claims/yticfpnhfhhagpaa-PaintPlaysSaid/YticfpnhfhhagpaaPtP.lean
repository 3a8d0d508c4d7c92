/- A paint beside the document's, in a law. No statement is proved here. -/
import Derived.Test.YticfpnhfhhagpaaPtN
import Derived.Test.YticfpnhfhhagpaaPtAc
namespace Go.Proofs.Yticfpnhfhhagpaa
set_option maxRecDepth 100000
open Go.RowKit Go.Shelf
set_option linter.unusedVariables false
/-- The program's paint (f), and the document's (h) in a box q. -/
structure PP (W : World) (p b wb n : Nat) (f h : Nat → Bool) (q base : Nat) (v : Value) (w : World) : Prop where
  k : TK W p b wb n f w
  c : w.cell? ⟨q, 0, none⟩ = some v
  fr : w.frozen? ⟨q, 0, none⟩ = false
  d : DP w base v n h
  hb : wb < base
  bs : base ≤ w.heap.size
  ne : q ≠ wb
  nb : q ≠ b
  np : q ≠ p
  lq : q < w.heap.size
  hq : W.heap.size ≤ q
section
variable {W w w' : World} {p b wb n q base : Nat} {f g h h' : Nat → Bool} {v v' : Value} {e : Ending}
theorem PP.grow (K : PP W p b wb n f h q base v w) (k : Below w.heap.size w w') : PP W p b wb n f h q base v w' :=
  ⟨K.k.grow k, (k.cell (p := ⟨q, 0, none⟩) K.lq).trans K.c, (k.frozen (p := ⟨q, 0, none⟩) K.lq).trans K.fr, K.d.grow k, K.hb, Nat.le_trans K.bs k.size, K.ne, K.nb, K.np, Nat.lt_of_lt_of_le K.lq k.size, K.hq⟩
theorem PP.post {x : Value} (K : PP W p b wb n f h q base v w) (H : PtPost p b wb n g x w e w') : e = .returned x ∧ PP W p b wb n g h q base v w' :=
  ⟨H.1, (K.k.post H).2, (H.2.2.cell (p := ⟨q, 0, none⟩) K.lq K.ne).trans K.c, (H.2.2.frozen (p := ⟨q, 0, none⟩) K.lq K.ne).trans K.fr,
    K.d.keep (fun g hg hl => H.2.2.block g hl (by have := K.hb; omega)) H.2.2.size, K.hb, Nat.le_trans K.bs H.2.2.size, K.ne, K.nb, K.np, Nat.lt_of_lt_of_le K.lq H.2.2.size, K.hq⟩
theorem PP.set (K : PP W p b wb n f h q base v w) (d : DP w base v' n h') : PP W p b wb n f h' q base v' (w.setCell ⟨q, 0, none⟩ v') := by
  obtain ⟨A, cap, rfl, _⟩ := K.d
  have o : Off w.heap.size q w (w.setCell ⟨q, 0, none⟩ v') := (Off.refl w.heap.size q w).setCell (p := ⟨q, 0, none⟩) (.inr rfl) v'
  have m : MapAt (w.setCell ⟨q, 0, none⟩ v') b wb n f := K.k.pt.m.setOther (p := ⟨q, 0, none⟩) (by show q ≠ b; exact K.nb) (by show q ≠ wb; exact K.ne) _
  exact ⟨⟨⟨(o.cell (p := ⟨p, 0, none⟩) K.k.pt.lp (by show p ≠ q; exact fun e => K.np e.symm)).trans K.k.pt.c0, m, K.k.pt.ne, Nat.lt_of_lt_of_le K.k.pt.lp o.size⟩, K.k.bel.trans (o.below K.k.bel.size K.hq), K.k.hw⟩,
    World.cell?_setCell_same' _ _ _ (by rw [K.c]; rfl), (World.frozen?_setCell _ _ _ _).trans K.fr, d.other K.c v', K.hb, Nat.le_trans K.bs o.size, K.ne, K.nb, K.np, Nat.lt_of_lt_of_le K.lq o.size, K.hq⟩
/-- Both answer alike, in whatever world of a class. -/
theorem has_both {S : World → Prop} (hK : ∀ w', S w' → PP W p b wb n f f q base v w') (HS : ∀ w w', S w → Below w.heap.size w w' → S w') (hn : n ≤ 16384) (a : Nat) (ha : a < 4294967296) :
    ∃ u : Bool, (∀ y : Wd S, Calls Try.prog 17 #[.pointer (some ⟨p, 0, none⟩), .int .u32 (a : Int)] y.w fun e w' => e = .returned (.bool u) ∧ ∃ y' : Wd S, w' = y'.w) ∧
      (∀ y : Wd S, Calls Try.prog 18 #[.agg #[v], .int .u32 (a : Int)] y.w fun e w' => e = .returned (.bool u) ∧ ∃ y' : Wd S, w' = y'.w) := by
  refine ⟨f (a / 16), fun y => ?_, fun y => ?_⟩
  · exact (pthas (hK _ y.h).k.pt a ha).mono fun e w2 k => ⟨k.1, ⟨w2, HS _ _ y.h k.2⟩, rfl⟩
  · exact (rhas (hK _ y.h).d (hK _ y.h).k.pt.m.off hn a ha).mono fun e w2 k => ⟨k.1, ⟨w2, HS _ _ y.h k.2⟩, rfl⟩
theorem count_both {S : World → Prop} (hK : ∀ w', S w' → PP W p b wb n f f q base v w') (HS : ∀ w w', S w → Below w.heap.size w w' → S w') (hn : n ≤ 16384) :
    ∃ c : Nat, (∀ y : Wd S, Calls Try.prog 15 #[.pointer (some ⟨p, 0, none⟩)] y.w fun e w' => e = .returned (.int .i64 (c : Int)) ∧ ∃ y' : Wd S, w' = y'.w) ∧
      (∀ y : Wd S, Calls Try.prog 16 #[.agg #[v]] y.w fun e w' => e = .returned (.int .i64 (c : Int)) ∧ ∃ y' : Wd S, w' = y'.w) := by
  refine ⟨cnt f n, fun y => ?_, fun y => ?_⟩
  · exact (ptcount (hK _ y.h).k.pt).mono fun e w2 k => ⟨k.1, ⟨w2, HS _ _ y.h k.2⟩, rfl⟩
  · exact (rcount (hK _ y.h).d hn).mono fun e w2 k => ⟨k.1, ⟨w2, HS _ _ y.h k.2⟩, rfl⟩
end
end Go.Proofs.Yticfpnhfhhagpaa
