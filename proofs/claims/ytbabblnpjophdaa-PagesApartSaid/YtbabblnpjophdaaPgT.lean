/- A pool beside the document's list: what a step of either leaves. Plain lemmas. -/
import Derived.Test.YtbabblnpjophdaaPgW
import Derived.Test.YtbabblnpjophdaaPgR
namespace Go.Proofs.Ytbabblnpjophdaa
set_option maxRecDepth 100000
open Go.RowKit
set_option linter.unusedVariables false

/-- The pool tells f, the document's list g. -/
structure PT (W : World) (p b wb rb n : Nat) (f g : Nat → Bool) (w : World) : Prop where
  k : PK W p b wb n f w
  t : TruthAt w rb n g
  d : p ≠ rb ∧ b ≠ rb ∧ wb ≠ rb
  hr : W.heap.size ≤ rb
section
variable {W w w' : World} {p b wb rb n : Nat} {f g f' g' : Nat → Bool} {v : Value} {e : Ending}
theorem PoolAt.other {x : Nat} (h : PoolAt w p b wb n f) (o : Off w.heap.size x w w') (hd : p ≠ x ∧ b ≠ x ∧ wb ≠ x) : PoolAt w' p b wb n f :=
  ⟨(o.cell h.lp hd.1).trans h.c0, h.m.keep (fun k hk => by
    rcases hk with rfl | rfl
    · exact o.block _ h.m.lb hd.2.1
    · exact o.block _ h.m.lw hd.2.2) o.size, h.ne, Nat.lt_of_lt_of_le h.lp o.size, h.le⟩
theorem PT.other {x : Nat} (T : PT W p b wb rb n f g w) (o : Off w.heap.size x w w') (hd : p ≠ x ∧ b ≠ x ∧ wb ≠ x ∧ rb ≠ x) (hx : W.heap.size ≤ x) : PT W p b wb rb n f g w' :=
  ⟨⟨T.k.pool.other o ⟨hd.1, hd.2.1, hd.2.2.1⟩, T.k.bel.trans (o.below T.k.bel.size hx), T.k.hw⟩, T.t.off o hd.2.2.2, T.d, T.hr⟩
theorem PT.below (T : PT W p b wb rb n f g w) (h : Below w.heap.size w w') : PT W p b wb rb n f g w' := ⟨T.k.of_below h, T.t.grow h, T.d, T.hr⟩
theorem PT.drew (T : PT W p b wb rb n f g w) : PT W p b wb rb n f g w.drew := T.below (Below.refl _ _).drew
theorem PT.pool (T : PT W p b wb rb n f g w) (h : PNext p b wb n f' w v e w') : e = .returned v ∧ PT W p b wb rb n f' g w' :=
  ⟨h.1, (T.k.of_next h).2, T.t.off h.2.2 (fun e => T.d.2.2 e.symm), T.d, T.hr⟩
theorem PT.truth (T : PT W p b wb rb n f g w) (h : TNext rb n g' w v e w') : e = .returned v ∧ PT W p b wb rb n f g' w' :=
  ⟨h.1, ⟨⟨T.k.pool.other h.2.2 T.d, T.k.bel.trans (h.2.2.below T.k.bel.size T.hr), T.k.hw⟩, h.2.1, T.d, T.hr⟩⟩
end
end Go.Proofs.Ytbabblnpjophdaa
