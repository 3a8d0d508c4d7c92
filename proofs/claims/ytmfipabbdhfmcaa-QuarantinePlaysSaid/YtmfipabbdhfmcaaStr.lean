/- Words for structs that are compared field by field. Plain lemmas; no statement is proved here. -/
import Derived.Test.YtmfipabbdhfmcaaMem
import Derived.Laws.StructEq
import Derived.WalkKit
namespace Go.Proofs.Ytmfipabbdhfmcaa
open Go.RowKit
theorem eqF_step {P : Program} {d : Nat} {xs ys : Array Value} {f : Field} {fs : List Field} {w : World} {n : String} {ty off : Nat} {x y : Value} {r s : Bool}
    (hf : f.name = n ∧ f.type = ty ∧ f.offset = off) (hn : n ≠ "_") (hx : (part ty xs off).run P w = .ok x w) (hy : (part ty ys off).run P w = .ok y w) (hr : (Op.equalIn d ty x y).run P w = .ok r w)
    (h : (Op.eqFields d xs ys fs).run P w = .ok s w) : (Op.eqFields d xs ys (f :: fs)).run P w = .ok (r && s) w := by
  obtain ⟨rfl, rfl, rfl⟩ := hf
  unfold Op.eqFields
  rw [if_pos hn]
  simp only [Sem.run_bind, hx, hy, hr, Result.andThen_ok, Sem.run_ite]
  cases r
  · simp
  · simpa using h
theorem eqF_nil {P : Program} {d : Nat} {xs ys : Array Value} {w : World} : (Op.eqFields d xs ys []).run P w = .ok true w := rfl
end Go.Proofs.Ytmfipabbdhfmcaa
