/- Arguments by value, opened to their cells (as XFlat's last; stated again for the texts that stand on the lesser base). No statement is proved here. -/
import Derived.Test.YtkmgdfcambdeeaaGreatDoorPCAlP
namespace Go.Proofs.YtkmgdfcambdeeaaGreatDoor
open Go.ChangeShapes Go.WideShapes Go.RowKit
set_option linter.unusedVariables false
theorem open_flat {H : Type} {enc : TypeId × Value → H} {P : Program} {w : World} {base : Nat} {spare : Nat → Bool} {held : Bool} {r : Reach} {b0 : Nat} {t : TypeId} {v : Value} {dd : DataW H} {p : List MemPlace} {ks : List (Option IntKind)} (d : Nat) (hl : layOf P d t = some ks)
    (hs : (∃ fs, P.underlying t = some (.struct fs)) ∨ ∃ n e, P.underlying t = some (.array n e))
    (hv : Value.okWide P w r b0 t v) (h : DataW.Trod enc P w base spare held t v dd p) : ∃ cs : List Value, v = .agg cs.toArray ∧ FitL ks cs := by
  obtain ⟨fuel, hf⟩ := h
  have hk := lay_fit d t ks hl fuel _ _ hf
  rcases hs with ⟨fs, hu⟩ | ⟨n, e, hu⟩
  · obtain ⟨cs, rfl, _⟩ := okWide_struct hu hv
    exact ⟨cs.toList, by simp, by simpa [Value.cells] using hk⟩
  · simp only [Value.okWide, hu] at hv
    obtain ⟨cs, rfl, _⟩ := hv
    exact ⟨cs.toList, by simp, by simpa [Value.cells] using hk⟩
end Go.Proofs.YtkmgdfcambdeeaaGreatDoor
