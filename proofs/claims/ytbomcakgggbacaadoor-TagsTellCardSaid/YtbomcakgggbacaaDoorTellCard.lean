/- Proved: the card of TagsTell: its row, with the library's table tied to the program's text. -/
import Derived.Test.YtbomcakgggbacaaDoorTellRow
import Derived.Test.YtbomcakgggbacaaDoorTie
import Derived.Test.YtbomcakgggbacaaDoorCards
import Derived.SevenTiedAt
namespace Go.Proofs.YtbomcakgggbacaaDoor.tell
open Go
/-- The given statement. -/
theorem proved : Rows.TagsTellCardSaid :=
  Claim7.holds_tied_plain_at .later [] [.data] true (true, "5610ab9ee8d5b11e105c1d862b1ecda8ff4885c19e89c5c78885b4f44d13d0b4") false
    over (fun _ h => by cases h) (by kernel_rfl) (fun _ h => by cases h) tagsTell_row_tie rfl ⟨rfl, rfl⟩ (by kernel_rfl) rfl
    (fun f fn hf hfn => by
      obtain rfl : f = 3 := Option.some.inj ((show Tryd.prog.funcNamed "fallow/fallowlaw02.TagsTell" = some 3 by kernel_rfl).symm.trans hf) |>.symm
      obtain rfl : fn = Tryd.f3 := (Option.some.inj (Tryd.func3.symm.trans hfn)).symm
      exact ⟨by kernel_rfl, fun j t ht => by
        rw [Tryd.params3] at ht
        have h3 : t = 22 := by
          rcases j with _ | j
          · simpa using ht.symm
          · simp at ht
        subst h3
        exact (show Tryd.prog.wantsStandIn 22 = false by kernel_rfl)⟩)
    (by kernel_rfl)
end Go.Proofs.YtbomcakgggbacaaDoor.tell
