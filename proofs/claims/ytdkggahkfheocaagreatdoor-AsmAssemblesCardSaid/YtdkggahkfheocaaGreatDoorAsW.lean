/- What layer asm's calls ask of the world: the tables and variables, as they read. No statement is proved here. -/
import Derived.Test.YtdkggahkfheocaaGreatDoorIsC
import Derived.Test.YtdkggahkfheocaaGreatDoorIsK
import Derived.Test.YtdkggahkfheocaaGreatDoorShB
import Derived.Lib.LaidTab
import Derived.WalkSmall
namespace Go.Proofs.YtdkggahkfheocaaGreatDoor
set_option maxRecDepth 100000
open Go.RowKit

theorem gPow : Tryz.prog.globalNamed "internal/strconv.uint64pow10" = some 4 := by kernel_rfl
theorem gSyn : Tryz.prog.globalNamed "strconv.ErrSyntax" = some 9 := by kernel_rfl
theorem gRng : Tryz.prog.globalNamed "strconv.ErrRange" = some 10 := by kernel_rfl
/-- The globals lie below the heap's end, and read as the program's text lays them. -/
structure T8 (w : World) : Prop where
  tabs : Tabs w
  low : 11 ≤ w.heap.size
  pow : Lib.TabIs Tryz.prog w "internal/strconv.uint64pow10" .u64 Lib.pow10Tab
  mx : ∃ m : Int, w.cell? ⟨3, 0, none⟩ = some (.int .i64 m)
  es : ∃ tp p, w.var? Tryz.prog "strconv.ErrSyntax" = some #[.iface tp p]
  er : ∃ tp p, w.var? Tryz.prog "strconv.ErrRange" = some #[.iface tp p]
theorem T8.below {w w' : World} (h : T8 w) (k : Below w.heap.size w w') : T8 w' :=
  ⟨h.tabs.below k, Nat.le_trans h.low k.size, var?_below k gPow (Nat.lt_of_lt_of_le (by decide) h.low) h.pow,
   let ⟨m, hm⟩ := h.mx; ⟨m, (k.cell (p := ⟨3, 0, none⟩) (Nat.lt_of_lt_of_le (by decide) h.low)).trans hm⟩,
   let ⟨t, p, e⟩ := h.es; ⟨t, p, var?_below k gSyn (Nat.lt_of_lt_of_le (by decide) h.low) e⟩,
   let ⟨t, p, e⟩ := h.er; ⟨t, p, var?_below k gRng (Nat.lt_of_lt_of_le (by decide) h.low) e⟩⟩
end Go.Proofs.YtdkggahkfheocaaGreatDoor
