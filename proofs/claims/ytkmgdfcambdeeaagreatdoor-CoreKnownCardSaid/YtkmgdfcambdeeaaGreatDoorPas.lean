/- The document's Next, further (layer core), in words of capabilities. No statement is proved here.; The document's Way (layer core). No statement is proved here.; The document's Number, truth, Width, jumper (layer core), in words of capabilities. No statement is proved here. -/
import Derived.BigFrame
import Derived.BigQuiet
import Derived.LoopTactic
import Derived.Handy
import Derived.Deep.RegionHeld3
import Derived.Test.YtkmgdfcambdeeaaGreatDoorPam
import Derived.Test.YtkmgdfcambdeeaaGreatDoorPao
import Derived.Test.YtkmgdfcambdeeaaGreatDoorPal
import Derived.Test.YtkmgdfcambdeeaaGreatDoorPar
namespace Go.Proofs.YtkmgdfcambdeeaaGreatDoor
set_option maxRecDepth 100000
open Go.RowKit
set_option linter.unusedVariables false
/-- The program's capability, so many words further. -/
def fur (F : List Cp) (n : Int) : Cp := cAddr (reg F 16) ((((reg F 16).cu : Int) + 4 * (n % 4294967296) % 4294967296) % 4294967296).toNat
/-- One word further. -/
def nxt (F : List Cp) : List Cp := F.set 16 (fur F 1)
theorem res_one {P : Program} {fn : Func} {p : Tmp} {ty : TypeId} (h : fn.results = #[.cell p ty]) {tmps : Array Value} {w : World} {g : Nat} {v : Value} (hp : tmps.getD p undef = .pointer (some ⟨g, 0, none⟩)) (hl : (loadVar ty ⟨g, 0, none⟩).run P w = .ok v w) : (results fn tmps).run P w = .ok v w := by
  have hp' : tmps[p]?.getD undef = .pointer (some ⟨g, 0, none⟩) := by simpa using hp
  simp [results, h, asAddr, hp', hl]
end Go.Proofs.YtkmgdfcambdeeaaGreatDoor
namespace Go.Proofs.YtkmgdfcambdeeaaGreatDoor
set_option maxRecDepth 100000
open Go.RowKit
set_option linter.unusedVariables false
/-- The trap of a way. -/
def wayT (c : Cp) (a n pm N : Nat) : Int :=
  if c.va = false then 1 else if c.ty ≠ 0 then 2 else if c.pm &&& pm ≠ pm then 3 else if hoP c.lo c.hi a n = false ∨ N < a + n then 4 else if a % n ≠ 0 then 5 else 0
section
variable {w : World} {r rb tb N g : Nat} {f : Nat → Bool} {l : List UInt8}
end
end Go.Proofs.YtkmgdfcambdeeaaGreatDoor
namespace Go.Proofs.YtkmgdfcambdeeaaGreatDoor
set_option maxRecDepth 100000
open Go.RowKit
set_option linter.unusedVariables false
/-- A number. -/
def numC (v : Nat) : Cp := ⟨v, 0, 0, 0, 0, 0, 0, false⟩
theorem numC_fit {v : Nat} (h : v < 4294967296) : (numC v).fit := ⟨h, (by decide : 0 < 256), (by decide : 0 < 65536), (by decide : 0 < 65536), (by decide : 0 < 65536), (by decide : 0 < 65536), (by decide : 0 < 4294967296)⟩
theorem load_cp {W w : World} {L : List Rw} (h : KR W L w) {g : Nat} {c : Cp} (hx : (⟨g, c.C⟩ : Rw) ∈ L) : (loadVar 25 ⟨g, 0, none⟩).run Tryz.prog w = .ok c.V w :=
  run_loadVar_mid w g 0 _ c.C _ (h.range hx) Tryz.underlying25 rfl (size_cp c)
/-- How many bytes an operation loads or stores. -/
def widI (op : Int) : Int := if op = 17 ∨ op = 20 then 1 else if op = 18 ∨ op = 21 then 2 else if op = 19 ∨ op = 22 then 4 else if op = 23 ∨ op = 24 then 16 else 0
/-- The trap of a jump by a capability. -/
def jmpT (c : Cp) : Int := if c.va = false then 1 else if c.ty ≠ 0 then 2 else if c.pm &&& 4 = 0 then 3 else 0
end Go.Proofs.YtkmgdfcambdeeaaGreatDoor
