/- The document's derived (layer core): what an operation makes of registers. No statement is proved here. -/
import Derived.Deep.RegionHeld
import Derived.Laws.ResultCell
import Derived.Test.YtkmgdfcambdeeaaGreatDoorPas
import Derived.Test.YtkmgdfcambdeeaaGreatDoorPav
namespace Go.Proofs.YtkmgdfcambdeeaaGreatDoor
set_option maxRecDepth 100000
open Go.RowKit
set_option linter.unusedVariables false
theorem res_two {P : Program} {fn : Func} {p u : Tmp} {ty : TypeId} (h : fn.results = #[.cell p ty, .tmp u]) {tmps : Array Value} {w : World} {g : Nat} {v x : Value} (hp : tmps.getD p undef = .pointer (some ⟨g, 0, none⟩)) (hu : tmps.getD u undef = x) (hl : (loadVar ty ⟨g, 0, none⟩).run P w = .ok v w) : (results fn tmps).run P w = .ok (.tuple #[v, x]) w := by
  rw [results_cell_tmp h, hp, hu]
  simp [asAddr, hl]
/-- What an operation makes of registers; is it one that does? -/
def dDer (F : List Cp) (op : Int) (b c : Cp) (m : Int) : Cp :=
  if op = 1 then numC (m % 4294967296).toNat
  else if op = 2 then numC (m % 4294967296 * 4096 % 4294967296).toNat
  else if op = 16 then numC (((b.cu : Int) + m % 4294967296) % 4294967296).toNat
  else if op = 31 then b
  else if op = 41 then cClear b
  else if op = 32 then cAddr b (((b.cu : Int) + (c.cu : Int)) % 4294967296).toNat
  else if op = 33 then cAddr b (((b.cu : Int) + m % 4294967296) % 4294967296).toNat
  else if op = 34 then cAddr b c.cu
  else if op = 35 then cSet b c.cu
  else if op = 36 then cExact b c.cu
  else if op = 37 then cAnd b c.cu
  else if op = 38 then cSeal b c
  else if op = 39 then cOpen b c
  else if op = 40 then cBuild c b
  else if op = 42 then numC b.cu
  else if op = 43 then numC (deB b.e b.b b.t b.cu).toNat
  else if op = 44 then numC (min (deT b.e b.b b.t b.cu - deB b.e b.b b.t b.cu) 4294967295).toNat
  else if op = 45 then numC b.pm
  else if op = 46 then numC b.ty
  else if op = 47 then numC (if b.va then 1 else 0)
  else if op = 48 then numC (if isNumP b.e b.b b.t b.pm b.ty b.rs b.va then 1 else 0)
  else if op = 49 then fur F m
  else zC
def isD (op : Int) : Bool := decide (op = 1 ∨ op = 2 ∨ op = 16 ∨ op = 31 ∨ op = 41 ∨ op = 32 ∨ op = 33 ∨ op = 34 ∨ op = 35 ∨ op = 36 ∨ op = 37 ∨ op = 38 ∨ op = 39 ∨ op = 40 ∨ op = 42 ∨ op = 43 ∨ op = 44 ∨ op = 45 ∨ op = 46 ∨ op = 47 ∨ op = 48 ∨ op = 49)
end Go.Proofs.YtkmgdfcambdeeaaGreatDoor
