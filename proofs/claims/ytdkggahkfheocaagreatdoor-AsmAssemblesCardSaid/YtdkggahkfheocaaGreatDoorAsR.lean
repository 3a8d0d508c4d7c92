/- Plain words for layer asm: what a line's words say. No statement is proved here. -/
import Derived.Test.YtdkggahkfheocaaGreatDoorAsG
namespace Go.Proofs.YtdkggahkfheocaaGreatDoor
open Go.Lib

def preB (x : UInt8) : Bool := x == 97 || x == 98 || x == 99
def setF (i : Ins) (x : UInt8) (v : Int) : Ins := if x = 97 then { i with a := v } else if x = 98 then { i with b := v } else if x = 99 then { i with c := v } else { i with m := v }
/-- What a form's letters name, read one behind the other: the instruction, a label, what is left. -/
def argsP (op : Int) : List UInt8 → Ins → List UInt8 → List (List UInt8) → Option (Ins × List UInt8 × List (List UInt8))
  | [], i, lab, ts => some (i, lab, ts)
  | x :: f, i, lab, ts =>
    if preB x = false ∧ jmpB op = true ∧ nameB (ts.headD []) = true then argsP op f i (ts.headD []) ts.tail
    else match numP (preB x) (ts.headD []) with
      | none => none
      | some v => argsP op f (setF i x v) lab ts.tail
theorem argsP_name {op : Int} {x : UInt8} {f : List UInt8} {i : Ins} {lab : List UInt8} {ts : List (List UInt8)} (h : preB x = false ∧ jmpB op = true ∧ nameB (ts.headD []) = true) : argsP op (x :: f) i lab ts = argsP op f i (ts.headD []) ts.tail := by
  rw [argsP, if_pos h]
theorem argsP_none {op : Int} {x : UInt8} {f : List UInt8} {i : Ins} {lab : List UInt8} {ts : List (List UInt8)} (h : ¬ (preB x = false ∧ jmpB op = true ∧ nameB (ts.headD []) = true)) (hn : numP (preB x) (ts.headD []) = none) : argsP op (x :: f) i lab ts = none := by
  rw [argsP, if_neg h, hn]
theorem argsP_some {op : Int} {x : UInt8} {f : List UInt8} {i : Ins} {lab : List UInt8} {ts : List (List UInt8)} {v : Int} (h : ¬ (preB x = false ∧ jmpB op = true ∧ nameB (ts.headD []) = true)) (hn : numP (preB x) (ts.headD []) = some v) : argsP op (x :: f) i lab ts = argsP op f (setF i x v) lab ts.tail := by
  rw [argsP, if_neg h, hn]
def insV (R : Option (Ins × List UInt8 × List (List UInt8))) : Int × List UInt8 × Bool := match R with
  | none => (0, [], false)
  | some (i, lab, _) => (if mayB i then encW i else 0, lab, mayB i)
def wordTx : List UInt8 := [119, 111, 114, 100]
def rawR (o : Option Int) (r : List (List UInt8)) : Option (Int × List UInt8) := match o with
  | some w => if r = [] then some (w, []) else none
  | none => none
def insR (R : Option (Ins × List UInt8 × List (List UInt8))) : Option (Int × List UInt8) := match R with
  | some (i, lab, r) => if mayB i = true ∧ r = [] then some (encW i, lab) else none
  | none => none
/-- What a line's words say: a word, and a label; none: nothing. -/
def readP (ts : List (List UInt8)) : Option (Int × List UInt8) :=
  if ts.headD [] = wordTx then rawR (rawW (ts.tail.headD [])) ts.tail.tail
  else insR (argsP (opAt (ts.headD [])) (formAt (opAt (ts.headD []))) ⟨opAt (ts.headD []), 0, 0, 0, 0⟩ [] ts.tail)
end Go.Proofs.YtdkggahkfheocaaGreatDoor
