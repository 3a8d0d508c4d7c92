/- Contracts of layer isa over its tables: Name, Form, Op. No statement is proved here.; The document's Fetch (layer core). No statement is proved here.; From the rows' condition on the two tables of names and forms to the walks' fact, and a world that meets it. No statement is proved here. -/
import Derived.Deep.LoopGhost
import Derived.Laws.Rows
import Derived.Test.YtkmgdfcambdeeaaGreatDoorRows
import Derived.ChangeSame
import Derived.ChangeVars
import Derived.ChangeArms
import Derived.JoinedOf
import Derived.RowKitTokens
import Derived.LaidLaws
import Derived.LaidHandle
import Derived.Lib.LaidTab
import Derived.Test.YtkmgdfcambdeeaaGreatDoorPav
import Derived.Test.YtkmgdfcambdeeaaGreatDoorPau
import Derived.Test.YtkmgdfcambdeeaaGreatDoorPaw
namespace Go.Proofs.YtkmgdfcambdeeaaGreatDoor
set_option maxRecDepth 100000
open Go.RowKit
set_option linter.unusedVariables false

/-- A table of texts lies in a block, and fills it. -/
def strVs (l : List (List UInt8)) : Array Value := (l.map fun s => Value.string ⟨s.toArray⟩).toArray
def StrTab (w : World) (g : Nat) (l : List (List UInt8)) : Prop := ∃ t fr, w.heap[g]? = some (.cells (strVs l) t fr)
theorem StrTab.lt {w : World} {g : Nat} {l : List (List UInt8)} (h : StrTab w g l) : g < w.heap.size :=
  let ⟨_, _, h⟩ := h
  (Array.getElem?_eq_some_iff.1 h).1
theorem StrTab.below {w w' : World} {g : Nat} {l : List (List UInt8)} (h : StrTab w g l) (k : Below w.heap.size w w') : StrTab w' g l :=
  let ⟨t, fr, e⟩ := h
  ⟨t, fr, (k.block g h.lt).trans e⟩
theorem StrTab.cell {w : World} {g : Nat} {l : List (List UInt8)} (h : StrTab w g l) (j : Nat) (s : List UInt8) (hs : l[j]? = some s) : w.cell? ⟨g, j, none⟩ = some (.string ⟨s.toArray⟩) := by
  obtain ⟨t, fr, e⟩ := h
  simp [World.cell?, e, strVs, hs]
/-- The two tables lie as the program's text lays them. -/
def Tabs (w : World) : Prop := True ∧ StrTab w 0 formL
theorem Tabs.below {w w' : World} (h : Tabs w) (k : Below w.heap.size w w') : Tabs w' := ⟨h.1, h.2.below k⟩

theorem formL_at {n : Nat} (h : 1 ≤ n ∧ n ≤ 53) : formL[n]? = some (formAt (n : Int)) := by
  rw [formAt_in h]
  have hn : n < formL.length := by simp [formL]; omega
  simp [List.getD, List.getElem?_eq_getElem hn]
theorem Form_any (op : Int) (w : World) (hT : Tabs w) : Calls Tryz.prog 116 #[.int .i64 op] w fun e w' => e = .returned (.string ⟨(formAt op).toArray⟩) ∧ w = w' := by
  by_cases h : 1 ≤ op ∧ op ≤ 53
  · obtain ⟨n, rfl⟩ := Int.eq_ofNat_of_zero_le (show 0 ≤ op by omega)
    have hc := hT.2.cell n _ (formL_at (by omega))
    have h0 : (0 : Int) ≤ (n : Int) := by omega
    have h1 : (n : Int) < 54 := by omega
    obtain ⟨s, hs⟩ : ∃ s, s = formAt (n : Int) := ⟨_, rfl⟩
    rw [← hs] at hc ⊢
    have hC := Lib.hid (isOp_yes (n : Int) w h.1 h.2)
    clear hT h hs
    go_enter Tryz.func116, Tryz.ntmps116
    go_wp2_with fail
    refine (hC.out).mono ?_
    rintro e w' ⟨rfl, rfl⟩
    go_wp2
    go_ret
    exact ⟨rfl, rfl⟩
  · have hC := Lib.hid (isOp_no op w h)
    rw [formAt_out h]
    clear h hT
    go_enter Tryz.func116, Tryz.ntmps116
    go_wp2_with fail
    refine (hC.out).mono ?_
    rintro e w' ⟨rfl, rfl⟩
    go_wp2
    go_ret
    exact ⟨rfl, rfl⟩
end Go.Proofs.YtkmgdfcambdeeaaGreatDoor
namespace Go.Proofs.YtkmgdfcambdeeaaGreatDoor
set_option maxRecDepth 100000
open Go.RowKit
set_option linter.unusedVariables false
theorem start_ft (F : List Cp) (W : World) : KR W [⟨W.heap.size + 1, ir 0 0 0 0 0⟩, ⟨W.heap.size, fC F⟩] ((W.alloc (.cells (fC F).toArray 28)).alloc (.cells #[.int .i64 0, .int .i64 0, .int .i64 0, .int .i64 0, .int .i64 0] 30)) := start_fi F 0 0 0 0 0 W
theorem getB4_lt (l : List UInt8) (a : Nat) : getB l a 4 < 4294967296 := by
  unfold getB
  split
  · have h := le_lt ((l.drop (a : Int).toNat).take (4 : Int).toNat)
    exact Nat.lt_of_lt_of_le h (Nat.pow_le_pow_right (n := 256) (by decide) (show ((l.drop (a : Int).toNat).take (4 : Int).toNat).length ≤ 4 by simp; omega))
  · decide
theorem size_in (i : Ins) : (Tryz.prog.info? 30).map (·.size) = some (ir i.op i.a i.b i.c i.m).length := by kernel_rfl
theorem size_ia (i : Ins) : (Tryz.prog.info? 30).map (·.size) = some (ir i.op i.a i.b i.c i.m).toArray.size := by kernel_rfl
theorem one_in (i : Ins) : (ir i.op i.a i.b i.c i.m).toArray.all (·.oneCell') = true := all_oneCell_toArray (fun v h => by
  unfold ir at h
  simp only [List.mem_cons, List.not_mem_nil, or_false] at h
  rcases h with rfl | rfl | rfl | rfl | rfl <;> rfl)
theorem load_in {W w : World} {L : List Rw} (h : KR W L w) {g : Nat} {i : Ins} (hx : (⟨g, ir i.op i.a i.b i.c i.m⟩ : Rw) ∈ L) : (loadVar 30 ⟨g, 0, none⟩).run Tryz.prog w = .ok (iv i) w :=
  run_loadVar_mid w g 0 _ (ir i.op i.a i.b i.c i.m) _ (h.range hx) Tryz.underlying30 rfl (size_in i)
section
variable {W : World} {r rb tb N g : Nat} {f : Nat → Bool} {l : List UInt8}
end
end Go.Proofs.YtkmgdfcambdeeaaGreatDoor
namespace Go.Proofs.YtkmgdfcambdeeaaGreatDoor
set_option maxRecDepth 100000
open Go.RowKit Go.ChangeShapes Go.WideShapes Go.ChangeAt
set_option linter.unusedVariables false

/-- An array of texts, as a row lists it. -/
def strData {H : Type} (ls : List (List UInt8)) : DataW H := .agg (ls.map fun s => .lit (.string s))
theorem cells_of_strs {H : Type} {enc : TypeId × Value → H} {P : Program} {w : World} {base : Nat} {sp : Nat → Bool} {held : Bool} {fuel : Nat} {t e : TypeId} {n : Nat} {cs : List Value} {ls : List (List UInt8)} {p : List MemPlace}
    (ht : P.underlying t = some (.array n e)) (he : P.underlying e = some .string) (hce : P.cellsOf e = 1) (hct : P.cellsOf t = n)
    (h : DataW.trod enc P w base sp held fuel t cs = some (strData ls, p)) : cs = ls.map fun s => Value.string ⟨s.toArray⟩ := by
  cases fuel with
  | zero => simp [DataW.trod] at h
  | succ fuel =>
    simp only [DataW.trod, ht, hce, hct, Nat.mul_one] at h
    split at h
    · rename_i hl
      obtain ⟨xs, hm, hx⟩ := Option.map_eq_some_iff.1 h
      have hxs : xs.map (·.1) = ls.map fun s => (DataW.lit (.string s) : DataW H) := by
        have := congrArg Prod.fst hx
        simpa [strData] using this
      have hxl : xs.length = n := by simpa using Lib.mapM_length hm
      have hzl : ls.length = n := by
        have := congrArg List.length hxs
        simp at this
        omega
      apply List.ext_getElem?
      intro i
      by_cases hi : i < n
      · obtain ⟨b, hb, hf⟩ := Lib.mapM_at hm i i (by simp [hi])
        obtain ⟨s, hc, rfl, _⟩ := DataW.trod_string he hf
        have h1 : cs[i]? = some (.string s) := by
          have := congrArg (·[0]?) hc
          simpa [List.getElem?_take, List.getElem?_drop] using this
        have h2 : (xs.map (·.1))[i]? = some (DataW.lit (.string s.data.toList) : DataW H) := by simp [hb]
        rw [hxs] at h2
        simp only [List.getElem?_map, Option.map_eq_some_iff, DataW.lit.injEq, Lit.string.injEq] at h2
        obtain ⟨z', hz', e1⟩ := h2
        subst e1
        simp [h1, hz']
      · rw [List.getElem?_eq_none (by omega), List.getElem?_eq_none (by simp; omega)]
    · cases h

theorem own : ownKnob Tryz.prog.godebug = none := by kernel_rfl
theorem laidOut : laidOutB Tryz.prog = true := by kernel_rfl
theorem gForms : Tryz.prog.globalNamed "fallow/isa.forms" = some 0 := by kernel_rfl
theorem tForms : (Tryz.prog.globals[0]?).map (·.type) = some 206 := by kernel_rfl
/-- What the rows list. -/
def laidL : List (String × DataW Unit) := [("fallow/isa.forms", Rows.laid_fallow_isa_forms)]
/-- A world in which the tables hold what the program's text lays: the witness. -/
noncomputable def laidWorld (os : Os) : World :=
  let w0 := World.holding Tryz.prog os ⟨#[], #[], []⟩
  { w0 with heap := w0.heap.modify 0 fun
      | .cells _ t frozen => .cells (strVs formL) t frozen
      | o => o }
theorem laid_met (os : Os) (args : Array Value) : laidMetH Tryz.prog laidL ((laidWorld os).forCall (fun _ _ => 0) ⟨#[], args, []⟩).memory :=
  laidMetH_of_parts (laidMet_of_run' 8 (by kernel_rfl) (by kernel_rfl)) (by kernel_rfl)
/-- What the rows' condition says of the tables. -/
theorem tabs_of_laid {W : World} (h : laidMetH Tryz.prog laidL W) : Tabs W := by
  have h' : laidMet Tryz.prog (("fallow/isa.forms", strData formL) :: []) W := h
  obtain ⟨ps, ⟨g2, t2, cs2, fuel2, p2, q2, hg2, ht2, hvar2, hd2, _, _⟩, _⟩ := h'
  obtain rfl := Option.some.inj (gForms.symm.trans hg2)
  obtain rfl := Option.some.inj (tForms.symm.trans ht2)
  have e2 := cells_of_strs Tryz.underlying206 Tryz.underlying9 (by kernel_rfl) (by kernel_rfl) hd2
  refine ⟨trivial, ?_⟩
  simp only [World.var?, hg2, Option.bind_some] at hvar2
  split at hvar2
  · rename_i c ty fr hh
    obtain rfl := Option.some.inj hvar2
    exact ⟨ty, fr, by rw [hh, show strVs formL = c from by unfold strVs; rw [← e2]]⟩
  · cases hvar2
end Go.Proofs.YtkmgdfcambdeeaaGreatDoor
