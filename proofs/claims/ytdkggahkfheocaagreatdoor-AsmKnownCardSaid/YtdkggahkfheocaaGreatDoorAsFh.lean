/- From the rows' condition on the listed variables, errors.errorType among them, and from the world's shape, to what layer asm's walks ask of the world; and a world that meets it. No statement is proved here. -/
import Derived.Test.YtdkggahkfheocaaGreatDoorAsF
namespace Go.Proofs.YtdkggahkfheocaaGreatDoor
set_option maxRecDepth 100000
open Go.RowKit Go.ChangeShapes Go.WideShapes Go.ChangeAt
set_option linter.unusedVariables false

/-- errors.errorType holds the type error. -/
def HE (w : World) : Prop := w.cell? ⟨2, 0, none⟩ = some (.iface 170 (.agg #[.pointer (some ⟨11, 33, none⟩)]))
theorem HE.below {w w' : World} (h : HE w) (hT : T8 w) (k : Below w.heap.size w w') : HE w' := (k.cell (p := ⟨2, 0, none⟩) (Nat.lt_of_lt_of_le (by decide) hT.low)).trans h
def laidHL : List (String × DataW Unit) := Rows.asmKnownRow.laid
theorem gEt : Tryz.prog.globalNamed "errors.errorType" = some 2 := by kernel_rfl
theorem hRt : (Tryz.prog.cutTypes.find? (·.1 == "internal/reflectlite.rtype")).map (·.2) = some 170 := by kernel_rfl
theorem hOne : ((List.range 245).filter fun t => Tryz.prog.rowNamed t [101, 114, 114, 111, 114]) = [33] := by kernel_rfl
theorem hSize : Tryz.prog.types.size = 245 := by kernel_rfl
theorem parts_of_laidH {W : World} (h : laidMetH Tryz.prog laidHL W) (hsh : W.ShapedOpen Tryz.prog) : T8 W ∧ HE W := by
  have q1 : (laidHL.filter fun x => x.2.handleName?.isSome) = [("errors.errorType", (Rows.laid_errors_errorType : DataW Unit))] := by kernel_rfl
  have q2 : (laidHL.filter fun x => x.2.handleName?.isNone) = laidL := by kernel_rfl
  have h' : laidMet Tryz.prog laidL W ∧ handlesMet Tryz.prog [("errors.errorType", (Rows.laid_errors_errorType : DataW Unit))] W := by
    unfold laidMetH at h
    rw [q1, q2] at h
    exact h
  refine ⟨tabs_of_laid' (l := laidL) h'.1 (List.mem_cons_of_mem _ (List.mem_cons_of_mem _ (List.mem_cons_of_mem _ (List.mem_cons_of_mem _ (List.mem_cons_of_mem _ (List.mem_cons_of_mem _ (List.mem_cons_self ..))))))) (List.mem_cons_of_mem _ (List.mem_cons_of_mem _ (List.mem_cons_of_mem _ (List.mem_cons_of_mem _ (List.mem_cons_of_mem _ (List.mem_cons_of_mem _ (List.mem_cons_of_mem _ (List.mem_cons_self ..)))))))) (List.mem_cons_of_mem _ (List.mem_cons_of_mem _ (List.mem_cons_self ..)))
    (List.mem_cons_of_mem _ (List.mem_cons_of_mem _ (List.mem_cons_of_mem _ (List.mem_cons_of_mem _ (List.mem_cons_of_mem _ (List.mem_cons_self ..)))))) (List.mem_cons_of_mem _ (List.mem_cons_of_mem _ (List.mem_cons_of_mem _ (List.mem_cons_of_mem _ (List.mem_cons_self ..))))) hsh, ?_⟩
  obtain ⟨name, u, ty, e1, e2, e3, e4, e5⟩ := h'.2 _ (List.mem_cons_self ..)
  have en : name = [101, 114, 114, 111, 114] := (Option.some.inj e1).symm
  subst en
  obtain rfl := Option.some.inj (hRt.symm.trans e2)
  have hmm : ty ∈ (List.range 245).filter fun t => Tryz.prog.rowNamed t [101, 114, 114, 111, 114] := List.mem_filter.2 ⟨List.mem_range.2 (by rw [← hSize]; exact e3), e4⟩
  rw [hOne] at hmm
  obtain rfl := List.mem_singleton.1 hmm
  have hh : typeHandle Tryz.prog 33 = .pointer (some ⟨11, 33, none⟩) := by kernel_rfl
  rw [hh] at e5
  unfold HE
  simpa using World.var?_cell gEt e5 0
noncomputable def laidW0 (os : Os) : World :=
  { World.holding Tryz.prog os ⟨#[], #[], []⟩ with heap := (World.holding Tryz.prog os ⟨#[], #[], []⟩).heap.modify 2 fun
      | .cells _ t frozen => .cells #[.iface 170 (.agg #[.pointer (some ⟨11, 33, none⟩)])] t frozen
      | o => o }
noncomputable def laidWorldH (os : Os) : World := (laidW0 os).layVars Tryz.prog laidL
theorem laid_metH (os : Os) (args : Array Value) : laidMetH Tryz.prog laidHL ((laidWorldH os).forCall (fun _ _ => 0) ⟨#[], args, []⟩).memory := by
  refine laidMetH_of_parts ?_ (by kernel_rfl)
  have e : (laidHL.filter fun x => x.2.handleName?.isNone) = laidL := by kernel_rfl
  rw [e]
  have e1 : (laidL.filter fun x => (laidL.map (·.1)).contains x.1) = laidL := List.filter_eq_self.2 fun x hx => List.contains_iff_mem.2 (List.mem_map.2 ⟨x, hx, rfl⟩)
  have e2 : (laidL.filter fun x => !(laidL.map (·.1)).contains x.1) = [] := List.filter_eq_nil_iff.2 fun x hx => by rw [List.contains_iff_mem.2 (List.mem_map.2 ⟨x, hx, rfl⟩)]; simp
  have h : laidMet Tryz.prog laidL (laidWorldH os) := laidMet_layVars (w0 := laidW0 os) (laidL.map (·.1)) [] (by rw [e1]; rfl) (by rw [e1]; kernel_rfl) (by rw [e1]; kernel_rfl) (by rw [e2]; exact LaidIn.none)
  exact h.of_heap (by simp [World.memory, World.forCall, Input.heap])
end Go.Proofs.YtdkggahkfheocaaGreatDoor
