/- Contracts of layer asm, the program's side: what has been read, in memory; a label. No statement is proved here. -/
import Derived.Test.YtdkggahkfheocaaGreatDoorAsT
import Derived.Test.YtdkggahkfheocaaGreatDoorAsK
import Derived.StillTailTactics
namespace Go.Proofs.YtdkggahkfheocaaGreatDoor
set_option maxRecDepth 100000
open Go.RowKit Go.Lib
set_option linter.unusedVariables false

def bareL (l : List UInt8) : List UInt8 := trimB (cutA l 59) 32
theorem bare_len (l : List UInt8) : (bareL l).length ≤ l.length := by
  have h1 : (cutA l 59).length ≤ l.length := (List.takeWhile_sublist _).length_le
  have h2 : (trimRightB (cutA l 59) 32).length ≤ (cutA l 59).length := by
    unfold trimRightB
    rw [List.length_reverse]
    have := (List.dropWhile_sublist (fun x : UInt8 => x == 32) (l := (cutA l 59).reverse)).length_le
    rw [List.length_reverse] at this
    exact this
  have h3 : (trimLeftB (trimRightB (cutA l 59) 32) 32).length ≤ (trimRightB (cutA l 59) 32).length := (List.dropWhile_sublist _).length_le
  unfold bareL trimB
  omega
theorem bare_any (l : List UInt8) (W : World) (hl : l.length ≤ 9223372036854775807) : Calls Tryz.prog 47 #[.string ⟨l.toArray⟩] W fun e w' => e = .returned (.string ⟨(bareL l).toArray⟩) ∧ Below W.heap.size W w' := by
  have hC := cut1 ⟨l.toArray⟩ 59 W (by rw [size_mk]; exact hl)
  have h1 : (cutA l 59).length ≤ l.length := (List.takeWhile_sublist _).length_le
  have hT := fun w => Tryz.strings_Trim_one ⟨(cutA l 59).toArray⟩ 32 (by decide) w (by rw [size_mk]; omega)
  have e1 : (⟨l.toArray⟩ : ByteArray).data.toList = l := rfl
  have e2 : Lib.trimB (⟨(cutA l 59).toArray⟩ : ByteArray).data.toList 32 = bareL l := rfl
  simp only at hC
  simp only [e2] at hT
  generalize cutA l 59 = a at *
  generalize cutB l 59 = b at *
  generalize hasB l 59 = h at *
  generalize bareL l = r at *
  replace hC := Lib.hid hC
  replace hT := Lib.hid (fun w => (hT w).mono (R' := fun e w' => e = .returned (.string ⟨r.toArray⟩) ∧ Below w.heap.size w w') fun e w' k => ⟨k.1, by rcases k.2 with h | h <;> rw [h]; exact Below.refl _ _; exact (Below.refl _ _).drew⟩)
  clear h1 e2 hl
  go_enter Tryz.func47, Tryz.ntmps47
  go_wp2_with (first
    | (go_at_call 86; refine hC.out.mono ?_; rintro e w1 ⟨rfl, k1⟩; replace k1 := Lib.hid k1)
    | (go_at_call 87; refine (hT.out _).mono ?_; rintro e w2 ⟨rfl, k2⟩; replace k2 := Lib.hid (k1.out.trans (k2.mono k1.out.size))))
  go_ret
  exact ⟨rfl, k2.out⟩

def wV (x : Int) : Value := .int .u32 x
def jV (x : Nat × Nat × List UInt8) : List Value := [.int .i64 (x.1 : Int), .int .i64 (x.2.1 : Int), .string ⟨x.2.2.toArray⟩]
theorem infoW : (Tryz.prog.info? 24).map (fun i => (i.zero, i.size, i.bytes)) = some (some (.int .u32 0), 1, 4) := by kernel_rfl
theorem infoJ : (Tryz.prog.info? 89).map (fun i => (i.zero, i.size, i.bytes)) = some (some (.agg #[.int .i64 0, .int .i64 0, .string ⟨#[]⟩]), 3, 32) := by kernel_rfl
/-- What has been read lies in the source's box gs, the map mb, and two rows. -/
structure PS (W : World) (X : List Rw) (gs mb : Nat) (ws : List Int) (js : List (Nat × Nat × List UInt8)) (labs : List (List UInt8 × Nat)) (vw vj : Value) (w : World) : Prop where
  k : KR W (⟨gs, [vw, .map (some mb), vj]⟩ :: X) w
  ow : w.ownsRow W.heap.size 24 1 vw ws.length (ws.map wV)
  oj : w.ownsRow W.heap.size 89 3 vj js.length (js.flatMap jV)
  m : LM w mb labs.length (labF labs)
  d1 : vw.ownBlock ≠ some gs
  d2 : vw.ownBlock ≠ some mb
  d3 : vj.ownBlock ≠ some gs
  d4 : vj.ownBlock ≠ some mb
  d5 : ∀ q, vw.ownBlock = some q → vj.ownBlock ≠ some q
  d6 : ∀ x, x ∈ X → vw.ownBlock ≠ some x.g ∧ vj.ownBlock ≠ some x.g ∧ x.g ≠ gs ∧ x.g ≠ mb
  d7 : gs ≠ mb
  hg : W.heap.size ≤ gs
  hm : W.heap.size ≤ mb
section
variable {W w w' : World} {X : List Rw} {gs mb : Nat} {ws : List Int} {js : List (Nat × Nat × List UInt8)} {labs : List (List UInt8 × Nat)} {vw vj : Value}
theorem PS.below (h : PS W X gs mb ws js labs vw vj w) (k : Below w.heap.size w w') : PS W X gs mb ws js labs vw vj w' :=
  ⟨h.k.below k, owns_below h.ow k, owns_below h.oj k, h.m.below k, h.d1, h.d2, h.d3, h.d4, h.d5, h.d6, h.d7, h.hg, h.hm⟩
theorem PS.lab (h : PS W X gs mb ws js labs vw vj w) (s : List UInt8) (p : Nat) (hm : LM w' mb (labs.length + 1) (fun x => if s = x then some p else labF labs x)) (hg : w.grownBy w' (some mb)) : PS W X gs mb ws js ((s, p) :: labs) vw vj w' :=
  ⟨h.k.grown hg (fun k e => by cases e; exact h.hm) (fun x hx e => by
      rcases List.mem_cons.1 hx with rfl | hx
      · exact h.d7 (by injection e with e; exact e.symm)
      · exact (h.d6 x hx).2.2.2 (by injection e with e; exact e.symm)),
    h.ow.kept hg (.inr h.d2), h.oj.kept hg (.inr h.d4), hm, h.d1, h.d2, h.d3, h.d4, h.d5, h.d6, h.d7, h.hg, h.hm⟩
theorem PS.cells (h : PS W X gs mb ws js labs vw vj w) : w.cell? ⟨gs, 0, none⟩ = some vw ∧ w.cell? ⟨gs, 1, none⟩ = some (.map (some mb)) ∧ w.cell? ⟨gs, 2, none⟩ = some vj ∧ w.frozen? ⟨gs, 0, none⟩ = false ∧ w.frozen? ⟨gs, 2, none⟩ = false :=
  ⟨h.k.cell _ (List.mem_cons_self ..) rfl, h.k.cell _ (List.mem_cons_self ..) rfl, h.k.cell _ (List.mem_cons_self ..) rfl, h.k.soft (List.mem_cons_self ..) _, h.k.soft (List.mem_cons_self ..) _⟩
theorem lm_cell {w : World} {mb n : Nat} {F : List UInt8 → Option Nat} (h : LM w mb n F) (g j : Nat) (u : Value) (hne : g ≠ mb) : LM (w.setCell ⟨g, j, none⟩ u) mb n F := by
  obtain ⟨D, ⟨es, clock, hb, r⟩, h2⟩ := h
  exact ⟨D, ⟨es, clock, by rw [Below.heap_setCell _ _ _ _ (fun e => hne (by simpa using e.symm))]; exact hb, r⟩, h2⟩
theorem PS.mid (h : PS W X gs mb ws js labs vw vj w) {r : Option Nat} (hgr : w.grownBy w' r) (hr : r ≠ some gs) : w'.cell? ⟨gs, 0, none⟩ = some vw ∧ w'.cell? ⟨gs, 2, none⟩ = some vj ∧ w'.frozen? ⟨gs, 0, none⟩ = false ∧ w'.frozen? ⟨gs, 2, none⟩ = false := by
  obtain ⟨c0, c1, c2, f0, f2⟩ := h.cells
  have hb := hgr.block gs (h.k.lt (List.mem_cons_self ..)) (fun e => hr e.symm)
  exact ⟨(World.cell?_of_block (a := ⟨gs, 0, none⟩) hb).trans c0, (World.cell?_of_block (a := ⟨gs, 2, none⟩) hb).trans c2, (World.frozen?_of_block (a := ⟨gs, 0, none⟩) hb).trans f0, (World.frozen?_of_block (a := ⟨gs, 2, none⟩) hb).trans f2⟩
/-- The row of jumps has grown, and lies in the box. -/
theorem PS.addJ (h : PS W X gs mb ws js labs vw vj w) (j : Nat × Nat × List UInt8) (g n cap : Nat) (ho : w'.ownsRow W.heap.size 89 3 (.slice (some ⟨g, 0, none⟩) n cap) (js.length + 1) (js.flatMap jV ++ jV j))
    (hgr : w.grownBy w' vj.ownBlock) (hwh : vj.ownBlock = some g ∨ w.heap.size ≤ g) : PS W X gs mb ws (js ++ [j]) labs vw (.slice (some ⟨g, 0, none⟩) n cap) (w'.setCell ⟨gs, 2, none⟩ (.slice (some ⟨g, 0, none⟩) n cap)) := by
  have hlo : ∀ k, vj.ownBlock = some k → W.heap.size ≤ k := fun k e => (h.oj.lt k e).1
  have hk : KR W (⟨gs, [vw, .map (some mb), vj]⟩ :: X) w' := h.k.grown hgr hlo (fun x hx e => by
    rcases List.mem_cons.1 hx with rfl | hx
    · exact h.d3 e
    · exact (h.d6 x hx).2.1 e)
  have hgl := h.k.lt (List.mem_cons_self ..)
  have hml := h.m.lt
  have hg3 : g ≠ gs := fun e => by subst e; rcases hwh with q | q; exact h.d3 q; omega
  have hg4 : g ≠ mb := fun e => by subst e; rcases hwh with q | q; exact h.d4 q; omega
  have how : w'.ownsRow W.heap.size 24 1 vw ws.length (ws.map wV) := h.ow.kept hgr (by
    cases hv : vw.ownBlock with
    | none => exact .inl rfl
    | some q => exact .inr (fun e => h.d5 q hv e.symm))
  refine ⟨hk.set h.hg (fun x hx => (h.d6 x hx).2.2.1) 2 _ (by simp), owns_cell how gs 2 _ h.d1, ?_, lm_cell (h.m.kept hgr (fun e => h.d4 e.symm)) gs 2 _ h.d7, h.d1, h.d2, by simpa [Value.ownBlock] using hg3, by simpa [Value.ownBlock] using hg4, ?_, ?_, h.d7, h.hg, h.hm⟩
  · have := owns_cell ho gs 2 (.slice (some ⟨g, 0, none⟩) n cap) (by simpa [Value.ownBlock] using hg3)
    rw [List.length_append, List.flatMap_append]
    simpa using this
  · intro q hq e
    simp only [Value.ownBlock, Option.some.injEq] at e
    subst e
    rcases hwh with r | r
    · exact h.d5 _ hq r
    · have := (h.ow.lt _ hq).2; omega
  · intro x hx
    refine ⟨(h.d6 x hx).1, ?_, (h.d6 x hx).2.2⟩
    simp only [Value.ownBlock, ne_eq, Option.some.injEq]
    rintro rfl
    rcases hwh with r | r
    · exact (h.d6 x hx).2.1 r
    · have := (h.k.al x (List.mem_cons_of_mem _ hx)).1; omega
/-- The row of words has grown, and lies in the box. -/
theorem PS.addW (h : PS W X gs mb ws js labs vw vj w) (x : Int) (g n cap : Nat) (ho : w'.ownsRow W.heap.size 24 1 (.slice (some ⟨g, 0, none⟩) n cap) (ws.length + 1) (ws.map wV ++ [wV x]))
    (hgr : w.grownBy w' vw.ownBlock) (hwh : vw.ownBlock = some g ∨ w.heap.size ≤ g) : PS W X gs mb (ws ++ [x]) js labs (.slice (some ⟨g, 0, none⟩) n cap) vj (w'.setCell ⟨gs, 0, none⟩ (.slice (some ⟨g, 0, none⟩) n cap)) := by
  have hlo : ∀ k, vw.ownBlock = some k → W.heap.size ≤ k := fun k e => (h.ow.lt k e).1
  have hk : KR W (⟨gs, [vw, .map (some mb), vj]⟩ :: X) w' := h.k.grown hgr hlo (fun x hx e => by
    rcases List.mem_cons.1 hx with rfl | hx
    · exact h.d1 e
    · exact (h.d6 x hx).1 e)
  have hgl := h.k.lt (List.mem_cons_self ..)
  have hml := h.m.lt
  have hg3 : g ≠ gs := fun e => by subst e; rcases hwh with q | q; exact h.d1 q; omega
  have hg4 : g ≠ mb := fun e => by subst e; rcases hwh with q | q; exact h.d2 q; omega
  have hoj : w'.ownsRow W.heap.size 89 3 vj js.length (js.flatMap jV) := h.oj.kept hgr (by
    cases hv : vj.ownBlock with
    | none => exact .inl rfl
    | some q => exact .inr (fun e => h.d5 q e.symm hv))
  refine ⟨hk.set h.hg (fun x hx => (h.d6 x hx).2.2.1) 0 _ (by simp), ?_, owns_cell hoj gs 0 _ h.d3, lm_cell (h.m.kept hgr (fun e => h.d2 e.symm)) gs 0 _ h.d7, by simpa [Value.ownBlock] using hg3, by simpa [Value.ownBlock] using hg4, h.d3, h.d4, ?_, ?_, h.d7, h.hg, h.hm⟩
  · have := owns_cell ho gs 0 (.slice (some ⟨g, 0, none⟩) n cap) (by simpa [Value.ownBlock] using hg3)
    rw [List.length_append, List.map_append]
    exact this
  · intro q hq e
    simp only [Value.ownBlock, Option.some.injEq] at hq
    subst hq
    rcases hwh with r | r
    · exact h.d5 _ r e
    · have := (h.oj.lt _ e).2; omega
  · intro x hx
    refine ⟨?_, (h.d6 x hx).2⟩
    simp only [Value.ownBlock, ne_eq, Option.some.injEq]
    rintro rfl
    rcases hwh with r | r
    · exact (h.d6 x hx).1 r
    · have := (h.k.al x (List.mem_cons_of_mem _ hx)).1; omega
end
/-- A row of the call's own, nil or not, as a slice. -/
theorem own_slice {w : World} {base : Nat} {e : TypeId} {sz n : Nat} {v : Value} {xs : List Value} (h : w.ownsRow base e sz v n xs) : ∃ A cap, v = .slice A n cap ∧ n ≤ cap ∧ cap ≤ maxLen := by
  rcases h.2 with ⟨rfl, rfl⟩ | ⟨g, cap, cur, rfl, _, _, h1, h2, _⟩
  · exact ⟨none, 0, rfl, Nat.le_refl _, Nat.zero_le _⟩
  · exact ⟨_, cap, rfl, h1, h2⟩

def LabPost (W : World) (X : List Rw) (gs mb : Nat) (ws : List Int) (js : List (Nat × Nat × List UInt8)) (labs : List (List UInt8 × Nat)) (c : Int) (vw vj : Value) (e : Ending) (w' : World) : Prop :=
  e = .returned (.int .i64 c) ∧ PS W X gs mb ws js labs vw vj w'
set_option maxHeartbeats 4000000 in
theorem label_any (W w : World) (X : List Rw) (gs mb : Nat) (ws : List Int) (js : List (Nat × Nat × List UInt8)) (labs : List (List UInt8 × Nat)) (vw vj : Value) (h : PS W X gs mb ws js labs vw vj w) (s : List UInt8) (hs : s.length ≤ 32768) (hn : labs.length ≤ 40000) (hi : ws.length ≤ 4096) :
    Calls Tryz.prog 44 #[.pointer (some ⟨gs, 0, none⟩), .string ⟨s.toArray⟩] w
      (LabPost W X gs mb ws js (if nameB s = true ∧ (labF labs s).isSome = false then (s, ws.length) :: labs else labs) (if nameB s = true then (if (labF labs s).isSome = true then 11 else 0) else 4) vw vj) := by
  have hI := isName_any ⟨s.toArray⟩ w
  have e1 : nameB (⟨s.toArray⟩ : ByteArray).data.toList = nameB s := rfl
  rw [e1] at hI
  obtain ⟨D, hD⟩ : ∃ D, D = LabPost W X gs mb ws js (if nameB s = true ∧ (labF labs s).isSome = false then (s, ws.length) :: labs else labs) (if nameB s = true then (if (labF labs s).isSome = true then 11 else 0) else 4) vw vj := ⟨_, rfl⟩
  rw [← hD]
  replace hD := Lib.hid hD
  generalize nameB s = nb at *
  replace hI := Lib.hid hI
  obtain ⟨A, cap, rfl, ha1, ha2⟩ := own_slice h.ow
  have hil : (ws.length : Int) ≤ 4096 := by omega
  obtain ⟨n0, hn0⟩ : ∃ n0, n0 = ws.length := ⟨_, rfl⟩
  have H0 := Lib.hid h
  clear h e1
  cases nb with
  | false =>
    go_enter Tryz.func44, Tryz.ntmps44
    go_wp2_with (refine hI.out.mono ?_; rintro e w1 ⟨rfl, k1⟩; replace k1 := Lib.hid k1)
    rw [hD.out]
    exact (show _ ∧ _ from ⟨rfl, H0.out.below k1.out⟩)
  | true =>
    have hsm : s.length ≤ maxLen := by unfold maxLen; omega
    have hL := fun (u : World) (hu : PS W X gs mb ws js labs (.slice A ws.length cap) vj u) => hu.m.look s hsm
    have hP := fun (u : World) (hu : PS W X gs mb ws js labs (.slice A ws.length cap) vj u) => hu.m.put (by unfold maxLen; omega) s hsm ws.length (by omega)
    cases hf : labF labs s with
    | some p =>
      simp only [hf, Option.isSome_some, Option.getD_some] at hL hD
      replace hL := Lib.hid hL
      replace hP := Lib.hid hP
      clear hf hsm
      go_enter Tryz.func44, Tryz.ntmps44
      go_wp2_with (refine hI.out.mono ?_; rintro e w1 ⟨rfl, k1⟩; have H1 := H0.out.below k1; obtain ⟨c0, c1, c2, f0, f2⟩ := H1.cells; have hl := hL.out _ H1; replace H1 := Lib.hid H1; clear k1)
      rw [hD.out]
      exact (show _ ∧ _ from ⟨rfl, H1.out⟩)
    | none =>
      simp only [hf, Option.isSome_none, Option.getD_none] at hL hD
      replace hL := Lib.hid hL
      replace hP := Lib.hid hP
      clear hf hsm
      go_enter Tryz.func44, Tryz.ntmps44
      go_wp2_with (refine hI.out.mono ?_; rintro e w1 ⟨rfl, k1⟩; have H1 := H0.out.below k1; obtain ⟨c0, c1, c2, f0, f2⟩ := H1.cells; have hl := hL.out _ H1; replace H1 := Lib.hid H1; clear k1)
      obtain ⟨w2, hrun, hLM, hgr⟩ := hP.out _ (H1.out.below (Below.refl _ _).drew)
      have H2 := Lib.hid ((H1.out.below (Below.refl _ _).drew).lab s ws.length hLM hgr)
      clear hLM hgr
      go_still_tail 10, (by kernel_rfl)
      change wpList _ _ _ _ _ w1.drew
      go_wp2
      rw [hD.out]
      exact (show _ ∧ _ from ⟨rfl, H2.out⟩)
end Go.Proofs.YtdkggahkfheocaaGreatDoor
