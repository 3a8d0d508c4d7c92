/- Contracts of layer isa over its tables: Name, Form, Op. No statement is proved here. -/
import Derived.Test.YtdkggahkfheocaaGreatDoorIsA
import Derived.Deep.LoopGhost
import Derived.Laws.Rows
namespace Go.Proofs.YtdkggahkfheocaaGreatDoor
set_option maxRecDepth 100000
open Go.RowKit
set_option linter.unusedVariables false

/-- A table of texts lies in a block, and fills it. -/
def strVs (l : List (List UInt8)) : Array Value := (l.map fun s => Value.string ⟨s.toArray⟩).toArray
def StrTab (w : World) (g : Nat) (l : List (List UInt8)) : Prop := ∃ t fr, w.heap[g]? = some (.cells (strVs l) t fr)
theorem StrTab.lt {w : World} {g : Nat} {l : List (List UInt8)} (h : StrTab w g l) : g < w.heap.size :=
  let ⟨_, _, h⟩ := h
  (Array.getElem?_eq_some_iff.1 h).1
theorem StrTab.below {w w' : World} {g : Nat} {l : List (List UInt8)} (h : StrTab w g l) (k : Below w.heap.size w w') : StrTab w' g l :=
  let ⟨t, fr, e⟩ := h
  ⟨t, fr, (k.block g h.lt).trans e⟩
theorem StrTab.cell {w : World} {g : Nat} {l : List (List UInt8)} (h : StrTab w g l) (j : Nat) (s : List UInt8) (hs : l[j]? = some s) : w.cell? ⟨g, j, none⟩ = some (.string ⟨s.toArray⟩) := by
  obtain ⟨t, fr, e⟩ := h
  simp [World.cell?, e, strVs, hs]
/-- The two tables lie as the program's text lays them. -/
def Tabs (w : World) : Prop := StrTab w 0 nameL ∧ StrTab w 1 formL
theorem Tabs.below {w w' : World} (h : Tabs w) (k : Below w.heap.size w w') : Tabs w' := ⟨h.1.below k, h.2.below k⟩

theorem nameL_at {n : Nat} (h : 1 ≤ n ∧ n ≤ 53) : nameL[n]? = some (nameAt (n : Int)) := by
  rw [nameAt_in h]
  have hn : n < nameL.length := by simp [nameL]; omega
  simp [List.getD, List.getElem?_eq_getElem hn]
theorem formL_at {n : Nat} (h : 1 ≤ n ∧ n ≤ 53) : formL[n]? = some (formAt (n : Int)) := by
  rw [formAt_in h]
  have hn : n < formL.length := by simp [formL]; omega
  simp [List.getD, List.getElem?_eq_getElem hn]
theorem ret_str {a b : List UInt8} (h : a = b) : Ending.returned (.string ⟨a.toArray⟩) = .returned (.string ⟨b.toArray⟩) := by rw [h]

theorem Form_any (op : Int) (w : World) (hT : Tabs w) : Calls Tryz.prog 28 #[.int .i64 op] w fun e w' => e = .returned (.string ⟨(formAt op).toArray⟩) ∧ w = w' := by
  by_cases h : 1 ≤ op ∧ op ≤ 53
  · obtain ⟨n, rfl⟩ := Int.eq_ofNat_of_zero_le (show 0 ≤ op by omega)
    have hc := hT.2.cell n _ (formL_at (by omega))
    have h0 : (0 : Int) ≤ (n : Int) := by omega
    have h1 : (n : Int) < 54 := by omega
    obtain ⟨s, hs⟩ : ∃ s, s = formAt (n : Int) := ⟨_, rfl⟩
    rw [← hs] at hc ⊢
    have hC := Lib.hid (isOp_yes (n : Int) w h.1 h.2)
    clear hT h hs
    go_enter Tryz.func28, Tryz.ntmps28
    go_wp2_with fail
    refine (hC.out).mono ?_
    rintro e w' ⟨rfl, rfl⟩
    go_wp2
    go_ret
    exact ⟨rfl, rfl⟩
  · have hC := Lib.hid (isOp_no op w h)
    rw [formAt_out h]
    clear h hT
    go_enter Tryz.func28, Tryz.ntmps28
    go_wp2_with fail
    refine (hC.out).mono ?_
    rintro e w' ⟨rfl, rfl⟩
    go_wp2
    go_ret
    exact ⟨rfl, rfl⟩
theorem Name_any (op : Int) (w : World) (hT : Tabs w) : Calls Tryz.prog 27 #[.int .i64 op] w fun e w' => e = .returned (.string ⟨(nameAt op).toArray⟩) ∧ w = w' := by
  by_cases h : 1 ≤ op ∧ op ≤ 53
  · obtain ⟨n, rfl⟩ := Int.eq_ofNat_of_zero_le (show 0 ≤ op by omega)
    have hc := hT.1.cell n _ (nameL_at (by omega))
    have h0 : (0 : Int) ≤ (n : Int) := by omega
    have h1 : (n : Int) < 54 := by omega
    obtain ⟨s, hs⟩ : ∃ s, s = nameAt (n : Int) := ⟨_, rfl⟩
    rw [← hs] at hc ⊢
    have hC := Lib.hid (isOp_yes (n : Int) w h.1 h.2)
    clear hT h hs
    go_enter Tryz.func27, Tryz.ntmps27
    go_wp2_with fail
    refine (hC.out).mono ?_
    rintro e w' ⟨rfl, rfl⟩
    go_wp2
    go_ret
    exact ⟨rfl, rfl⟩
  · have hC := Lib.hid (isOp_no op w h)
    rw [nameAt_out h]
    clear h hT
    go_enter Tryz.func27, Tryz.ntmps27
    go_wp2_with fail
    refine (hC.out).mono ?_
    rintro e w' ⟨rfl, rfl⟩
    go_wp2
    go_ret
    exact ⟨rfl, rfl⟩

/-- The operation of a name: its place among the names, 0 if it has none. -/
def opAt (s : List UInt8) : Int := ((nameL.findIdx? (· == s)).getD 0 : Nat)
theorem opAt_hit {s : List UInt8} {n : Nat} (hn : n < 54) (h : nameL.getD n [] = s) (hl : ∀ j, j < n → nameL.getD j [] ≠ s) : opAt s = n := by
  have hn' : n < nameL.length := hn
  have e : nameL.findIdx? (· == s) = some n := by
    rw [List.findIdx?_eq_some_iff_getElem]
    refine ⟨hn', ?_, fun j hj => ?_⟩
    · have : nameL[n] = s := by rw [← h]; simp [List.getD, List.getElem?_eq_getElem hn']
      simp [this]
    · have hj' : j < nameL.length := by omega
      have := hl j hj
      simp only [List.getD, List.getElem?_eq_getElem hj', Option.getD_some] at this
      simpa using this
  unfold opAt
  rw [e]; rfl
theorem opAt_miss {s : List UInt8} (hl : ∀ j, j < 54 → nameL.getD j [] ≠ s) : opAt s = 0 := by
  have e : nameL.findIdx? (· == s) = none := by
    rw [List.findIdx?_eq_none_iff]
    intro x hx
    obtain ⟨j, hj, rfl⟩ := List.getElem_of_mem hx
    have := hl j hj
    simp only [List.getD, List.getElem?_eq_getElem hj, Option.getD_some] at this
    simpa using this
  unfold opAt
  rw [e]; rfl
set_option maxRecDepth 100000 in
theorem index_names (n : Nat) (h : n < 54) : ∀ w, (Instr.index 113 (.agg (strVs nameL)) (.int .i64 n)).run Tryz.prog w = .ok (.string ⟨(nameL.getD n []).toArray⟩) w := by
  have : n = 0 ∨ n = 1 ∨ n = 2 ∨ n = 3 ∨ n = 4 ∨ n = 5 ∨ n = 6 ∨ n = 7 ∨ n = 8 ∨ n = 9 ∨ n = 10 ∨ n = 11 ∨ n = 12 ∨ n = 13 ∨ n = 14 ∨ n = 15 ∨ n = 16 ∨ n = 17 ∨ n = 18 ∨ n = 19 ∨ n = 20 ∨ n = 21 ∨ n = 22 ∨ n = 23 ∨ n = 24 ∨ n = 25 ∨ n = 26 ∨ n = 27 ∨ n = 28 ∨ n = 29 ∨ n = 30 ∨ n = 31 ∨ n = 32 ∨ n = 33 ∨ n = 34 ∨ n = 35 ∨ n = 36 ∨ n = 37 ∨ n = 38 ∨ n = 39 ∨ n = 40 ∨ n = 41 ∨ n = 42 ∨ n = 43 ∨ n = 44 ∨ n = 45 ∨ n = 46 ∨ n = 47 ∨ n = 48 ∨ n = 49 ∨ n = 50 ∨ n = 51 ∨ n = 52 ∨ n = 53 := by omega
  rcases this with rfl | rfl | rfl | rfl | rfl | rfl | rfl | rfl | rfl | rfl | rfl | rfl | rfl | rfl | rfl | rfl | rfl | rfl | rfl | rfl | rfl | rfl | rfl | rfl | rfl | rfl | rfl | rfl | rfl | rfl | rfl | rfl | rfl | rfl | rfl | rfl | rfl | rfl | rfl | rfl | rfl | rfl | rfl | rfl | rfl | rfl | rfl | rfl | rfl | rfl | rfl | rfl | rfl | rfl <;> exact fun w => by kernel_rfl
theorem info_names : (Tryz.prog.info? 113).map (·.size) = some (strVs nameL).size := by kernel_rfl

theorem Op_any (s : List UInt8) (w : World) (hT : Tabs w) : Calls Tryz.prog 77 #[.string ⟨s.toArray⟩] w fun e w' => e = .returned (.int .i64 (opAt s)) ∧ w = w' := by
  obtain ⟨⟨t, fr, hg⟩, -⟩ := hT
  have HI := Lib.hid index_names
  have HN := info_names
  generalize strVs nameL = cs at *
  replace HN := Lib.hid HN
  go_enter Tryz.func77, Tryz.ntmps77
  go_wp2_with (refine wpList_load_row rfl 113 _ rfl 0 rfl _ cs fr _ hg Tryz.underlying113 rfl HN.out ?_)
  go_loop [6] (fun i => ∃ p : Nat, p ≤ 54 ∧ i = .int .i64 p ∧ ∀ j, j < p → nameL.getD j [] ≠ s) (fun i => 54 - (intOf i).toNat)
  case atStart => exact ⟨0, by omega, rfl, fun j hj => by omega⟩
  case round =>
    obtain ⟨p, hp, rfl, hl⟩ := hrel
    have HL := Lib.hid hl
    clear hl
    by_cases hlt : p < 54
    · have hix := HI.out p hlt
      obtain ⟨z, hz⟩ : ∃ z, z = nameL.getD p [] := ⟨_, rfl⟩
      rw [← hz] at hix
      replace hz := Lib.hid hz
      by_cases he : z = s
      · subst he
        go_wp2
        go_ret
        exact ⟨ret_int (opAt_hit hlt hz.out.symm HL.out).symm, rfl⟩
      · have he' : (z == s) = false := by simpa using he
        clear he
        go_wp2
        go_round
        case rel =>
          refine ⟨p + 1, by omega, by go_num, fun j hj => ?_⟩
          by_cases hj' : j = p
          · subst hj'
            rw [← hz.out]
            simpa using he'
          · exact HL.out j (by omega)
        case measure => simp [intOf]; omega
    · obtain rfl : p = 54 := by omega
      go_wp2
      go_ret
      exact ⟨ret_int (opAt_miss HL.out).symm, rfl⟩
end Go.Proofs.YtdkggahkfheocaaGreatDoor
