/- Words for layer asm's closed law: sources that are refused, and contracts of the calls upon them. No statement is proved here. -/
import Derived.Test.YtdkggahkfheocaaGreatDoorAsBl
import Derived.Test.YtdkggahkfheocaaGreatDoorAsRp
import Derived.Test.YtdkggahkfheocaaGreatDoorAsWd
namespace Go.Proofs.YtdkggahkfheocaaGreatDoor
set_option maxRecDepth 100000
open Go.RowKit Go.Lib
set_option linter.unusedVariables false

def knL : List (List UInt8) := [[108, 105, 32, 32, 99, 51, 32, 45, 55], [108, 105, 32, 99, 49, 54, 32, 48], [108, 105, 32, 99, 51, 32, 45, 48, 55], [119, 111, 114, 100, 32, 48, 49], [], [32, 114, 101, 116], [114, 101, 116, 32], [108, 105, 32, 99, 51], [108, 105, 32, 99, 51, 32, 50, 48, 52, 56], [108, 105, 32, 99, 51, 32, 45, 48], [98, 101, 113, 32, 99, 48, 32, 99, 48, 32, 111, 110], [119, 111, 114, 100, 32, 52, 50, 57, 52, 57, 54, 55, 50, 57, 54], [97, 100, 100, 32, 99, 49, 32, 99, 50, 32, 99, 51, 32, 99, 52], [76, 105, 32, 99, 51, 32, 49], [119, 111, 114, 100, 32, 49, 57, 57, 50, 50, 57, 52, 52]]
theorem kn_lines : knL.map lineV = List.replicate 15 (0, 4) := by kernel_rfl
theorem kn_line (x : List UInt8) (h : x ∈ knL) : lineV x = (0, 4) ∧ x.length ≤ 100 := by
  refine ⟨?_, ?_⟩
  · have : lineV x ∈ knL.map lineV := List.mem_map_of_mem h
    rw [kn_lines] at this
    exact (List.mem_replicate.1 this).2
  · have : knL.all (fun l => decide (l.length ≤ 100)) = true := by decide
    exact of_decide_eq_true (List.all_eq_true.1 this x h)
theorem kn1 : asmL [98, 101, 113, 32, 99, 48, 32, 99, 48, 32, 111, 110] = .error (9, 0) := by kernel_rfl
theorem kn2 : asmL [97, 58, 10, 97, 58] = .error (11, 1) := by kernel_rfl
theorem kn3 : asmL [98] = .error (4, 0) := by kernel_rfl
theorem kn4 : asmL [] = .ok [] := by kernel_rfl
theorem kn5 : asmL [108, 105, 32, 99, 49, 32, 120, 10] = .error (4, 0) := by kernel_rfl
theorem kn6 : asmL [57, 97, 58] = .error (4, 0) := by kernel_rfl
theorem kn7 : asmL [119, 111, 114, 100, 32, 53] = .ok [5] := by kernel_rfl
theorem kn8 : asmL [108, 105, 32, 99, 49, 32, 48, 55] = .error (4, 0) := by kernel_rfl
theorem kn9 : asmL [109, 111, 118, 101, 32, 99, 48, 49, 32, 99, 50] = .error (4, 0) := by kernel_rfl
theorem asm_long (t : List UInt8) (h : 32768 < t.length) : asmL t = .error (3, 0) := by unfold asmL; rw [if_pos h]
theorem repeat_len (l : List UInt8) (n : Nat) : (repeatL l n).length = n * l.length := by
  induction n with
  | zero => simp [repeatL]
  | succ n ih => rw [repeatL, List.length_append, ih, Nat.succ_mul]; omega
theorem asm_rets (n : Nat) (hn : n ≤ 4096) : asmL (retsL n) = .ok (List.replicate n retW) := by
  have e : linesL (retsL n) = List.replicate n retL ++ [[]] := by
    have := rets_lines n []
    rw [List.append_nil] at this
    exact this
  unfold asmL
  rw [if_neg (by rw [rets_len]; omega), e, List.map_append, rets_take n 0 ⟨[], []⟩ _ (by simp; omega)]
  simp only [List.map_cons, List.map_nil]
  rw [take_step (show takeL _ _ (bareL []) = (0, _) from take_none _ _)]
  simp only [takeAll, List.nil_append]
  have := link_rets [] n 0 0 []
  rw [List.append_nil] at this
  rw [this]
  simp [linkAll]
theorem take_full (st : AS) (n : Nat) (h4 : st.its.length = 4096) : takeL st n (bareL retL) = (3, st) := by
  have e : bareL retL = retL := by kernel_rfl
  have er : readP (wordsL retL) = some (retW, []) := by kernel_rfl
  have e58 : hasSuffix retL [58] = false := by decide
  rw [e]
  unfold takeL
  rw [if_neg (by decide), e58, if_neg (by decide), er]
  simp only
  rw [if_pos h4]
theorem asm_over (n : Nat) (hn : n = 4096) : asmL (retsL (n + 1)) = .error (3, n) := by
  have e : linesL (retsL (n + 1)) = List.replicate n retL ++ (retL :: [[]]) := by
    have := rets_lines (n + 1) []
    rw [List.append_nil, List.replicate_succ', List.append_assoc] at this
    exact this
  unfold asmL
  rw [if_neg (by rw [rets_len]; omega), e, List.map_append, rets_take n 0 ⟨[], []⟩ _ (by simp; omega)]
  simp only [List.map_cons, List.map_nil, List.nil_append, Nat.zero_add]
  have hf := take_full ⟨retI 0 n, []⟩ n (by rw [retI_len]; exact hn)
  rw [takeAll, hf, if_neg (show ¬ (3 : Int) = 0 by decide)]

/-- A fault in memory. -/
def FA (w : World) (g : Nat) (c n : Int) : Prop := g < w.heap.size ∧ w.cell? ⟨g, 0, none⟩ = some (.int .i64 c) ∧ w.cell? ⟨g, 1, none⟩ = some (.int .i64 n)
theorem FA.below {w w' : World} {g : Nat} {c n : Int} (h : FA w g c n) (k : Below w.heap.size w w') : FA w' g c n :=
  ⟨Nat.lt_of_lt_of_le h.1 k.size, (k.cell (p := ⟨g, 0, none⟩) h.1).trans h.2.1, (k.cell (p := ⟨g, 1, none⟩) h.1).trans h.2.2⟩
theorem asm_err (t : List UInt8) (c : Int) (n : Nat) (h : asmL t = .error (c, n)) (ht : t.length ≤ 9223372036854775807) (W : World) (hT : T8 W) :
    Calls Tryz.prog 17 #[.string ⟨t.toArray⟩] W fun e w' => ∃ g, e = .returned (.tuple #[.slice none 0 0, .iface 36 (.pointer (some ⟨g, 0, none⟩))]) ∧ FA w' g c n ∧ Below W.heap.size W w' := by
  have hA := asm_any t W hT ht
  rw [h] at hA
  refine hA.mono fun e w' hp => ?_
  obtain ⟨g, he, hh, hg, k⟩ := hp
  refine ⟨g, he, ⟨(Array.getElem?_eq_some_iff.1 hh).1, ?_, ?_⟩, k⟩
  · simp [World.cell?, hh]
  · simp [World.cell?, hh]
theorem asm_good (t : List UInt8) (ws : List Int) (h : asmL t = .ok ws) (ht : t.length ≤ 9223372036854775807) (W : World) (hT : T8 W) :
    Calls Tryz.prog 17 #[.string ⟨t.toArray⟩] W fun e w' => ∃ A cap, e = .returned (.tuple #[.slice A ws.length cap, .nilIface]) ∧ WL w' w'.heap.size A ws ∧ Below W.heap.size W w' := by
  have hA := asm_any t W hT ht
  rw [h] at hA
  refine hA.mono fun e w' hp => ?_
  obtain ⟨v, he, ho, k, -, -⟩ := hp
  obtain ⟨A, cap, rfl, -, hw⟩ := own_WL ho
  exact ⟨A, cap, he, hw, k⟩
end Go.Proofs.YtdkggahkfheocaaGreatDoor
