/- Plain words for layer asm: what the lines of a source say; a map from names to places. No statement is proved here. -/
import Derived.Test.YtdkggahkfheocaaGreatDoorAsR
import Derived.Test.YtdkggahkfheocaaGreatDoorAsO
import Derived.Maps.Own
import Derived.Maps.OwnSet
namespace Go.Proofs.YtdkggahkfheocaaGreatDoor
set_option maxRecDepth 100000
open Go.RowKit Go.Lib
set_option linter.unusedVariables false

/-- What has been read: words, each with its label and its line; labels with their places. -/
structure AS where
  its : List (Int × List UInt8 × Nat)
  labs : List (List UInt8 × Nat)
def labF : List (List UInt8 × Nat) → List UInt8 → Option Nat
  | [], _ => none
  | (n, p) :: r, s => if n = s then some p else labF r s
def AS.words (st : AS) : List Int := st.its.map (·.1)
def jumpsFrom : Nat → List (Int × List UInt8 × Nat) → List (Nat × Nat × List UInt8)
  | _, [] => []
  | k, (_, lab, a) :: r => if lab = [] then jumpsFrom (k + 1) r else (a, k, lab) :: jumpsFrom (k + 1) r
theorem jumps_app : ∀ (l : List (Int × List UInt8 × Nat)) (k : Nat) (w : Int) (lab : List UInt8) (a : Nat), jumpsFrom k (l ++ [(w, lab, a)]) = jumpsFrom k l ++ (if lab = [] then [] else [(a, k + l.length, lab)])
  | [], k, w, lab, a => by
    simp only [List.nil_append, jumpsFrom, List.length_nil, Nat.add_zero]
  | (w', lab', a') :: r, k, w, lab, a => by
    simp only [List.cons_append, jumpsFrom, List.length_cons]
    have e : k + (r.length + 1) = k + 1 + r.length := by omega
    rw [jumps_app r (k + 1) w lab a, e]
    split <;> simp
theorem jumps_len : ∀ (l : List (Int × List UInt8 × Nat)) (k : Nat), (jumpsFrom k l).length ≤ l.length
  | [], _ => Nat.le_refl _
  | (w, lab, a) :: r, k => by
    simp only [jumpsFrom, List.length_cons]
    have := jumps_len r (k + 1)
    split
    · omega
    · simp only [List.length_cons]; omega
theorem jumps_place : ∀ (l : List (Int × List UInt8 × Nat)) (k : Nat) (x : Nat × Nat × List UInt8), x ∈ jumpsFrom k l → k ≤ x.2.1 ∧ x.2.1 < k + l.length
  | [], _, _, h => by cases h
  | (w, lab, a) :: r, k, x, h => by
    simp only [jumpsFrom] at h
    simp only [List.length_cons]
    split at h
    · have := jumps_place r (k + 1) x h; omega
    · rcases List.mem_cons.1 h with rfl | h
      · simp only; omega
      · have := jumps_place r (k + 1) x h; omega
/-- One line, without its remark and without blanks at its ends: what is wrong, or 0; what has been read. -/
def takeL (st : AS) (n : Nat) (l : List UInt8) : Int × AS :=
  if l = [] then (0, st)
  else if hasSuffix l [58] = true then
    (if nameB (trimSuffix l [58]) = true then
      (if (labF st.labs (trimSuffix l [58])).isSome then (11, st) else (0, { st with labs := (trimSuffix l [58], st.its.length) :: st.labs }))
    else (4, st))
  else match readP (wordsL l) with
    | none => (4, st)
    | some (w, lab) => if st.its.length = 4096 then (3, st) else (0, { st with its := st.its ++ [(w, lab, n)] })
/-- All lines, from line n on. -/
def takeAll : AS → Nat → List (List UInt8) → Except (Int × Nat) AS
  | st, _, [] => .ok st
  | st, n, l :: r => if (takeL st n l).1 = 0 then takeAll (takeL st n l).2 (n + 1) r else .error ((takeL st n l).1, n)
def linkOne (labs : List (List UInt8 × Nat)) (k : Nat) (w : Int) (lab : List UInt8) (n : Nat) : Except (Int × Nat) Int :=
  match labF labs lab with
  | none => .error (9, n)
  | some p => if mayB { decW w with m := (p : Int) - (k : Int) } = true then .ok (encW { decW w with m := (p : Int) - (k : Int) }) else .error (3, n)
/-- The words, with the ways to their labels. -/
def linkAll (labs : List (List UInt8 × Nat)) : Nat → List (Int × List UInt8 × Nat) → Except (Int × Nat) (List Int)
  | _, [] => .ok []
  | k, (w, lab, n) :: r => if lab = [] then (match linkAll labs (k + 1) r with
      | .ok l => .ok (w :: l)
      | .error e => .error e)
    else match linkOne labs k w lab n with
      | .error e => .error e
      | .ok x => (match linkAll labs (k + 1) r with
        | .ok l => .ok (x :: l)
        | .error e => .error e)
def linkJ (labs : List (List UInt8 × Nat)) : List Int → List (Nat × Nat × List UInt8) → Except (Int × Nat) (List Int)
  | ws, [] => .ok ws
  | ws, (n, k, lab) :: r => match linkOne labs k (ws.getD k 0) lab n with
    | .error e => .error e
    | .ok x => linkJ labs (ws.set k x) r
theorem link_is (labs : List (List UInt8 × Nat)) : ∀ (l : List (Int × List UInt8 × Nat)) (pre : List Int), linkJ labs (pre ++ l.map (·.1)) (jumpsFrom pre.length l) = match linkAll labs pre.length l with
    | .ok x => .ok (pre ++ x)
    | .error e => .error e
  | [], pre => by simp [jumpsFrom, linkJ, linkAll]
  | (w, lab, n) :: r, pre => by
    simp only [jumpsFrom, linkAll, List.map_cons]
    by_cases h : lab = []
    · rw [if_pos h, if_pos h]
      have := link_is labs r (pre ++ [w])
      simp only [List.length_append, List.length_singleton, List.append_assoc, List.singleton_append] at this
      rw [this]
      cases linkAll labs (pre.length + 1) r <;> simp
    · rw [if_neg h, if_neg h]
      simp only [linkJ]
      have hg : (pre ++ w :: r.map (·.1)).getD pre.length 0 = w := by simp [List.getD]
      rw [hg]
      cases linkOne labs pre.length w lab n with
      | error e => rfl
      | ok x =>
        simp only
        have hs : (pre ++ w :: r.map (·.1)).set pre.length x = (pre ++ [x]) ++ r.map (·.1) := by
          rw [List.set_append_right _ _ (Nat.le_refl _)]
          simp
        rw [hs]
        have := link_is labs r (pre ++ [x])
        simp only [List.length_append, List.length_singleton] at this
        rw [this]
        cases linkAll labs (pre.length + 1) r <;> simp

/-! A map that the call has made, from names to places. -/
theorem keyed : Go.Maps.Keyed Tryz.prog 9 := Go.Maps.string_keyed Tryz.underlying9
theorem zeroI (w : World) : (zeroValue 3).run Tryz.prog w = .ok (.int .i64 0) w := by kernel_rfl
def LM (w : World) (mb n : Nat) (F : List UInt8 → Option Nat) : Prop :=
  ∃ D : DataW Unit, w.ownsMap Tryz.prog 9 (plainElem Tryz.prog 3) mb n D ∧ Maps.IsMap D ∧
    ∀ s : List UInt8, Maps.has D (.string s) = (F s).isSome ∧ D.atKey (.string s) (.lit (.int .i64 0)) = .lit (.int .i64 (((F s).getD 0 : Nat) : Int))
theorem LM.made (w : World) : LM (w.alloc (.map #[] 0)) w.heap.size 0 (fun _ => none) :=
  ⟨.map [], World.ownsMap_made _ _ _ _, Maps.isMap_empty, fun s => ⟨rfl, rfl⟩⟩
theorem LM.kept {w w' : World} {mb n : Nat} {F : List UInt8 → Option Nat} {r : Option Nat} (h : LM w mb n F) (hg : w.grownBy w' r) (hne : some mb ≠ r) : LM w' mb n F :=
  let ⟨D, h1, h2⟩ := h; ⟨D, h1.kept hg hne, h2⟩
theorem LM.below {w w' : World} {mb n : Nat} {F : List UInt8 → Option Nat} (h : LM w mb n F) (k : Below w.heap.size w w') : LM w' mb n F :=
  h.kept (r := none) ⟨k.os, k.tape, k.output, k.size, fun j hj _ => k.block j hj⟩ (by simp)
theorem LM.lt {w : World} {mb n : Nat} {F : List UInt8 → Option Nat} (h : LM w mb n F) : mb < w.heap.size := let ⟨D, h1, _⟩ := h; h1.lt
theorem LM.look {w : World} {mb n : Nat} {F : List UInt8 → Option Nat} (h : LM w mb n F) (s : List UInt8) (hs : s.length ≤ maxLen) :
    (Instr.lookup 78 (.map (some mb)) (.string ⟨s.toArray⟩) true).run Tryz.prog w = .ok (.tuple #[.int .i64 (((F s).getD 0 : Nat) : Int), .bool (F s).isSome]) w := by
  obtain ⟨D, h1, h2, h3⟩ := h
  have hk : keyOf Tryz.prog 9 (.string ⟨s.toArray⟩) = some (.string s) := by
    have := WideMaps.keyOf_string_mk (P := Tryz.prog) Tryz.underlying9 (s := ⟨s.toArray⟩) (by rw [size_mk]; exact hs)
    simpa using this
  obtain ⟨v, ps, hr, hv⟩ := h1.look_ok keyed (e := 3) Tryz.underlying78 (zeroI w) (plainElem_int Tryz.underlying3 (by decide)) hk
  obtain ⟨c, rfl, hc, -⟩ := plainElem_int_inv Tryz.underlying3 hv
  have e1 := congrArg Prod.fst hc
  simp only at e1
  rw [(h3 s).2] at e1
  simp only [DataW.lit.injEq, Lit.int.injEq, true_and] at e1
  rw [hr, (h3 s).1, e1]
theorem LM.put {w : World} {mb n : Nat} {F : List UInt8 → Option Nat} (h : LM w mb n F) (hn : n < maxLen) (s : List UInt8) (hs : s.length ≤ maxLen) (p : Nat) (hp : p < 9223372036854775808) :
    ∃ w', (Instr.mapUpdate 78 (.map (some mb)) (.string ⟨s.toArray⟩) (.int .i64 p)).run Tryz.prog w = .ok () w' ∧ LM w' mb (n + 1) (fun x => if s = x then some p else F x) ∧ w.grownBy w' (some mb) := by
  obtain ⟨D, h1, h2, h3⟩ := h
  have hk : keyOf Tryz.prog 9 (.string ⟨s.toArray⟩) = some (.string s) := by
    have := WideMaps.keyOf_string_mk (P := Tryz.prog) Tryz.underlying9 (s := ⟨s.toArray⟩) (by rw [size_mk]; exact hs)
    simpa using this
  have hw : (Lit.int .i64 (p : Int)).wf = true := by
    show (decide (IntKind.i64.min ≤ (p : Int)) && decide ((p : Int) ≤ IntKind.i64.max)) = true
    rw [decide_eq_true (show IntKind.i64.min ≤ (p : Int) from Int.le_trans (by decide) (Int.natCast_nonneg p)), decide_eq_true (show (p : Int) ≤ IntKind.i64.max from by
      rw [show IntKind.i64.max = 9223372036854775807 from by decide]; omega)]
    rfl
  obtain ⟨w', hr, ho, hg⟩ := h1.update keyed (e := 3) Tryz.underlying78 hn hk (plainElem_int Tryz.underlying3 hw)
  refine ⟨w', hr, ⟨_, ho, h2.put _ _, fun x => ?_⟩, hg⟩
  by_cases e : s = x
  · subst e
    have isKey : WideAt.IsKeyLit (.string s) := by simp [WideAt.IsKeyLit]
    simp only [if_true]
    exact ⟨Maps.has_put_same h2 isKey _, Maps.atKey_put_same h2 isKey _ _⟩
  · simp only [if_neg e]
    have hne : (Lit.string x) ≠ .string s := fun k => e (by injection k with k; exact k.symm)
    rw [Maps.has_put_other hne, Maps.atKey_put_other hne]
    exact h3 x
end Go.Proofs.YtdkggahkfheocaaGreatDoor
