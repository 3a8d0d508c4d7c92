/- Plain words for layer asm: ways to labels, over many words. No statement is proved here. -/
import Derived.Test.YtdkggahkfheocaaGreatDoorAsBr
import Derived.Test.YtdkggahkfheocaaGreatDoorAsH
namespace Go.Proofs.YtdkggahkfheocaaGreatDoor
set_option maxRecDepth 100000
open Go.RowKit Go.Lib
set_option linter.unusedVariables false

def retL : List UInt8 := [114, 101, 116]
def retW : Int := 855638016
/-- So many lines 'ret'. -/
def retsL (n : Nat) : List UInt8 := (List.replicate n (retL ++ [10])).flatten
theorem rets_succ (n : Nat) : retsL (n + 1) = retL ++ 10 :: retsL n := by simp [retsL, List.replicate_succ]
theorem rets_len (n : Nat) : (retsL n).length = 4 * n := by
  induction n with
  | zero => rfl
  | succ n ih => rw [rets_succ, List.length_append, List.length_cons, ih]; simp [retL]; omega
theorem rets_lines : ∀ (n : Nat) (t : List UInt8), linesL (retsL n ++ t) = List.replicate n retL ++ linesL t
  | 0, t => rfl
  | n + 1, t => by
    rw [rets_succ, List.append_assoc, List.cons_append, lines_cons _ _ (by decide), rets_lines n t, List.replicate_succ, List.cons_append]
theorem ret_take (st : AS) (n : Nat) (h4 : st.its.length ≠ 4096) : takeL st n (bareL retL) = (0, { st with its := st.its ++ [(retW, [], n)] }) :=
  take_bare st n retL retW [] (by decide) (by decide) (by kernel_rfl) h4
def retI (k : Nat) : Nat → List (Int × List UInt8 × Nat)
  | 0 => []
  | n + 1 => (retW, [], k) :: retI (k + 1) n
theorem retI_len : ∀ (n k : Nat), (retI k n).length = n
  | 0, _ => rfl
  | n + 1, k => by rw [retI, List.length_cons, retI_len n]
theorem rets_take : ∀ (n k : Nat) (st : AS) (r : List (List UInt8)), st.its.length + n ≤ 4096 → takeAll st k ((List.replicate n retL).map bareL ++ r) = takeAll ⟨st.its ++ retI k n, st.labs⟩ (k + n) r
  | 0, k, st, r, _ => by simp [retI]
  | n + 1, k, st, r, h => by
    rw [List.replicate_succ, List.map_cons, List.cons_append, take_step (ret_take st k (by omega)), rets_take n (k + 1) _ r (by simp only [List.length_append, List.length_singleton]; omega)]
    simp only [retI, List.append_assoc, List.singleton_append, show k + 1 + n = k + (n + 1) from by omega]
theorem link_rets (labs : List (List UInt8 × Nat)) : ∀ (n k i : Nat) (r : List (Int × List UInt8 × Nat)), linkAll labs i (retI k n ++ r) = match linkAll labs (i + n) r with
    | .ok l => .ok (List.replicate n retW ++ l)
    | .error e => .error e
  | 0, k, i, r => by
    simp only [retI, List.nil_append, List.replicate_zero, Nat.add_zero]
    cases linkAll labs i r <;> rfl
  | n + 1, k, i, r => by
    rw [retI, List.cons_append, linkAll, if_pos rfl, link_rets labs n (k + 1) (i + 1) r, show i + 1 + n = i + (n + 1) from by omega]
    cases linkAll labs (i + (n + 1)) r <;> simp [List.replicate_succ]
theorem jal_may (a m : Int) (ha : 0 ≤ a ∧ a ≤ 15) (h0 : -524288 ≤ m) (h1 : m ≤ 524287) : mayB ⟨29, a, 0, 0, m⟩ = true := by
  have e : formAt 29 = [97, 106] := by kernel_rfl
  refine may_of ⟨show (1 : Int) ≤ 29 by decide, show (29 : Int) ≤ 53 by decide, ?_⟩
  simp only [e]
  refine ⟨fld_of ⟨ha.1, ha.2, fun k => absurd k (by decide)⟩, fld_of ⟨by decide, by decide, fun _ => rfl⟩, fld_of ⟨by decide, by decide, fun _ => rfl⟩, imm_of ⟨fun _ => ⟨h0, h1⟩, fun k => absurd k (by decide), fun k => absurd k (by decide)⟩⟩
theorem beq_may (a b m : Int) (ha : 0 ≤ a ∧ a ≤ 15) (hb : 0 ≤ b ∧ b ≤ 15) : mayB ⟨25, a, b, 0, m⟩ = decide (-2048 ≤ m ∧ m ≤ 2047) := by
  have e : formAt 25 = [97, 98, 105] := by kernel_rfl
  by_cases h : -2048 ≤ m ∧ m ≤ 2047
  · rw [decide_eq_true h]
    refine may_of ⟨show (1 : Int) ≤ 25 by decide, show (25 : Int) ≤ 53 by decide, ?_⟩
    simp only [e]
    exact ⟨fld_of ⟨ha.1, ha.2, fun k => absurd k (by decide)⟩, fld_of ⟨hb.1, hb.2, fun k => absurd k (by decide)⟩, fld_of ⟨by decide, by decide, fun _ => rfl⟩, imm_of ⟨fun k => absurd k (by decide), fun _ _ => h, fun _ k => absurd k (by decide)⟩⟩
  · rw [decide_eq_false h, Bool.eq_false_iff]
    intro hm
    have := (imm_in (may_parts hm).2.2.2.2.2).2.1
    simp only [e] at this
    exact h (this (by decide) (by decide))
def firstL : List UInt8 := [102, 105, 114, 115, 116]
def lastL : List UInt8 := [108, 97, 115, 116]
def onL : List UInt8 := [111, 110]
/-- "jal c0 last", "jal c1 first", "beq c2 c3 last", "beq c0 c0 on" -/
def j0L : List UInt8 := [106, 97, 108, 32, 99, 48, 32, 108, 97, 115, 116]
def j1L : List UInt8 := [106, 97, 108, 32, 99, 49, 32, 102, 105, 114, 115, 116]
def b0L : List UInt8 := [98, 101, 113, 32, 99, 50, 32, 99, 51, 32, 108, 97, 115, 116]
def b1L : List UInt8 := [98, 101, 113, 32, 99, 48, 32, 99, 48, 32, 111, 110]
def wayL (n m : Nat) : List UInt8 := (firstL ++ [58]) ++ 10 :: (j0L ++ 10 :: (retsL n ++ (j1L ++ 10 :: ((lastL ++ [58]) ++ 10 :: (retsL m ++ (b0L ++ 10 :: []))))))
def farL (n : Nat) : List UInt8 := (onL ++ [58]) ++ 10 :: (retsL n ++ b1L)
theorem take_plain (st : AS) (n : Nat) (l : List UInt8) (w : Int) (lab : List UInt8) (h : (58 ∉ cutA l 59) ∧ wordsL (cutA l 59) ≠ []) (hr : readP (wordsL (cutA l 59)) = some (w, lab)) (h4 : st.its.length ≠ 4096) :
    takeL st n (bareL l) = (0, { st with its := st.its ++ [(w, lab, n)] }) := take_bare st n l w lab h.1 h.2 hr h4
theorem way_len (n m : Nat) : (wayL n m).length = 53 + 4 * n + 4 * m := by
  unfold wayL
  simp only [List.length_append, List.length_cons, rets_len]
  simp [firstL, j0L, j1L, lastL, b0L]
  omega
def i0 (n : Nat) : Ins := ⟨29, 0, 0, 0, (n : Int) + 2⟩
def i1 (n : Nat) : Ins := ⟨29, 1, 0, 0, -(n : Int) - 1⟩
def i2 (m : Nat) : Ins := ⟨25, 2, 3, 0, -(m : Int)⟩
theorem one_link {labs : List (List UInt8 × Nat)} {lab : List UInt8} {k n p : Nat} {w : Int} {i : Ins} (hl : labF labs lab = some p) (hd : { decW w with m := (p : Int) - (k : Int) } = i) (hm : mayB i = true) : linkOne labs k w lab n = .ok (encW i) := by
  unfold linkOne
  rw [hl]
  simp only
  rw [hd, if_pos hm]
theorem link_way (n m k1 a0 a1 k2 a2 : Nat) (hn : n < 3000) (hm : m < 1000) (labs : List (List UInt8 × Nat)) (h1 : labF labs lastL = some (n + 2)) (h2 : labF labs firstL = some 0) :
    linkAll labs 0 ((486539264, lastL, a0) :: (retI k1 n ++ ((487587840, firstL, a1) :: (retI k2 m ++ [(421724160, lastL, a2)])))) = .ok (encW (i0 n) :: (List.replicate n retW ++ encW (i1 n) :: (List.replicate m retW ++ [encW (i2 m)]))) := by
  have d0 : decW 486539264 = ⟨29, 0, 0, 0, 0⟩ := by kernel_rfl
  have d1 : decW 487587840 = ⟨29, 1, 0, 0, 0⟩ := by kernel_rfl
  have d2 : decW 421724160 = ⟨25, 2, 3, 0, 0⟩ := by kernel_rfl
  have o0 : linkOne labs 0 486539264 lastL a0 = .ok (encW (i0 n)) := one_link h1 (by rw [d0]; unfold i0; simp) (jal_may 0 _ (by decide) (by omega) (by omega))
  have o1 : linkOne labs (0 + 1 + n) 487587840 firstL a1 = .ok (encW (i1 n)) := one_link h2 (by rw [d1]; unfold i1; simp; omega) (jal_may 1 _ (by decide) (by omega) (by omega))
  have o2 : linkOne labs (0 + 1 + n + 1 + m) 421724160 lastL a2 = .ok (encW (i2 m)) := one_link h1 (by rw [d2]; unfold i2; simp; omega) (by rw [i2, beq_may 2 3 _ (by decide) (by decide)]; exact decide_eq_true (by omega))
  have n1 : ¬ lastL = [] := by decide
  have n2 : ¬ firstL = [] := by decide
  rw [linkAll, if_neg n1, o0]
  simp only
  rw [link_rets, linkAll, if_neg n2, o1]
  simp only
  rw [link_rets, linkAll, if_neg n1, o2]
  simp only [linkAll]
theorem way_asm (n m : Nat) (hn : n < 3000) (hm : m < 1000) : asmL (wayL n m) = .ok (encW (i0 n) :: (List.replicate n retW ++ encW (i1 n) :: (List.replicate m retW ++ [encW (i2 m)]))) := by
  have e1 : linesL (wayL n m) = (firstL ++ [58]) :: j0L :: (List.replicate n retL ++ (j1L :: (lastL ++ [58]) :: (List.replicate m retL ++ [b0L, []]))) := by
    unfold wayL
    rw [lines_cons _ _ (by decide), lines_cons _ _ (by decide), rets_lines, lines_cons _ _ (by decide), lines_cons _ _ (by decide), rets_lines, lines_cons _ _ (by decide)]
    rfl
  have q1 : (58 ∉ cutA j1L 59) ∧ wordsL (cutA j1L 59) ≠ [] := ⟨by decide, by decide⟩
  have q2 : (58 ∉ cutA b0L 59) ∧ wordsL (cutA b0L 59) ≠ [] := ⟨by decide, by decide⟩
  have r1 : readP (wordsL (cutA j1L 59)) = some (487587840, firstL) := by kernel_rfl
  have r2 : readP (wordsL (cutA b0L 59)) = some (421724160, lastL) := by kernel_rfl
  have r0 : takeL ⟨[], []⟩ 0 (bareL (firstL ++ [58])) = (0, ⟨[], [(firstL, 0)]⟩) := by kernel_rfl
  have r3 : takeL ⟨[], [(firstL, 0)]⟩ (0 + 1) (bareL j0L) = (0, ⟨[(486539264, lastL, 1)], [(firstL, 0)]⟩) := by kernel_rfl
  have eb : bareL (lastL ++ [58]) = lastL ++ [58] := by kernel_rfl
  have nl : nameB lastL = true := by kernel_rfl
  have nf : labF [(firstL, 0)] lastL = none := by kernel_rfl
  unfold asmL
  rw [if_neg (by rw [way_len]; omega), e1]
  simp only [List.map_cons, List.map_append, List.map_nil]
  rw [take_step r0, take_step r3, rets_take n (0 + 1 + 1) _ _ (by simp; omega), take_step (take_plain _ _ j1L 487587840 firstL q1 r1 (by simp [retI_len]; omega)), eb, take_step (take_lab _ _ lastL nl nf), rets_take m _ _ _ (by simp [retI_len]; omega),
    take_step (take_plain _ _ b0L 421724160 lastL q2 r2 (by simp [retI_len]; omega)), take_step (show takeL _ _ (bareL []) = (0, _) from take_none _ _)]
  simp only [takeAll, List.append_assoc, List.cons_append, List.nil_append]
  refine link_way n m _ _ _ _ _ hn hm _ ?_ ?_
  · rw [labF, if_pos rfl]; simp [retI_len]
  · kernel_rfl
def i3 (n : Nat) : Ins := ⟨25, 0, 0, 0, -(n : Int)⟩
theorem far_len (n : Nat) : (farL n).length = 16 + 4 * n := by
  unfold farL
  simp only [List.length_append, List.length_cons, rets_len]
  simp [onL, b1L]
  omega
def okB (R : Except (Int × Nat) (List Int)) : Bool := match R with
  | .ok _ => true
  | .error _ => false
theorem far_asm (n : Nat) (hn : n < 3000) : okB (asmL (farL n)) = decide ((n : Int) ≤ 2048) := by
  have e1 : linesL (farL n) = (onL ++ [58]) :: (List.replicate n retL ++ [b1L]) := by
    unfold farL
    rw [lines_cons _ _ (by decide), rets_lines, lines_none b1L (by decide)]
  have q1 : (58 ∉ cutA b1L 59) ∧ wordsL (cutA b1L 59) ≠ [] := ⟨by decide, by decide⟩
  have r1 : readP (wordsL (cutA b1L 59)) = some (419430400, onL) := by kernel_rfl
  have r0 : takeL ⟨[], []⟩ 0 (bareL (onL ++ [58])) = (0, ⟨[], [(onL, 0)]⟩) := by kernel_rfl
  have d1 : decW 419430400 = ⟨25, 0, 0, 0, 0⟩ := by kernel_rfl
  unfold asmL
  rw [if_neg (by rw [far_len]; omega), e1]
  simp only [List.map_cons, List.map_append, List.map_nil]
  rw [take_step r0, rets_take n (0 + 1) _ _ (by simp; omega), take_step (take_plain _ _ b1L 419430400 onL q1 r1 (by simp [retI_len]; omega))]
  simp only [takeAll, List.nil_append]
  have n1 : ¬ onL = [] := by decide
  rw [link_rets, linkAll, if_neg n1]
  unfold linkOne
  rw [show labF [(onL, 0)] onL = some 0 from by kernel_rfl]
  simp only
  rw [d1]
  have hm : mayB { (⟨25, 0, 0, 0, 0⟩ : Ins) with m := ((0 : Nat) : Int) - ((0 + n : Nat) : Int) } = decide (-2048 ≤ ((0 : Nat) : Int) - ((0 + n : Nat) : Int) ∧ ((0 : Nat) : Int) - ((0 + n : Nat) : Int) ≤ 2047) := beq_may 0 0 _ (by decide) (by decide)
  rw [hm]
  by_cases h : (n : Int) ≤ 2048
  · rw [if_pos (decide_eq_true (by omega)), decide_eq_true h]
    rfl
  · rw [if_neg (by rw [decide_eq_true_iff]; omega), decide_eq_false h]
    rfl
/-- What the words of the way say, and where they lie. -/
theorem way_words (n m : Nat) (ws : List Int) (h : ws = encW (i0 n) :: (List.replicate n retW ++ encW (i1 n) :: (List.replicate m retW ++ [encW (i2 m)]))) :
    ws.length = n + m + 3 ∧ ws[0]? = some (encW (i0 n)) ∧ ws[n + 1]? = some (encW (i1 n)) ∧ ws[n + m + 2]? = some (encW (i2 m)) := by
  subst h
  refine ⟨by simp; omega, rfl, ?_, ?_⟩
  · rw [List.getElem?_cons_succ, List.getElem?_append_right (by simp)]
    simp
  · rw [show n + m + 2 = (n + m + 1) + 1 from rfl, List.getElem?_cons_succ, List.getElem?_append_right (by simp; omega)]
    simp only [List.length_replicate, show n + m + 1 - n = m + 1 from by omega, List.getElem?_cons_succ]
    rw [List.getElem?_append_right (by simp)]
    simp
theorem way_decs (n m : Nat) (hn : n < 3000) (hm : m < 1000) : decW (encW (i0 n)) = i0 n ∧ decW (encW (i1 n)) = i1 n ∧ decW (encW (i2 m)) = i2 m :=
  ⟨dec_enc (jal_may 0 _ (by decide) (by omega) (by omega)), dec_enc (jal_may 1 _ (by decide) (by omega) (by omega)), dec_enc (by rw [i2, beq_may 2 3 _ (by decide) (by decide)]; exact decide_eq_true (by omega))⟩
end Go.Proofs.YtdkggahkfheocaaGreatDoor
