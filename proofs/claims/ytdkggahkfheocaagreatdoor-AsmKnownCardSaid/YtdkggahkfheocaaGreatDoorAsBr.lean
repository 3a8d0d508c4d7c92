/- Plain words for layer asm: remarks, empty lines, blanks, labels that nobody names. No statement is proved here. -/
import Derived.Test.YtdkggahkfheocaaGreatDoorAsBm
namespace Go.Proofs.YtdkggahkfheocaaGreatDoor
set_option maxRecDepth 100000
open Go.RowKit Go.Lib
set_option linter.unusedVariables false

/-- Three blanks for each blank. -/
def tripL (l : List UInt8) : List UInt8 := l.flatMap fun c => if c = 32 then [32, 32, 32] else [c]
theorem trip_words : ∀ (l w : List UInt8), wordsF w (tripL l) = wordsF w l
  | [], w => rfl
  | c :: l, w => by
    have e : tripL (c :: l) = (if c = 32 then [32, 32, 32] else [c]) ++ tripL l := by simp [tripL]
    rw [e]
    by_cases h : c = 32
    · subst h
      rw [if_pos rfl]
      by_cases hw : w = []
      · subst hw
        simp [wordsF, trip_words l []]
      · simp [wordsF, hw, trip_words l []]
    · rw [if_neg h]
      simp only [List.singleton_append, wordsF, if_neg h]
      exact trip_words l _
theorem trip_mem (l : List UInt8) (c : UInt8) (h : c ∈ tripL l) (hc : c ≠ 32) : c ∈ l := by
  unfold tripL at h
  obtain ⟨x, hx, h⟩ := List.mem_flatMap.1 h
  split at h
  · simp at h; exact absurd h hc
  · rw [List.mem_singleton] at h; subst h; exact hx
theorem trip_len : ∀ (l : List UInt8), (tripL l).length ≤ 3 * l.length
  | [] => by simp [tripL]
  | c :: l => by
    have e : tripL (c :: l) = (if c = 32 then [32, 32, 32] else [c]) ++ tripL l := by simp [tripL]
    have := trip_len l
    rw [e, List.length_append, List.length_cons]
    split <;> simp <;> omega
/-- A label's name, its line; a word's line. -/
def nmL (p : Nat) : List UInt8 := [108, UInt8.ofNat (97 + p % 26), UInt8.ofNat (97 + p / 26)]
def oneL (b1 : Bool) (s : List UInt8) : List UInt8 := if b1 then [32, 32] ++ tripL s ++ [32] else s
def remL (b2 : Bool) (rem s : List UInt8) : List UInt8 := if b2 then s ++ 59 :: rem else s
def emptL (b4 : Bool) (rem s : List UInt8) : List UInt8 := if b4 then 10 :: 59 :: (rem ++ 10 :: s) else s
def labsL (b8 : Bool) (p : Nat) (rem s : List UInt8) : List UInt8 := if b8 then 32 :: (nmL p ++ 58 :: 32 :: 59 :: (rem ++ 10 :: s)) else s
structure Pc where
  w : Int
  b1 : Bool
  b2 : Bool
  b4 : Bool
  b8 : Bool
def pieceL (p : Nat) (rem : List UInt8) (z : Pc) : List UInt8 := labsL z.b8 p rem (emptL z.b4 rem (remL z.b2 rem (oneL z.b1 (printL z.w)))) ++ [10]
def textR (p : Nat) (rem : List UInt8) : List Pc → List UInt8
  | [] => []
  | z :: r => pieceL p rem z ++ textR (p + 1) rem r
theorem textR_app (rem : List UInt8) : ∀ (a : List Pc) (p : Nat) (z : Pc), textR p rem (a ++ [z]) = textR p rem a ++ pieceL (p + a.length) rem z
  | [], p, z => by simp [textR]
  | x :: a, p, z => by
    rw [List.cons_append, textR, textR, textR_app rem a (p + 1) z, List.append_assoc, List.length_cons, show p + 1 + a.length = p + (a.length + 1) from by omega]
theorem nm_bytes : ∀ p : Fin 30, 10 ∉ nmL p.val ∧ bareL (32 :: (nmL p.val ++ [58, 32, 59])) = nmL p.val ++ [58] ∧ nameB (nmL p.val) = true ∧ 59 ∉ nmL p.val := by decide +kernel
theorem nm_inj : ∀ p q : Fin 30, nmL p.val = nmL q.val → p = q := by decide +kernel
def labLn (p : Nat) (rem : List UInt8) : List UInt8 := 32 :: (nmL p ++ 58 :: 32 :: 59 :: rem)
/-- The lines of a piece. -/
def pieceLs (p : Nat) (rem : List UInt8) (z : Pc) : List (List UInt8) := (if z.b8 then [labLn p rem] else []) ++ ((if z.b4 then [[], 59 :: rem] else []) ++ [remL z.b2 rem (oneL z.b1 (printL z.w))])
theorem one_not (w : Int) (h0 : 0 ≤ w) (h1 : w < 4294967296) (b1 : Bool) : 10 ∉ oneL b1 (printL w) ∧ 59 ∉ oneL b1 (printL w) ∧ 58 ∉ oneL b1 (printL w) := by
  have hn := print_not w h0 h1
  have h : ∀ c, c ≠ 32 → c ∈ oneL b1 (printL w) → c ∈ printL w := fun c hc hm => by
    unfold oneL at hm
    split at hm
    · simp only [List.mem_append, List.mem_cons, List.not_mem_nil, or_false] at hm
      rcases hm with ((hm | hm) | hm) | hm
      · exact absurd hm hc
      · exact absurd hm hc
      · exact trip_mem _ _ hm hc
      · exact absurd hm hc
    · exact hm
  exact ⟨fun k => hn.1 (h _ (by decide) k), fun k => hn.2.1 (h _ (by decide) k), fun k => hn.2.2 (h _ (by decide) k)⟩
theorem piece_lines (p : Nat) (hp : p < 30) (rem : List UInt8) (hr : 10 ∉ rem) (z : Pc) (h0 : 0 ≤ z.w) (h1 : z.w < 4294967296) (t : List UInt8) : linesL (pieceL p rem z ++ t) = pieceLs p rem z ++ linesL t := by
  have hl : 10 ∉ remL z.b2 rem (oneL z.b1 (printL z.w)) := by
    have := (one_not z.w h0 h1 z.b1).1
    unfold remL
    split
    · simp only [List.mem_append, List.mem_cons, not_or]
      exact ⟨this, by decide, hr⟩
    · exact this
  have hlab : 10 ∉ labLn p rem := by
    have := (nm_bytes ⟨p, hp⟩).1
    unfold labLn
    simp only [List.mem_append, List.mem_cons, not_or]
    exact ⟨by decide, this, by decide, by decide, by decide, hr⟩
  have h2 : 10 ∉ (59 :: rem : List UInt8) := by
    simp only [List.mem_cons, not_or]
    exact ⟨by decide, hr⟩
  unfold pieceL pieceLs
  generalize remL z.b2 rem (oneL z.b1 (printL z.w)) = s at *
  have e1 : linesL (emptL z.b4 rem s ++ 10 :: t) = (if z.b4 then [[], 59 :: rem] else []) ++ s :: linesL t := by
    unfold emptL
    split
    · have e : (10 :: 59 :: (rem ++ 10 :: s) : List UInt8) ++ 10 :: t = [] ++ 10 :: ((59 :: rem) ++ 10 :: (s ++ 10 :: t)) := by simp
      rw [e, lines_cons _ _ (by simp), lines_cons _ _ h2, lines_cons _ _ hl]
      rfl
    · rw [lines_cons _ _ hl]; rfl
  have e0 : (labsL z.b8 p rem (emptL z.b4 rem s) ++ [10]) ++ t = labsL z.b8 p rem (emptL z.b4 rem s) ++ 10 :: t := by simp
  rw [e0]
  unfold labsL
  split
  · have e : (32 :: (nmL p ++ 58 :: 32 :: 59 :: (rem ++ 10 :: emptL z.b4 rem s)) : List UInt8) ++ 10 :: t = labLn p rem ++ 10 :: (emptL z.b4 rem s ++ 10 :: t) := by simp [labLn]
    rw [e, lines_cons _ _ hlab, e1]
    simp
  · rw [e1]; simp
theorem bare_lab (p : Nat) (hp : p < 30) (rem : List UInt8) : bareL (labLn p rem) = nmL p ++ [58] := by
  have hb := (nm_bytes ⟨p, hp⟩).2.1
  have h59 := (nm_bytes ⟨p, hp⟩).2.2.2
  simp only at hb h59
  have n1 : 59 ∉ (32 :: (nmL p ++ [58, 32]) : List UInt8) := by
    simp only [List.mem_append, List.mem_cons, not_or, List.not_mem_nil, not_false_eq_true, and_true]
    exact ⟨by decide, h59, by decide, by decide⟩
  rw [← hb]
  unfold bareL
  have e1 : labLn p rem = (32 :: (nmL p ++ [58, 32])) ++ 59 :: rem := by simp [labLn]
  have e2 : (32 :: (nmL p ++ [58, 32, 59]) : List UInt8) = (32 :: (nmL p ++ [58, 32])) ++ 59 :: [] := by simp
  rw [e1, e2, cut_rem _ _ _ n1, cut_rem _ _ _ n1]
theorem suffix_app (a : List UInt8) (c : UInt8) : hasSuffix (a ++ [c]) [c] = true ∧ trimSuffix (a ++ [c]) [c] = a := by
  have h : hasSuffix (a ++ [c]) [c] = true := by
    unfold hasSuffix
    exact List.isSuffixOf_iff_suffix.2 ⟨a, rfl⟩
  refine ⟨h, ?_⟩
  unfold trimSuffix
  rw [if_pos h]
  simp
theorem take_lab (st : AS) (n : Nat) (a : List UInt8) (hn : nameB a = true) (hf : labF st.labs a = none) : takeL st n (a ++ [58]) = (0, { st with labs := (a, st.its.length) :: st.labs }) := by
  obtain ⟨h1, h2⟩ := suffix_app a 58
  unfold takeL
  rw [if_neg (by simp), if_pos h1, h2, if_pos hn, hf]
  simp
theorem take_step {st st' : AS} {n : Nat} {l : List UInt8} (h : takeL st n l = (0, st')) (r : List (List UInt8)) : takeAll st n (l :: r) = takeAll st' (n + 1) r := by
  rw [takeAll, h, if_pos rfl]
theorem take_none (st : AS) (n : Nat) : takeL st n [] = (0, st) := by unfold takeL; rw [if_pos rfl]
theorem bare_rem (rem : List UInt8) : bareL (59 :: rem) = [] := by
  unfold bareL
  rw [show (59 :: rem : List UInt8) = [] ++ 59 :: rem from rfl, cut_rem _ _ _ (by simp)]
  rfl
theorem one_words (w : Int) (h0 : 0 ≤ w) (h1 : w < 4294967296) (b1 : Bool) : wordsL (oneL b1 (printL w)) = wdsL w := by
  unfold oneL
  split
  · have e : ([32, 32] ++ tripL (printL w) ++ [32] : List UInt8) = 32 :: 32 :: (tripL (printL w) ++ [32]) := by simp
    rw [e, wordsL_blank, wordsL_blank]
    unfold wordsL
    rw [words_behind _ [32] [] (by simp), trip_words]
    exact wds_words w h0 h1
  · exact wds_words w h0 h1
theorem take_rem (st : AS) (n : Nat) (w : Int) (h0 : 0 ≤ w) (h1 : w < 4294967296) (b1 b2 : Bool) (rem : List UInt8) (h4 : st.its.length ≠ 4096) :
    takeL st n (bareL (remL b2 rem (oneL b1 (printL w)))) = (0, { st with its := st.its ++ [(w, [], n)] }) := by
  have hn := one_not w h0 h1 b1
  have e : cutA (remL b2 rem (oneL b1 (printL w))) 59 = oneL b1 (printL w) := by
    unfold remL
    split
    · exact cut_rem _ _ _ hn.2.1
    · exact cut_none _ _ hn.2.1
  exact take_bare st n _ w [] (by rw [e]; exact hn.2.2) (by rw [e, one_words w h0 h1]; exact wds_ne w) (by rw [e, one_words w h0 h1, ← wds_words w h0 h1]; exact read_print w h0 h1) h4
theorem piece_take (st : AS) (n p : Nat) (hp : p < 30) (rem : List UInt8) (z : Pc) (h0 : 0 ≤ z.w) (h1 : z.w < 4294967296) (hf : labF st.labs (nmL p) = none) (h4 : st.its.length < 4096) (r : List (List UInt8)) :
    ∃ k labs, takeAll st n ((pieceLs p rem z).map bareL ++ r) = takeAll ⟨st.its ++ [(z.w, [], k)], labs⟩ (k + 1) r ∧ ∀ x, x ∈ labs → x ∈ st.labs ∨ x.1 = nmL p := by
  have hl : ∀ (st' : AS) (n' : Nat), st'.its = st.its → takeAll st' n' ((((if z.b4 then [[], 59 :: rem] else []) ++ [remL z.b2 rem (oneL z.b1 (printL z.w))]).map bareL) ++ r) = takeAll ⟨st.its ++ [(z.w, [], if z.b4 then n' + 2 else n')], st'.labs⟩ ((if z.b4 then n' + 2 else n') + 1) r := by
    intro st' n' he
    cases hb : z.b4 with
    | true =>
      rw [if_pos rfl, if_pos rfl]
      simp only [List.cons_append, List.nil_append, List.map_cons, List.map_nil]
      rw [take_step (show takeL st' n' (bareL []) = (0, st') from take_none st' n'), take_step (by rw [bare_rem]; exact take_none st' (n' + 1)), take_step (take_rem st' (n' + 1 + 1) z.w h0 h1 z.b1 z.b2 rem (by rw [he]; omega)), he]
    | false =>
      simp only [Bool.false_eq_true, if_false, List.nil_append, List.map_cons, List.map_nil, List.cons_append]
      rw [take_step (take_rem st' n' z.w h0 h1 z.b1 z.b2 rem (by rw [he]; omega)), he]
  unfold pieceLs
  cases hb : z.b8 with
  | true =>
    have hn := (nm_bytes ⟨p, hp⟩).2.2.1
    refine ⟨if z.b4 then n + 1 + 2 else n + 1, (nmL p, st.its.length) :: st.labs, ?_, fun x hx => ?_⟩
    · rw [if_pos rfl, List.map_append, List.append_assoc]
      simp only [List.map_cons, List.map_nil, List.singleton_append]
      rw [take_step (by rw [bare_lab p hp rem]; exact take_lab st n (nmL p) hn hf)]
      exact hl { st with labs := (nmL p, st.its.length) :: st.labs } (n + 1) rfl
    · rcases List.mem_cons.1 hx with rfl | hx
      · exact .inr rfl
      · exact .inl hx
  | false =>
    refine ⟨if z.b4 then n + 2 else n, st.labs, ?_, fun x hx => .inl hx⟩
    simp only [Bool.false_eq_true, if_false, List.nil_append]
    exact hl st n rfl
theorem labF_none {labs : List (List UInt8 × Nat)} {s : List UInt8} (h : ∀ x, x ∈ labs → x.1 ≠ s) : labF labs s = none := by
  induction labs with
  | nil => rfl
  | cons a r ih =>
    obtain ⟨n, q⟩ := a
    simp only [labF]
    rw [if_neg (h (n, q) (List.mem_cons_self ..))]
    exact ih (fun x hx => h x (List.mem_cons_of_mem _ hx))
theorem text_take (rem : List UInt8) (hr : 10 ∉ rem) : ∀ (zs : List Pc) (p n : Nat) (st : AS), p + zs.length ≤ 30 → (∀ z, z ∈ zs → 0 ≤ z.w ∧ z.w < 4294967296) → st.its.length = p → (∀ x, x ∈ st.its → x.2.1 = []) → (∀ x, x ∈ st.labs → ∃ j, j < p ∧ x.1 = nmL j) →
    ∃ its labs, takeAll st n ((linesL (textR p rem zs)).map bareL) = .ok ⟨its, labs⟩ ∧ its.map (·.1) = st.its.map (·.1) ++ zs.map (·.w) ∧ ∀ x, x ∈ its → x.2.1 = []
  | [], p, n, st, _, _, _, hi, _ => ⟨st.its, st.labs, by
      show takeAll st n [bareL []] = _
      rw [take_step (show takeL st n (bareL []) = (0, st) from take_none st n)]
      rfl, by simp, hi⟩
  | z :: zs, p, n, st, hl, hz, hp, hi, hlb => by
    simp only [List.length_cons] at hl
    have hz0 := hz z (List.mem_cons_self ..)
    have hf : labF st.labs (nmL p) = none := labF_none fun x hx e => by
      obtain ⟨j, hj, hx2⟩ := hlb x hx
      have := nm_inj ⟨j, by omega⟩ ⟨p, by omega⟩ (hx2.symm.trans e)
      have := congrArg Fin.val this
      simp only at this
      omega
    obtain ⟨k, labs, h1, h2⟩ := piece_take st n p (by omega) rem z hz0.1 hz0.2 hf (by omega) ((linesL (textR (p + 1) rem zs)).map bareL)
    obtain ⟨its, labs', h3, h4, h5⟩ := text_take rem hr zs (p + 1) (k + 1) ⟨st.its ++ [(z.w, [], k)], labs⟩ (by omega) (fun y hy => hz y (List.mem_cons_of_mem _ hy)) (by simp [hp]) (fun x hx => by
      rcases List.mem_append.1 hx with hx | hx
      · exact hi x hx
      · rw [List.mem_singleton] at hx; subst hx; rfl) (fun x hx => by
      rcases h2 x hx with hx | hx
      · obtain ⟨j, hj, e⟩ := hlb x hx
        exact ⟨j, by omega, e⟩
      · exact ⟨p, by omega, hx⟩)
    refine ⟨its, labs', ?_, by rw [h4]; simp, h5⟩
    rw [textR, piece_lines p (by omega) rem hr z hz0.1 hz0.2, List.map_append, h1]
    exact h3
theorem piece_len (p : Nat) (rem : List UInt8) (hr : rem.length ≤ 100) (z : Pc) (h0 : 0 ≤ z.w) (h1 : z.w < 4294967296) : (pieceL p rem z).length ≤ 800 := by
  have h2 := print_len z.w h0 h1
  have h3 : (oneL z.b1 (printL z.w)).length ≤ 280 := by
    unfold oneL
    have := trip_len (printL z.w)
    split
    · simp; omega
    · omega
  have h4 : (remL z.b2 rem (oneL z.b1 (printL z.w))).length ≤ 381 := by
    unfold remL
    split
    · simp; omega
    · omega
  have h5 : (emptL z.b4 rem (remL z.b2 rem (oneL z.b1 (printL z.w)))).length ≤ 484 := by
    unfold emptL
    split
    · simp; omega
    · omega
  unfold pieceL labsL
  split <;> simp [nmL] <;> omega
theorem text_len (rem : List UInt8) (hr : rem.length ≤ 100) : ∀ (zs : List Pc) (p : Nat), (∀ z, z ∈ zs → 0 ≤ z.w ∧ z.w < 4294967296) → (textR p rem zs).length ≤ 800 * zs.length
  | [], _, _ => by simp [textR]
  | z :: zs, p, h => by
    have h1 := piece_len p rem hr z (h z (List.mem_cons_self ..)).1 (h z (List.mem_cons_self ..)).2
    have h2 := text_len rem hr zs (p + 1) (fun y hy => h y (List.mem_cons_of_mem _ hy))
    rw [textR, List.length_append, List.length_cons]
    omega
/-- NONE OF THAT CHANGES A WORD. -/
theorem asm_rem (rem : List UInt8) (hr : 10 ∉ rem) (hl : rem.length ≤ 100) (zs : List Pc) (hn : zs.length ≤ 30) (hz : ∀ z, z ∈ zs → 0 ≤ z.w ∧ z.w < 4294967296) : asmL (textR 0 rem zs) = .ok (zs.map (·.w)) := by
  have h1 := text_len rem hl zs 0 hz
  obtain ⟨its, labs, h2, h3, h4⟩ := text_take rem hr zs 0 0 ⟨[], []⟩ (by omega) hz rfl (fun x hx => by cases hx) (fun x hx => by cases hx)
  unfold asmL
  rw [if_neg (by omega), h2]
  simp only
  rw [link_plain _ its 0 h4, h3]
  rfl
end Go.Proofs.YtdkggahkfheocaaGreatDoor
