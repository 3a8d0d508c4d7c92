/- Plain words for layer asm: words that are printed are assembled again. No statement is proved here.; Plain words for layer asm: remarks, empty lines, blanks, labels that nobody names. No statement is proved here. -/
import Derived.Test.YtdkggahkfheocaaGreatDoorAsBk
namespace Go.Proofs.YtdkggahkfheocaaGreatDoor
set_option maxRecDepth 100000
open Go.RowKit Go.Lib
set_option linter.unusedVariables false

theorem mem_joinTail : ∀ (r : List (List UInt8)) (c : UInt8), c ∈ joinTail [32] r → c = 32 ∨ ∃ y, y ∈ r ∧ c ∈ y
  | [], c, h => by simp [joinTail] at h
  | x :: r, c, h => by
    have e : joinTail [32] (x :: r) = 32 :: (x ++ joinTail [32] r) := by simp [joinTail]
    rw [e] at h
    rcases List.mem_cons.1 h with h | h
    · exact .inl h
    · rcases List.mem_append.1 h with h | h
      · exact .inr ⟨x, List.mem_cons_self .., h⟩
      · rcases mem_joinTail r c h with h | ⟨y, hy, h⟩
        · exact .inl h
        · exact .inr ⟨y, List.mem_cons_of_mem _ hy, h⟩
theorem print_chars (w : Int) (h0 : 0 ≤ w) (h1 : w < 4294967296) : ∀ c, c ∈ printL w → inkB c ∨ c = 32 := fun c hc => by
  obtain ⟨x, r, e, h⟩ := wds_ink w h0 h1
  rw [print_join, e, join_cons] at hc
  rw [e] at h
  rcases List.mem_append.1 hc with hc | hc
  · exact .inl ((h x (List.mem_cons_self ..)).2.1 c hc)
  · rcases mem_joinTail r c hc with hc | ⟨y, hy, hc⟩
    · exact .inr hc
    · exact .inl ((h y (List.mem_cons_of_mem _ hy)).2.1 c hc)
theorem print_not (w : Int) (h0 : 0 ≤ w) (h1 : w < 4294967296) : 10 ∉ printL w ∧ 59 ∉ printL w ∧ 58 ∉ printL w := by
  refine ⟨fun h => ?_, fun h => ?_, fun h => ?_⟩
  · rcases print_chars w h0 h1 _ h with h | h
    · exact (ink_not h).2.1 rfl
    · exact absurd h (by decide)
  · rcases print_chars w h0 h1 _ h with h | h
    · exact (ink_not h).2.2.1 rfl
    · exact absurd h (by decide)
  · rcases print_chars w h0 h1 _ h with h | h
    · exact (ink_not h).2.2.2 rfl
    · exact absurd h (by decide)
theorem wds_few (w : Int) : (wdsL w).length ≤ 4 := by
  unfold wdsL
  split
  · simp
  · unfold partsL
    have := form_short (decW w).op
    simp only [List.length_cons, List.length_map]
    omega
theorem print_len (w : Int) (h0 : 0 ≤ w) (h1 : w < 4294967296) : (printL w).length ≤ 92 := by
  obtain ⟨x, r, e, h⟩ := wds_ink w h0 h1
  have hf := wds_few w
  rw [e] at h hf
  have hr := strings_len r 22 (fun y hy => (h y (List.mem_cons_of_mem _ hy)).2.2)
  have hx := (h x (List.mem_cons_self ..)).2.2
  rw [print_join, e, join_cons, List.length_append, joinTail_length]
  simp only [List.length_cons, List.length_nil] at hf ⊢
  omega

/-! Blanks, remarks. -/
theorem words_blanks : ∀ (b w : List UInt8), (∀ x, x ∈ b → x = 32) → wordsF w b = if w = [] then [] else [w]
  | [], w, _ => rfl
  | c :: b, w, h => by
    have hc : c = 32 := h c (List.mem_cons_self ..)
    have hb := words_blanks b [] (fun x hx => h x (List.mem_cons_of_mem _ hx))
    rw [if_pos rfl] at hb
    rw [wordsF, if_pos hc, hb]
theorem words_behind : ∀ (l b w : List UInt8), (∀ x, x ∈ b → x = 32) → wordsF w (l ++ b) = wordsF w l
  | [], b, w, h => words_blanks b w h
  | c :: l, b, w, h => by
    rw [List.cons_append]
    simp only [wordsF]
    rw [words_behind l b _ h, words_behind l b _ h]
theorem right_trim (l : List UInt8) : ∃ b, l = trimRightB l 32 ++ b ∧ ∀ x, x ∈ b → x = 32 := by
  refine ⟨(l.reverse.takeWhile (fun x => x == 32)).reverse, ?_, fun x hx => ?_⟩
  · unfold trimRightB
    rw [← List.reverse_append, List.takeWhile_append_dropWhile, List.reverse_reverse]
  · have := List.all_takeWhile (l := l.reverse) (p := fun x => x == 32)
    rw [List.all_eq_true] at this
    have := this x (List.mem_reverse.1 hx)
    simpa using this
theorem words_trim (l : List UInt8) : wordsL (trimB l 32) = wordsL l := by
  unfold trimB
  rw [wordsL_drop]
  obtain ⟨b, e, hb⟩ := right_trim l
  conv => rhs; rw [e]
  exact (words_behind _ b [] hb).symm
theorem trim_sub (l : List UInt8) (c : UInt8) (h : c ∈ trimB l 32) : c ∈ l := by
  unfold trimB trimLeftB trimRightB at h
  have h1 := (List.dropWhile_sublist _).subset h
  have h2 := (List.dropWhile_sublist _).subset (List.mem_reverse.1 h1)
  exact List.mem_reverse.1 h2
theorem cut_none (l : List UInt8) (c : UInt8) (h : c ∉ l) : cutA l c = l := by
  unfold cutA
  exact (span_none l c (fun k hk => h (List.mem_of_getElem? hk))).1
theorem cut_rem (l r : List UInt8) (c : UInt8) (h : c ∉ l) : cutA (l ++ c :: r) c = l := by
  induction l with
  | nil => simp [cutA]
  | cons a l ih =>
    have ha : a ≠ c := fun e => h (by rw [e]; exact List.mem_cons_self ..)
    unfold cutA at ih ⊢
    rw [List.cons_append, List.takeWhile_cons_of_pos (by simpa using ha), ih (fun k => h (List.mem_cons_of_mem _ k))]
theorem no_suffix (l : List UInt8) (c : UInt8) (h : c ∉ l) : hasSuffix l [c] = false := by
  rcases Bool.eq_false_or_eq_true (hasSuffix l [c]) with e | e
  · exfalso
    unfold hasSuffix at e
    obtain ⟨p, rfl⟩ := List.isSuffixOf_iff_suffix.1 e
    exact h (by simp)
  · exact e
/-- A line that says a word. -/
theorem take_word (st : AS) (n : Nat) (l : List UInt8) (w : Int) (lab : List UInt8) (h58 : 58 ∉ l) (hw : wordsL l ≠ []) (hr : readP (wordsL l) = some (w, lab)) (h4 : st.its.length ≠ 4096) :
    takeL st n l = (0, { st with its := st.its ++ [(w, lab, n)] }) := by
  unfold takeL
  rw [if_neg (fun e => hw (by rw [e]; rfl)), no_suffix l 58 h58, if_neg (by decide), hr]
  simp only
  rw [if_neg h4]
theorem take_bare (st : AS) (n : Nat) (l : List UInt8) (w : Int) (lab : List UInt8) (h58 : 58 ∉ cutA l 59) (hw : wordsL (cutA l 59) ≠ []) (hr : readP (wordsL (cutA l 59)) = some (w, lab)) (h4 : st.its.length ≠ 4096) :
    takeL st n (bareL l) = (0, { st with its := st.its ++ [(w, lab, n)] }) := by
  have e : wordsL (bareL l) = wordsL (cutA l 59) := words_trim _
  exact take_word st n _ w lab (fun h => h58 (trim_sub _ _ h)) (by rw [e]; exact hw) (by rw [e]; exact hr) h4
theorem wds_ne (w : Int) : wdsL w ≠ [] := by
  unfold wdsL partsL; split <;> simp
theorem take_print (st : AS) (n : Nat) (w : Int) (h0 : 0 ≤ w) (h1 : w < 4294967296) (h4 : st.its.length ≠ 4096) :
    takeL st n (bareL (printL w)) = (0, { st with its := st.its ++ [(w, [], n)] }) := by
  have hn := print_not w h0 h1
  have e := cut_none (printL w) 59 hn.2.1
  exact take_bare st n _ w [] (by rw [e]; exact hn.2.2) (by rw [e, wds_words w h0 h1]; exact wds_ne w) (by rw [e]; exact read_print w h0 h1) h4

/-! Texts of many lines. -/
theorem take_app : ∀ (a b : List (List UInt8)) (st : AS) (n : Nat), takeAll st n (a ++ b) = match takeAll st n a with
    | .error e => .error e
    | .ok st' => takeAll st' (n + a.length) b
  | [], b, st, n => by simp [takeAll]
  | l :: a, b, st, n => by
    rw [List.cons_append, takeAll, takeAll]
    by_cases h : (takeL st n l).1 = 0
    · rw [if_pos h, if_pos h, take_app a b]
      simp only [List.length_cons, show n + 1 + a.length = n + (a.length + 1) from by omega]
    · rw [if_neg h, if_neg h]
theorem link_plain (labs : List (List UInt8 × Nat)) : ∀ (its : List (Int × List UInt8 × Nat)) (k : Nat), (∀ x, x ∈ its → x.2.1 = []) → linkAll labs k its = .ok (its.map (·.1))
  | [], k, _ => rfl
  | (w, lab, n) :: r, k, h => by
    have h1 : lab = [] := h (w, lab, n) (List.mem_cons_self ..)
    rw [linkAll, if_pos h1, link_plain labs r (k + 1) (fun x hx => h x (List.mem_cons_of_mem _ hx))]
    rfl
theorem lines_cons (a b : List UInt8) (h : 10 ∉ a) : linesL (a ++ 10 :: b) = a :: linesL b := lines_cut a b (fun x hx e => h (by rw [← e]; exact hx))
theorem dis_lines : ∀ (ws : List Int), W32 ws → linesL (disL ws) = ws.map printL ++ [[]]
  | [], _ => rfl
  | w :: ws, h => by
    have hw := h w (List.mem_cons_self ..)
    have e : disL (w :: ws) = printL w ++ 10 :: disL ws := by simp [disL]
    rw [e, lines_cons _ _ (print_not w hw.1 hw.2).1, dis_lines ws (fun x hx => h x (List.mem_cons_of_mem _ hx))]
    rfl
theorem take_prints : ∀ (ws : List Int) (st : AS) (n : Nat), W32 ws → st.its.length + ws.length ≤ 4096 → (∀ x, x ∈ st.its → x.2.1 = []) →
    ∃ its, takeAll st n ((ws.map printL).map bareL) = .ok ⟨its, st.labs⟩ ∧ its.map (·.1) = st.its.map (·.1) ++ ws ∧ ∀ x, x ∈ its → x.2.1 = []
  | [], st, n, _, _, hi => ⟨st.its, rfl, by simp, hi⟩
  | w :: ws, st, n, h, hl, hi => by
    have hw := h w (List.mem_cons_self ..)
    simp only [List.length_cons] at hl
    have ht := take_print st n w hw.1 hw.2 (by omega)
    obtain ⟨its, h1, h2, h3⟩ := take_prints ws { st with its := st.its ++ [(w, [], n)] } (n + 1) (fun x hx => h x (List.mem_cons_of_mem _ hx)) (by simp only [List.length_append, List.length_singleton]; omega) (fun x hx => by
      rcases List.mem_append.1 hx with hx | hx
      · exact hi x hx
      · rw [List.mem_singleton] at hx; subst hx; rfl)
    refine ⟨its, ?_, by rw [h2]; simp, h3⟩
    rw [List.map_cons, List.map_cons, takeAll, ht, if_pos rfl]
    exact h1
theorem dis_len (ws : List Int) (hw : W32 ws) : (disL ws).length ≤ 93 * ws.length := by
  induction ws with
  | nil => simp [disL]
  | cons a t ih =>
    have h1 := ih fun x hx => hw x (List.mem_cons_of_mem _ hx)
    have h2 := print_len a (hw a (List.mem_cons_self ..)).1 (hw a (List.mem_cons_self ..)).2
    have e : disL (a :: t) = (printL a ++ [10]) ++ disL t := by simp [disL]
    rw [e, List.length_append, List.length_append, List.length_cons, List.length_cons]
    simp only [List.length_nil]
    omega
/-- WORDS THAT ARE PRINTED ARE ASSEMBLED AGAIN. -/
theorem asm_dis (ws : List Int) (hw : W32 ws) (hl : ws.length ≤ 100) : asmL (disL ws) = .ok ws := by
  have h1 := dis_len ws hw
  obtain ⟨its, h2, h3, h4⟩ := take_prints ws ⟨[], []⟩ 0 hw (by simp; omega) (fun x hx => by cases hx)
  unfold asmL
  rw [if_neg (by omega), dis_lines ws hw, List.map_append, take_app, h2]
  simp only [List.map_nil, List.map_cons]
  have e : ∀ st n, takeAll st n [bareL []] = .ok st := fun st n => by
    rw [takeAll, show bareL [] = [] from rfl]
    simp [takeL, takeAll]
  rw [e]
  simp only
  rw [link_plain _ its 0 h4, h3]
  rfl
end Go.Proofs.YtdkggahkfheocaaGreatDoor
namespace Go.Proofs.YtdkggahkfheocaaGreatDoor
set_option maxRecDepth 100000
open Go.RowKit Go.Lib
set_option linter.unusedVariables false

/-- Three blanks for each blank. -/
def tripL (l : List UInt8) : List UInt8 := l.flatMap fun c => if c = 32 then [32, 32, 32] else [c]
theorem trip_words : ∀ (l w : List UInt8), wordsF w (tripL l) = wordsF w l
  | [], w => rfl
  | c :: l, w => by
    have e : tripL (c :: l) = (if c = 32 then [32, 32, 32] else [c]) ++ tripL l := by simp [tripL]
    rw [e]
    by_cases h : c = 32
    · subst h
      rw [if_pos rfl]
      by_cases hw : w = []
      · subst hw
        simp [wordsF, trip_words l []]
      · simp [wordsF, hw, trip_words l []]
    · rw [if_neg h]
      simp only [List.singleton_append, wordsF, if_neg h]
      exact trip_words l _
theorem trip_mem (l : List UInt8) (c : UInt8) (h : c ∈ tripL l) (hc : c ≠ 32) : c ∈ l := by
  unfold tripL at h
  obtain ⟨x, hx, h⟩ := List.mem_flatMap.1 h
  split at h
  · simp at h; exact absurd h hc
  · rw [List.mem_singleton] at h; subst h; exact hx
theorem trip_len : ∀ (l : List UInt8), (tripL l).length ≤ 3 * l.length
  | [] => by simp [tripL]
  | c :: l => by
    have e : tripL (c :: l) = (if c = 32 then [32, 32, 32] else [c]) ++ tripL l := by simp [tripL]
    have := trip_len l
    rw [e, List.length_append, List.length_cons]
    split <;> simp <;> omega
/-- A label's name, its line; a word's line. -/
def nmL (p : Nat) : List UInt8 := [108, UInt8.ofNat (97 + p % 26), UInt8.ofNat (97 + p / 26)]
def oneL (b1 : Bool) (s : List UInt8) : List UInt8 := if b1 then [32, 32] ++ tripL s ++ [32] else s
def remL (b2 : Bool) (rem s : List UInt8) : List UInt8 := if b2 then s ++ 59 :: rem else s
def emptL (b4 : Bool) (rem s : List UInt8) : List UInt8 := if b4 then 10 :: 59 :: (rem ++ 10 :: s) else s
def labsL (b8 : Bool) (p : Nat) (rem s : List UInt8) : List UInt8 := if b8 then 32 :: (nmL p ++ 58 :: 32 :: 59 :: (rem ++ 10 :: s)) else s
structure Pc where
  w : Int
  b1 : Bool
  b2 : Bool
  b4 : Bool
  b8 : Bool
def pieceL (p : Nat) (rem : List UInt8) (z : Pc) : List UInt8 := labsL z.b8 p rem (emptL z.b4 rem (remL z.b2 rem (oneL z.b1 (printL z.w)))) ++ [10]
def textR (p : Nat) (rem : List UInt8) : List Pc → List UInt8
  | [] => []
  | z :: r => pieceL p rem z ++ textR (p + 1) rem r
theorem textR_app (rem : List UInt8) : ∀ (a : List Pc) (p : Nat) (z : Pc), textR p rem (a ++ [z]) = textR p rem a ++ pieceL (p + a.length) rem z
  | [], p, z => by simp [textR]
  | x :: a, p, z => by
    rw [List.cons_append, textR, textR, textR_app rem a (p + 1) z, List.append_assoc, List.length_cons, show p + 1 + a.length = p + (a.length + 1) from by omega]
theorem nm_bytes : ∀ p : Fin 30, 10 ∉ nmL p.val ∧ bareL (32 :: (nmL p.val ++ [58, 32, 59])) = nmL p.val ++ [58] ∧ nameB (nmL p.val) = true ∧ 59 ∉ nmL p.val := by decide +kernel
theorem nm_inj : ∀ p q : Fin 30, nmL p.val = nmL q.val → p = q := by decide +kernel
def labLn (p : Nat) (rem : List UInt8) : List UInt8 := 32 :: (nmL p ++ 58 :: 32 :: 59 :: rem)
/-- The lines of a piece. -/
def pieceLs (p : Nat) (rem : List UInt8) (z : Pc) : List (List UInt8) := (if z.b8 then [labLn p rem] else []) ++ ((if z.b4 then [[], 59 :: rem] else []) ++ [remL z.b2 rem (oneL z.b1 (printL z.w))])
theorem one_not (w : Int) (h0 : 0 ≤ w) (h1 : w < 4294967296) (b1 : Bool) : 10 ∉ oneL b1 (printL w) ∧ 59 ∉ oneL b1 (printL w) ∧ 58 ∉ oneL b1 (printL w) := by
  have hn := print_not w h0 h1
  have h : ∀ c, c ≠ 32 → c ∈ oneL b1 (printL w) → c ∈ printL w := fun c hc hm => by
    unfold oneL at hm
    split at hm
    · simp only [List.mem_append, List.mem_cons, List.not_mem_nil, or_false] at hm
      rcases hm with ((hm | hm) | hm) | hm
      · exact absurd hm hc
      · exact absurd hm hc
      · exact trip_mem _ _ hm hc
      · exact absurd hm hc
    · exact hm
  exact ⟨fun k => hn.1 (h _ (by decide) k), fun k => hn.2.1 (h _ (by decide) k), fun k => hn.2.2 (h _ (by decide) k)⟩
theorem piece_lines (p : Nat) (hp : p < 30) (rem : List UInt8) (hr : 10 ∉ rem) (z : Pc) (h0 : 0 ≤ z.w) (h1 : z.w < 4294967296) (t : List UInt8) : linesL (pieceL p rem z ++ t) = pieceLs p rem z ++ linesL t := by
  have hl : 10 ∉ remL z.b2 rem (oneL z.b1 (printL z.w)) := by
    have := (one_not z.w h0 h1 z.b1).1
    unfold remL
    split
    · simp only [List.mem_append, List.mem_cons, not_or]
      exact ⟨this, by decide, hr⟩
    · exact this
  have hlab : 10 ∉ labLn p rem := by
    have := (nm_bytes ⟨p, hp⟩).1
    unfold labLn
    simp only [List.mem_append, List.mem_cons, not_or]
    exact ⟨by decide, this, by decide, by decide, by decide, hr⟩
  have h2 : 10 ∉ (59 :: rem : List UInt8) := by
    simp only [List.mem_cons, not_or]
    exact ⟨by decide, hr⟩
  unfold pieceL pieceLs
  generalize remL z.b2 rem (oneL z.b1 (printL z.w)) = s at *
  have e1 : linesL (emptL z.b4 rem s ++ 10 :: t) = (if z.b4 then [[], 59 :: rem] else []) ++ s :: linesL t := by
    unfold emptL
    split
    · have e : (10 :: 59 :: (rem ++ 10 :: s) : List UInt8) ++ 10 :: t = [] ++ 10 :: ((59 :: rem) ++ 10 :: (s ++ 10 :: t)) := by simp
      rw [e, lines_cons _ _ (by simp), lines_cons _ _ h2, lines_cons _ _ hl]
      rfl
    · rw [lines_cons _ _ hl]; rfl
  have e0 : (labsL z.b8 p rem (emptL z.b4 rem s) ++ [10]) ++ t = labsL z.b8 p rem (emptL z.b4 rem s) ++ 10 :: t := by simp
  rw [e0]
  unfold labsL
  split
  · have e : (32 :: (nmL p ++ 58 :: 32 :: 59 :: (rem ++ 10 :: emptL z.b4 rem s)) : List UInt8) ++ 10 :: t = labLn p rem ++ 10 :: (emptL z.b4 rem s ++ 10 :: t) := by simp [labLn]
    rw [e, lines_cons _ _ hlab, e1]
    simp
  · rw [e1]; simp
theorem bare_lab (p : Nat) (hp : p < 30) (rem : List UInt8) : bareL (labLn p rem) = nmL p ++ [58] := by
  have hb := (nm_bytes ⟨p, hp⟩).2.1
  have h59 := (nm_bytes ⟨p, hp⟩).2.2.2
  simp only at hb h59
  have n1 : 59 ∉ (32 :: (nmL p ++ [58, 32]) : List UInt8) := by
    simp only [List.mem_append, List.mem_cons, not_or, List.not_mem_nil, not_false_eq_true, and_true]
    exact ⟨by decide, h59, by decide, by decide⟩
  rw [← hb]
  unfold bareL
  have e1 : labLn p rem = (32 :: (nmL p ++ [58, 32])) ++ 59 :: rem := by simp [labLn]
  have e2 : (32 :: (nmL p ++ [58, 32, 59]) : List UInt8) = (32 :: (nmL p ++ [58, 32])) ++ 59 :: [] := by simp
  rw [e1, e2, cut_rem _ _ _ n1, cut_rem _ _ _ n1]
theorem suffix_app (a : List UInt8) (c : UInt8) : hasSuffix (a ++ [c]) [c] = true ∧ trimSuffix (a ++ [c]) [c] = a := by
  have h : hasSuffix (a ++ [c]) [c] = true := by
    unfold hasSuffix
    exact List.isSuffixOf_iff_suffix.2 ⟨a, rfl⟩
  refine ⟨h, ?_⟩
  unfold trimSuffix
  rw [if_pos h]
  simp
theorem take_lab (st : AS) (n : Nat) (a : List UInt8) (hn : nameB a = true) (hf : labF st.labs a = none) : takeL st n (a ++ [58]) = (0, { st with labs := (a, st.its.length) :: st.labs }) := by
  obtain ⟨h1, h2⟩ := suffix_app a 58
  unfold takeL
  rw [if_neg (by simp), if_pos h1, h2, if_pos hn, hf]
  simp
theorem take_step {st st' : AS} {n : Nat} {l : List UInt8} (h : takeL st n l = (0, st')) (r : List (List UInt8)) : takeAll st n (l :: r) = takeAll st' (n + 1) r := by
  rw [takeAll, h, if_pos rfl]
theorem take_none (st : AS) (n : Nat) : takeL st n [] = (0, st) := by unfold takeL; rw [if_pos rfl]
theorem bare_rem (rem : List UInt8) : bareL (59 :: rem) = [] := by
  unfold bareL
  rw [show (59 :: rem : List UInt8) = [] ++ 59 :: rem from rfl, cut_rem _ _ _ (by simp)]
  rfl
theorem one_words (w : Int) (h0 : 0 ≤ w) (h1 : w < 4294967296) (b1 : Bool) : wordsL (oneL b1 (printL w)) = wdsL w := by
  unfold oneL
  split
  · have e : ([32, 32] ++ tripL (printL w) ++ [32] : List UInt8) = 32 :: 32 :: (tripL (printL w) ++ [32]) := by simp
    rw [e, wordsL_blank, wordsL_blank]
    unfold wordsL
    rw [words_behind _ [32] [] (by simp), trip_words]
    exact wds_words w h0 h1
  · exact wds_words w h0 h1
theorem take_rem (st : AS) (n : Nat) (w : Int) (h0 : 0 ≤ w) (h1 : w < 4294967296) (b1 b2 : Bool) (rem : List UInt8) (h4 : st.its.length ≠ 4096) :
    takeL st n (bareL (remL b2 rem (oneL b1 (printL w)))) = (0, { st with its := st.its ++ [(w, [], n)] }) := by
  have hn := one_not w h0 h1 b1
  have e : cutA (remL b2 rem (oneL b1 (printL w))) 59 = oneL b1 (printL w) := by
    unfold remL
    split
    · exact cut_rem _ _ _ hn.2.1
    · exact cut_none _ _ hn.2.1
  exact take_bare st n _ w [] (by rw [e]; exact hn.2.2) (by rw [e, one_words w h0 h1]; exact wds_ne w) (by rw [e, one_words w h0 h1, ← wds_words w h0 h1]; exact read_print w h0 h1) h4
theorem piece_take (st : AS) (n p : Nat) (hp : p < 30) (rem : List UInt8) (z : Pc) (h0 : 0 ≤ z.w) (h1 : z.w < 4294967296) (hf : labF st.labs (nmL p) = none) (h4 : st.its.length < 4096) (r : List (List UInt8)) :
    ∃ k labs, takeAll st n ((pieceLs p rem z).map bareL ++ r) = takeAll ⟨st.its ++ [(z.w, [], k)], labs⟩ (k + 1) r ∧ ∀ x, x ∈ labs → x ∈ st.labs ∨ x.1 = nmL p := by
  have hl : ∀ (st' : AS) (n' : Nat), st'.its = st.its → takeAll st' n' ((((if z.b4 then [[], 59 :: rem] else []) ++ [remL z.b2 rem (oneL z.b1 (printL z.w))]).map bareL) ++ r) = takeAll ⟨st.its ++ [(z.w, [], if z.b4 then n' + 2 else n')], st'.labs⟩ ((if z.b4 then n' + 2 else n') + 1) r := by
    intro st' n' he
    cases hb : z.b4 with
    | true =>
      rw [if_pos rfl, if_pos rfl]
      simp only [List.cons_append, List.nil_append, List.map_cons, List.map_nil]
      rw [take_step (show takeL st' n' (bareL []) = (0, st') from take_none st' n'), take_step (by rw [bare_rem]; exact take_none st' (n' + 1)), take_step (take_rem st' (n' + 1 + 1) z.w h0 h1 z.b1 z.b2 rem (by rw [he]; omega)), he]
    | false =>
      simp only [Bool.false_eq_true, if_false, List.nil_append, List.map_cons, List.map_nil, List.cons_append]
      rw [take_step (take_rem st' n' z.w h0 h1 z.b1 z.b2 rem (by rw [he]; omega)), he]
  unfold pieceLs
  cases hb : z.b8 with
  | true =>
    have hn := (nm_bytes ⟨p, hp⟩).2.2.1
    refine ⟨if z.b4 then n + 1 + 2 else n + 1, (nmL p, st.its.length) :: st.labs, ?_, fun x hx => ?_⟩
    · rw [if_pos rfl, List.map_append, List.append_assoc]
      simp only [List.map_cons, List.map_nil, List.singleton_append]
      rw [take_step (by rw [bare_lab p hp rem]; exact take_lab st n (nmL p) hn hf)]
      exact hl { st with labs := (nmL p, st.its.length) :: st.labs } (n + 1) rfl
    · rcases List.mem_cons.1 hx with rfl | hx
      · exact .inr rfl
      · exact .inl hx
  | false =>
    refine ⟨if z.b4 then n + 2 else n, st.labs, ?_, fun x hx => .inl hx⟩
    simp only [Bool.false_eq_true, if_false, List.nil_append]
    exact hl st n rfl
theorem labF_none {labs : List (List UInt8 × Nat)} {s : List UInt8} (h : ∀ x, x ∈ labs → x.1 ≠ s) : labF labs s = none := by
  induction labs with
  | nil => rfl
  | cons a r ih =>
    obtain ⟨n, q⟩ := a
    simp only [labF]
    rw [if_neg (h (n, q) (List.mem_cons_self ..))]
    exact ih (fun x hx => h x (List.mem_cons_of_mem _ hx))
theorem text_take (rem : List UInt8) (hr : 10 ∉ rem) : ∀ (zs : List Pc) (p n : Nat) (st : AS), p + zs.length ≤ 30 → (∀ z, z ∈ zs → 0 ≤ z.w ∧ z.w < 4294967296) → st.its.length = p → (∀ x, x ∈ st.its → x.2.1 = []) → (∀ x, x ∈ st.labs → ∃ j, j < p ∧ x.1 = nmL j) →
    ∃ its labs, takeAll st n ((linesL (textR p rem zs)).map bareL) = .ok ⟨its, labs⟩ ∧ its.map (·.1) = st.its.map (·.1) ++ zs.map (·.w) ∧ ∀ x, x ∈ its → x.2.1 = []
  | [], p, n, st, _, _, _, hi, _ => ⟨st.its, st.labs, by
      show takeAll st n [bareL []] = _
      rw [take_step (show takeL st n (bareL []) = (0, st) from take_none st n)]
      rfl, by simp, hi⟩
  | z :: zs, p, n, st, hl, hz, hp, hi, hlb => by
    simp only [List.length_cons] at hl
    have hz0 := hz z (List.mem_cons_self ..)
    have hf : labF st.labs (nmL p) = none := labF_none fun x hx e => by
      obtain ⟨j, hj, hx2⟩ := hlb x hx
      have := nm_inj ⟨j, by omega⟩ ⟨p, by omega⟩ (hx2.symm.trans e)
      have := congrArg Fin.val this
      simp only at this
      omega
    obtain ⟨k, labs, h1, h2⟩ := piece_take st n p (by omega) rem z hz0.1 hz0.2 hf (by omega) ((linesL (textR (p + 1) rem zs)).map bareL)
    obtain ⟨its, labs', h3, h4, h5⟩ := text_take rem hr zs (p + 1) (k + 1) ⟨st.its ++ [(z.w, [], k)], labs⟩ (by omega) (fun y hy => hz y (List.mem_cons_of_mem _ hy)) (by simp [hp]) (fun x hx => by
      rcases List.mem_append.1 hx with hx | hx
      · exact hi x hx
      · rw [List.mem_singleton] at hx; subst hx; rfl) (fun x hx => by
      rcases h2 x hx with hx | hx
      · obtain ⟨j, hj, e⟩ := hlb x hx
        exact ⟨j, by omega, e⟩
      · exact ⟨p, by omega, hx⟩)
    refine ⟨its, labs', ?_, by rw [h4]; simp, h5⟩
    rw [textR, piece_lines p (by omega) rem hr z hz0.1 hz0.2, List.map_append, h1]
    exact h3
theorem piece_len (p : Nat) (rem : List UInt8) (hr : rem.length ≤ 100) (z : Pc) (h0 : 0 ≤ z.w) (h1 : z.w < 4294967296) : (pieceL p rem z).length ≤ 800 := by
  have h2 := print_len z.w h0 h1
  have h3 : (oneL z.b1 (printL z.w)).length ≤ 280 := by
    unfold oneL
    have := trip_len (printL z.w)
    split
    · simp; omega
    · omega
  have h4 : (remL z.b2 rem (oneL z.b1 (printL z.w))).length ≤ 381 := by
    unfold remL
    split
    · simp; omega
    · omega
  have h5 : (emptL z.b4 rem (remL z.b2 rem (oneL z.b1 (printL z.w)))).length ≤ 484 := by
    unfold emptL
    split
    · simp; omega
    · omega
  unfold pieceL labsL
  split <;> simp [nmL] <;> omega
theorem text_len (rem : List UInt8) (hr : rem.length ≤ 100) : ∀ (zs : List Pc) (p : Nat), (∀ z, z ∈ zs → 0 ≤ z.w ∧ z.w < 4294967296) → (textR p rem zs).length ≤ 800 * zs.length
  | [], _, _ => by simp [textR]
  | z :: zs, p, h => by
    have h1 := piece_len p rem hr z (h z (List.mem_cons_self ..)).1 (h z (List.mem_cons_self ..)).2
    have h2 := text_len rem hr zs (p + 1) (fun y hy => h y (List.mem_cons_of_mem _ hy))
    rw [textR, List.length_append, List.length_cons]
    omega
/-- NONE OF THAT CHANGES A WORD. -/
theorem asm_rem (rem : List UInt8) (hr : 10 ∉ rem) (hl : rem.length ≤ 100) (zs : List Pc) (hn : zs.length ≤ 30) (hz : ∀ z, z ∈ zs → 0 ≤ z.w ∧ z.w < 4294967296) : asmL (textR 0 rem zs) = .ok (zs.map (·.w)) := by
  have h1 := text_len rem hl zs 0 hz
  obtain ⟨its, labs, h2, h3, h4⟩ := text_take rem hr zs 0 0 ⟨[], []⟩ (by omega) hz rfl (fun x hx => by cases hx) (fun x hx => by cases hx)
  unfold asmL
  rw [if_neg (by omega), h2]
  simp only
  rw [link_plain _ its 0 h4, h3]
  rfl
end Go.Proofs.YtdkggahkfheocaaGreatDoor
