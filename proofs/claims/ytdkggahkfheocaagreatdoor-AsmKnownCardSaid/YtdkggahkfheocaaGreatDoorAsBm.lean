/- Plain words for layer asm: words that are printed are assembled again. No statement is proved here. -/
import Derived.Test.YtdkggahkfheocaaGreatDoorAsBk
namespace Go.Proofs.YtdkggahkfheocaaGreatDoor
set_option maxRecDepth 100000
open Go.RowKit Go.Lib
set_option linter.unusedVariables false

theorem mem_joinTail : ∀ (r : List (List UInt8)) (c : UInt8), c ∈ joinTail [32] r → c = 32 ∨ ∃ y, y ∈ r ∧ c ∈ y
  | [], c, h => by simp [joinTail] at h
  | x :: r, c, h => by
    have e : joinTail [32] (x :: r) = 32 :: (x ++ joinTail [32] r) := by simp [joinTail]
    rw [e] at h
    rcases List.mem_cons.1 h with h | h
    · exact .inl h
    · rcases List.mem_append.1 h with h | h
      · exact .inr ⟨x, List.mem_cons_self .., h⟩
      · rcases mem_joinTail r c h with h | ⟨y, hy, h⟩
        · exact .inl h
        · exact .inr ⟨y, List.mem_cons_of_mem _ hy, h⟩
theorem print_chars (w : Int) (h0 : 0 ≤ w) (h1 : w < 4294967296) : ∀ c, c ∈ printL w → inkB c ∨ c = 32 := fun c hc => by
  obtain ⟨x, r, e, h⟩ := wds_ink w h0 h1
  rw [print_join, e, join_cons] at hc
  rw [e] at h
  rcases List.mem_append.1 hc with hc | hc
  · exact .inl ((h x (List.mem_cons_self ..)).2.1 c hc)
  · rcases mem_joinTail r c hc with hc | ⟨y, hy, hc⟩
    · exact .inr hc
    · exact .inl ((h y (List.mem_cons_of_mem _ hy)).2.1 c hc)
theorem print_not (w : Int) (h0 : 0 ≤ w) (h1 : w < 4294967296) : 10 ∉ printL w ∧ 59 ∉ printL w ∧ 58 ∉ printL w := by
  refine ⟨fun h => ?_, fun h => ?_, fun h => ?_⟩
  · rcases print_chars w h0 h1 _ h with h | h
    · exact (ink_not h).2.1 rfl
    · exact absurd h (by decide)
  · rcases print_chars w h0 h1 _ h with h | h
    · exact (ink_not h).2.2.1 rfl
    · exact absurd h (by decide)
  · rcases print_chars w h0 h1 _ h with h | h
    · exact (ink_not h).2.2.2 rfl
    · exact absurd h (by decide)
theorem wds_few (w : Int) : (wdsL w).length ≤ 4 := by
  unfold wdsL
  split
  · simp
  · unfold partsL
    have := form_short (decW w).op
    simp only [List.length_cons, List.length_map]
    omega
theorem print_len (w : Int) (h0 : 0 ≤ w) (h1 : w < 4294967296) : (printL w).length ≤ 92 := by
  obtain ⟨x, r, e, h⟩ := wds_ink w h0 h1
  have hf := wds_few w
  rw [e] at h hf
  have hr := strings_len r 22 (fun y hy => (h y (List.mem_cons_of_mem _ hy)).2.2)
  have hx := (h x (List.mem_cons_self ..)).2.2
  rw [print_join, e, join_cons, List.length_append, joinTail_length]
  simp only [List.length_cons, List.length_nil] at hf ⊢
  omega

/-! Blanks, remarks. -/
theorem words_blanks : ∀ (b w : List UInt8), (∀ x, x ∈ b → x = 32) → wordsF w b = if w = [] then [] else [w]
  | [], w, _ => rfl
  | c :: b, w, h => by
    have hc : c = 32 := h c (List.mem_cons_self ..)
    have hb := words_blanks b [] (fun x hx => h x (List.mem_cons_of_mem _ hx))
    rw [if_pos rfl] at hb
    rw [wordsF, if_pos hc, hb]
theorem words_behind : ∀ (l b w : List UInt8), (∀ x, x ∈ b → x = 32) → wordsF w (l ++ b) = wordsF w l
  | [], b, w, h => words_blanks b w h
  | c :: l, b, w, h => by
    rw [List.cons_append]
    simp only [wordsF]
    rw [words_behind l b _ h, words_behind l b _ h]
theorem right_trim (l : List UInt8) : ∃ b, l = trimRightB l 32 ++ b ∧ ∀ x, x ∈ b → x = 32 := by
  refine ⟨(l.reverse.takeWhile (fun x => x == 32)).reverse, ?_, fun x hx => ?_⟩
  · unfold trimRightB
    rw [← List.reverse_append, List.takeWhile_append_dropWhile, List.reverse_reverse]
  · have := List.all_takeWhile (l := l.reverse) (p := fun x => x == 32)
    rw [List.all_eq_true] at this
    have := this x (List.mem_reverse.1 hx)
    simpa using this
theorem words_trim (l : List UInt8) : wordsL (trimB l 32) = wordsL l := by
  unfold trimB
  rw [wordsL_drop]
  obtain ⟨b, e, hb⟩ := right_trim l
  conv => rhs; rw [e]
  exact (words_behind _ b [] hb).symm
theorem trim_sub (l : List UInt8) (c : UInt8) (h : c ∈ trimB l 32) : c ∈ l := by
  unfold trimB trimLeftB trimRightB at h
  have h1 := (List.dropWhile_sublist _).subset h
  have h2 := (List.dropWhile_sublist _).subset (List.mem_reverse.1 h1)
  exact List.mem_reverse.1 h2
theorem cut_none (l : List UInt8) (c : UInt8) (h : c ∉ l) : cutA l c = l := by
  unfold cutA
  exact (span_none l c (fun k hk => h (List.mem_of_getElem? hk))).1
theorem cut_rem (l r : List UInt8) (c : UInt8) (h : c ∉ l) : cutA (l ++ c :: r) c = l := by
  induction l with
  | nil => simp [cutA]
  | cons a l ih =>
    have ha : a ≠ c := fun e => h (by rw [e]; exact List.mem_cons_self ..)
    unfold cutA at ih ⊢
    rw [List.cons_append, List.takeWhile_cons_of_pos (by simpa using ha), ih (fun k => h (List.mem_cons_of_mem _ k))]
theorem no_suffix (l : List UInt8) (c : UInt8) (h : c ∉ l) : hasSuffix l [c] = false := by
  rcases Bool.eq_false_or_eq_true (hasSuffix l [c]) with e | e
  · exfalso
    unfold hasSuffix at e
    obtain ⟨p, rfl⟩ := List.isSuffixOf_iff_suffix.1 e
    exact h (by simp)
  · exact e
/-- A line that says a word. -/
theorem take_word (st : AS) (n : Nat) (l : List UInt8) (w : Int) (lab : List UInt8) (h58 : 58 ∉ l) (hw : wordsL l ≠ []) (hr : readP (wordsL l) = some (w, lab)) (h4 : st.its.length ≠ 4096) :
    takeL st n l = (0, { st with its := st.its ++ [(w, lab, n)] }) := by
  unfold takeL
  rw [if_neg (fun e => hw (by rw [e]; rfl)), no_suffix l 58 h58, if_neg (by decide), hr]
  simp only
  rw [if_neg h4]
theorem take_bare (st : AS) (n : Nat) (l : List UInt8) (w : Int) (lab : List UInt8) (h58 : 58 ∉ cutA l 59) (hw : wordsL (cutA l 59) ≠ []) (hr : readP (wordsL (cutA l 59)) = some (w, lab)) (h4 : st.its.length ≠ 4096) :
    takeL st n (bareL l) = (0, { st with its := st.its ++ [(w, lab, n)] }) := by
  have e : wordsL (bareL l) = wordsL (cutA l 59) := words_trim _
  exact take_word st n _ w lab (fun h => h58 (trim_sub _ _ h)) (by rw [e]; exact hw) (by rw [e]; exact hr) h4
theorem wds_ne (w : Int) : wdsL w ≠ [] := by
  unfold wdsL partsL; split <;> simp
theorem take_print (st : AS) (n : Nat) (w : Int) (h0 : 0 ≤ w) (h1 : w < 4294967296) (h4 : st.its.length ≠ 4096) :
    takeL st n (bareL (printL w)) = (0, { st with its := st.its ++ [(w, [], n)] }) := by
  have hn := print_not w h0 h1
  have e := cut_none (printL w) 59 hn.2.1
  exact take_bare st n _ w [] (by rw [e]; exact hn.2.2) (by rw [e, wds_words w h0 h1]; exact wds_ne w) (by rw [e]; exact read_print w h0 h1) h4

/-! Texts of many lines. -/
theorem take_app : ∀ (a b : List (List UInt8)) (st : AS) (n : Nat), takeAll st n (a ++ b) = match takeAll st n a with
    | .error e => .error e
    | .ok st' => takeAll st' (n + a.length) b
  | [], b, st, n => by simp [takeAll]
  | l :: a, b, st, n => by
    rw [List.cons_append, takeAll, takeAll]
    by_cases h : (takeL st n l).1 = 0
    · rw [if_pos h, if_pos h, take_app a b]
      simp only [List.length_cons, show n + 1 + a.length = n + (a.length + 1) from by omega]
    · rw [if_neg h, if_neg h]
theorem link_plain (labs : List (List UInt8 × Nat)) : ∀ (its : List (Int × List UInt8 × Nat)) (k : Nat), (∀ x, x ∈ its → x.2.1 = []) → linkAll labs k its = .ok (its.map (·.1))
  | [], k, _ => rfl
  | (w, lab, n) :: r, k, h => by
    have h1 : lab = [] := h (w, lab, n) (List.mem_cons_self ..)
    rw [linkAll, if_pos h1, link_plain labs r (k + 1) (fun x hx => h x (List.mem_cons_of_mem _ hx))]
    rfl
theorem lines_cons (a b : List UInt8) (h : 10 ∉ a) : linesL (a ++ 10 :: b) = a :: linesL b := lines_cut a b (fun x hx e => h (by rw [← e]; exact hx))
theorem dis_lines : ∀ (ws : List Int), W32 ws → linesL (disL ws) = ws.map printL ++ [[]]
  | [], _ => rfl
  | w :: ws, h => by
    have hw := h w (List.mem_cons_self ..)
    have e : disL (w :: ws) = printL w ++ 10 :: disL ws := by simp [disL]
    rw [e, lines_cons _ _ (print_not w hw.1 hw.2).1, dis_lines ws (fun x hx => h x (List.mem_cons_of_mem _ hx))]
    rfl
theorem take_prints : ∀ (ws : List Int) (st : AS) (n : Nat), W32 ws → st.its.length + ws.length ≤ 4096 → (∀ x, x ∈ st.its → x.2.1 = []) →
    ∃ its, takeAll st n ((ws.map printL).map bareL) = .ok ⟨its, st.labs⟩ ∧ its.map (·.1) = st.its.map (·.1) ++ ws ∧ ∀ x, x ∈ its → x.2.1 = []
  | [], st, n, _, _, hi => ⟨st.its, rfl, by simp, hi⟩
  | w :: ws, st, n, h, hl, hi => by
    have hw := h w (List.mem_cons_self ..)
    simp only [List.length_cons] at hl
    have ht := take_print st n w hw.1 hw.2 (by omega)
    obtain ⟨its, h1, h2, h3⟩ := take_prints ws { st with its := st.its ++ [(w, [], n)] } (n + 1) (fun x hx => h x (List.mem_cons_of_mem _ hx)) (by simp only [List.length_append, List.length_singleton]; omega) (fun x hx => by
      rcases List.mem_append.1 hx with hx | hx
      · exact hi x hx
      · rw [List.mem_singleton] at hx; subst hx; rfl)
    refine ⟨its, ?_, by rw [h2]; simp, h3⟩
    rw [List.map_cons, List.map_cons, takeAll, ht, if_pos rfl]
    exact h1
theorem dis_len (ws : List Int) (hw : W32 ws) : (disL ws).length ≤ 93 * ws.length := by
  induction ws with
  | nil => simp [disL]
  | cons a t ih =>
    have h1 := ih fun x hx => hw x (List.mem_cons_of_mem _ hx)
    have h2 := print_len a (hw a (List.mem_cons_self ..)).1 (hw a (List.mem_cons_self ..)).2
    have e : disL (a :: t) = (printL a ++ [10]) ++ disL t := by simp [disL]
    rw [e, List.length_append, List.length_append, List.length_cons, List.length_cons]
    simp only [List.length_nil]
    omega
/-- WORDS THAT ARE PRINTED ARE ASSEMBLED AGAIN. -/
theorem asm_dis (ws : List Int) (hw : W32 ws) (hl : ws.length ≤ 100) : asmL (disL ws) = .ok ws := by
  have h1 := dis_len ws hw
  obtain ⟨its, h2, h3, h4⟩ := take_prints ws ⟨[], []⟩ 0 hw (by simp; omega) (fun x hx => by cases hx)
  unfold asmL
  rw [if_neg (by omega), dis_lines ws hw, List.map_append, take_app, h2]
  simp only [List.map_nil, List.map_cons]
  have e : ∀ st n, takeAll st n [bareL []] = .ok st := fun st n => by
    rw [takeAll, show bareL [] = [] from rfl]
    simp [takeL, takeAll]
  rw [e]
  simp only
  rw [link_plain _ its 0 h4, h3]
  rfl
end Go.Proofs.YtdkggahkfheocaaGreatDoor
