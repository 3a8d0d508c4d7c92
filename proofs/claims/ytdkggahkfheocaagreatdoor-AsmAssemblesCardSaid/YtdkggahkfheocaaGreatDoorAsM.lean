/- Plain words for layer asm: numerals, and what stands between blanks. No statement is proved here. -/
import Derived.Lib.AtoiTie
import Derived.Lib.ItoaLen
import Derived.Lib.Strings
import Derived.Lib.TrimByte
import Derived.Lib.Join
import Derived.Lib.CutLaws
import Derived.Lib.Hide
namespace Go.Proofs.YtdkggahkfheocaaGreatDoor
open Go.Lib

theorem decFrom_app : ∀ (l : List UInt8) (acc n : Nat) (r : List UInt8), decFrom acc l = some n → decFrom acc (l ++ r) = decFrom n r
  | [], acc, n, r, h => by simp only [decFrom, Option.some.injEq] at h; subst h; rfl
  | b :: l, acc, n, r, h => by
    simp only [decFrom, List.cons_append] at h ⊢
    cases hd : digitVal b with
    | none => simp [hd] at h
    | some d => simp only [hd] at h ⊢; exact decFrom_app l _ n r h
theorem digit_nat (k : Nat) (h : k < 10) : (UInt8.ofNat (48 + k)).toNat = 48 + k := by
  simp; omega
theorem digit_of (k : Nat) (h : k < 10) : digitVal (UInt8.ofNat (48 + k)) = some k := by
  unfold digitVal
  rw [digit_nat k h, if_pos (by omega)]
  simp
theorem decDigits_big {n : Nat} (h : ¬ n < 10) : decDigits n = decDigits (n / 10) ++ [UInt8.ofNat (48 + n % 10)] := by rw [decDigits, dif_neg h]
theorem decFrom_digits (n : Nat) : decFrom 0 (decDigits n) = some n := by
  induction n using Nat.strongRecOn with
  | _ n ih =>
    by_cases h : n < 10
    · rw [decDigits_one h]
      simp only [decFrom, digit_of n h]
      simp
    · rw [decDigits_big h, decFrom_app _ _ _ _ (ih (n / 10) (by omega))]
      simp only [decFrom, digit_of (n % 10) (by omega), Option.some.injEq]
      omega
theorem decDigits_ne (n : Nat) : decDigits n ≠ [] := fun h => by
  have h1 := decDigits_length n
  have h2 := nDigits_pos n
  rw [h] at h1
  simp at h1
  omega
theorem decNat_digits (n : Nat) : decNat (decDigits n) = some n := by
  unfold decNat
  rw [if_neg (by simpa using decDigits_ne n)]
  exact decFrom_digits n
theorem digits_mem (n : Nat) : ∀ x, x ∈ decDigits n → 48 ≤ x.toNat ∧ x.toNat ≤ 57 := by
  intro x hx
  rw [decDigits_eq] at hx
  obtain ⟨t, _, rfl⟩ := List.mem_map.1 hx
  unfold dg
  rw [digit_nat _ (by omega)]
  omega
theorem decFrom_le : ∀ (l : List UInt8) (acc n : Nat), decFrom acc l = some n → acc ≤ n
  | [], acc, n, h => by simp only [decFrom, Option.some.injEq] at h; omega
  | b :: l, acc, n, h => by
    simp only [decFrom] at h
    cases hd : digitVal b with
    | none => simp [hd] at h
    | some d => simp only [hd] at h; have := decFrom_le l _ n h; omega
theorem parse_of_dec : ∀ (l : List UInt8) (acc n : Nat), decFrom acc l = some n → n < 18446744073709551616 → parseUint10 acc l = .ok n
  | [], acc, n, h, _ => by simp only [decFrom, Option.some.injEq] at h; subst h; rfl
  | b :: l, acc, n, h, hn => by
    simp only [decFrom] at h
    cases hd : digitVal b with
    | none => simp [hd] at h
    | some d =>
      simp only [hd] at h
      have h1 := decFrom_le l _ n h
      obtain ⟨h2, h3, rfl⟩ := digitVal_eq hd
      simp only [parseUint10]
      rw [if_pos ⟨h2, h3⟩, if_neg (by omega), if_neg (by omega)]
      exact parse_of_dec l _ n h hn
theorem parseMag_digits (n : Nat) (h : n < 18446744073709551616) : parseMag (decDigits n) = .ok n := by
  unfold parseMag
  rw [if_neg (decDigits_ne n)]
  exact parse_of_dec _ _ _ (decFrom_digits n) h
theorem digits_head (n : Nat) : ∃ c r, decDigits n = c :: r ∧ 48 ≤ c.toNat ∧ c.toNat ≤ 57 := by
  cases h : decDigits n with
  | nil => exact absurd h (decDigits_ne n)
  | cons c r => exact ⟨c, r, rfl, digits_mem n c (by rw [h]; exact List.mem_cons_self ..)⟩
theorem itoa_neg' {v : Int} (h : v < 0) : itoa v = 45 :: decDigits v.natAbs := if_pos h
theorem itoa_nonneg' {v : Int} (h : 0 ≤ v) : itoa v = decDigits v.toNat := if_neg (by omega)
theorem atoi_itoa (v : Int) (h0 : -9223372036854775808 ≤ v) (h1 : v ≤ 9223372036854775807) : atoiAll (itoa v) = .ok v := by
  by_cases hv : v < 0
  · rw [itoa_neg' hv]
    unfold atoiAll
    simp only [show (45 : UInt8).toNat = 45 from rfl, or_true, if_true, parseMag_digits v.natAbs (by omega)]
    rw [if_neg (by simp), if_neg (by omega)]
    congr 1
    omega
  · obtain ⟨c, r, hc, hc1, hc2⟩ := digits_head v.toNat
    rw [itoa_nonneg' (by omega)]
    have hp := parseMag_digits v.toNat (by omega)
    rw [hc] at hp ⊢
    unfold atoiAll
    have e1 : ¬ c.toNat = 43 := by omega
    have e2 : ¬ c.toNat = 45 := by omega
    simp only [e1, e2, or_self, if_false, hp]
    rw [if_neg (by omega), if_neg (by simp)]
    congr 1
    omega
theorem atoi_range {s : List UInt8} {v : Int} (h : atoiAll s = .ok v) : -9223372036854775808 ≤ v ∧ v ≤ 9223372036854775807 := by
  unfold atoiAll at h
  split at h
  · cases h
  · rename_i c r
    simp only at h
    split at h
    · cases h
    · cases h
    · split at h
      · cases h
      · split at h
        · cases h
        · injection h with h
          split at h <;> omega
def digB (c : UInt8) : Bool := decide (48 ≤ c.toNat) && decide (c.toNat ≤ 57)
/-- Digits, without noughts ahead. -/
def canB (l : List UInt8) : Bool := decide (1 ≤ l.length) && l.all digB && (decide (l.length = 1) || decide (l.headD 0 ≠ 48))
theorem digB_nat {c : UInt8} (h : digB c = true) : 48 ≤ c.toNat ∧ c.toNat ≤ 57 := by
  unfold digB at h
  rw [Bool.and_eq_true, decide_eq_true_iff, decide_eq_true_iff] at h
  exact h
theorem digB_of {c : UInt8} (h : 48 ≤ c.toNat ∧ c.toNat ≤ 57) : digB c = true := by
  unfold digB
  rw [Bool.and_eq_true, decide_eq_true_iff, decide_eq_true_iff]
  exact h
theorem digB_val {c : UInt8} (h : digB c = true) : digitVal c = some (c.toNat - 48) := by
  unfold digitVal; rw [if_pos (digB_nat h)]
theorem digB_none {c : UInt8} (h : digB c = false) : digitVal c = none := by
  unfold digitVal
  rw [if_neg (fun k => by rw [digB_of k] at h; cases h)]
theorem dec_all : ∀ (l : List UInt8) (acc : Nat), l.all digB = true → ∃ n, decFrom acc l = some n
  | [], acc, _ => ⟨acc, rfl⟩
  | c :: l, acc, h => by
    rw [List.all_cons, Bool.and_eq_true] at h
    simp only [decFrom, digB_val h.1]
    exact dec_all l _ h.2
theorem all_dec : ∀ (l : List UInt8) (acc n : Nat), decFrom acc l = some n → l.all digB = true
  | [], _, _, _ => rfl
  | c :: l, acc, n, h => by
    cases hc : digB c with
    | false => simp [decFrom, digB_none hc] at h
    | true =>
      simp only [decFrom, digB_val hc] at h
      rw [List.all_cons, hc, all_dec l _ n h]; rfl
theorem byte_back (c : UInt8) (h : digB c = true) : UInt8.ofNat (48 + (c.toNat - 48)) = c := by
  have := digB_nat h
  rw [show 48 + (c.toNat - 48) = c.toNat from by omega]
  simp
/-- What is digits, and has no nought ahead, is the numeral of what it says. -/
theorem can_back : ∀ (k : Nat) (l : List UInt8), l.length = k → canB l = true → ∀ n, decFrom 0 l = some n → decDigits n = l := by
  intro k
  induction k with
  | zero =>
    intro l hl hc
    rw [List.eq_nil_of_length_eq_zero hl] at hc
    exact absurd hc (by decide)
  | succ k ih =>
    intro l hl hc n hn
    unfold canB at hc
    simp only [Bool.and_eq_true, Bool.or_eq_true, decide_eq_true_iff] at hc
    obtain ⟨⟨h1, h2⟩, h3⟩ := hc
    obtain ⟨p, c, rfl⟩ : ∃ p c, l = p ++ [c] := ⟨l.dropLast, l.getLast (by intro e; subst e; simp at h1), (List.dropLast_concat_getLast _).symm⟩
    rw [List.all_append, Bool.and_eq_true] at h2
    have hcd : digB c = true := by simpa using h2.2
    obtain ⟨m, hm⟩ := dec_all p 0 h2.1
    have e := decFrom_app p 0 m [c] hm
    rw [hn] at e
    simp only [decFrom, digB_val hcd, Option.some.injEq] at e
    have hd := digB_nat hcd
    have hpl : p.length = k := by simpa using hl
    by_cases hp : p = []
    · subst hp
      simp only [decFrom, Option.some.injEq] at hm
      subst hm
      rw [e, decDigits_one (by omega)]
      simp only [Nat.zero_mul, Nat.zero_add, byte_back c hcd]
      rfl
    · have h48 : p.headD 0 ≠ 48 := by
        rcases h3 with h3 | h3
        · have : p.length = 0 := by simpa using h3
          exact absurd (List.eq_nil_of_length_eq_zero this) hp
        · cases p with
          | nil => exact absurd rfl hp
          | cons a t => exact h3
      have hcp : canB p = true := by
        unfold canB
        simp only [Bool.and_eq_true, Bool.or_eq_true, decide_eq_true_iff]
        refine ⟨⟨?_, h2.1⟩, .inr h48⟩
        cases p with
        | nil => exact absurd rfl hp
        | cons a t => simp
      have hpm := ih p hpl hcp m hm
      have hm1 : 1 ≤ m := by
        rcases Nat.eq_zero_or_pos m with h0 | h0
        · subst h0
          rw [decDigits_one (by omega)] at hpm
          rw [← hpm] at h48
          exact absurd rfl h48
        · exact h0
      rw [e, decDigits_big (by omega), show (m * 10 + (c.toNat - 48)) / 10 = m from by omega, show (m * 10 + (c.toNat - 48)) % 10 = c.toNat - 48 from by omega, hpm, byte_back c hcd]
theorem digits_can (n : Nat) : canB (decDigits n) = true := by
  induction n using Nat.strongRecOn with
  | _ n ih =>
    by_cases h : n < 10
    · rw [decDigits_one h]
      have : digB (UInt8.ofNat (48 + n)) = true := digB_of (by rw [digit_nat n h]; omega)
      generalize UInt8.ofNat (48 + n) = u at *
      unfold canB
      simp [List.all_cons, this]
    · have hi := ih (n / 10) (by omega)
      have hl : (decDigits (n / 10)) ≠ [] := decDigits_ne _
      rw [decDigits_big h]
      have hd : digB (UInt8.ofNat (48 + n % 10)) = true := digB_of (by rw [digit_nat _ (by omega)]; omega)
      generalize UInt8.ofNat (48 + n % 10) = u at *
      have h0 : (decDigits (n / 10)).headD 0 ≠ 48 := by
        unfold canB at hi
        simp only [Bool.and_eq_true, Bool.or_eq_true, decide_eq_true_iff] at hi
        rcases hi.2 with h1 | h1
        · intro e
          rw [decDigits_length] at h1
          have hlt : n / 10 < 10 := by
            have := lt_pow_nDigits (n / 10)
            rw [h1] at this; simpa using this
          rw [decDigits_one hlt] at e
          have := digit_nat _ hlt
          simp only [List.headD_cons] at e
          rw [e] at this
          simp at this
          omega
        · exact h1
      unfold canB at hi ⊢
      simp only [Bool.and_eq_true, Bool.or_eq_true, decide_eq_true_iff] at hi ⊢
      generalize decDigits (n / 10) = p at *
      cases p with
      | nil => exact absurd rfl hl
      | cons a t =>
        refine ⟨⟨by simp, by rw [List.all_append, hi.1.2]; simp [hd]⟩, .inr ?_⟩
        exact h0
def natL (s : List UInt8) : Option Nat := if canB s = true then decNat s else none
theorem natL_some {s : List UInt8} {n : Nat} : natL s = some n ↔ decDigits n = s := by
  unfold natL
  constructor
  · intro h
    split at h
    · rename_i hc
      exact can_back _ s rfl hc n (decNat_some h).2
    · cases h
  · rintro rfl
    rw [if_pos (digits_can n), decNat_digits]
/-- A number that is written as it is printed; none: it isn't one, or no int. -/
def intL (s : List UInt8) : Option Int := match s with
  | [] => none
  | c :: r => if c = 45 then (match natL r with
      | some n => if 1 ≤ n ∧ n ≤ 9223372036854775808 then some (-(n : Int)) else none
      | none => none)
    else match natL s with
      | some n => if n ≤ 9223372036854775807 then some (n : Int) else none
      | none => none
theorem intL_some {s : List UInt8} {v : Int} : intL s = some v ↔ itoa v = s ∧ -9223372036854775808 ≤ v ∧ v ≤ 9223372036854775807 := by
  constructor
  · intro h
    unfold intL at h
    split at h
    · cases h
    · rename_i c r
      split at h
      · rename_i hc
        subst hc
        split at h
        · rename_i n hn
          split at h
          · rename_i hb
            obtain rfl := Option.some.inj h
            have := natL_some.1 hn
            refine ⟨?_, by omega, by omega⟩
            rw [itoa_neg' (by omega), show (-(n : Int)).natAbs = n from by omega, this]
          · cases h
        · cases h
      · split at h
        · rename_i n hn
          split at h
          · rename_i hb
            obtain rfl := Option.some.inj h
            have := natL_some.1 hn
            refine ⟨?_, by omega, by omega⟩
            rw [itoa_nonneg' (by omega), show ((n : Int)).toNat = n from by omega, this]
          · cases h
        · cases h
  · rintro ⟨rfl, h0, h1⟩
    by_cases hv : v < 0
    · rw [itoa_neg' hv]
      have hn := natL_some.2 (rfl : decDigits v.natAbs = _)
      simp only [intL, if_true, hn]
      rw [if_pos (by omega)]
      congr 1
      omega
    · rw [itoa_nonneg' (by omega)]
      have hn := natL_some.2 (rfl : decDigits v.toNat = _)
      obtain ⟨c, r, hc, hc1, hc2⟩ := digits_head v.toNat
      have h45 : c ≠ 45 := by rintro rfl; revert hc1; decide
      rw [hc] at hn ⊢
      simp only [intL, if_neg h45, hn]
      rw [if_pos (by omega)]
      congr 1
      omega
theorem intL_ok {s : List UInt8} {v : Int} (h : atoiAll s = .ok v) : intL s = if itoa v = s then some v else none := by
  have hr := atoi_range h
  split
  · rename_i e; exact intL_some.2 ⟨e, hr⟩
  · rename_i e
    cases hi : intL s with
    | none => rfl
    | some u =>
      obtain ⟨rfl, h0, h1⟩ := intL_some.1 hi
      rw [atoi_itoa u h0 h1] at h
      cases h
      exact absurd rfl e
theorem intL_no {s : List UInt8} (h : ∀ v, atoiAll s ≠ .ok v) : intL s = none := by
  cases hi : intL s with
  | none => rfl
  | some u =>
    obtain ⟨rfl, h0, h1⟩ := intL_some.1 hi
    exact absurd (atoi_itoa u h0 h1) (h u)

/-! What stands between blanks. -/
def wordsF (w : List UInt8) : List UInt8 → List (List UInt8)
  | [] => if w = [] then [] else [w]
  | c :: l => if c = 32 then (if w = [] then wordsF [] l else w :: wordsF [] l) else wordsF (w ++ [c]) l
def wordsL (s : List UInt8) : List (List UInt8) := wordsF [] s
def Bare (p : List UInt8) : Prop := ∀ x, x ∈ p → x ≠ 32
theorem wordsF_app : ∀ (p w l : List UInt8), Bare p → wordsF w (p ++ l) = wordsF (w ++ p) l
  | [], w, l, _ => by simp
  | c :: p, w, l, h => by
    have hc : c ≠ 32 := h c (List.mem_cons_self ..)
    rw [List.cons_append, wordsF, if_neg hc, wordsF_app p _ l (fun x hx => h x (List.mem_cons_of_mem _ hx)), List.append_assoc, List.singleton_append]
theorem wordsL_blank (l : List UInt8) : wordsL (32 :: l) = wordsL l := by unfold wordsL; rw [wordsF]; simp
theorem wordsL_blanks : ∀ (k : Nat) (l : List UInt8), wordsL (List.replicate k 32 ++ l) = wordsL l
  | 0, l => by simp
  | k + 1, l => by rw [List.replicate_succ, List.cons_append, wordsL_blank, wordsL_blanks k l]
theorem wordsL_drop (s : List UInt8) : wordsL (trimLeftB s 32) = wordsL s := by
  unfold trimLeftB
  induction s with
  | nil => rfl
  | cons c l ih =>
    by_cases h : c = 32
    · subst h; rw [List.dropWhile_cons_of_pos (by simp), ih, wordsL_blank]
    · rw [List.dropWhile_cons_of_neg (by simpa using h)]
/-- What stands up to the next blank, and what is behind that. -/
def tok (s : List UInt8) : List UInt8 := (trimLeftB s 32).takeWhile (· != 32)
def rest (s : List UInt8) : List UInt8 := ((trimLeftB s 32).dropWhile (· != 32)).drop 1
theorem bare_take (l : List UInt8) : Bare (l.takeWhile (· != 32)) := fun x hx => by
  have := List.all_takeWhile (l := l) (p := (· != 32))
  rw [List.all_eq_true] at this
  simpa using this x hx
theorem trim_head (s : List UInt8) : trimLeftB s 32 = [] ∨ ∃ c l, trimLeftB s 32 = c :: l ∧ c ≠ 32 := by
  unfold trimLeftB
  induction s with
  | nil => exact .inl rfl
  | cons c l ih =>
    by_cases h : c = 32
    · subst h; rw [List.dropWhile_cons_of_pos (by simp)]; exact ih
    · rw [List.dropWhile_cons_of_neg (by simpa using h)]; exact .inr ⟨c, l, rfl, h⟩
theorem drop_head (l : List UInt8) : l.dropWhile (· != 32) = [] ∨ ∃ r, l.dropWhile (· != 32) = 32 :: r := by
  induction l with
  | nil => exact .inl rfl
  | cons c l ih =>
    by_cases h : c = 32
    · subst h; exact .inr ⟨l, by rw [List.dropWhile_cons_of_neg (by simp)]⟩
    · rw [List.dropWhile_cons_of_pos (by simpa using h)]; exact ih
theorem words_tok (s : List UInt8) : wordsL s = if tok s = [] then [] else tok s :: wordsL (rest s) := by
  rw [← wordsL_drop s]
  unfold tok rest
  rcases trim_head s with h | ⟨c, l, h, hc⟩
  · rw [h]; rfl
  · rw [h]
    have e : (c :: l).takeWhile (· != 32) = c :: l.takeWhile (· != 32) := List.takeWhile_cons_of_pos (by simpa using hc)
    have e2 : (c :: l).dropWhile (· != 32) = l.dropWhile (· != 32) := List.dropWhile_cons_of_pos (by simpa using hc)
    rw [e, if_neg (by simp), e2]
    have hb : Bare (c :: l.takeWhile (· != 32)) := fun x hx => by
      rcases List.mem_cons.1 hx with rfl | hx
      · exact hc
      · exact bare_take l x hx
    have es : wordsL (c :: l) = wordsF (c :: l.takeWhile (· != 32)) (l.dropWhile (· != 32)) := by
      have := wordsF_app (c :: l.takeWhile (· != 32)) [] (l.dropWhile (· != 32)) hb
      rw [List.cons_append, List.takeWhile_append_dropWhile, List.nil_append] at this
      exact this
    rw [es]
    rcases drop_head l with h' | ⟨r, h'⟩ <;> rw [h']
    · simp [wordsF, wordsL]
    · rw [wordsF, if_pos rfl, if_neg (by simp)]; rfl
theorem rest_of_none {s : List UInt8} (h : tok s = []) : rest s = [] := by
  unfold tok at h
  unfold rest
  rcases trim_head s with h' | ⟨c, l, h', hc⟩
  · rw [h']; rfl
  · rw [h', List.takeWhile_cons_of_pos (by simpa using hc)] at h
    cases h
theorem tok_head (s : List UInt8) : tok s = (wordsL s).headD [] := by
  rw [words_tok]
  by_cases h : tok s = []
  · rw [if_pos h]; simpa using h
  · rw [if_neg h]; rfl
theorem words_rest (s : List UInt8) : wordsL (rest s) = (wordsL s).tail := by
  rw [words_tok s]
  by_cases h : tok s = []
  · rw [if_pos h, rest_of_none h]; rfl
  · rw [if_neg h]; rfl
theorem wordsF_mem : ∀ (l w : List UInt8), Bare w → ∀ x, x ∈ wordsF w l → x ≠ [] ∧ Bare x
  | [], w, hw, x, hx => by
    unfold wordsF at hx
    split at hx
    · cases hx
    · rename_i h
      rw [List.mem_singleton] at hx
      subst hx; exact ⟨h, hw⟩
  | c :: l, w, hw, x, hx => by
    unfold wordsF at hx
    split at hx
    · split at hx
      · exact wordsF_mem l [] (fun _ h => by cases h) x hx
      · rename_i h
        rcases List.mem_cons.1 hx with rfl | hx
        · exact ⟨h, hw⟩
        · exact wordsF_mem l [] (fun _ h => by cases h) x hx
    · rename_i hc
      refine wordsF_mem l (w ++ [c]) (fun y hy => ?_) x hx
      rcases List.mem_append.1 hy with hy | hy
      · exact hw y hy
      · rw [List.mem_singleton] at hy; subst hy; exact hc
theorem words_mem (s : List UInt8) : ∀ x, x ∈ wordsL s → x ≠ [] ∧ Bare x := wordsF_mem s [] (fun _ h => by cases h)
theorem wordsF_join : ∀ (r : List (List UInt8)) (w : List UInt8), w ≠ [] → (∀ x, x ∈ r → x ≠ [] ∧ Bare x) → wordsF w (joinTail [32] r) = w :: r
  | [], w, hw, _ => by simp [joinTail, wordsF, hw]
  | x :: r, w, hw, h => by
    have hx := h x (List.mem_cons_self ..)
    have e : joinTail [32] (x :: r) = 32 :: (x ++ joinTail [32] r) := by simp [joinTail]
    rw [e, wordsF, if_pos rfl, if_neg hw, wordsF_app x [] _ hx.2, List.nil_append, wordsF_join r x hx.1 (fun y hy => h y (List.mem_cons_of_mem _ hy))]
theorem words_join (x : List UInt8) (r : List (List UInt8)) (hx : x ≠ [] ∧ Bare x) (h : ∀ y, y ∈ r → y ≠ [] ∧ Bare y) : wordsL (join (x :: r) [32]) = x :: r := by
  rw [join_cons]
  unfold wordsL
  rw [wordsF_app x [] _ hx.2, List.nil_append, wordsF_join r x hx.1 h]
theorem itoa_ne (v : Int) : itoa v ≠ [] := by
  unfold itoa; split
  · simp
  · exact decDigits_ne _
theorem itoa_bare (v : Int) : Bare (itoa v) := fun x hx => by
  unfold itoa at hx
  split at hx
  · rcases List.mem_cons.1 hx with rfl | hx
    · decide
    · rintro rfl; have := digits_mem _ _ hx; revert this; decide
  · rintro rfl; have := digits_mem _ _ hx; revert this; decide
end Go.Proofs.YtdkggahkfheocaaGreatDoor
