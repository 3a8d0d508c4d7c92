/- Sizes: plain lemmas on numbers. No statement is proved here. -/
import Derived.Test.YtchonkkflklckaaBndN
namespace Go.Proofs.Ytchonkkflklckaa
open Go.RowKit
set_option linter.unusedVariables false

/-- A class's slot; the least class; is there one? -/
def sltN (c : Nat) : Nat := if c < 5 then 16 * 2 ^ c else 0
def clsN (s : Nat) : Nat := if s ≤ 16 then 0 else if s ≤ 32 then 1 else if s ≤ 64 then 2 else if s ≤ 128 then 3 else if s ≤ 256 then 4 else 0
def clsB (s : Nat) : Bool := decide (0 < s ∧ s ≤ 256)
/-- What a size is padded to, and of what it is a multiple, whatever the heap is; 0, if it can't be padded. -/
def szP (s : Nat) : Nat := if clsB s then sltN (clsN s) else if 4294967296 ≤ up 256 s then 0 else pdP (up 256 s)
def szA (s : Nat) : Nat := if clsB s then sltN (clsN s) else max (pdA (up 256 s)) 256
def szO (s h : Nat) : Bool := decide (szP s ≠ 0 ∧ szP s ≤ h)
/-- What Padded answers. -/
def padP (s h : Nat) : Nat := if szO s h then szP s else 0
def padA (s h : Nat) : Nat := if szO s h then szA s else 0
def padE (s h : Nat) : Int := if szO s h then 0 else 6

theorem slt_cls {s : Nat} (h : clsB s = true) : sltN (clsN s) = if s ≤ 16 then 16 else if s ≤ 32 then 32 else if s ≤ 64 then 64 else if s ≤ 128 then 128 else 256 := by
  have := of_decide_eq_true h
  unfold clsN
  split
  · rfl
  · split
    · rfl
    · split
      · rfl
      · split
        · rfl
        · rw [if_pos this.2]; rfl
theorem cls_ge {s : Nat} (h : clsB s = true) : s ≤ sltN (clsN s) ∧ sltN (clsN s) ≤ 256 ∧ 16 ≤ sltN (clsN s) ∧ clsN s < 5 := by
  have := of_decide_eq_true h
  rw [slt_cls h]
  refine ⟨?_, ?_, ?_, ?_⟩
  · repeat' split
    all_goals omega
  · repeat' split
    all_goals omega
  · repeat' split
    all_goals omega
  · unfold clsN
    repeat' split
    all_goals omega
theorem cls_16 {s : Nat} (h : clsB s = true) : sltN (clsN s) % 16 = 0 := by
  rw [slt_cls h]
  repeat' split
  all_goals rfl
theorem cls_self {s : Nat} (h : clsB s = true) : clsB (sltN (clsN s)) = true ∧ sltN (clsN (sltN (clsN s))) = sltN (clsN s) := by
  have e := cls_ge h
  have h2 : clsB (sltN (clsN s)) = true := decide_eq_true ⟨by omega, e.2.1⟩
  refine ⟨h2, ?_⟩
  rw [slt_cls h2, slt_cls h]
  repeat' split
  all_goals omega
theorem cls_mono {a b : Nat} (ha : clsB a = true) (hb : clsB b = true) (h : a ≤ b) : sltN (clsN a) ≤ sltN (clsN b) := by
  rw [slt_cls ha, slt_cls hb]
  repeat' split
  all_goals omega
theorem cls_below {s : Nat} (h : clsB s = true) (hc : clsN s ≠ 0) : sltN (clsN s - 1) < s := by
  have := of_decide_eq_true h
  revert hc
  unfold clsN
  repeat' split
  all_goals first | (intro k; exact absurd rfl k) | (intro _; simp [sltN]; omega)

theorem up256 (s : Nat) : up 256 s = (s + 255) / 256 * 256 := by unfold up; rw [show s + 256 - 1 = s + 255 from by omega]
/-- What is no class's. -/
theorem big_of {s : Nat} (h : clsB s = false) (h0 : s ≠ 0) : 256 < s ∧ 512 ≤ up 256 s := by
  have := of_decide_eq_false h
  rw [up256]
  omega
theorem expo_mono {n m : Nat} (h : n ≤ m) (hm : m ≤ 4294967296) : expo 0 n ≤ expo 0 m := by
  rcases Nat.lt_or_ge (expo 0 m) (expo 0 n) with h' | h'
  · refine absurd ?_ (expo_least 0 (Nat.le_trans h hm) _ h')
    have ok := expo_ok 0 hm
    have := up_mono (U := 2 ^ expo 0 m) h
    unfold okE at *
    omega
  · exact h'
theorem rdT_mono {n m : Nat} (h : n ≤ m) (hm : m ≤ 4294967296) : rdT 0 n ≤ rdT 0 m := by
  rw [rdT_of (Nat.zero_le _) (Nat.le_trans h hm), rdT_of (Nat.zero_le _) hm]
  have d : 2 ^ expo 0 n ∣ 2 ^ expo 0 m := Nat.pow_dvd_pow 2 (expo_mono h hm)
  exact up_le_of_dvd (pow_pos2 _) (Nat.dvd_trans d (up_dvd _ _)) (Nat.le_trans h (up_ge m (pow_pos2 _)))
theorem rdT_ge {n : Nat} (h : n ≤ 4294967296) : n ≤ rdT 0 n := by
  rw [rdT_of (Nat.zero_le _) h]; exact up_ge n (pow_pos2 _)
theorem rdT_le {n : Nat} (h : n ≤ 4294967296) : rdT 0 n ≤ 4294967296 := by
  rw [rdT_of (Nat.zero_le _) h]
  exact up_le_of_dvd (pow_pos2 _) (dvd_whole (Nat.le_trans (expo_le 0 h) (by decide))) h
theorem pd_dvd {n : Nat} (h : n ≤ 4294967296) (hp : pdP n ≠ 0) : pdP n = rdT 0 n ∧ pdA n = 2 ^ expo 0 n ∧ 2 ^ expo 0 n ∣ pdP n ∧ n ≤ pdP n ∧ pdP n < 4294967296 := by
  have e : rdT 0 n ≠ 4294967296 := fun k => hp (by unfold pdP; rw [if_pos k])
  have e1 : pdP n = rdT 0 n := by unfold pdP; rw [if_neg e]
  have e2 : pdA n = 2 ^ expo 0 n := by unfold pdA; rw [if_neg e, enE_of (Nat.zero_le _) h]
  refine ⟨e1, e2, ?_, ?_, ?_⟩
  · rw [e1, rdT_of (Nat.zero_le _) h]; exact up_dvd _ _
  · rw [e1]; exact rdT_ge h
  · have := rdT_le h; omega
theorem pow_or (e : Nat) : 2 ^ e ∣ 256 ∨ 256 ∣ 2 ^ e := by
  rcases Nat.le_total e 8 with h | h
  · exact .inl (show 2 ^ e ∣ 2 ^ 8 from Nat.pow_dvd_pow 2 h)
  · exact .inr (show 2 ^ 8 ∣ 2 ^ e from Nat.pow_dvd_pow 2 h)
theorem max_dvd {e x : Nat} (h1 : 2 ^ e ∣ x) (h2 : 256 ∣ x) : max (2 ^ e) 256 ∣ x := by
  rcases Nat.le_total (2 ^ e) 256 with h | h
  · rwa [Nat.max_eq_right h]
  · rwa [Nat.max_eq_left h]
theorem dvd_max (e : Nat) : 2 ^ e ∣ max (2 ^ e) 256 ∧ 256 ∣ max (2 ^ e) 256 := by
  rcases Nat.le_total (2 ^ e) 256 with h | h
  · rw [Nat.max_eq_right h]
    refine ⟨?_, Nat.dvd_refl _⟩
    rcases pow_or e with k | k
    · exact k
    · have := Nat.le_of_dvd (pow_pos2 e) k
      rw [show 2 ^ e = 256 from by omega]
      exact Nat.dvd_refl _
  · rw [Nat.max_eq_left h]
    refine ⟨Nat.dvd_refl _, ?_⟩
    rcases pow_or e with k | k
    · have := Nat.le_of_dvd (by decide) k
      rw [show 2 ^ e = 256 from by omega]
      exact Nat.dvd_refl _
    · exact k
/-- 256 divides what pages are padded to. -/
theorem pd_256 {n : Nat} (h : n ≤ 4294967296) (hd : 256 ∣ n) (hp : pdP n ≠ 0) : 256 ∣ pdP n := by
  obtain ⟨e1, e2, e3, e4, e5⟩ := pd_dvd h hp
  rcases pow_or (expo 0 n) with k | k
  · rw [e1, rdT_of (Nat.zero_le _) h, up_of_dvd (pow_pos2 _) (Nat.dvd_trans k hd)]
    exact hd
  · exact Nat.dvd_trans k e3
/-- What pages are padded to is padded to itself. -/
theorem pd_self {n : Nat} (h : n ≤ 4294967296) (hp : pdP n ≠ 0) : pdP (pdP n) = pdP n ∧ pdA (pdP n) = pdA n := by
  obtain ⟨e1, e2, e3, e4, e5⟩ := pd_dvd h hp
  have hx : expo 0 (pdP n) = expo 0 n := by
    have := pad_least h (p := pdP n) (by rw [e1, rdT_of (Nat.zero_le _) h]) (Nat.dvd_zero (2 ^ expo 0 n)) (by omega)
    rwa [Nat.zero_add] at this
  have hr : rdT 0 (pdP n) = pdP n := by rw [rdT_of (Nat.zero_le _) (by omega), hx, up_of_dvd (pow_pos2 _) e3]
  constructor
  · show (if rdT 0 (pdP n) = 4294967296 then 0 else rdT 0 (pdP n)) = pdP n
    rw [hr, if_neg (by omega)]
  · rw [e2]
    unfold pdA
    rw [hr, if_neg (by omega), enE_of (Nat.zero_le _) (by omega), hx]

theorem up_dvd256 (s : Nat) : 256 ∣ up 256 s := up_dvd _ _
/-- What can be padded: all that is asked of it. -/
theorem sz_facts {s : Nat} (h : szP s ≠ 0) : s ≤ szP s ∧ 16 ≤ szA s ∧ szA s ∣ szP s ∧ szP s % 16 = 0 ∧ szP s < 4294967296 ∧ szA s ≤ 4294967295 := by
  unfold szP at h
  unfold szP szA
  cases hc : clsB s
  · rw [hc] at h
    simp only [Bool.false_eq_true, if_false] at h ⊢
    by_cases hb : 4294967296 ≤ up 256 s
    · rw [if_pos hb] at h; exact absurd rfl h
    · rw [if_neg hb] at h ⊢
      have hn : up 256 s ≤ 4294967296 := by omega
      obtain ⟨e1, e2, e3, e4, e5⟩ := pd_dvd hn h
      have h256 := pd_256 hn (up_dvd256 s) h
      have hu := up_ge (U := 256) s (by decide)
      have hE := expo_le 0 hn
      have hE2 := Nat.pow_le_pow_right (n := 2) (by decide) hE
      have hm := max_dvd e3 h256
      rw [e2]
      refine ⟨by omega, by omega, hm, ?_, e5, ?_⟩
      · obtain ⟨k, hk⟩ := h256; omega
      · have : (2 : Nat) ^ 21 = 2097152 := by decide
        omega
  · simp only [if_true]
    have k := cls_ge hc
    exact ⟨k.1, k.2.2.1, Nat.dvd_refl _, cls_16 hc, by omega, by omega⟩
theorem sz_self {s : Nat} (h : szP s ≠ 0) : szP (szP s) = szP s ∧ szA (szP s) = szA s := by
  have h' := h
  unfold szP at h
  cases hc : clsB s
  · rw [hc] at h
    simp only [Bool.false_eq_true, if_false] at h
    by_cases hb : 4294967296 ≤ up 256 s
    · rw [if_pos hb] at h; exact absurd rfl h
    · rw [if_neg hb] at h
      have hn : up 256 s ≤ 4294967296 := by omega
      have e : szP s = pdP (up 256 s) := by unfold szP; rw [hc]; simp only [Bool.false_eq_true, if_false]; rw [if_neg hb]
      have ea : szA s = max (pdA (up 256 s)) 256 := by unfold szA; rw [hc]; rfl
      obtain ⟨e1, e2, e3, e4, e5⟩ := pd_dvd hn h
      have h256 := pd_256 hn (up_dvd256 s) h
      have hs0 : s ≠ 0 := fun k => by subst k; exact h (by unfold pdP; rw [show up 256 0 = 0 from rfl]; have := rdT_of (b := 0) (t := 0) (Nat.zero_le _) (by decide); rw [this]; unfold up; rw [show (0 + 2 ^ expo 0 0 - 1) / 2 ^ expo 0 0 = 0 from Nat.div_eq_of_lt (by have := pow_pos2 (expo 0 0); omega)]; simp)
      have hb2 := big_of hc hs0
      have hc2 : clsB (pdP (up 256 s)) = false := decide_eq_false (by omega)
      have hu : up 256 (pdP (up 256 s)) = pdP (up 256 s) := up_of_dvd (by decide) h256
      obtain ⟨k1, k2⟩ := pd_self hn h
      rw [e, ea]
      constructor
      · unfold szP; rw [hc2]; simp only [Bool.false_eq_true, if_false]; rw [hu, if_neg (by omega), k1]
      · unfold szA; rw [hc2]; simp only [Bool.false_eq_true, if_false]; rw [hu, k2]
  · have e : szP s = sltN (clsN s) := by unfold szP; rw [hc]; rfl
    have ea : szA s = sltN (clsN s) := by unfold szA; rw [hc]; rfl
    obtain ⟨k1, k2⟩ := cls_self hc
    rw [e, ea]
    constructor
    · unfold szP; rw [k1]; simp only [if_true]; exact k2
    · unfold szA; rw [k1]; simp only [if_true]; exact k2
theorem sz_exact {s b : Nat} (h : szP s ≠ 0) (hd : szA s ∣ b) (hb : b + szP s ≤ 4294967296) : may b (b + szP s) = true ∧ enX b (b + szP s) = true := by
  have a1 : b ≤ b + szP s := Nat.le_add_right _ _
  refine ⟨may_of a1 hb, ?_⟩
  rw [enX_of a1 hb, rdB_of a1 hb, rdT_of a1 hb]
  unfold szP at h
  cases hc : clsB s
  · rw [hc] at h
    simp only [Bool.false_eq_true, if_false] at h
    by_cases hb' : 4294967296 ≤ up 256 s
    · rw [if_pos hb'] at h; exact absurd rfl h
    · rw [if_neg hb'] at h
      have hn : up 256 s ≤ 4294967296 := by omega
      have e : szP s = pdP (up 256 s) := by unfold szP; rw [hc]; simp only [Bool.false_eq_true, if_false]; rw [if_neg hb']
      have ea : szA s = max (pdA (up 256 s)) 256 := by unfold szA; rw [hc]; rfl
      obtain ⟨e1, e2, e3, e4, e5⟩ := pd_dvd hn h
      rw [ea, e2] at hd
      have hd2 := Nat.dvd_trans (dvd_max _).1 hd
      rw [e] at hb ⊢
      have hx := pad_least hn (p := pdP (up 256 s)) (by rw [e1, rdT_of (Nat.zero_le _) hn]) hd2 hb
      rw [hx]
      exact decide_eq_true ⟨dn_of_dvd hd2, up_of_dvd (pow_pos2 _) (Nat.dvd_add hd2 e3)⟩
  · have e : szP s = sltN (clsN s) := by unfold szP; rw [hc]; rfl
    have k := cls_ge hc
    rw [e] at hb ⊢
    rw [expo_few hb (by omega)]
    exact decide_eq_true ⟨by simp [dn], by simp [up]⟩
theorem sz_zero : szP 0 = 0 := by
  unfold szP
  rw [show clsB 0 = false from rfl]
  simp only [Bool.false_eq_true, if_false]
  rw [show up 256 0 = 0 from rfl, if_neg (by decide)]
  unfold pdP
  rw [rdT_of (Nat.zero_le _) (by decide)]
  unfold up
  rw [show (0 + 2 ^ expo 0 0 - 1) / 2 ^ expo 0 0 = 0 from Nat.div_eq_of_lt (by have := pow_pos2 (expo 0 0); omega)]
  simp
theorem sz_mono {a b : Nat} (h0 : 0 < a) (h : a ≤ b) (hb : szP b ≠ 0) : szP a ≠ 0 ∧ szP a ≤ szP b := by
  have fb := sz_facts hb
  cases ca : clsB a
  · cases cb : clsB b
    · have eb : szP b = pdP (up 256 b) := by
        unfold szP at hb ⊢
        rw [cb] at hb ⊢
        simp only [Bool.false_eq_true, if_false] at hb ⊢
        by_cases k : 4294967296 ≤ up 256 b
        · rw [if_pos k] at hb; exact absurd rfl hb
        · rw [if_neg k]
      have kb : ¬ 4294967296 ≤ up 256 b := fun k => hb (by unfold szP; rw [cb]; simp only [Bool.false_eq_true, if_false]; rw [if_pos k])
      have hu := up_mono (U := 256) h
      have ea : szP a = pdP (up 256 a) := by unfold szP; rw [ca]; simp only [Bool.false_eq_true, if_false]; rw [if_neg (by omega)]
      rw [eb] at hb ⊢
      obtain ⟨e1, e2, e3, e4, e5⟩ := pd_dvd (by omega) hb
      have hm := rdT_mono hu (by omega)
      have g := rdT_ge (n := up 256 a) (by omega)
      have g2 := up_ge (U := 256) a (by decide)
      have ep : pdP (up 256 a) = rdT 0 (up 256 a) := by unfold pdP; rw [if_neg (by omega)]
      rw [ea, ep]
      omega
    · have := of_decide_eq_true cb
      have := of_decide_eq_false ca
      omega
  · have ea : szP a = sltN (clsN a) := by unfold szP; rw [ca]; rfl
    have ka := cls_ge ca
    refine ⟨by omega, ?_⟩
    cases cb : clsB b
    · have := of_decide_eq_false cb
      omega
    · have eb : szP b = sltN (clsN b) := by unfold szP; rw [cb]; rfl
      rw [ea, eb]
      exact cls_mono ca cb h
end Go.Proofs.Ytchonkkflklckaa
