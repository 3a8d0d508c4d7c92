/- Plain mathematics of layer quarantine: regions, what granules they cover, lists by where they begin. No statement is proved here. -/
import Derived.Test.YtmfipabbdhfmcaaPtM
namespace Go.Proofs.Ytmfipabbdhfmcaa.Qu
set_option maxRecDepth 100000
set_option linter.unusedVariables false

/-- A region: where it lies, how large it is. -/
abbrev Rg := Nat × Nat
/-- Does one of them cover that granule? -/
def cov (X : List Rg) (k : Nat) : Bool := X.any fun r => decide (r.1 ≤ 16 * k) && decide (16 * k < r.1 + r.2)
theorem cov_iff {X : List Rg} {k : Nat} : cov X k = true ↔ ∃ r ∈ X, r.1 ≤ 16 * k ∧ 16 * k < r.1 + r.2 := by
  unfold cov
  rw [List.any_eq_true]
  simp
theorem cov_cons (r : Rg) (X : List Rg) (k : Nat) : cov (r :: X) k = ((decide (r.1 ≤ 16 * k) && decide (16 * k < r.1 + r.2)) || cov X k) := rfl
theorem cov_mem {X Y : List Rg} (h : ∀ r, r ∈ X ↔ r ∈ Y) (k : Nat) : cov X k = cov Y k := by
  rw [Bool.eq_iff_iff, cov_iff, cov_iff]
  exact ⟨fun ⟨r, hr, p⟩ => ⟨r, (h r).1 hr, p⟩, fun ⟨r, hr, p⟩ => ⟨r, (h r).2 hr, p⟩⟩
/-- Has one of them a byte in common with that region? (In the document's words.) -/
def mt (X : List Rg) (r : Rg) : Bool := X.any fun q => decide (max q.1 r.1 < min (q.1 + q.2) (r.1 + r.2))
theorem mt_iff {X : List Rg} {r : Rg} : mt X r = true ↔ ∃ q ∈ X, max q.1 r.1 < min (q.1 + q.2) (r.1 + r.2) := by
  unfold mt
  rw [List.any_eq_true]
  simp only [decide_eq_true_eq]
theorem mt_app (X Y : List Rg) (r : Rg) : mt (X ++ Y) r = (mt X r || mt Y r) := by unfold mt; rw [List.any_append]
/-- May a region lie there? -/
def okA (n : Nat) (r : Rg) : Bool := decide (r.1 % 16 = 0 ∧ r.2 % 16 = 0 ∧ 0 < r.2 ∧ r.1 + r.2 ≤ 16 * n)
def okF (n : Nat) (X : List Rg) (r : Rg) : Bool := okA n r && !mt X r
theorem okA_iff {n : Nat} {r : Rg} : okA n r = true ↔ r.1 % 16 = 0 ∧ r.2 % 16 = 0 ∧ 0 < r.2 ∧ r.1 + r.2 ≤ 16 * n := by unfold okA; rw [decide_eq_true_eq]
/-- Regions of granules, apart from one another. -/
structure Good (n : Nat) (X : List Rg) : Prop where
  al : ∀ r ∈ X, okA n r = true
  apart : X.Pairwise fun r q => r.1 + r.2 ≤ q.1 ∨ q.1 + q.2 ≤ r.1
theorem Good.nil (n : Nat) : Good n [] := ⟨by simp, List.Pairwise.nil⟩
theorem Good.perm {n : Nat} {X Y : List Rg} (G : Good n X) (h : X.Perm Y) : Good n Y :=
  ⟨fun r hr => G.al r (h.mem_iff.2 hr), h.pairwise G.apart (fun hx => hx.symm)⟩
theorem Good.tail {n : Nat} {X : List Rg} {r : Rg} (G : Good n (r :: X)) : Good n X := ⟨fun q hq => G.al q (.tail _ hq), (List.pairwise_cons.1 G.apart).2⟩
theorem Good.left {n : Nat} {X Y : List Rg} (G : Good n (X ++ Y)) : Good n X := ⟨fun q hq => G.al q (List.mem_append_left _ hq), (List.pairwise_append.1 G.apart).1⟩
theorem Good.right {n : Nat} {X Y : List Rg} (G : Good n (X ++ Y)) : Good n Y := ⟨fun q hq => G.al q (List.mem_append_right _ hq), (List.pairwise_append.1 G.apart).2.1⟩
theorem Good.cons {n : Nat} {X : List Rg} {r : Rg} (G : Good n X) (h : okF n X r = true) : Good n (r :: X) := by
  unfold okF at h
  rw [Bool.and_eq_true] at h
  have hr := okA_iff.1 h.1
  refine ⟨fun q hq => ?_, List.pairwise_cons.2 ⟨fun q hq => ?_, G.apart⟩⟩
  · rcases List.mem_cons.1 hq with rfl | hq
    · exact h.1
    · exact G.al q hq
  · have hq' := okA_iff.1 (G.al q hq)
    have hm : ¬ (max q.1 r.1 < min (q.1 + q.2) (r.1 + r.2)) := fun hc => by
      have := mt_iff.2 ⟨q, hq, hc⟩
      rw [this] at h
      cases h.2
    omega
theorem okT_add {n : Nat} {X : List Rg} (G : Good n X) (a s : Nat) : okT n (cov X) a s true = okF n X (a, s) := by
  rw [Bool.eq_iff_iff, ok_iff]
  unfold okF
  rw [Bool.and_eq_true, okA_iff, Bool.not_eq_true']
  dsimp only
  constructor
  · rintro ⟨⟨h1, h2, h3⟩, h⟩
    have hl := (h (s / 16 - 1) (by omega)).1
    refine ⟨⟨h1, h2, h3, by omega⟩, ?_⟩
    cases e : mt X (a, s) with
    | false => rfl
    | true =>
      exfalso
      obtain ⟨q, hq, hc⟩ := mt_iff.1 e
      have hq' := okA_iff.1 (G.al q hq)
      dsimp only at hc
      have hk := (h (max q.1 a / 16 - a / 16) (by omega)).2
      refine hk (cov_iff.2 ⟨q, hq, ?_, ?_⟩) <;> omega
  · rintro ⟨⟨h1, h2, h3, h4⟩, h⟩
    refine ⟨⟨h1, h2, h3⟩, fun i hi => ⟨by omega, fun hc => ?_⟩⟩
    obtain ⟨q, hq, k1, k2⟩ := cov_iff.1 hc
    have hq' := okA_iff.1 (G.al q hq)
    have := mt_iff.2 ⟨q, hq, show max q.1 (a, s).1 < min (q.1 + q.2) ((a, s).1 + (a, s).2) by dsimp only; omega⟩
    rw [this] at h
    cases h
theorem tnF_add {n : Nat} {X : List Rg} (G : Good n X) {a s : Nat} (h : okF n X (a, s) = true) (k : Nat) : tnF n (cov X) a s true k = cov ((a, s) :: X) k := by
  unfold tnF
  rw [okT_add G, h, if_pos rfl, cov_cons]
  unfold okF at h
  rw [Bool.and_eq_true, okA_iff] at h
  dsimp only at h ⊢
  by_cases hk : a / 16 ≤ k ∧ k < a / 16 + s / 16
  · rw [if_pos hk, decide_eq_true (show a ≤ 16 * k by omega), decide_eq_true (show 16 * k < a + s by omega)]; rfl
  · rw [if_neg hk]
    rcases Nat.lt_or_ge (16 * k) a with h2 | h2
    · rw [decide_eq_false (show ¬ a ≤ 16 * k by omega)]; rfl
    · rw [decide_eq_false (show ¬ 16 * k < a + s by omega), Bool.and_false]; rfl
theorem tnF_not {n : Nat} {X : List Rg} (G : Good n X) {a s : Nat} (h : okF n X (a, s) = false) (k : Nat) : tnF n (cov X) a s true k = cov X k := by
  unfold tnF
  rw [okT_add G, h]
  rfl
theorem okT_rem {n : Nat} {X : List Rg} {r : Rg} (G : Good n (r :: X)) : okT n (cov (r :: X)) r.1 r.2 false = true := by
  have hr := okA_iff.1 (G.al r (.head _))
  rw [ok_iff]
  refine ⟨⟨hr.1, hr.2.1, hr.2.2.1⟩, fun i hi => ⟨by omega, ?_⟩⟩
  rw [cov_iff.2 ⟨r, .head _, by omega, by omega⟩]
  simp
theorem tnF_rem {n : Nat} {X : List Rg} {r : Rg} (G : Good n (r :: X)) (k : Nat) : tnF n (cov (r :: X)) r.1 r.2 false k = cov X k := by
  have hr := okA_iff.1 (G.al r (.head _))
  unfold tnF
  rw [okT_rem G, if_pos rfl]
  by_cases hk : r.1 / 16 ≤ k ∧ k < r.1 / 16 + r.2 / 16
  · rw [if_pos hk]
    symm
    cases e : cov X k with
    | false => rfl
    | true =>
      exfalso
      obtain ⟨q, hq, k1, k2⟩ := cov_iff.1 e
      have := (List.pairwise_cons.1 G.apart).1 q hq
      omega
  · rw [if_neg hk, cov_cons]
    rcases Nat.lt_or_ge (16 * k) r.1 with h2 | h2
    · rw [decide_eq_false (show ¬ r.1 ≤ 16 * k by omega)]; rfl
    · rw [decide_eq_false (show ¬ 16 * k < r.1 + r.2 by omega), Bool.and_false]; rfl
theorem cov_beyond {n : Nat} {X : List Rg} (G : Good n X) (k : Nat) (h : n ≤ k) : cov X k = false := by
  cases e : cov X k with
  | false => rfl
  | true =>
    obtain ⟨q, hq, k1, k2⟩ := cov_iff.1 e
    have := okA_iff.1 (G.al q hq)
    omega
/-- A list by where they begin, and one more. -/
def insR (r : Rg) : List Rg → List Rg
  | [] => [r]
  | q :: l => if r.1 < q.1 then r :: q :: l else q :: insR r l
theorem insR_perm (r : Rg) : ∀ l : List Rg, (insR r l).Perm (r :: l)
  | [] => List.Perm.refl _
  | q :: l => by
    unfold insR
    split
    · exact List.Perm.refl _
    · exact ((insR_perm r l).cons q).trans (List.Perm.swap r q l)
theorem insR_mem (r : Rg) (l : List Rg) (q : Rg) : q ∈ insR r l ↔ q = r ∨ q ∈ l := by rw [(insR_perm r l).mem_iff, List.mem_cons]
theorem insR_len (r : Rg) (l : List Rg) : (insR r l).length = l.length + 1 := by rw [(insR_perm r l).length_eq]; rfl
def Asc (l : List Rg) : Prop := l.Pairwise fun r q => r.1 < q.1
theorem insR_asc {r : Rg} : ∀ {l : List Rg}, Asc l → (∀ q ∈ l, q.1 ≠ r.1) → Asc (insR r l)
  | [], _, _ => by unfold Asc; simp [insR]
  | p :: l, h, hn => by
    obtain ⟨h1, h2⟩ := List.pairwise_cons.1 h
    unfold insR
    split
    · rename_i hlt
      refine List.pairwise_cons.2 ⟨fun q hq => ?_, h⟩
      rcases List.mem_cons.1 hq with rfl | hq
      · exact hlt
      · have := h1 q hq; omega
    · rename_i hlt
      refine List.pairwise_cons.2 ⟨fun q hq => ?_, insR_asc h2 fun q hq => hn q (.tail _ hq)⟩
      rcases (insR_mem r l q).1 hq with rfl | hq
      · have := hn p (.head _); omega
      · exact h1 q hq
/-- Where it goes: behind so many. -/
def plc (r : Rg) (l : List Rg) : Nat := l.countP fun q => !decide (r.1 < q.1)
theorem plc_le (r : Rg) (l : List Rg) : plc r l ≤ l.length := List.countP_le_length
theorem insR_plc {r : Rg} : ∀ {l : List Rg}, Asc l → insR r l = l.take (plc r l) ++ r :: l.drop (plc r l)
  | [], _ => rfl
  | p :: l, h => by
    obtain ⟨h1, h2⟩ := List.pairwise_cons.1 h
    unfold insR
    by_cases hlt : r.1 < p.1
    · rw [if_pos hlt]
      have : plc r (p :: l) = 0 := by
        unfold plc
        rw [List.countP_eq_zero]
        intro q hq
        rcases List.mem_cons.1 hq with rfl | hq
        · simp [hlt]
        · have := h1 q hq
          simp; omega
      rw [this]; rfl
    · rw [if_neg hlt]
      have : plc r (p :: l) = plc r l + 1 := by
        unfold plc
        rw [List.countP_cons_of_pos (by simp; omega)]
      rw [this, insR_plc h2]
      rfl
theorem plc_mono {r : Rg} {l : List Rg} (h : Asc l) (i j : Nat) (hj : j < l.length) (hij : i ≤ j) (hi : r.1 < (l[i]'(by omega)).1) : r.1 < l[j].1 := by
  rcases Nat.lt_or_ge i j with h1 | h1
  · have := List.pairwise_iff_getElem.1 h i j (by omega) hj h1
    omega
  · obtain rfl : i = j := by omega
    exact hi
theorem plc_cnt {r : Rg} {l : List Rg} (h : Asc l) (k : Nat) (hk : k ≤ l.length) (h1 : ∀ i (hi : i < l.length), i < k → ¬ r.1 < l[i].1) (h2 : ∀ i (hi : i < l.length), k ≤ i → r.1 < l[i].1) : plc r l = k := by
  unfold plc
  rw [← List.take_append_drop k l, List.countP_append]
  have e1 : (l.take k).countP (fun q => !decide (r.1 < q.1)) = (l.take k).length := by
    rw [List.countP_eq_length]
    intro q hq
    obtain ⟨i, hi, rfl⟩ := List.getElem_of_mem hq
    rw [List.length_take] at hi
    rw [List.getElem_take]
    simpa using h1 i (by omega) (by omega)
  have e2 : (l.drop k).countP (fun q => !decide (r.1 < q.1)) = 0 := by
    rw [List.countP_eq_zero]
    intro q hq
    obtain ⟨i, hi, rfl⟩ := List.getElem_of_mem hq
    rw [List.length_drop] at hi
    rw [List.getElem_drop]
    simpa using h2 (k + i) (by omega) (by omega)
  rw [e1, e2, List.length_take]
  omega
/-- A yard has room for so many. -/
theorem nodup_below : ∀ (N : Nat) (l : List Nat), l.Nodup → (∀ x ∈ l, x < N) → l.length ≤ N
  | 0, l, _, h => by
    cases l with
    | nil => exact Nat.le_refl _
    | cons a l => exact absurd (h a (.head _)) (by omega)
  | N + 1, l, hn, h => by
    by_cases hN : N ∈ l
    · have h1 := nodup_below N (l.erase N) (hn.erase _) fun x hx => by
        have := (hn.mem_erase_iff).1 hx
        have := h x this.2
        omega
      rw [List.length_erase_of_mem hN] at h1
      omega
    · have := nodup_below N l hn fun x hx => by
        have h1 := h x hx
        have : x ≠ N := fun e => hN (e ▸ hx)
        omega
      omega
theorem Good.length {n : Nat} {X : List Rg} (G : Good n X) : X.length ≤ n := by
  have hm : (X.map fun r => r.1 / 16).Nodup := by
    refine List.pairwise_map.2 ?_
    refine (List.Pairwise.and_mem.1 G.apart).imp ?_
    rintro r q ⟨hr, hq, h⟩
    have := okA_iff.1 (G.al r hr)
    have := okA_iff.1 (G.al q hq)
    intro e
    have e : r.1 / 16 = q.1 / 16 := e
    omega
  have := nodup_below n _ hm fun x hx => by
    obtain ⟨r, hr, rfl⟩ := List.mem_map.1 hx
    have := okA_iff.1 (G.al r hr)
    omega
  simpa using this
theorem Good.ne {n : Nat} {X : List Rg} {r : Rg} (G : Good n (r :: X)) : ∀ q ∈ X, q.1 ≠ r.1 := fun q hq e => by
  have := (List.pairwise_cons.1 G.apart).1 q hq
  have := okA_iff.1 (G.al r (.head _))
  have := okA_iff.1 (G.al q (.tail _ hq))
  omega
end Go.Proofs.Ytmfipabbdhfmcaa.Qu
