/- The law's own count of room: is a slot of the class, or a page, or a run of pages free? No statement is proved here.; Arguments by value that are made of numbers and truths alone, however nested: structs and arrays, opened to their cells. Plain lemmas over whatever program; no statement is proved here.; The library's table, as its own text lays it. Plain lemmas; no statement is proved here. -/
import Derived.Test.YticfpnhfhhagpaaDoormt
import Derived.Test.YticfpnhfhhagpaaDoormu
import Derived.Test.YticfpnhfhhagpaaDoorChecked
import Derived.Below
import Derived.ChangeSame
import Derived.ProofKit
import Derived.OpenShut
import Derived.Test.YticfpnhfhhagpaaDoorRows
import Derived.Test.YticfpnhfhhagpaaDoormp
import Derived.ChangeVars
import Derived.JoinedOf
import Derived.RowKitTokens
import Derived.LaidLaws
import Derived.LaidHandle
import Derived.Lib.LaidTab
namespace Go.Proofs.YticfpnhfhhagpaaDoor
set_option maxRecDepth 100000
open Go.RowKit Go.Shelf Go.Maps
set_option linter.unusedVariables false
/-- How many regions have a byte of the page; how many of these are of that size. -/
def tkN (X : List Rg) (p : Nat) : Nat := X.countP fun r => ovl r (p * 256) 256
def owN (X : List Rg) (P p : Nat) : Nat := X.countP fun r => ovl r (p * 256) 256 && decide (r.2 = P)
def rmS (X : List Rg) (P : Nat) : Nat → Bool
  | 0 => false
  | p + 1 => rmS X P p || (decide (tkN X p = 0) || (decide (0 < owN X P p) && (decide (owN X P p = tkN X p) && decide (owN X P p < 256 / P))))
def rnN (X : List Rg) : Nat → Nat
  | 0 => 0
  | p + 1 => if 0 < tkN X p then 0 else rnN X p + 1
def rmL (X : List Rg) (m : Nat) : Nat → Bool
  | 0 => false
  | p + 1 => rmL X m p || decide (m ≤ rnN X (p + 1))
theorem rnN_le (X : List Rg) : ∀ p, rnN X p ≤ p
  | 0 => Nat.le_refl _
  | p + 1 => by
    have := rnN_le X p
    unfold rnN
    split <;> omega
theorem tk_zero {X : List Rg} {p : Nat} : tkN X p = 0 ↔ hit X (p * 256) 256 = false := by
  unfold tkN
  rw [List.countP_eq_zero]
  constructor
  · intro h
    cases e : hit X (p * 256) 256
    · rfl
    · obtain ⟨r, hr, h1, h2⟩ := hit_iff.1 e
      exact absurd (ovl_iff.2 ⟨h1, h2⟩) (h r hr)
  · intro h r hr h2
    exact hit_no.1 h r hr (ovl_iff.1 h2)
theorem rmS_iff {X : List Rg} {P : Nat} : ∀ {n : Nat}, rmS X P n = true ↔ ∃ p, p < n ∧ (tkN X p = 0 ∨ (0 < owN X P p ∧ owN X P p = tkN X p ∧ owN X P p < 256 / P))
  | 0 => by simp [rmS]
  | n + 1 => by
    unfold rmS
    rw [Bool.or_eq_true, rmS_iff (n := n)]
    simp only [Bool.or_eq_true, Bool.and_eq_true, decide_eq_true_eq]
    constructor
    · rintro (⟨p, hp, h⟩ | h)
      · exact ⟨p, by omega, h⟩
      · exact ⟨n, by omega, h⟩
    · rintro ⟨p, hp, h⟩
      rcases Nat.lt_or_ge p n with h2 | h2
      · exact .inl ⟨p, h2, h⟩
      · obtain rfl : p = n := by omega
        exact .inr h
theorem rnN_iff {X : List Rg} {m : Nat} (hm : 1 ≤ m) : ∀ {p : Nat}, m ≤ rnN X p ↔ m ≤ p ∧ ∀ k, p - m ≤ k → k < p → tkN X k = 0
  | 0 => by unfold rnN; omega
  | p + 1 => by
    unfold rnN
    by_cases h : 0 < tkN X p
    · rw [if_pos h]
      constructor
      · intro h2; omega
      · rintro ⟨h1, h2⟩
        have := h2 p (by omega) (by omega)
        omega
    · rw [if_neg h]
      rcases Nat.lt_or_ge 1 m with h1 | h1
      · have := rnN_iff (X := X) (m := m - 1) (by omega) (p := p)
        constructor
        · intro h2
          obtain ⟨h3, h4⟩ := this.1 (by omega)
          refine ⟨by omega, fun k hk hl => ?_⟩
          rcases Nat.lt_or_ge k p with h5 | h5
          · exact h4 k (by omega) h5
          · obtain rfl : k = p := by omega
            omega
        · rintro ⟨h3, h4⟩
          have := this.2 ⟨by omega, fun k hk hl => h4 k (by omega) (by omega)⟩
          omega
      · obtain rfl : m = 1 := by omega
        constructor
        · intro _
          refine ⟨by omega, fun k hk hl => ?_⟩
          obtain rfl : k = p := by omega
          omega
        · intro _; omega
theorem rmL_iff {X : List Rg} {m : Nat} (hm : 1 ≤ m) : ∀ {n : Nat}, rmL X m n = true ↔ ∃ a, a + m ≤ n ∧ ∀ k, a ≤ k → k < a + m → tkN X k = 0
  | 0 => by simp [rmL]; omega
  | n + 1 => by
    unfold rmL
    rw [Bool.or_eq_true, rmL_iff hm (n := n), decide_eq_true_eq, rnN_iff hm]
    constructor
    · rintro (⟨a, ha, h⟩ | ⟨h1, h2⟩)
      · exact ⟨a, by omega, h⟩
      · exact ⟨n + 1 - m, by omega, fun k hk hl => h2 k (by omega) (by omega)⟩
    · rintro ⟨a, ha, h⟩
      rcases Nat.lt_or_ge (a + m) (n + 1) with h2 | h2
      · exact .inl ⟨a, by omega, h⟩
      · exact .inr ⟨by omega, fun k hk hl => h k (by omega) (by omega)⟩
section
variable {n : Nat} {X : List Rg} {c p : Nat}
theorem rg_pair {X : List Rg} (h : X.Pairwise fun r q => r.1 + r.2 ≤ q.1 ∨ q.1 + q.2 ≤ r.1) {r q : Rg} (hr : r ∈ X) (hq : q ∈ X) (hne : r ≠ q) : r.1 + r.2 ≤ q.1 ∨ q.1 + q.2 ≤ r.1 := by
  induction X with
  | nil => cases hr
  | cons x Y ih =>
    obtain ⟨h1, h2⟩ := List.pairwise_cons.1 h
    rcases List.mem_cons.1 hr with rfl | hr'
    · rcases List.mem_cons.1 hq with rfl | hq'
      · exact absurd rfl hne
      · exact h1 q hq'
    · rcases List.mem_cons.1 hq with rfl | hq'
      · exact (h1 r hr').symm
      · exact ih h2 hr' hq'
/-- Where a page is of a class, all that has a byte of it is of that class. -/
theorem ofC_size {p0 : Nat} (G : Good p0 n X) (hc : c < 5) (h : ofC X c p = true) {r : Rg} (hr : r ∈ X) (ho : ovl r (p * 256) 256 = true) : r.2 = sltN c ∧ r.1 / 256 = p := by
  obtain ⟨q, hq, h1, h2⟩ := ofC_iff.1 h
  have hs := per_le hc
  rcases G.kind r hr with ⟨d, hd⟩ | hl
  · rw [small_page hd] at ho
    have ho := of_decide_eq_true ho
    exact ⟨(G.same q hq r hr (by omega) (by omega)).symm.trans h1, ho⟩
  · obtain ⟨l1, l2, l3⟩ := hl
    have ⟨o1, o2⟩ := ovl_iff.1 ho
    by_cases hp : r.1 / 256 = p
    · exact ⟨(G.same q hq r hr (by omega) (by omega)).symm.trans h1, hp⟩
    · exfalso
      have hqs : q.1 % 256 + q.2 ≤ 256 := by
        rcases G.kind q hq with ⟨d, hd⟩ | hl
        · obtain ⟨t, ht, e1, e2⟩ := small_at hd
          have := (small_div (p := q.1 / 256) hd.1 ht).2.2.2
          have := hd.2.1
          omega
        · have := hl.1; omega
      have hne : r ≠ q := by intro e; subst e; exact hp h2
      have := rg_pair G.apart hr hq hne
      omega
def hitC (X : List Rg) (c p t : Nat) : Bool := X.any fun r => decide (r.2 = sltN c) && ovl r (p * 256 + t * sltN c) (sltN c)
theorem cnt_upd {f g : Nat → Bool} {s : Nat} (hf : f s = false) (hg : ∀ t, g t = (decide (t = s) || f t)) : ∀ {k : Nat}, cnt g k = cnt f k + (if s < k then 1 else 0)
  | 0 => by simp [cnt]
  | k + 1 => by
    have ih := cnt_upd hf hg (k := k)
    show cnt g k + (g k).toNat = cnt f k + (f k).toNat + _
    rw [hg k, ih]
    by_cases h : k = s
    · subst h
      rw [hf]; simp
    · by_cases h2 : s < k
      · rw [if_pos h2, if_pos (by omega)]; simp [h]; omega
      · rw [if_neg h2, if_neg (by omega)]; simp [h]
theorem hitC_cnt {p0 : Nat} (hc : c < 5) : ∀ {X : List Rg}, Good p0 n X → cnt (hitC X c p) (perN c) = owN X (sltN c) p
  | [], _ => by
    show cnt (hitC [] c p) (perN c) = 0
    exact cnt_zero fun _ _ => rfl
  | r :: Y, G => by
    have ih := hitC_cnt hc G.tail
    unfold owN at ih ⊢
    rw [List.countP_cons, ← ih]
    by_cases h : r.2 = sltN c ∧ r.1 / 256 = p
    · obtain ⟨h1, h2⟩ := h
      have hsm : Small r c := by
        rcases G.kind r (List.mem_cons_self ..) with ⟨d, hd⟩ | hl
        · rw [slt_inj hc hd.1 (h1.symm.trans hd.2.1)]; exact hd
        · have := per_le hc; have := hl.1; omega
      obtain ⟨e1, e2⟩ := slot_of G hsm
      rw [h2] at e1
      obtain ⟨s, hs⟩ : ∃ s, s = r.1 % 256 / r.2 := ⟨_, rfl⟩
      rw [← hs] at e1 e2
      have ho : ovl r (p * 256) 256 = true := by rw [small_page hsm]; exact decide_eq_true h2
      rw [ho, decide_eq_true h1]
      have hf : hitC Y c p s = false := by
        cases e : hitC Y c p s
        · rfl
        · unfold hitC at e
          rw [List.any_eq_true] at e
          obtain ⟨q, hq, h3⟩ := e
          rw [Bool.and_eq_true] at h3
          have h4 := ovl_iff.1 h3.2
          have h5 := G.free
          rw [e1] at h5
          exact absurd h4 (hit_no.1 h5 q hq)
      have hg : ∀ t, t < perN c → hitC (r :: Y) c p t = (decide (t = s) || hitC Y c p t) := fun t ht => by
        show ((decide (r.2 = sltN c) && ovl r (p * 256 + t * sltN c) (sltN c)) || hitC Y c p t) = _
        rw [decide_eq_true h1, e1, show slot c p s = (p * 256 + s * sltN c, sltN c) from rfl, slot_ovl hc e2 ht]
        simp
      rw [cnt_congr (h := fun t => decide (t = s) || hitC Y c p t) hg, cnt_upd (g := fun t => decide (t = s) || hitC Y c p t) hf (fun _ => rfl), if_pos e2]
      rfl
    · have hn : (ovl r (p * 256) 256 && decide (r.2 = sltN c)) = false := by
        by_cases h1 : r.2 = sltN c
        · rw [decide_eq_true h1, Bool.and_true]
          have hsm : Small r c := by
            rcases G.kind r (List.mem_cons_self ..) with ⟨d, hd⟩ | hl
            · rw [slt_inj hc hd.1 (h1.symm.trans hd.2.1)]; exact hd
            · have := per_le hc; have := hl.1; omega
          rw [small_page hsm]
          exact decide_eq_false fun h2 => h ⟨h1, h2⟩
        · rw [decide_eq_false h1, Bool.and_false]
      rw [hn]
      refine cnt_congr fun t ht => ?_
      show ((decide (r.2 = sltN c) && ovl r (p * 256 + t * sltN c) (sltN c)) || hitC Y c p t) = _
      have : (decide (r.2 = sltN c) && ovl r (p * 256 + t * sltN c) (sltN c)) = false := by
        by_cases h1 : r.2 = sltN c
        · rw [decide_eq_true h1, Bool.true_and]
          rw [decide_eq_true h1, Bool.and_true] at hn
          cases e : ovl r (p * 256 + t * sltN c) (sltN c)
          · rfl
          · have h4 := ovl_iff.1 e
            have h5 := (small_div (p := p) hc ht).2.2.2
            rw [← hn]
            exact (ovl_iff.2 ⟨by omega, by omega⟩).symm
        · rw [decide_eq_false h1, Bool.false_and]
      rw [this, Bool.false_or]
theorem cnt_less (f : Nat → Bool) : ∀ k, cnt f k < k ↔ ∃ j, j < k ∧ f j = false
  | 0 => by simp
  | k + 1 => by
    have ih := cnt_less f k
    have hl := cnt_le f k
    show cnt f k + (f k).toNat < k + 1 ↔ _
    cases e : f k
    · constructor
      · intro _; exact ⟨k, by omega, e⟩
      · intro _; simp; omega
    · constructor
      · intro h
        obtain ⟨j, hj, hf⟩ := ih.1 (by simpa using h)
        exact ⟨j, by omega, hf⟩
      · rintro ⟨j, hj, hf⟩
        have : j ≠ k := fun h => by subst h; rw [e] at hf; cases hf
        have := ih.2 ⟨j, by omega, hf⟩
        simpa using this
/-- A page has a free slot of a class, just if it is of that class, and not full. -/
theorem slot_free {p0 : Nat} (G : Good p0 n X) (hc : c < 5) : (∃ t, slF X c p t = true) ↔ 0 < owN X (sltN c) p ∧ owN X (sltN c) p = tkN X p ∧ owN X (sltN c) p < 256 / sltN c := by
  have hcn := hitC_cnt (p := p) hc G
  have how : 0 < owN X (sltN c) p ↔ ofC X c p = true := by
    unfold owN
    rw [List.countP_pos_iff]
    constructor
    · rintro ⟨r, hr, h⟩
      rw [Bool.and_eq_true, decide_eq_true_eq] at h
      have hsm : Small r c := by
        rcases G.kind r hr with ⟨d, hd⟩ | hl
        · rw [slt_inj hc hd.1 (h.2.symm.trans hd.2.1)]; exact hd
        · have := per_le hc; have := hl.1; omega
      rw [small_page hsm, decide_eq_true_eq] at h
      exact ofC_iff.2 ⟨r, hr, h.2, h.1⟩
    · intro h
      obtain ⟨r, hr, h1, h2⟩ := ofC_iff.1 h
      have hsm : Small r c := by
        rcases G.kind r hr with ⟨d, hd⟩ | hl
        · rw [slt_inj hc hd.1 (h1.symm.trans hd.2.1)]; exact hd
        · have := per_le hc; have := hl.1; omega
      exact ⟨r, hr, by rw [small_page hsm, decide_eq_true h2, decide_eq_true h1]; rfl⟩
  have hall : ofC X c p = true → owN X (sltN c) p = tkN X p := fun h => by
    unfold owN tkN
    refine List.countP_congr fun r hr => ?_
    rw [Bool.and_eq_true]
    exact ⟨fun k => k.1, fun k => ⟨k, decide_eq_true (ofC_size G hc h hr k).1⟩⟩
  have hhit : ofC X c p = true → ∀ t, t < perN c → hitC X c p t = hit X (p * 256 + t * sltN c) (sltN c) := fun h t ht => by
    have h5 := (small_div (p := p) hc ht).2.2.2
    cases e : hit X (p * 256 + t * sltN c) (sltN c)
    · unfold hitC
      rw [List.any_eq_false]
      intro r hr k
      rw [Bool.and_eq_true] at k
      exact hit_no.1 e r hr (ovl_iff.1 k.2)
    · obtain ⟨r, hr, h1, h2⟩ := hit_iff.1 e
      unfold hitC
      rw [List.any_eq_true]
      refine ⟨r, hr, ?_⟩
      rw [Bool.and_eq_true]
      exact ⟨decide_eq_true (ofC_size G hc h hr (ovl_iff.2 ⟨by omega, by omega⟩)).1, ovl_iff.2 ⟨h1, h2⟩⟩
  have hper : 256 / sltN c = perN c := rfl
  rw [hper, ← hcn]
  constructor
  · rintro ⟨t, h⟩
    obtain ⟨h1, h2, h3⟩ := slF_iff.1 h
    refine ⟨by rw [hcn]; exact how.2 h1, by rw [hcn]; exact hall h1, (cnt_less _ _).2 ⟨t, h2, by rw [hhit h1 t h2]; exact h3⟩⟩
  · rintro ⟨h1, h2, h3⟩
    obtain ⟨t, ht, h4⟩ := (cnt_less _ _).1 h3
    rw [hcn] at h1
    have h1 := how.1 h1
    exact ⟨t, slF_iff.2 ⟨h1, ht, by rw [← hhit h1 t ht]; exact h4⟩⟩
theorem room_small (G : Good 0 n X) (hn : n ≤ 1024) (hc : c < 5) : rmS X (sltN c) n = (takeO 0 n X c).isSome := by
  have hs := per_le hc
  rw [Bool.eq_iff_iff, rmS_iff]
  have hlt : ∀ p t, slF X c p t = true → p < n ∧ t < 16 := fun p t h => by
    obtain ⟨h1, h2, h3⟩ := slF_iff.1 h
    obtain ⟨r, hr, h4, h5⟩ := ofC_iff.1 h1
    have := G.hi r hr
    omega
  unfold takeO
  constructor
  · rintro ⟨p, hp, h⟩
    cases e : lst (slF X c) with
    | some x => rfl
    | none =>
      dsimp only
      cases e2 : fndB (fre 0 n X) n 1 1
      · exfalso
        rcases h with h | h
        · have := (fnd_not e2).2 p
          have h2 : goodB (fre 0 n X) n 1 1 p = true := good_iff.2 ⟨by omega, by omega, fit_iff.2 ⟨by omega, by omega, fun k hk hl => by
            obtain rfl : k = p := by omega
            exact fre_iff.2 ⟨by omega, hp, tk_zero.1 h⟩⟩⟩
          rw [this] at h2; cases h2
        · obtain ⟨t, ht⟩ := (slot_free G hc).2 h
          have hb := hlt p t ht
          have := lst_none e (p := p) (k := t) (by omega) hb.2
          rw [this] at ht; cases ht
      · rfl
  · intro h
    cases e : lst (slF X c) with
    | some x =>
      have h1 := (lst_some e).1
      exact ⟨x.1, (hlt _ _ h1).1, .inr ((slot_free G hc).1 ⟨_, h1⟩)⟩
    | none =>
      rw [e] at h
      dsimp only at h
      cases e2 : fndB (fre 0 n X) n 1 1
      · rw [e2] at h; cases h
      · have h2 := fit_iff.1 (good_iff.1 (fnd_is e2).1).2.2
        have h3 := fre_iff.1 (h2.2.2 _ (Nat.le_refl _) (by omega))
        exact ⟨_, h3.2.1, .inl (tk_zero.2 h3.2.2)⟩
theorem room_large {m : Nat} (hm : 1 ≤ m) : rmL X m n = fndB (fre 0 n X) n ((m : Nat) : Int) 1 := by
  rw [Bool.eq_iff_iff, rmL_iff hm]
  constructor
  · rintro ⟨a, ha, h⟩
    cases e2 : fndB (fre 0 n X) n ((m : Nat) : Int) 1
    · have := (fnd_not e2).2 a
      have h2 : goodB (fre 0 n X) n ((m : Nat) : Int) 1 a = true := good_iff.2 ⟨by omega, by omega, fit_iff.2 ⟨by omega, by omega, fun k hk hl => fre_iff.2 ⟨by omega, by omega, tk_zero.1 (h k hk (by omega))⟩⟩⟩
      rw [this] at h2; cases h2
    · rfl
  · intro e2
    have h2 := fit_iff.1 (good_iff.1 (fnd_is e2).1).2.2
    exact ⟨_, by omega, fun k hk hl => tk_zero.2 (fre_iff.1 (h2.2.2 k hk (by omega))).2.2⟩
end
end Go.Proofs.YticfpnhfhhagpaaDoor
namespace Go.Proofs.YticfpnhfhhagpaaDoor
open Go.ChangeShapes Go.WideShapes Go.RowKit
set_option linter.unusedVariables false

/-- What a cell holds: a number of a kind ('some k'), or a truth ('none'). -/
def fits : Option IntKind → Value → Prop
  | some k, u => ∃ x : Int, u = .int k x ∧ (Lit.int k x).wf = true
  | none, u => ∃ b : Bool, u = .bool b
def FitL : List (Option IntKind) → List Value → Prop
  | [], cs => cs = []
  | o :: ks, cs => ∃ (u : Value) (r : List Value), cs = u :: r ∧ fits o u ∧ FitL ks r
theorem FitL.length : ∀ {ks : List (Option IntKind)} {cs : List Value}, FitL ks cs → cs.length = ks.length
  | [], cs, h => by rw [show cs = [] from h]; rfl
  | o :: ks, cs, ⟨u, r, e, _, h⟩ => by rw [e]; simp [h.length]
theorem FitL.append : ∀ {a b : List (Option IntKind)} {c d : List Value}, FitL a c → FitL b d → FitL (a ++ b) (c ++ d)
  | [], b, c, d, h, k => by rw [show c = [] from h]; exact k
  | o :: a, b, c, d, ⟨u, r, e, f, h⟩, k => by rw [e]; exact ⟨u, r ++ d, rfl, f, h.append k⟩

/-- The fields of a struct, one behind the other from a cell on. -/
def layFields (P : Program) (g : TypeId → Option (List (Option IntKind))) : Nat → List Field → Option (List (Option IntKind))
  | _, [] => some []
  | off, f :: fs =>
    match g f.type with
    | none => none
    | some a => if f.offset = off ∧ P.cellsOf f.type = a.length then (layFields P g (off + a.length) fs).map (a ++ ·) else none
/-- The cells of a type: none, unless it is made of numbers and truths alone. -/
def layOf (P : Program) : Nat → TypeId → Option (List (Option IntKind))
  | 0, _ => none
  | d + 1, t =>
    match P.underlying t with
    | some (.int k) => some [some k]
    | some .bool => some [none]
    | some (.struct fs) =>
      match layFields P (layOf P d) 0 fs.toList with
      | none => none
      | some a => if P.cellsOf t = a.length then some a else none
    | some (.array n e) =>
      match layOf P d e with
      | none => none
      | some a => if P.cellsOf e = a.length ∧ P.cellsOf t = n * a.length then some (List.replicate n a).flatten else none
    | _ => none

section
variable {H : Type} {enc : TypeId × Value → H} {P : Program} {w : World} {base : Nat} {spare : Nat → Bool} {held : Bool}

theorem take_drop_app (cs : List Value) (a b : Nat) : (cs.drop a).take b ++ cs.drop (a + b) = cs.drop a := by
  rw [← List.drop_drop]; exact List.take_append_drop b _

theorem fields_fit {g : TypeId → Option (List (Option IntKind))} {n : Nat} {cs : List Value}
    (hg : ∀ t a cs x, g t = some a → DataW.trod enc P w base spare held n t cs = some x → FitL a cs) :
    ∀ (fs : List Field) (off : Nat) (ks : List (Option IntKind)), layFields P g off fs = some ks → (∀ f, f ∈ fs → ∃ y, DataW.trod enc P w base spare held n f.type ((cs.drop f.offset).take (P.cellsOf f.type)) = some y) →
      off + ks.length = cs.length → FitL ks (cs.drop off)
  | [], off, ks, h, _, hl => by
    have : ks = [] := by simpa [layFields] using h.symm
    subst this
    show cs.drop off = []
    exact List.drop_of_length_le (by simpa using Nat.le_of_eq hl.symm)
  | f :: fs, off, ks, h, hy, hl => by
    unfold layFields at h
    split at h
    · exact absurd h (by simp)
    · rename_i a ha
      split at h
      · rename_i hc
        obtain ⟨r, hr, rfl⟩ := Option.map_eq_some_iff.1 h
        obtain ⟨y, hy0⟩ := hy f (List.mem_cons_self)
        rw [hc.1, hc.2] at hy0
        have h1 := hg _ _ _ _ ha hy0
        have h2 := fields_fit hg fs (off + a.length) r hr (fun f' hf' => hy f' (List.mem_cons_of_mem _ hf')) (by simp at hl; omega)
        rw [← take_drop_app cs off a.length]
        exact h1.append h2
      · exact absurd h (by simp)

theorem array_fit {a : List (Option IntKind)} : ∀ (n : Nat) (cs : List Value), cs.length = n * a.length → (∀ i, i < n → FitL a ((cs.drop (i * a.length)).take a.length)) → FitL (List.replicate n a).flatten cs
  | 0, cs, hl, _ => by
    have : cs = [] := List.length_eq_zero_iff.1 (by simpa using hl)
    simpa [FitL] using this
  | n + 1, cs, hl, h => by
    rw [List.replicate_succ, List.flatten_cons]
    have h0 := h 0 (by omega)
    rw [Nat.zero_mul, List.drop_zero] at h0
    have h1 := array_fit (a := a) n (cs.drop a.length) (by rw [List.length_drop, hl, Nat.succ_mul]; omega) (fun i hi => by
      have := h (i + 1) (by omega)
      rwa [List.drop_drop, show a.length + i * a.length = (i + 1) * a.length from by rw [Nat.succ_mul]; omega])
    have := h0.append h1
    rwa [List.take_append_drop] at this

theorem lay_fit : ∀ (d : Nat) (t : TypeId) (ks : List (Option IntKind)), layOf P d t = some ks → ∀ (fuel : Nat) (cs : List Value) (x : DataW H × List MemPlace), DataW.trod enc P w base spare held fuel t cs = some x → FitL ks cs
  | 0, t, ks, h, _, _, _, _ => by simp [layOf] at h
  | d + 1, t, ks, h, fuel, cs, x, hx => by
    unfold layOf at h
    split at h
    · rename_i k hu
      obtain ⟨m, rfl, _, hw⟩ := DataW.trod_int hu hx
      have : ks = [some k] := by simpa using h.symm
      subst this
      exact ⟨_, [], rfl, ⟨m, rfl, hw⟩, rfl⟩
    · rename_i hu
      obtain ⟨b, rfl, _⟩ := DataW.trod_bool hu hx
      have : ks = [none] := by simpa using h.symm
      subst this
      exact ⟨_, [], rfl, ⟨b, rfl⟩, rfl⟩
    · rename_i fs hu
      split at h
      · exact absurd h (by simp)
      · rename_i a ha
        split at h
        · rename_i hc
          have : ks = a := by simpa using h.symm
          subst this
          obtain ⟨xs, n, rfl, _, hl, hlen, hf⟩ := DataW.trod_struct hu hx
          have := fields_fit (cs := cs) (n := n) (enc := enc) (w := w) (base := base) (spare := spare) (held := held) (fun t a cs x ht hx' => lay_fit d t a ht n cs x hx') fs.toList 0 ks ha (fun f hfm => ?_) (by rw [hl, hc]; omega)
          · simpa using this
          · obtain ⟨i, hi⟩ := List.mem_iff_getElem?.1 hfm
            have hi' : fs[i]? = some f := by simpa using hi
            have := hf i f hi'
            have hlt : i < fs.size := (Array.getElem?_eq_some_iff.1 hi').1
            rw [List.getElem?_eq_getElem (by omega)] at this
            exact ⟨_, this⟩
        · exact absurd h (by simp)
    · rename_i n e hu
      split at h
      · exact absurd h (by simp)
      · rename_i a ha
        split at h
        · rename_i hc
          have : ks = (List.replicate n a).flatten := by simpa using h.symm
          subst this
          obtain ⟨xs, m, rfl, _, hl, hlen, hi⟩ := DataW.trod_array hu hx
          refine array_fit n cs (by rw [hl, hc.2]) fun i hlt => ?_
          have := hi i hlt
          rw [List.getElem?_eq_getElem (by omega), hc.1] at this
          exact lay_fit d e a ha m _ _ this
        · exact absurd h (by simp)
    · exact absurd h (by simp)

/-- A struct, or an array, by value. -/
theorem open_flat {r : Reach} {b0 : Nat} {t : TypeId} {v : Value} {dd : DataW H} {p : List MemPlace} (d : Nat) {ks : List (Option IntKind)} (hl : layOf P d t = some ks)
    (hs : (∃ fs, P.underlying t = some (.struct fs)) ∨ ∃ n e, P.underlying t = some (.array n e))
    (hv : Value.okWide P w r b0 t v) (h : DataW.Trod enc P w base spare held t v dd p) : ∃ cs : List Value, v = .agg cs.toArray ∧ FitL ks cs := by
  obtain ⟨fuel, hf⟩ := h
  have hk := lay_fit d t ks hl fuel _ _ hf
  rcases hs with ⟨fs, hu⟩ | ⟨n, e, hu⟩
  · obtain ⟨cs, rfl, _⟩ := okWide_struct hu hv
    exact ⟨cs.toList, by simp, by simpa [Value.cells] using hk⟩
  · simp only [Value.okWide, hu] at hv
    obtain ⟨cs, rfl, _⟩ := hv
    exact ⟨cs.toList, by simp, by simpa [Value.cells] using hk⟩
end

/- A trial of it: this program's parts. -/
end Go.Proofs.YticfpnhfhhagpaaDoor
namespace Go.Proofs.YticfpnhfhhagpaaDoor
open Go.ChangeShapes Go.WideShapes Go.ChangeAt Go.RowKit Go.Shelf
set_option linter.unusedVariables false
theorem own : ownKnob Tryd.prog.godebug = none := by kernel_rfl
theorem laidOut : laidOutB Tryd.prog = true := by kernel_rfl
theorem gTab : Tryd.prog.globalNamed "math/bits.deBruijn32tab" = some 0 := by kernel_rfl
theorem gTabType : (Tryd.prog.globals[0]?).map (·.type) = some 137 := by kernel_rfl
/-- The table, as integers. -/
def tabInts : List Int := List.map Int.ofNat Lib.deBruijn32tab
/-- What the rows list. -/
def laidL : List (String × DataW Unit) := [("math/bits.deBruijn32tab", Rows.laid_math_bits_deBruijn32tab)]
/-- A world in which the table holds what its own text lays: the witness. -/
noncomputable def laidWorld (os : Os) : World :=
  let w0 := World.holding Tryd.prog os ⟨#[], #[], []⟩
  { w0 with heap := w0.heap.modify 0 fun
      | .cells _ t frozen => .cells (tabInts.map fun z => Value.int .u8 z).toArray t frozen
      | o => o }
theorem laid_met (os : Os) (args : Array Value) : laidMetH Tryd.prog laidL ((laidWorld os).forCall (fun _ _ => 0) ⟨#[], args, []⟩).memory :=
  laidMetH_of_parts (laidMet_of_run' 8 (by kernel_rfl) (by kernel_rfl)) (by kernel_rfl)
/-- What the row's condition says of the table. -/
theorem tabs_of_laid {W : World} (h : laidMetH Tryd.prog laidL W) : TabAt 0 Lib.deBruijn32tab W := by
  have h' : laidMet Tryd.prog (("math/bits.deBruijn32tab", Lib.tabData .u8 tabInts) :: []) W := h
  have hT : Lib.TabIs Tryd.prog W "math/bits.deBruijn32tab" .u8 tabInts := Lib.tabIs_of_head gTab gTabType Tryd.underlying137 Tryd.underlying5 (by kernel_rfl) (by kernel_rfl) h'
  intro j hj
  have := hT.cell gTab j (by rw [tabInts, List.length_map]; exact hj)
  rw [this, tabInts]
  simp [List.getD]
  rw [List.getElem?_eq_getElem hj]
  rfl
end Go.Proofs.YticfpnhfhhagpaaDoor
