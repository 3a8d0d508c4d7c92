/- Arguments by value that are made of numbers and truths alone, however nested: structs and arrays, opened to their cells. Plain lemmas over whatever program; no statement is proved here. -/
import Derived.Test.YtmfipabbdhfmcaaChecked
import Derived.Below
import Derived.ChangeSame
import Derived.ProofKit
import Derived.OpenShut
namespace Go.Proofs.Ytmfipabbdhfmcaa
open Go.ChangeShapes Go.WideShapes Go.RowKit
set_option linter.unusedVariables false

/-- What a cell holds: a number of a kind ('some k'), or a truth ('none'). -/
def fits : Option IntKind → Value → Prop
  | some k, u => ∃ x : Int, u = .int k x ∧ (Lit.int k x).wf = true
  | none, u => ∃ b : Bool, u = .bool b
def FitL : List (Option IntKind) → List Value → Prop
  | [], cs => cs = []
  | o :: ks, cs => ∃ (u : Value) (r : List Value), cs = u :: r ∧ fits o u ∧ FitL ks r
theorem FitL.length : ∀ {ks : List (Option IntKind)} {cs : List Value}, FitL ks cs → cs.length = ks.length
  | [], cs, h => by rw [show cs = [] from h]; rfl
  | o :: ks, cs, ⟨u, r, e, _, h⟩ => by rw [e]; simp [h.length]
theorem FitL.append : ∀ {a b : List (Option IntKind)} {c d : List Value}, FitL a c → FitL b d → FitL (a ++ b) (c ++ d)
  | [], b, c, d, h, k => by rw [show c = [] from h]; exact k
  | o :: a, b, c, d, ⟨u, r, e, f, h⟩, k => by rw [e]; exact ⟨u, r ++ d, rfl, f, h.append k⟩

/-- The fields of a struct, one behind the other from a cell on. -/
def layFields (P : Program) (g : TypeId → Option (List (Option IntKind))) : Nat → List Field → Option (List (Option IntKind))
  | _, [] => some []
  | off, f :: fs =>
    match g f.type with
    | none => none
    | some a => if f.offset = off ∧ P.cellsOf f.type = a.length then (layFields P g (off + a.length) fs).map (a ++ ·) else none
/-- The cells of a type: none, unless it is made of numbers and truths alone. -/
def layOf (P : Program) : Nat → TypeId → Option (List (Option IntKind))
  | 0, _ => none
  | d + 1, t =>
    match P.underlying t with
    | some (.int k) => some [some k]
    | some .bool => some [none]
    | some (.struct fs) =>
      match layFields P (layOf P d) 0 fs.toList with
      | none => none
      | some a => if P.cellsOf t = a.length then some a else none
    | some (.array n e) =>
      match layOf P d e with
      | none => none
      | some a => if P.cellsOf e = a.length ∧ P.cellsOf t = n * a.length then some (List.replicate n a).flatten else none
    | _ => none

section
variable {H : Type} {enc : TypeId × Value → H} {P : Program} {w : World} {base : Nat} {spare : Nat → Bool} {held : Bool}

theorem take_drop_app (cs : List Value) (a b : Nat) : (cs.drop a).take b ++ cs.drop (a + b) = cs.drop a := by
  rw [← List.drop_drop]; exact List.take_append_drop b _

theorem fields_fit {g : TypeId → Option (List (Option IntKind))} {n : Nat} {cs : List Value}
    (hg : ∀ t a cs x, g t = some a → DataW.trod enc P w base spare held n t cs = some x → FitL a cs) :
    ∀ (fs : List Field) (off : Nat) (ks : List (Option IntKind)), layFields P g off fs = some ks → (∀ f, f ∈ fs → ∃ y, DataW.trod enc P w base spare held n f.type ((cs.drop f.offset).take (P.cellsOf f.type)) = some y) →
      off + ks.length = cs.length → FitL ks (cs.drop off)
  | [], off, ks, h, _, hl => by
    have : ks = [] := by simpa [layFields] using h.symm
    subst this
    show cs.drop off = []
    exact List.drop_of_length_le (by simpa using Nat.le_of_eq hl.symm)
  | f :: fs, off, ks, h, hy, hl => by
    unfold layFields at h
    split at h
    · exact absurd h (by simp)
    · rename_i a ha
      split at h
      · rename_i hc
        obtain ⟨r, hr, rfl⟩ := Option.map_eq_some_iff.1 h
        obtain ⟨y, hy0⟩ := hy f (List.mem_cons_self)
        rw [hc.1, hc.2] at hy0
        have h1 := hg _ _ _ _ ha hy0
        have h2 := fields_fit hg fs (off + a.length) r hr (fun f' hf' => hy f' (List.mem_cons_of_mem _ hf')) (by simp at hl; omega)
        rw [← take_drop_app cs off a.length]
        exact h1.append h2
      · exact absurd h (by simp)

theorem array_fit {a : List (Option IntKind)} : ∀ (n : Nat) (cs : List Value), cs.length = n * a.length → (∀ i, i < n → FitL a ((cs.drop (i * a.length)).take a.length)) → FitL (List.replicate n a).flatten cs
  | 0, cs, hl, _ => by
    have : cs = [] := List.length_eq_zero_iff.1 (by simpa using hl)
    simpa [FitL] using this
  | n + 1, cs, hl, h => by
    rw [List.replicate_succ, List.flatten_cons]
    have h0 := h 0 (by omega)
    rw [Nat.zero_mul, List.drop_zero] at h0
    have h1 := array_fit (a := a) n (cs.drop a.length) (by rw [List.length_drop, hl, Nat.succ_mul]; omega) (fun i hi => by
      have := h (i + 1) (by omega)
      rwa [List.drop_drop, show a.length + i * a.length = (i + 1) * a.length from by rw [Nat.succ_mul]; omega])
    have := h0.append h1
    rwa [List.take_append_drop] at this

theorem lay_fit : ∀ (d : Nat) (t : TypeId) (ks : List (Option IntKind)), layOf P d t = some ks → ∀ (fuel : Nat) (cs : List Value) (x : DataW H × List MemPlace), DataW.trod enc P w base spare held fuel t cs = some x → FitL ks cs
  | 0, t, ks, h, _, _, _, _ => by simp [layOf] at h
  | d + 1, t, ks, h, fuel, cs, x, hx => by
    unfold layOf at h
    split at h
    · rename_i k hu
      obtain ⟨m, rfl, _, hw⟩ := DataW.trod_int hu hx
      have : ks = [some k] := by simpa using h.symm
      subst this
      exact ⟨_, [], rfl, ⟨m, rfl, hw⟩, rfl⟩
    · rename_i hu
      obtain ⟨b, rfl, _⟩ := DataW.trod_bool hu hx
      have : ks = [none] := by simpa using h.symm
      subst this
      exact ⟨_, [], rfl, ⟨b, rfl⟩, rfl⟩
    · rename_i fs hu
      split at h
      · exact absurd h (by simp)
      · rename_i a ha
        split at h
        · rename_i hc
          have : ks = a := by simpa using h.symm
          subst this
          obtain ⟨xs, n, rfl, _, hl, hlen, hf⟩ := DataW.trod_struct hu hx
          have := fields_fit (cs := cs) (n := n) (enc := enc) (w := w) (base := base) (spare := spare) (held := held) (fun t a cs x ht hx' => lay_fit d t a ht n cs x hx') fs.toList 0 ks ha (fun f hfm => ?_) (by rw [hl, hc]; omega)
          · simpa using this
          · obtain ⟨i, hi⟩ := List.mem_iff_getElem?.1 hfm
            have hi' : fs[i]? = some f := by simpa using hi
            have := hf i f hi'
            have hlt : i < fs.size := (Array.getElem?_eq_some_iff.1 hi').1
            rw [List.getElem?_eq_getElem (by omega)] at this
            exact ⟨_, this⟩
        · exact absurd h (by simp)
    · rename_i n e hu
      split at h
      · exact absurd h (by simp)
      · rename_i a ha
        split at h
        · rename_i hc
          have : ks = (List.replicate n a).flatten := by simpa using h.symm
          subst this
          obtain ⟨xs, m, rfl, _, hl, hlen, hi⟩ := DataW.trod_array hu hx
          refine array_fit n cs (by rw [hl, hc.2]) fun i hlt => ?_
          have := hi i hlt
          rw [List.getElem?_eq_getElem (by omega), hc.1] at this
          exact lay_fit d e a ha m _ _ this
        · exact absurd h (by simp)
    · exact absurd h (by simp)

/-- A struct, or an array, by value. -/
theorem open_flat {r : Reach} {b0 : Nat} {t : TypeId} {v : Value} {dd : DataW H} {p : List MemPlace} (d : Nat) {ks : List (Option IntKind)} (hl : layOf P d t = some ks)
    (hs : (∃ fs, P.underlying t = some (.struct fs)) ∨ ∃ n e, P.underlying t = some (.array n e))
    (hv : Value.okWide P w r b0 t v) (h : DataW.Trod enc P w base spare held t v dd p) : ∃ cs : List Value, v = .agg cs.toArray ∧ FitL ks cs := by
  obtain ⟨fuel, hf⟩ := h
  have hk := lay_fit d t ks hl fuel _ _ hf
  rcases hs with ⟨fs, hu⟩ | ⟨n, e, hu⟩
  · obtain ⟨cs, rfl, _⟩ := okWide_struct hu hv
    exact ⟨cs.toList, by simp, by simpa [Value.cells] using hk⟩
  · simp only [Value.okWide, hu] at hv
    obtain ⟨cs, rfl, _⟩ := hv
    exact ⟨cs.toList, by simp, by simpa [Value.cells] using hk⟩
end

/- A trial of it: this program's parts. -/
end Go.Proofs.Ytmfipabbdhfmcaa
