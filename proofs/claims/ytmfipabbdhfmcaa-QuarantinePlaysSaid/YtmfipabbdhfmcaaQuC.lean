/- Contracts of layer quarantine: slices.Clone. No statement is proved here. -/
import Derived.Test.YtmfipabbdhfmcaaQuS
namespace Go.Proofs.Ytmfipabbdhfmcaa.Qu
set_option maxRecDepth 100000
open Go.RowKit Go.Shelf
set_option linter.unusedVariables false
section
variable {w w' W : World} {base q c d : Nat} {L M : List Rg} {v lv : Value} {r : Rg} {A : Option Addr} {cap : Nat}
/-- A row of its own has been handed back. -/
def RowPost (L : List Rg) (w : World) (e : Ending) (w' : World) : Prop :=
  ∃ v, e = .returned v ∧ w'.ownsRow w.heap.size 33 2 v L.length (L.flatMap rgC) ∧ Below w.heap.size w w' ∧ (L = [] → v = .slice none 0 0)
theorem clone_any (hown : w.ownsRow base 33 2 v L.length (L.flatMap rgC)) (hn : L = [] → v = .slice none 0 0) (hl : L.length ≤ 20000) :
    Calls Try.prog 42 #[v] w (RowPost L w) := by
  by_cases h0 : L = []
  · have := hn h0
    subst this
    subst h0
    have he : ∀ w : World, (binOp .eql 65 (.slice none 0 0) (.slice none 0 0)).run Try.prog w = .ok (.bool true) w := fun _ => rfl
    go_enter Try.func42, Try.ntmps42
    go_wp2_with fail
    go_ret
    exact ⟨_, rfl, World.ownsRow_nil _ _ _ _, Below.refl _ _, fun _ => rfl⟩
  · have hpos : 0 < L.length := List.length_pos_iff.2 h0
    obtain ⟨g, cap, rfl, hb, hg⟩ := hown.form hpos
    obtain ⟨i0, hi, hz0, hz1, hz2⟩ := info_parts infoRg
    have hO := Lib.hid hown
    have he : ∀ w : World, (binOp .eql 65 (.slice (some ⟨g, 0, none⟩) L.length cap) (.slice none 0 0)).run Try.prog w = .ok (.bool false) w := fun _ => rfl
    have hcap : L.length ≤ cap := by
      rcases hown.2 with ⟨e, _⟩ | ⟨g', cap', cur, e, h1, h2, h3, _⟩
      · cases e
      · cases e; exact h3
    obtain ⟨F, hF⟩ : ∃ F, F = RowPost L w := ⟨_, rfl⟩
    rw [← hF]
    have hF' := Lib.hid hF
    have hg' := Lib.hid hg
    have hcap' := Lib.hid hcap
    have h0' := Lib.hid (And.intro h0 (And.intro hl hpos))
    clear hown hcap hb hg hF h0 hl hpos
    go_enter Try.func42, Try.ntmps42
    go_wp2_with (at_builtin; refine wpList_append_own _ rfl _ _ 65 rfl w.heap.size 33 i0 (.agg #[.int .u32 0, .int .u32 0]) 2 8 Try.underlying65 hi hz0 hz1 hz2 rfl (by decide) _ _ _ rfl (World.ownsRow_made (base := w.heap.size) w #[] 0 (Nat.le_refl _) (by unfold maxLen; omega) rfl) ⟨g, 0, none⟩ L.length cap (L.flatMap rgC) rfl ?c0 ?c1 ?c2 ?c3 ?c4 ?c5 ?_)
    case c0 => rw [rgC_len]
    case c1 =>
      intro j u hu
      have h1 := hO.out.cells (g := g) rfl j u hu
      rw [Addr.add_lit] at h1 ⊢
      exact (World.cell?_alloc_lt _ _ _ (by exact hg'.out)).trans h1
    case c2 => exact fun u hu => rgC_one L u hu
    case c3 => have := h0'.out.2.1; unfold maxLen; omega
    case c4 => have := h0'.out.2.1; omega
    case c5 => simp
    · intro v' w1 hown' hgrow _
      have hb := (((Below.refl w.heap.size w).alloc (Nat.le_refl _) (.cells #[] 33))).trans ((Below.refl w.heap.size (w.alloc (.cells #[] 33))).grown hgrow (by simp) (fun k hk => by simp [Value.ownBlock] at hk; omega))
      have hE := Lib.hid (show RowPost L w (.returned v') w1 from ⟨v', rfl, by simpa using hown', hb, fun e => absurd e h0'.out.1⟩)
      clear hown' hgrow hb
      go_wp2_with fail
      show F (.returned v') w1
      rw [hF'.out]
      exact hE.out
end
end Go.Proofs.Ytmfipabbdhfmcaa.Qu
