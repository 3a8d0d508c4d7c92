/- Contracts of layer arena: Copy. No statement is proved here. -/
import Derived.Test.YtdidnipmbedbjaaArG
import Derived.Test.YtdidnipmbedbjaaTagP
namespace Go.Proofs.Ytdidnipmbedbjaa
open Go.RowKit
set_option linter.unusedVariables false

set_option maxRecDepth 100000 in
theorem aclone (bb c n : Nat) (l : List UInt8) (w : World) (h0 : 0 < n) (hn : n ≤ 262144) (o : w.ownsRow 0 5 1 (.slice (some ⟨bb, 0, none⟩) n c) n (l.map vb)) :
    Calls Try.prog 47 #[.slice (some ⟨bb, 0, none⟩) n c] w fun e w' => ∃ q c', e = .returned (.slice (some ⟨q, 0, none⟩) n c') ∧ w'.ownsRow 0 5 1 (.slice (some ⟨q, 0, none⟩) n c') n (l.map vb) ∧ Below w.heap.size w w' ∧ w.heap.size ≤ q := by
  obtain ⟨i0, hi, hz0, hz1, hz2⟩ := info_parts info8
  have hO := Lib.hid o
  have h0' := Lib.hid (And.intro h0 hn)
  clear o h0 hn
  have he : ∀ w : World, (binOp .eql 28 (.slice (some ⟨bb, 0, none⟩) n c) (.slice none 0 0)).run Try.prog w = .ok (.bool false) w := fun _ => rfl
  go_enter Try.func47, Try.ntmps47
  have hlen : l.length = n := by simpa using hO.out.1
  have hcap : n ≤ c := by
    rcases hO.out.2 with ⟨e, _⟩ | ⟨g', cap, cur, e, h1, h2, h3, _⟩
    · cases e
    · cases e; exact h3
  have hlb := (hO.out.lt bb rfl).2
  replace hlen := Lib.hid hlen
  replace hcap := Lib.hid hcap
  replace hlb := Lib.hid hlb
  go_wp2_with (at_builtin; refine wpList_append_own _ rfl _ _ 28 rfl w.heap.size 5 i0 (.int .u8 0) 1 1 Try.underlying28 hi hz0 hz1 hz2 rfl (by decide) _ _ _ rfl (World.ownsRow_made (base := w.heap.size) w #[] 0 (Nat.le_refl _) (by unfold maxLen; omega) rfl) ⟨bb, 0, none⟩ n c (l.map vb) rfl ?c0 ?c1 ?c2 ?c3 ?c4 ?c5 ?_)
  case c0 => rw [List.length_map, hlen.out]; omega
  case c1 =>
    intro j u hu
    have h1 := hO.out.cells (g := bb) rfl j u hu
    rw [Addr.add_lit] at h1 ⊢
    exact (World.cell?_alloc_lt _ _ _ (by exact hlb.out)).trans h1
  case c2 =>
    intro u hu
    obtain ⟨x, _, rfl⟩ := List.mem_map.1 hu
    rfl
  case c3 => have := h0'.out.2; unfold maxLen; omega
  case c4 => have := h0'.out.2; omega
  case c5 => simp
  · intro v' w1 hown' hgrow _
    have hb := (((Below.refl w.heap.size w).alloc (Nat.le_refl _) (.cells #[] 5))).trans ((Below.refl w.heap.size (w.alloc (.cells #[] 5))).grown hgrow (by simp) (fun k hk => by simp [Value.ownBlock] at hk; omega))
    have hE : ∃ q c', v' = .slice (some ⟨q, 0, none⟩) n c' ∧ w1.ownsRow 0 5 1 (.slice (some ⟨q, 0, none⟩) n c') n (l.map vb) ∧ Below w.heap.size w w1 ∧ w.heap.size ≤ q := by
      rcases hown'.2 with ⟨_, e⟩ | ⟨q, cap, cur, e, h1, h2, h3⟩
      · have := h0'.out.1; omega
      · exact ⟨q, cap, e, ⟨hown'.1, .inr ⟨q, cap, cur, rfl, Nat.zero_le _, h2, h3⟩⟩, hb, h1⟩
    obtain ⟨q, c', rfl, hE⟩ := hE
    replace hE := Lib.hid hE
    clear hown' hgrow hb
    go_wp2
    go_ret
    exact ⟨q, c', rfl, hE.out⟩
section
variable {a mb wb bb c n g : Nat} {f : Nat → Bool} {l : List UInt8} {w : World}
set_option maxRecDepth 100000 in
set_option maxHeartbeats 2000000 in
theorem acopy_any (H : ArAt w a mb wb bb c n g f l) : Calls Try.prog 20 #[.pointer (some ⟨a, 0, none⟩)] w fun e w' => ∃ a', e = .returned (.pointer (some ⟨a', 0, none⟩)) ∧ Made w g f l a' w' := by
  have hO := Lib.hid (aown H)
  have hH := Lib.hid H
  have hMC := fun (w' : World) (h : ArAt w' a mb wb bb c n g f l) => copy_any mb wb g f w' h.m
  have hCl := fun (w' : World) (h : ArAt w' a mb wb bb c n g f l) => aclone bb c n l w' (by have := h.l0; omega) h.ln h.own
  replace hMC := Lib.hid hMC
  replace hCl := Lib.hid hCl
  clear H
  go_enter Try.func20, Try.ntmps20
  go_wp2_with fail
  refine hO.out.mono ?_
  rintro e w2 ⟨rfl, hb⟩
  have K1 := Lib.hid ((RS.nil w2).push [.pointer (some ⟨mb, 0, none⟩), .slice (some ⟨bb, 0, none⟩) n c] 81)
  have B1 := Lib.hid (hb.alloc hb.size (.cells #[.pointer (some ⟨mb, 0, none⟩), .slice (some ⟨bb, 0, none⟩) n c] 81))
  clear hb
  have tr : ∀ w', (w'.cell? ⟨w2.heap.size, 0, none⟩ = some (.pointer (some ⟨mb, 0, none⟩)) ∧ w'.cell? ⟨w2.heap.size, 1, none⟩ = some (.slice (some ⟨bb, 0, none⟩) n c) ∧ RS [⟨w2.heap.size, [.pointer (some ⟨mb, 0, none⟩), .slice (some ⟨bb, 0, none⟩) n c]⟩] w') → RS [⟨w2.heap.size, [.pointer (some ⟨mb, 0, none⟩), .slice (some ⟨bb, 0, none⟩) n c]⟩] w' := fun w' h => h.2.2
  have all : ∀ w', RS [⟨w2.heap.size, [.pointer (some ⟨mb, 0, none⟩), .slice (some ⟨bb, 0, none⟩) n c]⟩] w' → w'.cell? ⟨w2.heap.size, 0, none⟩ = some (.pointer (some ⟨mb, 0, none⟩)) ∧ w'.cell? ⟨w2.heap.size, 1, none⟩ = some (.slice (some ⟨bb, 0, none⟩) n c) ∧ RS [⟨w2.heap.size, [.pointer (some ⟨mb, 0, none⟩), .slice (some ⟨bb, 0, none⟩) n c]⟩] w' := fun w' h => ⟨h.cell (g := w2.heap.size) [.pointer (some ⟨mb, 0, none⟩), .slice (some ⟨bb, 0, none⟩) n c] (by simp) rfl, h.cell (g := w2.heap.size) [.pointer (some ⟨mb, 0, none⟩), .slice (some ⟨bb, 0, none⟩) n c] (by simp) rfl, h⟩
  replace tr := Lib.hid tr
  replace all := Lib.hid all
  go_wp2_with fail
  generalize (w2.alloc (.cells #[.pointer (some ⟨mb, 0, none⟩), .slice (some ⟨bb, 0, none⟩) n c] 81)) = w3 at *
  have j0 := all.out _ K1.out.drew
  have A0 := Lib.hid ((hH.out.below B1.out).drew)
  have B0 := Lib.hid B1.out.drew
  have s0 := Lib.hid (show w3.drew.heap.size = w3.heap.size from rfl)
  go_region_held (fun w' => w'.cell? ⟨w2.heap.size, 0, none⟩ = some (.pointer (some ⟨mb, 0, none⟩)) ∧ w'.cell? ⟨w2.heap.size, 1, none⟩ = some (.slice (some ⟨bb, 0, none⟩) n c) ∧ RS [⟨w2.heap.size, [.pointer (some ⟨mb, 0, none⟩), .slice (some ⟨bb, 0, none⟩) n c]⟩] w')
    (first | with_reducible exact j0 | with_reducible exact j1 | with_reducible exact j2 | with_reducible exact j3)
    (first
      | (go_at_call 46; ((with_reducible refine (hMC.out _ A0.out).mono ?_); rintro ee X ⟨rfl, m1, g1, z1⟩; have j1 := all.out _ ((tr.out _ j0).below g1); have A1 := Lib.hid (A0.out.below g1); have B2 := Lib.hid (B0.out.trans (g1.mono (by exact B0.out.size))); have M1 := Lib.hid (And.intro m1 (And.intro z1 g1)); clear m1 g1 z1))
      | (go_at_call 47; ((with_reducible refine (hCl.out _ A1.out).mono ?_); rintro ee Y ⟨q, c', rfl, o1, g1, hq⟩; have j2 := all.out _ ((tr.out _ j1).below g1); have j3 := all.out _ ((tr.out _ j2).below ((Below.refl _ Y).alloc (Nat.le_refl _) (.cells #[.pointer (some ⟨w3.heap.size + 1, 0, none⟩), .slice (some ⟨q, 0, none⟩) n c'] 83))); have O1 := Lib.hid (And.intro o1 (And.intro hq g1)); clear o1 g1 hq)))
  have hE : Made w g f l Y.heap.size (Y.alloc (.cells #[.pointer (some ⟨w3.heap.size + 1, 0, none⟩), .slice (some ⟨q, 0, none⟩) n c'] 83)) := by
    have z1 : w3.heap.size + 2 = X.heap.size := M1.out.2.1
    have z2 := O1.out.2.1
    have z3 := B1.out.size
    have hY : Below w.heap.size w Y := (B1.out.trans ((below_undrew M1.out.2.2).mono z3)).trans (O1.out.2.2.mono (by omega))
    refine ⟨w3.heap.size + 1, w3.heap.size, q, c', ?_, hY.alloc hY.size _, hY.size, by omega, z3, by omega⟩
    rw [← hH.out.hn]
    exact ArAt.made (mb := w3.heap.size + 1) (wb := w3.heap.size) (bb := q) (M1.out.1.below O1.out.2.2 (Nat.lt_of_lt_of_eq (Nat.lt_succ_self _) M1.out.2.1) (Nat.lt_of_lt_of_eq (Nat.lt_add_of_pos_right (by decide)) M1.out.2.1)) O1.out.1 hH.out.hn hH.out.lo hH.out.hi (by omega) (by omega) _
  replace hE := Lib.hid hE
  clear j0 j1 j2 j3 M1 O1
  go_wp2
  go_ret
  exact ⟨_, rfl, hE.out⟩
end
end Go.Proofs.Ytdidnipmbedbjaa
