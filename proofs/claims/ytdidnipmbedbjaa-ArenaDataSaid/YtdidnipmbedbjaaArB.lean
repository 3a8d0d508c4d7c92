/- Contracts of layer arena: lay, the one way in which bytes come in. No statement is proved here. -/
import Derived.Test.YtdidnipmbedbjaaArA
namespace Go.Proofs.Ytdidnipmbedbjaa
open Go.RowKit
set_option linter.unusedVariables false

theorem lay_none (P S : Value) (at_ k cp : Nat) (A : Option Addr) (w : World) (hP : P = .pointer none) : Calls Try.prog 48 #[.agg #[P, S], .int .u32 at_, .slice A k cp] w fun e w' => e = .returned (.bool false) ∧ Below w.heap.size w w' := by
  subst hP
  have hT := Lib.hid (fun w => there_none S at_ k w)
  have hb := Lib.hid ((Below.refl w.heap.size w).alloc (Nat.le_refl _) (.cells #[.pointer none, S] 81))
  have c0 : (w.alloc (.cells #[.pointer none, S] 81)).heap.size = w.heap.size + 1 := by simp
  go_enter Try.func48, Try.ntmps48
  go_wp2_with fail
  refine (hT.out _).mono ?_
  rintro e w2 ⟨rfl, hb2⟩
  have hb3 := Lib.hid (hb.out.trans (hb2.mono (by omega)))
  clear hb2 c0
  go_wp2
  go_ret
  exact ⟨rfl, hb3.out⟩
section
variable {a mb wb bb c n g : Nat} {f : Nat → Bool} {l : List UInt8} {w : World}
theorem lay_no (at_ k cp : Nat) (A : Option Addr) (B : Option Addr) (la : at_ < 4294967296) (ln : n ≤ 262144) (lk : k < 9223372036854775808) (h : thr n at_ k = false) :
    Calls Try.prog 48 #[.agg #[.pointer (some ⟨mb, 0, none⟩), .slice B n c], .int .u32 at_, .slice A k cp] w fun e w' => e = .returned (.bool false) ∧ Below w.heap.size w w' := by
  have hT := Lib.hid (fun w => there_any ⟨mb, 0, none⟩ B n c at_ k w ln la (by omega))
  rw [h] at hT
  have hb := Lib.hid ((Below.refl w.heap.size w).alloc (Nat.le_refl _) (.cells #[.pointer (some ⟨mb, 0, none⟩), .slice B n c] 81))
  have c0 : (w.alloc (.cells #[.pointer (some ⟨mb, 0, none⟩), .slice B n c] 81)).heap.size = w.heap.size + 1 := by simp
  clear h
  go_enter Try.func48, Try.ntmps48
  go_wp2_with fail
  refine (hT.out _).mono ?_
  rintro e w2 ⟨rfl, hb2⟩
  have hb3 := Lib.hid (hb.out.trans (hb2.mono (by omega)))
  clear hb2 c0
  go_wp2
  go_ret
  exact ⟨rfl, hb3.out⟩
set_option maxRecDepth 100000 in
theorem lay_yes (H : ArAt w a mb wb bb c n g f l) (b : List UInt8) (sb so cp at_ : Nat) (hs : ∀ j u, b[j]? = some u → w.cell? ⟨sb, so + j, none⟩ = some (vb u)) (h0 : 0 < b.length) (h : at_ + b.length ≤ n) :
    Calls Try.prog 48 #[.agg #[.pointer (some ⟨mb, 0, none⟩), .slice (some ⟨bb, 0, none⟩) n c], .int .u32 at_, .slice (some ⟨sb, so, none⟩) b.length cp] w (Nxt a mb wb bb c n g (clr f at_ b.length) (ovr l at_ b) w (.bool true)) := by
  have hn : n ≤ 262144 := by have := H.hn; have := H.hi; omega
  have hT := Lib.hid (fun w => there_any ⟨mb, 0, none⟩ (some ⟨bb, 0, none⟩) n c at_ b.length w hn (by omega) (by omega))
  have e1 : thr n at_ b.length = true := by simp [thr]; omega
  rw [e1] at hT
  obtain ⟨w1, hw1⟩ : ∃ w1, w1 = w.alloc (.cells #[.pointer (some ⟨mb, 0, none⟩), .slice (some ⟨bb, 0, none⟩) n c] 81) := ⟨_, rfl⟩
  have hb1 : Below w.heap.size w w1 := by rw [hw1]; exact (Below.refl _ w).alloc (Nat.le_refl _) _
  have s1 : w1.heap.size = w.heap.size + 1 := by rw [hw1]; simp
  have q0 : w1.cell? ⟨w.heap.size, 0, none⟩ = some (.pointer (some ⟨mb, 0, none⟩)) := by rw [hw1]; simp
  have q1 : w1.cell? ⟨w.heap.size, 1, none⟩ = some (.slice (some ⟨bb, 0, none⟩) n c) := by rw [hw1]; simp
  obtain ⟨k, hk⟩ : ∃ k, k = b.length := ⟨_, rfl⟩
  rw [← hk] at h0 h hT ⊢
  have hw := Lib.hid hw1
  have hk' := Lib.hid hk
  have G := Lib.hid (And.intro H (And.intro hb1 (And.intro s1 (And.intro q0 (And.intro q1 hs)))))
  have i1 : (at_ : Int) < c := by have := H.caps.1; omega
  have i2 : (at_ : Int) + k ≤ n := by omega
  clear hw1 hk e1 H hb1 s1 q0 q1 hs
  go_enter Try.func48, Try.ntmps48
  go_wp2_with fail
  rw [← hw.out]
  refine (hT.out _).mono ?_
  rintro e w2 ⟨rfl, hb2⟩
  obtain ⟨H, hb1, s1, q0, q1, hs⟩ := G.out
  have H2 : ArAt w2 a mb wb bb c n g f l := (H.below hb1).below hb2
  have p0 := (hb2.cell (p := ⟨w.heap.size, 0, none⟩) (by show w.heap.size < _; omega)).trans q0
  have p1 := (hb2.cell (p := ⟨w.heap.size, 1, none⟩) (by show w.heap.size < _; omega)).trans q1
  have hB2 : Below w.heap.size w w2 := hb1.trans (hb2.mono (by omega))
  have hs2 : ∀ j u, b[j]? = some u → w2.cell? ⟨sb, so + j, none⟩ = some (vb u) := fun j u hu => by
    have h1 := hs j u hu
    exact (hB2.cell (p := ⟨sb, so + j, none⟩) (World.block_lt_of_cell? w ⟨sb, so + j, none⟩ h1)).trans h1
  obtain ⟨cur, hc, hcs⟩ := H2.row
  have hlen : cur.toList.length = cur.size := by simp
  have G2 := Lib.hid (And.intro H2 (And.intro hB2 (And.intro hs2 (And.intro hc hcs))))
  have sz := Lib.hid (show w.heap.size + 1 ≤ w2.heap.size by have := hb2.size; omega)
  clear hs q0 q1 hb1 H hb2 hT hB2 hs2 hc hcs H2 s1
  obtain ⟨w3, hrun, hL, hO, hsz, hcell⟩ : ∃ w3, (Builtin.copy_ #[28, 28] 3 #[.slice (some ⟨bb, at_, none⟩) (n - at_) (c - at_), .slice (some ⟨sb, so, none⟩) k cp]).run Try.prog w2 = .ok (.int .i64 (k : Int)) w3 ∧
      ArAt w3 a mb wb bb c n g f (ovr l at_ b) ∧ Of2 w.heap.size wb bb w w3 ∧ w3.heap.size = w2.heap.size ∧ ∀ o, w3.cell? ⟨w.heap.size, o, none⟩ = w2.cell? ⟨w.heap.size, o, none⟩ := by
    have hlb : (b.map vb).length = k := by rw [List.length_map, hk'.out]
    have hrun := run_copy_row (P := Try.prog) w2 28 28 3 5 bb at_ (n - at_) (c - at_) ⟨sb, so, none⟩ k cp cur 5 (b.map vb) Try.underlying28 (by kernel_rfl) G2.out.2.2.2.1 (by rw [hlb]; exact (Nat.min_eq_left (by omega)).symm)
      (fun j v hv => by
        rw [List.getElem?_map] at hv
        rw [Addr.add_lit]
        obtain ⟨u, hu, rfl⟩ := Option.map_eq_some_iff.1 hv
        exact G2.out.2.2.1 j u hu) (by have := G2.out.2.2.2.2; omega) (fun v hv => by
        obtain ⟨u, _, rfl⟩ := List.mem_map.1 hv
        rfl)
    refine ⟨_, hrun.trans (by rw [hlb, List.append_assoc]; rfl), G2.out.1.lay (k := at_) (b := b) (by rw [← hk'.out]; omega) G2.out.2.2.2.1, (Of2.of_below (x := wb) (y := bb) G2.out.2.1).setRow (g := bb) (.inr (.inr rfl)) _, by simp [World.setRow], fun o => World.cell?_of_block (Go.setRow_other w2 bb w.heap.size _ (by have := G.out.1.lb; omega))⟩
  have r0 := (hcell 0).trans p0
  have r1 := (hcell 1).trans p1
  have hL' := Lib.hid hL
  have hO' := Lib.hid hO
  have hsz' := Lib.hid hsz
  have hb' := Lib.hid hw
  clear hL hO hsz hcell
  have hgr := Lib.hid (fun (v : Int) w (h : 0 ≤ v ∧ v < 4294967296) => granule_int v w h.1 h.2)
  have j1 : (k : Int) ≤ 262144 := by omega
  have j2 : (at_ : Int) < 262144 := by omega
  have j3 : 0 < (k : Int) := by omega
  go_wp2_with fail
  have t1 : IntKind.u32.wrap (k : Int) = k := by rw [IntKind.wrap_u32]; omega
  have t2 : IntKind.u32.wrap ((at_ : Int) + k) = at_ + k := by rw [IntKind.wrap_u32]; omega
  have t3 : IntKind.u32.wrap ((at_ : Int) + k - 1) = at_ + k - 1 := by rw [IntKind.wrap_u32]; omega
  have t4 : IntKind.i64.wrap (((at_ : Int) + k - 1) / 16 + 1) = ((at_ : Int) + k - 1) / 16 + 1 := by rw [IntKind.wrap_i64]; omega
  go_still_tail 11, (by kernel_rfl)
  repeat still_step
  still_call ((hgr.out (at_ : Int) _ (by omega)).mono fun e w' h => ⟨h.1, h.2.symm⟩)
  repeat still_step
  still_call ((hgr.out ((at_ : Int) + k - 1) _ (by omega)).mono fun e w' h => ⟨h.1, h.2.symm⟩)
  repeat still_step
  refine wpStill_nil ?_
  change wpList _ _ _ _ _ w3.drew
  have hL2 := Lib.hid hL'.out.drew
  have hO2 := Lib.hid hO'.out.drew
  have hsz2 := Lib.hid (show w3.drew.heap.size = w2.heap.size from hsz'.out)
  generalize w3.drew = w4 at hL2 hO2 hsz2 ⊢
  have hC := Lib.hid (clear_any mb wb g (at_ / 16) ((at_ + k - 1) / 16 + 1) f ((at_ : Int) / 16) (((at_ : Int) + k - 1) / 16 + 1) w4 hL2.out.m (by omega) (by omega) (by omega) (by have := hL2.out.hn; omega))
  clear r0 r1 p0 p1
  go_wp2_with fail
  refine hC.out.mono ?_
  rintro e w5 ⟨rfl, hm, ho⟩
  have hE := Lib.hid (And.intro (hL2.out.map hm ho) (hO2.out.trans (Of2.of_off (ho.mono (by have := hsz2.out; have := sz.out; omega)))))
  clear hm ho hC
  go_wp2
  go_ret
  refine ⟨rfl, hE.out.1.ext (fun j => ?_) rfl, hE.out.2⟩
  simp only [clr, tch, inr]
  congr 2
  rw [Bool.eq_iff_iff]
  simp
  omega
set_option maxRecDepth 100000 in
theorem lay_zero (A : Option Addr) (cp at_ : Nat) (hc : n ≤ c) (ln : n ≤ 262144) (h : at_ ≤ n) (w : World) :
    Calls Try.prog 48 #[.agg #[.pointer (some ⟨mb, 0, none⟩), .slice (some ⟨bb, 0, none⟩) n c], .int .u32 at_, .slice A 0 cp] w fun e w' => e = .returned (.bool true) ∧ Below w.heap.size w w' := by
  have hT := Lib.hid (fun w => there_any ⟨mb, 0, none⟩ (some ⟨bb, 0, none⟩) n c at_ 0 w ln (by omega) (by omega))
  have e1 : thr n at_ 0 = true := by simp [thr]; omega
  rw [e1] at hT
  obtain ⟨w1, hw1⟩ : ∃ w1, w1 = w.alloc (.cells #[.pointer (some ⟨mb, 0, none⟩), .slice (some ⟨bb, 0, none⟩) n c] 81) := ⟨_, rfl⟩
  have hb1 : Below w.heap.size w w1 := by rw [hw1]; exact (Below.refl _ w).alloc (Nat.le_refl _) _
  have s1 : w1.heap.size = w.heap.size + 1 := by rw [hw1]; simp
  have q0 : w1.cell? ⟨w.heap.size, 0, none⟩ = some (.pointer (some ⟨mb, 0, none⟩)) := by rw [hw1]; simp
  have q1 : w1.cell? ⟨w.heap.size, 1, none⟩ = some (.slice (some ⟨bb, 0, none⟩) n c) := by rw [hw1]; simp
  have hw := Lib.hid hw1
  have G := Lib.hid (And.intro hb1 (And.intro s1 (And.intro q0 q1)))
  have i2 : (at_ : Int) ≤ n := by omega
  have hcp := fun off d1 d2 w => run_copy_none (P := Try.prog) w 28 28 3 5 (some ⟨bb, off, none⟩) A d1 d2 0 cp Try.underlying28 (by kernel_rfl) (Nat.zero_min _)
  clear hw1 e1 hb1 s1 q0 q1
  by_cases he : at_ = c
  all_goals
    first
      | (obtain rfl : n = at_ := by omega
         subst he)
      | (have i1 : (at_ : Int) < c := by omega)
    go_enter Try.func48, Try.ntmps48
    go_wp2_with fail
    rw [← hw.out]
    refine (hT.out _).mono ?_
    rintro e w2 ⟨rfl, hb2⟩
    obtain ⟨hb1, s1, q0, q1⟩ := G.out
    have p0 := (hb2.cell (p := ⟨w.heap.size, 0, none⟩) (by show w.heap.size < _; omega)).trans q0
    have p1 := (hb2.cell (p := ⟨w.heap.size, 1, none⟩) (by show w.heap.size < _; omega)).trans q1
    have hB2 := Lib.hid (hb1.trans (hb2.mono (by omega)))
    clear hb1 s1 q0 q1 hb2
    go_wp2
    go_ret
    exact ⟨rfl, hB2.out⟩
end
end Go.Proofs.Ytdidnipmbedbjaa
