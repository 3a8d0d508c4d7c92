/- Untag at an arena that is none. No statement is proved here. -/
import Derived.Test.YtpopfmboonjplaaArNC
namespace Go.Proofs.Ytpopfmboonjplaa
open Go.RowKit Go.Shelf
set_option linter.unusedVariables false
attribute [local go_sem] Oper.semAt_some

theorem off_self {B : Nat} {w w' : World} (h : Off B B w w') : Below B w w' := ⟨h.os, h.tape, h.output, h.size, fun k hk => h.block k hk (by omega)⟩
structure CntN (g : Nat) (W : World) : Prop where
  c : W.cell? ⟨g, 0, none⟩ = some (.int .i64 0)
theorem CntN.kept {g : Nat} {W W' : World} {row : Option Nat} (h : CntN g W) (hg : W.grownBy W' row) (hr : ∀ r, row = some r → ∃ o : Obj, W.heap[r]? = some o ∧ o.isCells = false) : CntN g W' := ⟨cell_kept h.c hg hr⟩
set_option maxRecDepth 100000 in
set_option maxHeartbeats 2000000 in
theorem clear_nil (w : World) : Calls Try.prog 58 #[.pointer none, .int .i64 0, .int .i64 1] w fun e W' => e = .returned (.int .i64 0) ∧ Below w.heap.size w W' := by
  refine (callsIn_wide (n := 5)).1 ?_
  obtain ⟨w1, hw1⟩ : ∃ w1, w1 = w.alloc (.cells #[.int .i64 0] 3) := ⟨_, rfl⟩
  have hs1 : w1.heap.size = w.heap.size + 1 := by rw [hw1]; simp
  have hb1 : Below w.heap.size w w1 := by rw [hw1]; exact (Below.refl _ w).alloc (Nat.le_refl _) _
  have q1 : w1.cell? ⟨w.heap.size, 0, none⟩ = some (.int .i64 0) ∧ w1.frozen? ⟨w.heap.size, 0, none⟩ = false := by rw [hw1]; exact new_cell rfl _ rfl
  have hP := Lib.hid (parts_nil w1)
  have G := Lib.hid (And.intro hs1 (And.intro hb1 q1))
  have hw1' := Lib.hid hw1
  clear hs1 hb1 q1 hw1
  refine callsIn_of_wp_marks Try.func58 rfl trivial ?_ rfl
  simp only [Try.ntmps58, List.size_toArray, List.length_cons, List.length_nil, Nat.reduceAdd, Nat.reduceSub, Array.replicate_succ, Array.replicate_zero, List.push_toArray, List.append_toArray, List.nil_append, List.cons_append]
  gi_wp2_with fail
  rw [← hw1'.out]
  refine ⟨trivial, (callsIn_wide.2 hP.out).mono ?_⟩
  rintro e w2 ⟨rfl, hb2, hs2, k1, k2⟩
  obtain ⟨hs1, hb1, q1, q2⟩ := G.out
  have c1 : w2.cell? ⟨w.heap.size, 0, none⟩ = some (.int .i64 0) := (hb2.cell (p := ⟨w.heap.size, 0, none⟩) (by show w.heap.size < _; omega)).trans q1
  have hB2 : Off w.heap.size w.heap.size w w2 := Off.of_below (hb1.trans (hb2.mono (by omega)))
  have st := Lib.hid (nil_stops 4 w1.heap.size w2 k1 k2 (by omega))
  have G2 := Lib.hid (And.intro c1 (And.intro hB2 (And.intro hs2 hs1)))
  clear hb1 q1 q2 c1 hB2 k1 k2 hb2 hs2 hP G hs1
  gi_wp2_with fail
  refine wpIn_rangeFunc_ownG rfl (by decide) (gf := 90) (lb := #[.pointer (some ⟨w1.heap.size + 1, 0, none⟩), .pointer (some ⟨w1.heap.size + 1 + 1, 0, none⟩), .pointer (some ⟨w1.heap.size, 0, none⟩)]) rfl trivial (enters_of Try.func90 (by kernel_rfl) rfl)
    st.out KpW.trans (KpW.put (by have := G2.out.2.2; omega) (by have := G2.out.2.2; omega)) (Below.refl _ _) (fun _ => rfl)
    (fun pre W => CntN w.heap.size W ∧ Off w.heap.size w.heap.size w W)
    (fun _ _ _ => False)
    (OwnFrom.and (Own.from (fun s A B row hs hg hr => hs.kept hg hr) _) (ownFrom_off (Nat.le_refl _) (by have := G2.out.2.2; omega)))
    (fun _ _ _ _ _ hs _ _ => hs)
    ⟨⟨G2.out.1⟩, G2.out.2.1⟩
    (fun x => { tmps := #[.pointer none, .int .i64 0, .int .i64 1, undef, undef, undef, .int .i64 0, .pointer (some ⟨w.heap.size, 0, none⟩), .pointer none, .int .u64 0, .pointer none, .int .i64 0, .int .i64 1, .func (.func 90) #[] #[.pointer (some ⟨w1.heap.size + 1, 0, none⟩), .pointer (some ⟨w1.heap.size + 1 + 1, 0, none⟩), .pointer (some ⟨w1.heap.size, 0, none⟩)], .pointer none, .int .u64 0, undef, undef, undef, undef, undef, undef, undef, undef, undef, undef, undef, undef, undef, undef, undef], defers := [] }) ?assign ?body ?done ?stop
  case assign => exact fun l x W K hK => x.elim0
  case body => exact fun l pre x W _ _ => x.elim0
  case done =>
    rintro D ys W hD hS ⟨hc, hB⟩ hK
    have q1 := hc.c
    have hB' := Lib.hid hB
    clear hS hc hB
    gi_wp2
    refine ⟨by simp, .inl ⟨_, _, rfl, run_takeDeferred hK, ?_⟩⟩
    exact ⟨_, results_tmp rfl _ _ _, rfl, off_self (hB'.out.trans (Off.of_below (belowK_b (w := w) (Nat.le_refl _) W D _ _ (by have := G2.out.2.2; omega) hK rfl rfl)))⟩
  case stop =>
    rintro D c pre W _ _ h _
    exact h.elim
section
variable {P : Value} {w : World}
theorem nuntag (H : Emp P w) : Calls Try.prog 24 #[P, .int .u32 0] w fun e w' => e = .returned (.bool false) ∧ Below w.heap.size w w' := by
  have hO := Lib.hid (own_emp H)
  have hG := Lib.hid (show Calls Try.prog 47 #[.int .u32 0] w fun e w' => e = .returned (.int .i64 0) ∧ w = w' from granule_any 0 w (by decide))
  have hf := nfield0
  clear H
  go_enter Try.func24, Try.ntmps24
  go_wp2_with fail
  refine hG.out.mono ?_
  rintro e w' ⟨rfl, rfl⟩
  go_wp2_with fail
  refine hO.out.mono ?_
  rintro e w2 ⟨rfl, hb⟩
  have hB := Lib.hid hb
  clear hb
  go_wp2_with fail
  refine (clear_nil _).mono ?_
  rintro e w3 ⟨rfl, hb⟩
  have hE := Lib.hid (hB.out.trans (hb.mono hB.out.size))
  clear hb
  go_wp2
  go_ret
  exact ⟨rfl, hE.out⟩
end
end Go.Proofs.Ytpopfmboonjplaa
