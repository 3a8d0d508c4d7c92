/- Contracts of layer tags: Clear. No statement is proved here. -/
import Derived.Test.YtbabblnpjophdaaTagD
namespace Go.Proofs.Ytbabblnpjophdaa
open Go.RowKit Go.Shelf
set_option linter.unusedVariables false
attribute [local go_sem] Oper.semAt_some

/-- What Clear hands back, and leaves. -/
def Cleared (b wb n lo hi : Nat) (f : Nat → Bool) (w : World) (e : Ending) (W' : World) : Prop :=
  e = .returned (.int .i64 (cnt (fun k => f k && inr lo hi k) n : Nat)) ∧ MapAt W' b wb n (fun k => f k && !inr lo hi k) ∧ Off w.heap.size wb w W'

set_option maxRecDepth 100000 in
set_option maxHeartbeats 2000000 in
theorem clear_any (b wb n lo hi : Nat) (f : Nat → Bool) (fr to_ : Int) (w : World) (H : MapAt w b wb n f) (h1 : -9223372036854775808 ≤ fr) (h2 : to_ ≤ 9223372036854775807) (hlo : max fr 0 = (lo : Int)) (hhi : (min to_ n).toNat = hi) :
    Calls Try.prog 23 #[.pointer (some ⟨b, 0, none⟩), .int .i64 fr, .int .i64 to_] w (Cleared b wb n lo hi f w) := by
  refine (callsIn_wide (n := 5)).1 ?_
  have hlb := H.lb
  have hlw := H.lw
  have hne := H.ne
  have hle := H.le
  obtain ⟨w1, hw1⟩ : ∃ w1, w1 = w.alloc (.cells #[.int .i64 0] 3) := ⟨_, rfl⟩
  have H1 : MapAt w1 b wb n f := by rw [hw1]; exact H.alloc _
  have hs1 : w1.heap.size = w.heap.size + 1 := by rw [hw1]; simp
  have hb1 : Below w.heap.size w w1 := by rw [hw1]; exact (Below.refl _ w).alloc (Nat.le_refl _) _
  have q1 : w1.cell? ⟨w.heap.size, 0, none⟩ = some (.int .i64 0) ∧ w1.frozen? ⟨w.heap.size, 0, none⟩ = false := by rw [hw1]; exact new_cell rfl _ rfl
  have hP := Lib.hid (parts_any b wb n f fr to_ w1 H1 h1 h2)
  have G := Lib.hid (And.intro H1 (And.intro hs1 (And.intro hb1 q1)))
  have hw1' := Lib.hid hw1
  have hlo' := Lib.hid hlo
  have hhi' := Lib.hid hhi
  clear H H1 hs1 hb1 q1 hw1 h1 h2 hlo hhi
  refine callsIn_of_wp_marks Try.func23 rfl trivial ?_ rfl
  simp only [Try.ntmps23, List.size_toArray, List.length_cons, List.length_nil, Nat.reduceAdd, Nat.reduceSub, Array.replicate_succ, Array.replicate_zero, List.push_toArray, List.append_toArray, List.nil_append, List.cons_append]
  gi_wp2_with fail
  rw [← hw1'.out]
  refine ⟨trivial, (callsIn_wide.2 hP.out).mono ?_⟩
  rintro e w2 ⟨rfl, hb2, hs2, k0, k1, k2⟩
  obtain ⟨H1, hs1, hb1, q1, q2⟩ := G.out
  have H2 : MapAt w2 b wb n f := H1.below hb2 (by omega) (by omega)
  have hps : PartsAt w2 b wb n w1.heap.size lo (min to_ n) := ⟨H2.h0, k0, by rw [k1, hlo'.out], k2⟩
  have c1 : w2.cell? ⟨w.heap.size, 0, none⟩ = some (.int .i64 0) := (hb2.cell (p := ⟨w.heap.size, 0, none⟩) (by show w.heap.size < _; omega)).trans q1
  have c2 : w2.frozen? ⟨w.heap.size, 0, none⟩ = false := (hb2.frozen (p := ⟨w.heap.size, 0, none⟩) (by show w.heap.size < _; omega)).trans q2
  have hB2 : Off w.heap.size wb w w2 := Off.of_below (hb1.trans (hb2.mono (by omega)))
  have st := Lib.hid (words_stops 4 (by omega) b wb n w1.heap.size lo (min to_ n) lo hi rfl hhi'.out (by omega) hle w2 hps (by omega) (by omega))
  have G2 := Lib.hid (And.intro H2 (And.intro c1 (And.intro c2 (And.intro hB2 (And.intro hs2 hs1)))))
  clear H1 hb1 q1 q2 H2 hps c1 c2 hB2 k0 k1 k2 hb2 hs2 hP G hs1
  gi_wp2_with fail
  refine wpIn_rangeFunc_ownG rfl (by decide) (gf := 36) (lb := #[.pointer (some ⟨w1.heap.size + 1, 0, none⟩), .pointer (some ⟨w1.heap.size + 1 + 1, 0, none⟩), .pointer (some ⟨w1.heap.size, 0, none⟩)]) rfl trivial (enters_of Try.func36 (by kernel_rfl) rfl)
    st.out KpW.trans (KpW.put (by have := G2.out.2.2.2.2; omega) (by have := G2.out.2.2.2.2; omega)) (Below.refl _ _) (fun _ => rfl)
    (fun pre W => CountI w b wb n (cfold lo hi f (pre.map fun x => x.val)).1 W (cfold lo hi f (pre.map fun x => x.val)).2 ∧ Off w.heap.size wb w W)
    (fun _ _ _ => False)
    (OwnFrom.and (Own.from (fun s A B row hs hg hr => hs.kept hg hr) _) (ownFrom_off (Nat.le_refl _) (by have := G2.out.2.2.2.2; omega)))
    (fun _ _ _ _ _ hs _ _ => hs)
    ⟨⟨G2.out.2.1, G2.out.2.2.1, G2.out.1⟩, G2.out.2.2.2.1⟩
    (fun x => { tmps := #[.pointer (some ⟨b, 0, none⟩), .int .i64 fr, .int .i64 to_, undef, undef, undef, .int .i64 0, .pointer (some ⟨w.heap.size, 0, none⟩), .pointer (some ⟨wb, x.val, none⟩), .int .u64 (wdo (inr lo hi) x.val : Nat), .pointer (some ⟨b, 0, none⟩), .int .i64 fr, .int .i64 to_, .func (.func 36) #[] #[.pointer (some ⟨w1.heap.size + 1, 0, none⟩), .pointer (some ⟨w1.heap.size + 1 + 1, 0, none⟩), .pointer (some ⟨w1.heap.size, 0, none⟩)], .pointer (some ⟨wb, x.val, none⟩), .int .u64 (wdo (inr lo hi) x.val : Nat), undef, undef, undef, undef, undef, undef, undef, undef, undef, undef, undef, undef, undef, undef, undef], defers := [] }) ?assign ?body ?done ?stop
  case assign =>
    intro l x W K hK
    dsimp only [tgEnc]
    gi_wp2
    exact hK
  case body =>
    rintro l pre x W ⟨hc, hB⟩ hlen
    obtain ⟨P, hP⟩ : ∃ P, P = cfold lo hi f (pre.map fun x => x.val) := ⟨_, rfl⟩
    have hsum := cfold_le lo hi f (pre.map fun x => x.val)
    rw [← hP] at hc hsum
    have q1 := hc.c
    have q2 := hc.fr
    have q3 := (hc.m.ws x.val x.isLt).1
    have q4 := (hc.m.ws x.val x.isLt).2
    have hcw := cnt_le (fun j => P.1 (64 * x.val + j) && inr lo hi (64 * x.val + j)) 64
    have hlen2 : (pre.map fun x => x.val).length < (n + 63) / 64 := by simpa using hlen
    have hand : bits BinOp.and IntKind.u64 (wdo P.1 x.val : Nat) (wdo (inr lo hi) x.val : Nat) = (wd (fun j => P.1 (64 * x.val + j) && inr lo hi (64 * x.val + j)) 64 : Nat) := and_wd _ _
    have hnot : bits BinOp.andNot IntKind.u64 (wdo P.1 x.val : Nat) (wdo (inr lo hi) x.val : Nat) = (wdo (cstep lo hi P x.val).1 x.val : Nat) := by
      rw [cstep_same]; exact andnot_wd _ _
    have hO := Lib.hid (fun w' => ones_c (wd (fun j => P.1 (64 * x.val + j) && inr lo hi (64 * x.val + j)) 64) w' (wd_lt _ _))
    rw [ones_wd] at hO
    obtain ⟨s, hs⟩ : ∃ s, s = P.2 := ⟨_, rfl⟩
    obtain ⟨d, hd⟩ : ∃ d, d = cnt (fun j => P.1 (64 * x.val + j) && inr lo hi (64 * x.val + j)) 64 := ⟨_, rfl⟩
    obtain ⟨v, hv⟩ : ∃ v, v = wd (fun j => P.1 (64 * x.val + j) && inr lo hi (64 * x.val + j)) 64 := ⟨_, rfl⟩
    rw [← hs] at q1 hsum
    rw [← hd] at hO hcw
    rw [← hv] at hand hO
    have s1 : IntKind.i64.wrap ((s : Int) + (d : Int)) = ((s + d : Nat) : Int) := by rw [IntKind.wrap_i64]; omega
    have hc' := Lib.hid hc
    have hB' := Lib.hid hB
    have hs' := Lib.hid hs
    have hd' := Lib.hid hd
    have hP' := Lib.hid hP
    have hnot' := Lib.hid hnot
    clear hc hB hs hd hv hP hsum hcw hlen hlen2 hnot
    gi_wp2
    refine Free.region (Free.round _ _ _) 8 (by kernel_rfl) (by kernel_rfl) (by kernel_rfl) ?_
    simp only [List.take_succ_cons, List.take_zero, List.drop_succ_cons, List.drop_zero]
    repeat still_step
    still_call ((hO.out _).mono fun e w' h => ⟨h.1, h.2.symm⟩)
    repeat still_step
    refine wpStill_nil ?_
    have q1' : W.drew.cell? ⟨w.heap.size, 0, none⟩ = some (.int .i64 s) := q1
    have q2' : W.drew.frozen? ⟨w.heap.size, 0, none⟩ = false := q2
    have q3' : W.drew.cell? ⟨wb, x.val, none⟩ = some (.int .u64 (wdo P.1 x.val : Nat)) := q3
    have q4' : W.drew.frozen? ⟨wb, x.val, none⟩ = false := q4
    have E := Lib.hid (And.intro hc'.out.m.drew (And.intro hB'.out.drew (And.intro (KpW.drew (KpW.refl b w1.heap.size W)) (KeepsOthers.drew W))))
    generalize W.drew = W3 at q1' q2' q3' q4' E ⊢
    have hnot := hnot'.out
    clear q1 q2 q3 q4 s1 hO hand
    gi_wp2
    have hsz := G2.out.2.2.2.2
    have hP2 : cfold lo hi f ((pre ++ [x]).map fun x => x.val) = cstep lo hi P x.val := by rw [List.map_append, List.map_singleton, cfold_snoc, hP'.out]
    have hm := (E.out.1.setOther (p := ⟨w.heap.size, 0, none⟩) (by show w.heap.size ≠ b; omega) (by show w.heap.size ≠ wb; omega) (.int .i64 ((s : Int) + (d : Int)))).store (i := x.val) (g := (cstep lo hi P x.val).1) x.isLt (fun j hj => cstep_ne lo hi P hj) (fun k hk => by simp [cstep, E.out.1.off k hk])
    have hcell : ∀ u, ((W3.setCell ⟨w.heap.size, 0, none⟩ (.int .i64 ((s : Int) + (d : Int)))).setCell ⟨wb, x.val, none⟩ u).cell? ⟨w.heap.size, 0, none⟩ = some (.int .i64 ((s : Int) + (d : Int))) := fun u => by
      rw [World.cell?_setCell_other _ _ _ _ (fun e => by have := congrArg Addr.block e; simp at this; omega)]
      exact World.cell?_setCell_same' _ _ _ (by rw [q1']; rfl)
    rw [← hP2] at hm
    refine ⟨((E.out.2.2.2.trans (KeepsOthers.setCell _ _ _)).trans (KeepsOthers.setCell _ _ _)).from _,
      (E.out.2.2.1.trans (KpW.set _ (p := ⟨w.heap.size, 0, none⟩) (by show w.heap.size ≠ b; omega) (by show w.heap.size ≠ _; omega) (by show w.heap.size ≠ _; omega) (by show w.heap.size ≠ _; omega) _)).trans
        (KpW.set _ (p := ⟨wb, x.val, none⟩) (by show wb ≠ b; omega) (by show wb ≠ _; omega) (by show wb ≠ _; omega) (by show wb ≠ _; omega) _),
      ⟨?_, ?_, ?_⟩, (E.out.2.1.setCell (p := ⟨w.heap.size, 0, none⟩) (.inl (Nat.le_refl _)) _).setCell (p := ⟨wb, x.val, none⟩) (.inr rfl) _⟩
    · rw [hcell, hP2]
      simp only [cstep, ← hs'.out, ← hd'.out]
      rfl
    · rw [World.frozen?_setCell, World.frozen?_setCell]; exact q2'
    · rw [hP2] at hm ⊢
      exact hm
  case done =>
    rintro D ys W hD hS ⟨hc, hB⟩ hK
    have q1 := hc.c
    have hlohi : hi ≤ n := by have := hhi'.out; omega
    have hv : (∀ k, (cfold lo hi f (ys.map fun x => x.val)).1 k = (f k && !inr lo hi k)) ∧ (cfold lo hi f (ys.map fun x => x.val)).2 = cnt (fun k => f k && inr lo hi k) n := by
      rcases hS with ⟨h0, rfl⟩ | ⟨h0, hy⟩
      · have hz : ∀ k, inr lo hi k = false := fun k => by simp only [inr, Bool.and_eq_false_iff, decide_eq_false_iff_not]; omega
        exact ⟨fun k => by simp [cfold, hz k], (cnt_zero (fun j _ => by simp [hz j])).symm⟩
      · rw [hy]
        exact cfold_all lo hi _ n f (by omega) hlohi
    rw [hv.2] at q1
    have hm := hc.m.congr hv.1
    have hB' := Lib.hid hB
    have hm' := Lib.hid hm
    clear hS hc hv hB hm
    gi_wp2
    refine ⟨by simp, .inl ⟨_, _, rfl, run_takeDeferred hK, ?_⟩⟩
    exact ⟨_, results_tmp rfl _ _ _, rfl, hm'.out.kept (grownBy_putObj' _ D (.deferred none)) (fun r e => by cases e; exact ⟨_, hK, rfl⟩), hB'.out.trans (Off.of_below (belowK_b (w := w) (Nat.le_refl _) W D _ _ (by have := G2.out.2.2.2.2; omega) hK rfl rfl))⟩
  case stop =>
    rintro D c pre W _ _ h _
    exact h.elim
end Go.Proofs.Ytbabblnpjophdaa
