/- Contracts of layer tags: Count, Any, Clear. No statement is proved here. -/
import Derived.Test.YticfpnhfhhagpaaTagC
namespace Go.Proofs.Yticfpnhfhhagpaa
open Go.RowKit Go.Shelf
set_option linter.unusedVariables false
attribute [local go_sem] Oper.semAt_some

theorem words_stops (m : Nat) (hm : 1 ≤ m) (b wb n c : Nat) (A B : Int) (lo hi : Nat) (hlo : A = lo) (hhi : B.toNat = hi) (hB : B ≤ n) (hn : n ≤ 1048576) (w : World) (H : PartsAt w b wb n c A B) (hb : b < w.heap.size) (hc : c + 1 + 1 < w.heap.size) :
    SeqStopsK Fence.wide m Try.prog 39 #[.pointer (some ⟨c + 1, 0, none⟩), .pointer (some ⟨c + 1 + 1, 0, none⟩), .pointer (some ⟨c, 0, none⟩)] (tgEnc wb n lo hi) (KpW b c)
      (fun xs => (hi ≤ lo ∧ xs = []) ∨ (lo < hi ∧ xs.map (fun x => x.val) = (List.range ((hi - 1) / 64 - lo / 64 + 1)).map (lo / 64 + ·)))
      (fun pre => lo < hi ∧ ∃ k, k ≤ (hi - 1) / 64 - lo / 64 + 1 ∧ pre.map (fun x => x.val) = (List.range k).map (lo / 64 + ·)) ((n + 63) / 64) w := fun l J Jx W hW hJ hJx hY h0 => by
  have H' : PartsAt W b wb n c A B := H.keep (fun k hk => hW.block k (by rcases hk with rfl | rfl | rfl | rfl <;> omega))
  by_cases h : B ≤ A
  · exact (words_none m l b wb n c A B h W J H' h0).mono fun e W' ⟨he, hj⟩ => ⟨he, .inl ⟨_, .inl ⟨by omega, rfl⟩, hj⟩⟩
  · have e2 : B = (hi : Int) := by omega
    rw [hlo, e2] at H'
    refine (words_in m hm l b wb n c lo hi (by omega) (by omega) hn J Jx hY W H' h0 (fun pre W hs => hJ _ _ _ none hs ⟨rfl, rfl, rfl, Nat.le_refl _, fun _ _ _ => rfl⟩ (fun r e => by cases e))).mono ?_
    rintro e W' ⟨he, ⟨ys, hs, hj⟩ | ⟨pre, hs, hj⟩⟩
    · exact ⟨he, .inl ⟨ys, .inr ⟨by omega, hs⟩, hj⟩⟩
    · exact ⟨he, .inr ⟨pre, ⟨by omega, hs⟩, hj⟩⟩

section
variable {W W' : World} {b wb n : Nat} {f : Nat → Bool} {row : Option Nat}
theorem MapAt.kept (h : MapAt W b wb n f) (hg : W.grownBy W' row) (hr : ∀ r, row = some r → ∃ o : Obj, W.heap[r]? = some o ∧ o.isCells = false) : MapAt W' b wb n f :=
  ⟨cell_kept h.h0 hg hr, cell_kept h.h1 hg hr, cell_kept h.h2 hg hr, fun i hi => ⟨cell_kept (h.ws i hi).1 hg hr, (frozen_kept (h.ws i hi).1 hg hr).trans (h.ws i hi).2⟩, h.ne, Nat.lt_of_lt_of_le h.lb hg.size, Nat.lt_of_lt_of_le h.lw hg.size, h.off, h.le⟩
theorem ownFrom_off {β : Type} {n₀ B : Nat} {w₀ : World} (hn : n₀ ≤ w₀.heap.size) (hB : n₀ ≤ B) : OwnFrom B (fun (_ : β) W => Off n₀ wb w₀ W) :=
  fun _ _ _ _ hs hg hr => hs.trans ⟨hg.os, hg.tape, hg.output, hg.size, fun k hk hkn => hg.block k (by have := hs.size; omega) (fun e => by have := (hr k e.symm).1; omega)⟩
end

/-- What a count holds between two rounds. -/
structure CountI (w : World) (b wb n : Nat) (f : Nat → Bool) (W : World) (v : Nat) : Prop where
  c : W.cell? ⟨w.heap.size, 0, none⟩ = some (.int .i64 v)
  fr : W.frozen? ⟨w.heap.size, 0, none⟩ = false
  m : MapAt W b wb n f
theorem CountI.kept {w : World} {b wb n : Nat} {f : Nat → Bool} {W W' : World} {v : Nat} {row : Option Nat} (h : CountI w b wb n f W v) (hg : W.grownBy W' row) (hr : ∀ r, row = some r → ∃ o : Obj, W.heap[r]? = some o ∧ o.isCells = false) : CountI w b wb n f W' v :=
  ⟨cell_kept h.c hg hr, (frozen_kept h.c hg hr).trans h.fr, h.m.kept hg hr⟩

set_option maxRecDepth 100000 in
set_option maxHeartbeats 2000000 in
theorem count_any (b wb n : Nat) (f : Nat → Bool) (w : World) (H : MapAt w b wb n f) : Calls Try.prog 24 #[.pointer (some ⟨b, 0, none⟩)] w fun e W' => e = .returned (.int .i64 (cnt f n : Nat)) ∧ Below w.heap.size w W' := by
  refine (callsIn_wide (n := 5)).1 ?_
  have hlb := H.lb
  have hlw := H.lw
  have hne := H.ne
  have hle := H.le
  obtain ⟨w1, hw1⟩ : ∃ w1, w1 = w.alloc (.cells #[.int .i64 0] 3) := ⟨_, rfl⟩
  have H1 : MapAt w1 b wb n f := by rw [hw1]; exact H.alloc _
  have hs1 : w1.heap.size = w.heap.size + 1 := by rw [hw1]; simp
  have hb1 : Below w.heap.size w w1 := by rw [hw1]; exact (Below.refl _ w).alloc (Nat.le_refl _) _
  have q1 : w1.cell? ⟨w.heap.size, 0, none⟩ = some (.int .i64 0) ∧ w1.frozen? ⟨w.heap.size, 0, none⟩ = false := by rw [hw1]; exact new_cell rfl _ rfl
  have hL := Lib.hid (len_any b wb n f w1 H1)
  have hP := Lib.hid (parts_any b wb n f 0 n w1 H1 (by decide) (by omega))
  have G := Lib.hid (And.intro H1 (And.intro hs1 (And.intro hb1 q1)))
  have hw1' := Lib.hid hw1
  clear H H1 hs1 hb1 q1 hw1
  refine callsIn_of_wp_marks Try.func24 rfl trivial ?_ rfl
  simp only [Try.ntmps24, List.size_toArray, List.length_cons, List.length_nil, Nat.reduceAdd, Nat.reduceSub, Array.replicate_succ, Array.replicate_zero, List.push_toArray, List.append_toArray, List.nil_append, List.cons_append]
  gi_wp2_with fail
  rw [← hw1'.out]
  refine ⟨trivial, (callsIn_wide.2 hL.out).mono ?_⟩
  rintro e w' ⟨rfl, rfl⟩
  gi_wp2_with fail
  refine ⟨trivial, (callsIn_wide.2 hP.out).mono ?_⟩
  rintro e w2 ⟨rfl, hb2, hs2, k0, k1, k2⟩
  obtain ⟨H1, hs1, hb1, q1, q2⟩ := G.out
  have H2 : MapAt w2 b wb n f := H1.below hb2 (by omega) (by omega)
  have hps : PartsAt w2 b wb n w1.heap.size 0 n := ⟨H2.h0, k0, k1, by rw [k2, Int.min_self]⟩
  have c1 : w2.cell? ⟨w.heap.size, 0, none⟩ = some (.int .i64 0) := (hb2.cell (p := ⟨w.heap.size, 0, none⟩) (by show w.heap.size < _; omega)).trans q1
  have c2 : w2.frozen? ⟨w.heap.size, 0, none⟩ = false := (hb2.frozen (p := ⟨w.heap.size, 0, none⟩) (by show w.heap.size < _; omega)).trans q2
  have hB2 : Below w.heap.size w w2 := hb1.trans (hb2.mono (by omega))
  have st := Lib.hid (words_stops 4 (by omega) b wb n w1.heap.size 0 n 0 n rfl (by omega) (by omega) hle w2 hps (by omega) (by omega))
  have G2 := Lib.hid (And.intro H2 (And.intro c1 (And.intro c2 (And.intro hB2 (And.intro hs2 hs1)))))
  clear H1 hb1 q1 q2 H2 hps c1 c2 hB2 k0 k1 k2 hb2 hs2 hP hL G hs1
  gi_wp2_with fail
  refine wpIn_rangeFunc_ownG rfl (by decide) (gf := 39) (lb := #[.pointer (some ⟨w1.heap.size + 1, 0, none⟩), .pointer (some ⟨w1.heap.size + 1 + 1, 0, none⟩), .pointer (some ⟨w1.heap.size, 0, none⟩)]) rfl trivial (enters_of Try.func39 (by kernel_rfl) rfl)
    st.out KpW.trans (KpW.put (by have := G2.out.2.2.2.2; omega) (by have := G2.out.2.2.2.2; omega)) (Below.refl _ _) (fun _ => rfl)
    (fun pre W => CountI w b wb n f W (csum f (pre.map fun x => x.val)) ∧ Below w.heap.size w W)
    (fun _ _ _ => False)
    (OwnFrom.and (Own.from (fun s A B row hs hg hr => hs.kept hg hr) _) (ownFrom_below (Nat.le_refl _) (by have := G2.out.2.2.2.2; omega)))
    (fun _ _ _ _ _ hs _ _ => hs)
    ⟨⟨G2.out.2.1, G2.out.2.2.1, G2.out.1⟩, G2.out.2.2.2.1⟩
    (fun x => { tmps := #[.pointer (some ⟨b, 0, none⟩), undef, .int .i64 0, .pointer (some ⟨w.heap.size, 0, none⟩), .pointer (some ⟨wb, x.val, none⟩), .pointer (some ⟨b, 0, none⟩), .pointer (some ⟨b, 0, none⟩), .int .i64 n, .func (.func 39) #[] #[.pointer (some ⟨w1.heap.size + 1, 0, none⟩), .pointer (some ⟨w1.heap.size + 1 + 1, 0, none⟩), .pointer (some ⟨w1.heap.size, 0, none⟩)], .pointer (some ⟨wb, x.val, none⟩), .int .u64 (wdo (inr 0 n) x.val : Nat), undef, undef, undef, undef, undef, undef, undef], defers := [] }) ?assign ?body ?done ?stop
  case assign =>
    intro l x W K hK
    dsimp only [tgEnc]
    gi_wp2
    exact hK
  case body =>
    rintro l pre x W ⟨hc, hB⟩ hlen
    have q1 := hc.c
    have q2 := hc.fr
    have q3 := (hc.m.ws x.val x.isLt).1
    have hsum := csum_le f (pre.map fun x => x.val)
    have hcw := cnt_le (fun j => f (64 * x.val + j)) 64
    have hlen2 : (pre.map fun x => x.val).length < (n + 63) / 64 := by simpa using hlen
    have hO := Lib.hid (fun w' => ones_c (wdo f x.val) w' (wdo_lt _ _))
    have hones : Lib.onesCount (wdo f x.val) = cnt (fun j => f (64 * x.val + j)) 64 := ones_wd _
    rw [hones] at hO
    obtain ⟨s, hs⟩ : ∃ s, s = csum f (pre.map fun x => x.val) := ⟨_, rfl⟩
    obtain ⟨d, hd⟩ : ∃ d, d = cnt (fun j => f (64 * x.val + j)) 64 := ⟨_, rfl⟩
    rw [← hs] at q1 hsum
    rw [← hd] at hO hcw
    have s1 : IntKind.i64.wrap ((s : Int) + (d : Int)) = ((s + d : Nat) : Int) := by rw [IntKind.wrap_i64]; omega
    have hc' := Lib.hid hc
    have hB' := Lib.hid hB
    have hs' := Lib.hid hs
    have hd' := Lib.hid hd
    clear hc hB hs hd hones hsum hcw hlen hlen2
    gi_wp2
    refine Free.region (Free.round _ _ _) 6 (by kernel_rfl) (by kernel_rfl) (by kernel_rfl) ?_
    simp only [List.take_succ_cons, List.take_zero, List.drop_succ_cons, List.drop_zero]
    repeat still_step
    still_call ((hO.out _).mono fun e w' h => ⟨h.1, h.2.symm⟩)
    repeat still_step
    refine wpStill_nil ?_
    have q1' : W.drew.cell? ⟨w.heap.size, 0, none⟩ = some (.int .i64 s) := q1
    have q2' : W.drew.frozen? ⟨w.heap.size, 0, none⟩ = false := q2
    have E := Lib.hid (And.intro hc'.out.m.drew (And.intro hB'.out.drew (And.intro (KpW.drew (KpW.refl b w1.heap.size W)) (KeepsOthers.drew W))))
    generalize W.drew = W3 at q1' q2' E ⊢
    clear q1 q2 q3 s1 hO
    gi_wp2
    have hsz := G2.out.2.2.2.2
    refine ⟨(E.out.2.2.2.trans (KeepsOthers.setCell _ _ _)).from _, E.out.2.2.1.trans (KpW.set _ (p := ⟨w.heap.size, 0, none⟩) (by show w.heap.size ≠ b; omega) (by show w.heap.size ≠ _; omega) (by show w.heap.size ≠ _; omega) (by show w.heap.size ≠ _; omega) _),
      ⟨?_, (World.frozen?_setCell _ _ _ _).trans q2', E.out.1.setOther (by show w.heap.size ≠ b; omega) (by show w.heap.size ≠ wb; omega) _⟩, E.out.2.1.setCell (p := ⟨w.heap.size, 0, none⟩) (Nat.le_refl _) _⟩
    rw [List.map_append, List.map_singleton, csum_snoc, ← hs'.out, ← hd'.out, World.cell?_setCell_same' _ _ _ (by rw [q1']; rfl)]
    rfl
  case done =>
    rintro D ys W hD hS ⟨hc, hB⟩ hK
    have q1 := hc.c
    have hv : csum f (ys.map fun x => x.val) = cnt f n := by
      have hoff := G2.out.1.off
      rcases hS with ⟨h0, rfl⟩ | ⟨h0, hy⟩
      · obtain rfl : n = 0 := by omega
        rfl
      · rw [hy]
        have e : (List.range ((n - 1) / 64 - 0 / 64 + 1)).map (0 / 64 + ·) = List.range ((n - 1) / 64 + 1) := by simp
        rw [e, csum_range, cnt_off hoff (by omega)]
    rw [hv] at q1
    have hB' := Lib.hid hB
    have hv' := Lib.hid hv
    clear hS hc hv hB
    gi_wp2
    refine ⟨by simp, .inl ⟨_, _, rfl, run_takeDeferred hK, ?_⟩⟩
    exact ⟨_, results_tmp rfl _ _ _, rfl, hB'.out.trans (belowK_b (w := w) (Nat.le_refl _) W D _ _ (by have := G2.out.2.2.2.2; omega) hK rfl rfl)⟩
  case stop =>
    rintro D c pre W _ _ h _
    exact h.elim
end Go.Proofs.Yticfpnhfhhagpaa
