/- Contracts of layer tags: Count, Any, Clear. No statement is proved here.; Contracts of layer tags: Clear. No statement is proved here.; Contracts of layer tags: Any. No statement is proved here.; Contracts of layer tags, in one form; what the laws ask first. No statement is proved here.; Contracts of layer tags: Copy. No statement is proved here. -/
import Derived.Test.YticfpnhfhhagpaaDoormk
import Derived.Test.YticfpnhfhhagpaaDoormj
import Derived.StillTailTactics
import Derived.Laws.CopyOwn
namespace Go.Proofs.YticfpnhfhhagpaaDoor
open Go.RowKit Go.Shelf
set_option linter.unusedVariables false
attribute [local go_sem] Oper.semAt_some

theorem words_stops (m : Nat) (hm : 1 ≤ m) (b wb n c : Nat) (A B : Int) (lo hi : Nat) (hlo : A = lo) (hhi : B.toNat = hi) (hB : B ≤ n) (hn : n ≤ 1048576) (w : World) (H : PartsAt w b wb n c A B) (hb : b < w.heap.size) (hc : c + 1 + 1 < w.heap.size) :
    SeqStopsK Fence.wide m Tryd.prog 78 #[.pointer (some ⟨c + 1, 0, none⟩), .pointer (some ⟨c + 1 + 1, 0, none⟩), .pointer (some ⟨c, 0, none⟩)] (tgEnc wb n lo hi) (KpW b c)
      (fun xs => (hi ≤ lo ∧ xs = []) ∨ (lo < hi ∧ xs.map (fun x => x.val) = (List.range ((hi - 1) / 64 - lo / 64 + 1)).map (lo / 64 + ·)))
      (fun pre => lo < hi ∧ ∃ k, k ≤ (hi - 1) / 64 - lo / 64 + 1 ∧ pre.map (fun x => x.val) = (List.range k).map (lo / 64 + ·)) ((n + 63) / 64) w := fun l J Jx W hW hJ hJx hY h0 => by
  have H' : PartsAt W b wb n c A B := H.keep (fun k hk => hW.block k (by rcases hk with rfl | rfl | rfl | rfl <;> omega))
  by_cases h : B ≤ A
  · exact (words_none m l b wb n c A B h W J H' h0).mono fun e W' ⟨he, hj⟩ => ⟨he, .inl ⟨_, .inl ⟨by omega, rfl⟩, hj⟩⟩
  · have e2 : B = (hi : Int) := by omega
    rw [hlo, e2] at H'
    refine (words_in m hm l b wb n c lo hi (by omega) (by omega) hn J Jx hY W H' h0 (fun pre W hs => hJ _ _ _ none hs ⟨rfl, rfl, rfl, Nat.le_refl _, fun _ _ _ => rfl⟩ (fun r e => by cases e))).mono ?_
    rintro e W' ⟨he, ⟨ys, hs, hj⟩ | ⟨pre, hs, hj⟩⟩
    · exact ⟨he, .inl ⟨ys, .inr ⟨by omega, hs⟩, hj⟩⟩
    · exact ⟨he, .inr ⟨pre, ⟨by omega, hs⟩, hj⟩⟩

section
variable {W W' : World} {b wb n : Nat} {f : Nat → Bool} {row : Option Nat}
theorem MapAt.kept (h : MapAt W b wb n f) (hg : W.grownBy W' row) (hr : ∀ r, row = some r → ∃ o : Obj, W.heap[r]? = some o ∧ o.isCells = false) : MapAt W' b wb n f :=
  ⟨cell_kept h.h0 hg hr, cell_kept h.h1 hg hr, cell_kept h.h2 hg hr, fun i hi => ⟨cell_kept (h.ws i hi).1 hg hr, (frozen_kept (h.ws i hi).1 hg hr).trans (h.ws i hi).2⟩, h.ne, Nat.lt_of_lt_of_le h.lb hg.size, Nat.lt_of_lt_of_le h.lw hg.size, h.off, h.le⟩
theorem ownFrom_off {β : Type} {n₀ B : Nat} {w₀ : World} (hn : n₀ ≤ w₀.heap.size) (hB : n₀ ≤ B) : OwnFrom B (fun (_ : β) W => Off n₀ wb w₀ W) :=
  fun _ _ _ _ hs hg hr => hs.trans ⟨hg.os, hg.tape, hg.output, hg.size, fun k hk hkn => hg.block k (by have := hs.size; omega) (fun e => by have := (hr k e.symm).1; omega)⟩
end

/-- What a count holds between two rounds. -/
structure CountI (w : World) (b wb n : Nat) (f : Nat → Bool) (W : World) (v : Nat) : Prop where
  c : W.cell? ⟨w.heap.size, 0, none⟩ = some (.int .i64 v)
  fr : W.frozen? ⟨w.heap.size, 0, none⟩ = false
  m : MapAt W b wb n f
theorem CountI.kept {w : World} {b wb n : Nat} {f : Nat → Bool} {W W' : World} {v : Nat} {row : Option Nat} (h : CountI w b wb n f W v) (hg : W.grownBy W' row) (hr : ∀ r, row = some r → ∃ o : Obj, W.heap[r]? = some o ∧ o.isCells = false) : CountI w b wb n f W' v :=
  ⟨cell_kept h.c hg hr, (frozen_kept h.c hg hr).trans h.fr, h.m.kept hg hr⟩

set_option maxRecDepth 100000 in
set_option maxHeartbeats 2000000 in
theorem count_any (b wb n : Nat) (f : Nat → Bool) (w : World) (H : MapAt w b wb n f) : Calls Tryd.prog 55 #[.pointer (some ⟨b, 0, none⟩)] w fun e W' => e = .returned (.int .i64 (cnt f n : Nat)) ∧ Below w.heap.size w W' := by
  refine (callsIn_wide (n := 5)).1 ?_
  have hlb := H.lb
  have hlw := H.lw
  have hne := H.ne
  have hle := H.le
  obtain ⟨w1, hw1⟩ : ∃ w1, w1 = w.alloc (.cells #[.int .i64 0] 3) := ⟨_, rfl⟩
  have H1 : MapAt w1 b wb n f := by rw [hw1]; exact H.alloc _
  have hs1 : w1.heap.size = w.heap.size + 1 := by rw [hw1]; simp
  have hb1 : Below w.heap.size w w1 := by rw [hw1]; exact (Below.refl _ w).alloc (Nat.le_refl _) _
  have q1 : w1.cell? ⟨w.heap.size, 0, none⟩ = some (.int .i64 0) ∧ w1.frozen? ⟨w.heap.size, 0, none⟩ = false := by rw [hw1]; exact new_cell rfl _ rfl
  have hL := Lib.hid (len_any b wb n f w1 H1)
  have hP := Lib.hid (parts_any b wb n f 0 n w1 H1 (by decide) (by omega))
  have G := Lib.hid (And.intro H1 (And.intro hs1 (And.intro hb1 q1)))
  have hw1' := Lib.hid hw1
  clear H H1 hs1 hb1 q1 hw1
  refine callsIn_of_wp_marks Tryd.func55 rfl trivial ?_ rfl
  simp only [Tryd.ntmps55, List.size_toArray, List.length_cons, List.length_nil, Nat.reduceAdd, Nat.reduceSub, Array.replicate_succ, Array.replicate_zero, List.push_toArray, List.append_toArray, List.nil_append, List.cons_append]
  gi_wp2_with fail
  rw [← hw1'.out]
  refine ⟨trivial, (callsIn_wide.2 hL.out).mono ?_⟩
  rintro e w' ⟨rfl, rfl⟩
  gi_wp2_with fail
  refine ⟨trivial, (callsIn_wide.2 hP.out).mono ?_⟩
  rintro e w2 ⟨rfl, hb2, hs2, k0, k1, k2⟩
  obtain ⟨H1, hs1, hb1, q1, q2⟩ := G.out
  have H2 : MapAt w2 b wb n f := H1.below hb2 (by omega) (by omega)
  have hps : PartsAt w2 b wb n w1.heap.size 0 n := ⟨H2.h0, k0, k1, by rw [k2, Int.min_self]⟩
  have c1 : w2.cell? ⟨w.heap.size, 0, none⟩ = some (.int .i64 0) := (hb2.cell (p := ⟨w.heap.size, 0, none⟩) (by show w.heap.size < _; omega)).trans q1
  have c2 : w2.frozen? ⟨w.heap.size, 0, none⟩ = false := (hb2.frozen (p := ⟨w.heap.size, 0, none⟩) (by show w.heap.size < _; omega)).trans q2
  have hB2 : Below w.heap.size w w2 := hb1.trans (hb2.mono (by omega))
  have st := Lib.hid (words_stops 4 (by omega) b wb n w1.heap.size 0 n 0 n rfl (by omega) (by omega) hle w2 hps (by omega) (by omega))
  have G2 := Lib.hid (And.intro H2 (And.intro c1 (And.intro c2 (And.intro hB2 (And.intro hs2 hs1)))))
  clear H1 hb1 q1 q2 H2 hps c1 c2 hB2 k0 k1 k2 hb2 hs2 hP hL G hs1
  gi_wp2_with fail
  refine wpIn_rangeFunc_ownG rfl (by decide) (gf := 78) (lb := #[.pointer (some ⟨w1.heap.size + 1, 0, none⟩), .pointer (some ⟨w1.heap.size + 1 + 1, 0, none⟩), .pointer (some ⟨w1.heap.size, 0, none⟩)]) rfl trivial (enters_of Tryd.func78 (by kernel_rfl) rfl)
    st.out KpW.trans (KpW.put (by have := G2.out.2.2.2.2; omega) (by have := G2.out.2.2.2.2; omega)) (Below.refl _ _) (fun _ => rfl)
    (fun pre W => CountI w b wb n f W (csum f (pre.map fun x => x.val)) ∧ Below w.heap.size w W)
    (fun _ _ _ => False)
    (OwnFrom.and (Own.from (fun s A B row hs hg hr => hs.kept hg hr) _) (ownFrom_below (Nat.le_refl _) (by have := G2.out.2.2.2.2; omega)))
    (fun _ _ _ _ _ hs _ _ => hs)
    ⟨⟨G2.out.2.1, G2.out.2.2.1, G2.out.1⟩, G2.out.2.2.2.1⟩
    (fun x => { tmps := #[.pointer (some ⟨b, 0, none⟩), undef, .int .i64 0, .pointer (some ⟨w.heap.size, 0, none⟩), .pointer (some ⟨wb, x.val, none⟩), .pointer (some ⟨b, 0, none⟩), .pointer (some ⟨b, 0, none⟩), .int .i64 n, .func (.func 78) #[] #[.pointer (some ⟨w1.heap.size + 1, 0, none⟩), .pointer (some ⟨w1.heap.size + 1 + 1, 0, none⟩), .pointer (some ⟨w1.heap.size, 0, none⟩)], .pointer (some ⟨wb, x.val, none⟩), .int .u64 (wdo (inr 0 n) x.val : Nat), undef, undef, undef, undef, undef, undef, undef], defers := [] }) ?assign ?body ?done ?stop
  case assign =>
    intro l x W K hK
    dsimp only [tgEnc]
    gi_wp2
    exact hK
  case body =>
    rintro l pre x W ⟨hc, hB⟩ hlen
    have q1 := hc.c
    have q2 := hc.fr
    have q3 := (hc.m.ws x.val x.isLt).1
    have hsum := csum_le f (pre.map fun x => x.val)
    have hcw := cnt_le (fun j => f (64 * x.val + j)) 64
    have hlen2 : (pre.map fun x => x.val).length < (n + 63) / 64 := by simpa using hlen
    have hO := Lib.hid (fun w' => ones_c (wdo f x.val) w' (wdo_lt _ _))
    have hones : Lib.onesCount (wdo f x.val) = cnt (fun j => f (64 * x.val + j)) 64 := ones_wd _
    rw [hones] at hO
    obtain ⟨s, hs⟩ : ∃ s, s = csum f (pre.map fun x => x.val) := ⟨_, rfl⟩
    obtain ⟨d, hd⟩ : ∃ d, d = cnt (fun j => f (64 * x.val + j)) 64 := ⟨_, rfl⟩
    rw [← hs] at q1 hsum
    rw [← hd] at hO hcw
    have s1 : IntKind.i64.wrap ((s : Int) + (d : Int)) = ((s + d : Nat) : Int) := by rw [IntKind.wrap_i64]; omega
    have hc' := Lib.hid hc
    have hB' := Lib.hid hB
    have hs' := Lib.hid hs
    have hd' := Lib.hid hd
    clear hc hB hs hd hones hsum hcw hlen hlen2
    gi_wp2
    refine Free.region (Free.round _ _ _) 6 (by kernel_rfl) (by kernel_rfl) (by kernel_rfl) ?_
    simp only [List.take_succ_cons, List.take_zero, List.drop_succ_cons, List.drop_zero]
    repeat still_step
    still_call ((hO.out _).mono fun e w' h => ⟨h.1, h.2.symm⟩)
    repeat still_step
    refine wpStill_nil ?_
    have q1' : W.drew.cell? ⟨w.heap.size, 0, none⟩ = some (.int .i64 s) := q1
    have q2' : W.drew.frozen? ⟨w.heap.size, 0, none⟩ = false := q2
    have E := Lib.hid (And.intro hc'.out.m.drew (And.intro hB'.out.drew (And.intro (KpW.drew (KpW.refl b w1.heap.size W)) (KeepsOthers.drew W))))
    generalize W.drew = W3 at q1' q2' E ⊢
    clear q1 q2 q3 s1 hO
    gi_wp2
    have hsz := G2.out.2.2.2.2
    refine ⟨(E.out.2.2.2.trans (KeepsOthers.setCell _ _ _)).from _, E.out.2.2.1.trans (KpW.set _ (p := ⟨w.heap.size, 0, none⟩) (by show w.heap.size ≠ b; omega) (by show w.heap.size ≠ _; omega) (by show w.heap.size ≠ _; omega) (by show w.heap.size ≠ _; omega) _),
      ⟨?_, (World.frozen?_setCell _ _ _ _).trans q2', E.out.1.setOther (by show w.heap.size ≠ b; omega) (by show w.heap.size ≠ wb; omega) _⟩, E.out.2.1.setCell (p := ⟨w.heap.size, 0, none⟩) (Nat.le_refl _) _⟩
    rw [List.map_append, List.map_singleton, csum_snoc, ← hs'.out, ← hd'.out, World.cell?_setCell_same' _ _ _ (by rw [q1']; rfl)]
    rfl
  case done =>
    rintro D ys W hD hS ⟨hc, hB⟩ hK
    have q1 := hc.c
    have hv : csum f (ys.map fun x => x.val) = cnt f n := by
      have hoff := G2.out.1.off
      rcases hS with ⟨h0, rfl⟩ | ⟨h0, hy⟩
      · obtain rfl : n = 0 := by omega
        rfl
      · rw [hy]
        have e : (List.range ((n - 1) / 64 - 0 / 64 + 1)).map (0 / 64 + ·) = List.range ((n - 1) / 64 + 1) := by simp
        rw [e, csum_range, cnt_off hoff (by omega)]
    rw [hv] at q1
    have hB' := Lib.hid hB
    have hv' := Lib.hid hv
    clear hS hc hv hB
    gi_wp2
    refine ⟨by simp, .inl ⟨_, _, rfl, run_takeDeferred hK, ?_⟩⟩
    exact ⟨_, results_tmp rfl _ _ _, rfl, hB'.out.trans (belowK_b (w := w) (Nat.le_refl _) W D _ _ (by have := G2.out.2.2.2.2; omega) hK rfl rfl)⟩
  case stop =>
    rintro D c pre W _ _ h _
    exact h.elim
end Go.Proofs.YticfpnhfhhagpaaDoor
namespace Go.Proofs.YticfpnhfhhagpaaDoor
open Go.RowKit Go.Shelf
set_option linter.unusedVariables false
attribute [local go_sem] Oper.semAt_some

/-- What Clear hands back, and leaves. -/
def Cleared (b wb n lo hi : Nat) (f : Nat → Bool) (w : World) (e : Ending) (W' : World) : Prop :=
  e = .returned (.int .i64 (cnt (fun k => f k && inr lo hi k) n : Nat)) ∧ MapAt W' b wb n (fun k => f k && !inr lo hi k) ∧ Off w.heap.size wb w W'

set_option maxRecDepth 100000 in
set_option maxHeartbeats 2000000 in
theorem clear_any (b wb n lo hi : Nat) (f : Nat → Bool) (fr to_ : Int) (w : World) (H : MapAt w b wb n f) (h1 : -9223372036854775808 ≤ fr) (h2 : to_ ≤ 9223372036854775807) (hlo : max fr 0 = (lo : Int)) (hhi : (min to_ n).toNat = hi) :
    Calls Tryd.prog 70 #[.pointer (some ⟨b, 0, none⟩), .int .i64 fr, .int .i64 to_] w (Cleared b wb n lo hi f w) := by
  refine (callsIn_wide (n := 5)).1 ?_
  have hlb := H.lb
  have hlw := H.lw
  have hne := H.ne
  have hle := H.le
  obtain ⟨w1, hw1⟩ : ∃ w1, w1 = w.alloc (.cells #[.int .i64 0] 3) := ⟨_, rfl⟩
  have H1 : MapAt w1 b wb n f := by rw [hw1]; exact H.alloc _
  have hs1 : w1.heap.size = w.heap.size + 1 := by rw [hw1]; simp
  have hb1 : Below w.heap.size w w1 := by rw [hw1]; exact (Below.refl _ w).alloc (Nat.le_refl _) _
  have q1 : w1.cell? ⟨w.heap.size, 0, none⟩ = some (.int .i64 0) ∧ w1.frozen? ⟨w.heap.size, 0, none⟩ = false := by rw [hw1]; exact new_cell rfl _ rfl
  have hP := Lib.hid (parts_any b wb n f fr to_ w1 H1 h1 h2)
  have G := Lib.hid (And.intro H1 (And.intro hs1 (And.intro hb1 q1)))
  have hw1' := Lib.hid hw1
  have hlo' := Lib.hid hlo
  have hhi' := Lib.hid hhi
  clear H H1 hs1 hb1 q1 hw1 h1 h2 hlo hhi
  refine callsIn_of_wp_marks Tryd.func70 rfl trivial ?_ rfl
  simp only [Tryd.ntmps70, List.size_toArray, List.length_cons, List.length_nil, Nat.reduceAdd, Nat.reduceSub, Array.replicate_succ, Array.replicate_zero, List.push_toArray, List.append_toArray, List.nil_append, List.cons_append]
  gi_wp2_with fail
  rw [← hw1'.out]
  refine ⟨trivial, (callsIn_wide.2 hP.out).mono ?_⟩
  rintro e w2 ⟨rfl, hb2, hs2, k0, k1, k2⟩
  obtain ⟨H1, hs1, hb1, q1, q2⟩ := G.out
  have H2 : MapAt w2 b wb n f := H1.below hb2 (by omega) (by omega)
  have hps : PartsAt w2 b wb n w1.heap.size lo (min to_ n) := ⟨H2.h0, k0, by rw [k1, hlo'.out], k2⟩
  have c1 : w2.cell? ⟨w.heap.size, 0, none⟩ = some (.int .i64 0) := (hb2.cell (p := ⟨w.heap.size, 0, none⟩) (by show w.heap.size < _; omega)).trans q1
  have c2 : w2.frozen? ⟨w.heap.size, 0, none⟩ = false := (hb2.frozen (p := ⟨w.heap.size, 0, none⟩) (by show w.heap.size < _; omega)).trans q2
  have hB2 : Off w.heap.size wb w w2 := Off.of_below (hb1.trans (hb2.mono (by omega)))
  have st := Lib.hid (words_stops 4 (by omega) b wb n w1.heap.size lo (min to_ n) lo hi rfl hhi'.out (by omega) hle w2 hps (by omega) (by omega))
  have G2 := Lib.hid (And.intro H2 (And.intro c1 (And.intro c2 (And.intro hB2 (And.intro hs2 hs1)))))
  clear H1 hb1 q1 q2 H2 hps c1 c2 hB2 k0 k1 k2 hb2 hs2 hP G hs1
  gi_wp2_with fail
  refine wpIn_rangeFunc_ownG rfl (by decide) (gf := 78) (lb := #[.pointer (some ⟨w1.heap.size + 1, 0, none⟩), .pointer (some ⟨w1.heap.size + 1 + 1, 0, none⟩), .pointer (some ⟨w1.heap.size, 0, none⟩)]) rfl trivial (enters_of Tryd.func78 (by kernel_rfl) rfl)
    st.out KpW.trans (KpW.put (by have := G2.out.2.2.2.2; omega) (by have := G2.out.2.2.2.2; omega)) (Below.refl _ _) (fun _ => rfl)
    (fun pre W => CountI w b wb n (cfold lo hi f (pre.map fun x => x.val)).1 W (cfold lo hi f (pre.map fun x => x.val)).2 ∧ Off w.heap.size wb w W)
    (fun _ _ _ => False)
    (OwnFrom.and (Own.from (fun s A B row hs hg hr => hs.kept hg hr) _) (ownFrom_off (Nat.le_refl _) (by have := G2.out.2.2.2.2; omega)))
    (fun _ _ _ _ _ hs _ _ => hs)
    ⟨⟨G2.out.2.1, G2.out.2.2.1, G2.out.1⟩, G2.out.2.2.2.1⟩
    (fun x => { tmps := #[.pointer (some ⟨b, 0, none⟩), .int .i64 fr, .int .i64 to_, undef, undef, undef, .int .i64 0, .pointer (some ⟨w.heap.size, 0, none⟩), .pointer (some ⟨wb, x.val, none⟩), .int .u64 (wdo (inr lo hi) x.val : Nat), .pointer (some ⟨b, 0, none⟩), .int .i64 fr, .int .i64 to_, .func (.func 78) #[] #[.pointer (some ⟨w1.heap.size + 1, 0, none⟩), .pointer (some ⟨w1.heap.size + 1 + 1, 0, none⟩), .pointer (some ⟨w1.heap.size, 0, none⟩)], .pointer (some ⟨wb, x.val, none⟩), .int .u64 (wdo (inr lo hi) x.val : Nat), undef, undef, undef, undef, undef, undef, undef, undef, undef, undef, undef, undef, undef, undef, undef], defers := [] }) ?assign ?body ?done ?stop
  case assign =>
    intro l x W K hK
    dsimp only [tgEnc]
    gi_wp2
    exact hK
  case body =>
    rintro l pre x W ⟨hc, hB⟩ hlen
    obtain ⟨P, hP⟩ : ∃ P, P = cfold lo hi f (pre.map fun x => x.val) := ⟨_, rfl⟩
    have hsum := cfold_le lo hi f (pre.map fun x => x.val)
    rw [← hP] at hc hsum
    have q1 := hc.c
    have q2 := hc.fr
    have q3 := (hc.m.ws x.val x.isLt).1
    have q4 := (hc.m.ws x.val x.isLt).2
    have hcw := cnt_le (fun j => P.1 (64 * x.val + j) && inr lo hi (64 * x.val + j)) 64
    have hlen2 : (pre.map fun x => x.val).length < (n + 63) / 64 := by simpa using hlen
    have hand : bits BinOp.and IntKind.u64 (wdo P.1 x.val : Nat) (wdo (inr lo hi) x.val : Nat) = (wd (fun j => P.1 (64 * x.val + j) && inr lo hi (64 * x.val + j)) 64 : Nat) := and_wd _ _
    have hnot : bits BinOp.andNot IntKind.u64 (wdo P.1 x.val : Nat) (wdo (inr lo hi) x.val : Nat) = (wdo (cstep lo hi P x.val).1 x.val : Nat) := by
      rw [cstep_same]; exact andnot_wd _ _
    have hO := Lib.hid (fun w' => ones_c (wd (fun j => P.1 (64 * x.val + j) && inr lo hi (64 * x.val + j)) 64) w' (wd_lt _ _))
    rw [ones_wd] at hO
    obtain ⟨s, hs⟩ : ∃ s, s = P.2 := ⟨_, rfl⟩
    obtain ⟨d, hd⟩ : ∃ d, d = cnt (fun j => P.1 (64 * x.val + j) && inr lo hi (64 * x.val + j)) 64 := ⟨_, rfl⟩
    obtain ⟨v, hv⟩ : ∃ v, v = wd (fun j => P.1 (64 * x.val + j) && inr lo hi (64 * x.val + j)) 64 := ⟨_, rfl⟩
    rw [← hs] at q1 hsum
    rw [← hd] at hO hcw
    rw [← hv] at hand hO
    have s1 : IntKind.i64.wrap ((s : Int) + (d : Int)) = ((s + d : Nat) : Int) := by rw [IntKind.wrap_i64]; omega
    have hc' := Lib.hid hc
    have hB' := Lib.hid hB
    have hs' := Lib.hid hs
    have hd' := Lib.hid hd
    have hP' := Lib.hid hP
    have hnot' := Lib.hid hnot
    clear hc hB hs hd hv hP hsum hcw hlen hlen2 hnot
    gi_wp2
    refine Free.region (Free.round _ _ _) 8 (by kernel_rfl) (by kernel_rfl) (by kernel_rfl) ?_
    simp only [List.take_succ_cons, List.take_zero, List.drop_succ_cons, List.drop_zero]
    repeat still_step
    still_call ((hO.out _).mono fun e w' h => ⟨h.1, h.2.symm⟩)
    repeat still_step
    refine wpStill_nil ?_
    have q1' : W.drew.cell? ⟨w.heap.size, 0, none⟩ = some (.int .i64 s) := q1
    have q2' : W.drew.frozen? ⟨w.heap.size, 0, none⟩ = false := q2
    have q3' : W.drew.cell? ⟨wb, x.val, none⟩ = some (.int .u64 (wdo P.1 x.val : Nat)) := q3
    have q4' : W.drew.frozen? ⟨wb, x.val, none⟩ = false := q4
    have E := Lib.hid (And.intro hc'.out.m.drew (And.intro hB'.out.drew (And.intro (KpW.drew (KpW.refl b w1.heap.size W)) (KeepsOthers.drew W))))
    generalize W.drew = W3 at q1' q2' q3' q4' E ⊢
    have hnot := hnot'.out
    clear q1 q2 q3 q4 s1 hO hand
    gi_wp2
    have hsz := G2.out.2.2.2.2
    have hP2 : cfold lo hi f ((pre ++ [x]).map fun x => x.val) = cstep lo hi P x.val := by rw [List.map_append, List.map_singleton, cfold_snoc, hP'.out]
    have hm := (E.out.1.setOther (p := ⟨w.heap.size, 0, none⟩) (by show w.heap.size ≠ b; omega) (by show w.heap.size ≠ wb; omega) (.int .i64 ((s : Int) + (d : Int)))).store (i := x.val) (g := (cstep lo hi P x.val).1) x.isLt (fun j hj => cstep_ne lo hi P hj) (fun k hk => by simp [cstep, E.out.1.off k hk])
    have hcell : ∀ u, ((W3.setCell ⟨w.heap.size, 0, none⟩ (.int .i64 ((s : Int) + (d : Int)))).setCell ⟨wb, x.val, none⟩ u).cell? ⟨w.heap.size, 0, none⟩ = some (.int .i64 ((s : Int) + (d : Int))) := fun u => by
      rw [World.cell?_setCell_other _ _ _ _ (fun e => by have := congrArg Addr.block e; simp at this; omega)]
      exact World.cell?_setCell_same' _ _ _ (by rw [q1']; rfl)
    rw [← hP2] at hm
    refine ⟨((E.out.2.2.2.trans (KeepsOthers.setCell _ _ _)).trans (KeepsOthers.setCell _ _ _)).from _,
      (E.out.2.2.1.trans (KpW.set _ (p := ⟨w.heap.size, 0, none⟩) (by show w.heap.size ≠ b; omega) (by show w.heap.size ≠ _; omega) (by show w.heap.size ≠ _; omega) (by show w.heap.size ≠ _; omega) _)).trans
        (KpW.set _ (p := ⟨wb, x.val, none⟩) (by show wb ≠ b; omega) (by show wb ≠ _; omega) (by show wb ≠ _; omega) (by show wb ≠ _; omega) _),
      ⟨?_, ?_, ?_⟩, (E.out.2.1.setCell (p := ⟨w.heap.size, 0, none⟩) (.inl (Nat.le_refl _)) _).setCell (p := ⟨wb, x.val, none⟩) (.inr rfl) _⟩
    · rw [hcell, hP2]
      simp only [cstep, ← hs'.out, ← hd'.out]
      rfl
    · rw [World.frozen?_setCell, World.frozen?_setCell]; exact q2'
    · rw [hP2] at hm ⊢
      exact hm
  case done =>
    rintro D ys W hD hS ⟨hc, hB⟩ hK
    have q1 := hc.c
    have hlohi : hi ≤ n := by have := hhi'.out; omega
    have hv : (∀ k, (cfold lo hi f (ys.map fun x => x.val)).1 k = (f k && !inr lo hi k)) ∧ (cfold lo hi f (ys.map fun x => x.val)).2 = cnt (fun k => f k && inr lo hi k) n := by
      rcases hS with ⟨h0, rfl⟩ | ⟨h0, hy⟩
      · have hz : ∀ k, inr lo hi k = false := fun k => by simp only [inr, Bool.and_eq_false_iff, decide_eq_false_iff_not]; omega
        exact ⟨fun k => by simp [cfold, hz k], (cnt_zero (fun j _ => by simp [hz j])).symm⟩
      · rw [hy]
        exact cfold_all lo hi _ n f (by omega) hlohi
    rw [hv.2] at q1
    have hm := hc.m.congr hv.1
    have hB' := Lib.hid hB
    have hm' := Lib.hid hm
    clear hS hc hv hB hm
    gi_wp2
    refine ⟨by simp, .inl ⟨_, _, rfl, run_takeDeferred hK, ?_⟩⟩
    exact ⟨_, results_tmp rfl _ _ _, rfl, hm'.out.kept (grownBy_putObj' _ D (.deferred none)) (fun r e => by cases e; exact ⟨_, hK, rfl⟩), hB'.out.trans (Off.of_below (belowK_b (w := w) (Nat.le_refl _) W D _ _ (by have := G2.out.2.2.2.2; omega) hK rfl rfl))⟩
  case stop =>
    rintro D c pre W _ _ h _
    exact h.elim
end Go.Proofs.YticfpnhfhhagpaaDoor
namespace Go.Proofs.YticfpnhfhhagpaaDoor
open Go.RowKit Go.Shelf
set_option linter.unusedVariables false
attribute [local go_sem] Oper.semAt_some

/-- What a look holds between two rounds: nothing is set in the words that came. -/
structure AnyI (w : World) (b wb n lo hi : Nat) (f : Nat → Bool) (l : List Nat) (W : World) : Prop where
  c : W.cell? ⟨w.heap.size, 0, none⟩ = some (.bool false)
  fr : W.frozen? ⟨w.heap.size, 0, none⟩ = false
  m : MapAt W b wb n f
  off : ∀ i ∈ l, ∀ j, j < 64 → (f (64 * i + j) && inr lo hi (64 * i + j)) = false
theorem AnyI.kept {w : World} {b wb n lo hi : Nat} {f : Nat → Bool} {l : List Nat} {W W' : World} {row : Option Nat} (h : AnyI w b wb n lo hi f l W) (hg : W.grownBy W' row) (hr : ∀ r, row = some r → ∃ o : Obj, W.heap[r]? = some o ∧ o.isCells = false) : AnyI w b wb n lo hi f l W' :=
  ⟨cell_kept h.c hg hr, (frozen_kept h.c hg hr).trans h.fr, h.m.kept hg hr, h.off⟩
/-- A round has left: something is set. -/
structure AnyX (w : World) (lo hi n : Nat) (f : Nat → Bool) (c : Code) (W : World) : Prop where
  ret : c = .ret
  c : W.cell? ⟨w.heap.size, 0, none⟩ = some (.bool true)
  pos : 0 < cnt (fun k => f k && inr lo hi k) n
theorem AnyX.kept {w : World} {lo hi n : Nat} {f : Nat → Bool} {c : Code} {W W' : World} {row : Option Nat} (h : AnyX w lo hi n f c W) (hg : W.grownBy W' row) (hr : ∀ r, row = some r → ∃ o : Obj, W.heap[r]? = some o ∧ o.isCells = false) : AnyX w lo hi n f c W' :=
  ⟨h.ret, cell_kept h.c hg hr, h.pos⟩

set_option maxRecDepth 100000 in
set_option maxHeartbeats 2000000 in
theorem any_any (b wb n lo hi : Nat) (f : Nat → Bool) (fr to_ : Int) (w : World) (H : MapAt w b wb n f) (h1 : -9223372036854775808 ≤ fr) (h2 : to_ ≤ 9223372036854775807) (hlo : max fr 0 = (lo : Int)) (hhi : (min to_ n).toNat = hi) :
    Calls Tryd.prog 45 #[.pointer (some ⟨b, 0, none⟩), .int .i64 fr, .int .i64 to_] w fun e W' => e = .returned (.bool (decide (0 < cnt (fun k => f k && inr lo hi k) n))) ∧ Below w.heap.size w W' := by
  refine (callsIn_wide (n := 5)).1 ?_
  have hlb := H.lb
  have hlw := H.lw
  have hne := H.ne
  have hle := H.le
  obtain ⟨w1, hw1⟩ : ∃ w1, w1 = w.alloc (.cells #[.bool false] 4) := ⟨_, rfl⟩
  have H1 : MapAt w1 b wb n f := by rw [hw1]; exact H.alloc _
  have hs1 : w1.heap.size = w.heap.size + 1 := by rw [hw1]; simp
  have hb1 : Below w.heap.size w w1 := by rw [hw1]; exact (Below.refl _ w).alloc (Nat.le_refl _) _
  have q1 : w1.cell? ⟨w.heap.size, 0, none⟩ = some (.bool false) ∧ w1.frozen? ⟨w.heap.size, 0, none⟩ = false := by rw [hw1]; exact new_cell rfl _ rfl
  have hP := Lib.hid (parts_any b wb n f fr to_ w1 H1 h1 h2)
  have G := Lib.hid (And.intro H1 (And.intro hs1 (And.intro hb1 q1)))
  have hw1' := Lib.hid hw1
  have hlo' := Lib.hid hlo
  have hhi' := Lib.hid hhi
  clear H H1 hs1 hb1 q1 hw1 h1 h2 hlo hhi
  refine callsIn_of_wp_marks Tryd.func45 rfl trivial ?_ rfl
  simp only [Tryd.ntmps45, List.size_toArray, List.length_cons, List.length_nil, Nat.reduceAdd, Nat.reduceSub, Array.replicate_succ, Array.replicate_zero, List.push_toArray, List.append_toArray, List.nil_append, List.cons_append]
  gi_wp2_with fail
  rw [← hw1'.out]
  refine ⟨trivial, (callsIn_wide.2 hP.out).mono ?_⟩
  rintro e w2 ⟨rfl, hb2, hs2, k0, k1, k2⟩
  obtain ⟨H1, hs1, hb1, q1, q2⟩ := G.out
  have H2 : MapAt w2 b wb n f := H1.below hb2 (by omega) (by omega)
  have hps : PartsAt w2 b wb n w1.heap.size lo (min to_ n) := ⟨H2.h0, k0, by rw [k1, hlo'.out], k2⟩
  have c1 : w2.cell? ⟨w.heap.size, 0, none⟩ = some (.bool false) := (hb2.cell (p := ⟨w.heap.size, 0, none⟩) (by show w.heap.size < _; omega)).trans q1
  have c2 : w2.frozen? ⟨w.heap.size, 0, none⟩ = false := (hb2.frozen (p := ⟨w.heap.size, 0, none⟩) (by show w.heap.size < _; omega)).trans q2
  have hB2 : Below w.heap.size w w2 := hb1.trans (hb2.mono (by omega))
  have st := Lib.hid (words_stops 4 (by omega) b wb n w1.heap.size lo (min to_ n) lo hi rfl hhi'.out (by omega) hle w2 hps (by omega) (by omega))
  have G2 := Lib.hid (And.intro H2 (And.intro c1 (And.intro c2 (And.intro hB2 (And.intro hs2 hs1)))))
  clear H1 hb1 q1 q2 H2 hps c1 c2 hB2 k0 k1 k2 hb2 hs2 hP G hs1
  gi_wp2_with fail
  refine wpIn_rangeFunc_ownG rfl (by decide) (gf := 78) (lb := #[.pointer (some ⟨w1.heap.size + 1, 0, none⟩), .pointer (some ⟨w1.heap.size + 1 + 1, 0, none⟩), .pointer (some ⟨w1.heap.size, 0, none⟩)]) rfl trivial (enters_of Tryd.func78 (by kernel_rfl) rfl)
    st.out KpW.trans (KpW.put (by have := G2.out.2.2.2.2; omega) (by have := G2.out.2.2.2.2; omega)) (Below.refl _ _) (fun _ => rfl)
    (fun pre W => AnyI w b wb n lo hi f (pre.map fun x => x.val) W ∧ Below w.heap.size w W)
    (fun c pre W => AnyX w lo hi n f c W ∧ Below w.heap.size w W)
    (OwnFrom.and (Own.from (fun s A B row hs hg hr => hs.kept hg hr) _) (ownFrom_below (Nat.le_refl _) (by have := G2.out.2.2.2.2; omega)))
    (fun c => OwnFrom.and (Own.from (fun s A B row hs hg hr => hs.kept hg hr) _) (ownFrom_below (Nat.le_refl _) (by have := G2.out.2.2.2.2; omega)))
    ⟨⟨G2.out.2.1, G2.out.2.2.1, G2.out.1, fun i hi => by simp at hi⟩, G2.out.2.2.2.1⟩
    (fun x => { tmps := #[.pointer (some ⟨b, 0, none⟩), .int .i64 fr, .int .i64 to_, undef, undef, undef, .pointer (some ⟨w.heap.size, 0, none⟩), .pointer (some ⟨wb, x.val, none⟩), .int .u64 (wdo (inr lo hi) x.val : Nat), .pointer (some ⟨b, 0, none⟩), .int .i64 fr, .int .i64 to_, .func (.func 78) #[] #[.pointer (some ⟨w1.heap.size + 1, 0, none⟩), .pointer (some ⟨w1.heap.size + 1 + 1, 0, none⟩), .pointer (some ⟨w1.heap.size, 0, none⟩)], .pointer (some ⟨wb, x.val, none⟩), .int .u64 (wdo (inr lo hi) x.val : Nat), undef, undef, undef, undef, undef, undef], defers := [] }) ?assign ?body ?done ?stop
  case assign =>
    intro l x W K hK
    dsimp only [tgEnc]
    gi_wp2
    exact hK
  case body =>
    rintro l pre x W ⟨hc, hB⟩ hlen
    have q1 := hc.c
    have q2 := hc.fr
    have q3 := (hc.m.ws x.val x.isLt).1
    have hand : bits BinOp.and IntKind.u64 (wdo f x.val : Nat) (wdo (inr lo hi) x.val : Nat) = (wd (fun j => f (64 * x.val + j) && inr lo hi (64 * x.val + j)) 64 : Nat) := and_wd _ _
    obtain ⟨v, hv⟩ : ∃ v, v = wd (fun j => f (64 * x.val + j) && inr lo hi (64 * x.val + j)) 64 := ⟨_, rfl⟩
    rw [← hv] at hand
    have hc' := Lib.hid hc
    have hB' := Lib.hid hB
    have hv' := Lib.hid hv
    clear hc hB hv hlen
    by_cases hz : v = 0
    · subst hz
      gi_wp2
      refine ⟨KeepsFrom.refl _ _, KpW.refl _ _ _, ⟨hc'.out.c, hc'.out.fr, hc'.out.m, fun i hi => ?_⟩, hB'.out⟩
      rw [List.map_append] at hi
      rcases List.mem_append.1 hi with h | h
      · exact hc'.out.off i h
      · obtain rfl : i = x.val := by simpa using h
        exact wd_zero.1 hv'.out.symm
    · have hz1 : ((v : Int) != 0) = true := by simp; omega
      have hz2 : ((v : Int) == 0) = false := by simp; omega
      gi_wp2
      have hsz := G2.out.2.2.2.2
      refine ⟨(KeepsOthers.setCell _ _ _).from _, ⟨rfl, World.cell?_setCell_same' _ _ _ (by rw [q1]; rfl), ?_⟩, hB'.out.setCell (p := ⟨w.heap.size, 0, none⟩) (Nat.le_refl _) _⟩
      have hne0 : ¬ ∀ j, j < 64 → (f (64 * x.val + j) && inr lo hi (64 * x.val + j)) = false := fun h => hz (hv'.out.trans (wd_zero.2 h))
      have hpos : 0 < cnt (fun j => f (64 * x.val + j) && inr lo hi (64 * x.val + j)) 64 := by
        rcases Nat.eq_zero_or_pos (cnt (fun j => f (64 * x.val + j) && inr lo hi (64 * x.val + j)) 64) with h | h
        · exfalso
          refine hne0 fun j hj => ?_
          cases e : (f (64 * x.val + j) && inr lo hi (64 * x.val + j))
          · rfl
          · have := cnt_pos_of (g := fun j => f (64 * x.val + j) && inr lo hi (64 * x.val + j)) hj e
            omega
        · exact h
      obtain ⟨j, hj, hg⟩ := cnt_pos hpos
      have hkn : 64 * x.val + j < n := by
        rcases Nat.lt_or_ge (64 * x.val + j) n with h | h
        · exact h
        · have := hc'.out.m.off _ h
          simp [this] at hg
      exact cnt_pos_of hkn hg
  case done =>
    rintro D ys W hD hS ⟨hc, hB⟩ hK
    have q1 := hc.c
    have q2 := hc.fr
    have hlohi : hi ≤ n := by have := hhi'.out; omega
    have hv : cnt (fun k => f k && inr lo hi k) n = 0 := by
      refine cnt_zero fun k hk => ?_
      rcases hS with ⟨h0, rfl⟩ | ⟨h0, hy⟩
      · have hz : inr lo hi k = false := by simp only [inr, Bool.and_eq_false_iff, decide_eq_false_iff_not]; omega
        simp [hz]
      · by_cases hin : lo ≤ k ∧ k < hi
        · have hmem : k / 64 ∈ ys.map (fun x => x.val) := by
            rw [hy, List.mem_map]
            exact ⟨k / 64 - lo / 64, by rw [List.mem_range]; omega, by omega⟩
          have := hc.off _ hmem (k % 64) (by omega)
          rwa [show 64 * (k / 64) + k % 64 = k by omega] at this
        · have hz : inr lo hi k = false := by simp only [inr, Bool.and_eq_false_iff, decide_eq_false_iff_not]; omega
          simp [hz]
    have hB' := Lib.hid hB
    have hv' := Lib.hid hv
    have hc' := Lib.hid hc
    clear hS hc hv hB
    gi_wp2
    have hK' := (KeepsOthers.setCell W ⟨w.heap.size, 0, none⟩ (.bool false)).same D _ hK rfl
    refine ⟨by simp, .inl ⟨_, _, rfl, run_takeDeferred hK', ?_⟩⟩
    have hc5 := cell_kept (World.cell?_setCell_same' W ⟨w.heap.size, 0, none⟩ (.bool false) (by rw [hc'.out.c]; rfl)) (grownBy_putObj' _ D (.deferred none)) (fun r e => by cases e; exact ⟨_, hK', rfl⟩)
    refine ⟨.bool false, ?_, by rw [hv'.out]; rfl, (hB'.out.setCell (p := ⟨w.heap.size, 0, none⟩) (Nat.le_refl _) _).trans (belowK_b (w := w) (Nat.le_refl _) _ D _ _ (by have := G2.out.2.2.2.2; omega) hK' rfl rfl)⟩
    simp [results, Tryd.f45, go_sem, hc5]
  case stop =>
    rintro D c pre W hD _ ⟨⟨rfl, q1, hp⟩, hB⟩ hK
    have hB' := Lib.hid hB
    have hp' := Lib.hid hp
    have q1' := Lib.hid q1
    clear hB hp
    gi_wp2
    refine ⟨by simp, .inl ⟨_, _, rfl, run_takeDeferred hK, ?_⟩⟩
    have hc5 := cell_kept q1'.out (grownBy_putObj' _ D (.deferred none)) (fun r e => by cases e; exact ⟨_, hK, rfl⟩)
    refine ⟨.bool true, ?_, ret_bool (by simp [hp'.out]), hB'.out.trans (belowK_b (w := w) (Nat.le_refl _) W D _ _ (by have := G2.out.2.2.2.2; omega) hK rfl rfl)⟩
    simp [results, Tryd.f45, go_sem, hc5]
end Go.Proofs.YticfpnhfhhagpaaDoor
namespace Go.Proofs.YticfpnhfhhagpaaDoor
open Go.RowKit
set_option linter.unusedVariables false

/-- A call on a map has answered v; the map is as g tells; nothing else has turned. -/
def Next (b wb n : Nat) (g : Nat → Bool) (w : World) (v : Value) (e : Ending) (W' : World) : Prop :=
  e = .returned v ∧ MapAt W' b wb n g ∧ Off w.heap.size wb w W'

section
variable {b wb n : Nat} {f g : Nat → Bool} {w : World}
theorem next_drew {v : Value} {e : Ending} {W' : World} (H : MapAt w b wb n f) (h : e = .returned v ∧ ∃ k, w.drewN k = W') : Next b wb n f w v e W' := by
  obtain ⟨rfl, k, rfl⟩ := h
  exact ⟨rfl, H.drewN k, (Off.refl _ _ _).drewN k⟩
theorem next_below {v : Value} {e : Ending} {W' : World} (H : MapAt w b wb n f) (h : e = .returned v ∧ Below w.heap.size w W') : Next b wb n f w v e W' :=
  ⟨h.1, H.below h.2 H.lb H.lw, Off.of_below h.2⟩
theorem len_u (H : MapAt w b wb n f) (v : Int) (hv : (n : Int) = v) : Calls Tryd.prog 60 #[.pointer (some ⟨b, 0, none⟩)] w (Next b wb n f w (.int .i64 v)) := by
  subst hv
  exact (len_any b wb n f w H).mono fun e W' h => next_drew H ⟨h.1, 0, h.2⟩
theorem put_u (H : MapAt w b wb n f) (a : Int) (v : Bool) (r : Bool) (hr : decide (0 ≤ a ∧ a < n) = r) (g : Nat → Bool) (hg : ∀ k, (if r then upd f a.toNat v else f) k = g k) :
    Calls Tryd.prog 46 #[.pointer (some ⟨b, 0, none⟩), .int .i64 a, .bool v] w (Next b wb n g w (.bool r)) := by
  cases r
  · have ha : a < 0 ∨ (n : Int) ≤ a := by have := of_decide_eq_false hr; omega
    have H' : MapAt w b wb n g := H.congr hg
    exact (tput_no b wb n g a v w H' ha).mono fun e W' h => next_drew H' ⟨h.1, 0, h.2⟩
  · have ha := of_decide_eq_true hr
    obtain ⟨a, rfl⟩ := Int.eq_ofNat_of_zero_le ha.1
    exact (tput_any b wb n f a v w H (by omega)).mono fun e W' h => ⟨h.1, h.2.1.congr hg, h.2.2⟩
theorem get_u (H : MapAt w b wb n f) (a : Int) (v : Bool) (hv : (decide (0 ≤ a ∧ a < n) && f a.toNat) = v) :
    Calls Tryd.prog 86 #[.pointer (some ⟨b, 0, none⟩), .int .i64 a] w (Next b wb n f w (.bool v)) := by
  subst hv
  by_cases ha : 0 ≤ a ∧ a < n
  · rw [decide_eq_true ha, Bool.true_and]
    obtain ⟨a, rfl⟩ := Int.eq_ofNat_of_zero_le ha.1
    exact (get_yes b wb n f a w H (by omega)).mono fun e W' h => next_drew H h
  · rw [decide_eq_false ha, Bool.false_and]
    exact (get_no b wb n f a w H (by omega)).mono fun e W' h => next_drew H h
theorem count_u (H : MapAt w b wb n f) (c : Int) (hc : ((cnt f n : Nat) : Int) = c) : Calls Tryd.prog 55 #[.pointer (some ⟨b, 0, none⟩)] w (Next b wb n f w (.int .i64 c)) := by
  subst hc
  exact (count_any b wb n f w H).mono fun e W' h => next_below H h
theorem any_u (H : MapAt w b wb n f) (fr to_ : Int) (h1 : -9223372036854775808 ≤ fr) (h2 : to_ ≤ 9223372036854775807) (v : Bool) (hv : decide (0 < cnt (fun k => f k && inr (max fr 0).toNat (min to_ n).toNat k) n) = v) :
    Calls Tryd.prog 45 #[.pointer (some ⟨b, 0, none⟩), .int .i64 fr, .int .i64 to_] w (Next b wb n f w (.bool v)) := by
  subst hv
  exact (any_any b wb n (max fr 0).toNat (min to_ n).toNat f fr to_ w H h1 h2 (by omega) rfl).mono fun e W' h => next_below H h
theorem clear_u (H : MapAt w b wb n f) (fr to_ : Int) (h1 : -9223372036854775808 ≤ fr) (h2 : to_ ≤ 9223372036854775807) (c : Int) (hc : ((cnt (fun k => f k && inr (max fr 0).toNat (min to_ n).toNat k) n : Nat) : Int) = c)
    (g : Nat → Bool) (hg : ∀ k, (f k && !inr (max fr 0).toNat (min to_ n).toNat k) = g k) :
    Calls Tryd.prog 70 #[.pointer (some ⟨b, 0, none⟩), .int .i64 fr, .int .i64 to_] w (Next b wb n g w (.int .i64 c)) := by
  subst hc
  exact (clear_any b wb n (max fr 0).toNat (min to_ n).toNat f fr to_ w H h1 h2 (by omega) rfl).mono fun e W' h => ⟨h.1, h.2.1.congr hg, h.2.2⟩
end


def s0 : Nat → Bool := fun _ => false
def s1 : Nat → Bool := upd s0 3 true
def s2 : Nat → Bool := upd s1 70 true
def s3 : Nat → Bool := fun k => s2 k && !inr 0 70 k

end Go.Proofs.YticfpnhfhhagpaaDoor
namespace Go.Proofs.YticfpnhfhhagpaaDoor
open Go.RowKit
set_option linter.unusedVariables false

theorem row_made (n : Nat) (w : World) (T : TypeId) : ((w.alloc (.cells (madeCells #[.int .u64 0] n) 38)).alloc (.cells #[.slice (some ⟨w.heap.size, 0, none⟩) n n, .int .i64 n, .bool true] T)).heap[w.heap.size]? = some (.cells (List.replicate n (Value.int .u64 0)).toArray 38 (0, 0)) := by
  rw [Below.heap_alloc _ _ _ (by simp)]
  show (w.heap.push _)[w.heap.size]? = _
  have e : madeCells #[Value.int .u64 0] n = (List.replicate n (Value.int .u64 0)).toArray := by
    apply Array.ext
    · simp [madeCells]
    · intro i h1 h2
      simp [madeCells, Nat.mod_one]
  simp [e]
set_option maxRecDepth 100000 in
theorem new_full (n : Nat) (w : World) (h : n ≤ 1048576) : Calls Tryd.prog 42 #[.int .i64 n] w fun e w' => e = .returned (.pointer (some ⟨w.heap.size + 1, 0, none⟩)) ∧ MapAt w' (w.heap.size + 1) w.heap.size n (fun _ => false) ∧ Below w.heap.size w w' ∧ w.heap.size + 2 = w'.heap.size ∧
    w'.heap[w.heap.size]? = some (.cells (List.replicate ((n + 63) / 64) (Value.int .u64 0)).toArray 38 (0, 0)) := by
  have hmk : ∀ w, (Instr.makeSlice 109 (.int .i64 (((n : Int) + 64 - 1) / 64)) (.int .i64 (((n : Int) + 64 - 1) / 64))).run Tryd.prog w = .ok (.slice (some ⟨w.heap.size, 0, none⟩) ((n + 63) / 64) ((n + 63) / 64)) (w.alloc (.cells (madeCells #[.int .u64 0] ((n + 63) / 64)) 38)) := fun w => by
    have e : ((n : Int) + 64 - 1) / 64 = (((n + 63) / 64 : Nat) : Int) := by omega
    rw [e]
    exact run_make_row' 109 38 (.int .u64 0) 8 Tryd.underlying109 info64 rfl .i64 .i64 ((n + 63) / 64) (by omega) (by omega) w
  have H := Lib.hid (made_map n w h)
  have H2 : ((w.alloc (.cells (madeCells #[.int .u64 0] ((n + 63) / 64)) 38)).alloc (.cells #[.slice (some ⟨w.heap.size, 0, none⟩) ((n + 63) / 64) ((n + 63) / 64), .int .i64 n, .bool true] 111)).heap[w.heap.size]? = some (.cells (List.replicate ((n + 63) / 64) (Value.int .u64 0)).toArray 38 (0, 0)) := by
    rw [Below.heap_alloc _ _ _ (by simp)]
    exact (Below.heap_alloc _ _ _ (by simp)).symm.trans (row_made ((n + 63) / 64) w 111)
  have H2 := Lib.hid H2
  go_enter Tryd.func42, Tryd.ntmps42
  go_wp2
  go_ret
  refine ⟨rfl, H.out, ((Below.refl _ w).alloc (Nat.le_refl _) _).alloc (by simp) _, by simp, H2.out⟩

/-- The words of a set of places, as cells. -/
def wordsL (f : Nat → Bool) (m : Nat) : List Value := (List.range m).map fun i => .int .u64 (wdo f i : Nat)
theorem wordsL_length (f : Nat → Bool) (m : Nat) : (wordsL f m).length = m := by simp [wordsL]
theorem wordsL_get (f : Nat → Bool) (m : Nat) {i : Nat} (h : i < m) : (wordsL f m)[i]? = some (.int .u64 (wdo f i : Nat)) := by simp [wordsL, h]

theorem laid_words {W : World} {b g n : Nat} {f : Nat → Bool} (H : MapAt W b g n (fun _ => false)) (hoff : ∀ k, n ≤ k → f k = false)
    (hg : W.heap[g]? = some (.cells (List.replicate ((n + 63) / 64) (Value.int .u64 0)).toArray 38 (0, 0))) :
    MapAt (W.setRow g ((List.replicate ((n + 63) / 64) (Value.int .u64 0)).take 0 ++ (wordsL f ((n + 63) / 64) ++ (List.replicate ((n + 63) / 64) (Value.int .u64 0)).drop (0 + (wordsL f ((n + 63) / 64)).length))).toArray) b g n f := by
  have hrow := setRow_heap W g _ ((List.replicate ((n + 63) / 64) (Value.int .u64 0)).take 0 ++ (wordsL f ((n + 63) / 64) ++ (List.replicate ((n + 63) / 64) (Value.int .u64 0)).drop (0 + (wordsL f ((n + 63) / 64)).length))).toArray 38 (0, 0) hg
  generalize hW : W.setRow g _ = W2 at hrow ⊢
  have ho : ∀ o, W2.cell? ⟨b, o, none⟩ = W.cell? ⟨b, o, none⟩ := fun o => World.cell?_of_block (by rw [← hW]; exact setRow_other W g b _ H.ne)
  have hsz : W2.heap.size = W.heap.size := by rw [← hW]; simp [World.setRow]
  refine ⟨(ho 0).trans H.h0, (ho 1).trans H.h1, (ho 2).trans H.h2, fun i hi => ?_, H.ne, by rw [hsz]; exact H.lb, by rw [hsz]; exact H.lw, hoff, H.le⟩
  have hc : ((List.replicate ((n + 63) / 64) (Value.int .u64 0)).take 0 ++ (wordsL f ((n + 63) / 64) ++ (List.replicate ((n + 63) / 64) (Value.int .u64 0)).drop (0 + (wordsL f ((n + 63) / 64)).length))) = wordsL f ((n + 63) / 64) := by simp [wordsL_length]
  rw [hc] at hrow
  constructor
  · simp [World.cell?, hrow, wordsL, hi]
  · simp [World.frozen?, hrow]

set_option maxRecDepth 100000 in
theorem copy_any (b wb n : Nat) (f : Nat → Bool) (w : World) (H : MapAt w b wb n f) : Calls Tryd.prog 59 #[.pointer (some ⟨b, 0, none⟩)] w fun e w' => e = .returned (.pointer (some ⟨w.heap.size + 1, 0, none⟩)) ∧ MapAt w' (w.heap.size + 1) w.heap.size n f ∧ Below w.heap.size w w' ∧ w.heap.size + 2 = w'.heap.size := by
  have q0 := H.h0
  have q1 := H.h1
  have q2 := H.h2
  have hN := Lib.hid (new_full n w H.le)
  have hH := Lib.hid H
  clear H
  go_enter Tryd.func59, Tryd.ntmps59
  go_wp2_with fail
  refine hN.out.mono ?_
  rintro e W1 ⟨rfl, m1, b1, z1, r1⟩
  have H1 : MapAt W1 b wb n f := hH.out.below b1 hH.out.lb hH.out.lw
  have p0 := m1.h0
  have p1 := H1.h0
  obtain ⟨g, hg⟩ : ∃ g, g = w.heap.size := ⟨_, rfl⟩
  rw [← hg] at m1 b1 z1 r1 p0
  rw [← hg]
  have hg' := Lib.hid hg
  obtain ⟨m, hm⟩ : ∃ m, m = (n + 63) / 64 := ⟨_, rfl⟩
  rw [← hm] at r1 p0 p1
  have G := Lib.hid (And.intro m1 (And.intro b1 (And.intro z1 (And.intro H1 hm))))
  have R1 := Lib.hid r1
  clear m1 b1 z1 r1 H1 hm hg q0 q1 q2 hN
  go_wp2_with fail
  go_still_tail 8, (by kernel_rfl)
  change wpList _ _ _ _ _ W1.drew
  have hoff := hH.out.off
  have hne : b ≠ g ∧ g + 1 ≠ g := by have := hH.out.lb; have := hg'.out; omega
  rcases Nat.eq_zero_or_pos m with hm | hm
  · refine wpList_copy_nothing rfl (.tmp 21) (.tmp 25) 109 109 rfl 38 Tryd.underlying109 (by kernel_rfl) _ _ m m m m rfl rfl (by simp [hm]) ?_
    have HM : MapAt W1.drew (g + 1) g n f := G.out.1.drew.congr fun k => (hoff k (by have := G.out.2.2.2.2; omega)).symm
    have E := Lib.hid (And.intro HM (And.intro G.out.2.1.drew (show w.heap.size + 2 = W1.drew.heap.size from by have := G.out.2.2.1; have := hg'.out; show _ = W1.heap.size; omega)))
    generalize W1.drew = W2 at E ⊢
    clear HM hoff hm p0 p1
    go_wp2
    go_ret
    refine ⟨?_, ?_, ?_, E.out.2.2⟩
    · rw [← hg'.out]; rfl
    · rw [← hg'.out]; exact E.out.1
    · rw [← hg'.out]; exact E.out.2.1
  · refine wpList_copy_own rfl (.tmp 21) (.tmp 25) 109 109 rfl 38 Tryd.underlying109 (by kernel_rfl) g 0 m m ⟨wb, 0, none⟩ m m rfl rfl _ 38 R1.out (wordsL f m) (by simp [wordsL_length]) ?_ (by simp [wordsL_length]) ?_ ?_
    · intro j v hv
      have hj : j < m := by
        have := (List.getElem?_eq_some_iff.1 hv).1
        simpa [wordsL_length] using this
      rw [wordsL_get f m hj] at hv
      cases hv
      rw [Addr.add_lit]
      have := (G.out.2.2.2.1.ws j (by have := G.out.2.2.2.2; omega)).1
      simpa using this
    · intro v hv
      simp only [wordsL, List.mem_map] at hv
      obtain ⟨i, _, rfl⟩ := hv
      rfl
    · have hm2 := G.out.2.2.2.2
      subst hm2
      have HM := laid_words (W := W1.drew) G.out.1.drew hoff R1.out
      have hO : ∀ cs, Below w.heap.size w (W1.drew.setRow g cs) := fun cs => below_setRow (by have := G.out.2.1.drew; rw [hg'.out] at this; exact this) (by have := hg'.out; omega) cs
      have hZ : ∀ cs, w.heap.size + 2 = (W1.drew.setRow g cs).heap.size := fun cs => by
        have h1 := G.out.2.2.1
        have h2 := hg'.out
        have h3 : (W1.drew.setRow g cs).heap.size = W1.heap.size := by show (Array.modify W1.heap g _).size = _; simp
        omega
      obtain ⟨W2, hW2⟩ : ∃ W2, W2 = W1.drew.setRow g ((List.replicate ((n + 63) / 64) (Value.int .u64 0)).take 0 ++ (wordsL f ((n + 63) / 64) ++ (List.replicate ((n + 63) / 64) (Value.int .u64 0)).drop (0 + (wordsL f ((n + 63) / 64)).length))).toArray := ⟨_, rfl⟩
      change wpList _ _ _ _ _ (W1.drew.setRow g ((List.replicate ((n + 63) / 64) (Value.int .u64 0)).take 0 ++ (wordsL f ((n + 63) / 64) ++ (List.replicate ((n + 63) / 64) (Value.int .u64 0)).drop (0 + (wordsL f ((n + 63) / 64)).length))).toArray)
      rw [← hW2] at HM ⊢
      have E := Lib.hid (And.intro HM (And.intro (show Below w.heap.size w W2 from by rw [hW2]; exact hO _) (show w.heap.size + 2 = W2.heap.size from by rw [hW2]; exact hZ _)))
      clear HM hO hZ p0 p1 hm hoff hW2
      simp only [wordsL_length]
      go_wp2
      go_ret
      refine ⟨?_, ?_, E.out.2.1, E.out.2.2⟩
      · rw [← hg'.out]; rfl
      · rw [← hg'.out]; exact E.out.1
end Go.Proofs.YticfpnhfhhagpaaDoor
