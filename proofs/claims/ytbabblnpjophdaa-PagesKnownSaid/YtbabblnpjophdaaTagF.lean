/- Contracts of layer tags: Any. No statement is proved here. -/
import Derived.Test.YtbabblnpjophdaaTagD
namespace Go.Proofs.Ytbabblnpjophdaa
open Go.RowKit Go.Shelf
set_option linter.unusedVariables false
attribute [local go_sem] Oper.semAt_some

/-- What a look holds between two rounds: nothing is set in the words that came. -/
structure AnyI (w : World) (b wb n lo hi : Nat) (f : Nat → Bool) (l : List Nat) (W : World) : Prop where
  c : W.cell? ⟨w.heap.size, 0, none⟩ = some (.bool false)
  fr : W.frozen? ⟨w.heap.size, 0, none⟩ = false
  m : MapAt W b wb n f
  off : ∀ i ∈ l, ∀ j, j < 64 → (f (64 * i + j) && inr lo hi (64 * i + j)) = false
theorem AnyI.kept {w : World} {b wb n lo hi : Nat} {f : Nat → Bool} {l : List Nat} {W W' : World} {row : Option Nat} (h : AnyI w b wb n lo hi f l W) (hg : W.grownBy W' row) (hr : ∀ r, row = some r → ∃ o : Obj, W.heap[r]? = some o ∧ o.isCells = false) : AnyI w b wb n lo hi f l W' :=
  ⟨cell_kept h.c hg hr, (frozen_kept h.c hg hr).trans h.fr, h.m.kept hg hr, h.off⟩
/-- A round has left: something is set. -/
structure AnyX (w : World) (lo hi n : Nat) (f : Nat → Bool) (c : Code) (W : World) : Prop where
  ret : c = .ret
  c : W.cell? ⟨w.heap.size, 0, none⟩ = some (.bool true)
  pos : 0 < cnt (fun k => f k && inr lo hi k) n
theorem AnyX.kept {w : World} {lo hi n : Nat} {f : Nat → Bool} {c : Code} {W W' : World} {row : Option Nat} (h : AnyX w lo hi n f c W) (hg : W.grownBy W' row) (hr : ∀ r, row = some r → ∃ o : Obj, W.heap[r]? = some o ∧ o.isCells = false) : AnyX w lo hi n f c W' :=
  ⟨h.ret, cell_kept h.c hg hr, h.pos⟩

set_option maxRecDepth 100000 in
set_option maxHeartbeats 2000000 in
theorem any_any (b wb n lo hi : Nat) (f : Nat → Bool) (fr to_ : Int) (w : World) (H : MapAt w b wb n f) (h1 : -9223372036854775808 ≤ fr) (h2 : to_ ≤ 9223372036854775807) (hlo : max fr 0 = (lo : Int)) (hhi : (min to_ n).toNat = hi) :
    Calls Try.prog 25 #[.pointer (some ⟨b, 0, none⟩), .int .i64 fr, .int .i64 to_] w fun e W' => e = .returned (.bool (decide (0 < cnt (fun k => f k && inr lo hi k) n))) ∧ Below w.heap.size w W' := by
  refine (callsIn_wide (n := 5)).1 ?_
  have hlb := H.lb
  have hlw := H.lw
  have hne := H.ne
  have hle := H.le
  obtain ⟨w1, hw1⟩ : ∃ w1, w1 = w.alloc (.cells #[.bool false] 4) := ⟨_, rfl⟩
  have H1 : MapAt w1 b wb n f := by rw [hw1]; exact H.alloc _
  have hs1 : w1.heap.size = w.heap.size + 1 := by rw [hw1]; simp
  have hb1 : Below w.heap.size w w1 := by rw [hw1]; exact (Below.refl _ w).alloc (Nat.le_refl _) _
  have q1 : w1.cell? ⟨w.heap.size, 0, none⟩ = some (.bool false) ∧ w1.frozen? ⟨w.heap.size, 0, none⟩ = false := by rw [hw1]; exact new_cell rfl _ rfl
  have hP := Lib.hid (parts_any b wb n f fr to_ w1 H1 h1 h2)
  have G := Lib.hid (And.intro H1 (And.intro hs1 (And.intro hb1 q1)))
  have hw1' := Lib.hid hw1
  have hlo' := Lib.hid hlo
  have hhi' := Lib.hid hhi
  clear H H1 hs1 hb1 q1 hw1 h1 h2 hlo hhi
  refine callsIn_of_wp_marks Try.func25 rfl trivial ?_ rfl
  simp only [Try.ntmps25, List.size_toArray, List.length_cons, List.length_nil, Nat.reduceAdd, Nat.reduceSub, Array.replicate_succ, Array.replicate_zero, List.push_toArray, List.append_toArray, List.nil_append, List.cons_append]
  gi_wp2_with fail
  rw [← hw1'.out]
  refine ⟨trivial, (callsIn_wide.2 hP.out).mono ?_⟩
  rintro e w2 ⟨rfl, hb2, hs2, k0, k1, k2⟩
  obtain ⟨H1, hs1, hb1, q1, q2⟩ := G.out
  have H2 : MapAt w2 b wb n f := H1.below hb2 (by omega) (by omega)
  have hps : PartsAt w2 b wb n w1.heap.size lo (min to_ n) := ⟨H2.h0, k0, by rw [k1, hlo'.out], k2⟩
  have c1 : w2.cell? ⟨w.heap.size, 0, none⟩ = some (.bool false) := (hb2.cell (p := ⟨w.heap.size, 0, none⟩) (by show w.heap.size < _; omega)).trans q1
  have c2 : w2.frozen? ⟨w.heap.size, 0, none⟩ = false := (hb2.frozen (p := ⟨w.heap.size, 0, none⟩) (by show w.heap.size < _; omega)).trans q2
  have hB2 : Below w.heap.size w w2 := hb1.trans (hb2.mono (by omega))
  have st := Lib.hid (words_stops 4 (by omega) b wb n w1.heap.size lo (min to_ n) lo hi rfl hhi'.out (by omega) hle w2 hps (by omega) (by omega))
  have G2 := Lib.hid (And.intro H2 (And.intro c1 (And.intro c2 (And.intro hB2 (And.intro hs2 hs1)))))
  clear H1 hb1 q1 q2 H2 hps c1 c2 hB2 k0 k1 k2 hb2 hs2 hP G hs1
  gi_wp2_with fail
  refine wpIn_rangeFunc_ownG rfl (by decide) (gf := 36) (lb := #[.pointer (some ⟨w1.heap.size + 1, 0, none⟩), .pointer (some ⟨w1.heap.size + 1 + 1, 0, none⟩), .pointer (some ⟨w1.heap.size, 0, none⟩)]) rfl trivial (enters_of Try.func36 (by kernel_rfl) rfl)
    st.out KpW.trans (KpW.put (by have := G2.out.2.2.2.2; omega) (by have := G2.out.2.2.2.2; omega)) (Below.refl _ _) (fun _ => rfl)
    (fun pre W => AnyI w b wb n lo hi f (pre.map fun x => x.val) W ∧ Below w.heap.size w W)
    (fun c pre W => AnyX w lo hi n f c W ∧ Below w.heap.size w W)
    (OwnFrom.and (Own.from (fun s A B row hs hg hr => hs.kept hg hr) _) (ownFrom_below (Nat.le_refl _) (by have := G2.out.2.2.2.2; omega)))
    (fun c => OwnFrom.and (Own.from (fun s A B row hs hg hr => hs.kept hg hr) _) (ownFrom_below (Nat.le_refl _) (by have := G2.out.2.2.2.2; omega)))
    ⟨⟨G2.out.2.1, G2.out.2.2.1, G2.out.1, fun i hi => by simp at hi⟩, G2.out.2.2.2.1⟩
    (fun x => { tmps := #[.pointer (some ⟨b, 0, none⟩), .int .i64 fr, .int .i64 to_, undef, undef, undef, .pointer (some ⟨w.heap.size, 0, none⟩), .pointer (some ⟨wb, x.val, none⟩), .int .u64 (wdo (inr lo hi) x.val : Nat), .pointer (some ⟨b, 0, none⟩), .int .i64 fr, .int .i64 to_, .func (.func 36) #[] #[.pointer (some ⟨w1.heap.size + 1, 0, none⟩), .pointer (some ⟨w1.heap.size + 1 + 1, 0, none⟩), .pointer (some ⟨w1.heap.size, 0, none⟩)], .pointer (some ⟨wb, x.val, none⟩), .int .u64 (wdo (inr lo hi) x.val : Nat), undef, undef, undef, undef, undef, undef], defers := [] }) ?assign ?body ?done ?stop
  case assign =>
    intro l x W K hK
    dsimp only [tgEnc]
    gi_wp2
    exact hK
  case body =>
    rintro l pre x W ⟨hc, hB⟩ hlen
    have q1 := hc.c
    have q2 := hc.fr
    have q3 := (hc.m.ws x.val x.isLt).1
    have hand : bits BinOp.and IntKind.u64 (wdo f x.val : Nat) (wdo (inr lo hi) x.val : Nat) = (wd (fun j => f (64 * x.val + j) && inr lo hi (64 * x.val + j)) 64 : Nat) := and_wd _ _
    obtain ⟨v, hv⟩ : ∃ v, v = wd (fun j => f (64 * x.val + j) && inr lo hi (64 * x.val + j)) 64 := ⟨_, rfl⟩
    rw [← hv] at hand
    have hc' := Lib.hid hc
    have hB' := Lib.hid hB
    have hv' := Lib.hid hv
    clear hc hB hv hlen
    by_cases hz : v = 0
    · subst hz
      gi_wp2
      refine ⟨KeepsFrom.refl _ _, KpW.refl _ _ _, ⟨hc'.out.c, hc'.out.fr, hc'.out.m, fun i hi => ?_⟩, hB'.out⟩
      rw [List.map_append] at hi
      rcases List.mem_append.1 hi with h | h
      · exact hc'.out.off i h
      · obtain rfl : i = x.val := by simpa using h
        exact wd_zero.1 hv'.out.symm
    · have hz1 : ((v : Int) != 0) = true := by simp; omega
      have hz2 : ((v : Int) == 0) = false := by simp; omega
      gi_wp2
      have hsz := G2.out.2.2.2.2
      refine ⟨(KeepsOthers.setCell _ _ _).from _, ⟨rfl, World.cell?_setCell_same' _ _ _ (by rw [q1]; rfl), ?_⟩, hB'.out.setCell (p := ⟨w.heap.size, 0, none⟩) (Nat.le_refl _) _⟩
      have hne0 : ¬ ∀ j, j < 64 → (f (64 * x.val + j) && inr lo hi (64 * x.val + j)) = false := fun h => hz (hv'.out.trans (wd_zero.2 h))
      have hpos : 0 < cnt (fun j => f (64 * x.val + j) && inr lo hi (64 * x.val + j)) 64 := by
        rcases Nat.eq_zero_or_pos (cnt (fun j => f (64 * x.val + j) && inr lo hi (64 * x.val + j)) 64) with h | h
        · exfalso
          refine hne0 fun j hj => ?_
          cases e : (f (64 * x.val + j) && inr lo hi (64 * x.val + j))
          · rfl
          · have := cnt_pos_of (g := fun j => f (64 * x.val + j) && inr lo hi (64 * x.val + j)) hj e
            omega
        · exact h
      obtain ⟨j, hj, hg⟩ := cnt_pos hpos
      have hkn : 64 * x.val + j < n := by
        rcases Nat.lt_or_ge (64 * x.val + j) n with h | h
        · exact h
        · have := hc'.out.m.off _ h
          simp [this] at hg
      exact cnt_pos_of hkn hg
  case done =>
    rintro D ys W hD hS ⟨hc, hB⟩ hK
    have q1 := hc.c
    have q2 := hc.fr
    have hlohi : hi ≤ n := by have := hhi'.out; omega
    have hv : cnt (fun k => f k && inr lo hi k) n = 0 := by
      refine cnt_zero fun k hk => ?_
      rcases hS with ⟨h0, rfl⟩ | ⟨h0, hy⟩
      · have hz : inr lo hi k = false := by simp only [inr, Bool.and_eq_false_iff, decide_eq_false_iff_not]; omega
        simp [hz]
      · by_cases hin : lo ≤ k ∧ k < hi
        · have hmem : k / 64 ∈ ys.map (fun x => x.val) := by
            rw [hy, List.mem_map]
            exact ⟨k / 64 - lo / 64, by rw [List.mem_range]; omega, by omega⟩
          have := hc.off _ hmem (k % 64) (by omega)
          rwa [show 64 * (k / 64) + k % 64 = k by omega] at this
        · have hz : inr lo hi k = false := by simp only [inr, Bool.and_eq_false_iff, decide_eq_false_iff_not]; omega
          simp [hz]
    have hB' := Lib.hid hB
    have hv' := Lib.hid hv
    have hc' := Lib.hid hc
    clear hS hc hv hB
    gi_wp2
    have hK' := (KeepsOthers.setCell W ⟨w.heap.size, 0, none⟩ (.bool false)).same D _ hK rfl
    refine ⟨by simp, .inl ⟨_, _, rfl, run_takeDeferred hK', ?_⟩⟩
    have hc5 := cell_kept (World.cell?_setCell_same' W ⟨w.heap.size, 0, none⟩ (.bool false) (by rw [hc'.out.c]; rfl)) (grownBy_putObj' _ D (.deferred none)) (fun r e => by cases e; exact ⟨_, hK', rfl⟩)
    refine ⟨.bool false, ?_, by rw [hv'.out]; rfl, (hB'.out.setCell (p := ⟨w.heap.size, 0, none⟩) (Nat.le_refl _) _).trans (belowK_b (w := w) (Nat.le_refl _) _ D _ _ (by have := G2.out.2.2.2.2; omega) hK' rfl rfl)⟩
    simp [results, Try.f25, go_sem, hc5]
  case stop =>
    rintro D c pre W hD _ ⟨⟨rfl, q1, hp⟩, hB⟩ hK
    have hB' := Lib.hid hB
    have hp' := Lib.hid hp
    have q1' := Lib.hid q1
    clear hB hp
    gi_wp2
    refine ⟨by simp, .inl ⟨_, _, rfl, run_takeDeferred hK, ?_⟩⟩
    have hc5 := cell_kept q1'.out (grownBy_putObj' _ D (.deferred none)) (fun r e => by cases e; exact ⟨_, hK, rfl⟩)
    refine ⟨.bool true, ?_, ret_bool (by simp [hp'.out]), hB'.out.trans (belowK_b (w := w) (Nat.le_refl _) W D _ _ (by have := G2.out.2.2.2.2; omega) hK rfl rfl)⟩
    simp [results, Try.f25, go_sem, hc5]
end Go.Proofs.Ytbabblnpjophdaa
