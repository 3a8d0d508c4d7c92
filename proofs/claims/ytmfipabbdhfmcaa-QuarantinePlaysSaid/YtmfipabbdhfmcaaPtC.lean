/- Contracts of layer paint: are. No statement is proved here. -/
import Derived.Test.YtmfipabbdhfmcaaPtB
namespace Go.Proofs.Ytmfipabbdhfmcaa
set_option maxRecDepth 100000
open Go.RowKit Go.Shelf
set_option linter.unusedVariables false
attribute [local go_sem] Oper.semAt_some
section
variable {W W' w : World} {b wb n c d : Nat} {f : Nat → Bool} {to : Bool}
/-- May a granule be turned? -/
def okG (n : Nat) (f : Nat → Bool) (to : Bool) (k : Nat) : Bool := decide (k < n) && (f k != to)
def okR (n : Nat) (f : Nat → Bool) (a s : Nat) (to : Bool) : Bool := (List.range (s / 16)).all fun i => okG n f to (a / 16 + i)
/-- The list of both questions. -/
structure QsAt (W : World) (r b c d : Nat) : Prop where
  q0 : W.cell? ⟨r, 0, none⟩ = some (.func (.func 61) #[.agg #[.pointer (some ⟨b, 0, none⟩)]] #[])
  q1 : W.cell? ⟨r, 1, none⟩ = some (.func (.func 58) #[] #[.pointer (some ⟨c, 0, none⟩), .pointer (some ⟨d, 0, none⟩)])
  l : r < W.heap.size
theorem QsAt.grow {r : Nat} (H : QsAt W r b c d) (k : Below W.heap.size W W') : QsAt W' r b c d :=
  ⟨(k.cell (p := ⟨r, 0, none⟩) H.l).trans H.q0, (k.cell (p := ⟨r, 1, none⟩) H.l).trans H.q1, Nat.lt_of_lt_of_le H.l k.size⟩
/-- All that a round reads. -/
structure ArAll (W : World) (b wb n : Nat) (f : Nat → Bool) (r c d : Nat) (to : Bool) (q : Nat) : Prop where
  m : MapAt W b wb n f
  o : OtAt W c d b to
  qs : QsAt W r b c d
  s : W.cell? ⟨q, 0, none⟩ = some (.slice (some ⟨r, 0, none⟩) 2 2)
  lq : q < W.heap.size
theorem ArAll.grow {r q : Nat} (H : ArAll W b wb n f r c d to q) (k : Below W.heap.size W W') : ArAll W' b wb n f r c d to q :=
  ⟨H.m.below k H.m.lb H.m.lw, H.o.grow k, H.qs.grow k, (k.cell (p := ⟨q, 0, none⟩) H.lq).trans H.s, Nat.lt_of_lt_of_le H.lq k.size⟩
theorem ar_keeps (h : Below W.heap.size W W') : KeepsOthers W W' := ⟨h.size, fun k o hk _ => (h.block k (Array.getElem?_eq_some_iff.1 hk).1).trans hk⟩
/-- A round has left: a granule is not as is asked. -/
structure ArX (w : World) (q : Nat) (bad : Prop) (k : Code) (W : World) : Prop where
  ret : k = .ret
  c : W.cell? ⟨q, 0, none⟩ = some (.bool false)
  bad : bad
theorem ArX.kept {q : Nat} {bad : Prop} {k : Code} {row : Option Nat} (h : ArX w q bad k W) (hg : W.grownBy W' row) (hr : ∀ r, row = some r → ∃ o : Obj, W.heap[r]? = some o ∧ o.isCells = false) : ArX w q bad k W' :=
  ⟨h.ret, cell_kept h.c hg hr, h.bad⟩
set_option maxHeartbeats 8000000 in
theorem are_any (r a s : Nat) (ha : a < 4294967296) (hs : s < 4294967296) (H : MapAt w b wb n f) (O : OtAt w c d b to) (Q : QsAt w r b c d) :
    Calls Try.prog 60 #[.agg #[.pointer (some ⟨b, 0, none⟩)], .agg #[.int .u32 a, .int .u32 s], .slice (some ⟨r, 0, none⟩) 2 2] w fun e w' => e = .returned (.bool (okR n f a s to)) ∧ Below w.heap.size w w' := by
  refine (callsIn_wide (n := 5)).1 ?_
  obtain ⟨w1, hw1⟩ : ∃ w1, w1 = w.alloc (.cells #[.pointer (some ⟨b, 0, none⟩)] 77) := ⟨_, rfl⟩
  have b1 : Below w.heap.size w w1 := by rw [hw1]; exact (Below.refl _ _).alloc (Nat.le_refl _) _
  have s1 : w1.heap.size = w.heap.size + 1 := by rw [hw1]; simp
  have p1 : w1.cell? ⟨w.heap.size, 0, none⟩ = some (.pointer (some ⟨b, 0, none⟩)) := by rw [hw1]; simp
  obtain ⟨w2, hw2⟩ : ∃ w2, w2 = w1.alloc (.cells #[.int .u32 a, .int .u32 s] 33) := ⟨_, rfl⟩
  have b2 : Below w1.heap.size w1 w2 := by rw [hw2]; exact (Below.refl _ _).alloc (Nat.le_refl _) _
  have s2 : w2.heap.size = w.heap.size + 2 := by rw [hw2, World.size_alloc, s1]
  have r0 : w2.cell? ⟨w.heap.size + 1, 0, none⟩ = some (.int .u32 a) := by rw [hw2, ← s1]; simp
  have r1 : w2.cell? ⟨w.heap.size + 1, 1, none⟩ = some (.int .u32 s) := by rw [hw2, ← s1]; simp
  have p2 := (b2.cell (p := ⟨w.heap.size, 0, none⟩) (by show w.heap.size < _; omega)).trans p1
  obtain ⟨w3, hw3⟩ : ∃ w3, w3 = w2.alloc (.cells #[.slice (some ⟨r, 0, none⟩) 2 2] 100) := ⟨_, rfl⟩
  have b3 : Below w2.heap.size w2 w3 := by rw [hw3]; exact (Below.refl _ _).alloc (Nat.le_refl _) _
  have s3 : w3.heap.size = w.heap.size + 3 := by rw [hw3, World.size_alloc, s2]
  have t3 : w3.cell? ⟨w.heap.size + 2, 0, none⟩ = some (.slice (some ⟨r, 0, none⟩) 2 2) := by rw [hw3, ← s2]; simp
  obtain ⟨w4, hw4⟩ : ∃ w4, w4 = w3.alloc (.cells #[.bool false] 4) := ⟨_, rfl⟩
  have b4 : Below w3.heap.size w3 w4 := by rw [hw4]; exact (Below.refl _ _).alloc (Nat.le_refl _) _
  have s4 : w4.heap.size = w.heap.size + 4 := by rw [hw4, World.size_alloc, s3]
  have u4 : w4.cell? ⟨w.heap.size + 3, 0, none⟩ = some (.bool false) ∧ w4.frozen? ⟨w.heap.size + 3, 0, none⟩ = false := by rw [hw4, ← s3]; exact new_cell rfl _ rfl
  have b24 : Below w2.heap.size w2 w4 := b3.trans (b4.mono (by omega))
  have r0' := (b24.cell (p := ⟨w.heap.size + 1, 0, none⟩) (by show w.heap.size + 1 < _; omega)).trans r0
  have r1' := (b24.cell (p := ⟨w.heap.size + 1, 1, none⟩) (by show w.heap.size + 1 < _; omega)).trans r1
  have p4 := (b24.cell (p := ⟨w.heap.size, 0, none⟩) (by show w.heap.size < _; omega)).trans p2
  have t4 := (b4.cell (p := ⟨w.heap.size + 2, 0, none⟩) (by show w.heap.size + 2 < _; omega)).trans t3
  have b04 : Below w.heap.size w w4 := (b1.trans (b2.mono (by omega))).trans (b24.mono (by omega))
  have A4 : ArAll w4 b wb n f r c d to (w.heap.size + 2) := ⟨H.below b04 H.lb H.lw, O.grow b04, Q.grow b04, t4, by omega⟩
  have hOf := Lib.hid (of_any b a s w4)
  have G := Lib.hid (And.intro A4 (And.intro b04 (And.intro s4 u4)))
  have hw : w4 = (((w.alloc (.cells #[.pointer (some ⟨b, 0, none⟩)] 77)).alloc (.cells #[.int .u32 a, .int .u32 s] 33)).alloc (.cells #[.slice (some ⟨r, 0, none⟩) 2 2] 100)).alloc (.cells #[.bool false] 4) := by rw [hw4, hw3, hw2, hw1]
  have hw' := Lib.hid hw
  clear H O Q hw hw1 hw2 hw3 hw4 b1 b2 b3 b4 s1 s2 s3 s4 p1 p2 r0 r1 t3 b24 b04 A4 t4
  refine callsIn_of_wp_marks Try.func60 rfl trivial ?_ rfl
  simp only [Try.ntmps60, List.size_toArray, List.length_cons, List.length_nil, Nat.reduceAdd, Nat.reduceSub, Array.replicate_succ, Array.replicate_zero, List.push_toArray, List.append_toArray, List.nil_append, List.cons_append]
  gi_wp2_with fail
  rw [← hw'.out]
  refine ⟨trivial, (callsIn_wide.2 hOf.out).mono ?_⟩
  rintro e w5 ⟨rfl, hR, hb5, hs5⟩
  try rw [show w.heap.size + 1 + 1 = w.heap.size + 2 from rfl]
  rw [show w.heap.size + 2 + 1 = w.heap.size + 3 from rfl]
  have hw45 := G.out.2.2.1
  have G2 := Lib.hid (show ArAll w5 b wb n f r c d to (w.heap.size + 2) ∧ Below w.heap.size w w5 ∧ w5.heap.size = w.heap.size + 6 ∧ w5.cell? ⟨w.heap.size + 3, 0, none⟩ = some (.bool false) ∧ w5.frozen? ⟨w.heap.size + 3, 0, none⟩ = false from
    ⟨G.out.1.grow hb5, G.out.2.1.trans (hb5.mono G.out.2.1.size), by omega, (hb5.cell (p := ⟨w.heap.size + 3, 0, none⟩) (by show w.heap.size + 3 < _; omega)).trans G.out.2.2.2.1, (hb5.frozen (p := ⟨w.heap.size + 3, 0, none⟩) (by show w.heap.size + 3 < _; omega)).trans G.out.2.2.2.2⟩)
  have hR' := Lib.hid hR
  have st := Lib.hid (of_stops 4 (by omega) (w4.heap.size + 1) a s ha hs w5 hR)
  have h45 := Lib.hid hw45
  clear hR hb5 hs5 hw45 u4 r0' r1' p4 hOf hw' G
  gi_wp2_with fail
  refine wpIn_rangeFunc_ownG rfl (by decide) (gf := 67) (lb := #[.pointer (some ⟨w4.heap.size + 1, 0, none⟩)]) rfl trivial (enters_of Try.func67 (by kernel_rfl) rfl)
    st.out KpR.trans (KpR.put (w := w5) hR'.out.l) (Below.refl _ _) (fun _ => rfl)
    (fun pre W => Below w5.heap.size w5 W ∧ ∀ i ∈ pre, okG n f to (a / 16 + i) = true)
    (fun k pre W => ArX w (w.heap.size + 3) (∃ i ∈ pre, okG n f to (a / 16 + i) = false) k W ∧ Below w.heap.size w W)
    (OwnFrom.and (ownFrom_below (Nat.le_refl _) (Nat.le_refl _)) (fun _ _ _ _ hs _ _ => hs))
    (fun k => OwnFrom.and (Own.from (fun s A B row hs hg hr => hs.kept hg hr) _) (ownFrom_below (Nat.le_refl _) (by have := G2.out.2.2.1; omega)))
    ⟨Below.refl _ _, fun i hi => by simp at hi⟩
    (fun x => { tmps := #[.agg #[.pointer (some ⟨b, 0, none⟩)], .agg #[.int .u32 a, .int .u32 s], .slice (some ⟨r, 0, none⟩) 2 2, .pointer (some ⟨w.heap.size, 0, none⟩), .pointer (some ⟨w.heap.size + 1, 0, none⟩), .pointer (some ⟨w.heap.size + 2, 0, none⟩), .pointer (some ⟨w.heap.size + 3, 0, none⟩),
      .int .i64 ((a / 16 + x : Nat) : Int), undef, undef, .agg #[.pointer (some ⟨b, 0, none⟩)], .agg #[.int .u32 a, .int .u32 s], .func (.func 67) #[] #[.pointer (some ⟨w4.heap.size + 1, 0, none⟩)], .int .i64 ((a / 16 + x : Nat) : Int), undef, undef, undef, undef, undef, undef, undef, undef, undef, undef, undef], defers := [] }) ?assign ?body ?done ?stop
  case assign =>
    intro l x W K hK
    dsimp only [encG]
    gi_wp2
    exact hK
  case body =>
    rintro l pre x W ⟨hB, hI⟩ hlen
    obtain ⟨k, hk⟩ : ∃ k, k = a / 16 + x := ⟨_, rfl⟩
    rw [← hk]
    have AW := Lib.hid (G2.out.1.grow hB)
    have hB' := Lib.hid hB
    have hI' := Lib.hid hI
    have hk' := Lib.hid hk
    have t0 := AW.out.s
    clear hB hI hlen hk
    gi_wp2
    gi_loopw [16] (fun i wr => ∃ j : Nat, j ≤ 2 ∧ i = .int .i64 j ∧ Hid (Below W.heap.size W wr ∧ (0 < j → k < n) ∧ (1 < j → f k ≠ to))) (fun i _ => 2 - (intOf i).toNat)
    case atStart => exact ⟨0, by omega, rfl, Lib.hid ⟨Below.refl _ _, by omega, by omega⟩⟩
    case round =>
      obtain ⟨j, hj, rfl, hT⟩ := hrel
      have A := AW.out.grow hT.out.1
      have q0 := A.qs.q0
      have q1 := A.qs.q1
      rcases (show j = 0 ∨ j = 1 ∨ j = 2 by omega) with rfl | rfl | rfl
      · have hC := Lib.hid (there_any A.m k)
        clear A q1
        obtain ⟨v, hv⟩ : ∃ v, v = decide (k < n) := ⟨_, rfl⟩
        rw [← hv] at hC
        have hv' := Lib.hid hv
        clear hv
        cases v
        · gi_wp2
          refine ⟨trivial, (CallsIn.inRound l (callsIn_wide.2 hC.out)).mono ?_⟩
          rintro e w7 ⟨rfl, h7⟩
          have B7 := Lib.hid (hT.out.1.trans (h7.mono hT.out.1.size))
          have c7 := ((hB'.out.trans (B7.out.mono hB'.out.size)).cell (p := ⟨w.heap.size + 3, 0, none⟩) (by show w.heap.size + 3 < _; have := G2.out.2.2.1; omega)).trans G2.out.2.2.2.1
          have f7 := ((hB'.out.trans (B7.out.mono hB'.out.size)).frozen (p := ⟨w.heap.size + 3, 0, none⟩) (by show w.heap.size + 3 < _; have := G2.out.2.2.1; omega)).trans G2.out.2.2.2.2
          clear h7 hC q0
          gi_wp2
          refine ⟨((ar_keeps B7.out).trans (KeepsOthers.setCell _ _ _)).from _, ⟨rfl, World.cell?_setCell_same' _ _ _ (by rw [c7]; rfl), ⟨x, by simp, ?_⟩⟩, (G2.out.2.1.trans ((hB'.out.trans (B7.out.mono hB'.out.size)).mono G2.out.2.1.size)).setCell (p := ⟨w.heap.size + 3, 0, none⟩) (by show w.heap.size ≤ w.heap.size + 3; omega) _⟩
          rw [← hk'.out]
          unfold okG
          rw [← hv'.out]; rfl
        · gi_wp2
          refine ⟨trivial, (CallsIn.inRound l (callsIn_wide.2 hC.out)).mono ?_⟩
          rintro e w7 ⟨rfl, h7⟩
          have B7 := Lib.hid (hT.out.1.trans (h7.mono hT.out.1.size))
          clear h7 hC q0
          gi_wp2
          go_roundw
          case rel => exact ⟨1, by omega, by go_num, Lib.hid ⟨B7.out, fun _ => of_decide_eq_true hv'.out.symm, by omega⟩⟩
          case measure => simp [intOf]
      · have hC := Lib.hid (other_any A.m A.o k)
        clear A q0
        obtain ⟨v, hv⟩ : ∃ v, v = (f k != to) := ⟨_, rfl⟩
        rw [← hv] at hC
        have hv' := Lib.hid hv
        clear hv
        cases v
        · gi_wp2
          refine ⟨trivial, (CallsIn.inRound l (callsIn_wide.2 hC.out)).mono ?_⟩
          rintro e w7 ⟨rfl, h7⟩
          have B7 := Lib.hid (hT.out.1.trans (h7.mono hT.out.1.size))
          have c7 := ((hB'.out.trans (B7.out.mono hB'.out.size)).cell (p := ⟨w.heap.size + 3, 0, none⟩) (by show w.heap.size + 3 < _; have := G2.out.2.2.1; omega)).trans G2.out.2.2.2.1
          have f7 := ((hB'.out.trans (B7.out.mono hB'.out.size)).frozen (p := ⟨w.heap.size + 3, 0, none⟩) (by show w.heap.size + 3 < _; have := G2.out.2.2.1; omega)).trans G2.out.2.2.2.2
          clear h7 hC q1
          gi_wp2
          refine ⟨((ar_keeps B7.out).trans (KeepsOthers.setCell _ _ _)).from _, ⟨rfl, World.cell?_setCell_same' _ _ _ (by rw [c7]; rfl), ⟨x, by simp, ?_⟩⟩, (G2.out.2.1.trans ((hB'.out.trans (B7.out.mono hB'.out.size)).mono G2.out.2.1.size)).setCell (p := ⟨w.heap.size + 3, 0, none⟩) (by show w.heap.size ≤ w.heap.size + 3; omega) _⟩
          rw [← hk'.out]
          unfold okG
          rw [← hv'.out, Bool.and_false]
        · gi_wp2
          refine ⟨trivial, (CallsIn.inRound l (callsIn_wide.2 hC.out)).mono ?_⟩
          rintro e w7 ⟨rfl, h7⟩
          have B7 := Lib.hid (hT.out.1.trans (h7.mono hT.out.1.size))
          clear h7 hC q1
          gi_wp2
          go_roundw
          case rel => exact ⟨2, by omega, by go_num, Lib.hid ⟨B7.out, fun _ => hT.out.2.1 (by omega), fun _ => by simpa using hv'.out.symm⟩⟩
          case measure => simp [intOf]
      · clear A q0 q1
        gi_wp2
        refine ⟨(ar_keeps hT.out.1).from _, KpR.of_below hT.out.1 (Nat.lt_of_lt_of_le (by have := hR'.out.l; omega) hB'.out.size), hB'.out.trans (hT.out.1.mono hB'.out.size), fun i hi => ?_⟩
        rcases List.mem_append.1 hi with h | h
        · exact hI'.out i h
        · obtain rfl : i = x := by simpa using h
          rw [← hk'.out]
          unfold okG
          rw [decide_eq_true (hT.out.2.1 (by omega)), Bool.true_and]
          simpa using hT.out.2.2 (by omega)
  case done =>
    rintro D ys W hD hS ⟨hB, hI⟩ hK
    have hv : okR n f a s to = true := by
      unfold okR
      rw [List.all_eq_true]
      intro i hi
      exact hI i (by rw [hS]; exact hi)
    have q1 := (hB.cell (p := ⟨w.heap.size + 3, 0, none⟩) (by show w.heap.size + 3 < _; have := G2.out.2.2.1; omega)).trans G2.out.2.2.2.1
    have q2 := (hB.frozen (p := ⟨w.heap.size + 3, 0, none⟩) (by show w.heap.size + 3 < _; have := G2.out.2.2.1; omega)).trans G2.out.2.2.2.2
    have hB' := Lib.hid (G2.out.2.1.trans (hB.mono G2.out.2.1.size))
    have hv' := Lib.hid hv
    have q1' := Lib.hid q1
    clear hS hv hB hI
    gi_wp2
    have hK' := (KeepsOthers.setCell W ⟨w.heap.size + 3, 0, none⟩ (.bool true)).same D _ hK rfl
    refine ⟨by simp, .inl ⟨_, _, rfl, run_takeDeferred hK', ?_⟩⟩
    have hc5 := cell_kept (World.cell?_setCell_same' W ⟨w.heap.size + 3, 0, none⟩ (.bool true) (by rw [q1'.out]; rfl)) (grownBy_putObj' _ D (.deferred none)) (fun r e => by cases e; exact ⟨_, hK', rfl⟩)
    refine ⟨.bool true, ?_, by rw [hv'.out], (hB'.out.setCell (p := ⟨w.heap.size + 3, 0, none⟩) (by show w.heap.size ≤ w.heap.size + 3; omega) _).trans (belowK_b (w := w) (Nat.le_refl _) _ D _ _ (by have := G2.out.2.2.1; omega) hK' rfl rfl)⟩
    simp [results, Try.f60, go_sem, hc5]
  case stop =>
    rintro D k pre W hD hS ⟨⟨rfl, q1, hp⟩, hB⟩ hK
    have hv : okR n f a s to = false := by
      obtain ⟨i, hi, h⟩ := hp
      obtain ⟨m, hm, rfl⟩ := hS
      unfold okR
      rw [List.all_eq_false]
      exact ⟨i, List.mem_range.2 (Nat.lt_of_lt_of_le (List.mem_range.1 hi) hm), by rw [h]; decide⟩
    have hB' := Lib.hid hB
    have hv' := Lib.hid hv
    have q1' := Lib.hid q1
    clear hB hp hv hS
    gi_wp2
    refine ⟨by simp, .inl ⟨_, _, rfl, run_takeDeferred hK, ?_⟩⟩
    have hc5 := cell_kept q1'.out (grownBy_putObj' _ D (.deferred none)) (fun r e => by cases e; exact ⟨_, hK, rfl⟩)
    refine ⟨.bool false, ?_, by rw [hv'.out], hB'.out.trans (belowK_b (w := w) (Nat.le_refl _) W D _ _ (by have := G2.out.2.2.1; omega) hK rfl rfl)⟩
    simp [results, Try.f60, go_sem, hc5]
end
end Go.Proofs.Ytmfipabbdhfmcaa
