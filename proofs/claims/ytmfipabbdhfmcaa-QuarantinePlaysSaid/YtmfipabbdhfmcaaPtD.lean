/- Contracts of layer paint: turn; Add, Remove. No statement is proved here. -/
import Derived.Test.YtmfipabbdhfmcaaPtC
namespace Go.Proofs.Ytmfipabbdhfmcaa
set_option maxRecDepth 100000
open Go.RowKit Go.Shelf
set_option linter.unusedVariables false
attribute [local go_sem] Oper.semAt_some
/-- Is a region added, or removed? What is painted behind it. -/
def okT (n : Nat) (f : Nat → Bool) (a s : Nat) (to : Bool) : Bool := wholeB a s && okR n f a s to
def tnF (n : Nat) (f : Nat → Bool) (a s : Nat) (to : Bool) : Nat → Bool := if okT n f a s to then fun k => if a / 16 ≤ k ∧ k < a / 16 + s / 16 then to else f k else f
/-- What some granules leave. -/
def putG (n q : Nat) (to : Bool) (f : Nat → Bool) (l : List Nat) : Nat → Bool := l.foldl (fun g i => if q + i < n then upd g (q + i) to else g) f
theorem putG_snoc (n q : Nat) (to : Bool) (f : Nat → Bool) (l : List Nat) (i : Nat) : putG n q to f (l ++ [i]) = if q + i < n then upd (putG n q to f l) (q + i) to else putG n q to f l := by simp [putG]
theorem putG_range (n q : Nat) (to : Bool) (f : Nat → Bool) : ∀ m, (∀ i, i < m → q + i < n) → ∀ k, putG n q to f (List.range m) k = if q ≤ k ∧ k < q + m then to else f k
  | 0, _, k => by rw [if_neg (by omega)]; rfl
  | m + 1, h, k => by
    rw [List.range_succ, putG_snoc, if_pos (h m (by omega))]
    unfold upd
    have ih := putG_range n q to f m (fun i hi => h i (by omega)) k
    by_cases hk : k = q + m
    · rw [if_pos hk, if_pos (by omega)]
    · rw [if_neg hk, ih]
      by_cases h2 : q ≤ k ∧ k < q + m
      · rw [if_pos h2, if_pos (by omega)]
      · rw [if_neg h2, if_neg (by omega)]
theorem okR_lt {n a s : Nat} {f : Nat → Bool} {to : Bool} (h : okR n f a s to = true) : ∀ i, i < s / 16 → a / 16 + i < n := fun i hi => by
  unfold okR at h
  rw [List.all_eq_true] at h
  have := h i (List.mem_range.2 hi)
  unfold okG at this
  rw [Bool.and_eq_true] at this
  exact of_decide_eq_true this.1
section
variable {W W' w : World} {p b wb n c d : Nat} {f : Nat → Bool} {to : Bool}
theorem pt_keeps_off {B : Nat} (h : Off W.heap.size c W W') (hb : c < B) : KeepsFrom B W W' :=
  ⟨h.size, fun k o hk ho _ => by rw [h.block k (Array.getElem?_eq_some_iff.1 ho).1 (by omega)]; exact ho⟩
theorem mkQs (w : World) (b c d : Nat) : QsAt (w.alloc (.cells #[.func (.func 61) #[.agg #[.pointer (some ⟨b, 0, none⟩)]] #[], .func (.func 58) #[] #[.pointer (some ⟨c, 0, none⟩), .pointer (some ⟨d, 0, none⟩)]] 80)) w.heap.size b c d :=
  ⟨by simp, by simp, by simp⟩
def TnPost (b wb n : Nat) (f : Nat → Bool) (a s : Nat) (to : Bool) (w : World) (e : Ending) (w' : World) : Prop :=
  e = .returned (.bool (okT n f a s to)) ∧ MapAt w' b wb n (tnF n f a s to) ∧ Off w.heap.size wb w w'
set_option maxHeartbeats 8000000 in
theorem turn_any (a s : Nat) (ha : a < 4294967296) (hs : s < 4294967296) (H : MapAt w b wb n f) :
    Calls Try.prog 47 #[.agg #[.pointer (some ⟨b, 0, none⟩)], .agg #[.int .u32 a, .int .u32 s], .bool to] w (TnPost b wb n f a s to w) := by
  refine (callsIn_wide (n := 5)).1 ?_
  obtain ⟨w1, hw1⟩ : ∃ w1, w1 = w.alloc (.cells #[.pointer (some ⟨b, 0, none⟩)] 77) := ⟨_, rfl⟩
  have b1 : Below w.heap.size w w1 := by rw [hw1]; exact (Below.refl _ _).alloc (Nat.le_refl _) _
  have s1 : w1.heap.size = w.heap.size + 1 := by rw [hw1]; simp
  have p1 : w1.cell? ⟨w.heap.size, 0, none⟩ = some (.pointer (some ⟨b, 0, none⟩)) := by rw [hw1]; simp
  obtain ⟨w2, hw2⟩ : ∃ w2, w2 = w1.alloc (.cells #[.int .u32 a, .int .u32 s] 33) := ⟨_, rfl⟩
  have b2 : Below w1.heap.size w1 w2 := by rw [hw2]; exact (Below.refl _ _).alloc (Nat.le_refl _) _
  have s2 : w2.heap.size = w.heap.size + 2 := by rw [hw2, World.size_alloc, s1]
  have r0 : w2.cell? ⟨w.heap.size + 1, 0, none⟩ = some (.int .u32 a) := by rw [hw2, ← s1]; simp
  have r1 : w2.cell? ⟨w.heap.size + 1, 1, none⟩ = some (.int .u32 s) := by rw [hw2, ← s1]; simp
  have p2 := (b2.cell (p := ⟨w.heap.size, 0, none⟩) (by show w.heap.size < _; omega)).trans p1
  obtain ⟨w3, hw3⟩ : ∃ w3, w3 = w2.alloc (.cells #[.bool to] 4) := ⟨_, rfl⟩
  have b3 : Below w2.heap.size w2 w3 := by rw [hw3]; exact (Below.refl _ _).alloc (Nat.le_refl _) _
  have s3 : w3.heap.size = w.heap.size + 3 := by rw [hw3, World.size_alloc, s2]
  have t3 : w3.cell? ⟨w.heap.size + 2, 0, none⟩ = some (.bool to) := by rw [hw3, ← s2]; simp
  have r0' := (b3.cell (p := ⟨w.heap.size + 1, 0, none⟩) (by show w.heap.size + 1 < _; omega)).trans r0
  have r1' := (b3.cell (p := ⟨w.heap.size + 1, 1, none⟩) (by show w.heap.size + 1 < _; omega)).trans r1
  have p3 := (b3.cell (p := ⟨w.heap.size, 0, none⟩) (by show w.heap.size < _; omega)).trans p2
  have b03 : Below w.heap.size w w3 := (b1.trans (b2.mono (by omega))).trans (b3.mono (by omega))
  have G := Lib.hid (show MapAt w3 b wb n f ∧ OtAt w3 w.heap.size (w.heap.size + 2) b to ∧ RgAt w3 (w.heap.size + 1) a s ∧ Below w.heap.size w w3 ∧ w3.heap.size = w.heap.size + 3 from
    ⟨H.below b03 H.lb H.lw, ⟨p3, t3, by omega, by omega⟩, ⟨r0', r1', by omega⟩, b03, s3⟩)
  have hWh := Lib.hid (whole_any a s w3)
  have hw' := Lib.hid (show w3 = ((w.alloc (.cells #[.pointer (some ⟨b, 0, none⟩)] 77)).alloc (.cells #[.int .u32 a, .int .u32 s] 33)).alloc (.cells #[.bool to] 4) by rw [hw3, hw2, hw1])
  have hlb := Lib.hid (And.intro H.lb H.lw)
  obtain ⟨F, hF⟩ : ∃ F, F = TnPost b wb n f a s to w := ⟨_, rfl⟩
  rw [← hF]
  have hF' := Lib.hid hF
  clear hF H hw1 hw2 hw3 b1 b2 b3 s1 s2 s3 p1 p2 p3 r0 r1 t3 r0' r1' b03
  refine callsIn_of_wp_marks Try.func47 rfl trivial ?_ rfl
  simp only [Try.ntmps47, List.size_toArray, List.length_cons, List.length_nil, Nat.reduceAdd, Nat.reduceSub, Array.replicate_succ, Array.replicate_zero, List.push_toArray, List.append_toArray, List.nil_append, List.cons_append]
  gi_wp2_with fail
  rw [← hw'.out]
  refine ⟨trivial, (callsIn_wide.2 hWh.out).mono ?_⟩
  rintro e w4 ⟨rfl, hb4⟩
  try rw [show w.heap.size + 1 + 1 = w.heap.size + 2 from rfl]
  obtain ⟨v, hv⟩ : ∃ v, v = wholeB a s := ⟨_, rfl⟩
  rw [← hv]
  have hv' := Lib.hid hv
  have G2 := Lib.hid (show MapAt w4 b wb n f ∧ OtAt w4 w.heap.size (w.heap.size + 2) b to ∧ RgAt w4 (w.heap.size + 1) a s ∧ Below w.heap.size w w4 ∧ w.heap.size + 3 ≤ w4.heap.size from
    ⟨G.out.1.below hb4 G.out.1.lb G.out.1.lw, G.out.2.1.grow hb4, G.out.2.2.1.grow hb4, G.out.2.2.2.1.trans (hb4.mono G.out.2.2.2.1.size), by have := hb4.size; have := G.out.2.2.2.2; omega⟩)
  clear hv hb4 hWh hw' G
  cases v
  · gi_wp2
    refine ⟨trivial, ?_⟩
    gi_wp2
    refine ⟨_, results_tmp rfl _ _ _, ?_⟩
    show F (.returned (.bool false)) _
    rw [hF'.out]
    have hT : okT n f a s to = false := by unfold okT; rw [← hv'.out]; rfl
    exact ⟨by rw [hT], by unfold tnF; rw [hT]; exact G2.out.1, Off.of_below G2.out.2.2.2.1⟩
  · have p3 := G2.out.2.1.oc
    have t3 := G2.out.2.1.od
    have r0 := G2.out.2.2.1.c0
    have r1 := G2.out.2.2.1.c1
    obtain ⟨w5, hw5⟩ : ∃ w5, w5 = w4.alloc (.cells #[.func (.func 61) #[.agg #[.pointer (some ⟨b, 0, none⟩)]] #[], .func (.func 58) #[] #[.pointer (some ⟨w.heap.size, 0, none⟩), .pointer (some ⟨w.heap.size + 2, 0, none⟩)]] 80) := ⟨_, rfl⟩
    have hQ := Lib.hid (show QsAt w5 w4.heap.size b w.heap.size (w.heap.size + 2) from by rw [hw5]; exact mkQs w4 b w.heap.size (w.heap.size + 2))
    have hB5 := Lib.hid (show Below w4.heap.size w4 w5 from by rw [hw5]; exact (Below.refl _ _).alloc (Nat.le_refl _) _)
    have hw5' := Lib.hid hw5
    have hAr := Lib.hid (are_any w4.heap.size a s ha hs (G2.out.1.below hB5.out G2.out.1.lb G2.out.1.lw) (G2.out.2.1.grow hB5.out) hQ.out)
    clear hw5
    gi_wp2_with fail
    rw [← hw5'.out]
    refine ⟨trivial, (callsIn_wide.2 hAr.out).mono ?_⟩
    rintro e w6 ⟨rfl, hb6⟩
    have hb46 := hB5.out.trans (hb6.mono hB5.out.size)
    obtain ⟨v, hk⟩ : ∃ v, v = okR n f a s to := ⟨_, rfl⟩
    rw [← hk]
    have hk' := Lib.hid hk
    have G3 := Lib.hid (show MapAt w6 b wb n f ∧ OtAt w6 w.heap.size (w.heap.size + 2) b to ∧ RgAt w6 (w.heap.size + 1) a s ∧ Below w.heap.size w w6 ∧ w.heap.size + 3 ≤ w6.heap.size from
      ⟨G2.out.1.below hb46 G2.out.1.lb G2.out.1.lw, G2.out.2.1.grow hb46, G2.out.2.2.1.grow hb46, G2.out.2.2.2.1.trans (hb46.mono G2.out.2.2.2.1.size), by have := hb46.size; have := G2.out.2.2.2.2; omega⟩)
    clear hk hb46 hb6 hAr hQ hB5 hw5' G2 p3 t3 r0 r1
    cases v
    · gi_wp2
      refine ⟨_, results_tmp rfl _ _ _, ?_⟩
      show F (.returned (.bool false)) _
      rw [hF'.out]
      have hT : okT n f a s to = false := by unfold okT; rw [← hk'.out, Bool.and_false]
      exact ⟨by rw [hT], by unfold tnF; rw [hT]; exact G3.out.1, Off.of_below G3.out.2.2.2.1⟩
    · have p3 := G3.out.2.1.oc
      have t3 := G3.out.2.1.od
      have r0 := G3.out.2.2.1.c0
      have r1 := G3.out.2.2.1.c1
      have hOf := Lib.hid (of_any b a s w6)
      gi_wp2_with fail
      refine ⟨trivial, (callsIn_wide.2 hOf.out).mono ?_⟩
      rintro e w7 ⟨rfl, hR, hb7, hs7⟩
      have G4 := Lib.hid (show MapAt w7 b wb n f ∧ OtAt w7 w.heap.size (w.heap.size + 2) b to ∧ Below w.heap.size w w7 ∧ w.heap.size + 3 ≤ w6.heap.size ∧ w6.heap.size + 2 = w7.heap.size from
        ⟨G3.out.1.below hb7 G3.out.1.lb G3.out.1.lw, G3.out.2.1.grow hb7, G3.out.2.2.2.1.trans (hb7.mono G3.out.2.2.2.1.size), G3.out.2.2.2.2, hs7⟩)
      have hR' := Lib.hid hR
      have st := Lib.hid (of_stops 4 (by omega) (w6.heap.size + 1) a s ha hs w7 hR)
      clear hR hb7 hs7 hOf p3 t3 r0 r1
      gi_wp2_with fail
      refine wpIn_rangeFunc_ownG rfl (by decide) (gf := 67) (lb := #[.pointer (some ⟨w6.heap.size + 1, 0, none⟩)]) rfl trivial (enters_of Try.func67 (by kernel_rfl) rfl)
        st.out KpR.trans (KpR.put (w := w7) hR'.out.l) (Below.refl _ _) (fun _ => rfl)
        (fun pre W => MapAt W b wb n (putG n (a / 16) to f pre) ∧ Off w7.heap.size wb w7 W)
        (fun _ _ _ => False)
        (OwnFrom.and (Own.from (fun s A B row hs hg hr => hs.kept hg hr) _) (ownFrom_off (Nat.le_refl _) (Nat.le_refl _)))
        (fun _ _ _ _ _ hs _ _ => hs)
        ⟨G4.out.1, Off.refl _ _ _⟩
        (fun x => { tmps := #[.agg #[.pointer (some ⟨b, 0, none⟩)], .agg #[.int .u32 a, .int .u32 s], .bool to, .pointer (some ⟨w.heap.size, 0, none⟩), .pointer (some ⟨w.heap.size + 1, 0, none⟩), .pointer (some ⟨w.heap.size + 2, 0, none⟩), .bool false,
          .func (.func 58) #[] #[.pointer (some ⟨w.heap.size, 0, none⟩), .pointer (some ⟨w.heap.size + 2, 0, none⟩)], .int .i64 ((a / 16 + x : Nat) : Int),
          .func (.func 58) #[] #[.pointer (some ⟨w.heap.size, 0, none⟩), .pointer (some ⟨w.heap.size + 2, 0, none⟩)], .agg #[.int .u32 a, .int .u32 s], .bool true, .bool false, .bool false, .agg #[.pointer (some ⟨b, 0, none⟩)], .agg #[.int .u32 a, .int .u32 s], .agg #[.pointer (some ⟨b, 0, none⟩)],
          .func (.func 61) #[.agg #[.pointer (some ⟨b, 0, none⟩)]] #[], .func (.func 58) #[] #[.pointer (some ⟨w.heap.size, 0, none⟩), .pointer (some ⟨w.heap.size + 2, 0, none⟩)], .slice (some ⟨w4.heap.size, 0, none⟩) 2 2, .bool true, .bool false, .bool false,
          .agg #[.pointer (some ⟨b, 0, none⟩)], .agg #[.int .u32 a, .int .u32 s], .func (.func 67) #[] #[.pointer (some ⟨w6.heap.size + 1, 0, none⟩)], .int .i64 ((a / 16 + x : Nat) : Int), undef, undef, undef, undef, undef], defers := [] }) ?assign ?body ?done ?stop
      case assign =>
        intro l x W K hK
        dsimp only [encG]
        gi_wp2
        exact hK
      case body =>
        rintro l pre x W ⟨hM, hO⟩ hlen
        have hP := Lib.hid (put_u hM ((a / 16 + x : Nat) : Int) to (decide (a / 16 + x < n)) (by
          by_cases h : a / 16 + x < n
          · rw [decide_eq_true h]; exact decide_eq_true ⟨by omega, by omega⟩
          · rw [decide_eq_false h]; exact decide_eq_false (by omega)) (putG n (a / 16) to f (pre ++ [x])) (fun k => by
          rw [putG_snoc]
          by_cases h : a / 16 + x < n
          · rw [decide_eq_true h, if_pos h, if_pos rfl, Int.toNat_natCast]
          · rw [decide_eq_false h, if_neg h]; rfl))
        have hOt := Lib.hid (And.intro ((hO.cell (p := ⟨w.heap.size, 0, none⟩) (by show w.heap.size < _; have := G4.out.2.2.2; omega) (by show w.heap.size ≠ wb; have := hlb.out.2; omega)).trans G4.out.2.1.oc)
          ((hO.cell (p := ⟨w.heap.size + 2, 0, none⟩) (by show w.heap.size + 2 < _; have := G4.out.2.2.2; omega) (by show w.heap.size + 2 ≠ wb; have := hlb.out.2; omega)).trans G4.out.2.1.od))
        obtain ⟨k, hk⟩ : ∃ k, k = a / 16 + x := ⟨_, rfl⟩
        rw [← hk] at hP ⊢
        obtain ⟨v, hv⟩ : ∃ v, v = decide (k < n) := ⟨_, rfl⟩
        rw [← hv] at hP
        have p0 := hOt.out.1
        have p1 := hOt.out.2
        have hO' := Lib.hid hO
        clear hv hk hM hO hlen
        gi_wp2_with fail
        refine ⟨trivial, (CallsIn.inRound l (callsIn_wide.2 hP.out)).mono ?_⟩
        rintro e w9 ⟨rfl, m9, o9⟩
        have M9 := Lib.hid m9
        have O9 := Lib.hid o9
        clear m9 o9 hP p0 p1
        gi_wp2
        have hwb := hlb.out.2
        have h7 := G4.out.2.2.2
        exact ⟨pt_keeps_off O9.out (by omega), KpR.of_off O9.out (Nat.lt_of_lt_of_le (by omega) hO'.out.size) (by omega), M9.out, hO'.out.trans (O9.out.mono hO'.out.size)⟩
      case done =>
        rintro D ys W hD hS ⟨hM, hO⟩ hK
        have hT : okT n f a s to = true := by unfold okT; rw [← hk'.out, ← hv'.out]; rfl
        have hM' := Lib.hid (show MapAt W b wb n (tnF n f a s to) from by
          refine hM.congr fun k => ?_
          unfold tnF
          rw [hS, hT, putG_range _ _ _ _ _ (okR_lt hk'.out.symm)]
          rfl)
        have hO' := Lib.hid (((Off.of_below G4.out.2.2.1 : Off w.heap.size wb w w7)).trans (hO.mono G4.out.2.2.1.size))
        clear hS hM hO
        gi_wp2
        refine ⟨by simp, .inl ⟨_, _, rfl, run_takeDeferred hK, ?_⟩⟩
        refine ⟨_, results_tmp rfl _ _ _, ?_⟩
        show F (.returned (.bool true)) _
        rw [hF'.out]
        have hb := belowK_b (w := w) (Nat.le_refl _) W D (.deferred (some [])) (.deferred none) (by have := G4.out.2.2.2; omega) hK rfl rfl
        exact ⟨by rw [hT], hM'.out.below hb hlb.out.1 hlb.out.2, hO'.out.trans (Off.of_below hb)⟩
      case stop =>
        rintro D c pre W _ _ h _
        exact h.elim
end
end Go.Proofs.Ytmfipabbdhfmcaa
