/- The document's side of layer quarantine: Free. No statement is proved here. -/
import Derived.Test.YtmfipabbdhfmcaaQRd
import Derived.Deep.CutRange
namespace Go.Proofs.Ytmfipabbdhfmcaa.Qu
set_option maxRecDepth 100000
open Go.RowKit Go.Shelf
set_option linter.unusedVariables false
section
variable {w w' : World} {q e n m base x z : Nat} {L R M Wt Bt : List Rg} {v lv rv wl bl : Value} {r : Rg} {A A2 : Option Addr} {c c2 : Nat} {sw : Bool} {u : Nat → Value}
theorem GR.grow (H : GR w L v) (k : Below w.heap.size w w') : GR w' L v := by
  obtain ⟨A, c, e, h⟩ := H
  refine ⟨A, c, e, fun j hj => ?_⟩
  obtain ⟨g, h0, h1, h2, h3⟩ := h j hj
  exact ⟨g, h0, Nat.lt_of_lt_of_le h1 k.size, (k.cell (p := ⟨g, j * 2, none⟩) h1).trans h2, (k.cell (p := ⟨g, j * 2 + 1, none⟩) h1).trans h3⟩
/-- What Free of the document's answers. -/
def DFree (b : Int) (n : Nat) (Wt Bt : List Rg) (wl bl : Value) (e : Nat) (sw : Bool) (r : Rg) (w : World) (e1 : Ending) (w' : World) : Prop :=
  ∃ v, e1 = .returned (.tuple #[dyV b v bl e sw, .bool (okF n (Wt ++ Bt) r)]) ∧ (okF n (Wt ++ Bt) r = false → v = wl) ∧ (okF n (Wt ++ Bt) r = true → w'.ownsRow w.heap.size 33 2 v (insR r Wt).length ((insR r Wt).flatMap rgC)) ∧ Below w.heap.size w w'
set_option maxHeartbeats 8000000 in
theorem rfree (HW : GR w Wt (.slice A x c)) (HB : GR w Bt (.slice A2 z c2)) (fW : ∀ r ∈ Wt, r.1 + r.2 ≤ 262144) (fB : ∀ r ∈ Bt, r.1 + r.2 ≤ 262144) (lW : Wt.length ≤ 16384) (lB : Bt.length ≤ 16384) (hn : n ≤ 16384) (b : Int) (hb : b = 16 * (n : Int)) (e : Nat) (sw : Bool) (a s : Nat) (ha : a < 4294967296) (hs : s < 4294967296) :
    Calls Try.prog 10 #[dyV b (.slice A x c) (.slice A2 z c2) e sw, .agg #[.int .u32 (a : Int), .int .u32 (s : Int)]] w (DFree b n Wt Bt (.slice A x c) (.slice A2 z c2) e sw (a, s) w) := by
  obtain ⟨Y1, b1⟩ := box1 w b (.slice A x c) (.slice A2 z c2) e sw
  obtain ⟨w1, hw1⟩ : ∃ w1, w1 = w.alloc (.cells #[.int .i64 b, .slice A x c, .slice A2 z c2, .int .u64 (e : Int), .bool sw] 28) := ⟨_, rfl⟩
  have s1 : w1.heap.size = w.heap.size + 1 := by rw [hw1]; simp
  rw [← hw1] at Y1 b1
  obtain ⟨w2, hw2⟩ : ∃ w2, w2 = w1.alloc (.cells #[.int .u32 (a : Int), .int .u32 (s : Int)] 33) := ⟨_, rfl⟩
  have b2 : Below w1.heap.size w1 w2 := by rw [hw2]; exact (Below.refl _ _).alloc (Nat.le_refl _) _
  have s2 : w2.heap.size = w.heap.size + 2 := by rw [hw2, World.size_alloc, s1]
  have R2 : Bx (w.heap.size + 1) (.int .u32 (a : Int)) (.int .u32 (s : Int)) w2 := by rw [hw2, ← s1]; exact Bx.new _ _ _ _
  obtain ⟨w3, hw3, Y3, b3⟩ := box0 w2
  have s3 : w3.heap.size = w.heap.size + 3 := by rw [hw3, World.size_alloc, s2]
  rw [s2] at Y3
  have b03 := (b1.trans (b2.mono b1.size)).trans (b3.mono (by omega))
  have hY1 := Lib.hid ((Y1.grow b2).grow b3)
  have hR1 := Lib.hid (R2.grow b3)
  have hY3 := Lib.hid Y3
  have hB3 := Lib.hid b03
  have hs3 := Lib.hid s3
  have hw' := Lib.hid (show w3 = ((w.alloc (.cells #[.int .i64 b, .slice A x c, .slice A2 z c2, .int .u64 (e : Int), .bool sw] 28)).alloc (.cells #[.int .u32 (a : Int), .int .u32 (s : Int)] 33)).alloc (.cells #[.int .i64 0, .slice none 0 0, .slice none 0 0, .int .u64 0, .bool false] 28) by rw [hw3, hw2, hw1])
  have hM1 := Lib.hid (rmeets (HW.grow b03) fW lW a s ha hs)
  have hM2 := Lib.hid (fun w4 (k : Below w3.heap.size w3 w4) => rmeets ((HB.grow b03).grow k) fB lB a s ha hs)
  have hWi := Lib.hid (fun w4 (k : Below w3.heap.size w3 w4) => rwith ((HW.grow b03).grow k) (a, s) lW)
  obtain ⟨ok, hok⟩ : ∃ ok, ok = okF n (Wt ++ Bt) (a, s) := ⟨_, rfl⟩
  have hok' := Lib.hid hok
  obtain ⟨F, hF⟩ : ∃ F, F = DFree b n Wt Bt (.slice A x c) (.slice A2 z c2) e sw (a, s) w := ⟨_, rfl⟩
  rw [← hF]
  have hF' := Lib.hid hF
  have c0 := (hY1.out 0).1 (by omega)
  have c1 := (hY1.out 1).1 (by omega)
  have c2' := (hY1.out 2).1 (by omega)
  have c3 := (hY1.out 3).1 (by omega)
  have c4 := (hY1.out 4).1 (by omega)
  simp only [dyU] at c0 c1 c2' c3 c4
  have r0 := hR1.out.c0
  have r1 := hR1.out.c1
  obtain ⟨m1, hm1⟩ : ∃ m1, m1 = mt Wt (a, s) := ⟨_, rfl⟩
  obtain ⟨m2, hm2⟩ : ∃ m2, m2 = mt Bt (a, s) := ⟨_, rfl⟩
  rw [← hm1] at hM1
  rw [← hm2] at hM2
  have hoe := Lib.hid (show ok = (okA n (a, s) && (!m1 && !m2)) from by rw [hok, hm1, hm2]; unfold okF; rw [mt_app, Bool.not_or])
  have hxl := Lib.hid HW
  unfold dyV
  clear hF hok hw1 hw2 hw3 Y1 Y3 b1 b2 b3 R2 s1 s2 s3 b03 hm1 hm2 HW HB
  replace hb := Lib.hid hb
  go_enter Try.func10, Try.ntmps10
  go_upto_region 1 with (fail)
  try rw [show w.heap.size + 1 + 1 = w.heap.size + 2 from rfl]
  rw [← hw'.out]
  clear hw'
  go_cut [45] from 6 to 45 (fun t w' => t = .bool (!ok) ∧ Hid (Below w3.heap.size w3 w'))
  case first =>
    by_cases h1 : a % 16 = 0
    · have e1 : (a : Int) % 16 = 0 := by omega
      by_cases h2 : s % 16 = 0
      · have e2 : (s : Int) % 16 = 0 := by omega
        by_cases h3 : s = 0
        · subst h3
          have hf := Lib.hid (show ok = false by rw [hoe.out, show okA n (a, 0) = false from decide_eq_false (by dsimp only; omega)]; rfl)
          go_wp2_with fail
          go_meet
          exact ⟨by rw [hf.out]; rfl, Lib.hid (Below.refl _ _)⟩
        · have e3 : ¬ (s : Int) = 0 := by omega
          have e3b : ((s : Int) == 0) = false := by simp; omega
          have g1 : (a : Int) < 4294967296 := by omega
          have g2 : (s : Int) < 4294967296 := by omega
          have g3 : b ≤ 262144 := by have := hb.out; omega
          have g4 : 0 ≤ b := by have := hb.out; omega
          by_cases h4 : a + s ≤ 16 * n
          · have e4 : ¬ b < (a : Int) + s := by have := hb.out; omega
            have hA := Lib.hid (show okA n (a, s) = true from decide_eq_true (by dsimp only; omega))
            go_wp2_with fail
            refine hM1.out.mono ?_
            rintro e1 w4 ⟨rfl, k4⟩
            have B4 := Lib.hid k4
            have c0 := (hY1.out.grow k4 0).1 (by omega)
            have c1 := (hY1.out.grow k4 1).1 (by omega)
            have c2' := (hY1.out.grow k4 2).1 (by omega)
            simp only [dyU] at c0 c1 c2'
            have r0 := (hR1.out.grow k4).c0
            have r1 := (hR1.out.grow k4).c1
            clear k4
            cases m1
            · go_wp2_with fail
              refine (hM2.out _ B4.out).mono ?_
              rintro e1 w5 ⟨rfl, k5⟩
              have B5 := Lib.hid (B4.out.trans (k5.mono B4.out.size))
              have hf := Lib.hid (show ok = !m2 by rw [hoe.out, hA.out]; cases m2 <;> rfl)
              clear k5
              go_wp2_with fail
              go_meet
              exact ⟨by rw [hf.out, Bool.not_not], B5⟩
            · have hf := Lib.hid (show ok = false by rw [hoe.out, hA.out]; rfl)
              go_wp2_with fail
              go_meet
              exact ⟨by rw [hf.out]; rfl, B4⟩
          · have e4 : b < (a : Int) + s := by have := hb.out; omega
            have hf := Lib.hid (show ok = false by rw [hoe.out, show okA n (a, s) = false from decide_eq_false (by dsimp only; omega)]; rfl)
            go_wp2_with fail
            go_meet
            exact ⟨by rw [hf.out]; rfl, Lib.hid (Below.refl _ _)⟩
      · have e2 : ¬ (s : Int) % 16 = 0 := by omega
        have hf := Lib.hid (show ok = false by rw [hoe.out, show okA n (a, s) = false from decide_eq_false (by dsimp only; omega)]; rfl)
        go_wp2_with fail
        go_meet
        exact ⟨by rw [hf.out]; rfl, Lib.hid (Below.refl _ _)⟩
    · have e1 : ¬ (a : Int) % 16 = 0 := by omega
      have hf := Lib.hid (show ok = false by rw [hoe.out, show okA n (a, s) = false from decide_eq_false (by dsimp only; omega)]; rfl)
      go_wp2_with fail
      go_meet
      exact ⟨by rw [hf.out]; rfl, Lib.hid (Below.refl _ _)⟩
  case rest =>
    obtain ⟨rfl, B4⟩ := hcut
    have hY4 := Lib.hid (hY1.out.grow B4.out)
    have hO4 := Lib.hid (hY3.out.grow B4.out)
    have hR4 := Lib.hid (hR1.out.grow B4.out)
    have hB4 := Lib.hid (hB3.out.trans (B4.out.mono hB3.out.size))
    clear c0 c1 c2' c3 c4 r0 r1
    have c0 := (hY4.out 0).1 (by omega)
    have c1 := (hY4.out 1).1 (by omega)
    have c2' := (hY4.out 2).1 (by omega)
    have c3 := (hY4.out 3).1 (by omega)
    have c4 := (hY4.out 4).1 (by omega)
    have g1 := (hY4.out 1).2
    simp only [dyU] at c0 c1 c2' c3 c4
    have d0 := (hO4.out 0).1 (by omega)
    have d1 := (hO4.out 1).1 (by omega)
    have d2 := (hO4.out 2).1 (by omega)
    have d3 := (hO4.out 3).1 (by omega)
    have d4 := (hO4.out 4).1 (by omega)
    have f0 := (hO4.out 0).2
    have f1 := (hO4.out 1).2
    have f2 := (hO4.out 2).2
    have f3 := (hO4.out 3).2
    have f4 := (hO4.out 4).2
    simp only [dyU] at d0 d1 d2 d3 d4
    have r0 := hR4.out.c0
    have r1 := hR4.out.c1
    cases ok
    · go_wp2_with fail
      refine bodyPost_ret (v := .tuple #[dyV b (.slice A x c) (.slice A2 z c2) e sw, .bool false]) (res_twoQ Try.results10 rfl rfl (Y5.ret (hO4.out.all _ _ _ _ _))) rfl ?_
      rw [hF'.out]
      exact ⟨_, by rw [← hok'.out], fun _ => rfl, fun h => (by rw [← hok'.out] at h; cases h), all_below hB4.out (by omega) _ _ _ _ _⟩
    · go_wp2_with fail
      refine (hWi.out _ B4.out).mono ?_
      rintro e1 w5 ⟨v, rfl, ho, hb5, _⟩
      have hO := Lib.hid ho
      have hY5 := Lib.hid (hY4.out.grow hb5)
      have hQ5 := Lib.hid (hO4.out.grow hb5)
      have hB5 := Lib.hid (hB4.out.trans (hb5.mono hB4.out.size))
      have hz5 := Lib.hid (show w.heap.size + 3 ≤ wc.heap.size by have := B4.out.size; have := hs3.out; omega)
      obtain ⟨A', c', rfl⟩ := own_slice ho
      clear c0 c1 c2' c3 c4 r0 r1 d0 d1 d2 d3 d4 f0 f1 f2 f3 f4 g1 ho hb5
      have c0 := (hY5.out 0).1 (by omega)
      have c1 := (hY5.out 1).1 (by omega)
      have c2' := (hY5.out 2).1 (by omega)
      have c3 := (hY5.out 3).1 (by omega)
      have c4 := (hY5.out 4).1 (by omega)
      have g1 := (hY5.out 1).2
      simp only [dyU] at c0 c1 c2' c3 c4
      go_upto_region 4 with (fail)
      have hE1 := hY5.out.set 1 (by omega) (.slice A' (insR (a, s) Wt).length c')
      have hE2 := Y5.keep hQ5.out (w' := w5.setCell ⟨w.heap.size, 1, none⟩ (.slice A' (insR (a, s) Wt).length c')) (y_set _ _ _ _ _ (by omega))
      have hO6 := own_keep hO.out (w' := w5.setCell ⟨w.heap.size, 1, none⟩ (.slice A' (insR (a, s) Wt).length c')) (fun g hg => y_set _ _ _ _ _ (by have := (hO.out.lt g hg).1; have := hz5.out; omega))
      have hB6 := hB5.out.setCell (p := ⟨w.heap.size, 1, none⟩) (Nat.le_refl _) (.slice A' (insR (a, s) Wt).length c')
      generalize w5.setCell ⟨w.heap.size, 1, none⟩ (.slice A' (insR (a, s) Wt).length c') = w6 at hE1 hE2 hB6 hO6 ⊢
      clear c0 c1 c2' c3 c4 g1
      have c0 := (hE1 0).1 (by omega)
      have c1 := (hE1 1).1 (by omega)
      have c2' := (hE1 2).1 (by omega)
      have c3 := (hE1 3).1 (by omega)
      have c4 := (hE1 4).1 (by omega)
      simp [dyU] at c0 c1 c2' c3 c4
      have d0 := (hE2 0).1 (by omega)
      have d1 := (hE2 1).1 (by omega)
      have d2 := (hE2 2).1 (by omega)
      have d3 := (hE2 3).1 (by omega)
      have d4 := (hE2 4).1 (by omega)
      have f0 := (hE2 0).2
      have f1 := (hE2 1).2
      have f2 := (hE2 2).2
      have f3 := (hE2 3).2
      have f4 := (hE2 4).2
      simp only [dyU] at d0 d1 d2 d3 d4
      have hY := Lib.hid hE2
      have hB := Lib.hid hB6
      have hOO := Lib.hid hO6
      clear hE1 hE2 hB6 hO6
      go_wp2_with fail
      refine bodyPost_ret (v := .tuple #[dyV b (.slice A' (insR (a, s) Wt).length c') (.slice A2 z c2) e sw, .bool true]) (res_twoQ Try.results10 rfl rfl (Y5.ret (hY.out.all _ _ _ _ _))) rfl ?_
      rw [hF'.out]
      refine ⟨_, by rw [← hok'.out], fun h => (by rw [← hok'.out] at h; cases h), fun _ => ?_, all_below hB.out (by omega) _ _ _ _ _⟩
      refine own_keep (hOO.out.mono (by have := hB4.out.size; omega)) fun g hg => ?_
      have hg2 := (hOO.out.lt g hg).1
      have := hz5.out
      rw [y_set _ _ _ _ _ (by omega), y_set _ _ _ _ _ (by omega), y_set _ _ _ _ _ (by omega), y_set _ _ _ _ _ (by omega), y_set _ _ _ _ _ (by omega)]
end
end Go.Proofs.Ytmfipabbdhfmcaa.Qu
