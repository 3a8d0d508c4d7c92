/- The document's side of layer quarantine: New, Begin, End, Free. No statement is proved here. -/
import Derived.Test.YtmfipabbdhfmcaaQRc
namespace Go.Proofs.Ytmfipabbdhfmcaa.Qu
set_option maxRecDepth 100000
open Go.RowKit Go.Shelf
set_option linter.unusedVariables false
theorem res_twoQ {P : Program} {fn : Func} {p u : Tmp} {ty : TypeId} (h : fn.results = #[.cell p ty, .tmp u]) {tmps : Array Value} {w : World} {g : Nat} {v x : Value} (hp : tmps.getD p undef = .pointer (some ⟨g, 0, none⟩)) (hu : tmps.getD u undef = x) (hl : (loadVar ty ⟨g, 0, none⟩).run P w = .ok v w) : (results fn tmps).run P w = .ok (.tuple #[v, x]) w := by
  have hp' : tmps[p]?.getD undef = .pointer (some ⟨g, 0, none⟩) := by simpa using hp
  subst hu
  simp [results, h, asAddr, hp', hl]
theorem res_threeQ {P : Program} {fn : Func} {p u u2 : Tmp} {ty : TypeId} (h : fn.results = #[.cell p ty, .tmp u, .tmp u2]) {tmps : Array Value} {w : World} {g : Nat} {v x x2 : Value} (hp : tmps.getD p undef = .pointer (some ⟨g, 0, none⟩)) (hu : tmps.getD u undef = x) (hu2 : tmps.getD u2 undef = x2) (hl : (loadVar ty ⟨g, 0, none⟩).run P w = .ok v w) : (results fn tmps).run P w = .ok (.tuple #[v, x, x2]) w := by
  have hp' : tmps[p]?.getD undef = .pointer (some ⟨g, 0, none⟩) := by simpa using hp
  subst hu hu2
  simp [results, h, asAddr, hp', hl]
section
variable {w w' : World} {q e n m base x z : Nat} {L R M Wt Bt : List Rg} {v lv rv wl bl : Value} {r : Rg} {b : Int} {A A2 : Option Addr} {c c2 : Nat} {sw : Bool} {u : Nat → Value}
/-- Five cells stored. -/
theorem Y5.all (H : Y5 w q u) (x0 x1 x2 x3 x4 : Value) : Y5 (((((w.setCell ⟨q, 0, none⟩ x0).setCell ⟨q, 1, none⟩ x1).setCell ⟨q, 2, none⟩ x2).setCell ⟨q, 3, none⟩ x3).setCell ⟨q, 4, none⟩ x4) q (fun i => match i with | 0 => x0 | 1 => x1 | 2 => x2 | 3 => x3 | _ => x4) := by
  have h := ((((H.set 0 (by omega) x0).set 1 (by omega) x1).set 2 (by omega) x2).set 3 (by omega) x3).set 4 (by omega) x4
  intro i
  refine ⟨fun hi => ((h i).1 hi).trans ?_, (h i).2⟩
  match i, hi with
  | 0, _ => rfl
  | 1, _ => rfl
  | 2, _ => rfl
  | 3, _ => rfl
  | 4, _ => rfl
theorem all_below {B : Nat} {W : World} (h : Below B W w) (hq : B ≤ q) (x0 x1 x2 x3 x4 : Value) : Below B W (((((w.setCell ⟨q, 0, none⟩ x0).setCell ⟨q, 1, none⟩ x1).setCell ⟨q, 2, none⟩ x2).setCell ⟨q, 3, none⟩ x3).setCell ⟨q, 4, none⟩ x4) :=
  ((((h.setCell (p := ⟨q, 0, none⟩) hq x0).setCell (p := ⟨q, 1, none⟩) hq x1).setCell (p := ⟨q, 2, none⟩) hq x2).setCell (p := ⟨q, 3, none⟩) hq x3).setCell (p := ⟨q, 4, none⟩) hq x4
theorem rbegin_no (b : Int) (e : Nat) (w : World) : Calls Try.prog 12 #[dyV b (.slice A x c) (.slice A2 z c2) e true] w fun e1 w' => e1 = .returned (.tuple #[dyV b (.slice A x c) (.slice A2 z c2) e true, .int .u64 0, .bool false]) ∧ Below w.heap.size w w' := by
  obtain ⟨w2, hw2, Y1, Y2, hB⟩ := box2 w b (.slice A x c) (.slice A2 z c2) e true
  have hw' := Lib.hid hw2
  have hB' := Lib.hid hB
  have hY2 := Lib.hid Y2
  have c0 := (Y1 0).1 (by omega)
  have c1 := (Y1 1).1 (by omega)
  have c2' := (Y1 2).1 (by omega)
  have c3 := (Y1 3).1 (by omega)
  have c4 := (Y1 4).1 (by omega)
  have d0 := (Y2 0).1 (by omega)
  have d1 := (Y2 1).1 (by omega)
  have d2 := (Y2 2).1 (by omega)
  have d3 := (Y2 3).1 (by omega)
  have d4 := (Y2 4).1 (by omega)
  have f0 := (Y2 0).2
  have f1 := (Y2 1).2
  have f2 := (Y2 2).2
  have f3 := (Y2 3).2
  have f4 := (Y2 4).2
  simp only [dyU] at c0 c1 c2' c3 c4 d0 d1 d2 d3 d4
  unfold dyV
  clear hw2 hB Y1 Y2
  go_enter Try.func12, Try.ntmps12
  go_upto_region 1 with (fail)
  rw [← hw'.out]
  go_wp2_with fail
  refine bodyPost_ret (res_threeQ Try.results12 rfl rfl rfl (Y5.ret (hY2.out.all _ _ _ _ _))) rfl ?_
  exact ⟨rfl, all_below hB'.out (Nat.le_succ _) _ _ _ _ _⟩
set_option maxHeartbeats 8000000 in
theorem rbegin_yes (b : Int) (e : Nat) (he : e ≤ 1000000) (w : World) : Calls Try.prog 12 #[dyV b (.slice A x c) (.slice A2 z c2) e false] w fun e1 w' => e1 = .returned (.tuple #[dyV b (.slice none 0 0) (.slice A x c) (e + 1) true, .int .u64 ((e + 1 : Nat) : Int), .bool true]) ∧ Below w.heap.size w w' := by
  obtain ⟨w2, hw2, Y1, Y2, hB⟩ := box2 w b (.slice A x c) (.slice A2 z c2) e false
  have hw' := Lib.hid hw2
  have hB' := Lib.hid hB
  have hY1 := Lib.hid Y1
  have hY2 := Lib.hid Y2
  have c0 := (Y1 0).1 (by omega)
  have c1 := (Y1 1).1 (by omega)
  have c2' := (Y1 2).1 (by omega)
  have c3 := (Y1 3).1 (by omega)
  have c4 := (Y1 4).1 (by omega)
  have d0 := (Y2 0).1 (by omega)
  have d1 := (Y2 1).1 (by omega)
  have d2 := (Y2 2).1 (by omega)
  have d3 := (Y2 3).1 (by omega)
  have d4 := (Y2 4).1 (by omega)
  have f0 := (Y2 0).2
  have f1 := (Y2 1).2
  have f2 := (Y2 2).2
  have f3 := (Y2 3).2
  have f4 := (Y2 4).2
  have g1 := (Y1 1).2
  have g2 := (Y1 2).2
  have g3 := (Y1 3).2
  have g4 := (Y1 4).2
  simp only [dyU] at c0 c1 c2' c3 c4 d0 d1 d2 d3 d4
  unfold dyV
  clear hw2 hB Y1 Y2
  have e9 : IntKind.u64.wrap ((e : Int) + 1) = (e : Int) + 1 := by rw [IntKind.wrap_u64]; omega
  go_enter Try.func12, Try.ntmps12
  go_upto_region 1 with (fail)
  rw [← hw'.out]
  go_upto_region 7 with (fail)
  have hE1 := ((((hY1.out.set 4 (by omega) (.bool true)).set 3 (by omega) (.int .u64 ((e : Int) + 1))).set 2 (by omega) (.slice A x c)).set 1 (by omega) (.slice none 0 0))
  have hE2 := (Y5.keep hY2.out (w' := (((w2.setCell ⟨w.heap.size, 4, none⟩ (.bool true)).setCell ⟨w.heap.size, 3, none⟩ (.int .u64 ((e : Int) + 1))).setCell ⟨w.heap.size, 2, none⟩ (.slice A x c)).setCell ⟨w.heap.size, 1, none⟩ (.slice none 0 0)) (by
    rw [y_set _ _ _ _ _ (by omega), y_set _ _ _ _ _ (by omega), y_set _ _ _ _ _ (by omega), y_set _ _ _ _ _ (by omega)]))
  have hB3 := ((((hB'.out.setCell (p := ⟨w.heap.size, 4, none⟩) (Nat.le_refl _) (.bool true)).setCell (p := ⟨w.heap.size, 3, none⟩) (Nat.le_refl _) (.int .u64 ((e : Int) + 1))).setCell (p := ⟨w.heap.size, 2, none⟩) (Nat.le_refl _) (.slice A x c)).setCell (p := ⟨w.heap.size, 1, none⟩) (Nat.le_refl _) (.slice none 0 0))
  generalize (((w2.setCell ⟨w.heap.size, 4, none⟩ (.bool true)).setCell ⟨w.heap.size, 3, none⟩ (.int .u64 ((e : Int) + 1))).setCell ⟨w.heap.size, 2, none⟩ (.slice A x c)).setCell ⟨w.heap.size, 1, none⟩ (.slice none 0 0) = w3 at hE1 hE2 hB3 ⊢
  clear c0 c1 c2' c3 c4 d0 d1 d2 d3 d4 f0 f1 f2 f3 f4 g1 g2 g3 g4 hY1 hY2 hB' hw'
  have c0 := (hE1 0).1 (by omega)
  have c1 := (hE1 1).1 (by omega)
  have c2' := (hE1 2).1 (by omega)
  have c3 := (hE1 3).1 (by omega)
  have c4 := (hE1 4).1 (by omega)
  simp [dyU] at c0 c1 c2' c3 c4
  have d0 := (hE2 0).1 (by omega)
  have d1 := (hE2 1).1 (by omega)
  have d2 := (hE2 2).1 (by omega)
  have d3 := (hE2 3).1 (by omega)
  have d4 := (hE2 4).1 (by omega)
  have f0 := (hE2 0).2
  have f1 := (hE2 1).2
  have f2 := (hE2 2).2
  have f3 := (hE2 3).2
  have f4 := (hE2 4).2
  simp only [dyU] at d0 d1 d2 d3 d4
  have hY := Lib.hid (hE2.grow (Below.refl _ _).drew)
  have hB := Lib.hid (hB3.trans ((Below.refl w3.heap.size w3).drew.mono hB3.size))
  clear hE1 hE2 hB3
  go_region
  all_goals
    go_wp2_with fail
    refine bodyPost_ret (res_threeQ Try.results12 rfl rfl rfl (Y5.ret (hY.out.all _ _ _ _ _))) rfl ?_
    exact ⟨rfl, all_below hB.out (Nat.le_succ _) _ _ _ _ _⟩
theorem rend_no (b : Int) (e : Nat) (w : World) : Calls Try.prog 14 #[dyV b (.slice A x c) (.slice A2 z c2) e false] w fun e1 w' => e1 = .returned (.tuple #[dyV b (.slice A x c) (.slice A2 z c2) e false, .slice none 0 0]) ∧ Below w.heap.size w w' := by
  obtain ⟨w2, hw2, Y1, Y2, hB⟩ := box2 w b (.slice A x c) (.slice A2 z c2) e false
  have hw' := Lib.hid hw2
  have hB' := Lib.hid hB
  have hY1 := Lib.hid Y1
  have hY2 := Lib.hid Y2
  have c0 := (Y1 0).1 (by omega)
  have c1 := (Y1 1).1 (by omega)
  have c2' := (Y1 2).1 (by omega)
  have c3 := (Y1 3).1 (by omega)
  have c4 := (Y1 4).1 (by omega)
  have d0 := (Y2 0).1 (by omega)
  have d1 := (Y2 1).1 (by omega)
  have d2 := (Y2 2).1 (by omega)
  have d3 := (Y2 3).1 (by omega)
  have d4 := (Y2 4).1 (by omega)
  have f0 := (Y2 0).2
  have f1 := (Y2 1).2
  have f2 := (Y2 2).2
  have f3 := (Y2 3).2
  have f4 := (Y2 4).2
  have g1 := (Y1 1).2
  have g2 := (Y1 2).2
  have g3 := (Y1 3).2
  have g4 := (Y1 4).2
  simp only [dyU] at c0 c1 c2' c3 c4 d0 d1 d2 d3 d4
  unfold dyV
  clear hw2 hB Y1 Y2
  go_enter Try.func14, Try.ntmps14
  go_upto_region 1 with (fail)
  rw [← hw'.out]
  go_wp2_with fail
  refine bodyPost_ret (res_twoQ Try.results14 rfl rfl (Y5.ret (hY2.out.all _ _ _ _ _))) rfl ?_
  exact ⟨rfl, all_below hB'.out (Nat.le_succ _) _ _ _ _ _⟩
theorem rend_yes (b : Int) (e : Nat) (w : World) : Calls Try.prog 14 #[dyV b (.slice A x c) (.slice A2 z c2) e true] w fun e1 w' => e1 = .returned (.tuple #[dyV b (.slice A x c) (.slice none 0 0) e false, .slice A2 z c2]) ∧ Below w.heap.size w w' := by
  obtain ⟨w2, hw2, Y1, Y2, hB⟩ := box2 w b (.slice A x c) (.slice A2 z c2) e true
  have hw' := Lib.hid hw2
  have hB' := Lib.hid hB
  have hY1 := Lib.hid Y1
  have hY2 := Lib.hid Y2
  have c0 := (Y1 0).1 (by omega)
  have c1 := (Y1 1).1 (by omega)
  have c2' := (Y1 2).1 (by omega)
  have c3 := (Y1 3).1 (by omega)
  have c4 := (Y1 4).1 (by omega)
  have d0 := (Y2 0).1 (by omega)
  have d1 := (Y2 1).1 (by omega)
  have d2 := (Y2 2).1 (by omega)
  have d3 := (Y2 3).1 (by omega)
  have d4 := (Y2 4).1 (by omega)
  have f0 := (Y2 0).2
  have f1 := (Y2 1).2
  have f2 := (Y2 2).2
  have f3 := (Y2 3).2
  have f4 := (Y2 4).2
  have g1 := (Y1 1).2
  have g2 := (Y1 2).2
  have g3 := (Y1 3).2
  have g4 := (Y1 4).2
  simp only [dyU] at c0 c1 c2' c3 c4 d0 d1 d2 d3 d4
  unfold dyV
  clear hw2 hB Y1 Y2
  go_enter Try.func14, Try.ntmps14
  go_upto_region 1 with (fail)
  rw [← hw'.out]
  go_upto_region 6 with (fail)
  have hE1 := ((hY1.out.set 2 (by omega) (.slice none 0 0)).set 4 (by omega) (.bool false))
  have hE2 := (Y5.keep hY2.out (w' := (w2.setCell ⟨w.heap.size, 2, none⟩ (.slice none 0 0)).setCell ⟨w.heap.size, 4, none⟩ (.bool false)) (by
    rw [y_set _ _ _ _ _ (by omega), y_set _ _ _ _ _ (by omega)]))
  have hB3 := ((hB'.out.setCell (p := ⟨w.heap.size, 2, none⟩) (Nat.le_refl _) (.slice none 0 0)).setCell (p := ⟨w.heap.size, 4, none⟩) (Nat.le_refl _) (.bool false))
  generalize (w2.setCell ⟨w.heap.size, 2, none⟩ (.slice none 0 0)).setCell ⟨w.heap.size, 4, none⟩ (.bool false) = w3 at hE1 hE2 hB3 ⊢
  clear c0 c1 c2' c3 c4 d0 d1 d2 d3 d4 f0 f1 f2 f3 f4 g1 g2 g3 g4 hY1 hY2 hB' hw'
  have c0 := (hE1 0).1 (by omega)
  have c1 := (hE1 1).1 (by omega)
  have c2' := (hE1 2).1 (by omega)
  have c3 := (hE1 3).1 (by omega)
  have c4 := (hE1 4).1 (by omega)
  simp [dyU] at c0 c1 c2' c3 c4
  have d0 := (hE2 0).1 (by omega)
  have d1 := (hE2 1).1 (by omega)
  have d2 := (hE2 2).1 (by omega)
  have d3 := (hE2 3).1 (by omega)
  have d4 := (hE2 4).1 (by omega)
  have f0 := (hE2 0).2
  have f1 := (hE2 1).2
  have f2 := (hE2 2).2
  have f3 := (hE2 3).2
  have f4 := (hE2 4).2
  simp only [dyU] at d0 d1 d2 d3 d4
  have hY := Lib.hid hE2
  have hB := Lib.hid hB3
  clear hE1 hE2 hB3
  go_wp2_with fail
  refine bodyPost_ret (res_twoQ Try.results14 rfl rfl (Y5.ret (hY.out.all _ _ _ _ _))) rfl ?_
  exact ⟨rfl, all_below hB.out (Nat.le_succ _) _ _ _ _ _⟩
/-- A box for an answer. -/
theorem box0 (w : World) : ∃ w2, w2 = w.alloc (.cells #[.int .i64 0, .slice none 0 0, .slice none 0 0, .int .u64 0, .bool false] 28) ∧ Y5 w2 w.heap.size (dyU 0 (.slice none 0 0) (.slice none 0 0) 0 false) ∧ Below w.heap.size w w2 :=
  ⟨_, rfl, Y5.new _ _ _ _ _ _ _ _ ⟨rfl, rfl, rfl, rfl, rfl⟩, (Below.refl _ _).alloc (Nat.le_refl _) _⟩
theorem rnew_no (k : Int) (w : World) (h : k < 0 ∨ 262144 < k ∨ k % 16 ≠ 0) : Calls Try.prog 8 #[.int .i64 k] w fun e1 w' => e1 = .returned (.tuple #[dyV 0 (.slice none 0 0) (.slice none 0 0) 0 false, .bool false]) ∧ Below w.heap.size w w' := by
  obtain ⟨w2, hw2, Y2, hB⟩ := box0 w
  have hw' := Lib.hid hw2
  have hB' := Lib.hid hB
  have hY2 := Lib.hid Y2
  have d0 := (Y2 0).1 (by omega)
  have d1 := (Y2 1).1 (by omega)
  have d2 := (Y2 2).1 (by omega)
  have d3 := (Y2 3).1 (by omega)
  have d4 := (Y2 4).1 (by omega)
  have f0 := (Y2 0).2
  have f1 := (Y2 1).2
  have f2 := (Y2 2).2
  have f3 := (Y2 3).2
  have f4 := (Y2 4).2
  simp only [dyU] at d0 d1 d2 d3 d4
  unfold dyV
  clear hw2 hB Y2
  rcases Int.lt_or_le k 0 with h1 | h1
  · go_enter Try.func8, Try.ntmps8
    go_upto_region 1 with (fail)
    rw [← hw'.out]
    go_wp2_with fail
    refine bodyPost_ret (res_twoQ Try.results8 rfl rfl (Y5.ret (hY2.out.all _ _ _ _ _))) rfl ?_
    exact ⟨rfl, all_below hB'.out (Nat.le_refl _) _ _ _ _ _⟩
  · rcases Int.lt_or_le 262144 k with h2 | h2
    · have h3 : ¬ k < 0 := by omega
      go_enter Try.func8, Try.ntmps8
      go_upto_region 1 with (fail)
      rw [← hw'.out]
      go_wp2_with fail
      refine bodyPost_ret (res_twoQ Try.results8 rfl rfl (Y5.ret (hY2.out.all _ _ _ _ _))) rfl ?_
      exact ⟨rfl, all_below hB'.out (Nat.le_refl _) _ _ _ _ _⟩
    · have h3 : ¬ k < 0 := by omega
      have h4 : ¬ 262144 < k := by omega
      have h5 : ¬ k % 16 = 0 := by omega
      go_enter Try.func8, Try.ntmps8
      go_upto_region 1 with (fail)
      rw [← hw'.out]
      go_wp2_with fail
      refine bodyPost_ret (res_twoQ Try.results8 rfl rfl (Y5.ret (hY2.out.all _ _ _ _ _))) rfl ?_
      exact ⟨rfl, all_below hB'.out (Nat.le_refl _) _ _ _ _ _⟩
theorem rnew_yes (k : Int) (w : World) (h1 : 0 ≤ k) (h2 : k ≤ 262144) (h5 : k % 16 = 0) : Calls Try.prog 8 #[.int .i64 k] w fun e1 w' => e1 = .returned (.tuple #[dyV k (.slice none 0 0) (.slice none 0 0) 0 false, .bool true]) ∧ Below w.heap.size w w' := by
  obtain ⟨w2, hw2, Y2, hB⟩ := box0 w
  have hw' := Lib.hid hw2
  have hB' := Lib.hid hB
  have hY2 := Lib.hid Y2
  have d0 := (Y2 0).1 (by omega)
  have d1 := (Y2 1).1 (by omega)
  have d2 := (Y2 2).1 (by omega)
  have d3 := (Y2 3).1 (by omega)
  have d4 := (Y2 4).1 (by omega)
  have f0 := (Y2 0).2
  have f1 := (Y2 1).2
  have f2 := (Y2 2).2
  have f3 := (Y2 3).2
  have f4 := (Y2 4).2
  simp only [dyU] at d0 d1 d2 d3 d4
  unfold dyV
  have h3 : ¬ k < 0 := by omega
  have h4 : ¬ 262144 < k := by omega
  clear hw2 hB Y2
  go_enter Try.func8, Try.ntmps8
  go_upto_region 1 with (fail)
  rw [← hw'.out]
  go_wp2_with fail
  refine bodyPost_ret (res_twoQ Try.results8 rfl rfl (Y5.ret (hY2.out.all _ _ _ _ _))) rfl ?_
  exact ⟨rfl, all_below hB'.out (Nat.le_refl _) _ _ _ _ _⟩
end
end Go.Proofs.Ytmfipabbdhfmcaa.Qu
