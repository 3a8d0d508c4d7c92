/- Contracts of layer bounds: what the parts tell. No statement is proved here. -/
import Derived.Test.YtkmgdfcambdeeaaGreatDoorPab
namespace Go.Proofs.YtkmgdfcambdeeaaGreatDoor
open Go.RowKit
set_option linter.unusedVariables false

theorem hi_num (c e : Nat) : (c : Int) / 2 ^ (e + 12) = (c : Int) / ((2 ^ e : Nat) * 4096) := by
  rw [Int.pow_add, cast_pow]; rfl
theorem mid_num (c e : Nat) : IntKind.u16.wrap (((c : Int) / 2 ^ e).tmod 4096) = (c : Int) / (2 ^ e : Nat) % 4096 := by
  rw [cast_pow, IntKind.wrap_u16, Int.tmod_eq_emod_of_nonneg (Int.ediv_nonneg (Int.natCast_nonneg _) (Int.natCast_nonneg _))]
  generalize (c : Int) / ((2 ^ e : Nat) : Int) = r
  omega
theorem isB_of {e b t c : Nat} (he : e ≤ 21) (hb : b < 4096) (ht : t < 4096) : isB e b t c = decide (0 ≤ plc (2 ^ e : Nat) b c b ∧ plc (2 ^ e : Nat) b c b ≤ plc (2 ^ e : Nat) b c t ∧ plc (2 ^ e : Nat) b c t ≤ 4294967296) := by
  simp [isB, he, hb, ht]

theorem two_cells {W : World} {b : Nat} {x0 x1 : Value} (p0 p1 v0 v1 : Value) (q0 : W.cell? ⟨b, 0, none⟩ = some x0) (q1 : W.cell? ⟨b, 1, none⟩ = some x1) :
    ((((W.setCell ⟨b, 0, none⟩ p0).setCell ⟨b, 1, none⟩ p1).setCell ⟨b, 0, none⟩ v0).setCell ⟨b, 1, none⟩ v1).cell? ⟨b, 0, none⟩ = some v0 ∧
    ((((W.setCell ⟨b, 0, none⟩ p0).setCell ⟨b, 1, none⟩ p1).setCell ⟨b, 0, none⟩ v0).setCell ⟨b, 1, none⟩ v1).cell? ⟨b, 1, none⟩ = some v1 := by
  have a0 : ∀ (W : World) (u : Value), (W.setCell ⟨b, 1, none⟩ u).cell? ⟨b, 0, none⟩ = W.cell? ⟨b, 0, none⟩ := fun W u => World.cell?_setCell_other _ _ _ _ (by simp)
  have a1 : ∀ (W : World) (u : Value), (W.setCell ⟨b, 0, none⟩ u).cell? ⟨b, 1, none⟩ = W.cell? ⟨b, 1, none⟩ := fun W u => World.cell?_setCell_other _ _ _ _ (by simp)
  have s0 : (W.setCell ⟨b, 0, none⟩ p0).cell? ⟨b, 0, none⟩ = some p0 := World.cell?_setCell_same' _ _ _ (by rw [q0]; rfl)
  have s1 : ((W.setCell ⟨b, 0, none⟩ p0).setCell ⟨b, 1, none⟩ p1).cell? ⟨b, 1, none⟩ = some p1 := World.cell?_setCell_same' _ _ _ (by rw [a1, q1]; rfl)
  constructor
  · rw [a0]; exact World.cell?_setCell_same' _ _ _ (by rw [a0, s0]; rfl)
  · exact World.cell?_setCell_same' _ _ _ (by rw [a1, s1]; rfl)

set_option maxRecDepth 100000 in
set_option maxHeartbeats 1000000 in
theorem tell_may (e b t c : Nat) (w : World) (he : e ≤ 21) (hb : b < 4096) (ht : t < 4096) (hc : c < 4294967296) :
    Calls Tryz.prog 173 #[.int .u8 e, .int .u16 b, .int .u16 t, .int .u32 c] w fun e' w' => e' = .returned (.tuple #[.agg #[.int .i64 (teB e b t c), .int .i64 (teT e b t c)], .bool (isB e b t c)]) ∧ Below w.heap.size w w' := by
  have i1 : ¬ (21 : Int) < e := by omega
  have i2 : ¬ (4096 : Int) ≤ b := by omega
  have i3 : ¬ (4096 : Int) ≤ t := by omega
  have hsf := fun (a : Addr) (c : Array Value) (w : World) => run_store Tryz.prog w a (.func (.func 209) #[] c) .plain rfl
  have hH := Lib.hid (hi_num c e)
  have hM := Lib.hid (mid_num c e)
  obtain ⟨p, hp⟩ : ∃ p : Nat → Int, p = fun x : Nat => plc (2 ^ e : Nat) b c (x : Int) := ⟨_, rfl⟩
  have hP : ∀ bh bm W, TellAt W w.heap.size (w.heap.size + 1 + 1) (w.heap.size + 1 + 1 + 1) bh bm e (((b : Int) + 3072) % 4096) ((c : Int) / ((2 ^ e : Nat) * 4096)) ((c : Int) / (2 ^ e : Nat) % 4096) → ∀ x : Nat, x < 65536 →
      Calls Tryz.prog 210 #[.int .u16 x, .pointer (some ⟨bh, 0, none⟩), .pointer (some ⟨w.heap.size + 1 + 1 + 1, 0, none⟩), .pointer (some ⟨bm, 0, none⟩), .pointer (some ⟨w.heap.size, 0, none⟩)] W fun e' w' => e' = .returned (.int .i64 (p x)) ∧ ∃ n, W.drewN n = w' := by
    intro bh bm W H x hx
    rw [hp]
    exact place_any _ _ _ _ _ x e c _ _ _ W H he hx hc rfl
  replace hP := Lib.hid hP
  have hI : isB e b t c = decide (0 ≤ p b ∧ p b ≤ p t ∧ p t ≤ 4294967296) := by rw [isB_of (c := c) he hb ht, hp]
  have hB := Lib.hid (show teB e b t c = if isB e b t c then p b else 0 from by rw [hp]; rfl)
  have hT := Lib.hid (show teT e b t c = if isB e b t c then p t else 0 from by rw [hp]; rfl)
  replace hI := Lib.hid hI
  have hb' := Lib.hid (show b < 65536 by omega)
  have ht' := Lib.hid (show t < 65536 by omega)
  generalize teB e b t c = vB at *
  generalize teT e b t c = vT at *
  generalize isB e b t c = vI at *
  clear he hb ht hp
  go_enter Tryz.func173, Tryz.ntmps173
  go_wp2_with fail
  go_region
  · rw [hH.out, hM.out]
    obtain ⟨W, hW⟩ : ∃ W, W = ((((((w.alloc (Obj.cells #[Value.int IntKind.u8 ↑e] 5)).alloc (Obj.cells #[Value.int IntKind.i64 0, Value.int IntKind.i64 0] 212)).alloc (Obj.cells #[Value.int IntKind.u16 ((↑b + 3072) % 4096)] 23)).alloc
                (Obj.cells #[Value.func (Fn.func 209) #[] #[Value.pointer (some { block := w.heap.size + 1 + 1, off := 0 })]] 245)).alloc
            (Obj.cells #[Value.int IntKind.i64 ((c : Int) / ((2 ^ e : Nat) * 4096))] 2)).alloc (Obj.cells #[Value.int IntKind.u16 ((c : Int) / (2 ^ e : Nat) % 4096)] 23)).drew := ⟨_, rfl⟩
    have hA : TellAt W w.heap.size (w.heap.size + 1 + 1) (w.heap.size + 1 + 1 + 1) (w.heap.size + 1 + 1 + 1 + 1) (w.heap.size + 1 + 1 + 1 + 1 + 1) e (((b : Int) + 3072) % 4096) ((c : Int) / ((2 ^ e : Nat) * 4096)) ((c : Int) / (2 ^ e : Nat) % 4096) := by
      rw [hW]; exact ⟨by simp [go_sem], by simp [go_sem], by simp [go_sem], by simp [go_sem], by simp [go_sem]⟩
    have q0 : W.cell? ⟨w.heap.size + 1, 0, none⟩ = some (.int .i64 0) := by rw [hW]; simp [go_sem]
    have q1 : W.cell? ⟨w.heap.size + 1, 1, none⟩ = some (.int .i64 0) := by rw [hW]; simp [go_sem]
    have q2 : W.frozen? ⟨w.heap.size + 1, 0, none⟩ = false := by rw [hW]; simp [go_sem]
    have q3 : W.frozen? ⟨w.heap.size + 1, 1, none⟩ = false := by rw [hW]; simp [go_sem]
    have hb := Lib.hid (show Below w.heap.size w W from by rw [hW]; exact Below.drew (by go_grown))
    rw [← hW]
    clear hW
    replace hA := Lib.hid hA
    go_wp2_with fail
    refine (hP.out _ _ W hA.out b hb'.out).mono ?_
    rintro e' w' ⟨rfl, n1, rfl⟩
    go_wp2_with fail
    refine (hP.out _ _ _ (hA.out.drewN n1) t ht'.out).mono ?_
    rintro e' w' ⟨rfl, n2, rfl⟩
    obtain ⟨W2, hW2⟩ : ∃ W2, W2 = (W.drewN n1).drewN n2 := ⟨_, rfl⟩
    replace q0 : W2.cell? ⟨w.heap.size + 1, 0, none⟩ = some (.int .i64 0) := by rw [hW2]; exact q0
    replace q1 : W2.cell? ⟨w.heap.size + 1, 1, none⟩ = some (.int .i64 0) := by rw [hW2]; exact q1
    replace q2 : W2.frozen? ⟨w.heap.size + 1, 0, none⟩ = false := by rw [hW2]; exact q2
    replace q3 : W2.frozen? ⟨w.heap.size + 1, 1, none⟩ = false := by rw [hW2]; exact q3
    replace hb := Lib.hid (show Below w.heap.size w W2 from by rw [hW2]; exact below_drewN (below_drewN hb.out _) _)
    rw [← hW2]
    clear hW2 hA hP hM hH hsf hb' ht' i1 i2 i3 hc
    generalize p b = p1 at *
    generalize p t = p2 at *
    have no : ¬ (0 ≤ p1 ∧ p1 ≤ p2 ∧ p2 ≤ 4294967296) → vI = false ∧ vB = 0 ∧ vT = 0 := by
      intro h
      have e : vI = false := by rw [hI.out]; exact decide_eq_false h
      exact ⟨e, by rw [hB.out, e]; rfl, by rw [hT.out, e]; rfl⟩
    have yes : (0 ≤ p1 ∧ p1 ≤ p2 ∧ p2 ≤ 4294967296) → vI = true ∧ vB = p1 ∧ vT = p2 := by
      intro h
      have e : vI = true := by rw [hI.out]; exact decide_eq_true h
      exact ⟨e, by rw [hB.out, e]; rfl, by rw [hT.out, e]; rfl⟩
    clear hI hB hT
    by_cases c1 : p1 < 0
    · obtain ⟨rfl, rfl, rfl⟩ := no (by omega)
      clear no yes
      go_wp2_with fail
      have k := two_cells (.int .i64 p1) (.int .i64 p2) (.int .i64 0) (.int .i64 0) q0 q1
      exact bodyPost_ret (v := .tuple #[.agg #[.int .i64 0, .int .i64 0], .bool false]) (by simp [results, Tryz.results173, go_sem, k.1, k.2]) rfl ⟨rfl, (((hb.out.setCell (by simp) _).setCell (by simp) _).setCell (by simp) _).setCell (by simp) _⟩
    · by_cases c2 : p1 > p2
      · obtain ⟨rfl, rfl, rfl⟩ := no (by omega)
        clear no yes
        go_wp2_with fail
        have k := two_cells (.int .i64 p1) (.int .i64 p2) (.int .i64 0) (.int .i64 0) q0 q1
        exact bodyPost_ret (v := .tuple #[.agg #[.int .i64 0, .int .i64 0], .bool false]) (by simp [results, Tryz.results173, go_sem, k.1, k.2]) rfl ⟨rfl, (((hb.out.setCell (by simp) _).setCell (by simp) _).setCell (by simp) _).setCell (by simp) _⟩
      · by_cases c3 : p2 > 4294967296
        · obtain ⟨rfl, rfl, rfl⟩ := no (by omega)
          clear no yes
          go_wp2_with fail
          have k := two_cells (.int .i64 p1) (.int .i64 p2) (.int .i64 0) (.int .i64 0) q0 q1
          exact bodyPost_ret (v := .tuple #[.agg #[.int .i64 0, .int .i64 0], .bool false]) (by simp [results, Tryz.results173, go_sem, k.1, k.2]) rfl ⟨rfl, (((hb.out.setCell (by simp) _).setCell (by simp) _).setCell (by simp) _).setCell (by simp) _⟩
        · obtain ⟨rfl, rfl, rfl⟩ := yes (by omega)
          clear no yes
          go_wp2_with fail
          have k := two_cells (.int .i64 vB) (.int .i64 vT) (.int .i64 vB) (.int .i64 vT) q0 q1
          exact bodyPost_ret (v := .tuple #[.agg #[.int .i64 vB, .int .i64 vT], .bool true]) (by simp [results, Tryz.results173, go_sem, k.1, k.2]) rfl ⟨rfl, (((hb.out.setCell (by simp) _).setCell (by simp) _).setCell (by simp) _).setCell (by simp) _⟩
  · rw [hH.out, hM.out]
    obtain ⟨W, hW⟩ : ∃ W, W = ((((((w.alloc (Obj.cells #[Value.int IntKind.u8 ↑e] 5)).alloc (Obj.cells #[Value.int IntKind.i64 0, Value.int IntKind.i64 0] 212)).alloc (Obj.cells #[Value.int IntKind.u16 ((↑b + 3072) % 4096)] 23)).alloc
                (Obj.cells #[Value.func (Fn.func 209) #[] #[Value.pointer (some { block := w.heap.size + 1 + 1, off := 0 })]] 245)).alloc
            (Obj.cells #[Value.int IntKind.u16 ((c : Int) / (2 ^ e : Nat) % 4096)] 23)).alloc (Obj.cells #[Value.int IntKind.i64 ((c : Int) / ((2 ^ e : Nat) * 4096))] 2)).drew := ⟨_, rfl⟩
    have hA : TellAt W w.heap.size (w.heap.size + 1 + 1) (w.heap.size + 1 + 1 + 1) (w.heap.size + 1 + 1 + 1 + 1 + 1) (w.heap.size + 1 + 1 + 1 + 1) e (((b : Int) + 3072) % 4096) ((c : Int) / ((2 ^ e : Nat) * 4096)) ((c : Int) / (2 ^ e : Nat) % 4096) := by
      rw [hW]; exact ⟨by simp [go_sem], by simp [go_sem], by simp [go_sem], by simp [go_sem], by simp [go_sem]⟩
    have q0 : W.cell? ⟨w.heap.size + 1, 0, none⟩ = some (.int .i64 0) := by rw [hW]; simp [go_sem]
    have q1 : W.cell? ⟨w.heap.size + 1, 1, none⟩ = some (.int .i64 0) := by rw [hW]; simp [go_sem]
    have q2 : W.frozen? ⟨w.heap.size + 1, 0, none⟩ = false := by rw [hW]; simp [go_sem]
    have q3 : W.frozen? ⟨w.heap.size + 1, 1, none⟩ = false := by rw [hW]; simp [go_sem]
    have hb := Lib.hid (show Below w.heap.size w W from by rw [hW]; exact Below.drew (by go_grown))
    rw [← hW]
    clear hW
    replace hA := Lib.hid hA
    go_wp2_with fail
    refine (hP.out _ _ W hA.out b hb'.out).mono ?_
    rintro e' w' ⟨rfl, n1, rfl⟩
    go_wp2_with fail
    refine (hP.out _ _ _ (hA.out.drewN n1) t ht'.out).mono ?_
    rintro e' w' ⟨rfl, n2, rfl⟩
    obtain ⟨W2, hW2⟩ : ∃ W2, W2 = (W.drewN n1).drewN n2 := ⟨_, rfl⟩
    replace q0 : W2.cell? ⟨w.heap.size + 1, 0, none⟩ = some (.int .i64 0) := by rw [hW2]; exact q0
    replace q1 : W2.cell? ⟨w.heap.size + 1, 1, none⟩ = some (.int .i64 0) := by rw [hW2]; exact q1
    replace q2 : W2.frozen? ⟨w.heap.size + 1, 0, none⟩ = false := by rw [hW2]; exact q2
    replace q3 : W2.frozen? ⟨w.heap.size + 1, 1, none⟩ = false := by rw [hW2]; exact q3
    replace hb := Lib.hid (show Below w.heap.size w W2 from by rw [hW2]; exact below_drewN (below_drewN hb.out _) _)
    rw [← hW2]
    clear hW2 hA hP hM hH hsf hb' ht' i1 i2 i3 hc
    generalize p b = p1 at *
    generalize p t = p2 at *
    have no : ¬ (0 ≤ p1 ∧ p1 ≤ p2 ∧ p2 ≤ 4294967296) → vI = false ∧ vB = 0 ∧ vT = 0 := by
      intro h
      have e : vI = false := by rw [hI.out]; exact decide_eq_false h
      exact ⟨e, by rw [hB.out, e]; rfl, by rw [hT.out, e]; rfl⟩
    have yes : (0 ≤ p1 ∧ p1 ≤ p2 ∧ p2 ≤ 4294967296) → vI = true ∧ vB = p1 ∧ vT = p2 := by
      intro h
      have e : vI = true := by rw [hI.out]; exact decide_eq_true h
      exact ⟨e, by rw [hB.out, e]; rfl, by rw [hT.out, e]; rfl⟩
    clear hI hB hT
    by_cases c1 : p1 < 0
    · obtain ⟨rfl, rfl, rfl⟩ := no (by omega)
      clear no yes
      go_wp2_with fail
      have k := two_cells (.int .i64 p1) (.int .i64 p2) (.int .i64 0) (.int .i64 0) q0 q1
      exact bodyPost_ret (v := .tuple #[.agg #[.int .i64 0, .int .i64 0], .bool false]) (by simp [results, Tryz.results173, go_sem, k.1, k.2]) rfl ⟨rfl, (((hb.out.setCell (by simp) _).setCell (by simp) _).setCell (by simp) _).setCell (by simp) _⟩
    · by_cases c2 : p1 > p2
      · obtain ⟨rfl, rfl, rfl⟩ := no (by omega)
        clear no yes
        go_wp2_with fail
        have k := two_cells (.int .i64 p1) (.int .i64 p2) (.int .i64 0) (.int .i64 0) q0 q1
        exact bodyPost_ret (v := .tuple #[.agg #[.int .i64 0, .int .i64 0], .bool false]) (by simp [results, Tryz.results173, go_sem, k.1, k.2]) rfl ⟨rfl, (((hb.out.setCell (by simp) _).setCell (by simp) _).setCell (by simp) _).setCell (by simp) _⟩
      · by_cases c3 : p2 > 4294967296
        · obtain ⟨rfl, rfl, rfl⟩ := no (by omega)
          clear no yes
          go_wp2_with fail
          have k := two_cells (.int .i64 p1) (.int .i64 p2) (.int .i64 0) (.int .i64 0) q0 q1
          exact bodyPost_ret (v := .tuple #[.agg #[.int .i64 0, .int .i64 0], .bool false]) (by simp [results, Tryz.results173, go_sem, k.1, k.2]) rfl ⟨rfl, (((hb.out.setCell (by simp) _).setCell (by simp) _).setCell (by simp) _).setCell (by simp) _⟩
        · obtain ⟨rfl, rfl, rfl⟩ := yes (by omega)
          clear no yes
          go_wp2_with fail
          have k := two_cells (.int .i64 vB) (.int .i64 vT) (.int .i64 vB) (.int .i64 vT) q0 q1
          exact bodyPost_ret (v := .tuple #[.agg #[.int .i64 vB, .int .i64 vT], .bool true]) (by simp [results, Tryz.results173, go_sem, k.1, k.2]) rfl ⟨rfl, (((hb.out.setCell (by simp) _).setCell (by simp) _).setCell (by simp) _).setCell (by simp) _⟩

theorem tell_not (e b t c : Nat) (w : World) (h : ¬ (e ≤ 21 ∧ b < 4096 ∧ t < 4096)) :
    Calls Tryz.prog 173 #[.int .u8 e, .int .u16 b, .int .u16 t, .int .u32 c] w fun e' w' => e' = .returned (.tuple #[.agg #[.int .i64 (teB e b t c), .int .i64 (teT e b t c)], .bool (isB e b t c)]) ∧ Below w.heap.size w w' := by
  have hI : isB e b t c = false := by
    unfold isB
    exact decide_eq_false fun k => h ⟨k.1, k.2.1, k.2.2.1⟩
  have hB : teB e b t c = 0 := by unfold teB; rw [hI]; rfl
  have hT : teT e b t c = 0 := by unfold teT; rw [hI]; rfl
  rw [hI, hB, hT]
  clear hI hB hT
  by_cases h1 : (21 : Int) < e
  · clear h
    go_enter Tryz.func173, Tryz.ntmps173
    go_wp2_with fail
    exact bodyPost_ret (v := .tuple #[.agg #[.int .i64 0, .int .i64 0], .bool false]) (by simp [results, Tryz.results173, go_sem]) rfl ⟨rfl, by go_grown⟩
  · by_cases h2 : (4096 : Int) ≤ b
    · clear h
      go_enter Tryz.func173, Tryz.ntmps173
      go_wp2_with fail
      exact bodyPost_ret (v := .tuple #[.agg #[.int .i64 0, .int .i64 0], .bool false]) (by simp [results, Tryz.results173, go_sem]) rfl ⟨rfl, by go_grown⟩
    · have h3 : (4096 : Int) ≤ t := by omega
      clear h
      go_enter Tryz.func173, Tryz.ntmps173
      go_wp2_with fail
      exact bodyPost_ret (v := .tuple #[.agg #[.int .i64 0, .int .i64 0], .bool false]) (by simp [results, Tryz.results173, go_sem]) rfl ⟨rfl, by go_grown⟩
theorem tell_any (e b t c : Nat) (w : World) (hc : c < 4294967296) :
    Calls Tryz.prog 173 #[.int .u8 e, .int .u16 b, .int .u16 t, .int .u32 c] w fun e' w' => e' = .returned (.tuple #[.agg #[.int .i64 (teB e b t c), .int .i64 (teT e b t c)], .bool (isB e b t c)]) ∧ Below w.heap.size w w' := by
  by_cases h : e ≤ 21 ∧ b < 4096 ∧ t < 4096
  · exact tell_may e b t c w h.1 h.2.1 h.2.2 hc
  · exact tell_not e b t c w h
end Go.Proofs.YtkmgdfcambdeeaaGreatDoor
