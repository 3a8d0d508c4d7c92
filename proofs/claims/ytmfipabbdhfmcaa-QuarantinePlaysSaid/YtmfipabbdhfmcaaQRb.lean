/- The document's side of layer quarantine: common, meets, what only tells. No statement is proved here. -/
import Derived.Test.YtmfipabbdhfmcaaQRa
import Derived.Test.YtmfipabbdhfmcaaQuE
namespace Go.Proofs.Ytmfipabbdhfmcaa.Qu
set_option maxRecDepth 100000
open Go.RowKit Go.Shelf
set_option linter.unusedVariables false
/-- The document's yard. -/
def dyV (b : Int) (wl bl : Value) (e : Nat) (sw : Bool) : Value := .agg #[.int .i64 b, wl, bl, .int .u64 (e : Int), .bool sw]
def dyU (b : Int) (wl bl : Value) (e : Nat) (sw : Bool) (i : Nat) : Value :=
  match i with
  | 0 => .int .i64 b
  | 1 => wl
  | 2 => bl
  | 3 => .int .u64 (e : Int)
  | _ => .bool sw
section
variable {w w' : World} {q e n m base : Nat} {L R M Wt Bt : List Rg} {v lv rv : Value} {r : Rg} {b : Int} {A A2 : Option Addr} {c c2 : Nat} {sw : Bool} {u : Nat → Value}
theorem Y5.keep (H : Y5 w q u) (h : w'.heap[q]? = w.heap[q]?) : Y5 w' q u := fun i => ⟨fun hi => (World.cell?_of_block (a := ⟨q, i, none⟩) h).trans ((H i).1 hi), (World.frozen?_of_block (a := ⟨q, i, none⟩) h).trans (H i).2⟩
theorem Y5.lt (H : Y5 w q u) : q < w.heap.size := lt_of_cell' (p := ⟨q, 0, none⟩) ((H 0).1 (by omega))
theorem Y5.grow (H : Y5 w q u) (k : Below w.heap.size w w') : Y5 w' q u := H.keep (k.block q H.lt)
theorem Y5.new (w : World) (x0 x1 x2 x3 x4 : Value) (T : TypeId) (u : Nat → Value) (h : u 0 = x0 ∧ u 1 = x1 ∧ u 2 = x2 ∧ u 3 = x3 ∧ u 4 = x4) : Y5 (w.alloc (.cells #[x0, x1, x2, x3, x4] T)) w.heap.size u := fun i => ⟨fun hi => by
  obtain ⟨rfl, rfl, rfl, rfl, rfl⟩ := h
  match i, hi with
  | 0, _ => simp
  | 1, _ => simp
  | 2, _ => simp
  | 3, _ => simp
  | 4, _ => simp, by simp⟩
/-- A box of five cells, loaded whole. -/
theorem Y5.ret (H : Y5 w q u) : (loadVar 28 ⟨q, 0, none⟩).run Try.prog w = .ok (.agg #[u 0, u 1, u 2, u 3, u 4]) w := by
  have ia : ∀ w, (isAgg 28).run Try.prog w = .ok true w := fun w => by kernel_rfl
  have sz : ∀ w, (sizeOf 28).run Try.prog w = .ok 5 w := fun w => by kernel_rfl
  have hl := run_loadCells_list (P := Try.prog) w ⟨q, 0, none⟩ [u 0, u 1, u 2, u 3, u 4] (fun j x hx => by
    match j, hx with
    | 0, hx => simp at hx; subst hx; simpa [Addr.add] using (H 0).1 (by omega)
    | 1, hx => simp at hx; subst hx; simpa [Addr.add] using (H 1).1 (by omega)
    | 2, hx => simp at hx; subst hx; simpa [Addr.add] using (H 2).1 (by omega)
    | 3, hx => simp at hx; subst hx; simpa [Addr.add] using (H 3).1 (by omega)
    | 4, hx => simp at hx; subst hx; simpa [Addr.add] using (H 4).1 (by omega))
  simp only [List.length_cons, List.length_nil] at hl
  simp [loadVar, ia, sz, hl]
theorem rcommon (a n a2 n2 : Nat) (h1 : a < 4294967296 ∧ n < 4294967296) (h2 : a2 < 4294967296 ∧ n2 < 4294967296) (w : World) : Calls Try.prog 53 #[.agg #[.int .u32 a, .int .u32 n], .agg #[.int .u32 a2, .int .u32 n2]] w fun e w' => e = .returned (.bool (decide (max a a2 < min (a + n) (a2 + n2)))) ∧ Below w.heap.size w w' := by
  obtain ⟨w1, hw1⟩ : ∃ w1, w1 = w.alloc (.cells #[.int .u32 a, .int .u32 n] 33) := ⟨_, rfl⟩
  have b1 : Below w.heap.size w w1 := by rw [hw1]; exact (Below.refl _ _).alloc (Nat.le_refl _) _
  have hb := Lib.hid (b1.alloc b1.size (.cells #[.int .u32 a2, .int .u32 n2] 33))
  rw [hw1] at hb
  obtain ⟨v, hv⟩ : ∃ v, v = decide (max a a2 < min (a + n) (a2 + n2)) := ⟨_, rfl⟩
  rw [← hv]
  obtain ⟨x, hx⟩ : ∃ x, x = max a a2 := ⟨_, rfl⟩
  obtain ⟨y, hy⟩ : ∃ y, y = min (a + n) (a2 + n2) := ⟨_, rfl⟩
  have e1 : max (a : Int) (a2 : Int) = (x : Int) := by omega
  have e2 : min ((a : Int) + n) ((a2 : Int) + n2) = (y : Int) := by omega
  have g1 : (a : Int) < 4294967296 := by omega
  have g2 : (n : Int) < 4294967296 := by omega
  have g3 : (a2 : Int) < 4294967296 := by omega
  have g4 : (n2 : Int) < 4294967296 := by omega
  rw [← hx, ← hy] at hv
  have hv' := Lib.hid hv
  clear hv hx hy hw1 b1
  cases v
  · have h3 : ¬ (x : Int) < y := by have := of_decide_eq_false hv'.out.symm; omega
    go_enter Try.func53, Try.ntmps53
    go_wp2
    go_ret
    exact ⟨rfl, hb.out⟩
  · have h3 : (x : Int) < y := by have := of_decide_eq_true hv'.out.symm; omega
    go_enter Try.func53, Try.ntmps53
    go_wp2
    go_ret
    exact ⟨rfl, hb.out⟩
def mtF (r q : Rg) : Bool := decide (max q.1 r.1 < min (q.1 + q.2) (r.1 + r.2))
theorem mt_take (X : List Rg) (r : Rg) (i : Nat) (hi : i < X.length) : mt (X.take (i + 1)) r = (mt (X.take i) r || mtF r X[i]) := by
  unfold mt
  rw [List.take_succ_eq_append_getElem hi, List.any_append]
  simp [mtF]
set_option maxHeartbeats 8000000 in
theorem rmeets (HL : GR w L lv) (fL : ∀ r ∈ L, r.1 + r.2 ≤ 262144) (lL : L.length ≤ 16384) (r1 r2 : Nat) (h1 : r1 < 4294967296) (h2 : r2 < 4294967296) : Calls Try.prog 36 #[lv, .agg #[.int .u32 r1, .int .u32 r2]] w fun e w' => e = .returned (.bool (mt L (r1, r2))) ∧ Below w.heap.size w w' := by
  obtain ⟨A, c, rfl, hl⟩ := HL
  obtain ⟨w1, hw1⟩ : ∃ w1, w1 = w.alloc (.cells #[.int .u32 (r1 : Int), .int .u32 (r2 : Int)] 33) := ⟨_, rfl⟩
  have b1 : Below w.heap.size w w1 := by rw [hw1]; exact (Below.refl _ _).alloc (Nat.le_refl _) _
  have X1 := Lib.hid (show Bx w.heap.size (.int .u32 (r1 : Int)) (.int .u32 (r2 : Int)) w1 by rw [hw1]; exact Bx.new _ _ _ _)
  have hb1 := Lib.hid b1
  have hw' := Lib.hid hw1
  obtain ⟨m, hm⟩ : ∃ m, m = L.length := ⟨_, rfl⟩
  rw [← hm] at lL ⊢
  have hm' := Lib.hid hm
  have hl' := Lib.hid hl
  have fL' := Lib.hid fL
  have h12 := Lib.hid (And.intro h1 h2)
  obtain ⟨V, hV⟩ : ∃ V, V = mt L (r1, r2) := ⟨_, rfl⟩
  rw [← hV]
  have hV' := Lib.hid hV
  clear b1 hw1 hm hl hV fL h1 h2
  go_enter Try.func36, Try.ntmps36
  go_upto_region 1 with (fail)
  rw [← hw'.out]
  clear hw'
  go_wp2_with fail
  go_loopw [5] (fun iv wr => ∃ i : Nat, i ≤ m ∧ iv = .int .i64 i ∧ Hid (Below w1.heap.size w1 wr ∧ mt (L.take i) (r1, r2) = false)) (fun iv _ => m - (intOf iv).toNat)
  case atStart => exact ⟨0, by omega, rfl, Lib.hid ⟨Below.refl _ _, rfl⟩⟩
  case round =>
    obtain ⟨i, hi, rfl, hB⟩ := hrel
    by_cases hil : i < m
    · have hil2 : (i : Int) < m := by omega
      have hiX : i < L.length := by rw [← hm'.out]; exact hil
      obtain ⟨g, rfl, hg, k0, k1⟩ := hl'.out i hiX
      have hfit := fL'.out L[i] (List.getElem_mem hiX)
      have htk := Lib.hid (mt_take L (r1, r2) i hiX)
      obtain ⟨d, hd⟩ : ∃ d, d = L[i] := ⟨_, rfl⟩
      rw [← hd] at k0 k1 hfit htk
      have hdm := Lib.hid (show d ∈ L by rw [hd]; exact List.getElem_mem hiX)
      obtain ⟨c1, c2⟩ := d
      dsimp only at k0 k1 hfit
      have i0 : (0 : Int) ≤ i := by omega
      obtain ⟨S, hS0⟩ : ∃ S, S = fun w' => Below wr.heap.size wr w' := ⟨_, rfl⟩
      have hKS : ∀ w', S w' → Below wr.heap.size wr w' := fun w' h => by rw [hS0] at h; exact h
      have h4 : S wr.drew := by rw [hS0]; exact (Below.refl _ _).drew
      have s1 := hb1.out.size
      have s2 := hB.out.1.size
      have a0 : ∀ y : Wd S, y.w.cell? ⟨g, i * 2, none⟩ = some (.int .u32 (c1 : Int)) := fun y => ((((hb1.out.trans (hB.out.1.mono s1)).trans ((hKS _ y.h).mono (by omega)))).cell (p := ⟨g, i * 2, none⟩) hg).trans k0
      have a1 : ∀ y : Wd S, y.w.cell? ⟨g, i * 2 + 1, none⟩ = some (.int .u32 (c2 : Int)) := fun y => ((((hb1.out.trans (hB.out.1.mono s1)).trans ((hKS _ y.h).mono (by omega)))).cell (p := ⟨g, i * 2 + 1, none⟩) hg).trans k1
      have a2 : ∀ y : Wd S, y.w.cell? ⟨w.heap.size, 0, none⟩ = some (.int .u32 (r1 : Int)) := fun y => ((X1.out.grow hB.out.1).grow (hKS _ y.h)).c0
      have a3 : ∀ y : Wd S, y.w.cell? ⟨w.heap.size, 1, none⟩ = some (.int .u32 (r2 : Int)) := fun y => ((X1.out.grow hB.out.1).grow (hKS _ y.h)).c1
      have hKK := Lib.hid hKS
      obtain ⟨U, hU⟩ : ∃ U, U = mtF (r1, r2) (c1, c2) := ⟨_, rfl⟩
      have cC := Lib.hid (show ∀ z : Wd S, Calls Try.prog 53 #[.agg #[.int .u32 (c1 : Int), .int .u32 (c2 : Int)], .agg #[.int .u32 (r1 : Int), .int .u32 (r2 : Int)]] z.w fun e w' => e = .returned (.bool U) ∧ ∃ z' : Wd S, w' = z'.w from
        cls_call (fun w' hw => (rcommon c1 c2 r1 r2 ⟨by omega, by omega⟩ h12.out w').mono fun e w2 k => ⟨by rw [hU]; exact k.1, by rw [hS0]; exact (hKS _ hw).trans (k.2.mono (hKS _ hw).size)⟩))
      have hU' := Lib.hid hU
      clear hS0 hKS k0 k1 hg hd hfit s1 s2 hU
      cases U
      all_goals
        go_wp2_with fail
        refine region_cls S (by kernel_rfl) (by kernel_rfl) h4 ?_
        repeat (first
          | go_big_quiet_skip
          | (go_big_quiet_want
             go_big_quiet_op
             first
             | go_big_quiet_on
             | (apply Exists.intro
                refine ⟨fun y => ?_, ?_⟩
                · first | exact rfl | with_reducible exact cC.out y
                go_big_quiet_on)))
        refine wpQuiet_nil ?_
        intro z
        have hE := Lib.hid (hB.out.1.trans ((hKK.out _ z.h).mono hB.out.1.size))
      · go_wp2_with fail
        go_roundw
        case rel => exact ⟨i + 1, by omega, by go_num, Lib.hid ⟨hE.out, by rw [htk.out, hB.out.2, ← hU'.out]; rfl⟩⟩
        case measure => simp [intOf]; omega
      · have hVt := Lib.hid (show V = true by rw [hV'.out]; exact mt_iff.2 ⟨(c1, c2), hdm.out, of_decide_eq_true hU'.out.symm⟩)
        go_wp2_with fail
        go_ret
        exact ⟨by rw [hVt.out]; rfl, hb1.out.trans (hE.out.mono hb1.out.size)⟩
    · obtain rfl : i = m := by omega
      have hil2 : ¬ (i : Int) < (i : Int) := by omega
      have hE := Lib.hid hB.out.1
      have hVf := Lib.hid (show V = false by
        have h := hB.out.2
        rw [hm'.out, List.take_length] at h
        rw [hV'.out]; exact h)
      go_wp2_with fail
      go_ret
      exact ⟨by rw [hVf.out]; rfl, hb1.out.trans (hE.out.mono hb1.out.size)⟩
end
end Go.Proofs.Ytmfipabbdhfmcaa.Qu
