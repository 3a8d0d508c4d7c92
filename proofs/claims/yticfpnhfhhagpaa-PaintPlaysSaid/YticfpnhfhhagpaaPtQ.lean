/- The document's side of layer paint: Count, change, Add, Remove. No statement is proved here. -/
import Derived.Test.YticfpnhfhhagpaaPtR
import Derived.Deep.LoopGhost
import Derived.Deep.DeepCutAuto
namespace Go.Proofs.Yticfpnhfhhagpaa
set_option maxRecDepth 100000
open Go.RowKit Go.Shelf
set_option linter.unusedVariables false
section
variable {w w' : World} {base n : Nat} {v : Value} {f : Nat → Bool}
set_option maxHeartbeats 4000000 in
theorem rcount (H : DP w base v n f) (hn : n ≤ 16384) : Calls Try.prog 16 #[.agg #[v]] w fun e w' => e = .returned (.int .i64 (cnt f n : Nat)) ∧ Below w.heap.size w w' := by
  obtain ⟨A, cap, rfl, h1, h2, h3⟩ := H
  have hb := Lib.hid ((Below.refl w.heap.size w).alloc (Nat.le_refl _) (.cells #[.slice A n cap] 28))
  have hc : (w.alloc (.cells #[.slice A n cap] 28)).cell? ⟨w.heap.size, 0, none⟩ = some (.slice A n cap) := by simp
  obtain ⟨w1, hw1⟩ : ∃ w1, w1 = w.alloc (.cells #[.slice A n cap] 28) := ⟨_, rfl⟩
  rw [← hw1] at hb hc
  have hw1' := Lib.hid hw1
  have h3' := Lib.hid h3
  clear hw1 h3
  go_enter Try.func16, Try.ntmps16
  go_upto_region 3 with (fail)
  rw [← hw1'.out]
  go_wp2_with fail
  go_loopw [3, 4] (fun cv iv wr => ∃ k : Nat, k ≤ n ∧ cv = .int .i64 (cnt f k : Nat) ∧ iv = .int .i64 k ∧ Hid (wr = w1)) (fun _ iv _ => n - (intOf iv).toNat)
  case atStart => exact ⟨0, by omega, rfl, rfl, Lib.hid rfl⟩
  case round =>
    obtain ⟨k, hk, rfl, rfl, hw⟩ := hrel
    have hw0 := hw.out
    subst hw0
    have hcl := cnt_le f k
    have hcs := Lib.hid (show cnt f (k + 1) = cnt f k + (f k).toNat from rfl)
    by_cases hlt : k < n
    · have hl2 : (k : Int) < n := by omega
      obtain ⟨g, rfl, _, hg, hA⟩ := h3'.out (by omega)
      have c0 : wr.cell? ⟨g, k, none⟩ = some (.bool (f k)) := (hb.out.cell (p := ⟨g, k, none⟩) hg).trans (hA.cs k hlt).1
      obtain ⟨u, hu⟩ : ∃ u, u = f k := ⟨_, rfl⟩
      rw [← hu] at c0
      have hu' := Lib.hid hu
      obtain ⟨c, hc'⟩ : ∃ c, c = cnt f k := ⟨_, rfl⟩
      rw [← hc'] at hcl ⊢
      have hc2 := Lib.hid hc'
      clear hu hc' hA
      cases u
      all_goals
        go_wp2_with fail
        go_roundw
        case rel => exact ⟨k + 1, by omega, by rw [hcs.out, ← hu'.out, ← hc2.out]; simp, by go_num, by first | exact Lib.hid rfl | exact Lib.hid trivial⟩
        case measure => simp [intOf]; omega
    · obtain rfl : k = n := by omega
      have hl2 : ¬ (k : Int) < (k : Int) := by omega
      go_wp2_with fail
      go_ret
      exact ⟨rfl, hb.out⟩
theorem gr_ok (a s : Nat) (t : Bool) (h : grB n a s = true) : okT n f a s t = (List.range (s / 16)).all fun i => f (a / 16 + i) != t := by
  unfold grB at h
  rw [Bool.and_eq_true] at h
  have h2 := of_decide_eq_true h.2
  have h1 := of_decide_eq_true h.1
  rw [Bool.eq_iff_iff, ok_iff, List.all_eq_true]
  simp only [List.mem_range, bne_iff_ne]
  constructor
  · intro k i hi; exact (k.2 i hi).2
  · intro k; exact ⟨h1, fun i hi => ⟨by omega, k i hi⟩⟩
theorem gr_no (a s : Nat) (t : Bool) (h : grB n a s = false) : okT n f a s t = false := by
  cases e : okT n f a s t
  · rfl
  · obtain ⟨h1, h2⟩ := ok_iff.1 e
    have h3 := (h2 (s / 16 - 1) (by omega)).1
    rw [show grB n a s = true by unfold grB wholeB; rw [Bool.and_eq_true]; exact ⟨decide_eq_true h1, decide_eq_true (by omega)⟩] at h
    cases h
/-- What a change answers. -/
def ChPost (base n : Nat) (f : Nat → Bool) (a s : Nat) (t : Bool) (w : World) (e : Ending) (w' : World) : Prop :=
  ∃ v', e = .returned (.tuple #[.agg #[v'], .bool (okT n f a s t)]) ∧ DP w' base v' n (tnF n f a s t) ∧ Below w.heap.size w w'
theorem load_pt {q : Nat} {x : Value} (h0 : w.cell? ⟨q, 0, none⟩ = some x) : (loadVar 28 ⟨q, 0, none⟩).run Try.prog w = .ok (.agg #[x]) w := by
  have ia : ∀ w, (isAgg 28).run Try.prog w = .ok true w := fun w => by kernel_rfl
  have sz : ∀ w, (sizeOf 28).run Try.prog w = .ok 1 w := fun w => by kernel_rfl
  have hl := run_loadCells_list (P := Try.prog) w ⟨q, 0, none⟩ [x] (fun j y hy => by
    match j, hy with
    | 0, hy => simp at hy; subst hy; simpa [Addr.add] using h0)
  simp only [List.length_cons, List.length_nil] at hl
  simp [loadVar, ia, sz, hl]
theorem res_two' {P : Program} {fn : Func} {p u : Tmp} {ty : TypeId} (h : fn.results = #[.cell p ty, .tmp u]) {tmps : Array Value} {w : World} {g : Nat} {v x : Value} (hp : tmps.getD p undef = .pointer (some ⟨g, 0, none⟩)) (hu : tmps.getD u undef = x) (hl : (loadVar ty ⟨g, 0, none⟩).run P w = .ok v w) : (results fn tmps).run P w = .ok (.tuple #[v, x]) w := by
  rw [results_cell_tmp h, hp, hu]
  simp [asAddr, hl]
/-- Which granules have been asked. -/
def allJ (f : Nat → Bool) (x : Nat) (t : Bool) (j : Nat) : Bool := (List.range j).all fun i => f (x + i) != t
theorem allJ_succ (f : Nat → Bool) (x : Nat) (t : Bool) (j : Nat) : allJ f x t (j + 1) = (allJ f x t j && (f (x + j) != t)) := by
  unfold allJ
  rw [List.range_succ, List.all_append]
  simp
set_option maxHeartbeats 16000000 in
theorem rchange (H : DP w base v n f) (hn : n ≤ 16384) (hbs : base ≤ w.heap.size) (a s : Nat) (ha : a < 4294967296) (hs : s < 4294967296) (t : Bool) :
    Calls Try.prog 22 #[.agg #[v], .agg #[.int .u32 a, .int .u32 s], .bool t] w (ChPost base n f a s t w) := by
  have H0 := Lib.hid H
  obtain ⟨A, cap, rfl, h1, h2, h3⟩ := H
  obtain ⟨w1, hw1⟩ : ∃ w1, w1 = w.alloc (.cells #[.slice A n cap] 28) := ⟨_, rfl⟩
  have b1 : Below w.heap.size w w1 := by rw [hw1]; exact (Below.refl _ _).alloc (Nat.le_refl _) _
  have s1 : w1.heap.size = w.heap.size + 1 := by rw [hw1]; simp
  have p1 : w1.cell? ⟨w.heap.size, 0, none⟩ = some (.slice A n cap) := by rw [hw1]; simp
  obtain ⟨w2, hw2⟩ : ∃ w2, w2 = w1.alloc (.cells #[.int .u32 a, .int .u32 s] 33) := ⟨_, rfl⟩
  have b2 : Below w1.heap.size w1 w2 := by rw [hw2]; exact (Below.refl _ _).alloc (Nat.le_refl _) _
  have s2 : w2.heap.size = w.heap.size + 2 := by rw [hw2, World.size_alloc, s1]
  have r0 : w2.cell? ⟨w.heap.size + 1, 0, none⟩ = some (.int .u32 a) := by rw [hw2, ← s1]; simp
  have r1 : w2.cell? ⟨w.heap.size + 1, 1, none⟩ = some (.int .u32 s) := by rw [hw2, ← s1]; simp
  have p2 := (b2.cell (p := ⟨w.heap.size, 0, none⟩) (by show w.heap.size < _; omega)).trans p1
  obtain ⟨w3, hw3⟩ : ∃ w3, w3 = w2.alloc (.cells #[.slice none 0 0] 28) := ⟨_, rfl⟩
  have b3 : Below w2.heap.size w2 w3 := by rw [hw3]; exact (Below.refl _ _).alloc (Nat.le_refl _) _
  have s3 : w3.heap.size = w.heap.size + 3 := by rw [hw3, World.size_alloc, s2]
  have u3 : w3.cell? ⟨w.heap.size + 2, 0, none⟩ = some (.slice none 0 0) ∧ w3.frozen? ⟨w.heap.size + 2, 0, none⟩ = false := by rw [hw3, ← s2]; exact new_cell rfl _ rfl
  have r0' := (b3.cell (p := ⟨w.heap.size + 1, 0, none⟩) (by show w.heap.size + 1 < _; omega)).trans r0
  have r1' := (b3.cell (p := ⟨w.heap.size + 1, 1, none⟩) (by show w.heap.size + 1 < _; omega)).trans r1
  have p3 := (b3.cell (p := ⟨w.heap.size, 0, none⟩) (by show w.heap.size < _; omega)).trans p2
  have b03 := Lib.hid ((b1.trans (b2.mono (by omega))).trans (b3.mono (by omega)))
  have hw' := Lib.hid (show w3 = ((w.alloc (.cells #[.slice A n cap] 28)).alloc (.cells #[.int .u32 a, .int .u32 s] 33)).alloc (.cells #[.slice none 0 0] 28) by rw [hw3, hw2, hw1])
  have hs3 := Lib.hid s3
  clear hw1 hw2 hw3 b1 b2 b3 s1 s2 s3 p1 p2 r0 r1
  have hGr := Lib.hid (rgran a s cap A ha hs hn w3)
  obtain ⟨F, hF⟩ : ∃ F, F = ChPost base n f a s t w := ⟨_, rfl⟩
  rw [← hF]
  have hF' := Lib.hid hF
  have h3' := Lib.hid h3
  clear hF h3
  go_enter Try.func22, Try.ntmps22
  go_upto_region 1 with (fail)
  try rw [show w.heap.size + 1 + 1 = w.heap.size + 2 from rfl]
  rw [← hw'.out]
  cases hg : grB n a s
  · rw [hg] at hGr
    have hT := Lib.hid (gr_no (f := f) a s t hg)
    simp only [Bool.false_eq_true, if_false] at hGr
    go_wp2_with fail
    refine hGr.out.mono ?_
    rintro e w4 ⟨rfl, hb4⟩
    have B4 := Lib.hid (b03.out.trans (hb4.mono b03.out.size))
    have p4 := (hb4.cell (p := ⟨w.heap.size, 0, none⟩) (by show w.heap.size < _; have := hs3.out; omega)).trans p3
    have c4 := (hb4.cell (p := ⟨w.heap.size + 2, 0, none⟩) (by show w.heap.size + 2 < _; have := hs3.out; omega)).trans u3.1
    have f4 := (hb4.frozen (p := ⟨w.heap.size + 2, 0, none⟩) (by show w.heap.size + 2 < _; have := hs3.out; omega)).trans u3.2
    have z0 : ((0 : Nat) : Int) = 0 := rfl
    clear hb4 hGr p3 u3 r0' r1'
    go_wp2_with fail
    go_loopw [10, 11] (fun bv iv wr => bv = .bool false ∧ iv = .int .i64 0 ∧ Hid (wr = w4)) (fun _ _ _ => 0)
    case atStart => exact ⟨rfl, rfl, Lib.hid rfl⟩
    case round =>
      obtain ⟨rfl, rfl, hw⟩ := hrel
      have hw0 := hw.out
      subst hw0
      go_wp2_with fail
      have hcell := World.cell?_setCell_same' wr ⟨w.heap.size + 2, 0, none⟩ (.slice A n cap) (by rw [c4]; rfl)
      have hB := Lib.hid (B4.out.setCell (p := ⟨w.heap.size + 2, 0, none⟩) (by show w.heap.size ≤ w.heap.size + 2; omega) (.slice A n cap))
      refine bodyPost_ret (res_two' Try.results22 rfl rfl (load_pt hcell)) rfl ?_
      rw [hF'.out]
      exact ⟨_, by rw [hT.out]; rfl, by rw [tnF_no hT.out]; exact H0.out.keep (fun g _ hg => hB.out.block g hg) hB.out.size, hB.out⟩
  · rw [hg] at hGr
    simp only [if_true] at hGr
    have hT := Lib.hid (gr_ok (f := f) a s t hg)
    have hgr : a % 16 = 0 ∧ s % 16 = 0 ∧ 0 < s ∧ a + s ≤ 16 * n := by
      unfold grB wholeB at hg
      rw [Bool.and_eq_true] at hg
      have g1 := of_decide_eq_true hg.1
      exact ⟨g1.1, g1.2.1, g1.2.2, of_decide_eq_true hg.2⟩
    obtain ⟨x, hx⟩ : ∃ x, x = a / 16 := ⟨_, rfl⟩
    obtain ⟨m, hm⟩ : ∃ m, m = s / 16 := ⟨_, rfl⟩
    obtain ⟨y, hy⟩ : ∃ y, y = (a + s) / 16 := ⟨_, rfl⟩
    have hxy : (y : Int) = (x : Int) + m := by omega
    have hm1 : 1 ≤ m := by omega
    have hxm : x + m ≤ n := by omega
    have hTt := Lib.hid (show tnF n f a s t = if okT n f a s t then turnJ f x t m else f by
      unfold tnF turnJ
      rw [hx, hm])
    change Hid (_ = allJ f (a / 16) t (s / 16)) at hT
    rw [← hx, ← hm] at hT
    rw [← hx, ← hy] at hGr
    obtain ⟨g, rfl, hgb, hgl, hA⟩ := h3'.out (by omega)
    have hA' := Lib.hid hA
    have hgl' := Lib.hid hgl
    clear h3' hg hgr hx hm hy hA hgl
    go_wp2_with fail
    refine hGr.out.mono ?_
    rintro e w4 ⟨rfl, hb4⟩
    have B4 := Lib.hid (b03.out.trans (hb4.mono b03.out.size))
    have p4 := (hb4.cell (p := ⟨w.heap.size, 0, none⟩) (by show w.heap.size < _; have := hs3.out; omega)).trans p3
    have c4 := (hb4.cell (p := ⟨w.heap.size + 2, 0, none⟩) (by show w.heap.size + 2 < _; have := hs3.out; omega)).trans u3.1
    have f4 := (hb4.frozen (p := ⟨w.heap.size + 2, 0, none⟩) (by show w.heap.size + 2 < _; have := hs3.out; omega)).trans u3.2
    have l4 := Lib.hid (show w.heap.size + 3 ≤ w4.heap.size by have := hb4.size; have := hs3.out; omega)
    rw [hxy]
    have hyb : x + m ≤ 16384 := by omega
    clear hb4 hGr p3 u3 r0' r1' hxy
    go_wp2_with fail
    go_loopw [10, 11] (fun bv iv wr => ∃ j : Nat, j ≤ m ∧ bv = .bool (allJ f x t j) ∧ iv = .int .i64 ((x : Int) + j) ∧ Hid (wr = w4)) (fun _ iv _ => x + m - (intOf iv).toNat)
    case atStart => exact ⟨0, by omega, rfl, by simp, Lib.hid rfl⟩
    case round =>
      obtain ⟨j, hj, rfl, rfl, hw⟩ := hrel
      have hw0 := hw.out
      subst hw0
      by_cases hjm : j < m
      · have hl2 : (x : Int) + j < (x : Int) + m := by omega
        have hsucc := Lib.hid (allJ_succ f x t j)
        cases hv : allJ f x t j
        · replace hv := Lib.hid hv
          go_wp2_with fail
          go_roundw
          case rel => exact ⟨j + 1, by omega, by rw [hsucc.out, hv.out]; rfl, by go_num, by first | exact Lib.hid rfl | exact Lib.hid trivial⟩
          case measure => simp [intOf]; omega
        · replace hv := Lib.hid hv
          have c0 : wr.cell? ⟨g, x + j, none⟩ = some (.bool (f (x + j))) := (B4.out.cell (p := ⟨g, x + j, none⟩) hgl'.out).trans (hA'.out.cs (x + j) (by omega)).1
          have i1 : ((x : Int) + j).toNat = x + j := by omega
          have i2 : (0 : Int) ≤ (x : Int) + j := by omega
          have i3 : (x : Int) + j < n := by omega
          obtain ⟨u, hu⟩ : ∃ u, u = f (x + j) := ⟨_, rfl⟩
          rw [← hu] at c0
          have hu' := Lib.hid hu
          clear hu
          cases u <;> cases t
          all_goals
            go_wp2_with fail
            go_roundw
            case rel => exact ⟨j + 1, by omega, by rw [hsucc.out, hv.out, ← hu'.out]; rfl, by go_num, by first | exact Lib.hid rfl | exact Lib.hid trivial⟩
            case measure => simp [intOf]; omega
      · obtain rfl : j = m := by omega
        have hl2 : ¬ (x : Int) + j < (x : Int) + j := by omega
        obtain ⟨ok, hok⟩ : ∃ ok, ok = allJ f x t j := ⟨_, rfl⟩
        rw [← hok] at hT ⊢
        clear hok
        cases ok
        · go_wp2_with fail
          have hcell := World.cell?_setCell_same' wr ⟨w.heap.size + 2, 0, none⟩ (.slice (some ⟨g, 0, none⟩) n cap) (by rw [c4]; rfl)
          have hB := Lib.hid (B4.out.setCell (p := ⟨w.heap.size + 2, 0, none⟩) (by show w.heap.size ≤ w.heap.size + 2; omega) (.slice (some ⟨g, 0, none⟩) n cap))
          refine bodyPost_ret (res_two' Try.results22 rfl rfl (load_pt hcell)) rfl ?_
          rw [hF'.out]
          exact ⟨_, by rw [hT.out]; rfl, by rw [tnF_no hT.out]; exact H0.out.keep (fun g _ hg => hB.out.block g hg) hB.out.size, hB.out⟩
        · obtain ⟨i0, hi, hz0, hz1, hz2⟩ := info_parts infoBool
          have hcs : ∀ k u, (bV f n)[k]? = some u → wr.cell? ((⟨g, 0, none⟩ : Addr).add k) = some u := fun k u hu => by
            have hk : k < n := by
              rcases Nat.lt_or_ge k n with h | h
              · exact h
              · rw [List.getElem?_eq_none (by rw [bV_len]; exact h)] at hu; cases hu
            rw [bV_get f hk] at hu
            cases hu
            rw [show (⟨g, 0, none⟩ : Addr).add k = ⟨g, k, none⟩ by unfold Addr.add; split <;> simp_all]
            exact (B4.out.cell (p := ⟨g, k, none⟩) hgl'.out).trans (hA'.out.cs k hk).1
          have hcs' := Lib.hid hcs
          obtain ⟨w4, hw4⟩ : ∃ w4, w4 = wr := ⟨_, rfl⟩
          rw [← hw4] at B4 p4 c4 f4 l4 hcs' ⊢
          clear hcs hw hw4
          go_wp2_with (at_builtin; refine wpList_append_own _ rfl _ _ 26 rfl w4.heap.size 4 i0 (.bool false) 1 1 Try.underlying26 hi hz0 hz1 hz2 rfl (by decide) (.slice none 0 0) 0 [] rfl (World.ownsRow_nil _ _ _ _) ⟨g, 0, none⟩ n cap (bV f n) rfl (by rw [bV_len]; omega) hcs'.out (bV_one f n) (by unfold maxLen; omega) (by omega) (Nat.le_refl _) ?_; intro v5 w5 hO hG hN)
          have hb5 := Lib.hid ((Below.refl w4.heap.size w4).grown hG (Nat.le_refl _) (fun k hk => by cases hk))
          rw [Nat.zero_add, List.nil_append] at hO
          obtain ⟨A5, cap5, rfl, k1, k2, k3⟩ := dp_of hO
          obtain ⟨g2, rfl, hg2, hg3, hA5⟩ := k3 (by omega)
          have hA6 := Lib.hid (show BA w5 g2 n (turnJ f x t 0) from hA5.congr fun k _ => turnJ_zero f x t k)
          have hg2' := Lib.hid (And.intro hg2 hg3)
          have k12 := Lib.hid (And.intro k1 k2)
          clear hO hG hN k1 k2 k3 hA5 hg2 hg3 hi hz0 hz1 hz2 hcs'
          go_wp2_with fail
          go_loopw [13] (fun iv wr => ∃ i : Nat, i ≤ j ∧ iv = .int .i64 ((x : Int) + i) ∧ Hid (Below w4.heap.size w4 wr ∧ BA wr g2 n (turnJ f x t i) ∧ g2 < wr.heap.size)) (fun iv _ => x + j - (intOf iv).toNat)
          case atStart => exact ⟨0, by omega, by simp, Lib.hid ⟨hb5.out, hA6.out, hg2'.out.2⟩⟩
          case round =>
            clear hA6 hb5
            obtain ⟨i, hi, rfl, hS⟩ := hrel
            by_cases hij : i < j
            · have hl3 : (x : Int) + i < (x : Int) + j := by omega
              obtain ⟨c0, c1⟩ := hS.out.2.1.cs (x + i) (by omega)
              have i1 : ((x : Int) + i).toNat = x + i := by omega
              have i2 : (0 : Int) ≤ (x : Int) + i := by omega
              have i3 : (x : Int) + i < n := by omega
              have hb6 := Lib.hid (hS.out.1.setCell (p := ⟨g2, x + i, none⟩) hg2'.out.1 (.bool t))
              have hA7 := Lib.hid ((hS.out.2.1.store (a := x + i) (by omega) t).congr fun k _ => turnJ_step f x t i k)
              go_wp2_with fail
              go_roundw
              case rel => exact ⟨i + 1, by omega, by go_num, Lib.hid ⟨hb6.out, hA7.out, by simpa [World.setCell] using hS.out.2.2⟩⟩
              case measure => simp [intOf]; omega
            · obtain rfl : i = j := by omega
              have hl3 : ¬ (x : Int) + i < (x : Int) + i := by omega
              have c6 := (hS.out.1.cell (p := ⟨w.heap.size + 2, 0, none⟩) (by show w.heap.size + 2 < _; have := l4.out; omega)).trans c4
              have f6 := (hS.out.1.frozen (p := ⟨w.heap.size + 2, 0, none⟩) (by show w.heap.size + 2 < _; have := l4.out; omega)).trans f4
              go_wp2_with fail
              have hcell := World.cell?_setCell_same' wr ⟨w.heap.size + 2, 0, none⟩ (.slice (some ⟨g2, 0, none⟩) n cap5) (by rw [c6]; rfl)
              have hgq : g2 ≠ w.heap.size + 2 := by have := hg2'.out.1; have := l4.out; omega
              have hB := Lib.hid ((B4.out.trans (hS.out.1.mono B4.out.size)).setCell (p := ⟨w.heap.size + 2, 0, none⟩) (by show w.heap.size ≤ w.heap.size + 2; omega) (.slice (some ⟨g2, 0, none⟩) n cap5))
              refine bodyPost_ret (res_two' Try.results22 rfl rfl (load_pt hcell)) rfl ?_
              rw [hF'.out]
              refine ⟨_, by rw [hT.out]; rfl, ?_, hB.out⟩
              rw [hTt.out, hT.out, if_pos rfl]
              exact ⟨_, cap5, rfl, k12.out.1, k12.out.2, fun _ => ⟨g2, rfl, by have := hg2'.out.1; have := l4.out; omega, by simpa [World.setCell] using hS.out.2.2, hS.out.2.1.keep (Below.heap_setCell _ _ _ _ (by show g2 ≠ w.heap.size + 2; exact hgq))⟩⟩
theorem DP.other {q m k : Nat} {A : Option Addr} (H : DP w base v n f) (c : w.cell? ⟨q, 0, none⟩ = some (.slice A m k)) (u : Value) : DP (w.setCell ⟨q, 0, none⟩ u) base v n f := by
  obtain ⟨A, cap, h0, h1, h2, h3⟩ := H
  refine ⟨A, cap, h0, h1, h2, fun hn => ?_⟩
  obtain ⟨g, e, hb, hg, hA⟩ := h3 hn
  have hne : g ≠ q := fun e2 => by
    subst e2
    have := (hA.cs 0 hn).1
    rw [c] at this
    cases this
  exact ⟨g, e, hb, by simpa [World.setCell] using hg, hA.keep (Below.heap_setCell _ _ _ _ (by show g ≠ q; exact hne))⟩
set_option maxHeartbeats 4000000 in
theorem radd (H : DP w base v n f) (hn : n ≤ 16384) (hbs : base ≤ w.heap.size) (a s : Nat) (ha : a < 4294967296) (hs : s < 4294967296) :
    Calls Try.prog 11 #[.agg #[v], .agg #[.int .u32 a, .int .u32 s]] w (ChPost base n f a s true w) := by
  obtain ⟨w1, hw1⟩ : ∃ w1, w1 = w.alloc (.cells #[v] 28) := ⟨_, rfl⟩
  have b1 : Below w.heap.size w w1 := by rw [hw1]; exact (Below.refl _ _).alloc (Nat.le_refl _) _
  have s1 : w1.heap.size = w.heap.size + 1 := by rw [hw1]; simp
  have p1 : w1.cell? ⟨w.heap.size, 0, none⟩ = some v := by rw [hw1]; simp
  obtain ⟨w2, hw2⟩ : ∃ w2, w2 = w1.alloc (.cells #[.int .u32 a, .int .u32 s] 33) := ⟨_, rfl⟩
  have b2 : Below w1.heap.size w1 w2 := by rw [hw2]; exact (Below.refl _ _).alloc (Nat.le_refl _) _
  have s2 : w2.heap.size = w.heap.size + 2 := by rw [hw2, World.size_alloc, s1]
  have r0 : w2.cell? ⟨w.heap.size + 1, 0, none⟩ = some (.int .u32 a) := by rw [hw2, ← s1]; simp
  have r1 : w2.cell? ⟨w.heap.size + 1, 1, none⟩ = some (.int .u32 s) := by rw [hw2, ← s1]; simp
  have p2 := (b2.cell (p := ⟨w.heap.size, 0, none⟩) (by show w.heap.size < _; omega)).trans p1
  obtain ⟨w3, hw3⟩ : ∃ w3, w3 = w2.alloc (.cells #[.slice none 0 0] 28) := ⟨_, rfl⟩
  have b3 : Below w2.heap.size w2 w3 := by rw [hw3]; exact (Below.refl _ _).alloc (Nat.le_refl _) _
  have s3 : w3.heap.size = w.heap.size + 3 := by rw [hw3, World.size_alloc, s2]
  have u3 : w3.cell? ⟨w.heap.size + 2, 0, none⟩ = some (.slice none 0 0) ∧ w3.frozen? ⟨w.heap.size + 2, 0, none⟩ = false := by rw [hw3, ← s2]; exact new_cell rfl _ rfl
  have r0' := (b3.cell (p := ⟨w.heap.size + 1, 0, none⟩) (by show w.heap.size + 1 < _; omega)).trans r0
  have r1' := (b3.cell (p := ⟨w.heap.size + 1, 1, none⟩) (by show w.heap.size + 1 < _; omega)).trans r1
  have p3 := (b3.cell (p := ⟨w.heap.size, 0, none⟩) (by show w.heap.size < _; omega)).trans p2
  have b03 := Lib.hid ((b1.trans (b2.mono (by omega))).trans (b3.mono (by omega)))
  have hw' := Lib.hid (show w3 = ((w.alloc (.cells #[v] 28)).alloc (.cells #[.int .u32 a, .int .u32 s] 33)).alloc (.cells #[.slice none 0 0] 28) by rw [hw3, hw2, hw1])
  have hs3 := Lib.hid s3
  have hC := Lib.hid (rchange (H.grow b03.out) hn (Nat.le_trans hbs b03.out.size) a s ha hs true)
  obtain ⟨F, hF⟩ : ∃ F, F = ChPost base n f a s true w := ⟨_, rfl⟩
  rw [← hF]
  have hF' := Lib.hid hF
  clear hF hw1 hw2 hw3 b1 b2 b3 s1 s2 s3 p1 p2 r0 r1 H
  go_enter Try.func11, Try.ntmps11
  go_upto_region 1 with (fail)
  try rw [show w.heap.size + 1 + 1 = w.heap.size + 2 from rfl]
  rw [← hw'.out]
  go_wp2_with fail
  refine hC.out.mono ?_
  rintro e w4 ⟨v', rfl, hD, hb4⟩
  have c4 := (hb4.cell (p := ⟨w.heap.size + 2, 0, none⟩) (by show w.heap.size + 2 < _; have := hs3.out; omega)).trans u3.1
  have f4 := (hb4.frozen (p := ⟨w.heap.size + 2, 0, none⟩) (by show w.heap.size + 2 < _; have := hs3.out; omega)).trans u3.2
  have hl4 := Lib.hid (show w.heap.size + 3 ≤ w4.heap.size by have := hb4.size; have := hs3.out; omega)
  have hB4 := Lib.hid (b03.out.trans (hb4.mono b03.out.size))
  have hD' := Lib.hid hD
  obtain ⟨A', cap', rfl, _⟩ := hD
  obtain ⟨g, hg⟩ : ∃ g, g = okT n f a s true := ⟨_, rfl⟩
  rw [← hg]
  have hg' := Lib.hid hg
  clear hb4 hC hg p3 u3 r0' r1'
  go_wp2_with fail
  have hcell := World.cell?_setCell_same' w4 ⟨w.heap.size + 2, 0, none⟩ (.slice A' n cap') (by rw [c4]; rfl)
  have hB := Lib.hid (hB4.out.setCell (p := ⟨w.heap.size + 2, 0, none⟩) (by show w.heap.size ≤ w.heap.size + 2; omega) (.slice A' n cap'))
  refine bodyPost_ret (res_two' Try.results11 rfl rfl (load_pt hcell)) rfl ?_
  rw [hF'.out]
  exact ⟨_, by rw [← hg'.out]; rfl, hD'.out.other c4 _, hB.out⟩
set_option maxHeartbeats 4000000 in
theorem rrem (H : DP w base v n f) (hn : n ≤ 16384) (hbs : base ≤ w.heap.size) (a s : Nat) (ha : a < 4294967296) (hs : s < 4294967296) :
    Calls Try.prog 13 #[.agg #[v], .agg #[.int .u32 a, .int .u32 s]] w (ChPost base n f a s false w) := by
  obtain ⟨w1, hw1⟩ : ∃ w1, w1 = w.alloc (.cells #[v] 28) := ⟨_, rfl⟩
  have b1 : Below w.heap.size w w1 := by rw [hw1]; exact (Below.refl _ _).alloc (Nat.le_refl _) _
  have s1 : w1.heap.size = w.heap.size + 1 := by rw [hw1]; simp
  have p1 : w1.cell? ⟨w.heap.size, 0, none⟩ = some v := by rw [hw1]; simp
  obtain ⟨w2, hw2⟩ : ∃ w2, w2 = w1.alloc (.cells #[.int .u32 a, .int .u32 s] 33) := ⟨_, rfl⟩
  have b2 : Below w1.heap.size w1 w2 := by rw [hw2]; exact (Below.refl _ _).alloc (Nat.le_refl _) _
  have s2 : w2.heap.size = w.heap.size + 2 := by rw [hw2, World.size_alloc, s1]
  have r0 : w2.cell? ⟨w.heap.size + 1, 0, none⟩ = some (.int .u32 a) := by rw [hw2, ← s1]; simp
  have r1 : w2.cell? ⟨w.heap.size + 1, 1, none⟩ = some (.int .u32 s) := by rw [hw2, ← s1]; simp
  have p2 := (b2.cell (p := ⟨w.heap.size, 0, none⟩) (by show w.heap.size < _; omega)).trans p1
  obtain ⟨w3, hw3⟩ : ∃ w3, w3 = w2.alloc (.cells #[.slice none 0 0] 28) := ⟨_, rfl⟩
  have b3 : Below w2.heap.size w2 w3 := by rw [hw3]; exact (Below.refl _ _).alloc (Nat.le_refl _) _
  have s3 : w3.heap.size = w.heap.size + 3 := by rw [hw3, World.size_alloc, s2]
  have u3 : w3.cell? ⟨w.heap.size + 2, 0, none⟩ = some (.slice none 0 0) ∧ w3.frozen? ⟨w.heap.size + 2, 0, none⟩ = false := by rw [hw3, ← s2]; exact new_cell rfl _ rfl
  have r0' := (b3.cell (p := ⟨w.heap.size + 1, 0, none⟩) (by show w.heap.size + 1 < _; omega)).trans r0
  have r1' := (b3.cell (p := ⟨w.heap.size + 1, 1, none⟩) (by show w.heap.size + 1 < _; omega)).trans r1
  have p3 := (b3.cell (p := ⟨w.heap.size, 0, none⟩) (by show w.heap.size < _; omega)).trans p2
  have b03 := Lib.hid ((b1.trans (b2.mono (by omega))).trans (b3.mono (by omega)))
  have hw' := Lib.hid (show w3 = ((w.alloc (.cells #[v] 28)).alloc (.cells #[.int .u32 a, .int .u32 s] 33)).alloc (.cells #[.slice none 0 0] 28) by rw [hw3, hw2, hw1])
  have hs3 := Lib.hid s3
  have hC := Lib.hid (rchange (H.grow b03.out) hn (Nat.le_trans hbs b03.out.size) a s ha hs false)
  obtain ⟨F, hF⟩ : ∃ F, F = ChPost base n f a s false w := ⟨_, rfl⟩
  rw [← hF]
  have hF' := Lib.hid hF
  clear hF hw1 hw2 hw3 b1 b2 b3 s1 s2 s3 p1 p2 r0 r1 H
  go_enter Try.func13, Try.ntmps13
  go_upto_region 1 with (fail)
  try rw [show w.heap.size + 1 + 1 = w.heap.size + 2 from rfl]
  rw [← hw'.out]
  go_wp2_with fail
  refine hC.out.mono ?_
  rintro e w4 ⟨v', rfl, hD, hb4⟩
  have c4 := (hb4.cell (p := ⟨w.heap.size + 2, 0, none⟩) (by show w.heap.size + 2 < _; have := hs3.out; omega)).trans u3.1
  have f4 := (hb4.frozen (p := ⟨w.heap.size + 2, 0, none⟩) (by show w.heap.size + 2 < _; have := hs3.out; omega)).trans u3.2
  have hl4 := Lib.hid (show w.heap.size + 3 ≤ w4.heap.size by have := hb4.size; have := hs3.out; omega)
  have hB4 := Lib.hid (b03.out.trans (hb4.mono b03.out.size))
  have hD' := Lib.hid hD
  obtain ⟨A', cap', rfl, _⟩ := hD
  obtain ⟨g, hg⟩ : ∃ g, g = okT n f a s false := ⟨_, rfl⟩
  rw [← hg]
  have hg' := Lib.hid hg
  clear hb4 hC hg p3 u3 r0' r1'
  go_wp2_with fail
  have hcell := World.cell?_setCell_same' w4 ⟨w.heap.size + 2, 0, none⟩ (.slice A' n cap') (by rw [c4]; rfl)
  have hB := Lib.hid (hB4.out.setCell (p := ⟨w.heap.size + 2, 0, none⟩) (by show w.heap.size ≤ w.heap.size + 2; omega) (.slice A' n cap'))
  refine bodyPost_ret (res_two' Try.results13 rfl rfl (load_pt hcell)) rfl ?_
  rw [hF'.out]
  exact ⟨_, by rw [← hg'.out]; rfl, hD'.out.other c4 _, hB.out⟩
end
end Go.Proofs.Yticfpnhfhhagpaa
