/- Proved: a pool of pages does what the document says, step by step (PagesPlays). For every input; no condition. -/
import Derived.Test.YtbabblnpjophdaaRows
import Derived.Test.YtbabblnpjophdaaPgT
import Derived.Test.YtbabblnpjophdaaPgD
import Derived.Test.YtbabblnpjophdaaPgN
import Derived.Deep.LoopGhost
import Derived.Deep.DeepCutAuto
import Derived.Deep.RegionHeld
import Derived.ProofKit
import Derived.OpenShut
import Derived.ChangeOld
namespace Go.Proofs.Ytbabblnpjophdaa.pplays
open Go.ChangeShapes Go.WideShapes Go.ChangeAt Go.RowKit
set_option linter.unusedVariables false

set_option maxRecDepth 100000 in
set_option maxHeartbeats 4000000 in
theorem walk_no (n : Int) (A : Option Addr) (len cap : Nat) (hlen : len ≤ 9223372036854775807) (hn : n < 0 ∨ 1024 < n) (W : World) :
    Calls Try.prog 3 #[.int .i64 n, .slice A len cap] W fun e w' => e = .returned (.bool true) ∧ Below W.heap.size W w' := by
  have hA := Lib.hid (pnew_no n W hn)
  have hR := Lib.hid (rnew_no n W hn)
  have hG := Lib.hid gfree
  have hW := Lib.hid works12_any
  clear hn
  go_enter Try.func3, Try.ntmps3
  go_wp2_with fail
  refine hA.out.mono ?_
  rintro e w1 ⟨rfl, rfl⟩
  go_wp2_with fail
  refine hR.out.mono ?_
  rintro e w1 ⟨rfl, rfl⟩
  go_wp2_with fail
  go_loopw [5, 8] (fun pv i wr => pv = .pointer none ∧ i = .int .i64 0 ∧ W = wr) (fun _ _ _ => 0)
  case atStart => exact ⟨rfl, rfl, rfl⟩
  case round =>
    obtain ⟨rfl, rfl, rfl⟩ := hrel
    rcases Nat.lt_or_ge 0 len with hl | hl
    all_goals
      first | have hl' : (0 : Int) < (len : Int) := by omega | have hl' : ¬ (0 : Int) < (len : Int) := by omega
      go_wp2_with fail
      go_loopw [19] (fun i wr => ∃ x : Int, i = .int .i64 x ∧ -1 ≤ x ∧ x ≤ 1 ∧ Below W.heap.size W wr) (fun i _ => (1 - intOf i).toNat)
      case atStart => exact ⟨-1, rfl, by omega, by omega, Below.refl _ _⟩
      case round =>
        obtain ⟨x, rfl, x1, x2, hB⟩ := hrel
        replace hB := Lib.hid hB
        by_cases hx : x ≤ 0
        · have hc := Lib.hid (hG.out x wr)
          clear hG
          rcases Int.lt_or_le x 0 with h0 | h0
          all_goals
            go_wp2_with fail
            refine hc.out.mono ?_
            rintro e w2 ⟨rfl, hb⟩
            have hB2 := Lib.hid (hB.out.trans (hb.mono hB.out.size))
            clear hb
            go_wp2_with fail
            go_roundw
            case rel => exact ⟨x + 1, by go_num, by omega, by omega, hB2.out⟩
            case measure => simp [intOf]; omega
        · have hx' : ¬ x ≤ 0 := hx
          go_wp2_with fail
          refine (hW.out wr).mono ?_
          rintro e w2 ⟨rfl, hb⟩
          have hB2 := Lib.hid (hB.out.trans (hb.mono hB.out.size))
          clear hb
          go_wp2_with fail
          go_ret
          exact ⟨rfl, hB2.out⟩

set_option maxRecDepth 100000 in
set_option maxHeartbeats 8000000 in
theorem walk_yes (n : Nat) (hn : n ≤ 1024) (A : Option Addr) (len cap : Nat) (hlen : len ≤ 9223372036854775807) (W : World) (hP : StepsIn W W.heap.size A len) :
    Calls Try.prog 3 #[.int .i64 (n : Int), .slice A len cap] W fun e w' => e = .returned (.bool true) ∧ Below W.heap.size W w' := by
  have hA := Lib.hid (pnew n W hn)
  have hR := Lib.hid (fun w => rnew n w hn)
  have hW := Lib.hid works12_any
  have hn' : (n : Int) ≤ 1024 := by omega
  replace hP := Lib.hid hP
  go_enter Try.func3, Try.ntmps3
  go_wp2_with fail
  refine hA.out.mono ?_
  rintro e w1 ⟨p, b, wb, rfl, k1, k2, k3, k4, k5⟩
  have K1 := Lib.hid (show PK W p b wb n (fun _ => false) w1 from ⟨k1, k5, k4⟩)
  clear k1 k2 k3 k4 k5
  go_wp2_with fail
  refine (hR.out w1).mono ?_
  rintro e w2 ⟨rfl, t, hb⟩
  have T2 := Lib.hid (show PT W p b wb w1.heap.size n (fun _ => false) (fun _ => false) w2 from by
    have q1 := K1.out.pool.lp
    have q2 := K1.out.pool.m.lb
    have q3 := K1.out.pool.m.lw
    have q4 := K1.out.bel.size
    exact ⟨K1.out.of_below hb, t, ⟨by omega, by omega, by omega⟩, q4⟩)
  clear t hb K1 hA hR
  generalize w1.heap.size = rb at *
  clear w1
  go_wp2_with fail
  go_loopw [5, 8] (fun pv i wr => ∃ (k p b wb : Nat) (f : Nat → Bool), k ≤ len ∧ k ≤ 50 ∧ pv = .pointer (some ⟨p, 0, none⟩) ∧ i = .int .i64 k ∧ PT W p b wb rb n f f wr) (fun _ i _ => 51 - (intOf i).toNat)
  case atStart => exact ⟨0, p, b, wb, _, by omega, by omega, rfl, rfl, T2.out⟩
  case round =>
    clear T2
    obtain ⟨k, p, b, wb, f, hk, hk50, rfl, rfl, HT⟩ := hrel
    replace HT := Lib.hid HT
    by_cases hlt : k < len ∧ k < 50
    · have j1 : (k : Int) < (len : Int) := by omega
      have j2 : (k : Int) < 50 := by omega
      obtain ⟨bq, off, rfl, hbq, x0, x1, x2, x3, ⟨r0, r1, r2, r3⟩, c0, c1, c2, c3⟩ := (hP.out.below HT.out.k.bel) k hlt.1
      have hlt' := Lib.hid hlt
      obtain ⟨t1, ht1⟩ : ∃ t1, t1 = Int.tmod x0 4 := ⟨_, rfl⟩
      have tr1 : -4 < t1 := by rw [ht1]; exact Int.lt_tmod_of_pos x0 (by decide)
      have tr2 : t1 < 4 := by rw [ht1]; exact Int.tmod_lt_of_pos x0 (by decide)
      have t5 : x0.tmod 4 = t1 := ht1.symm
      have e7 : (t1 + 4).tmod 4 = (t1 + 4) % 4 := Int.tmod_eq_emod_of_nonneg (by omega)
      obtain ⟨r10, r11⟩ := r1
      obtain ⟨r20, r21⟩ := r2
      obtain ⟨r30, r31⟩ := r3
      obtain ⟨r00, r01⟩ := r0
      clear hlt ht1 hbq hk hk50
      have hq0 := Below.refl wr.heap.size wr
      have hB1 := Lib.hid (hq0.alloc (Nat.le_refl _) (.cells #[.int .i64 x0, .int .i64 x1, .int .i64 x2, .int .i64 x3] 29))
      clear hq0
      have hqd := Lib.hid (show wb < wr.heap.size ∧ rb < wr.heap.size from ⟨HT.out.k.pool.m.lw, HT.out.t.lq⟩)
      have d0 : (wr.alloc (.cells #[.int .i64 x0, .int .i64 x1, .int .i64 x2, .int .i64 x3] 29)).cell? ⟨wr.heap.size, 0, none⟩ = some (.int .i64 x0) := by rw [World.cell?_alloc_at (hn := rfl)]; rfl
      have d1 : (wr.alloc (.cells #[.int .i64 x0, .int .i64 x1, .int .i64 x2, .int .i64 x3] 29)).cell? ⟨wr.heap.size, 1, none⟩ = some (.int .i64 x1) := by rw [World.cell?_alloc_at (hn := rfl)]; rfl
      have d2 : (wr.alloc (.cells #[.int .i64 x0, .int .i64 x1, .int .i64 x2, .int .i64 x3] 29)).cell? ⟨wr.heap.size, 2, none⟩ = some (.int .i64 x2) := by rw [World.cell?_alloc_at (hn := rfl)]; rfl
      have d3 : (wr.alloc (.cells #[.int .i64 x0, .int .i64 x1, .int .i64 x2, .int .i64 x3] 29)).cell? ⟨wr.heap.size, 3, none⟩ = some (.int .i64 x3) := by rw [World.cell?_alloc_at (hn := rfl)]; rfl
      have hq := Lib.hid (show wr.heap.size < (wr.alloc (.cells #[.int .i64 x0, .int .i64 x1, .int .i64 x2, .int .i64 x3] 29)).heap.size by simp)
      have hm : t1 % 4 = 0 ∨ t1 % 4 = 1 ∨ t1 % 4 = 2 ∨ t1 % 4 = 3 := by omega
      replace hm := Lib.hid hm
      go_upto_region 9 with (fail)
      generalize wr.alloc (.cells #[.int .i64 x0, .int .i64 x1, .int .i64 x2, .int .i64 x3] 29) = w1 at *
      have T1 := Lib.hid (HT.out.below hB1.out)
      generalize wr.heap.size = q at *
      rcases hm.out with hm | hm | hm | hm
      · have m0 : (t1 % 4 == 0) = true := by simp [hm]
        clear hm e7
        go_wp2_with fail
        refine (ptake T1.out.k.pool x2 x3 r20 (by omega) (by omega)).mono ?_
        rintro ee w3 h
        obtain ⟨rfl, T3⟩ := T1.out.pool h
        rw [← h.2.2.cell (p := ⟨q, 2, none⟩) hq.out (by have := hqd.out; show q ≠ wb; omega)] at d2
        rw [← h.2.2.cell (p := ⟨q, 3, none⟩) hq.out (by have := hqd.out; show q ≠ wb; omega)] at d3
        replace T3 := Lib.hid T3
        clear h
        go_wp2_with fail
        refine (rtake (c := n) T3.out.t x2 x3 hn r20 (by omega) (by omega)).mono ?_
        rintro ee w4 h
        obtain ⟨rfl, T4⟩ := T3.out.truth h
        replace T4 := Lib.hid T4
        clear h
        generalize fndA f n x2 x3 = xA at *
        generalize fndB f n x2 x3 = xB at *
        go_wp2_with fail
        refine (pcount T4.out.k.pool).mono ?_
        rintro ee v1 ⟨rfl, hb⟩
        have U1 := Lib.hid (T4.out.below hb)
        clear hb
        go_wp2_with fail
        refine (rcount (c := n) U1.out.t hn).mono ?_
        rintro ee v2 ⟨rfl, rfl⟩
        have hcc := cnt_le (tkF f n x2 x3) n
        generalize cnt (tkF f n x2 x3) n = cc at *
        go_wp2_with fail
        go_roundw
        case rel => exact ⟨k + 1, p, b, wb, tkF f n x2 x3, by have := hlt'.out.1; omega, by have := hlt'.out.2; omega, rfl, by go_num, U1.out⟩
        case measure => have := hlt'.out.2; simp [intOf]; omega
      · have m0 : (t1 % 4 == 0) = false := by simp [hm]
        have m1 : (t1 % 4 == 1) = true := by simp [hm]
        clear hm e7
        have j0 : w1.drew.cell? ⟨q, 1, none⟩ = some (.int .i64 x1) ∧ w1.drew.cell? ⟨q, 2, none⟩ = some (.int .i64 x2) ∧ q < w1.drew.heap.size := ⟨d1, d2, hq.out⟩
        have s1 := Lib.hid (fun (w v : World) (x : Nat) (h : w.cell? ⟨q, 1, none⟩ = some (.int .i64 x1) ∧ w.cell? ⟨q, 2, none⟩ = some (.int .i64 x2) ∧ q < w.heap.size) (hx : q ≠ x) (o : Off w.heap.size x w v) =>
          (show v.cell? ⟨q, 1, none⟩ = some (.int .i64 x1) ∧ v.cell? ⟨q, 2, none⟩ = some (.int .i64 x2) ∧ q < v.heap.size from ⟨(o.cell h.2.2 hx).trans h.1, (o.cell h.2.2 hx).trans h.2.1, Nat.lt_of_lt_of_le h.2.2 o.size⟩))
        have P0 := Lib.hid T1.out.drew
        have g1 : x1 ≤ 9223372036854775807 := by omega
        have g2 : x2 ≤ 9223372036854775807 := by omega
        have n1 := Lib.hid (show q ≠ wb by have := hqd.out; omega)
        have n2 := Lib.hid (show q ≠ rb by have := hqd.out; omega)
        go_wp2_with fail
        clear d0 d1 d2 d3
        go_region_held (fun w' => w'.cell? ⟨q, 1, none⟩ = some (.int .i64 x1) ∧ w'.cell? ⟨q, 2, none⟩ = some (.int .i64 x2) ∧ q < w'.heap.size)
          (first | with_reducible exact j0 | with_reducible exact j1 | with_reducible exact j2)
          (first
            | (go_at_call 11; ((with_reducible refine (pput P0.out.k.pool x1 x2 r20 g2 r10 g1).mono ?_); rintro ee X h; have j1 := s1.out _ _ _ j0 n1.out h.2.2; have P1 := Lib.hid (P0.out.pool h).2; replace h := h.1; subst h))
            | (go_at_call 12; ((with_reducible refine (rput (c := n) P1.out.t x1 x2 hn r20 g2 r10 g1).mono ?_); rintro ee Y h; have j2 := s1.out _ _ _ j1 n2.out h.2.2; have T4 := Lib.hid (P1.out.truth h).2; replace h := h.1; subst h)))
        clear j0 j1 j2
        generalize ptB f n x1 x2 = xB at *
        go_wp2_with fail
        refine (pcount T4.out.k.pool).mono ?_
        rintro ee v1 ⟨rfl, hb⟩
        have U1 := Lib.hid (T4.out.below hb)
        clear hb
        go_wp2_with fail
        refine (rcount (c := n) U1.out.t hn).mono ?_
        rintro ee v2 ⟨rfl, rfl⟩
        have hcc := cnt_le (ptF f n x1 x2) n
        generalize cnt (ptF f n x1 x2) n = cc at *
        go_wp2_with fail
        go_roundw
        case rel => exact ⟨k + 1, p, b, wb, ptF f n x1 x2, by have := hlt'.out.1; omega, by have := hlt'.out.2; omega, rfl, by go_num, U1.out⟩
        case measure => have := hlt'.out.2; simp [intOf]; omega
      · have m0 : (t1 % 4 == 0) = false := by simp [hm]
        have m1 : (t1 % 4 == 1) = false := by simp [hm]
        have m2 : (t1 % 4 == 2) = true := by simp [hm]
        clear hm e7
        go_wp2_with fail
        refine (rfind (c := n) T1.out.t x2 x3 hn r20 (by omega) (by omega)).mono ?_
        rintro ee w3 ⟨rfl, rfl⟩
        have hF := Lib.hid (pfits T1.out.k.pool x2 x3 r20 (by omega) (by omega))
        generalize fndA f n x2 x3 = xA at *
        generalize fndB f n x2 x3 = xB at *
        go_wp2_with fail
        refine hF.out.mono ?_
        rintro ee w4 ⟨rfl, hb⟩
        have T4 := Lib.hid (T1.out.below hb)
        clear hb
        go_wp2_with fail
        refine (pcount T4.out.k.pool).mono ?_
        rintro ee v1 ⟨rfl, hb⟩
        have U1 := Lib.hid (T4.out.below hb)
        clear hb
        go_wp2_with fail
        refine (rcount (c := n) U1.out.t hn).mono ?_
        rintro ee v2 ⟨rfl, rfl⟩
        have hcc := cnt_le (f) n
        generalize cnt (f) n = cc at *
        go_wp2_with fail
        go_roundw
        case rel => exact ⟨k + 1, p, b, wb, f, by have := hlt'.out.1; omega, by have := hlt'.out.2; omega, rfl, by go_num, U1.out⟩
        case measure => have := hlt'.out.2; simp [intOf]; omega
      · have m0 : (t1 % 4 == 0) = false := by simp [hm]
        have m1 : (t1 % 4 == 1) = false := by simp [hm]
        have m2 : (t1 % 4 == 2) = false := by simp [hm]
        clear hm e7
        go_wp2_with fail
        refine (pcopy T1.out.k.pool).mono ?_
        rintro ee w3 ⟨p', b', wb', rfl, k1, k2, k3, k4, k5⟩
        have T3 := Lib.hid (show (PoolAt w3 p b wb n f ∧ W.heap.size ≤ wb) ∧ PT W p' b' wb' rb n f f w3 ∧ (p' ≠ wb ∧ b' ≠ wb ∧ wb' ≠ wb ∧ rb ≠ wb) from by
          have q1 := T1.out.k.pool.m.lw
          have q2 := T1.out.k.bel.size
          have q3 := T1.out.t.lq
          exact ⟨⟨T1.out.k.pool.grow k5, T1.out.k.hw⟩, ⟨⟨k1, T1.out.k.bel.trans (k5.mono q2), by omega⟩, T1.out.t.grow k5, ⟨by omega, by omega, by omega⟩, T1.out.hr⟩, by omega, by omega, by omega, fun e => T1.out.d.2.2 e.symm⟩)
        clear k1 k2 k3 k4 k5 d0 d1 d2 d3
        go_wp2_with fail
        go_loopw [18] (fun i wr => ∃ (j : Nat) (h : Nat → Bool), j ≤ n ∧ i = .int .i64 j ∧ (PoolAt wr p b wb n h ∧ W.heap.size ≤ wb) ∧ PT W p' b' wb' rb n f f wr ∧ (p' ≠ wb ∧ b' ≠ wb ∧ wb' ≠ wb ∧ rb ≠ wb)) (fun i _ => n - (intOf i).toNat)
        case atStart => exact ⟨0, f, by omega, rfl, T3.out⟩
        case round =>
          obtain ⟨j, h, hj, rfl, HX⟩ := hrel
          replace HX := Lib.hid HX
          have hj' : (j : Int) ≤ 1024 := by omega
          by_cases hjn : j < n
          · go_wp2_with fail
            refine (pput HX.out.1.1 (j : Int) 1 (by omega) (by omega) (by omega) (by omega)).mono ?_
            rintro ee w5 hx
            obtain ⟨rfl, hx1, hx2⟩ := hx
            have HY := Lib.hid (show (PoolAt w5 p b wb n (ptF h n j 1) ∧ W.heap.size ≤ wb) ∧ PT W p' b' wb' rb n f f w5 ∧ (p' ≠ wb ∧ b' ≠ wb ∧ wb' ≠ wb ∧ rb ≠ wb) from
              ⟨⟨hx1, HX.out.1.2⟩, HX.out.2.1.other hx2 HX.out.2.2 HX.out.1.2, HX.out.2.2⟩)
            clear hx1 hx2
            go_wp2_with fail
            go_roundw
            case rel => exact ⟨j + 1, _, by omega, by go_num, HY.out⟩
            case measure => simp [intOf]; omega
          · have T4 := Lib.hid HX.out.2.1
            go_wp2_with fail
            refine (pcount T4.out.k.pool).mono ?_
            rintro ee v1 ⟨rfl, hb⟩
            have U1 := Lib.hid (T4.out.below hb)
            clear hb
            go_wp2_with fail
            refine (rcount (c := n) U1.out.t hn).mono ?_
            rintro ee v2 ⟨rfl, rfl⟩
            have hcc := cnt_le (f) n
            generalize cnt (f) n = cc at *
            go_wp2_with fail
            go_roundw
            case rel => exact ⟨k + 1, p', b', wb', f, by have := hlt'.out.1; omega, by have := hlt'.out.2; omega, rfl, by go_num, U1.out⟩
            case measure => have := hlt'.out.2; simp [intOf]; omega
    · have hk' := Lib.hid hk
      have hcase : ((k : Int) < len ∧ ¬ (k : Int) < 50) ∨ ¬ (k : Int) < len := by omega
      clear hk hk50 hlt hP
      rcases hcase with ⟨j1, j2⟩ | j1
      all_goals
        go_wp2_with fail
        go_loopw [19] (fun i wr => ∃ x : Int, i = .int .i64 x ∧ -1 ≤ x ∧ x ≤ n + 1 ∧ PT W p b wb rb n f f wr) (fun i _ => (n + 1 - intOf i).toNat)
        case atStart => exact ⟨-1, rfl, by omega, by omega, HT.out⟩
        case round =>
          obtain ⟨x, rfl, x1, x2, HX⟩ := hrel
          replace HX := Lib.hid HX
          by_cases hx : x ≤ n
          · have hF := Lib.hid (pfree HX.out.k.pool x)
            rcases Int.lt_or_le x 0 with h0 | h0
            · have e0 : (decide (0 ≤ x) && f x.toNat) = false := by rw [decide_eq_false (by omega), Bool.false_and]
              rw [e0] at hF
              clear e0
              go_wp2_with fail
              refine hF.out.mono ?_
              rintro ee w5 ⟨rfl, hb⟩
              have HY := Lib.hid (HX.out.below hb)
              clear hb
              go_wp2_with fail
              go_roundw
              case rel => exact ⟨x + 1, by go_num, by omega, by omega, HY.out⟩
              case measure => simp [intOf]; omega
            · obtain ⟨X, rfl⟩ := Int.eq_ofNat_of_zero_le h0
              have e0 : (decide (0 ≤ (X : Int)) && f (X : Int).toNat) = f X := by simp
              rw [e0] at hF
              clear e0
              rcases Nat.lt_or_ge X n with h1 | h1
              · have h2 : (X : Int) < n := by omega
                cases hv : f X
                all_goals
                  have hc0 := Lib.hid (fun (w : World) (T : PT W p b wb rb n f f w) => (show w.cell? ⟨rb, X, none⟩ = some (.bool (f X)) from (T.t.cs X h1).1))
                  rw [hv] at hF hc0
                  replace hv := Lib.hid hv
                  go_wp2_with fail
                  refine hF.out.mono ?_
                  rintro ee w5 ⟨rfl, hb⟩
                  have HY := Lib.hid (HX.out.below hb)
                  have hc1 := hc0.out _ HY.out
                  clear hb
                  go_wp2_with fail
                  go_roundw
                  case rel => exact ⟨(X : Int) + 1, by go_num, by omega, by omega, HY.out⟩
                  case measure => simp [intOf]; omega
              · rw [HX.out.k.pool.m.off X h1] at hF
                have h2 : ¬ (X : Int) < n := by omega
                go_wp2_with fail
                refine hF.out.mono ?_
                rintro ee w5 ⟨rfl, hb⟩
                have HY := Lib.hid (HX.out.below hb)
                clear hb
                go_wp2_with fail
                go_roundw
                case rel => exact ⟨(X : Int) + 1, by go_num, by omega, by omega, HY.out⟩
                case measure => simp [intOf]; omega
          · have hb0 := Lib.hid HX.out.k.bel
            go_wp2_with fail
            refine (hW.out wr).mono ?_
            rintro ee w5 ⟨rfl, hb⟩
            have hB := Lib.hid (hb0.out.trans (hb.mono hb0.out.size))
            clear hb
            go_wp2_with fail
            go_ret
            exact ⟨rfl, hB.out⟩
theorem walk {H : Type} {enc : TypeId × Value → H} (n : Int) (wn : (Lit.int .i64 n).wf = true) (v1 : Value) {d0 : DataW H} {p0 : List MemPlace} (W : World)
    (hv : Value.okWide Try.prog W .any 0 22 v1) (hd : DataW.Trod enc Try.prog W 0 (fun _ => true) true 22 v1 d0 p0) :
    Calls Try.prog 3 #[.int .i64 n, v1] W fun e w' => e = .returned (.bool true) ∧ Below W.heap.size W w' := by
  obtain ⟨A, len, cap, rfl, hcap, hm, hP⟩ := steps_of hv hd
  have hlen : len ≤ 9223372036854775807 := by unfold maxLen at hm; omega
  by_cases h1 : n < 0 ∨ 1024 < n
  · exact walk_no n A len cap hlen h1 W
  · obtain ⟨q, rfl⟩ := Int.eq_ofNat_of_zero_le (show 0 ≤ n by omega)
    exact walk_yes q (by omega) A len cap hlen W hP
theorem own : ownKnob Try.prog.godebug = none := by kernel_rfl
theorem laidOut : laidOutB Try.prog = true := by kernel_rfl
set_option maxRecDepth 100000 in
theorem lifted (os : Os) (started : os.Started) (H : Type) (enc : TypeId × Value → H) :
    ReturnsInHanded {} Try.checked os 3 .any (Rows.pagesPlaysSpec.pre6 enc Try.prog Try.f3 Rows.pagesPlaysRow.domain false) (Rows.pagesPlaysSpec.post enc Try.prog Try.f3 false true false false) := by
  refine returnsInHanded_of_change (C := Try.checked) own started (by kernel_rfl) Try.func3
    (ChangeSpec.witness6 (enc := enc) (C := Try.checked) false ⟨#[], #[.int .i64 0, .slice none 0 0], []⟩ 8 (by kernel_rfl) (by kernel_rfl) (by kernel_rfl) (by kernel_rfl)) ?_
  intro W base args ds gs before hval0 hW hcnd hsz
  have hval : ∀ (j : Nat) t v, Try.f3.params[j]? = some t → args[j]? = some v → Value.okWide Try.prog W .any base t v := hval0
  have hW' := hW
  obtain ⟨p, q, hA0, hV, rfl, hfz, hnd⟩ := hW
  have hA : DataW.TrodAll enc Try.prog W 0 (fun _ => true) true Try.f3.params.toList args.toList ds p := hA0
  rw [Try.params3] at hA hval
  obtain ⟨v0, vs0, d0, ds0, p0, q0, hargs, rfl, rfl, h0, r0⟩ := trodAll_cons hA
  obtain ⟨v1, vs1, d1, ds1, p1, q1, rfl, rfl, rfl, h1, r1⟩ := trodAll_cons r0
  obtain ⟨rfl, rfl, rfl⟩ := trodAll_nil r1
  obtain rfl : args = #[v0, v1] := by cases args; simp_all
  obtain ⟨rfl, rfl⟩ := trodVars_none hV
  have k0 := h0
  have lt0 : ∀ x ∈ p0, x.block < W.heap.size := by obtain ⟨m, hm⟩ := k0; exact DataW.trod_lt m _ _ _ hm
  have k1 := h1
  have lt1 : ∀ x ∈ p1, x.block < W.heap.size := by obtain ⟨m, hm⟩ := k1; exact DataW.trod_lt m _ _ _ hm
  obtain ⟨n, rfl, rfl, rfl, wn⟩ := open_int Try.underlying3 (hval 0 3 v0 rfl rfl) h0
  clear hA0 hval0
  refine (walk n wn v1 W (hval 1 22 v1 rfl rfl) k1).mono fun e W' ⟨he, bel⟩ => ?_
  subst he
  exact ⟨_, rfl, _, _, _, [], _, [], hW', trodAll_mk1 (shut_bool Try.underlying4 _), (trodAll_cons_mk (Below.trod laidOut (by kernel_rfl) (of_decide_eq_true (by kernel_rfl)) k0 bel lt0) (trodAll_cons_mk (Below.trod laidOut (by kernel_rfl) (of_decide_eq_true (by kernel_rfl)) k1 bel lt1) trodAll_mk0)), rfl, bel.frame _, fun h => by cases h⟩
theorem over : Rows.pagesPlaysRow.holds Try.pinned (OpenSpec.ofChange Rows.pagesPlaysSpec) :=
  OpenClaim.holds_of_wide 3 Try.f3 rfl rfl rfl rfl rfl rfl rfl ⟨rfl, rfl, rfl, rfl, rfl⟩ rfl rfl rfl rfl rfl (by kernel_rfl) Try.func3 (by kernel_rfl)
    (of_decide_eq_true (by kernel_rfl)) (by unfold Func.isWrapper; first | (rw [if_pos (by decide +kernel)]; kernel_rfl) | (rw [if_neg (by decide +kernel)]; exact ⟨rfl, rfl⟩))
    (fun os started H enc _ => lifted os started H enc)
/-- The given statement. -/
theorem proved : Rows.PagesPlaysSaid := over
end Go.Proofs.Ytbabblnpjophdaa.pplays
