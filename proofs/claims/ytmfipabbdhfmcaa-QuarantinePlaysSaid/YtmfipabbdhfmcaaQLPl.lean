/- Proved: a yard does what the document says, step by step (QuarantinePlays). For every input; no condition. -/
import Derived.Test.YtmfipabbdhfmcaaRows
import Derived.Test.YtmfipabbdhfmcaaQPt
import Derived.Test.YtmfipabbdhfmcaaQPs
import Derived.Test.YtmfipabbdhfmcaaQAc
import Derived.Deep.LoopGhost
import Derived.Deep.RegionHeld
import Derived.Deep.CutBlock
import Derived.Deep.CutRange
import Derived.ProofKit
import Derived.OpenShut
import Derived.ChangeOld
namespace Go.Proofs.Ytmfipabbdhfmcaa.qplays
set_option maxRecDepth 100000
open Go.ChangeShapes Go.WideShapes Go.ChangeAt Go.RowKit Go.Shelf Go.Proofs.Ytmfipabbdhfmcaa.Qu
set_option linter.unusedVariables false
set_option maxHeartbeats 16000000 in
theorem walk_yes (n : Nat) (hn : n ≤ 16384) (A : Option Addr) (len cap : Nat) (hlen : len ≤ 9223372036854775807) (W : World) (hP : ActsIn W W.heap.size A len) :
    Calls Try.prog 3 #[.int .i64 (16 * n : Nat), .slice A len cap] W fun e w' => e = .returned (.bool true) ∧ Below W.heap.size W w' := by
  obtain ⟨b, hb⟩ : ∃ b : Int, b = ((16 * n : Nat) : Int) := ⟨_, rfl⟩
  rw [← hb]
  have hN := Lib.hid (new_k (W := W) (w := W) (D := fun k => k < W.heap.size) n hn (Below.refl _ _) b hb.symm (fun _ h => h) (fun k h => h))
  have hR := Lib.hid (fun w => rnew_yes b w (by omega) (by omega) (by omega))
  unfold dyV at hR
  replace hb := Lib.hid hb
  replace hP := Lib.hid hP
  go_enter Try.func3, Try.ntmps3
  go_wp2_with fail
  refine hN.out.mono ?_
  rintro e w1 ⟨y, rfl, k, _, _⟩
  have K1 := Lib.hid k
  clear k hN
  go_wp2_with fail
  refine (hR.out w1).mono ?_
  rintro e w2 ⟨rfl, k⟩
  have K2 := Lib.hid (K1.out.grow k)
  clear k hR K1
  go_upto_region 3 with (fail)
  have K0 := Lib.hid (show PM W y w2.heap.size n b ⟨[], [], 0, false⟩ ⟨[], [], 0, false⟩ (.slice none 0 0) (.slice none 0 0) (w2.alloc (.cells #[.int .i64 b, .slice none 0 0, .slice none 0 0, .int .u64 ((0 : Nat) : Int), .bool false] 28)) from by
    obtain ⟨Y1, B1⟩ := box1 w2 b (.slice none 0 0) (.slice none 0 0) 0 false
    refine ⟨(K2.out.more B1).sub (fun j hj => ?_) fun j hj => .inl hj, Y1, World.ownsRow_nil _ _ _ _, World.ownsRow_nil _ _ _ _, K2.out.b.size, fun h => (by cases h), fun h => (by cases h)⟩
    rcases hj with hj | hj | hj | hj
    · exact .inl hj
    · exact .inr (by rw [hj]; simp)
    · cases hj
    · cases hj)
  generalize w2.alloc (.cells #[.int .i64 b, .slice none 0 0, .slice none 0 0, .int .u64 ((0 : Nat) : Int), .bool false] 28) = w3 at K0 ⊢
  obtain ⟨q, hq⟩ : ∃ q, q = w2.heap.size := ⟨_, rfl⟩
  rw [← hq] at K0 ⊢
  clear hq K2
  go_wp2_with fail
  go_loopw [5, 8] (fun yv i wr => ∃ (y k : Nat) (d : QS) (A1 : Option Addr) (x1 c1 : Nat) (A2 : Option Addr) (x2 c2 : Nat), yv = .pointer (some ⟨y, 0, none⟩) ∧ i = .int .i64 k ∧ k ≤ 40 ∧ d.e ≤ k ∧ Hid (PM W y q n b d d (.slice A1 x1 c1) (.slice A2 x2 c2) wr)) (fun _ i _ => 41 - (intOf i).toNat)
  case atStart => exact ⟨y, 0, ⟨[], [], 0, false⟩, none, 0, 0, none, 0, 0, rfl, rfl, by omega, Nat.le_refl _, K0⟩
  case round =>
    clear K0
    obtain ⟨y, k, d, A1, x1, c1, A2, x2, c2, rfl, rfl, hk, hek, HP⟩ := hrel
    by_cases hlt : k < len ∧ k < 40
    · have j1 : (k : Int) < (len : Int) := by omega
      have j2 : (k : Int) < 40 := by omega
      obtain ⟨bq, off, rfl, hbq, x0, a, s, ⟨r0, r1, r2⟩, c0, c1', c2'⟩ := hP.out k hlt.1
      have hcl := Lib.hid (show ∀ w, Below W.heap.size W w → w.cell? ⟨bq, off + k * 3, none⟩ = some (.int .i64 x0) ∧ w.cell? ⟨bq, off + k * 3 + 1, none⟩ = some (.int .u32 a) ∧ w.cell? ⟨bq, off + k * 3 + 2, none⟩ = some (.int .u32 s) from fun w hw =>
        ⟨(hw.cell (p := ⟨bq, off + k * 3, none⟩) hbq).trans c0, (hw.cell (p := ⟨bq, off + k * 3 + 1, none⟩) hbq).trans c1', (hw.cell (p := ⟨bq, off + k * 3 + 2, none⟩) hbq).trans c2'⟩)
      have d0 := (hcl.out wr HP.out.k.b).1
      have hlt' := Lib.hid hlt
      clear c0 c1' c2' hbq r0 hlt
      have k0 : (0 : Int) ≤ k := by omega
      go_upto_block 2 with (fail)
      obtain ⟨kk, hkk⟩ : ∃ kk : Int, kk = (wrap64 (x0.tmod 4 + 4)).tmod 4 := ⟨_, rfl⟩
      rw [← hkk]
      clear hkk d0
      go_cut [5, 9] (fun yv ov w' => ∃ (y' : Nat) (d' : QS) (A3 : Option Addr) (x3 c3 : Nat) (A4 : Option Addr) (x4 c4 : Nat), yv = .pointer (some ⟨y', 0, none⟩) ∧ ov = .bool true ∧ Hid (d'.e ≤ k + 1 ∧ PM W y' q n b d' d' (.slice A3 x3 c3) (.slice A4 x4 c4) w'))
      case first =>
        go_upto_region 14 with (fail)
        by_cases h0 : kk = 0
        · subst h0
          obtain ⟨d1, d2⟩ := (hcl.out wr HP.out.k.b).2
          obtain ⟨ok, hok⟩ : ∃ ok, ok = okF n (d.W ++ d.B) (a, s) := ⟨_, rfl⟩
          obtain ⟨p', hp⟩ : ∃ p' : QS, p' = ⟨if ok then insR (a, s) d.W else d.W, d.B, d.e, d.sw⟩ := ⟨_, rfl⟩
          have hpe : p'.e = d.e := by rw [hp]
          have hA := Lib.hid ((free_k HP.out.k a s (by omega) (by omega) ok hok.symm (Wt' := p'.W) (by rw [hp])).mono fun e1 w' h => show e1 = .returned (.bool ok) ∧ PM W y q n b p' d (.slice A1 x1 c1) (.slice A2 x2 c2) w' from ⟨h.1, HP.out.kp (p' := p') (by rw [hp] at h ⊢; exact h.2.1) h.2.2⟩)
          have hok' := Lib.hid hok
          have hp' := Lib.hid hp
          clear hok hp
          go_wp2_with fail
          refine hA.out.mono ?_
          rintro e1 w5 ⟨rfl, P5⟩
          have P5' := Lib.hid P5
          clear hA d1 d2
          have P6 := P5.grow (Below.refl _ _).drew
          have hC := Lib.hid (dfree_pm HP.out P6 hb.out (by omega) (by omega) ok hok'.out hp'.out)
          have hz := Lib.hid (show Below w5.drew.heap.size w5.drew (w5.alloc (.cells #[.int .i64 0, .slice none 0 0, .slice none 0 0, .int .u64 0, .bool false] 28)).drew from by
            have h := ((Below.refl w5.heap.size w5).alloc (Nat.le_refl _) (.cells #[.int .i64 0, .slice none 0 0, .slice none 0 0, .int .u64 0, .bool false] 28)).drew
            exact ⟨h.os, h.tape, h.output, h.size, h.block⟩)
          have hz1 := Lib.hid (show Y5 (w5.alloc (.cells #[.int .i64 0, .slice none 0 0, .slice none 0 0, .int .u64 0, .bool false] 28)).drew w5.heap.size (dyU 0 (.slice none 0 0) (.slice none 0 0) 0 false) from by
            obtain ⟨Y1, _⟩ := box1 w5 0 (.slice none 0 0) (.slice none 0 0) 0 false
            exact Y1)
          have hy0 := Lib.hid (Below.refl w5.drew.heap.size w5.drew)
          obtain ⟨a1, a2⟩ := (hcl.out w5 P5.k.b).2
          have b0 := (P6.bx 0).1 (by omega)
          have b1 := (P6.bx 1).1 (by omega)
          have b2 := (P6.bx 2).1 (by omega)
          have b3 := (P6.bx 3).1 (by omega)
          have b4 := (P6.bx 4).1 (by omega)
          simp only [dyU] at b0 b1 b2 b3 b4
          have P6' := Lib.hid P6
          have hql : q < w5.heap.size := P5.bx.lt
          have n1 : ¬ q = w5.heap.size := by omega
          have n2 : ¬ w5.heap.size = q := by omega
          have hbx := P5.bx.grow ((Below.refl _ _).alloc (Nat.le_refl _) (.cells #[.int .i64 0, .slice none 0 0, .slice none 0 0, .int .u64 0, .bool false] 28)).drew
          have z0 := (hbx 0).1 (by omega)
          have z1 := (hbx 1).1 (by omega)
          have z2 := (hbx 2).1 (by omega)
          have z3 := (hbx 3).1 (by omega)
          have z4 := (hbx 4).1 (by omega)
          simp only [dyU] at z0 z1 z2 z3 z4
          obtain ⟨y1, y2⟩ := (hcl.out _ (P5.k.b.trans (((Below.refl w5.heap.size w5).alloc (Nat.le_refl _) (.cells #[.int .i64 0, .slice none 0 0, .slice none 0 0, .int .u64 0, .bool false] 28)).drew.mono P5.k.b.size))).2
          clear P5 P6 hbx
          go_upto_region 16 with (fail)
          go_cut [11, 12] from 73 to 82 (fun bx ov w' => ∃ (r : Nat) (A' : Option Addr) (x' c' : Nat), bx = .pointer (some ⟨r, 0, none⟩) ∧ ov = .bool ok ∧ Hid (Box W y q n b p' d A1 x1 c1 A2 x2 c2 r A' x' c' w'))
          case rest =>
            obtain ⟨r, A', x', c', rfl, rfl, HB⟩ := hcut
            have n1 := HB.out.ne
            have n2 := HB.out.ne.symm
            have f0 := (HB.out.y5 0).1 (by omega)
            have f1 := (HB.out.y5 1).1 (by omega)
            have f2 := (HB.out.y5 2).1 (by omega)
            have f3 := (HB.out.y5 3).1 (by omega)
            have f4 := (HB.out.y5 4).1 (by omega)
            have e0 := (HB.out.k.bx 0).1 (by omega)
            have e1 := (HB.out.k.bx 1).1 (by omega)
            have e2 := (HB.out.k.bx 2).1 (by omega)
            have e3 := (HB.out.k.bx 3).1 (by omega)
            have e4 := (HB.out.k.bx 4).1 (by omega)
            have g0 := (HB.out.k.bx 0).2
            have g1 := (HB.out.k.bx 1).2
            have g2 := (HB.out.k.bx 2).2
            have g3 := (HB.out.k.bx 3).2
            have g4 := (HB.out.k.bx 4).2
            simp only [dyU] at f0 f1 f2 f3 f4 e0 e1 e2 e3 e4
            have hfin := Lib.hid (HB.out.nx _ (Below.refl _ _))
            clear b0 b1 b2 b3 b4 z0 z1 z2 z3 z4 a1 a2 y1 y2
            go_wp2_with fail
            go_meet
            exact ⟨y, p', A', x', c', A2, x2, c2, rfl, rfl, Lib.hid ⟨by rw [hpe]; omega, hfin.out⟩⟩
          go_region_with (go_at_call 10; (first | ((with_reducible refine (hC.out _ hy0.out).mono ?_); rintro e1 w7 ⟨A', x', c', rfl, hb7, hs7⟩; have hB7 := Lib.hid hb7; have hS7 := Lib.hid hs7; clear hb7 hs7) | ((with_reducible refine (hC.out _ hz.out).mono ?_); rintro e1 w7 ⟨A', x', c', rfl, hb7, hs7⟩; have hB7 := Lib.hid hb7; have hS7 := Lib.hid hs7; have y7 := hz1.out.grow hb7; have f0 := (y7 0).1 (by omega); have f1 := (y7 1).1 (by omega); have f2 := (y7 2).1 (by omega); have f3 := (y7 3).1 (by omega); have f4 := (y7 4).1 (by omega); have g0 := (y7 0).2; have g1 := (y7 1).2; have g2 := (y7 2).2; have g3 := (y7 3).2; have g4 := (y7 4).2; clear hb7 hs7 y7; simp only [dyU] at f0 f1 f2 f3 f4)))
          all_goals go_wp2_with fail
          all_goals go_meet
          all_goals exact ⟨_, _, _, _, rfl, rfl, by first | exact Lib.hid (finA P6'.out hB7.out hS7.out) | exact Lib.hid (finB P6'.out hz.out hz1.out (Nat.le_refl _) hB7.out hz1.out.lt hS7.out)⟩
        · have hd0 : d.e < 1000000 := by omega
          have hgd := HP.out.k.y.good
          by_cases h1 : kk = 1
          · subst h1
            have hA := Lib.hid (pbegin HP.out hd0)
            have hC := Lib.hid (fun w5 (H : PM W y q n b (bgn d) d (.slice A1 x1 c1) (.slice A2 x2 c2) w5) => dbegin H hd0)
            have hbe := Lib.hid (show (bgn d).e ≤ k + 1 from by
              unfold bgn
              split
              · omega
              · show d.e + 1 ≤ k + 1
                omega)
            obtain ⟨p', hp⟩ : ∃ p' : QS, p' = bgn d := ⟨_, rfl⟩
            obtain ⟨t, ht⟩ : ∃ t, t = bgT d := ⟨_, rfl⟩
            obtain ⟨ok, hok⟩ : ∃ ok, ok = !d.sw := ⟨_, rfl⟩
            rw [← hp, ← ht, ← hok] at hA
            rw [← hp, ← ht, ← hok] at hC
            rw [← hp] at hbe
            clear hp ht hok h0 hgd
            go_wp2_with fail
            refine hA.out.mono ?_
            rintro e1 w5 ⟨rfl, P5⟩
            have hD := Lib.hid (hC.out _ P5)
            have b0 := (P5.bx 0).1 (by omega)
            have b1 := (P5.bx 1).1 (by omega)
            have b2 := (P5.bx 2).1 (by omega)
            have b3 := (P5.bx 3).1 (by omega)
            have b4 := (P5.bx 4).1 (by omega)
            simp only [dyU] at b0 b1 b2 b3 b4
            have P5' := Lib.hid P5
            clear P5 hA hC
            go_wp2_with fail
            refine hD.out.mono ?_
            rintro e1 w7 ⟨A3, x3, c3, A4, x4, c4, rfl, hb7, hs7⟩
            have hY := P5'.out.bx.grow hb7
            have e0 := (hY 0).1 (by omega)
            have e1 := (hY 1).1 (by omega)
            have e2 := (hY 2).1 (by omega)
            have e3 := (hY 3).1 (by omega)
            have e4 := (hY 4).1 (by omega)
            have g0 := (hY 0).2
            have g1 := (hY 1).2
            have g2 := (hY 2).2
            have g3 := (hY 3).2
            have g4 := (hY 4).2
            simp only [dyU] at e0 e1 e2 e3 e4
            have hql : q < w7.heap.size := hY.lt
            have n1 : ¬ q = w7.heap.size := by omega
            have n2 : ¬ w7.heap.size = q := by omega
            have hS7 := Lib.hid ((hs7 _ hb7).grow ((Below.refl _ _).alloc (Nat.le_refl _) (.cells #[.int .i64 b, .slice A3 x3 c3, .slice A4 x4 c4, .int .u64 (p'.e : Int), .bool p'.sw] 28)))
            clear hD b0 b1 b2 b3 b4 hb7 hs7 hY
            go_wp2_with fail
            go_meet
            exact ⟨y, p', A3, x3, c3, A4, x4, c4, rfl, rfl, Lib.hid ⟨hbe.out, hS7.out⟩⟩
          · by_cases h2 : kk = 2
            · subst h2
              have hA := Lib.hid (pend HP.out)
              have hC := Lib.hid (fun w5 (H : PM W y q n b (ends d) d (.slice A1 x1 c1) (.slice A2 x2 c2) w5) => dend H hgd.2.2.2.1)
              obtain ⟨hG, l1, l2, f1, f2, _⟩ := pm_len HP.out
              have hS := Lib.hid (fun w8 v1 v2 (h1 : GR w8 d.B v1) (h2 : GR w8 d.B v2) => (rSame h1 h2 l2 l2).mono fun e1 w9 h => (show e1 = .returned (.bool true) ∧ Below w8.heap.size w8 w9 from ⟨by rw [h.1, decide_eq_true rfl], h.2⟩))
              clear h0 h1 hgd hG l1 l2 f1 f2
              go_wp2_with fail
              refine hA.out.mono ?_
              rintro e1 w5 ⟨A5, x5, c5, rfl, P5, hR5⟩
              have hD := Lib.hid (hC.out _ P5)
              have hR5' := Lib.hid hR5
              have b0 := (P5.bx 0).1 (by omega)
              have b1 := (P5.bx 1).1 (by omega)
              have b2 := (P5.bx 2).1 (by omega)
              have b3 := (P5.bx 3).1 (by omega)
              have b4 := (P5.bx 4).1 (by omega)
              simp only [dyU] at b0 b1 b2 b3 b4
              have P5' := Lib.hid P5
              clear P5 hA hC hR5
              go_wp2_with fail
              refine hD.out.mono ?_
              rintro e1 w7 ⟨A3, x3, c3, A4, x4, c4, A6, x6, c6, rfl, hb7, hs7, hr7⟩
              have hY := P5'.out.bx.grow hb7
              have e0 := (hY 0).1 (by omega)
              have e1 := (hY 1).1 (by omega)
              have e2 := (hY 2).1 (by omega)
              have e3 := (hY 3).1 (by omega)
              have e4 := (hY 4).1 (by omega)
              have g0 := (hY 0).2
              have g1 := (hY 1).2
              have g2 := (hY 2).2
              have g3 := (hY 3).2
              have g4 := (hY 4).2
              simp only [dyU] at e0 e1 e2 e3 e4
              have hql : q < w7.heap.size := hY.lt
              have n1 : ¬ q = w7.heap.size := by omega
              have n2 : ¬ w7.heap.size = q := by omega
              have hb8 := fun w : World => (Below.refl w.heap.size w).alloc (Nat.le_refl _) (.cells #[.int .i64 b, .slice A3 x3 c3, .slice A4 x4 c4, .int .u64 (d.e : Int), .bool false] 28)
              have hS7 := Lib.hid ((hs7 _ hb7).grow (hb8 _))
              have hF := Lib.hid (hS.out _ _ _ ((hR5'.out _ hb7 b (.slice A3 x3 c3) (.slice A4 x4 c4) d.e false).grow (hb8 _)) ((hr7 _ hb7 b (.slice A3 x3 c3) (.slice A4 x4 c4) d.e false).grow (hb8 _)))
              clear hD b0 b1 b2 b3 b4 hb7 hs7 hY hr7 hb8 hS
              go_wp2_with fail
              refine hF.out.mono ?_
              rintro e1 w9 ⟨rfl, k9⟩
              have P9 := Lib.hid (hS7.out.grow k9)
              clear k9 hF
              go_wp2_with fail
              go_meet
              exact ⟨y, ends d, A3, x3, c3, A4, x4, c4, rfl, rfl, Lib.hid ⟨by show d.e ≤ k + 1; omega, P9.out⟩⟩
            · have hA := Lib.hid (pcopy HP.out)
              clear hgd
              go_wp2_with fail
              refine hA.out.mono ?_
              rintro e1 w5 ⟨y2, rfl, K5, hn⟩
              have hn' := Lib.hid hn
              have hE := Lib.hid (end_any K5)
              clear K5 hn hA
              go_wp2_with fail
              refine hE.out.mono ?_
              rintro e1 w6 ⟨v6, rfl, -, K6, k6, -⟩
              have hB6 := Lib.hid (begin_k K6 hd0)
              have k6' := Lib.hid k6
              clear K6 k6 hE
              go_wp2_with fail
              refine hB6.out.mono ?_
              rintro e1 w7 ⟨rfl, -, k7⟩
              have P7 := Lib.hid (hn'.out _ (k6'.out.trans ⟨k7.os, k7.tape, k7.output, k7.size, fun j hj => k7.block j (.inl hj)⟩))
              clear k7 hB6
              go_wp2_with fail
              go_meet
              exact ⟨y2, d, A1, x1, c1, A2, x2, c2, rfl, rfl, Lib.hid ⟨by omega, P7.out⟩⟩
      case rest =>
        obtain ⟨y', d', A3, x3, c3, A4, x4, c4, rfl, rfl, HQ⟩ := hcut
        clear HP hek d
        obtain ⟨y, hy⟩ : ∃ y, y = y' := ⟨_, rfl⟩
        obtain ⟨d, hd⟩ : ∃ d, d = d' := ⟨_, rfl⟩
        rw [← hy]
        rw [← hy, ← hd] at HQ
        clear hy hd y' d'
        obtain ⟨hek, P0⟩ := HQ.out
        clear HQ
        obtain ⟨hG, l1, l2, f1, f2, _⟩ := pm_len P0
        have hc0 := Lib.hid hek
        have hsm := Lib.hid (same_any (b := b) P0.k P0.ow P0.ob (by omega))
        unfold dyV at hsm
        have b0 := (P0.bx 0).1 (by omega)
        have b1 := (P0.bx 1).1 (by omega)
        have b2 := (P0.bx 2).1 (by omega)
        have b3 := (P0.bx 3).1 (by omega)
        have b4 := (P0.bx 4).1 (by omega)
        simp only [dyU] at b0 b1 b2 b3 b4
        have hP0 := Lib.hid P0
        have hGB := Lib.hid (show Qu.Good n d.B from ⟨fun r hr => hG.al r (List.mem_append_right _ hr), (List.pairwise_append.1 hG.apart).2.1⟩)
        have f2' := Lib.hid f2
        clear P0 hG f1 f2 hek
        go_wp2_with fail
        refine hsm.out.mono ?_
        rintro e1 w5 ⟨rfl, k5⟩
        have P5 := Lib.hid (hP0.out.grow k5)
        have hpt := Lib.hid (paint_k P5.out.k)
        clear k5 hsm hP0 b0 b1 b2 b3 b4
        go_wp2_with fail
        refine hpt.out.mono ?_
        rintro e1 w6 ⟨p2, pb2, wb2, rfl, T6, _, k6, z1, z2, z3⟩
        have hT := Lib.hid (And.intro T6 k6)
        clear T6 k6 hpt
        go_wp2_with fail
        go_loopw [23] (fun iv wi => ∃ j : Nat, iv = .int .i64 j ∧ j ≤ 40 ∧ Hid (PtAt wi p2 pb2 wb2 n (cov d.B) ∧ Below w5.heap.size w5 wi)) (fun i _ => 41 - (intOf i).toNat)
        case atStart => exact ⟨0, rfl, by omega, hT⟩
        case round =>
          clear hT
          obtain ⟨j, rfl, hj, HI⟩ := hrel
          by_cases hlt2 : j < len ∧ j < 40
          · have i1 : (j : Int) < (len : Int) := by omega
            have i2 : (j : Int) < 40 := by omega
            obtain ⟨bq2, off2, he, hbq2, x0', a', s', ⟨r0', r1', r2'⟩, -, d1', -⟩ := hP.out j hlt2.1
            cases he
            have hd1 : wr.cell? ⟨bq, off + j * 3 + 1, none⟩ = some (.int .u32 a') := ((P5.out.k.b.trans (HI.out.2.mono P5.out.k.b.size)).cell (p := ⟨bq, off + j * 3 + 1, none⟩) hbq2).trans d1'
            have hlt2' := Lib.hid hlt2
            clear r0' r2' hlt2
            obtain ⟨S, hS0⟩ : ∃ S, S = fun w' => Below wr.heap.size wr w' := ⟨_, rfl⟩
            have HS : ∀ w w', S w → Below w.heap.size w w' → S w' := fun w w' h k => by rw [hS0] at h ⊢; exact h.trans (k.mono h.size)
            have hKS : ∀ w', S w' → PM W y q n b d d (.slice A3 x3 c3) (.slice A4 x4 c4) w' := fun w' h => by rw [hS0] at h; exact P5.out.grow (HI.out.2.trans (h.mono HI.out.2.size))
            have hTS : ∀ w', S w' → PtAt w' p2 pb2 wb2 n (cov d.B) := fun w' h => by rw [hS0] at h; exact HI.out.1.grow h
            have h4 : S wr.drew := by rw [hS0]; exact (Below.refl _ _).drew
            have a0 : ∀ y : Wd S, y.w.cell? ⟨q, 0, none⟩ = some (.int .i64 b) := fun y => ((hKS _ y.h).bx 0).1 (by omega)
            have a1 : ∀ y : Wd S, y.w.cell? ⟨q, 1, none⟩ = some (.slice A3 x3 c3) := fun y => ((hKS _ y.h).bx 1).1 (by omega)
            have a2 : ∀ y : Wd S, y.w.cell? ⟨q, 2, none⟩ = some (.slice A4 x4 c4) := fun y => ((hKS _ y.h).bx 2).1 (by omega)
            have a3 : ∀ y : Wd S, y.w.cell? ⟨q, 3, none⟩ = some (.int .u64 (d.e : Int)) := fun y => ((hKS _ y.h).bx 3).1 (by omega)
            have a4 : ∀ y : Wd S, y.w.cell? ⟨q, 4, none⟩ = some (.bool d.sw) := fun y => ((hKS _ y.h).bx 4).1 (by omega)
            obtain ⟨e1, e2⟩ := has2 hKS hTS HS f2'.out l2 a' r1'
            rw [cov_mt hGB.out] at e1
            obtain ⟨m, hm⟩ : ∃ m, m = mt d.B (a', 1) := ⟨_, rfl⟩
            rw [← hm] at e1 e2
            clear hm
            have hh : (m = false) ∨ (m = true ∧ (a' : Int) < b ∧ a' < 16 * n) ∨ (m = true ∧ ¬ (a' : Int) < b ∧ ¬ a' < 16 * n) := by
              have := hb.out
              cases m
              · exact .inl rfl
              · by_cases h : a' < 16 * n
                · exact .inr (.inl ⟨rfl, by omega, h⟩)
                · exact .inr (.inr ⟨rfl, by omega, h⟩)
            have cw := Lib.hid (show IntKind.i64.wrap (a' : Int) = a' from by rw [IntKind.wrap_i64]; clear hh; omega)
            rcases hh with rfl | ⟨rfl, v1, v2⟩ | ⟨rfl, v1, v2⟩
            all_goals
              first
              | rw [Bool.false_and] at e1
              | rw [Bool.true_and, decide_eq_true v2] at e1
              | rw [Bool.true_and, decide_eq_false v2] at e1
              replace e1 := Lib.hid e1
              replace e2 := Lib.hid e2
              try replace v2 := Lib.hid v2
              have hTT := Lib.hid hTS
              have hS1 := Lib.hid (show ∀ w', S w' → Below wr.heap.size wr w' from fun w' h => by rw [hS0] at h; exact h)
              clear hS0 hKS hTS HS
              have cw' := cw.out
              go_wp2_with fail
              refine region_cls S (by kernel_rfl) (by kernel_rfl) h4 ?_
              repeat (first
                | go_big_quiet_skip
                | (go_big_quiet_want
                   go_big_quiet_op
                   first
                   | go_big_quiet_on
                   | (apply Exists.intro
                      refine ⟨fun y => ?_, ?_⟩
                      · first | exact rfl | with_reducible exact e1.out y | with_reducible exact e2.out y
                      go_big_quiet_on)))
              refine wpQuiet_nil ?_
              intro y
              have hT8 := Lib.hid (And.intro (hTT.out _ y.h) (HI.out.2.trans ((hS1.out _ y.h).mono HI.out.2.size)))
              obtain ⟨w8, hw8⟩ : ∃ w8, w8 = y.w := ⟨_, rfl⟩
              rw [← hw8] at hT8 ⊢
              clear hw8 a0 a1 a2 a3 a4 h4 hTT hS1 e1 e2 cw' cw
              clear y S
              go_wp2_with fail
              go_roundw
              case rel => exact ⟨j + 1, by go_num, by have := hlt2'.out.2; omega, hT8⟩
              case measure => have := hlt2'.out.2; simp [intOf]; omega
          · have hAd := Lib.hid (show Calls Try.prog 21 #[.pointer (some ⟨p2, 0, none⟩), .agg #[.int .u32 0, .int .u32 16]] wr (fun e w' => ∃ o, e = .returned (.bool o) ∧ Below w5.heap.size w5 w') from (ptadd 0 16 (by omega) (by omega) HI.out.1).mono fun e w' h => ⟨_, h.1, HI.out.2.trans (h.2.2.below HI.out.2.size z3)⟩)
            have hc : ((j : Int) < len ∧ ¬ (j : Int) < 40) ∨ ¬ (j : Int) < len := by omega
            rcases hc with ⟨hc, hc2⟩ | hc
            all_goals
              go_wp2_with fail
              refine hAd.out.mono ?_
              rintro e1 w9 ⟨o, rfl, k9⟩
              have P9 := Lib.hid (P5.out.grow k9)
              clear k9 hAd
              go_wp2_with fail
              go_roundw
              case rel => exact ⟨y, k + 1, d, A3, x3, c3, A4, x4, c4, rfl, by go_num, by have := hlt'.out.2; omega, hc0.out, P9⟩
              case measure => have := hlt'.out.2; simp [intOf]; omega
    · have hWk := Lib.hid (fun w => works16_any w)
      have hc : ((k : Int) < len ∧ ¬ (k : Int) < 40) ∨ ¬ (k : Int) < len := by omega
      rcases hc with ⟨hc, hc2⟩ | hc
      all_goals
        go_wp2_with fail
        refine (hWk.out _).mono ?_
        rintro e w9 ⟨rfl, k9⟩
        have hB9 := Lib.hid (HP.out.k.b.trans (k9.mono HP.out.k.b.size))
        clear k9
        go_wp2_with fail
        go_ret
        exact ⟨rfl, hB9.out⟩
theorem walk {H : Type} {enc : TypeId × Value → H} (b : Int) (wbt : (Lit.int .i64 b).wf = true) (v1 : Value) {d1 : DataW H} {p1 : List MemPlace} (W : World)
    (hv : Value.okWide Try.prog W .any 0 22 v1) (hd : DataW.Trod enc Try.prog W 0 (fun _ => true) true 22 v1 d1 p1) :
    Calls Try.prog 3 #[.int .i64 b, v1] W fun e w' => e = .returned (.bool true) ∧ Below W.heap.size W w' := by
  obtain ⟨A, len, cap, rfl, hcap, hm, hP⟩ := acts_of hv hd
  have hlen : len ≤ 9223372036854775807 := by unfold maxLen at hm; omega
  have b1 := bounds_i64 wbt
  by_cases h1 : b < 0 ∨ 262144 < b ∨ b % 16 ≠ 0
  · exact walk_no b h1 _ _ _ hlen W
  · obtain ⟨n, rfl⟩ : ∃ n : Nat, b = ((16 * n : Nat) : Int) := ⟨(b / 16).toNat, by omega⟩
    exact walk_yes n (by omega) A len cap hlen W hP
theorem own : ownKnob Try.prog.godebug = none := by kernel_rfl
theorem laidOut : laidOutB Try.prog = true := by kernel_rfl
set_option maxRecDepth 100000 in
theorem lifted (os : Os) (started : os.Started) (H : Type) (enc : TypeId × Value → H) :
    ReturnsInHanded {} Try.checked os 3 .any (Rows.quarantinePlaysSpec.pre6 enc Try.prog Try.f3 Rows.quarantinePlaysRow.domain false) (Rows.quarantinePlaysSpec.post enc Try.prog Try.f3 false true false false) := by
  refine returnsInHanded_of_change (C := Try.checked) own started (by kernel_rfl) Try.func3
    (ChangeSpec.witness6 (enc := enc) (C := Try.checked) false ⟨#[], #[.int .i64 0, .slice none 0 0], []⟩ 8 (by kernel_rfl) (by kernel_rfl) (by kernel_rfl) (by kernel_rfl)) ?_
  intro W base args ds gs before hval0 hW hcnd hsz
  have hval : ∀ (j : Nat) t v, Try.f3.params[j]? = some t → args[j]? = some v → Value.okWide Try.prog W .any base t v := hval0
  have hW' := hW
  obtain ⟨p, q, hA0, hV, rfl, hfz, hnd⟩ := hW
  have hA : DataW.TrodAll enc Try.prog W 0 (fun _ => true) true Try.f3.params.toList args.toList ds p := hA0
  rw [Try.params3] at hA hval
  obtain ⟨v0, vs0, d0, ds0, p0, q0, hargs, rfl, rfl, h0, r0⟩ := trodAll_cons hA
  obtain ⟨v1, vs1, d1, ds1, p1, q1, rfl, rfl, rfl, h1, r1⟩ := trodAll_cons r0
  obtain ⟨rfl, rfl, rfl⟩ := trodAll_nil r1
  obtain rfl : args = #[v0, v1] := by cases args; simp_all
  obtain ⟨rfl, rfl⟩ := trodVars_none hV
  have k0 := h0
  have lt0 : ∀ x ∈ p0, x.block < W.heap.size := by obtain ⟨m, hm⟩ := k0; exact DataW.trod_lt m _ _ _ hm
  have k1 := h1
  have lt1 : ∀ x ∈ p1, x.block < W.heap.size := by obtain ⟨m, hm⟩ := k1; exact DataW.trod_lt m _ _ _ hm
  obtain ⟨bytes, rfl, rfl, rfl, wbytes⟩ := open_int Try.underlying3 (hval 0 3 v0 rfl rfl) h0
  clear hA0 hval0
  refine (walk bytes wbytes v1 W (hval 1 22 v1 rfl rfl) k1).mono fun e W' ⟨he, bel⟩ => ?_
  subst he
  exact ⟨_, rfl, _, _, _, [], _, [], hW', trodAll_mk1 (shut_bool Try.underlying4 _), (trodAll_cons_mk (Below.trod laidOut (by kernel_rfl) (of_decide_eq_true (by kernel_rfl)) k0 bel lt0) (trodAll_cons_mk (Below.trod laidOut (by kernel_rfl) (of_decide_eq_true (by kernel_rfl)) k1 bel lt1) trodAll_mk0)), rfl, bel.frame _, fun h => by cases h⟩
theorem over : Rows.quarantinePlaysRow.holds Try.pinned (OpenSpec.ofChange Rows.quarantinePlaysSpec) :=
  OpenClaim.holds_of_wide 3 Try.f3 rfl rfl rfl rfl rfl rfl rfl ⟨rfl, rfl, rfl, rfl, rfl⟩ rfl rfl rfl rfl rfl (by kernel_rfl) Try.func3 (by kernel_rfl)
    (of_decide_eq_true (by kernel_rfl)) (by unfold Func.isWrapper; first | (rw [if_pos (by decide +kernel)]; kernel_rfl) | (rw [if_neg (by decide +kernel)]; exact ⟨rfl, rfl⟩))
    (fun os started H enc _ => lifted os started H enc)
/-- The given statement. -/
theorem proved : Rows.QuarantinePlaysSaid := over
end Go.Proofs.Ytmfipabbdhfmcaa.qplays
