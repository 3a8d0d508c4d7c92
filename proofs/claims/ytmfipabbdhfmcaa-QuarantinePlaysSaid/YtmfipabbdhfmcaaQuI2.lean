/- Contracts of layer quarantine: Paint, Copy. No statement is proved here. -/
import Derived.Test.YtmfipabbdhfmcaaQuH
namespace Go.Proofs.Ytmfipabbdhfmcaa.Qu
set_option maxRecDepth 100000
open Go.RowKit Go.Shelf
set_option linter.unusedVariables false
section
variable {w w' W : World} {y p b wb n e base m : Nat} {Wt Bt L X : List Rg} {sw : Bool} {wv bv v : Value} {r : Rg} {D : Nat → Prop} {u : Nat → Value} {A : Option Addr} {cap : Nat}
/-- A paint of one's own has been made. -/
def PaintPost (n : Nat) (f : Nat → Bool) (w : World) (e1 : Ending) (w' : World) : Prop :=
  ∃ p b wb, e1 = .returned (.pointer (some ⟨p, 0, none⟩)) ∧ PtAt w' p b wb n f ∧ w.heap.size ≤ p ∧ w.heap.size ≤ b ∧ w.heap.size ≤ wb ∧ Below w.heap.size w w'
set_option maxHeartbeats 8000000 in
theorem ypaint (H : YAt w y p b wb n Wt Bt e sw wv bv) : Calls Try.prog 18 #[.pointer (some ⟨y, 0, none⟩)] w (PaintPost n (cov Bt) w) := by
  obtain ⟨A, cap, hwv⟩ := own_slice H.ow
  obtain ⟨m, hm⟩ : ∃ m, m = Wt.length := ⟨_, rfl⟩
  rw [← hm] at hwv
  subst hwv
  have hM := Lib.hid (ymade H.c2)
  have H' := Lib.hid H
  have hm' := Lib.hid hm
  obtain ⟨F, hF⟩ : ∃ F, F = PaintPost n (cov Bt) w := ⟨_, rfl⟩
  rw [← hF]
  have hF' := Lib.hid hF
  clear H hm hF
  go_enter Try.func18, Try.ntmps18
  go_wp2_with fail
  refine hM.out.mono ?_
  rintro e1 w1 ⟨rfl, k1⟩
  have H1 := Lib.hid (H'.out.grow k1)
  have hk := Lib.hid k1
  have c2 := H1.out.c2
  have hC := Lib.hid (ptcopy H1.out.pt)
  clear k1
  go_wp2_with fail
  refine hC.out.mono ?_
  rintro e1 w2 ⟨p2, b2, wb2, rfl, hpt, hl1, hl2, hl3, k2⟩
  have H2 := Lib.hid (H1.out.grow k2)
  have c3 := H2.out.c3
  have hR0 := Lib.hid (show RemS w2 p2 b2 wb2 n Bt Wt 0 w2 from ⟨hpt.congr fun k => cov_mem (fun r => List.perm_append_comm.mem_iff) k, Off.refl _ _ _, H2.out.good.perm List.perm_append_comm⟩)
  have hk2 := Lib.hid (show Below w.heap.size w w2 ∧ w.heap.size ≤ p2 ∧ w.heap.size ≤ b2 ∧ w.heap.size ≤ wb2 from ⟨hk.out.trans (k2.mono hk.out.size), Nat.le_trans hk.out.size hl1, Nat.le_trans hk.out.size hl2, Nat.le_trans hk.out.size hl3⟩)
  have hwn := Lib.hid (show ∀ k, (Value.slice A m cap).ownBlock = some k → k ≠ wb2 from fun k h => by have := (H1.out.ow.lt k h).2; omega)
  have hml : m ≤ 16384 := by have := H1.out.len; have := hm'.out; omega
  clear k2 hpt hl1 hl2 hl3 hC c2
  go_wp2_with fail
  go_loopw [5, 19] (fun bx iv wr => ∃ i : Nat, i ≤ m ∧ iv = .int .i64 i ∧ Hid (RemS w2 p2 b2 wb2 n Bt Wt i wr)) (fun _ iv _ => m - (intOf iv).toNat)
  case atStart => exact ⟨0, by omega, rfl, hR0⟩
  case round =>
    obtain ⟨i, hi, rfl, hB⟩ := hrel
    by_cases hil : i < m
    · have hil2 : (i : Int) < m := by omega
      have hiX : i < Wt.length := by rw [← hm'.out]; exact hil
      have hX := own_at (own_keep H2.out.ow fun g hg => hB.out.off.block g (H2.out.ow.lt g hg).2 (hwn.out g hg)) i hiX
      obtain ⟨g, rfl, hg, _, k0, k1⟩ := hX
      obtain ⟨c, hc⟩ : ∃ c, c = Wt[i] := ⟨_, rfl⟩
      rw [← hc] at k0 k1
      have hcb : c.1 + c.2 ≤ 262144 := by
        have := okA_iff.1 (H1.out.good.al c (List.mem_append_left _ (by rw [hc]; exact List.getElem_mem hiX)))
        have := H1.out.hn
        omega
      obtain ⟨c1, c2⟩ := c
      dsimp only at k0 k1 hcb
      obtain ⟨w6, hw6⟩ : ∃ w6, w6 = wr.alloc (.cells #[.int .u32 (c1 : Int), .int .u32 (c2 : Int)] 33) := ⟨_, rfl⟩
      have b6 : Below wr.heap.size wr w6 := by rw [hw6]; exact (Below.refl _ _).alloc (Nat.le_refl _) _
      have R6 : RgAt w6 wr.heap.size c1 c2 := by rw [hw6]; exact ⟨by simp, by simp, by simp⟩
      have r0 := R6.c0
      have r1 := R6.c1
      have hA := Lib.hid ((ptrem c1 c2 (by omega) (by omega) (hB.out.pt.grow b6)).mono fun e1 w' h => hB.out.step (i := i) hiX b6 (w2 := w') (by rw [← hc]; exact h))
      have hw6' := Lib.hid hw6
      have i0 : (0 : Int) ≤ i := by omega
      clear b6 R6 hw6 hc hcb hB
      go_upto_region 7 with (fail)
      rw [← hw6'.out]
      clear hw6'
      go_wp2_with (go_at_call 40; refine hA.out.mono ?_; rintro e1 w7 ⟨rfl, hq⟩; have hR := Lib.hid hq; clear hq hA)
      go_roundw
      case rel => exact ⟨i + 1, by omega, by go_num, hR⟩
      case measure => simp [intOf]; omega
    · obtain rfl : i = m := by omega
      have hil2 : ¬ (i : Int) < (i : Int) := by omega
      have hnil : Wt.drop i = [] := by rw [hm'.out]; exact List.drop_length
      have hE := Lib.hid (show F (.returned (.pointer (some ⟨p2, 0, none⟩))) wr from by
        rw [hF'.out]
        have hpt : PtAt wr p2 b2 wb2 n (cov (Bt ++ [])) := by have := hB.out.pt; rw [hnil] at this; exact this
        rw [List.append_nil] at hpt
        exact ⟨p2, b2, wb2, rfl, hpt, hk2.out.2.1, hk2.out.2.2.1, hk2.out.2.2.2, hk2.out.1.trans (hB.out.off.below hk2.out.1.size hk2.out.2.2.2)⟩)
      clear hB hnil
      go_wp2_with fail
      exact hE.out
/-- A copy: a yard of its own. -/
def CopyPost (D : Nat → Prop) (n : Nat) (Wt Bt : List Rg) (e : Nat) (sw : Bool) (w : World) (e1 : Ending) (w' : World) : Prop :=
  ∃ y, e1 = .returned (.pointer (some ⟨y, 0, none⟩)) ∧ YD (fun k => D k ∨ k < w.heap.size) y n Wt Bt e sw w' ∧ Below w.heap.size w w'
set_option maxHeartbeats 8000000 in
theorem ycopy (H : YAt w y p b wb n Wt Bt e sw wv bv) (hD : ∀ k, D k → k < w.heap.size) : Calls Try.prog 16 #[.pointer (some ⟨y, 0, none⟩)] w (CopyPost D n Wt Bt e sw w) := by
  obtain ⟨A, cap, hwv⟩ := own_slice H.ow
  obtain ⟨m, hm⟩ : ∃ m, m = Wt.length := ⟨_, rfl⟩
  rw [← hm] at hwv
  subst hwv
  obtain ⟨A2, cap2, hbv⟩ := own_slice H.ob
  obtain ⟨m2, hm2⟩ : ∃ m2, m2 = Bt.length := ⟨_, rfl⟩
  rw [← hm2] at hbv
  subst hbv
  have hM := Lib.hid (ymade H.c2)
  have H' := Lib.hid H
  have hD' := Lib.hid hD
  obtain ⟨F, hF⟩ : ∃ F, F = CopyPost D n Wt Bt e sw w := ⟨_, rfl⟩
  rw [← hF]
  have hF' := Lib.hid hF
  clear H hF hD hm hm2
  go_enter Try.func16, Try.ntmps16
  go_wp2_with fail
  refine hM.out.mono ?_
  rintro e1 w1 ⟨rfl, k1⟩
  have H1 := Lib.hid (H'.out.grow k1)
  have hk := Lib.hid k1
  have hPc := fun (w' : World) (h : YAt w' y p b wb n Wt Bt e sw (.slice A m cap) (.slice A2 m2 cap2)) => ptcopy h.pt
  have hCw := fun (w' : World) (h : YAt w' y p b wb n Wt Bt e sw (.slice A m cap) (.slice A2 m2 cap2)) => clone_any h.ow h.nw (by have := h.len; omega)
  have hCb := fun (w' : World) (h : YAt w' y p b wb n Wt Bt e sw (.slice A m cap) (.slice A2 m2 cap2)) => clone_any h.ob h.nb (by have := h.len; omega)
  replace hPc := Lib.hid hPc
  replace hCw := Lib.hid hCw
  replace hCb := Lib.hid hCb
  have all : ∀ w', YAt w' y p b wb n Wt Bt e sw (.slice A m cap) (.slice A2 m2 cap2) → w'.cell? ⟨y, 0, none⟩ = some (.int .u64 (e : Int)) ∧ w'.cell? ⟨y, 1, none⟩ = some (.bool sw) ∧ w'.cell? ⟨y, 2, none⟩ = some (.pointer (some ⟨p, 0, none⟩)) ∧ w'.cell? ⟨y, 3, none⟩ = some (.slice A m cap) ∧ w'.cell? ⟨y, 4, none⟩ = some (.slice A2 m2 cap2) ∧ YAt w' y p b wb n Wt Bt e sw (.slice A m cap) (.slice A2 m2 cap2) := fun w' h => ⟨h.c0, h.c1, h.c2, h.c3, h.c4, h⟩
  have j0 := all _ (H1.out.grow (Below.refl _ _).drew)
  replace all := Lib.hid all
  have s0 := Lib.hid (show w1.drew.heap.size = w1.heap.size from rfl)
  go_upto_region 3 with (fail)
  have tr : ∀ w', (w'.cell? ⟨y, 0, none⟩ = some (.int .u64 (e : Int)) ∧ w'.cell? ⟨y, 1, none⟩ = some (.bool sw) ∧ w'.cell? ⟨y, 2, none⟩ = some (.pointer (some ⟨p, 0, none⟩)) ∧ w'.cell? ⟨y, 3, none⟩ = some (.slice A m cap) ∧ w'.cell? ⟨y, 4, none⟩ = some (.slice A2 m2 cap2) ∧ YAt w' y p b wb n Wt Bt e sw (.slice A m cap) (.slice A2 m2 cap2)) → YAt w' y p b wb n Wt Bt e sw (.slice A m cap) (.slice A2 m2 cap2) := fun w' h => h.2.2.2.2.2
  replace tr := Lib.hid tr
  clear k1
  go_region_held (fun w' => w'.cell? ⟨y, 0, none⟩ = some (.int .u64 (e : Int)) ∧ w'.cell? ⟨y, 1, none⟩ = some (.bool sw) ∧ w'.cell? ⟨y, 2, none⟩ = some (.pointer (some ⟨p, 0, none⟩)) ∧ w'.cell? ⟨y, 3, none⟩ = some (.slice A m cap) ∧ w'.cell? ⟨y, 4, none⟩ = some (.slice A2 m2 cap2) ∧ YAt w' y p b wb n Wt Bt e sw (.slice A m cap) (.slice A2 m2 cap2))
    (first | with_reducible exact j0 | with_reducible exact j1 | with_reducible exact j2 | with_reducible exact j3 | with_reducible exact j4)
    (first
      | (go_at_call 41; ((with_reducible refine (hPc.out _ (tr.out _ j0)).mono ?_); rintro ee X1 ⟨p2, b2, wb2, rfl, m1, z1, z2, z3, g1⟩; have j1 := all.out _ ((tr.out _ j0).grow g1); have M1 := Lib.hid (And.intro m1 (And.intro z1 (And.intro z2 (And.intro z3 g1)))); clear m1 z1 z2 z3 g1))
      | (go_at_call 42; ((with_reducible refine (hCw.out _ (tr.out _ j1)).mono ?_); rintro ee X2 ⟨v2, rfl, o1, g1, q1⟩; obtain ⟨A3, cp3, rfl⟩ := own_slice o1; have j2 := all.out _ ((tr.out _ j1).grow g1); have M2 := Lib.hid (And.intro o1 (And.intro g1 q1)); clear o1 g1 q1))
      | (go_at_call 42; ((with_reducible refine (hCb.out _ (tr.out _ j2)).mono ?_); rintro ee X3 ⟨v3, rfl, o1, g1, q1⟩; obtain ⟨A4, cp4, rfl⟩ := own_slice o1; have j3 := all.out _ ((tr.out _ j2).grow g1); have j4 := all.out _ ((tr.out _ j3).grow ((Below.refl _ X3).alloc (Nat.le_refl _) (.cells #[.int .u64 (e : Int), .bool sw, .pointer (some ⟨p2, 0, none⟩), .slice A3 Wt.length cp3, .slice A4 Bt.length cp4] 67))); have M3 := Lib.hid (And.intro o1 (And.intro g1 q1)); clear o1 g1 q1)))
  have hE := Lib.hid (show F (.returned (.pointer (some ⟨X3.heap.size, 0, none⟩))) (X3.alloc (.cells #[.int .u64 (e : Int), .bool sw, .pointer (some ⟨p2, 0, none⟩), .slice A3 Wt.length cp3, .slice A4 Bt.length cp4] 67)) from by
    rw [hF'.out]
    obtain ⟨m1, z1, z2, z3, g1⟩ := M1.out
    obtain ⟨o2, g2, q2⟩ := M2.out
    obtain ⟨o3, g3, q3⟩ := M3.out
    have hY := H1.out
    have k1 := hk.out
    have t1 : w.heap.size ≤ w1.drew.heap.size := k1.size
    have t2 := g1.size
    have t3 := g2.size
    have t4 := g3.size
    have gA : Below X3.heap.size X3 (X3.alloc (.cells #[.int .u64 (e : Int), .bool sw, .pointer (some ⟨p2, 0, none⟩), .slice A3 Wt.length cp3, .slice A4 Bt.length cp4] 67)) := (Below.refl _ _).alloc (Nat.le_refl _) _
    have b3 : Below w.heap.size w X3 := (((k1.trans (((Below.refl w1.heap.size w1).drew).mono k1.size)).trans (g1.mono t1)).trans (g2.mono (by omega))).trans (g3.mono (by omega))
    have hsz : (X3.alloc (.cells #[.int .u64 (e : Int), .bool sw, .pointer (some ⟨p2, 0, none⟩), .slice A3 Wt.length cp3, .slice A4 Bt.length cp4] 67)).heap.size = X3.heap.size + 1 := by simp
    have lp := m1.lp
    have lb := m1.m.lb
    have lw := m1.m.lw
    have s2 : ∀ k, (Value.slice A3 Wt.length cp3).ownBlock = some k → X1.heap.size ≤ k ∧ k < X2.heap.size := o2.lt
    have s3 : ∀ k, (Value.slice A4 Bt.length cp4).ownBlock = some k → X2.heap.size ≤ k ∧ k < X3.heap.size := o3.lt
    refine ⟨_, rfl, ⟨p2, b2, wb2, _, _, ⟨by simp, by simp, by simp, by simp, by simp, fun i => by simp, ((m1.grow g2).grow g3).grow gA, ((own_grow (own_grow o2 g3) gA).mono (Nat.zero_le _)), (own_grow o3 gA).mono (Nat.zero_le _), hY.good, hY.aw, hY.ab, q2, q3, hY.hn, hY.he, hY.hs, hY.hb, by omega, by omega, by omega, ?_, ?_⟩, ?_, ?_⟩, b3.alloc b3.size _⟩
    · rintro k (h | h)
      · have := s2 k h; omega
      · have := s3 k h; omega
    · intro k h h2
      have := s2 k h
      have := s3 k h2
      omega
    · have hDk : ∀ k, (D k ∨ k < w.heap.size) → k < w.heap.size := fun k h => h.elim (hD'.out k) id
      rintro k hk2 hd
      have hlt := hDk k hd
      rcases hk2 with h | h | h | h | h | h
      · omega
      · omega
      · omega
      · omega
      · have := s2 k h; omega
      · have := s3 k h; omega
    · rintro k hd
      have hlt := hd.elim (hD'.out k) id
      rw [hsz]
      omega)
  clear j0 j1 j2 j3 j4 M1 M2 M3 tr all
  go_wp2_with fail
  exact hE.out
end
end Go.Proofs.Ytmfipabbdhfmcaa.Qu
