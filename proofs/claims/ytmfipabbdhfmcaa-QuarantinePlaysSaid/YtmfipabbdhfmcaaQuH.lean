/- Contracts of layer quarantine: End, Paint. No statement is proved here. -/
import Derived.Test.YtmfipabbdhfmcaaQuG
namespace Go.Proofs.Ytmfipabbdhfmcaa.Qu
set_option maxRecDepth 100000
open Go.RowKit Go.Shelf
set_option linter.unusedVariables false
section
variable {w w' W : World} {y p b wb n e base m : Nat} {Wt Bt L X : List Rg} {sw : Bool} {wv bv v : Value} {r : Rg} {D : Nat → Prop} {u : Nat → Value} {A : Option Addr} {cap : Nat}
theorem drop_perm (Y X : List Rg) (i : Nat) (hi : i < X.length) : (Y ++ X.drop i).Perm (X[i] :: (Y ++ X.drop (i + 1))) := by
  rw [List.drop_eq_getElem_cons hi]
  exact List.perm_middle
theorem yend_no (H : YD D y n Wt Bt e false w) : Calls Try.prog 13 #[.pointer (some ⟨y, 0, none⟩)] w (YPost D y n Wt Bt e false (.slice none 0 0) w) := by
  obtain ⟨p, b, wb, wv, bv, H, hD1, hD2⟩ := H
  have hM := Lib.hid (ymade H.c2)
  have H' := Lib.hid H
  have hD := Lib.hid (And.intro hD1 hD2)
  clear H hD1 hD2
  go_enter Try.func13, Try.ntmps13
  go_wp2_with fail
  refine hM.out.mono ?_
  rintro e1 w1 ⟨rfl, k1⟩
  have H1 := Lib.hid (H'.out.grow k1)
  have hN := Lib.hid (nend_any H1.out.c1 H1.out.fz)
  have hk := Lib.hid k1
  clear k1
  go_wp2_with fail
  refine hN.out.mono ?_
  rintro e1 w2 ⟨rfl, h2⟩
  have hE := Lib.hid (show YPost D y n Wt Bt e false (.slice none 0 0) w (.returned (.slice none 0 0)) w2 from by
    rw [h2]
    refine ⟨rfl, ⟨p, b, wb, wv, bv, ?_, hD.out.1, fun k hk' => by rw [sz_set]; exact Nat.lt_of_lt_of_le (hD.out.2 k hk') hk.out.size⟩, (Kp.of_below hk.out hD.out.2).setCell (hD.out.1 y (.inl rfl)) _⟩
    refine H1.out.cells (fun j hj => y_set _ _ _ _ _ hj) (by rw [sz_set]; exact Nat.le_refl _) (H1.out.y5.set 1 (by omega) (.bool false)) (fun i hi => ?_) (fun _ => rfl) H1.out.ow H1.out.ob H1.out.good H1.out.aw H1.out.ab H1.out.nw H1.out.nb H1.out.he H1.out.hs H1.out.hb H1.out.sep H1.out.dif
    match i, hi with
    | 0, _ => rfl
    | 1, _ => rfl
    | 2, _ => rfl
    | 3, _ => rfl
    | 4, _ => rfl)
  clear h2
  go_wp2_with fail
  go_ret
  exact hE.out
/-- What goes through some regions, and takes them off a paint. -/
structure RemS (w0 : World) (p b wb n : Nat) (Y X : List Rg) (i : Nat) (w : World) : Prop where
  pt : PtAt w p b wb n (cov (Y ++ X.drop i))
  off : Off w0.heap.size wb w0 w
  good : Good n (Y ++ X.drop i)
theorem RemS.step {w0 : World} {Y : List Rg} {i : Nat} {v : Value} {e1 : Ending} (R : RemS w0 p b wb n Y X i w) (hi : i < X.length) (hw : Below w.heap.size w w') {w2 : World} (h : PtPost p b wb n (tnF n (cov (Y ++ X.drop i)) X[i].1 X[i].2 false) v w' e1 w2) : e1 = .returned v ∧ RemS w0 p b wb n Y X (i + 1) w2 := by
  have hp := drop_perm Y X i hi
  have hg := R.good.perm hp
  refine ⟨h.1, h.2.1.congr fun k => ?_, (R.off.trans ((Off.of_below hw).mono R.off.size)).trans (h.2.2.mono (Nat.le_trans R.off.size hw.size)), hg.tail⟩
  have e : cov (Y ++ X.drop i) = cov (X[i] :: (Y ++ X.drop (i + 1))) := funext fun k => cov_mem (fun r => hp.mem_iff) k
  rw [e]
  exact tnF_rem hg k
set_option maxHeartbeats 8000000 in
theorem yend_yes (H : YD D y n Wt Bt e true w) : Calls Try.prog 13 #[.pointer (some ⟨y, 0, none⟩)] w fun e1 w' => ∃ v, e1 = .returned v ∧ w'.ownsRow 0 33 2 v Bt.length (Bt.flatMap rgC) ∧ YD (fun k => D k ∨ v.ownBlock = some k) y n Wt [] e false w' ∧ Kp D w w' ∧ (Bt = [] → v = .slice none 0 0) ∧ ∀ k, v.ownBlock = some k → ¬ D k := by
  obtain ⟨p, b, wb, wv, bv, H, hD1, hD2⟩ := H
  obtain ⟨A, cap, hbv⟩ := own_slice H.ob
  obtain ⟨m, hm⟩ : ∃ m, m = Bt.length := ⟨_, rfl⟩
  rw [← hm] at hbv
  subst hbv
  have hM := Lib.hid (ymade H.c2)
  have H' := Lib.hid H
  have hD := Lib.hid (And.intro hD1 hD2)
  have hm' := Lib.hid hm
  obtain ⟨F, hF⟩ : ∃ F : Ending → World → Prop, F = fun e1 w' => ∃ v, e1 = .returned v ∧ w'.ownsRow 0 33 2 v Bt.length (Bt.flatMap rgC) ∧ YD (fun k => D k ∨ v.ownBlock = some k) y n Wt [] e false w' ∧ Kp D w w' ∧ (Bt = [] → v = .slice none 0 0) ∧ ∀ k, v.ownBlock = some k → ¬ D k := ⟨_, rfl⟩
  rw [← hF]
  have hF' := Lib.hid hF
  clear H hD1 hD2 hm hF
  go_enter Try.func13, Try.ntmps13
  go_wp2_with fail
  refine hM.out.mono ?_
  rintro e1 w1 ⟨rfl, k1⟩
  have H1 := Lib.hid (H'.out.grow k1)
  have hN := Lib.hid (nend_any H1.out.c1 H1.out.fz)
  have hk := Lib.hid k1
  clear k1
  go_wp2_with fail
  refine hN.out.mono ?_
  rintro e1 w2 ⟨rfl, h2⟩
  have h5 := H1.out.y5.set 1 (by omega) (.bool false)
  rw [← h2] at h5
  have c4 := (h5 4).1 (by omega)
  have f4 := (h5 4).2
  simp [yU] at c4
  have h5' := Lib.hid (h5.set 4 (by omega) (.slice none 0 0))
  have h2' := Lib.hid h2
  clear h2 h5
  go_upto_region 5 with (fail)
  obtain ⟨w5, hw5⟩ : ∃ w5, w5 = w2.setCell ⟨y, 4, none⟩ (.slice none 0 0) := ⟨_, rfl⟩
  rw [← hw5] at h5' ⊢
  have hy : ∀ j, j ≠ y → w5.heap[j]? = w1.heap[j]? := fun j hj => by
    rw [hw5, y_set _ _ _ _ _ hj, h2'.out, y_set _ _ _ _ _ hj]
  have hz : w5.heap.size = w1.heap.size := by rw [hw5, sz_set, h2'.out, sz_set]
  have hR0 := Lib.hid (show RemS w5 p b wb n Wt Bt 0 w5 from
    ⟨⟨(World.cell?_of_block (a := ⟨p, 0, none⟩) (hy p H1.out.yp.symm)).trans H1.out.pt.c0, H1.out.pt.m.keep (fun j hj => hy j (by
      rcases hj with rfl | rfl
      · exact H1.out.yb.symm
      · exact H1.out.yw.symm)) (by rw [hz]; exact Nat.le_refl _), H1.out.pt.ne, by rw [hz]; exact H1.out.pt.lp⟩, Off.refl _ _ _, H1.out.good⟩)
  have hob := Lib.hid (show w5.ownsRow 0 33 2 (.slice A m cap) Bt.length (Bt.flatMap rgC) from own_keep H1.out.ob fun g hg => hy g (H1.out.sep g (.inr hg)).1)
  have how := Lib.hid (show w5.ownsRow 0 33 2 wv Wt.length (Wt.flatMap rgC) from own_keep H1.out.ow fun g hg => hy g (H1.out.sep g (.inl hg)).1)
  have hK5 := Lib.hid (show Kp D w w5 ∧ w.heap.size ≤ w5.heap.size from ⟨by
    rw [hw5, h2'.out]
    exact (((Kp.of_below hk.out hD.out.2).setCell (hD.out.1 y (.inl rfl)) _).setCell (hD.out.1 y (.inl rfl)) _), by rw [hz]; exact hk.out.size⟩)
  have hly : y < w5.heap.size := by rw [hz]; exact H1.out.ly
  have hlw : wb < w5.heap.size := by rw [hz]; exact H1.out.pt.m.lw
  have hyw := H1.out.yw
  have hml : m ≤ 16384 := by have := H1.out.len; have := hm'.out; omega
  clear hw5 hy hz h2' c4 f4
  go_wp2_with fail
  go_loopw [5, 25] (fun bx iv wr => ∃ i : Nat, i ≤ m ∧ iv = .int .i64 i ∧ Hid (RemS w5 p b wb n Wt Bt i wr)) (fun _ iv _ => m - (intOf iv).toNat)
  case atStart => exact ⟨0, by omega, rfl, hR0⟩
  case round =>
    obtain ⟨i, hi, rfl, hB⟩ := hrel
    by_cases hil : i < m
    · have hil2 : (i : Int) < m := by omega
      have hiX : i < Bt.length := by rw [← hm'.out]; exact hil
      have hX := own_at (own_keep hob.out fun g hg => hB.out.off.block g (hob.out.lt g hg).2 (H1.out.sep g (.inr hg)).2.2.2) i hiX
      obtain ⟨g, rfl, hg, _, k0, k1⟩ := hX
      obtain ⟨c, hc⟩ : ∃ c, c = Bt[i] := ⟨_, rfl⟩
      rw [← hc] at k0 k1
      have hcb : c.1 + c.2 ≤ 262144 := by
        have := okA_iff.1 (H1.out.good.al c (List.mem_append_right _ (by rw [hc]; exact List.getElem_mem hiX)))
        have := H1.out.hn
        omega
      obtain ⟨c1, c2⟩ := c
      dsimp only at k0 k1 hcb
      obtain ⟨w6, hw6⟩ : ∃ w6, w6 = wr.alloc (.cells #[.int .u32 (c1 : Int), .int .u32 (c2 : Int)] 33) := ⟨_, rfl⟩
      have b6 : Below wr.heap.size wr w6 := by rw [hw6]; exact (Below.refl _ _).alloc (Nat.le_refl _) _
      have R6 : RgAt w6 wr.heap.size c1 c2 := by rw [hw6]; exact ⟨by simp, by simp, by simp⟩
      obtain ⟨S, hS0⟩ : ∃ S, S = fun w' => Below w6.heap.size w6 w' := ⟨_, rfl⟩
      have hKS : ∀ w', S w' → Below w6.heap.size w6 w' := fun w' h => by rw [hS0] at h; exact h
      have h4 : S w6.drew := by rw [hS0]; exact (Below.refl _ _).drew
      have hsz := hB.out.off.size
      have a0 : ∀ z : Wd S, z.w.cell? ⟨y, 2, none⟩ = some (.pointer (some ⟨p, 0, none⟩)) := fun z => by
        have hbz := b6.trans ((hKS _ z.h).mono b6.size)
        refine ((hbz.cell (p := ⟨y, 2, none⟩) (by show y < _; omega)).trans (hB.out.off.cell (p := ⟨y, 2, none⟩) hly hyw)).trans ?_
        exact (h5'.out 2).1 (by omega)
      have a1 : ∀ z : Wd S, z.w.cell? ⟨wr.heap.size, 0, none⟩ = some (.int .u32 (c1 : Int)) := fun z => ((hKS _ z.h).cell (p := ⟨wr.heap.size, 0, none⟩) R6.l).trans R6.c0
      have a2 : ∀ z : Wd S, z.w.cell? ⟨wr.heap.size, 1, none⟩ = some (.int .u32 (c2 : Int)) := fun z => ((hKS _ z.h).cell (p := ⟨wr.heap.size, 1, none⟩) R6.l).trans R6.c1
      have hA := Lib.hid (fun z : Wd S => (ptrem c1 c2 (by omega) (by omega) (hB.out.pt.grow (b6.trans ((hKS _ z.h).mono b6.size)))).mono fun e1 w' h => hB.out.step (i := i) hiX (b6.trans ((hKS _ z.h).mono b6.size)) (w2 := w') (by rw [← hc]; exact h))
      have hw6' := Lib.hid hw6
      have i0 : (0 : Int) ≤ i := by omega
      clear hS0 hKS b6 R6 hw6 hc hcb
      go_upto_region 8 with (fail)
      rw [← hw6'.out]
      refine region_cls_tail S 5 (by kernel_rfl) (by kernel_rfl) h4 ?_
      simp only [List.take_succ_cons, List.take_zero, List.drop_succ_cons, List.drop_zero]
      repeat (first
        | go_big_quiet_skip
        | (go_big_quiet_want
           go_big_quiet_op
           first
           | go_big_quiet_on
           | (apply Exists.intro
              refine ⟨fun y => ?_, ?_⟩
              · first | exact rfl
              go_big_quiet_on)))
      refine wpQuiet_nil ?_
      intro z
      have hAz := Lib.hid (hA.out z)
      clear a0 a1 a2 h4 hA hB hw6'
      go_wp2_with (go_at_call 40; refine hAz.out.mono ?_; rintro e1 w7 ⟨rfl, hq⟩; have hR := Lib.hid hq; clear hq hAz)
      go_roundw
      case rel => exact ⟨i + 1, by omega, by go_num, hR⟩
      case measure => simp [intOf]; omega
    · obtain rfl : i = m := by omega
      have hil2 : ¬ (i : Int) < (i : Int) := by omega
      have hnil : Bt.drop i = [] := by rw [hm'.out]; exact List.drop_length
      have hE := Lib.hid (show F (.returned (.slice A i cap)) wr from by
        rw [hF'.out]
        have ho := hB.out.off
        have hY := H1.out
        have hbk : ∀ k, k < w5.heap.size → k ≠ wb → wr.heap[k]? = w5.heap[k]? := ho.block
        have hobr : wr.ownsRow 0 33 2 (.slice A i cap) Bt.length (Bt.flatMap rgC) := own_keep hob.out fun g hg => hbk g (hob.out.lt g hg).2 (hY.sep g (.inr hg)).2.2.2
        have h5r : Y5 wr y _ := fun j => ⟨fun hj => (World.cell?_of_block (a := ⟨y, j, none⟩) (hbk y hly hyw)).trans ((h5'.out j).1 hj), (World.frozen?_of_block (a := ⟨y, j, none⟩) (hbk y hly hyw)).trans (h5'.out j).2⟩
        have hgood : Good n (Wt ++ []) := by have := hB.out.good; rw [hnil] at this; exact this
        have hpt : PtAt wr p b wb n (cov (Wt ++ [])) := by have := hB.out.pt; rw [hnil] at this; exact this
        refine ⟨_, rfl, hobr, ⟨p, b, wb, wv, .slice none 0 0, ⟨(h5r 0).1 (by omega), (h5r 1).1 (by omega), (h5r 2).1 (by omega), (h5r 3).1 (by omega), (h5r 4).1 (by omega), fun j => (h5r j).2, hpt, own_keep how.out fun g hg => hbk g (how.out.lt g hg).2 (hY.sep g (.inl hg)).2.2.2, World.ownsRow_nil _ _ _ _, hgood, hY.aw, List.Pairwise.nil, hY.nw, fun _ => rfl, hY.hn, hY.he, fun h => Bool.noConfusion h, fun _ => rfl, hY.yp, hY.yb, hY.yw, ?_, ?_⟩, ?_, ?_⟩, ?_, hY.nb, fun k hk => hD.out.1 k (.inr (.inr (.inr (.inr (.inr hk)))))⟩
        · rintro k (h | h)
          · exact hY.sep k (.inl h)
          · cases h
        · intro k _ h
          cases h
        · rintro k hk2 (hd | hd)
          · refine hD.out.1 k ?_ hd
            rcases hk2 with h | h | h | h | h | h
            · exact .inl h
            · exact .inr (.inl h)
            · exact .inr (.inr (.inl h))
            · exact .inr (.inr (.inr (.inl h)))
            · exact .inr (.inr (.inr (.inr (.inl h))))
            · cases h
          · have hs := hY.sep k (.inr hd)
            rcases hk2 with h | h | h | h | h | h
            · exact hs.1 h
            · exact hs.2.1 h
            · exact hs.2.2.1 h
            · exact hs.2.2.2 h
            · exact hY.dif k h hd
            · cases h
        · rintro k (hd | hd)
          · have := hD.out.2 k hd
            have := hK5.out.2
            have := ho.size
            omega
          · exact (hobr.lt k hd).2
        · refine hK5.out.1.trans (Kp.of_off ho (fun k hd => Nat.lt_of_lt_of_le (hD.out.2 k hd) hK5.out.2) (hD.out.1 wb (.inr (.inr (.inr (.inl rfl)))))))
      clear hB hnil
      go_wp2_with fail
      exact hE.out
end
end Go.Proofs.Ytmfipabbdhfmcaa.Qu
