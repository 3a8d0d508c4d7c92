/- Contracts of layer quarantine: Free. No statement is proved here. -/
import Derived.Test.YtmfipabbdhfmcaaQuF
namespace Go.Proofs.Ytmfipabbdhfmcaa.Qu
set_option maxRecDepth 100000
open Go.RowKit Go.Shelf
set_option linter.unusedVariables false
section
variable {w w' W : World} {y p b wb n e base : Nat} {Wt Bt L : List Rg} {sw : Bool} {wv bv v : Value} {r : Rg} {D : Nat → Prop} {u : Nat → Value}
/-- The paint has turned, to what the lists cover. -/
theorem YAt.paint (H : YAt w y p b wb n Wt Bt e sw wv bv) {f : Nat → Bool} (o : Off w.heap.size wb w w') (pt : PtAt w' p b wb n f) (hf : ∀ k, f k = cov (Wt ++ Bt) k) : YAt w' y p b wb n Wt Bt e sw wv bv := by
  have hy : w'.heap[y]? = w.heap[y]? := o.block y H.ly H.yw
  refine ⟨(World.cell?_of_block (a := ⟨y, 0, none⟩) hy).trans H.c0, (World.cell?_of_block (a := ⟨y, 1, none⟩) hy).trans H.c1, (World.cell?_of_block (a := ⟨y, 2, none⟩) hy).trans H.c2, (World.cell?_of_block (a := ⟨y, 3, none⟩) hy).trans H.c3, (World.cell?_of_block (a := ⟨y, 4, none⟩) hy).trans H.c4,
    fun i => (World.frozen?_of_block (a := ⟨y, i, none⟩) hy).trans (H.fz i), pt.congr hf, own_keep H.ow fun g hg => o.block g (H.ow.lt g hg).2 (H.sep g (.inl hg)).2.2.2, own_keep H.ob fun g hg => o.block g (H.ob.lt g hg).2 (H.sep g (.inr hg)).2.2.2,
    H.good, H.aw, H.ab, H.nw, H.nb, H.hn, H.he, H.hs, H.hb, H.yp, H.yb, H.yw, H.sep, H.dif⟩
/-- What a call on a yard has left. -/
def YPost (D : Nat → Prop) (y n : Nat) (Wt Bt : List Rg) (e : Nat) (sw : Bool) (v : Value) (w : World) (e1 : Ending) (w' : World) : Prop := e1 = .returned v ∧ YD D y n Wt Bt e sw w' ∧ Kp D w w'
set_option maxHeartbeats 8000000 in
theorem yfree_any (a s : Nat) (ha : a < 4294967296) (hs : s < 4294967296) (H : YD D y n Wt Bt e sw w) : Calls Try.prog 9 #[.pointer (some ⟨y, 0, none⟩), .agg #[.int .u32 a, .int .u32 s]] w
    (YPost D y n (if okF n (Wt ++ Bt) (a, s) then insR (a, s) Wt else Wt) Bt e sw (.bool (okF n (Wt ++ Bt) (a, s))) w) := by
  obtain ⟨p, b, wb, wv, bv, H, hD1, hD2⟩ := H
  obtain ⟨w1, hw1⟩ : ∃ w1, w1 = w.alloc (.cells #[.int .u32 a, .int .u32 s] 33) := ⟨_, rfl⟩
  have b1 : Below w.heap.size w w1 := by rw [hw1]; exact (Below.refl _ _).alloc (Nat.le_refl _) _
  have R1 : RgAt w1 w.heap.size a s := by rw [hw1]; exact ⟨by simp, by simp, by simp⟩
  have Y1 : YAt w1 y p b wb n Wt Bt e sw wv bv := H.grow b1
  have hw1' := Lib.hid hw1
  have hb1 := Lib.hid b1
  obtain ⟨S, hS0⟩ : ∃ S, S = fun w' => Below w1.heap.size w1 w' := ⟨_, rfl⟩
  have hK : ∀ w', S w' → Below w1.heap.size w1 w' := fun w' h => by rw [hS0] at h; exact h
  have h4 : S w1.drew := by rw [hS0]; exact (Below.refl _ _).drew
  have a0 : ∀ z : Wd S, z.w.cell? ⟨y, 2, none⟩ = some (.pointer (some ⟨p, 0, none⟩)) := fun z => (Y1.grow (hK _ z.h)).c2
  have a1 : ∀ z : Wd S, z.w.cell? ⟨w.heap.size, 0, none⟩ = some (.int .u32 a) := fun z => ((hK _ z.h).cell (p := ⟨w.heap.size, 0, none⟩) R1.l).trans R1.c0
  have a2 : ∀ z : Wd S, z.w.cell? ⟨w.heap.size, 1, none⟩ = some (.int .u32 s) := fun z => ((hK _ z.h).cell (p := ⟨w.heap.size, 1, none⟩) R1.l).trans R1.c1
  have cM := Lib.hid (show ∀ z : Wd S, Calls Try.prog 34 #[.pointer (some ⟨y, 0, none⟩)] z.w fun e w' => e = .returned (.bool true) ∧ ∃ z' : Wd S, w' = z'.w from
    cls_call (fun w' hw => (ymade (Y1.grow (hK _ hw)).c2).mono fun e w2 k => ⟨k.1, by rw [hS0]; exact (hK _ hw).trans (k.2.mono (hK _ hw).size)⟩))
  have hA := Lib.hid (fun z : Wd S => ptadd a s ha hs (Y1.grow (hK _ z.h)).pt)
  have hY1 := Lib.hid Y1
  have hR1 := Lib.hid R1
  have hKK := Lib.hid hK
  have hD := Lib.hid (And.intro hD1 hD2)
  obtain ⟨ok, hok⟩ : ∃ ok, ok = okF n (Wt ++ Bt) (a, s) := ⟨_, rfl⟩
  rw [← hok]
  obtain ⟨F, hF⟩ : ∃ F, F = YPost D y n (if ok then insR (a, s) Wt else Wt) Bt e sw (.bool ok) w := ⟨_, rfl⟩
  rw [← hF]
  have hF' := Lib.hid hF
  have hok' := Lib.hid hok
  have hle := Lib.hid (And.intro H.len (show wb < w.heap.size from H.pt.m.lw))
  clear hF hok H b1 R1 Y1 hw1 hS0 hK hD1 hD2
  go_enter Try.func9, Try.ntmps9
  go_upto_region 1 with (fail)
  rw [← hw1'.out]
  go_wp2_with fail
  refine region_cls_tail S 9 (by kernel_rfl) (by kernel_rfl) h4 ?_
  simp only [List.take_succ_cons, List.take_zero, List.drop_succ_cons, List.drop_zero]
  repeat (first
    | go_big_quiet_skip
    | (go_big_quiet_want
       go_big_quiet_op
       first
       | go_big_quiet_on
       | (apply Exists.intro
          refine ⟨fun y => ?_, ?_⟩
          · first | exact rfl | with_reducible exact cM.out y
          go_big_quiet_on)))
  refine wpQuiet_nil ?_
  intro z
  have hAz := Lib.hid (hA.out z)
  have hb := Lib.hid (hKK.out _ z.h)
  obtain ⟨w4, hw4⟩ : ∃ w4, w4 = z.w := ⟨_, rfl⟩
  rw [← hw4] at hAz hb ⊢
  clear hw4 a0 a1 a2 h4 hKK cM hA
  clear z S
  have H4 := Lib.hid (hY1.out.grow hb.out)
  have R4 := Lib.hid (hR1.out.grow hb.out)
  go_wp2_with (go_at_call 21; refine hAz.out.mono ?_; rintro e1 w5 ⟨rfl, hm, ho⟩; have hmo := Lib.hid (And.intro hm ho); clear hm ho hAz; rw [okT_add H4.out.good, ← hok'.out])
  · have hoko : ok = false := by
      rename_i h
      simpa using h
    have hE := Lib.hid (show YPost D y n (if ok then insR (a, s) Wt else Wt) Bt e sw (.bool false) w (.returned (.bool false)) w5 from by
      have hb14 := hb1.out.trans (hb.out.mono hb1.out.size)
      have hwD := hD.out.1 wb (.inr (.inr (.inr (.inl rfl))))
      refine ⟨rfl, ?_, (Kp.of_below hb14 hD.out.2).trans (Kp.of_off hmo.out.2 (fun k hk => Nat.lt_of_lt_of_le (hD.out.2 k hk) hb14.size) hwD)⟩
      rw [hoko, if_neg (by simp)]
      exact ⟨p, b, wb, wv, bv, H4.out.paint hmo.out.2 hmo.out.1 (tnF_not H4.out.good (by rw [← hok'.out]; exact hoko)), hD.out.1, fun k hk => Nat.lt_of_lt_of_le (Nat.lt_of_lt_of_le (hD.out.2 k hk) hb14.size) hmo.out.2.size⟩)
    show F (.returned (.bool false)) w5
    rw [hF'.out, show (.bool ok : Value) = .bool false by rw [hoko]]
    exact hE.out
  · have hoko : ok = true := by
      rename_i h _ _
      simpa using h
    subst hoko
    have hb14 := Lib.hid (hb1.out.trans (hb.out.mono hb1.out.size))
    have ho := hmo.out.2
    have hy5 := Lib.hid (show Y5 w5 y (yU e sw p wv bv) from fun i => ⟨fun hi => (World.cell?_of_block (a := ⟨y, i, none⟩) (ho.block y H4.out.ly H4.out.yw)).trans ((H4.out.y5 i).1 hi), (World.frozen?_of_block (a := ⟨y, i, none⟩) (ho.block y H4.out.ly H4.out.yw)).trans (H4.out.y5 i).2⟩)
    have ow5 : w5.ownsRow 0 33 2 wv Wt.length (Wt.flatMap rgC) := own_keep H4.out.ow fun g hg => ho.block g (H4.out.ow.lt g hg).2 (H4.out.sep g (.inl hg)).2.2.2
    have ob5 := Lib.hid (show w5.ownsRow 0 33 2 bv Bt.length (Bt.flatMap rgC) from own_keep H4.out.ob fun g hg => ho.block g (H4.out.ob.lt g hg).2 (H4.out.sep g (.inr hg)).2.2.2)
    have hC := Lib.hid (with_any (w := w5.drew) (v := wv) (L := Wt) ow5.drew (by have := hle.out.1; omega) (Nat.zero_le _) H4.out.aw (a, s))
    have ow5' := Lib.hid ow5
    have hfin := Lib.hid (show ∀ w6 v', InsPost 0 wv (insR (a, s) Wt) w5.drew (.returned v') w6 → YPost D y n (insR (a, s) Wt) Bt e sw (.bool true) w (.returned (.bool true)) (w6.setCell ⟨y, 3, none⟩ v') from by
      rintro w6 v' ⟨v'', ev, i1, i2, i3⟩
      obtain rfl : v' = v'' := by injection ev
      have hs5 : w5.heap.size ≤ w6.heap.size := i2.size
      have hyl : y < w5.heap.size := Nat.lt_of_lt_of_le H4.out.ly ho.size
      have hkp : ∀ k, k < w5.heap.size → wv.ownBlock ≠ some k → w6.heap[k]? = w5.heap[k]? := fun k h1 h2 => i2.block k h1 (fun e => h2 e.symm)
      have hy6 : w6.heap[y]? = w5.heap[y]? := hkp y hyl (fun e => (H4.out.sep y (.inl e)).1 rfl)
      have y6 : Y5 w6 y (yU e sw p wv bv) := fun i => ⟨fun hi => (World.cell?_of_block (a := ⟨y, i, none⟩) hy6).trans ((hy5.out i).1 hi), (World.frozen?_of_block (a := ⟨y, i, none⟩) hy6).trans (hy5.out i).2⟩
      have y7 := y6.set 3 (by omega) v'
      have hpt := hmo.out.1
      have hpl : p < w5.heap.size := hpt.lp
      have hbl : b < w5.heap.size := hpt.m.lb
      have hwl : wb < w5.heap.size := hpt.m.lw
      have hnew : ∀ k, v'.ownBlock = some k → wv.ownBlock = some k ∨ w5.heap.size ≤ k := i3
      have hG : Good n ((a, s) :: (Wt ++ Bt)) := H4.out.good.cons hok'.out.symm
      have hpm : (insR (a, s) Wt ++ Bt).Perm ((a, s) :: (Wt ++ Bt)) := (insR_perm (a, s) Wt).append_right Bt
      have h7 : ∀ k, k ≠ y → (w6.setCell ⟨y, 3, none⟩ v').heap[k]? = w6.heap[k]? := fun k hk => y_set _ _ _ _ _ hk
      refine ⟨rfl, ⟨p, b, wb, v', bv, ⟨(y7 0).1 (by omega), (y7 1).1 (by omega), (y7 2).1 (by omega), (y7 3).1 (by omega), (y7 4).1 (by omega), fun i => (y7 i).2, ?_, ?_, ?_, hG.perm hpm.symm, insR_asc H4.out.aw ?_, H4.out.ab, ?_, H4.out.nb, H4.out.hn, H4.out.he, H4.out.hs, H4.out.hb, H4.out.yp, H4.out.yb, H4.out.yw, ?_, ?_⟩, ?_, ?_⟩, ?_⟩
      · refine PtAt.congr (f := tnF n (cov (Wt ++ Bt)) a s true) ⟨?_, hpt.m.keep (fun k hk => ?_) (by rw [sz_set]; exact hs5), hpt.ne, Nat.lt_of_lt_of_le hpl (by rw [sz_set]; exact hs5)⟩ (fun k => (tnF_add H4.out.good hok'.out.symm k).trans (cov_mem (fun r => hpm.symm.mem_iff) k))
        · refine (World.cell?_of_block (a := ⟨p, 0, none⟩) ((h7 p H4.out.yp.symm).trans (hkp p hpl (fun e => (H4.out.sep p (.inl e)).2.1 rfl)))).trans hpt.c0
        · rcases hk with rfl | rfl
          · exact (h7 _ H4.out.yb.symm).trans (hkp _ hbl (fun e => (H4.out.sep _ (.inl e)).2.2.1 rfl))
          · exact (h7 _ H4.out.yw.symm).trans (hkp _ hwl (fun e => (H4.out.sep _ (.inl e)).2.2.2 rfl))
      · exact own_keep i1 fun g hg => h7 g (by
          rcases hnew g hg with h | h
          · exact (H4.out.sep g (.inl h)).1
          · omega)
      · exact own_keep ob5.out fun g hg => (h7 g (H4.out.sep g (.inr hg)).1).trans (hkp g (ob5.out.lt g hg).2 (fun e => H4.out.dif g e hg))
      · intro q hq
        exact hG.ne q (List.mem_append_left _ hq)
      · intro h
        have := insR_len (a, s) Wt
        rw [h] at this
        cases this
      · rintro k (h | h)
        · rcases hnew k h with h | h
          · exact H4.out.sep k (.inl h)
          · exact ⟨by omega, by omega, by omega, by omega⟩
        · exact H4.out.sep k (.inr h)
      · intro k h
        rcases hnew k h with h | h
        · exact H4.out.dif k h
        · intro h2
          have := (ob5.out.lt k h2).2
          omega
      · rintro k hk hd
        have hkw := hD.out.2 k hd
        have hlt : k < w5.heap.size := Nat.lt_of_lt_of_le (Nat.lt_of_lt_of_le hkw hb14.out.size) ho.size
        refine hD.out.1 k ?_ hd
        rcases hk with h | h | h | h | h | h
        · exact .inl h
        · exact .inr (.inl h)
        · exact .inr (.inr (.inl h))
        · exact .inr (.inr (.inr (.inl h)))
        · rcases hnew k h with h | h
          · exact .inr (.inr (.inr (.inr (.inl h))))
          · omega
        · exact .inr (.inr (.inr (.inr (.inr h))))
      · intro k hk
        rw [sz_set]
        have := hD.out.2 k hk
        have := hb14.out.size
        have := ho.size
        omega
      · refine (((Kp.of_below hb14.out hD.out.2).trans (Kp.of_off ho (fun k hk => Nat.lt_of_lt_of_le (hD.out.2 k hk) hb14.out.size) (hD.out.1 wb (.inr (.inr (.inr (.inl rfl))))))).trans ?_).setCell (hD.out.1 y (.inl rfl)) _
        refine ⟨i2.os, i2.tape, i2.output, hs5, fun k hk => hkp k ?_ (fun e => hD.out.1 k (.inr (.inr (.inr (.inr (.inl e))))) hk)⟩
        have := hD.out.2 k hk
        have := hb14.out.size
        have := ho.size
        omega)
    have c3 := (hy5.out 3).1 (by omega)
    simp only [yU] at c3
    have f3 := (hy5.out 3).2
    have hwl := hle.out.2
    have r0 := (World.cell?_of_block (a := ⟨w.heap.size, 0, none⟩) (ho.block w.heap.size (by have := R4.out.l; omega) (by omega))).trans R4.out.c0
    have r1 := (World.cell?_of_block (a := ⟨w.heap.size, 1, none⟩) (ho.block w.heap.size (by have := R4.out.l; omega) (by omega))).trans R4.out.c1
    have hyn := Lib.hid (show y < w5.heap.size ∧ wv.ownBlock ≠ some y from ⟨Nat.lt_of_lt_of_le H4.out.ly ho.size, fun e => (H4.out.sep y (.inl e)).1 rfl⟩)
    obtain ⟨A, cap, hwv⟩ := own_slice ow5
    obtain ⟨x, hx⟩ : ∃ x, x = Wt.length := ⟨_, rfl⟩
    rw [← hx] at hwv
    have e5 := fun (w6 : World) (g : w5.drew.grownBy w6 wv.ownBlock) => show w6.cell? ⟨y, 3, none⟩ = some wv ∧ w6.frozen? ⟨y, 3, none⟩ = false from
      ⟨(World.cell?_of_block (a := ⟨y, 3, none⟩) (g.block y hyn.out.1 (fun e => hyn.out.2 e.symm))).trans c3, (World.frozen?_of_block (a := ⟨y, 3, none⟩) (g.block y hyn.out.1 (fun e => hyn.out.2 e.symm))).trans f3⟩
    have e5' := Lib.hid e5
    subst hwv
    rw [if_pos rfl] at hF'
    clear ho ow5 e5 hwl hx hok' hmo hy5 H4 R4 hY1 hR1 hw1' hb1 hb hb14 ob5 hyn ow5'
    unfold rgV at hC
    dsimp only at hC
    go_region_with (go_at_call 35; refine hC.out.mono ?_; rintro e1 w6 ⟨v', rfl, i1, i2, i3⟩; have hq := Lib.hid (hfin.out w6 v' ⟨v', rfl, i1, i2, i3⟩); have k3 := (e5'.out w6 i2).1; have g3 := (e5'.out w6 i2).2; obtain ⟨A', cap', rfl⟩ := own_slice i1; clear i1 i2 i3)
    all_goals
      go_wp2_with fail
      show F (.returned (.bool true)) _
      rw [hF'.out]
      exact hq.out
end
end Go.Proofs.Ytmfipabbdhfmcaa.Qu
