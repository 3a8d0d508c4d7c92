/- Contracts of layer heap: Free, Release. No statement is proved here.; Contracts of layer heap: Live, Resting, Room. No statement is proved here.; Contracts of layer heap: New. No statement is proved here.; Contracts of layer heap: New whole. No statement is proved here.; A heap that New makes, as it grows. No statement is proved here. -/
import Derived.Test.YticfpnhfhhagpaaDoormu
import Derived.Test.YticfpnhfhhagpaaDoormo
import Derived.Test.YticfpnhfhhagpaaDoormn
import Derived.Deep.RegionHeld3
namespace Go.Proofs.YticfpnhfhhagpaaDoor
set_option maxRecDepth 100000
open Go.RowKit Go.Shelf Go.Maps
set_option linter.unusedVariables false
section
variable {W' W w : World} {B : Blk} {lo hi p0 p1 : Nat} {L R X Y : List Rg} {r : Rg}
theorem perm_out (hn : L.Nodup) (hr : r ∈ L) : L.Perm (r :: L.filter fun q => decide (q ≠ r)) := by
  have h1 := List.perm_cons_erase hr
  rw [hn.erase_eq_filter] at h1
  have e : (L.filter fun x => x != r) = L.filter fun q => decide (q ≠ r) := by
    congr 1
    funext x
    rw [Bool.eq_iff_iff]
    simp
  rwa [e] at h1
theorem apart_ne (G : Good p0 p1 (L ++ R)) {q : Rg} (hr : r ∈ L) (hq : q ∈ R) : q.1 ≠ r.1 := fun e => by
  have := (List.pairwise_append.1 G.apart).2.2 r hr q hq
  have := G.pos (List.mem_append.2 (.inl hr) : r ∈ L ++ R)
  have := G.pos (List.mem_append.2 (.inr hq) : q ∈ L ++ R)
  omega
/-- Room for one more among those that rest. -/
theorem HX.putRest (H : HX B lo hi p0 p1 (L.filter fun q => decide (q ≠ r)) R (L ++ R) W) (hr : r ∈ L) : ∃ W', (Instr.mapUpdate 50 (.map (some B.rb)) (.int .u32 (r.1 : Int)) (rgV r)).run Tryd.prog W = .ok () W' ∧ HA B lo hi p0 p1 (L.filter fun q => decide (q ≠ r)) (insR r R) W' ∧ Mid lo hi W W' := by
  have h1 := H.good.length H.le
  have h2 : ∀ q ∈ R, q.1 ≠ r.1 := fun q hq => apart_ne H.good hr hq
  have hx : r ∈ L ++ R := List.mem_append.2 (.inl hr)
  have h3 := H.good.u32 H.le hx
  have h4 := H.good.pos hx
  simp only [List.length_append] at h1
  obtain ⟨W', hrun, hm, ho⟩ := H.hs.rest.put (L' := insR r R) (r := r) (by omega) h2 (by omega) (fun q => insR_mem r R q) (insR_asc H.hs.rest.asc h2) (insR_len r R)
  refine ⟨W', hrun, ?_, Mid.of_off ho H.hs.rb_in.1 H.hs.rb_in.2⟩
  have hn := (List.nodup_append.1 H.good.nodup).1
  have hp : (L ++ R).Perm ((L.filter fun q => decide (q ≠ r)) ++ insR r R) :=
    ((perm_out hn hr).append_right R).trans (List.perm_middle.symm.trans ((insR_perm r R).symm.append_left _))
  have := H.mem hp
  exact ⟨this.hs.setRest ho hm, this.good, H.lt, H.le⟩
def FrPost (B : Blk) (lo hi p0 p1 : Nat) (L R : List Rg) (r : Rg) (w : World) (e : Ending) (w' : World) : Prop :=
  e = .returned (.int .i64 (if r ∈ L then 0 else 8)) ∧ Mid lo hi w w' ∧ HA B lo hi p0 p1 (L.filter fun q => decide (q ≠ r)) (if r ∈ L then insR r R else R) w'
def RlPost (B : Blk) (lo hi p0 p1 : Nat) (L R : List Rg) (r : Rg) (w : World) (e : Ending) (w' : World) : Prop :=
  e = .returned (.int .i64 (if r ∈ R then 0 else 8)) ∧ Mid lo hi w w' ∧ HA B lo hi p0 p1 L (R.filter fun q => decide (q ≠ r)) w'
set_option maxHeartbeats 4000000 in
theorem Free_any (H : HA B lo hi p0 p1 L R w) (r : Rg) (hr : r.1 < 4294967296) :
    Calls Tryd.prog 16 #[.pointer (some ⟨B.h, 0, none⟩), rgV r] w (FrPost B lo hi p0 p1 L R r w) := by
  obtain ⟨a, n⟩ := r
  obtain ⟨W1, hW1⟩ : ∃ W1, W1 = w.alloc (.cells #[.int .u32 (a : Int), .int .u32 (n : Int)] 26) := ⟨_, rfl⟩
  obtain ⟨q, hq⟩ : ∃ q, q = w.heap.size := ⟨_, rfl⟩
  have hhi : hi ≤ q := hq ▸ H.hs.hi
  have B1 : Below w.heap.size w W1 := by rw [hW1]; exact (Below.refl _ _).alloc (Nat.le_refl _) _
  have Q1 : Bx q (.int .u32 a) (.int .u32 n) W1 := by rw [hW1, hq]; exact Bx.new w _ _ _
  have H1 : HX B lo hi p0 p1 L R (L ++ R) W1 := HX.grow H B1
  have hRm := Lib.hid (fun w1 (hb : Below W1.heap.size W1 w1) => (remove_any (H1.grow hb).hs.live (a, n) hr).mono (R' := fun e w' => e = .returned (.bool (decide ((a, n) ∈ L))) ∧ Mid lo hi W1 w' ∧ HX B lo hi p0 p1 (L.filter fun q => decide (q ≠ (a, n))) R (L ++ R) w') fun e w' k =>
    ⟨k.1, (Mid.of_below hb).trans (Mid.of_off k.2.2 H.hs.lb_in.1 H.hs.lb_in.2), (H1.grow hb).hs.setLive k.2.2 k.2.1, H.good, H.lt, H.le⟩)
  obtain ⟨D, hD⟩ : ∃ D, D = FrPost B lo hi p0 p1 L R (a, n) w := ⟨_, rfl⟩
  rw [← hD]
  replace hD := Lib.hid hD
  have hB1 := Lib.hid B1
  have hQ1 := Lib.hid Q1
  have hH1 := Lib.hid H1
  have hq' := Lib.hid hq
  have hW1' := Lib.hid hW1
  have c1 := H1.hs.c1
  have b0 := Q1.c0
  have b1 := Q1.c1
  have hhl := Lib.hid (show B.h < W1.heap.size by have := (H1.hs.ok.inn B.h (.inl rfl)).2; have := H1.hs.hi; omega)
  dsimp only [rgV] at *
  by_cases hin : (a, n) ∈ L
  · have hin' := Lib.hid hin
    rw [decide_eq_true hin] at hRm
    clear H H1 Q1 B1 hW1 hq hin
    go_enter Tryd.func16, Tryd.ntmps16
    go_wp2_with fail
    rw [← hW1'.out, ← hq'.out]
    refine (made_any hH1.out.hs).mono ?_
    rintro e w1 ⟨rfl, rfl⟩
    go_wp2_with fail
    ·
      obtain ⟨S, hS0⟩ : ∃ S, S = fun w' => Below W1.heap.size W1 w' := ⟨_, rfl⟩
      have hK : ∀ w', S w' → Below W1.heap.size W1 w' := fun w' h => by rw [hS0] at h; exact h
      have h4 : S W1.drew := by rw [hS0]; exact (Below.refl _ _).drew
      have a1 : ∀ y : Wd S, y.w.cell? ⟨B.h, 1, none⟩ = some (.map (some B.lb)) := fun y => (hH1.out.grow (hK _ y.h)).hs.c1
      have k0 : ∀ y : Wd S, y.w.cell? ⟨q, 0, none⟩ = some (.int .u32 (a : Int)) := fun y => (hQ1.out.grow (hK _ y.h)).c0
      have k1 : ∀ y : Wd S, y.w.cell? ⟨q, 1, none⟩ = some (.int .u32 (n : Int)) := fun y => (hQ1.out.grow (hK _ y.h)).c1
      replace hK := Lib.hid hK
      clear hS0 c1 b0 b1
      refine region_cls_tail S 5 (by kernel_rfl) (by kernel_rfl) h4 ?_
      simp only [List.take_succ_cons, List.take_zero, List.drop_succ_cons, List.drop_zero]
      repeat (first
        | go_big_quiet_skip
        | (go_big_quiet_want
           go_big_quiet_op
           first
           | go_big_quiet_on
           | (apply Exists.intro
              refine ⟨fun y => ?_, ?_⟩
              · first | exact rfl
              go_big_quiet_on)))
      refine wpQuiet_nil ?_
      intro y
      have hb := Lib.hid (hK.out _ y.h)
      obtain ⟨w4', hw4'⟩ : ∃ w4', w4' = y.w := ⟨_, rfl⟩
      rw [← hw4'] at hb ⊢
      clear hw4' a1 k0 k1 h4 hK
      clear y S
      go_wp2_with fail
      refine (hRm.out _ hb.out).mono ?_
      rintro e w2 ⟨rfl, hm, hX⟩
      have hm2 := Lib.hid hm
      have hX2 := Lib.hid hX
      clear hm hX
      go_wp2_with fail
      obtain ⟨S, hS0⟩ : ∃ S, S = fun w' => HX B lo hi p0 p1 (L.filter fun q => decide (q ≠ (a, n))) R (L ++ R) w' ∧ Bx q (.int .u32 (a : Int)) (.int .u32 (n : Int)) w' ∧ Mid lo hi W1 w' := ⟨_, rfl⟩
      have hK : ∀ w', S w' → HX B lo hi p0 p1 (L.filter fun q => decide (q ≠ (a, n))) R (L ++ R) w' ∧ Bx q (.int .u32 (a : Int)) (.int .u32 (n : Int)) w' ∧ Mid lo hi W1 w' := fun w' h => by rw [hS0] at h; exact h
      have hS : ∀ w1 w', S w1 → Below w1.heap.size w1 w' → S w' := fun w1 w' h k => by
        rw [hS0] at h ⊢
        exact ⟨h.1.grow k, h.2.1.grow k, h.2.2.trans (Mid.of_below k)⟩
      have h4 : S w2 := by
        rw [hS0]
        exact ⟨hX2.out, hQ1.out.mid hm2.out hhi, hm2.out⟩
      have a1 : ∀ y : Wd S, y.w.cell? ⟨B.h, 2, none⟩ = some (.map (some B.rb)) := fun y => (hK _ y.h).1.hs.c2
      have k0 : ∀ y : Wd S, y.w.cell? ⟨q, 0, none⟩ = some (.int .u32 (a : Int)) := fun y => (hK _ y.h).2.1.c0
      have k1 : ∀ y : Wd S, y.w.cell? ⟨q, 1, none⟩ = some (.int .u32 (n : Int)) := fun y => (hK _ y.h).2.1.c1
      replace hK := Lib.hid hK
      clear hS0
      go_wp2_with fail
      refine region_cls_tail S 7 (by kernel_rfl) (by kernel_rfl) (hS _ _ h4 (Below.refl _ _).drew) ?_
      simp only [List.take_succ_cons, List.take_zero, List.drop_succ_cons, List.drop_zero]
      repeat (first
        | go_big_quiet_skip
        | (go_big_quiet_want
           go_big_quiet_op
           first
           | go_big_quiet_on
           | (apply Exists.intro
              refine ⟨fun y => ?_, ?_⟩
              · first | exact rfl
              go_big_quiet_on)))
      refine wpQuiet_nil ?_
      intro y
      have hk := hK.out _ y.h
      obtain ⟨w5, hrun, hHA, hm5⟩ := hk.1.putRest hin'.out
      obtain ⟨w4', hw4'⟩ : ∃ w4', w4' = y.w := ⟨_, rfl⟩
      rw [← hw4'] at hrun hm5 hk
      have hfin := Lib.hid (show FrPost B lo hi p0 p1 L R (a, n) w (.returned (.int .i64 0)) w5 from by
        refine ⟨by rw [if_pos hin'.out], ((Mid.of_below hB1.out).trans hk.2.2).trans hm5, ?_⟩
        rw [if_pos hin'.out]
        exact hHA)
      dsimp only [rgV] at hrun
      rw [← hw4']
      clear hk hHA hm5 a1 k0 k1 hS hw4' h4
      go_wp2_with fail
      rw [hD.out]
      exact hfin.out
  · rw [decide_eq_false hin] at hRm
    have hF := Lib.hid (fun w2 (hm : Mid lo hi W1 w2) (hX : HX B lo hi p0 p1 (L.filter fun q => decide (q ≠ (a, n))) R (L ++ R) w2) => (show FrPost B lo hi p0 p1 L R (a, n) w (.returned (.int .i64 8)) w2 from by
      refine ⟨by rw [if_neg hin], (Mid.of_below B1).trans hm, ?_⟩
      rw [if_neg hin, filter_out hin]
      rw [filter_out hin] at hX
      exact hX))
    clear H H1 Q1 B1 hW1 hq hin
    go_enter Tryd.func16, Tryd.ntmps16
    go_wp2_with fail
    rw [← hW1'.out, ← hq'.out]
    refine (made_any hH1.out.hs).mono ?_
    rintro e w1 ⟨rfl, rfl⟩
    go_wp2_with fail
    go_region_with (go_at_call 33; refine (hRm.out _ (by first | exact Below.refl _ _ | exact (Below.refl _ _).drew)).mono ?_; rintro e w2 ⟨rfl, hm, hX⟩; replace hm := Lib.hid (hF.out _ hm hX); clear hX)
    all_goals go_wp2_with fail
    all_goals rw [hD.out]
    all_goals exact hm.out
set_option maxHeartbeats 4000000 in
theorem Release_any (H : HA B lo hi p0 p1 L R w) (r : Rg) (hr : r.1 < 4294967296) :
    Calls Tryd.prog 17 #[.pointer (some ⟨B.h, 0, none⟩), rgV r] w (RlPost B lo hi p0 p1 L R r w) := by
  obtain ⟨a, n⟩ := r
  obtain ⟨W1, hW1⟩ : ∃ W1, W1 = w.alloc (.cells #[.int .u32 (a : Int), .int .u32 (n : Int)] 26) := ⟨_, rfl⟩
  obtain ⟨q, hq⟩ : ∃ q, q = w.heap.size := ⟨_, rfl⟩
  have hhi : hi ≤ q := hq ▸ H.hs.hi
  have B1 : Below w.heap.size w W1 := by rw [hW1]; exact (Below.refl _ _).alloc (Nat.le_refl _) _
  have Q1 : Bx q (.int .u32 a) (.int .u32 n) W1 := by rw [hW1, hq]; exact Bx.new w _ _ _
  have H1 : HX B lo hi p0 p1 L R (L ++ R) W1 := HX.grow H B1
  have hRm := Lib.hid (fun w1 (hb : Below W1.heap.size W1 w1) => (remove_any (H1.grow hb).hs.rest (a, n) hr).mono (R' := fun e w' => e = .returned (.bool (decide ((a, n) ∈ R))) ∧ Mid lo hi W1 w' ∧ HX B lo hi p0 p1 L (R.filter fun q => decide (q ≠ (a, n))) (L ++ R) w') fun e w' k =>
    ⟨k.1, (Mid.of_below hb).trans (Mid.of_off k.2.2 H.hs.rb_in.1 H.hs.rb_in.2), (H1.grow hb).hs.setRest k.2.2 k.2.1, H.good, H.lt, H.le⟩)
  obtain ⟨D, hD⟩ : ∃ D, D = RlPost B lo hi p0 p1 L R (a, n) w := ⟨_, rfl⟩
  rw [← hD]
  replace hD := Lib.hid hD
  have hB1 := Lib.hid B1
  have hQ1 := Lib.hid Q1
  have hH1 := Lib.hid H1
  have hq' := Lib.hid hq
  have hW1' := Lib.hid hW1
  have c1 := H1.hs.c2
  have b0 := Q1.c0
  have b1 := Q1.c1
  have hhl := Lib.hid (show B.h < W1.heap.size by have := (H1.hs.ok.inn B.h (.inl rfl)).2; have := H1.hs.hi; omega)
  dsimp only [rgV] at *
  by_cases hin : (a, n) ∈ R
  · have hin' := Lib.hid hin
    rw [decide_eq_true hin] at hRm
    have hp : (L ++ R).Perm ((a, n) :: (L ++ R.filter fun q => decide (q ≠ (a, n)))) :=
      ((perm_out (List.nodup_append.1 H.good.nodup).2.1 hin).append_left L).trans List.perm_middle
    have hGb := Lib.hid (fun w2 (hX : HX B lo hi p0 p1 L (R.filter fun q => decide (q ≠ (a, n))) (L ++ R) w2) => (show Calls Tryd.prog 34 #[.pointer (some ⟨B.h, 0, none⟩), .agg #[.int .u32 (a : Int), .int .u32 (n : Int)]] w2 (GbPost B lo hi p0 p1 L (R.filter fun q => decide (q ≠ (a, n))) (L ++ R.filter fun q => decide (q ≠ (a, n))) w2) from by
      have := giveBack_any (r := (a, n)) (hX.mem hp)
      exact this))
    have hF := Lib.hid (fun w2 w3 (hm : Mid lo hi W1 w2) (hg : GbPost B lo hi p0 p1 L (R.filter fun q => decide (q ≠ (a, n))) (L ++ R.filter fun q => decide (q ≠ (a, n))) w2 (.returned (.tuple #[])) w3) => (show RlPost B lo hi p0 p1 L R (a, n) w (.returned (.int .i64 0)) w3 from
      ⟨by rw [if_pos hin], ((Mid.of_below B1).trans hm).trans hg.2.1, hg.2.2⟩))
    clear H H1 Q1 B1 hW1 hq hin hp
    go_enter Tryd.func17, Tryd.ntmps17
    go_wp2_with fail
    rw [← hW1'.out, ← hq'.out]
    refine (made_any hH1.out.hs).mono ?_
    rintro e w1 ⟨rfl, rfl⟩
    go_wp2_with fail
    go_region_with (go_at_call 33; refine (hRm.out _ (by first | exact Below.refl _ _ | exact (Below.refl _ _).drew)).mono ?_; rintro e w2 ⟨rfl, hm, hX⟩; have hm2 := Lib.hid hm; have hX2 := Lib.hid hX; clear hm hX)
    all_goals
      clear c1 b0 b1
      have b0 := (hQ1.out.mid hm2.out hhi).c0
      have b1 := (hQ1.out.mid hm2.out hhi).c1
      go_wp2_with fail
      refine (hGb.out _ hX2.out).mono ?_
      rintro e w3 ⟨rfl, hg⟩
      have hfin := Lib.hid (hF.out _ _ hm2.out ⟨rfl, hg⟩)
      clear hg b0 b1
      go_wp2_with fail
      rw [hD.out]
      exact hfin.out
  · rw [decide_eq_false hin] at hRm
    have hF := Lib.hid (fun w2 (hm : Mid lo hi W1 w2) (hX : HX B lo hi p0 p1 L (R.filter fun q => decide (q ≠ (a, n))) (L ++ R) w2) => (show RlPost B lo hi p0 p1 L R (a, n) w (.returned (.int .i64 8)) w2 from by
      refine ⟨by rw [if_neg hin], (Mid.of_below B1).trans hm, ?_⟩
      rw [filter_out hin] at hX ⊢
      exact hX))
    clear H H1 Q1 B1 hW1 hq hin
    go_enter Tryd.func17, Tryd.ntmps17
    go_wp2_with fail
    rw [← hW1'.out, ← hq'.out]
    refine (made_any hH1.out.hs).mono ?_
    rintro e w1 ⟨rfl, rfl⟩
    go_wp2_with fail
    go_region_with (go_at_call 33; refine (hRm.out _ (by first | exact Below.refl _ _ | exact (Below.refl _ _).drew)).mono ?_; rintro e w2 ⟨rfl, hm, hX⟩; replace hm := Lib.hid (hF.out _ hm hX); clear hX)
    all_goals go_wp2_with fail
    all_goals rw [hD.out]
    all_goals exact hm.out
end
end Go.Proofs.YticfpnhfhhagpaaDoor
namespace Go.Proofs.YticfpnhfhhagpaaDoor
set_option maxRecDepth 100000
open Go.RowKit Go.Shelf Go.Maps
set_option linter.unusedVariables false
section
variable {W' W w : World} {B : Blk} {lo hi p0 p1 sz : Nat} {L R X Y : List Rg} {r : Rg} {f : Nat → Bool} {g : Nat → Nat → Bool} {s : Nat → Nat → Nat → Bool}
theorem HA.len (H : HA B lo hi p0 p1 L R w) : L.length + R.length ≤ 16384 := by
  have := H.good.length H.le
  rwa [List.length_append] at this
theorem Live_any (H : HA B lo hi p0 p1 L R w) : Calls Tryd.prog 11 #[.pointer (some ⟨B.h, 0, none⟩)] w (RgsPost L w) := by
  have hM := Lib.hid (made_any H.hs)
  have hL := Lib.hid (fun w1 (hb : Below w.heap.size w w1) => list_any (H.hs.grow hb).live (by have := H.len; omega))
  have c1 := H.hs.c1
  obtain ⟨D, hD⟩ : ∃ D, D = RgsPost L w := ⟨_, rfl⟩
  rw [← hD]
  replace hD := Lib.hid hD
  clear H
  go_enter Tryd.func11, Tryd.ntmps11
  go_wp2_with fail
  refine hM.out.mono ?_
  rintro e w1 ⟨rfl, rfl⟩
  go_wp2_with fail
  refine (hL.out _ (Below.refl _ _)).mono ?_
  rintro e w1 ⟨v, rfl, hr, hb⟩
  have hX := Lib.hid (show RgsPost L w (.returned v) w1 from ⟨v, rfl, hr, hb⟩)
  clear hr hb
  go_wp2_with fail
  rw [hD.out]
  exact hX.out
theorem Resting_any (H : HA B lo hi p0 p1 L R w) : Calls Tryd.prog 12 #[.pointer (some ⟨B.h, 0, none⟩)] w (RgsPost R w) := by
  have hM := Lib.hid (made_any H.hs)
  have hL := Lib.hid (fun w1 (hb : Below w.heap.size w w1) => list_any (H.hs.grow hb).rest (by have := H.len; omega))
  have c1 := H.hs.c2
  obtain ⟨D, hD⟩ : ∃ D, D = RgsPost R w := ⟨_, rfl⟩
  rw [← hD]
  replace hD := Lib.hid hD
  clear H
  go_enter Tryd.func12, Tryd.ntmps12
  go_wp2_with fail
  refine hM.out.mono ?_
  rintro e w1 ⟨rfl, rfl⟩
  go_wp2_with fail
  refine (hL.out _ (Below.refl _ _)).mono ?_
  rintro e w1 ⟨v, rfl, hr, hb⟩
  have hX := Lib.hid (show RgsPost R w (.returned v) w1 from ⟨v, rfl, hr, hb⟩)
  clear hr hb
  go_wp2_with fail
  rw [hD.out]
  exact hX.out
/-- How many bytes are free. -/
def roomN (p1 : Nat) (f : Nat → Bool) (s : Nat → Nat → Nat → Bool) : Nat → Nat
  | 0 => cnt f p1 * 256
  | k + 1 => roomN p1 f s k + tot (s k) 1024 * sltN k
theorem roomN_le (hp : p1 ≤ 1024) : ∀ k, k ≤ 5 → roomN p1 f s k ≤ 262144 + k * 4194304
  | 0, _ => by unfold roomN; have := cnt_le f p1; omega
  | k + 1, h => by
    have h1 := roomN_le hp k (by omega)
    have h2 := tot_le (s k) 1024
    have h3 := per_le (c := k) (by omega)
    have h4 : tot (s k) 1024 * sltN k ≤ 16384 * 256 := Nat.mul_le_mul (by omega) (by omega)
    unfold roomN
    omega
set_option maxHeartbeats 4000000 in
theorem Room_any (H : HS B lo hi sz p1 L R f g s w) (hp : p1 ≤ 1024) : Calls Tryd.prog 20 #[.pointer (some ⟨B.h, 0, none⟩)] w fun e w' => e = .returned (.int .u32 (roomN p1 f s 5 : Nat)) ∧ Below w.heap.size w w' := by
  have hM := Lib.hid (made_any H)
  have hC := Lib.hid (pcount H.pool)
  have c3 := H.c3
  have hhl := Lib.hid (show B.h < w.heap.size by have := (H.ok.inn B.h (.inl rfl)).2; have := H.hi; omega)
  have hFr := Lib.hid (fun c (hc : c < 5) w1 (hb : Below w.heap.size w w1) => free_any ((H.grow hb).book c hc))
  have hSl := Lib.hid (fun c (hc : c < 5) w => (show Calls Tryd.prog 26 #[.int .i64 (c : Nat)] w fun e w' => e = .returned (.int .u32 (sltN c : Nat)) ∧ w = w' from by
    have := pSlot_any c w
    rwa [slt_int hc] at this))
  have hR0 := Lib.hid (show roomN p1 f s 0 = cnt f p1 * 256 from rfl)
  have hRs := Lib.hid (fun k => (show roomN p1 f s (k + 1) = roomN p1 f s k + tot (s k) 1024 * sltN k from rfl))
  have hRl := Lib.hid (fun k (h : k ≤ 5) => roomN_le (f := f) (s := s) hp k h)
  have hcn := cnt_le f p1
  have b0 : ∀ w1, Below w.heap.size w w1 → w1.cell? ⟨B.h, 4, none⟩ = some (.pointer (some ⟨B.bk 0, 0, none⟩)) := fun w1 hb => (H.grow hb).cb 0 (by omega)
  have b1 : ∀ w1, Below w.heap.size w w1 → w1.cell? ⟨B.h, 5, none⟩ = some (.pointer (some ⟨B.bk 1, 0, none⟩)) := fun w1 hb => (H.grow hb).cb 1 (by omega)
  have b2 : ∀ w1, Below w.heap.size w w1 → w1.cell? ⟨B.h, 6, none⟩ = some (.pointer (some ⟨B.bk 2, 0, none⟩)) := fun w1 hb => (H.grow hb).cb 2 (by omega)
  have b3 : ∀ w1, Below w.heap.size w w1 → w1.cell? ⟨B.h, 7, none⟩ = some (.pointer (some ⟨B.bk 3, 0, none⟩)) := fun w1 hb => (H.grow hb).cb 3 (by omega)
  have b4 : ∀ w1, Below w.heap.size w w1 → w1.cell? ⟨B.h, 8, none⟩ = some (.pointer (some ⟨B.bk 4, 0, none⟩)) := fun w1 hb => (H.grow hb).cb 4 (by omega)
  obtain ⟨x, hx⟩ : ∃ x, x = cnt f p1 := ⟨_, rfl⟩
  obtain ⟨rm, hrm⟩ : ∃ rm, rm = roomN p1 f s := ⟨_, rfl⟩
  rw [← hx] at hC hR0 hcn
  rw [← hrm] at hR0 hRs hRl ⊢
  have hxb : (x : Int) < 1025 := by omega
  obtain ⟨n0, hn0⟩ : ∃ n0, n0 = B.bk 0 := ⟨_, rfl⟩
  obtain ⟨n1, hn1⟩ : ∃ n1, n1 = B.bk 1 := ⟨_, rfl⟩
  obtain ⟨n2, hn2⟩ : ∃ n2, n2 = B.bk 2 := ⟨_, rfl⟩
  obtain ⟨n3, hn3⟩ : ∃ n3, n3 = B.bk 3 := ⟨_, rfl⟩
  obtain ⟨n4, hn4⟩ : ∃ n4, n4 = B.bk 4 := ⟨_, rfl⟩
  have hbk := Lib.hid (And.intro hn0 (And.intro hn1 (And.intro hn2 (And.intro hn3 hn4))))
  have hIx : ∀ w, ∀ k : Nat, ∀ hk : k < 5, (Instr.index 53 (.agg #[.pointer (some ⟨n0, 0, none⟩), .pointer (some ⟨n1, 0, none⟩), .pointer (some ⟨n2, 0, none⟩), .pointer (some ⟨n3, 0, none⟩), .pointer (some ⟨n4, 0, none⟩)]) (.int .i64 (k : Int))).run Tryd.prog w = .ok (.pointer (some ⟨B.bk k, 0, none⟩)) w := by
    intro w k hk
    rcases (show k = 0 ∨ k = 1 ∨ k = 2 ∨ k = 3 ∨ k = 4 by omega) with rfl | rfl | rfl | rfl | rfl
    · rw [← hn0]; kernel_rfl
    · rw [← hn1]; kernel_rfl
    · rw [← hn2]; kernel_rfl
    · rw [← hn3]; kernel_rfl
    · rw [← hn4]; kernel_rfl
  rw [← hn0] at b0
  rw [← hn1] at b1
  rw [← hn2] at b2
  rw [← hn3] at b3
  rw [← hn4] at b4
  replace hIx := Lib.hid hIx
  clear H hx hrm hcn hn0 hn1 hn2 hn3 hn4
  go_enter Tryd.func20, Tryd.ntmps20
  go_wp2_with fail
  refine hM.out.mono ?_
  rintro e w1 ⟨rfl, rfl⟩
  go_wp2_with fail
  refine hC.out.mono ?_
  rintro e w2 ⟨rfl, hb⟩
  replace b0 := b0 _ hb
  replace b1 := b1 _ hb
  replace b2 := b2 _ hb
  replace b3 := b3 _ hb
  replace b4 := b4 _ hb
  have hB := Lib.hid hb
  clear hb c3
  go_wp2_with fail
  go_loopw [3, 20] (fun v i wr => ∃ k : Nat, k ≤ 5 ∧ i = .int .i64 k ∧ v = .int .u32 (rm k : Nat) ∧ Hid (Below w.heap.size w wr)) (fun _ i _ => 5 - (RowKit.intOf i).toNat)
  case atStart => exact ⟨0, by omega, rfl, by rw [hR0.out]; simp, hB⟩
  case round =>
    obtain ⟨k, hk, rfl, rfl, hb⟩ := hrel
    by_cases hlt : k < 5
    · have hf := Lib.hid (hFr.out k hlt wr hb.out)
      have hs' := Lib.hid (hSl.out k hlt)
      have hsum := hRs.out k
      have hle := hRl.out (k + 1) (by omega)
      obtain ⟨T, hT⟩ : ∃ T, T = tot (s k) 1024 := ⟨_, rfl⟩
      obtain ⟨S, hS⟩ : ∃ S, S = sltN k := ⟨_, rfl⟩
      obtain ⟨A, hA⟩ : ∃ A, A = rm k := ⟨_, rfl⟩
      obtain ⟨A', hA'⟩ : ∃ A', A' = rm (k + 1) := ⟨_, rfl⟩
      obtain ⟨Z, hZ⟩ : ∃ Z, Z = T * S := ⟨_, rfl⟩
      rw [← hT] at hf hsum
      rw [← hS] at hs' hsum
      rw [← hA] at hsum
      rw [← hA', ← hZ] at hsum
      rw [← hA'] at hle
      have hZi : (T : Int) * S = Z := by rw [hZ]; simp
      have hTb : T < 4294967296 := by
        have := tot_le (s k) 1024
        omega
      have hAA : ((A : Int) + Z) = A' := by omega
      have hAb : A' < 4294967296 := by omega
      have hZb : Z < 4294967296 := by omega
      rw [← hA]
      have hA2 := Lib.hid hA'
      have hix := hIx.out wr k hlt
      have hki : (k : Int) < 5 := by omega
      clear hT hS hZ hsum hle hA hA'
      go_wp2_with fail
      refine hf.out.mono ?_
      rintro e w3 ⟨rfl, hb3⟩
      have hB3 := Lib.hid (hb.out.trans (hb3.mono hb.out.size))
      clear hb3
      go_wp2_with fail
      refine (hs'.out _).mono ?_
      rintro e w4 ⟨rfl, rfl⟩
      go_wp2_with fail
      go_roundw
      · exact ⟨k + 1, by omega, by simp, by rw [← hA2.out], hB3⟩
      · simp only [RowKit.intOf]
        omega
    · have : k = 5 := by omega
      subst this
      go_wp2_with fail
      go_ret
      exact ⟨rfl, hb.out⟩
end
end Go.Proofs.YticfpnhfhhagpaaDoor
namespace Go.Proofs.YticfpnhfhhagpaaDoor
set_option maxRecDepth 100000
open Go.RowKit Go.Shelf Go.Maps
set_option linter.unusedVariables false
section
variable {W' W w : World}
/-- What is refused. -/
theorem New_arg (a n : Nat) (ha : a < 4294967296) (hn : n < 4294967296) (h : a % 256 ≠ 0 ∨ n % 256 ≠ 0 ∨ n = 0) :
    Calls Tryd.prog 9 #[rgV (a, n)] w fun e w' => e = .returned (.tuple #[.pointer none, .int .i64 2]) ∧ Below w.heap.size w w' := by
  obtain ⟨W1, hW1⟩ : ∃ W1, W1 = w.alloc (.cells #[.int .u32 (a : Int), .int .u32 (n : Int)] 26) := ⟨_, rfl⟩
  have B1 : Below w.heap.size w W1 := by rw [hW1]; exact (Below.refl _ _).alloc (Nat.le_refl _) _
  have Q1 : Bx w.heap.size (.int .u32 a) (.int .u32 n) W1 := by rw [hW1]; exact Bx.new w _ _ _
  have c0 := Q1.c0
  have c1 := Q1.c1
  have hb1 := Lib.hid B1
  have hW1' := Lib.hid hW1
  clear hW1 B1 Q1
  dsimp only [rgV]
  obtain ⟨x, hx⟩ : ∃ x, x = a % 256 := ⟨_, rfl⟩
  obtain ⟨y, hy⟩ : ∃ y, y = n % 256 := ⟨_, rfl⟩
  have e1 : (a : Int) % 256 = x := by omega
  have e2 : (n : Int) % 256 = y := by omega
  rw [← hx, ← hy] at h
  by_cases h1 : x = 0
  · by_cases h2 : y = 0
    · have h3 : n = 0 := by omega
      have h3i : (n : Int) = 0 := by omega
      have h2i : (y : Int) = 0 := by omega
      have h1i : (x : Int) = 0 := by omega
      clear h hx hy ha hn h1 h2 h3
      go_enter Tryd.func9, Tryd.ntmps9
      go_wp2_with fail
      go_ret2
      exact ⟨rfl, (Below.refl _ _).alloc (Nat.le_refl _) _⟩
    · have h2i : ¬ (y : Int) = 0 := by omega
      have h1i : (x : Int) = 0 := by omega
      clear h hx hy ha hn h1 h2
      go_enter Tryd.func9, Tryd.ntmps9
      go_wp2_with fail
      rw [← hW1'.out]
      go_wp2_with fail
      go_ret2
      exact ⟨rfl, hb1.out⟩
  · have h1i : ¬ (x : Int) = 0 := by omega
    clear h hx hy ha hn h1
    go_enter Tryd.func9, Tryd.ntmps9
    go_wp2_with fail
    rw [← hW1'.out]
    go_wp2_with fail
    go_ret2
    exact ⟨rfl, hb1.out⟩
theorem New_long (a n : Nat) (ha : a < 4294967296) (hn : n < 4294967296) (h1 : a % 256 = 0) (h2 : n % 256 = 0) (h3 : n ≠ 0) (h : 262144 < a + n) :
    Calls Tryd.prog 9 #[rgV (a, n)] w fun e w' => e = .returned (.tuple #[.pointer none, .int .i64 3]) ∧ Below w.heap.size w w' := by
  obtain ⟨W1, hW1⟩ : ∃ W1, W1 = w.alloc (.cells #[.int .u32 (a : Int), .int .u32 (n : Int)] 26) := ⟨_, rfl⟩
  have B1 : Below w.heap.size w W1 := by rw [hW1]; exact (Below.refl _ _).alloc (Nat.le_refl _) _
  have Q1 : Bx w.heap.size (.int .u32 a) (.int .u32 n) W1 := by rw [hW1]; exact Bx.new w _ _ _
  have c0 := Q1.c0
  have c1 := Q1.c1
  have hb1 := Lib.hid B1
  have hW1' := Lib.hid hW1
  clear hW1 B1 Q1
  dsimp only [rgV]
  have e1 : (a : Int) % 256 = 0 := by omega
  have e2 : (n : Int) % 256 = 0 := by omega
  have e3 : ¬ (n : Int) = 0 := by omega
  have e4 : (262144 : Int) < (a : Int) + n := by omega
  clear h1 h2 h3 h
  go_enter Tryd.func9, Tryd.ntmps9
  go_wp2_with fail
  rw [← hW1'.out]
  go_wp2_with fail
  go_ret2
  exact ⟨rfl, hb1.out⟩
end
end Go.Proofs.YticfpnhfhhagpaaDoor
namespace Go.Proofs.YticfpnhfhhagpaaDoor
set_option maxRecDepth 100000
open Go.RowKit Go.Shelf Go.Maps
set_option linter.unusedVariables false
section
variable {W' W w : World}

/-- A map with nothing in it. -/
def NM (w : World) (b : Nat) : Prop := w.heap[b]? = some (.map #[] 0)
theorem NM.new (w : World) : NM (w.alloc (.map #[] 0)) w.heap.size := World.alloc_heap_new w _
theorem NM.lt {b : Nat} (h : NM w b) : b < w.heap.size := (Array.getElem?_eq_some_iff.1 h).1
theorem NM.grow {b : Nat} (h : NM w b) (k : Below w.heap.size w W') : NM W' b := (k.block b h.lt).trans h
theorem NM.alloc {b : Nat} (h : NM w b) (o : Obj) : NM (w.alloc o) b := h.grow ((Below.refl _ _).alloc (Nat.le_refl _) o)
/-- The box that is read. -/
def Sz (q : Nat) (v : Value) (w : World) : Prop := w.cell? ⟨q, 1, none⟩ = some v ∧ q < w.heap.size
theorem Sz.grow {q : Nat} {v : Value} (h : Sz q v w) (k : Below w.heap.size w W') : Sz q v W' := ⟨(k.cell (p := ⟨q, 1, none⟩) h.2).trans h.1, Nat.lt_of_lt_of_le h.2 k.size⟩
theorem Sz.alloc {q : Nat} {v : Value} (h : Sz q v w) (o : Obj) : Sz q v (w.alloc o) := h.grow ((Below.refl _ _).alloc (Nat.le_refl _) o)

/-! The region that makes both maps and the pool: in whatever order. -/
def A4 (b : Act) (x y z u : Value) : Act := (((b.put (some 32) x).put (some 33) y).put (some 34) z).put (some 38) u
section
variable {b : Act} {x y z u v : Value}
theorem A4_x : (A4 b x y z u).put (some 32) v = A4 b v y z u := by
  unfold A4 Act.put
  simp only
  congr 1
  rw [Array.setIfInBounds_comm _ _ (show 38 ≠ 32 by decide), Array.setIfInBounds_comm _ _ (show 34 ≠ 32 by decide), Array.setIfInBounds_comm _ _ (show 33 ≠ 32 by decide), Array.setIfInBounds_setIfInBounds]
theorem A4_y : (A4 b x y z u).put (some 33) v = A4 b x v z u := by
  unfold A4 Act.put
  simp only
  congr 1
  rw [Array.setIfInBounds_comm _ _ (show 38 ≠ 33 by decide), Array.setIfInBounds_comm _ _ (show 34 ≠ 33 by decide), Array.setIfInBounds_setIfInBounds]
theorem A4_z : (A4 b x y z u).put (some 34) v = A4 b x y v u := by
  unfold A4 Act.put
  simp only
  congr 1
  rw [Array.setIfInBounds_comm _ _ (show 38 ≠ 34 by decide), Array.setIfInBounds_setIfInBounds]
theorem A4_u : (A4 b x y z u).put (some 38) v = A4 b x y z v := by
  unfold A4 Act.put
  simp only
  congr 1
  rw [Array.setIfInBounds_setIfInBounds]
theorem A4_at {j : Nat} (h1 : j ≠ 32) (h2 : j ≠ 33) (h3 : j ≠ 34) (h4 : j ≠ 38) : (A4 b x y z u).tmps.getD j undef = b.tmps.getD j undef := by
  unfold A4 Act.put
  simp only [Array.getD_eq_getD_getElem?, Array.getElem?_setIfInBounds, h1.symm, h2.symm, h3.symm, h4.symm, if_false]
end
/-- What has come up so far. -/
structure Iv (W1 : World) (q n p : Nat) (a b c d : Bool) (x y z u : Value) (Z : World) : Prop where
  base : Below W1.heap.size W1 Z
  hq : q < W1.heap.size
  i1 : a = true → x = .int .u32 (n : Int)
  i2 : b = true → ∃ k, y = .map (some k) ∧ NM Z k ∧ W1.heap.size ≤ k
  i3 : c = true → ∃ k, z = .map (some k) ∧ NM Z k ∧ W1.heap.size ≤ k
  i23 : b = true → c = true → y ≠ z
  i7 : d = true → ∃ pb pm pw, u = .pointer (some ⟨pb, 0, none⟩) ∧ PoolAt Z pb pm pw p (fun _ => false) ∧ W1.heap.size ≤ pb ∧ W1.heap.size ≤ pm ∧ W1.heap.size ≤ pw
section
variable {W1 Z X : World} {q n p : Nat} {a b c d : Bool} {x y z u v : Value}
theorem Iv.load (h : Iv W1 q n p a b c d x y z u Z) : Iv W1 q n p true b c d (.int .u32 (n : Int)) y z u Z := ⟨h.base, h.hq, fun _ => rfl, h.i2, h.i3, h.i23, h.i7⟩
theorem Iv.mk2 (h : Iv W1 q n p a b c d x y z u Z) : Iv W1 q n p a true c d x (.map (some Z.heap.size)) z u (Z.alloc (.map #[] 0)) := by
  have g : Below Z.heap.size Z (Z.alloc (.map #[] 0)) := (Below.refl _ _).alloc (Nat.le_refl _) _
  have hs := h.base.size
  have hq := h.hq
  refine ⟨h.base.trans (g.mono hs), h.hq, h.i1, fun _ => ⟨_, rfl, NM.new Z, by omega⟩, fun e => ?_, fun _ e => ?_, fun e => ?_⟩
  · obtain ⟨k, h1, h2, h3⟩ := h.i3 e
    exact ⟨k, h1, h2.grow g, h3⟩
  · obtain ⟨k, h1, h2, h3⟩ := h.i3 e
    have := h2.lt
    intro e2
    rw [h1] at e2
    cases e2
    omega
  · obtain ⟨pb, pm, pw, h1, h2, h3⟩ := h.i7 e
    exact ⟨pb, pm, pw, h1, h2.grow g, h3⟩
theorem Iv.mk3 (h : Iv W1 q n p a b c d x y z u Z) : Iv W1 q n p a b true d x y (.map (some Z.heap.size)) u (Z.alloc (.map #[] 0)) := by
  have g : Below Z.heap.size Z (Z.alloc (.map #[] 0)) := (Below.refl _ _).alloc (Nat.le_refl _) _
  have hs := h.base.size
  have hq := h.hq
  refine ⟨h.base.trans (g.mono hs), h.hq, h.i1, fun e => ?_, fun _ => ⟨_, rfl, NM.new Z, by omega⟩, fun e _ => ?_, fun e => ?_⟩
  · obtain ⟨k, h1, h2, h3⟩ := h.i2 e
    exact ⟨k, h1, h2.grow g, h3⟩
  · obtain ⟨k, h1, h2, h3⟩ := h.i2 e
    have := h2.lt
    intro e2
    rw [h1] at e2
    cases e2
    omega
  · obtain ⟨pb, pm, pw, h1, h2, h3⟩ := h.i7 e
    exact ⟨pb, pm, pw, h1, h2.grow g, h3⟩
theorem Iv.mk7 (h : Iv W1 q n p a b c d x y z u Z) (k : Fresh Z p (fun _ => false) (.returned v) X) : Iv W1 q n p a b c true x y z v X := by
  obtain ⟨pb, pm, pw, h1, h2, h3, h4, h5, g⟩ := k
  have hs := h.base.size
  have hq := h.hq
  cases h1
  refine ⟨h.base.trans (g.mono hs), h.hq, h.i1, fun e => ?_, fun e => ?_, h.i23, fun _ => ⟨pb, pm, pw, rfl, h2, by omega, by omega, by omega⟩⟩
  · obtain ⟨k, h1, h2, h3⟩ := h.i2 e
    exact ⟨k, h1, h2.grow g, h3⟩
  · obtain ⟨k, h1, h2, h3⟩ := h.i3 e
    exact ⟨k, h1, h2.grow g, h3⟩
end
end
end Go.Proofs.YticfpnhfhhagpaaDoor
namespace Go.Proofs.YticfpnhfhhagpaaDoor
set_option maxRecDepth 100000
open Go.RowKit Go.Shelf Go.Maps
set_option linter.unusedVariables false
section
variable {W1 W' Z X w : World} {q n p h k2 k3 pb pm pw m : Nat} {bk : Nat → Nat} {f f' : Nat → Bool}
theorem NM.nocell {k : Nat} (hk : NM w k) (j : Nat) : w.cell? ⟨k, j, none⟩ = none := by
  have hk : w.heap[k]? = some (.map #[] 0) := hk
  simp [World.cell?, hk]
theorem NM.ne {k b j : Nat} {v : Value} (hk : NM w k) (h : w.cell? ⟨b, j, none⟩ = some v) : k ≠ b := fun e => by
  subst e
  rw [hk.nocell] at h
  cases h
/-- A heap whose first m books stand. -/
structure NS (W1 : World) (q n p h k2 k3 pb pm pw : Nat) (bk : Nat → Nat) (m : Nat) (f : Nat → Bool) (w : World) : Prop where
  base : Below W1.heap.size W1 w
  hq : q < W1.heap.size
  hp : 1 ≤ p
  c0 : w.cell? ⟨h, 0, none⟩ = some (.int .u32 (n : Int))
  c1 : w.cell? ⟨h, 1, none⟩ = some (.map (some k2))
  c2 : w.cell? ⟨h, 2, none⟩ = some (.map (some k3))
  c3 : w.cell? ⟨h, 3, none⟩ = some (.pointer (some ⟨pb, 0, none⟩))
  cb : ∀ c, c < m → w.cell? ⟨h, 4 + c, none⟩ = some (.pointer (some ⟨bk c, 0, none⟩))
  cz : ∀ c, c < 5 → (w.cell? ⟨h, 4 + c, none⟩).isSome = true ∧ w.frozen? ⟨h, 4 + c, none⟩ = false
  n2 : NM w k2
  n3 : NM w k3
  pool : PoolAt w pb pm pw p f
  book : ∀ c, c < m → BookAt w (bk c) (perN c) (fun _ => false) (fun _ _ => false)
  gt : W1.heap.size ≤ h ∧ W1.heap.size ≤ k2 ∧ W1.heap.size ≤ k3 ∧ W1.heap.size ≤ pb ∧ W1.heap.size ≤ pm ∧ W1.heap.size ≤ pw
  ne : k2 ≠ k3
  hgt : k2 < h ∧ k3 < h ∧ pb < h ∧ pm < h ∧ pw < h
  bgt : ∀ c, c < m → h < bk c
  ord : ∀ c d, c < d → d < m → bk c < bk d
theorem NS.lt (H : NS W1 q n p h k2 k3 pb pm pw bk m f w) : h < w.heap.size := lt_of_cell' (p := ⟨h, 0, none⟩) H.c0
theorem NS.grow (H : NS W1 q n p h k2 k3 pb pm pw bk m f w) (k : Below w.heap.size w W') : NS W1 q n p h k2 k3 pb pm pw bk m f W' := by
  have hl := H.lt
  exact ⟨H.base.trans (k.mono H.base.size), H.hq, H.hp, (k.cell (p := ⟨h, 0, none⟩) hl).trans H.c0, (k.cell (p := ⟨h, 1, none⟩) hl).trans H.c1, (k.cell (p := ⟨h, 2, none⟩) hl).trans H.c2, (k.cell (p := ⟨h, 3, none⟩) hl).trans H.c3,
    fun c hc => (k.cell (p := ⟨h, 4 + c, none⟩) hl).trans (H.cb c hc), fun c hc => ⟨by rw [k.cell (p := ⟨h, 4 + c, none⟩) hl]; exact (H.cz c hc).1, (k.frozen (p := ⟨h, 4 + c, none⟩) hl).trans (H.cz c hc).2⟩,
    H.n2.grow k, H.n3.grow k, H.pool.grow k, fun c hc => (H.book c hc).grow k, H.gt, H.ne, H.hgt, H.bgt, H.ord⟩
/-- At first. -/
theorem NS.start (hB : Below W1.heap.size W1 Z) (hq : q < W1.heap.size) (hp : 1 ≤ p) (h2 : NM Z k2) (h3 : NM Z k3) (hP : PoolAt Z pb pm pw p (fun _ => false)) (hne : k2 ≠ k3) (g : W1.heap.size ≤ k2 ∧ W1.heap.size ≤ k3 ∧ W1.heap.size ≤ pb ∧ W1.heap.size ≤ pm ∧ W1.heap.size ≤ pw) :
    NS W1 q n p Z.heap.size k2 k3 pb pm pw bk 0 (fun _ => false) (Z.alloc (.cells #[.int .u32 n, .map (some k2), .map (some k3), .pointer (some ⟨pb, 0, none⟩), .pointer none, .pointer none, .pointer none, .pointer none, .pointer none] 55)) := by
  have k : Below Z.heap.size Z (Z.alloc (.cells #[.int .u32 n, .map (some k2), .map (some k3), .pointer (some ⟨pb, 0, none⟩), .pointer none, .pointer none, .pointer none, .pointer none, .pointer none] 55)) := (Below.refl _ _).alloc (Nat.le_refl _) _
  have hs := hB.size
  refine ⟨hB.trans (k.mono hs), hq, hp, by simp, by simp, by simp, by simp, fun c hc => by omega, fun c hc => ?_, h2.grow k, h3.grow k, hP.grow k, fun c hc => by omega, ⟨by omega, g⟩, hne, ⟨h2.lt, h3.lt, hP.lp, hP.m.lb, hP.m.lw⟩, fun c hc => by omega, fun c d _ hd => by omega⟩
  rcases (show c = 0 ∨ c = 1 ∨ c = 2 ∨ c = 3 ∨ c = 4 by omega) with rfl | rfl | rfl | rfl | rfl <;> exact ⟨by simp, by simp⟩
/-- The pool turned. -/
theorem NS.setPool (H : NS W1 q n p h k2 k3 pb pm pw bk m f w) (o : Off w.heap.size pw w W') (hP : PoolAt W' pb pm pw p f') : NS W1 q n p h k2 k3 pb pm pw bk m f' W' := by
  have hl := H.lt
  have hw : w.cell? ⟨pw, 0, none⟩ = some (.int .u64 (wdo f 0 : Nat)) := (H.pool.m.ws 0 (by have := H.hp; omega)).1
  have n2 := H.n2.ne hw
  have n3 := H.n3.ne hw
  have nh : h ≠ pw := by have := H.hgt; omega
  have nb : ∀ c, c < m → bk c ≠ pw := fun c hc => by have := H.bgt c hc; have := H.hgt; omega
  have hg := H.gt
  have e0 : W'.heap[h]? = w.heap[h]? := o.block h hl nh
  refine ⟨⟨o.os.trans H.base.os, o.tape.trans H.base.tape, o.output.trans H.base.output, Nat.le_trans H.base.size o.size, fun k hk => (o.block k (Nat.lt_of_lt_of_le hk H.base.size) (by omega)).trans (H.base.block k hk)⟩, H.hq, H.hp,
    (World.cell?_of_block (a := ⟨h, 0, none⟩) e0).trans H.c0, (World.cell?_of_block (a := ⟨h, 1, none⟩) e0).trans H.c1, (World.cell?_of_block (a := ⟨h, 2, none⟩) e0).trans H.c2, (World.cell?_of_block (a := ⟨h, 3, none⟩) e0).trans H.c3,
    fun c hc => (World.cell?_of_block (a := ⟨h, 4 + c, none⟩) e0).trans (H.cb c hc), fun c hc => ⟨by rw [World.cell?_of_block (a := ⟨h, 4 + c, none⟩) e0]; exact (H.cz c hc).1, (World.frozen?_of_block (a := ⟨h, 4 + c, none⟩) e0).trans (H.cz c hc).2⟩,
    (o.block k2 H.n2.lt n2).trans H.n2, (o.block k3 H.n3.lt n3).trans H.n3, hP, fun c hc => (H.book c hc).keep (o.block _ (H.book c hc).lb (nb c hc)) o.size, H.gt, H.ne, H.hgt, H.bgt, H.ord⟩
/-- One more book. -/
theorem NS.setBook {b : Nat} (H : NS W1 q n p h k2 k3 pb pm pw bk m f w) (hm : m < 5) (hB : BookAt W' b (perN m) (fun _ => false) (fun _ _ => false)) (g : w.heap.size ≤ b) (k : Below w.heap.size w W') :
    ∃ bk', NS W1 q n p h k2 k3 pb pm pw bk' (m + 1) f (W'.setCell ⟨h, 4 + m, none⟩ (.pointer (some ⟨b, 0, none⟩))) := by
  have H' := H.grow k
  have hl := H'.lt
  have hg := H'.gt
  have hh := H'.hgt
  have hbl := hB.lb
  have e : ∀ j, j ≠ h → (W'.setCell ⟨h, 4 + m, none⟩ (.pointer (some ⟨b, 0, none⟩))).heap[j]? = W'.heap[j]? := fun j hj => Below.heap_setCell _ _ _ _ (fun e => hj e)
  have hs : (W'.setCell ⟨h, 4 + m, none⟩ (.pointer (some ⟨b, 0, none⟩))).heap.size = W'.heap.size := by simp [World.setCell]
  have ec : ∀ j, j ≠ 4 + m → (W'.setCell ⟨h, 4 + m, none⟩ (.pointer (some ⟨b, 0, none⟩))).cell? ⟨h, j, none⟩ = W'.cell? ⟨h, j, none⟩ := fun j hj => World.cell?_setCell_other _ _ _ _ (fun e => by
    have := congrArg Addr.off e
    exact hj this.symm)
  have hlt0 := H.lt
  have hbo : ∀ c, c < m → bk c < w.heap.size := fun c hc => (H.book c hc).lb
  have hold : ∀ c, c < m → (if c = m then b else bk c) = bk c := fun c hc => if_neg (by omega)
  refine ⟨fun c => if c = m then b else bk c, H'.base.setCell (p := ⟨h, 4 + m, none⟩) hg.1 _, H.hq, H.hp, (ec 0 (by omega)).trans H'.c0, (ec 1 (by omega)).trans H'.c1, (ec 2 (by omega)).trans H'.c2, (ec 3 (by omega)).trans H'.c3,
    fun c hc => ?_, fun c hc => ⟨?_, by rw [World.frozen?_setCell]; exact (H'.cz c hc).2⟩, (e k2 (by omega)).trans H'.n2, (e k3 (by omega)).trans H'.n3,
    H'.pool.keep (fun j hj => e j (by omega)) (by omega), fun c hc => ?_, H.gt, H.ne, H.hgt, fun c hc => ?_, fun c d hcd hd => ?_⟩
  · by_cases e2 : c = m
    · subst e2
      simp only [if_true]
      have := (H'.cz c hm).1
      exact World.cell?_setCell_same' _ _ _ this
    · simp only [if_neg e2]
      rw [ec _ (by omega)]
      exact H'.cb c (by omega)
  · by_cases e2 : c = m
    · subst e2
      rw [World.cell?_setCell_same' _ _ _ (H'.cz c hm).1]
      rfl
    · rw [ec _ (by omega)]
      exact (H'.cz c hc).1
  · by_cases e2 : c = m
    · subst e2
      simp only [if_true]
      exact hB.keep (e b (by omega)) (by omega)
    · simp only [if_neg e2]
      have := H'.bgt c (by omega)
      exact (H'.book c (by omega)).keep (e _ (by omega)) (by omega)
  · by_cases e2 : c = m
    · simp only [e2, if_true]; omega
    · simp only [if_neg e2]; exact H.bgt c (by omega)
  · have hc : c ≠ m := by omega
    simp only [if_neg hc]
    by_cases e2 : d = m
    · simp only [e2, if_true]
      have := hbo c (by omega)
      omega
    · simp only [if_neg e2]
      exact H.ord c d hcd (by omega)
/-- All five. -/
theorem NS.blk (H : NS W1 q n p h k2 k3 pb pm pw bk 5 f w) : (⟨h, k2, k3, pb, pm, pw, bk⟩ : Blk).Ok W1.heap.size w.heap.size := by
  have hg := H.gt
  have hh := H.hgt
  have hl := H.lt
  have hw : w.cell? ⟨pw, 0, none⟩ = some (.int .u64 (wdo f 0 : Nat)) := (H.pool.m.ws 0 (by have := H.hp; omega)).1
  have a1 := H.n2.ne H.pool.c0
  have a2 := H.n2.ne H.pool.m.h0
  have a3 := H.n2.ne hw
  have b1 := H.n3.ne H.pool.c0
  have b2 := H.n3.ne H.pool.m.h0
  have b3 := H.n3.ne hw
  have hne := H.ne
  refine ⟨?_, ⟨?_, ?_, ?_, fun c hc => ?_⟩, ⟨?_, ?_, ?_, ?_, fun c hc => ?_⟩, ⟨?_, ?_, ?_, fun c hc => ?_⟩, fun c hc => ⟨?_, ?_, ?_⟩, fun c d hc hd hcd => ?_⟩
  · intro k hk
    rcases hk with rfl | rfl | rfl | rfl | rfl | rfl | ⟨c, hc, rfl⟩
    · exact ⟨hg.1, hl⟩
    · exact ⟨hg.2.1, H.n2.lt⟩
    · exact ⟨hg.2.2.1, H.n3.lt⟩
    · exact ⟨hg.2.2.2.1, H.pool.lp⟩
    · exact ⟨hg.2.2.2.2.1, H.pool.m.lb⟩
    · exact ⟨hg.2.2.2.2.2, H.pool.m.lw⟩
    · have := H.bgt c hc
      exact ⟨by show W1.heap.size ≤ bk c; omega, (H.book c hc).lb⟩
  all_goals dsimp only
  all_goals try (have := H.bgt c hc)
  all_goals try omega
  · rcases Nat.lt_or_gt_of_ne hcd with e | e
    · have := H.ord c d e hd; omega
    · have := H.ord d c e hc; omega
theorem NM.rmap {k : Nat} (hk : NM w k) : RMap w k [] := by
  obtain ⟨D, ⟨es, clock, hb, F, hs, hD⟩, hd⟩ := (RMap.new w).own
  rw [World.alloc_heap_new w _] at hb
  cases hb
  exact ⟨⟨D, ⟨_, _, hk, F, hs, hD⟩, hd⟩, List.Pairwise.nil, by simp⟩
/-- It is a heap. -/
theorem NS.ha {p0 : Nat} (H : NS W1 q n p h k2 k3 pb pm pw bk 5 (fre p0 p []) w) (h1 : p0 < p) (h2 : p ≤ 1024) (hn : n = (p - p0) * 256) : HA ⟨h, k2, k3, pb, pm, pw, bk⟩ W1.heap.size w.heap.size p0 p [] [] w := by
  refine ⟨⟨H.blk, Nat.le_refl _, hn ▸ H.c0, H.c1, H.c2, H.c3, H.cb, H.n2.rmap, H.n3.rmap, H.pool, fun c hc => ?_⟩, Good.nil _ _, h1, h2⟩
  have := H.book c hc
  have e1 : ofC ([] ++ []) c = fun _ => false := funext fun _ => rfl
  have e2 : slF ([] ++ []) c = fun _ _ => false := funext fun _ => funext fun _ => rfl
  rw [e1, e2]
  exact this
end
end Go.Proofs.YticfpnhfhhagpaaDoor
