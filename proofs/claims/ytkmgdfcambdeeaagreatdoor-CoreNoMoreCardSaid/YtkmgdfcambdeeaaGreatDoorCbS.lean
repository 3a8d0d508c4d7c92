/- The laws' own sound (layer core): a frame whose capabilities that are not sound are not valid. No statement is proved here. -/
import Derived.Test.YtkmgdfcambdeeaaGreatDoorPCAlP
import Derived.Deep.LoopGhost
namespace Go.Proofs.YtkmgdfcambdeeaaGreatDoor
set_option maxRecDepth 100000
open Go.RowKit
set_option linter.unusedVariables false
def sndC (c : Cp) : Cp := ⟨c.cu, c.e, c.b, c.t, c.pm, c.ty, c.rs, c.va && sndP c.e c.b c.t c.pm c.ty c.rs⟩
theorem sndC_fit {c : Cp} (h : c.fit) : (sndC c).fit := ⟨h.l0, h.l1, h.l2, h.l3, h.l4, h.l5, h.l6⟩
/-- The first j registers are looked at. -/
def sIt (F : List Cp) : Nat → List Cp
  | 0 => F
  | j + 1 => (sIt F j).set j (sndC (reg (sIt F j) j))
theorem sIt_fit {F : List Cp} (h : Fit F) : ∀ j, Fit (sIt F j)
  | 0 => h
  | j + 1 => (sIt_fit h j).set j (sndC_fit ((sIt_fit h j).reg j))
theorem fC_setva : ∀ (F : List Cp) (i : Nat) (c : Cp) (z : Bool), F[i]? = some c → (fC F).set (i * 8 + 7) (.bool z) = fC (F.set i ⟨c.cu, c.e, c.b, c.t, c.pm, c.ty, c.rs, z⟩)
  | [], i, c, z, h => by simp at h
  | d :: F, 0, c, z, h => by
    simp only [List.getElem?_cons_zero, Option.some.injEq] at h
    subst h
    rfl
  | d :: F, i + 1, c, z, h => by
    rw [fC, List.set_append_right _ _ (by rw [Cp.C_len]; omega), Cp.C_len, show (i + 1) * 8 + 7 - 8 = i * 8 + 7 by omega, fC_setva F i c z (by simpa using h)]
    rfl
theorem pSound_cp (c : Cp) (h : c.fit) (W : World) : Calls Tryz.prog 61 #[c.V] W fun ee w' => ee = .returned (.bool (sndP c.e c.b c.t c.pm c.ty c.rs)) ∧ Below W.heap.size W w' :=
  pSound_any c.cu c.e c.b c.t c.pm c.ty c.rs c.va h.l0 h.l1 h.l2 h.l3 h.l4 h.l5 h.l6 W
set_option maxHeartbeats 8000000 in
theorem psound_any (F0 : List Cp) (hF0 : Fit F0) (W : World) : Calls Tryz.prog 20 #[fV F0] W fun e w' => e = .returned (fV (sIt F0 17)) ∧ Below W.heap.size W w' := by
  have k0 := Lib.hid (start_ff F0 W)
  have hF := Lib.hid hF0
  clear hF0
  unfold fV
  go_enter Tryz.func20, Tryz.ntmps20
  go_upto_region 1 with (fail)
  generalize ((W.alloc (.cells (fC F0).toArray 28)).alloc _) = w1 at k0 ⊢
  go_wp2_with fail
  go_loopw [3] (fun i wr => ∃ (j : Nat) (F : List Cp), j ≤ 16 ∧ i = .int .i64 j ∧ Hid (F = sIt F0 j ∧ KR W [⟨W.heap.size, fC F⟩, ⟨W.heap.size + 1, fC zF⟩] wr)) (fun i _ => 17 - (intOf i).toNat)
  case atStart => exact ⟨0, F0, by omega, rfl, Lib.hid ⟨rfl, k0.out.swap⟩⟩
  case round =>
    obtain ⟨j, F, hj, rfl, hI⟩ := hrel
    have eF := Lib.hid hI.out.1
    have k1 := Lib.hid hI.out.2
    have fF := Lib.hid (show Fit F from by rw [eF.out]; exact sIt_fit hF.out j)
    clear hI k0
    have lF := fF.out.len
    by_cases hlt : j < 16
    · have jl : (j : Int) < 16 := by omega
      have hget := Lib.hid (reg_get (F := F) (i := j) (by omega))
      have fc := Lib.hid (fF.out.reg j)
      have eN := Lib.hid (show sIt F0 (j + 1) = F.set j (sndC (reg F j)) from by rw [eF.out]; rfl)
      obtain ⟨c, hc⟩ : ∃ c, c = reg F j := ⟨_, rfl⟩
      rw [← hc] at hget fc eN
      clear hc
      obtain ⟨c0, c1, c2, c3, c4, c5, c6, c7⟩ := k1.out.reg (g := W.heap.size) (F := F) (by simp) hget.out
      have sf := k1.out.soft (g := W.heap.size) (vs := fC F) (by simp)
      have hS := Lib.hid (fun w => pSound_cp c fc.out w)
      have hnext := Lib.hid (fun (w : World) (z : Bool) (hz : z = (c.va && sndP c.e c.b c.t c.pm c.ty c.rs)) (k : KR W [⟨W.heap.size, fC F⟩, ⟨W.heap.size + 1, fC zF⟩] w) => (show KR W [⟨W.heap.size, fC (sIt F0 (j + 1))⟩, ⟨W.heap.size + 1, fC zF⟩] (w.setCell ⟨W.heap.size, j * 8 + 7, none⟩ (.bool z)) from by
        have := k.set (Nat.le_refl _) (by simp) (j * 8 + 7) (.bool z) (by rw [fC_len]; omega)
        rw [fC_setva F j c z hget.out] at this
        rw [eN.out, hz] at *
        exact this))
      unfold Cp.V Cp.C cv at hS
      obtain ⟨cu, e, b, t, pm, ty, rs, va⟩ := c
      simp only at *
      cases va
      · go_wp2_with fail
        go_roundw
        case rel => exact ⟨j + 1, sIt F0 (j + 1), by omega, by go_num, Lib.hid ⟨rfl, hnext.out _ false rfl k1.out⟩⟩
        case measure => simp [intOf]; omega
      · go_wp2_with fail
        refine (hS.out wr).mono ?_
        rintro ee w2 ⟨rfl, g⟩
        have k2 := Lib.hid (k1.out.below g)
        clear g c0 c1 c2 c3 c4 c5 c6 c7 sf hS
        obtain ⟨c0, c1, c2, c3, c4, c5, c6, c7⟩ := k2.out.reg (g := W.heap.size) (F := F) (by simp) hget.out
        have sf := k2.out.soft (g := W.heap.size) (vs := fC F) (by simp)
        obtain ⟨z, hz⟩ : ∃ z, z = sndP e b t pm ty rs := ⟨_, rfl⟩
        replace hnext := Lib.hid (hnext.out w2 z (by rw [hz]; rfl) k2.out)
        rw [← hz]
        clear hz
        go_wp2_with fail
        go_roundw
        case rel => exact ⟨j + 1, sIt F0 (j + 1), by omega, by go_num, Lib.hid ⟨rfl, hnext.out⟩⟩
        case measure => simp [intOf]; omega
    · obtain rfl : j = 16 := by omega
      have hget := Lib.hid (reg_get (F := F) (i := 16) (by omega))
      have fc := Lib.hid (fF.out.reg 16)
      have eN := Lib.hid (show sIt F0 17 = F.set 16 (sndC (reg F 16)) from by rw [eF.out]; rfl)
      have fN := Lib.hid (sIt_fit hF.out 17)
      have lN := fN.out.len
      obtain ⟨c, hc⟩ : ∃ c, c = reg F 16 := ⟨_, rfl⟩
      rw [← hc] at hget fc eN
      clear hc
      obtain ⟨c0, c1, c2, c3, c4, c5, c6, c7⟩ := k1.out.reg (g := W.heap.size) (F := F) (by simp) hget.out
      simp only [Nat.reduceMul, Nat.reduceAdd] at c0 c1 c2 c3 c4 c5 c6 c7
      have sf := k1.out.soft (g := W.heap.size) (vs := fC F) (by simp)
      have hS := Lib.hid (fun w => pSound_cp c fc.out w)
      have hnext := Lib.hid (fun (w : World) (z : Bool) (hz : z = (c.va && sndP c.e c.b c.t c.pm c.ty c.rs)) (k : KR W [⟨W.heap.size, fC F⟩, ⟨W.heap.size + 1, fC zF⟩] w) => (show KR W [⟨W.heap.size, fC (sIt F0 17)⟩, ⟨W.heap.size + 1, fC zF⟩] (w.setCell ⟨W.heap.size, 135, none⟩ (.bool z)) from by
        have := k.set (Nat.le_refl _) (by simp) (16 * 8 + 7) (.bool z) (by rw [fC_len]; omega)
        rw [fC_setva F 16 c z hget.out] at this
        rw [eN.out, hz] at *
        exact this))
      unfold Cp.V Cp.C cv at hS
      obtain ⟨cu, e, b, t, pm, ty, rs, va⟩ := c
      obtain ⟨FN, hFN0⟩ : ∃ X, X = sIt F0 17 := ⟨_, rfl⟩
      rw [← hFN0] at fN lN hnext eN
      have hFN := Lib.hid hFN0
      clear hFN0
      simp only at *
      have tail := Lib.hid (fun (w : World) (k : KR W [⟨W.heap.size, fC FN⟩, ⟨W.heap.size + 1, fC zF⟩] w) => (show w.rangeAt W.heap.size 0 (fC FN) ∧ w.there (W.heap.size + 1) 0 (fC FN).toArray.size ∧ KR W [⟨W.heap.size + 1, fC FN⟩] (w.setCells (W.heap.size + 1) 0 (fC FN)) from
        ⟨k.range (by simp), by
          rw [show (fC FN).toArray.size = 136 from by rw [List.size_toArray, fC_len, lN]]
          exact k.there (g := W.heap.size + 1) (vs := fC zF) (by simp) 0 136 (by rw [fC_len]; decide), (k.sub (L' := [⟨W.heap.size + 1, fC zF⟩]) (by simp)).putA (fC FN) (by simp) (by simp) (by rw [fC_len, fC_len, lN]; rfl)⟩))
      have sa := size_fa lN
      have oa := one_fr FN
      cases va
      · replace hnext := Lib.hid (hnext.out wr false rfl k1.out)
        go_upto_region 6 with (fail)
        generalize wr.setCell ⟨W.heap.size, 135, none⟩ (.bool false) = w3 at hnext ⊢
        obtain ⟨rg, th, k4⟩ := tail.out w3 hnext.out
        replace k4 := Lib.hid k4
        clear c0 c1 c2 c3 c4 c5 c6 c7 sf tail k1 hnext
        go_wp2_with ((with_reducible show wpList _ _ _ _ _ _); first | (refine wpList_load_mid rfl 28 _ rfl W.heap.size 0 rfl (fC FN) _ rg Tryz.underlying28 rfl (size_fr lN) ?_) | (refine wpList_store_mid rfl 28 _ _ rfl (W.heap.size + 1) 0 (fC FN).toArray rfl rfl th sa oa ?_; clear th rg sa oa; change wpList _ _ _ _ _ (w3.setCells (W.heap.size + 1) 0 (fC FN)); generalize w3.setCells (W.heap.size + 1) 0 (fC FN) = wf at k4 ⊢))
        exact bodyPost_ret (v := fV FN) (res_one Tryz.results20 rfl (load_fr k4.out (List.mem_cons_self ..) lN)) rfl ⟨by rw [← hFN.out]; rfl, k4.out.bl⟩
      · go_wp2_with fail
        refine (hS.out wr).mono ?_
        rintro ee w2 ⟨rfl, g⟩
        have k2 := Lib.hid (k1.out.below g)
        clear g c0 c1 c2 c3 c4 c5 c6 c7 sf hS
        obtain ⟨c0, c1, c2, c3, c4, c5, c6, c7⟩ := k2.out.reg (g := W.heap.size) (F := F) (by simp) hget.out
        simp only [Nat.reduceMul, Nat.reduceAdd] at c0 c1 c2 c3 c4 c5 c6 c7
        have sf := k2.out.soft (g := W.heap.size) (vs := fC F) (by simp)
        obtain ⟨z, hz⟩ : ∃ z, z = sndP e b t pm ty rs := ⟨_, rfl⟩
        replace hnext := Lib.hid (hnext.out w2 z (by rw [hz]; rfl) k2.out)
        rw [← hz]
        clear hz
        go_upto_region 6 with (fail)
        generalize w2.setCell ⟨W.heap.size, 135, none⟩ (.bool z) = w3 at hnext ⊢
        obtain ⟨rg, th, k4⟩ := tail.out w3 hnext.out
        replace k4 := Lib.hid k4
        clear c0 c1 c2 c3 c4 c5 c6 c7 sf tail k1 hnext
        go_wp2_with ((with_reducible show wpList _ _ _ _ _ _); first | (refine wpList_load_mid rfl 28 _ rfl W.heap.size 0 rfl (fC FN) _ rg Tryz.underlying28 rfl (size_fr lN) ?_) | (refine wpList_store_mid rfl 28 _ _ rfl (W.heap.size + 1) 0 (fC FN).toArray rfl rfl th sa oa ?_; clear th rg sa oa; change wpList _ _ _ _ _ (w3.setCells (W.heap.size + 1) 0 (fC FN)); generalize w3.setCells (W.heap.size + 1) 0 (fC FN) = wf at k4 ⊢))
        exact bodyPost_ret (v := fV FN) (res_one Tryz.results20 rfl (load_fr k4.out (List.mem_cons_self ..) lN)) rfl ⟨by rw [← hFN.out]; rfl, k4.out.bl⟩
end Go.Proofs.YtkmgdfcambdeeaaGreatDoor
