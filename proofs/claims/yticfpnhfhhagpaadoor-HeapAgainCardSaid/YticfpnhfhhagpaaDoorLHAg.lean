/- HeapAgain: what was released is there again. -/
import Derived.Test.YticfpnhfhhagpaaDoorHAll
import Derived.Test.YticfpnhfhhagpaaDoorTie
import Derived.Test.YticfpnhfhhagpaaDoorCards
import Derived.SevenTiedAt
import Derived.ProofKit
import Derived.OpenShut
import Derived.ChangeOld
import Derived.Deep.LoopGhost
import Derived.Deep.RegionHeld
import Derived.Deep.CutBlock
namespace Go.Proofs.YticfpnhfhhagpaaDoor.hagain
set_option maxRecDepth 100000
open Go.ChangeShapes Go.WideShapes Go.ChangeAt Go.RowKit Go.Shelf Go.Maps
set_option linter.unusedVariables false
theorem drop_filter {L : List Rg} (hn : L.Nodup) (k : Nat) (hk : k < L.length) : ((L.drop k).filter fun q => decide (q ≠ L[k])) = L.drop (k + 1) := by
  rw [List.drop_eq_getElem_cons hk]
  have h2 := List.Sublist.nodup (List.drop_sublist k L) hn
  rw [List.drop_eq_getElem_cons hk] at h2
  rw [List.filter_cons_of_neg (by simp), filter_out (List.nodup_cons.1 h2).1]
theorem mem_drop {L : List Rg} (k : Nat) (hk : k < L.length) : L[k] ∈ L.drop k := by
  rw [List.drop_eq_getElem_cons hk]; exact List.mem_cons_self ..
theorem again_mal : ∀ p : Fin 21, 1 ≤ p.val → malO 1 (p.val + 1) [] (256 * p.val) = some (256, 256 * p.val) ∧ malE 1 (p.val + 1) [] (256 * p.val) = 0 := by decide +kernel
theorem again_fre (p q : Nat) : fre 1 (p + 1) [(256, 256 * p)] q = false := by
  cases e : fre 1 (p + 1) [(256, 256 * p)] q
  · rfl
  · obtain ⟨h1, h2, h3⟩ := fre_iff.1 e
    exact absurd (hit_no.1 h3 (256, 256 * p) (by simp)) (by
      show ¬ ¬ (256 < q * 256 + 256 ∧ q * 256 < 256 + 256 * p)
      omega)
theorem again_slF (p : Nat) (hp : 1 ≤ p) (c : Nat) (hc : c < 5) (q t : Nat) : slF [(256, 256 * p)] c q t = false := by
  cases e : slF [(256, 256 * p)] c q t
  · rfl
  · obtain ⟨h1, h2, h3⟩ := slF_iff.1 e
    obtain ⟨r, hr, h4, h5⟩ := ofC_iff.1 h1
    have hr : r = (256, 256 * p) := by simpa using hr
    subst hr
    have h4 : 256 * p = sltN c := h4
    have h5 : 256 / 256 = q := h5
    have hpl := per_le hc
    have ht := (small_div (p := q) hc h2).2.2.2
    exact absurd (hit_no.1 h3 (256, 256 * p) (by simp)) (by
      show ¬ ¬ (256 < q * 256 + t * sltN c + sltN c ∧ q * 256 + t * sltN c < 256 + 256 * p)
      generalize t * sltN c = m at *
      omega)
theorem cnt_none (f : Nat → Bool) (h : ∀ k, f k = false) : ∀ n, cnt f n = 0
  | 0 => rfl
  | n + 1 => by
    have := cnt_none f h n
    simp [cnt, h, this]
theorem again_room (p : Nat) (hp : 1 ≤ p) : roomN (p + 1) (fre 1 (p + 1) [(256, 256 * p)]) (slF [(256, 256 * p)]) 5 = 0 := by
  simp only [roomN]
  rw [cnt_none _ (again_fre p), tot_zero (again_slF p hp 0 (by omega)), tot_zero (again_slF p hp 1 (by omega)), tot_zero (again_slF p hp 2 (by omega)), tot_zero (again_slF p hp 3 (by omega)), tot_zero (again_slF p hp 4 (by omega))]
  simp
set_option maxHeartbeats 8000000 in
theorem walkN (pr : Nat) (hpr : pr < 256) {H : Type} {enc : TypeId × Value → H} (v1 : Value) {d1 : DataW H} {p1 : List MemPlace} (W : World)
    (hv : Value.okWide Tryd.prog W .any 0 22 v1) (hd : DataW.Trod enc Tryd.prog W 0 (fun _ => true) true 22 v1 d1 p1) (hT : TabAt 0 Lib.deBruijn32tab W) :
    Calls Tryd.prog 5 #[.int .u8 pr, v1] W fun e w' => e = .returned (.bool true) ∧ Below W.heap.size W w' := by
  obtain ⟨A, len, cap, rfl, hcap, hm, hP⟩ := nums_of Tryd.underlying22 Tryd.underlying5 (by kernel_rfl) hv hd
  have hlen : len ≤ 9223372036854775807 := by unfold maxLen at hm; omega
  clear hv hd hm
  obtain ⟨p, hp⟩ : ∃ p, p = 1 + pr % 20 := ⟨_, rfl⟩
  obtain ⟨z, hz⟩ : ∃ z, z = 256 * p := ⟨_, rfl⟩
  have e1 : (pr : Int) % 20 = (p : Int) - 1 := by omega
  have e2 : 1 + ((p : Int) - 1) = (p : Int) := by omega
  have e3 : 256 * (p : Int) = z := by omega
  have hp1 : 1 ≤ p ∧ p ≤ 20 := by omega
  have hp2 : (p : Int) ≤ 20 := by omega
  have hzb : z ≤ 5120 := by omega
  have hz1 : z = 256 * p := by omega
  have hMal := Lib.hid (show malO 1 (p + 1) ([] ++ []) z = some (256, z) ∧ malE 1 (p + 1) ([] ++ []) z = 0 from by rw [hz1]; exact again_mal ⟨p, by omega⟩ hp1.1)
  have hRoom := Lib.hid (show roomN (p + 1) (fre 1 (p + 1) ([(256, z)] ++ [])) (slF ([(256, z)] ++ [])) 5 = 0 from by rw [hz1]; exact again_room p hp1.1)
  clear hz1
  have hWk := Lib.hid (works_any14 W hT)
  have hRg := Lib.hid (fun w => (show Calls Tryd.prog 8 #[.int .u32 256, .int .u32 z] w fun e w' => e = .returned (.agg #[.int .u32 256, .int .u32 z]) ∧ Below w.heap.size w w' from region_any 256 z w))
  have hNw := Lib.hid (fun w1 (hb : Below W.heap.size W w1) => (show Calls Tryd.prog 9 #[.agg #[.int .u32 256, .int .u32 z]] w1 fun e w' => ∃ B lo, e = .returned (.tuple #[.pointer (some ⟨B.h, 0, none⟩), .int .i64 0]) ∧ w1.heap.size ≤ lo ∧ Below w1.heap.size w1 w' ∧ HK W B lo w'.heap.size 1 (p + 1) [] [] w' from by
    have := new_hk (tab_grow hT hb) 256 z (by decide) (by omega) (by omega) (by omega)
    rw [show 256 / 256 = 1 from rfl, show (256 + z) / 256 = p + 1 by omega] at this
    exact this.mono fun e w' ⟨B, lo, he, H⟩ => ⟨B, lo, he, H.lo, H.bl, H.h, H.t, hb.trans (H.bl.mono hb.size), H.g, Nat.le_trans hb.size H.lo⟩))
  have hP' := Lib.hid hP
  clear hT hp hz hP
  go_enter Tryd.func5, Tryd.ntmps5
  go_wp2_with fail
  refine hWk.out.mono ?_
  rintro e w1 ⟨rfl, hb⟩
  have hB1 := Lib.hid hb
  clear hb hWk
  go_wp2_with fail
  refine (hRg.out _).mono ?_
  rintro e w2 ⟨rfl, hb⟩
  have hB2 := Lib.hid (hB1.out.trans (hb.mono hB1.out.size))
  clear hb hRg
  go_upto_region 4 with (fail)
  have X0 := Lib.hid (Bx.new w2 (.int .u32 256) (.int .u32 z) 26)
  have B3 := Lib.hid (hB2.out.alloc hB2.out.size (.cells #[.int .u32 256, .int .u32 z] 26))
  generalize w2.alloc (.cells #[.int .u32 256, .int .u32 z] 26) = V2 at X0 B3 ⊢
  generalize w2.heap.size = b at X0 ⊢
  have c0 := X0.out.c0
  have c1 := X0.out.c1
  go_wp2_with fail
  refine (hNw.out _ B3.out).mono ?_
  rintro e w3 ⟨B, lo, rfl, hl, hb, H⟩
  have hbl := Lib.hid (show b < lo from Nat.lt_of_lt_of_le X0.out.lt hl)
  have X := Lib.hid (X0.out.grow hb)
  have HI := Lib.hid H
  generalize w3.heap.size = hi at H HI
  clear H hb hNw X0 B3 c0 c1 e1 e2 e3 hB1 hB2
  go_upto_block 0 with (fail)
  go_cut [8] (fun _ w' => ∃ L R, Hid (HK W B lo hi 1 (p + 1) L R w') ∧ Hid (Bx b (.int .u32 256) (.int .u32 z) w'))
  case first =>
    go_wp2_with fail
    go_loopw [8] (fun i wr => ∃ (k : Nat) (L R : List Rg), i = .int .i64 k ∧ k ≤ 50 ∧ Hid (HK W B lo hi 1 (p + 1) L R wr) ∧ Hid (Bx b (.int .u32 256) (.int .u32 z) wr)) (fun i _ => 50 - (RowKit.intOf i).toNat)
    case atStart => exact ⟨0, [], [], rfl, by omega, HI, X⟩
    case round =>
      obtain ⟨k, L, R, rfl, hk, HJ, XJ⟩ := hrel
      by_cases hlt : 2 * k + 1 < len ∧ k < 50
      · have j1 : 2 * (k : Int) + 1 < (len : Int) := by omega
        have j2 : (k : Int) < 50 := by omega
        obtain ⟨bl, off, rfl, _, x, hx, hwf⟩ := (hP'.out.below HJ.out.bl) (2 * k) (by omega)
        obtain ⟨bl', off', e', _, y, hy, hwf'⟩ := (hP'.out.below HJ.out.bl) (2 * k + 1) hlt.1
        cases e'
        have bx := bounds_u8 hwf
        have bY := bounds_u8 hwf'
        obtain ⟨X0, rfl⟩ := Int.eq_ofNat_of_zero_le bx.1
        obtain ⟨Y0, rfl⟩ := Int.eq_ofNat_of_zero_le bY.1
        have hX0 : X0 < 256 := by omega
        have hY0 : Y0 < 256 := by omega
        obtain ⟨S, hS0⟩ : ∃ S, S = fun w' => Below wr.heap.size wr w' := ⟨_, rfl⟩
        have hK : ∀ w', S w' → Below wr.heap.size wr w' := fun w' h => by rw [hS0] at h; exact h
        have h4 : S wr.drew := by rw [hS0]; exact (Below.refl _ _).drew
        have hl1 := lt_of_cell' hx
        have a0 : ∀ y : Wd S, y.w.cell? ⟨bl, off + 2 * k, none⟩ = some (.int .u8 X0) := fun y => ((hK _ y.h).cell (p := ⟨bl, off + 2 * k, none⟩) hl1).trans hx
        have a1 : ∀ y : Wd S, y.w.cell? ⟨bl, off + (2 * k + 1), none⟩ = some (.int .u8 Y0) := fun y => ((hK _ y.h).cell (p := ⟨bl, off + (2 * k + 1), none⟩) hl1).trans hy
        have s1 : IntKind.i64.wrap (2 * (k : Int)) = 2 * k := by rw [IntKind.wrap_i64]; omega
        have s2 : IntKind.i64.wrap (2 * (k : Int) + 1) = 2 * k + 1 := by rw [IntKind.wrap_i64]; omega
        have t1 : (2 * (k : Int)).toNat = 2 * k := by omega
        have t2 : (2 * (k : Int) + 1).toNat = 2 * k + 1 := by omega
        have u1 : (0 : Int) ≤ 2 * k := by omega
        have u2 : (0 : Int) ≤ 2 * k + 1 := by omega
        have u3 : 2 * (k : Int) < len := by omega
        have hKK := Lib.hid hK
        have hAct := Lib.hid (fun w1 (hb : Below wr.heap.size wr w1) => act_any (HJ.out.grow hb) X0 Y0 hX0 hY0)
        clear hS0 hK bx bY hwf hwf' hx hy hX0 hY0
        go_wp2_with fail
        refine region_cls_tail S 12 (by kernel_rfl) (by kernel_rfl) h4 ?_
        simp only [List.take_succ_cons, List.take_zero, List.drop_succ_cons, List.drop_zero]
        repeat (first
          | go_big_quiet_skip
          | (go_big_quiet_want
             go_big_quiet_op
             first
             | go_big_quiet_on
             | (apply Exists.intro
                refine ⟨fun y => ?_, ?_⟩
                · first | exact rfl
                go_big_quiet_on)))
        refine wpQuiet_nil ?_
        intro y
        have hb := Lib.hid (hKK.out _ y.h)
        obtain ⟨w4', hw4'⟩ : ∃ w4', w4' = y.w := ⟨_, rfl⟩
        rw [← hw4'] at hb ⊢
        clear hw4' a0 a1 h4 hKK s1 s2 t1 t2 u1 u2 u3
        clear y S
        go_wp2_with fail
        refine (hAct.out _ hb.out).mono ?_
        rintro e w5 ⟨rfl, hm, L', R', HJ'⟩
        have XJ' := Lib.hid ((XJ.out.grow hb.out).keep (hm.block b (XJ.out.grow hb.out).lt (.inl hbl.out)))
        replace HJ' := Lib.hid HJ'
        clear hm hAct hb
        go_wp2_with fail
        go_roundw
        · exact ⟨k + 1, L', R', by simp, by omega, HJ', XJ'⟩
        · simp only [RowKit.intOf]
          omega
      · have hc : ¬ 2 * (k : Int) + 1 < (len : Int) ∨ (2 * (k : Int) + 1 < (len : Int) ∧ ¬ (k : Int) < 50) := by omega
        have s1 : IntKind.i64.wrap (2 * (k : Int)) = 2 * k := by rw [IntKind.wrap_i64]; omega
        rcases hc with hc | ⟨hc, hc2⟩
        all_goals
          go_wp2_with fail
          go_meet
          exact ⟨L, R, HJ, XJ⟩
  case rest =>
    obtain ⟨L, R, HJ, XJ⟩ := hcut
    have hLv := Lib.hid (live_hk HJ.out)
    have hHi := Lib.hid HJ.out.his
    have hnd := Lib.hid (List.nodup_append.1 HJ.out.h.good.nodup).1
    have hu := Lib.hid (fun r (hr : r ∈ L ++ R) => HJ.out.h.good.u32 HJ.out.h.le hr)
    have hln := HJ.out.h.len
    go_wp2_with fail
    refine hLv.out.mono ?_
    rintro e wl ⟨v, rfl, hr, hb, HL⟩
    have hrow := Lib.hid ((rgs_of hr))
    have XL := Lib.hid (XJ.out.grow hb)
    replace HL := Lib.hid HL
    clear hr hb hLv HJ XJ
    obtain ⟨Al, capl, rfl, hcells⟩ := hrow.out
    replace hcells := Lib.hid hcells
    obtain ⟨m, hm⟩ : ∃ m, L.length = m := ⟨_, rfl⟩
    have hmb : m ≤ 16384 := by omega
    rw [hm]
    replace hm := Lib.hid hm
    clear hln
    go_wp2_with fail
    go_loopw [10] (fun i wr => ∃ (k : Nat) (R' : List Rg), i = .int .i64 k ∧ k ≤ m ∧ Hid (HK W B lo hi 1 (p + 1) (L.drop k) R' wr) ∧ Hid (Bx b (.int .u32 256) (.int .u32 z) wr) ∧ Hid (∀ j, hi ≤ j → j < wl.heap.size → wr.heap[j]? = wl.heap[j]?)) (fun i _ => m - (RowKit.intOf i).toNat)
    case atStart => exact ⟨0, R, rfl, by omega, HL, XL, Lib.hid (fun _ _ _ => rfl)⟩
    case round =>
      obtain ⟨k, R', rfl, hk, HJ, XJ, hold⟩ := hrel
      by_cases hlt : k < m
      · have hki : (k : Int) < m := by omega
        have hkL : k < L.length := by rw [hm.out]; exact hlt
        obtain ⟨g, rfl, hg1, hg2, k0, k1⟩ := hcells.out k hkL
        have hgo : wr.heap[g]? = wl.heap[g]? := hold.out g (Nat.le_trans hHi.out hg1) hg2
        replace k0 := (World.cell?_of_block (a := ⟨g, k * 2, none⟩) hgo).trans k0
        replace k1 := (World.cell?_of_block (a := ⟨g, k * 2 + 1, none⟩) hgo).trans k1
        have hur := hu.out L[k] (List.mem_append.2 (.inl (List.getElem_mem hkL)))
        have hF := free_hk HJ.out L[k] (by omega)
        rw [if_pos (mem_drop k hkL), drop_filter hnd.out k hkL] at hF
        obtain ⟨c, hc⟩ : ∃ c, c = L[k] := ⟨_, rfl⟩
        rw [← hc] at k0 k1 hF
        dsimp only [rgV] at hF
        replace hF := Lib.hid hF
        clear hgo hur hc hkL hg1 hg2
        have hk0 : (0 : Int) ≤ k := by omega
        go_wp2_with fail
        refine hF.out.mono ?_
        rintro e w5 ⟨rfl, hm5, H5⟩
        have X5 := Lib.hid (XJ.out.keep (hm5.block b XJ.out.lt (.inl hbl.out)))
        have hold5 := Lib.hid (fun j (h1 : hi ≤ j) (h2 : j < wl.heap.size) => (hm5.block j (by
          have h3 := hold.out j h1 h2
          rw [Array.getElem?_eq_getElem h2] at h3
          exact (Array.getElem?_eq_some_iff.1 h3).1) (.inr h1)).trans (hold.out j h1 h2))
        replace H5 := Lib.hid H5
        clear hm5 hF k0 k1
        go_wp2_with fail
        go_roundw
        · exact ⟨k + 1, _, by simp, by omega, H5, X5, hold5⟩
        · simp only [RowKit.intOf]
          omega
      · have hkm : k = m := by omega
        subst hkm
        have hj1 : ¬ (k : Int) < (k : Int) := by omega
        have hdr : L.drop k = [] := by rw [← hm.out]; exact List.drop_length
        rw [hdr] at HJ
        have hRs := Lib.hid (rest_hk HJ.out)
        have hnd2 := Lib.hid (show R'.Nodup from HJ.out.h.good.nodup)
        have hu2 := Lib.hid (fun r (hr : r ∈ R') => HJ.out.h.good.u32 HJ.out.h.le (show r ∈ [] ++ R' from hr))
        have hln2 := HJ.out.h.len
        have hHi2 := Lib.hid HJ.out.his
        clear hcells hold hrow hdr hu hnd HL XL
        go_wp2_with fail
        refine hRs.out.mono ?_
        rintro e wl2 ⟨v, rfl, hr, hb, HL⟩
        have hrow := Lib.hid ((rgs_of hr))
        have XL := Lib.hid (XJ.out.grow hb)
        replace HL := Lib.hid HL
        clear hr hb hRs HJ XJ
        obtain ⟨A2, cap2, rfl, hcells⟩ := hrow.out
        replace hcells := Lib.hid hcells
        obtain ⟨m2, hm2⟩ : ∃ m2, R'.length = m2 := ⟨_, rfl⟩
        have hmb2 : m2 ≤ 16384 := by omega
        rw [hm2]
        replace hm2 := Lib.hid hm2
        clear hln2
        go_wp2_with fail
        go_loopw [12] (fun i wr => ∃ (j : Nat), i = .int .i64 j ∧ j ≤ m2 ∧ Hid (HK W B lo hi 1 (p + 1) [] (R'.drop j) wr) ∧ Hid (Bx b (.int .u32 256) (.int .u32 z) wr) ∧ Hid (∀ j, hi ≤ j → j < wl2.heap.size → wr.heap[j]? = wl2.heap[j]?)) (fun i _ => m2 - (RowKit.intOf i).toNat)
        case atStart => exact ⟨0, rfl, by omega, HL, XL, Lib.hid (fun _ _ _ => rfl)⟩
        case round =>
          obtain ⟨j, rfl, hj, HJ, XJ, hold⟩ := hrel
          by_cases hlt2 : j < m2
          · have hki : (j : Int) < m2 := by omega
            have hkL : j < R'.length := by rw [hm2.out]; exact hlt2
            obtain ⟨g, rfl, hg1, hg2, k0, k1⟩ := hcells.out j hkL
            have hgo : wr.heap[g]? = wl2.heap[g]? := hold.out g (Nat.le_trans hHi2.out hg1) hg2
            replace k0 := (World.cell?_of_block (a := ⟨g, j * 2, none⟩) hgo).trans k0
            replace k1 := (World.cell?_of_block (a := ⟨g, j * 2 + 1, none⟩) hgo).trans k1
            have hur := hu2.out R'[j] (List.getElem_mem hkL)
            have hF := rel_hk HJ.out R'[j] (by omega)
            rw [if_pos (mem_drop j hkL), drop_filter hnd2.out j hkL] at hF
            obtain ⟨c, hc⟩ : ∃ c, c = R'[j] := ⟨_, rfl⟩
            rw [← hc] at k0 k1 hF
            dsimp only [rgV] at hF
            replace hF := Lib.hid hF
            clear hgo hur hc hkL hg1 hg2
            have hk0 : (0 : Int) ≤ j := by omega
            go_wp2_with fail
            refine hF.out.mono ?_
            rintro e w5 ⟨rfl, hm5, H5⟩
            have X5 := Lib.hid (XJ.out.keep (hm5.block b XJ.out.lt (.inl hbl.out)))
            have hold5 := Lib.hid (fun j (h1 : hi ≤ j) (h2 : j < wl2.heap.size) => (hm5.block j (by
              have h3 := hold.out j h1 h2
              rw [Array.getElem?_eq_getElem h2] at h3
              exact (Array.getElem?_eq_some_iff.1 h3).1) (.inr h1)).trans (hold.out j h1 h2))
            replace H5 := Lib.hid H5
            clear hm5 hF k0 k1
            go_wp2_with fail
            go_roundw
            · exact ⟨j + 1, by simp, by omega, H5, X5, hold5⟩
            · simp only [RowKit.intOf]
              omega
          · have hjm : j = m2 := by omega
            subst hjm
            have hdr : R'.drop j = [] := by rw [← hm2.out]; exact List.drop_length
            rw [hdr] at HJ
            have hM := Lib.hid (mal_yes HJ.out z (by omega) hMal.out (show insR (256, z) [] = [(256, z)] from rfl))
            have hq := Lib.hid HJ.out.his
            have c1 := XJ.out.c1
            have hjj : ¬ (j : Int) < (j : Int) := by omega
            clear hdr hcells hold hrow HL XL hu2 hnd2 hMal
            go_wp2_with fail
            refine hM.out.mono ?_
            rintro e w6 ⟨rfl, hm6, H6⟩
            have al : Below w6.heap.size w6 (w6.alloc (.cells #[.int .u32 256, .int .u32 z] 26)) := (Below.refl _ _).alloc (Nat.le_refl _) _
            have X6 := Lib.hid (((XJ.out.keep (hm6.block b XJ.out.lt (.inl hbl.out)))).grow al)
            have H7 := Lib.hid (H6.grow al)
            have Y7 := Lib.hid (Bx.new w6 (.int .u32 256) (.int .u32 z) 26)
            clear hm6 H6 al c1 hM
            dsimp only [rgV]
            go_upto_region 22 with (fail)
            generalize w6.alloc (.cells #[.int .u32 256, .int .u32 z] 26) = V7 at X6 H7 Y7 ⊢
            generalize w6.heap.size = b7 at Y7 ⊢
            go_wp2_with fail
            refine (live_hk H7.out).mono ?_
            rintro e V8 ⟨v, rfl, hr, hb, hx⟩
            obtain ⟨A8, cap8, rfl, _⟩ := rgs_of hr
            have X8 := Lib.hid (X6.out.grow hb)
            have Y8 := Lib.hid (Y7.out.grow hb)
            have H8 := Lib.hid hx
            clear hr hb hx
            go_wp2_with fail
            refine (rest_hk H8.out).mono ?_
            rintro e V9 ⟨v, rfl, hr, hb, hx⟩
            obtain ⟨A9, cap9, rfl, _⟩ := rgs_of hr
            have X9 := Lib.hid (X8.out.grow hb)
            have Y9 := Lib.hid (Y8.out.grow hb)
            have H9 := Lib.hid hx
            clear hr hb hx
            have x0 := X9.out.c0
            have x1 := X9.out.c1
            have y0 := Y9.out.c0
            have y1 := Y9.out.c1
            have hE : ∀ w, (Op.equalIn 10000 26 (.agg #[.int .u32 256, .int .u32 z]) (.agg #[.int .u32 256, .int .u32 z])).run Tryd.prog w = .ok true w := fun w => rg_eq (256, z) (256, z) true (by simp) w
            go_wp2_with fail
            refine (room_hk H9.out).mono ?_
            rintro e V10 ⟨rfl, hx⟩
            have H10 := Lib.hid hx
            clear hx
            rw [hRoom.out]
            go_wp2_with fail
            go_ret
            exact ⟨rfl, H10.out.bl⟩
theorem walk (pr : Int) (wpr : (Lit.int .u8 pr).wf = true) {H : Type} {enc : TypeId × Value → H} (v1 : Value) {d1 : DataW H} {p1 : List MemPlace} (W : World)
    (hv : Value.okWide Tryd.prog W .any 0 22 v1) (hd : DataW.Trod enc Tryd.prog W 0 (fun _ => true) true 22 v1 d1 p1) (hT : TabAt 0 Lib.deBruijn32tab W) :
    Calls Tryd.prog 5 #[.int .u8 pr, v1] W fun e w' => e = .returned (.bool true) ∧ Below W.heap.size W w' := by
  have b1 := bounds_u8 wpr
  obtain ⟨pr, rfl⟩ := Int.eq_ofNat_of_zero_le b1.1
  exact walkN pr (by omega) v1 W hv hd hT
set_option maxRecDepth 100000 in
theorem lifted (os : Os) (started : os.Started) (H : Type) (enc : TypeId × Value → H) :
    ReturnsInHanded {} Tryd.checked os 5 .any (fun w args => (Rows.heapAgainSpec.pre enc Tryd.prog Tryd.f5 [] false w args ∧ laidMetH Tryd.prog Rows.heapAgainRow.laid w) ∧ sizedMet enc Tryd.prog Tryd.f5 (OpenSpec.ofChange Rows.heapAgainSpec) false w args) (Rows.heapAgainSpec.post enc Tryd.prog Tryd.f5 false true false false) := by
  refine returnsInHanded_of_change_and (C := Tryd.checked) (X := fun w _ => laidMetH Tryd.prog Rows.heapAgainRow.laid w) (fun _ _ _ hh h => h.of_heap hh) own started (by kernel_rfl) Tryd.func5
    (ChangeSpec.witness_at (enc := enc) (C := Tryd.checked) (os := os) (X := fun w _ => laidMetH Tryd.prog Rows.heapAgainRow.laid w) false (laidWorld os) #[.int .u8 0, .slice none 0 0] 8 rfl (by kernel_rfl) (by kernel_rfl) (by kernel_rfl) (by kernel_rfl) (by kernel_rfl) (laid_met os _)) ?_
  intro W base args ds gs before hval0 hW _ _ hL _
  have hval : ∀ (j : Nat) t v, Tryd.f5.params[j]? = some t → args[j]? = some v → Value.okWide Tryd.prog W .any base t v := hval0
  have hW' := hW
  obtain ⟨p, q, hA0, hV, rfl, hfz, hnd⟩ := hW
  have hA : DataW.TrodAll enc Tryd.prog W 0 (fun _ => true) true Tryd.f5.params.toList args.toList ds p := hA0
  rw [Tryd.params5] at hA hval
  obtain ⟨v0, vs0, d0, ds0, p0, q0, hargs, rfl, rfl, h0, r0⟩ := trodAll_cons hA
  obtain ⟨v1, vs1, d1, ds1, p1, q1, rfl, rfl, rfl, h1, r1⟩ := trodAll_cons r0
  obtain ⟨rfl, rfl, rfl⟩ := trodAll_nil r1
  obtain rfl : args = #[v0, v1] := by cases args; simp_all
  obtain ⟨rfl, rfl⟩ := trodVars_none hV
  have k0 := h0
  have lt0 : ∀ x ∈ p0, x.block < W.heap.size := by obtain ⟨m, hm⟩ := k0; exact DataW.trod_lt m _ _ _ hm
  have k1 := h1
  have lt1 : ∀ x ∈ p1, x.block < W.heap.size := by obtain ⟨m, hm⟩ := k1; exact DataW.trod_lt m _ _ _ hm
  obtain ⟨pages, rfl, rfl, rfl, wpages⟩ := open_int Tryd.underlying5 (hval 0 5 v0 rfl rfl) h0
  clear hA0 hval0
  refine (walk pages wpages v1 W (hval 1 22 v1 rfl rfl) k1 (tabs_of_laid hL)).mono fun e W' ⟨he, bel⟩ => ?_
  subst he
  exact ⟨_, rfl, _, _, _, [], _, [], hW', trodAll_mk1 (shut_bool Tryd.underlying4 _), (trodAll_cons_mk (Below.trod laidOut (by kernel_rfl) (of_decide_eq_true (by kernel_rfl)) k0 bel lt0) (trodAll_cons_mk (Below.trod laidOut (by kernel_rfl) (of_decide_eq_true (by kernel_rfl)) k1 bel lt1) trodAll_mk0)), rfl, bel.frame _, fun h => by cases h⟩
theorem over : Rows.HeapAgainSaid :=
  OpenClaim.holds_of_wide 5 Tryd.f5 rfl rfl rfl rfl rfl rfl rfl ⟨rfl, rfl, rfl, rfl, rfl⟩ rfl rfl rfl rfl rfl (by kernel_rfl) Tryd.func5 (by kernel_rfl)
    (of_decide_eq_true (by kernel_rfl)) (by unfold Func.isWrapper; first | (rw [if_pos (by decide +kernel)]; kernel_rfl) | (rw [if_neg (by decide +kernel)]; exact ⟨rfl, rfl⟩))
    (fun os started H enc _ => lifted os started H enc)
/-- The given statement. -/
theorem proved : Rows.HeapAgainCardSaid :=
  Claim7.holds_tied_plain_at .later [] [.data] true (true, "c7df4fa58af645e7010f817469018e4855912b3de514d8c640a49e23bb05f2a6") true
    over (fun _ h => by cases h) (by kernel_rfl) (fun _ h => by cases h) heapAgain_row_tie rfl ⟨rfl, rfl⟩ (by kernel_rfl) rfl
    (fun f fn hf hfn => by
      obtain rfl : f = 5 := Option.some.inj ((show Tryd.prog.funcNamed "fallow/fallowlaw14.HeapAgain" = some 5 by kernel_rfl).symm.trans hf) |>.symm
      obtain rfl : fn = Tryd.f5 := (Option.some.inj (Tryd.func5.symm.trans hfn)).symm
      exact ⟨by kernel_rfl, fun j t ht => by
        rw [Tryd.params5] at ht
        rcases j with _ | _ | j
        · obtain rfl : t = 5 := by simpa using ht.symm
          exact (show Tryd.prog.wantsStandIn 5 = false by kernel_rfl)
        · obtain rfl : t = 22 := by simpa using ht.symm
          exact (show Tryd.prog.wantsStandIn 22 = false by kernel_rfl)
        · simp at ht⟩)
    (by kernel_rfl)
end Go.Proofs.YticfpnhfhhagpaaDoor.hagain
