/- HeapNoLie: that there is no memory is answered just if there is none. -/
import Derived.Test.YticfpnhfhhagpaaDoorHpU
import Derived.Test.YticfpnhfhhagpaaDoorTie
import Derived.Test.YticfpnhfhhagpaaDoorCards
import Derived.SevenTiedAt
import Derived.ProofKit
import Derived.OpenShut
import Derived.ChangeOld
import Derived.Deep.LoopGhost
import Derived.Deep.RegionHeld
import Derived.Deep.CutBlock
namespace Go.Proofs.YticfpnhfhhagpaaDoor.hnolie
set_option maxRecDepth 100000
open Go.ChangeShapes Go.WideShapes Go.ChangeAt Go.RowKit Go.Shelf Go.Maps
set_option linter.unusedVariables false
set_option maxHeartbeats 16000000 in
theorem walkN (pr sz : Nat) (hpr : pr < 256) (hsz : sz < 65536) {H : Type} {enc : TypeId × Value → H} (v1 : Value) {d1 : DataW H} {p1 : List MemPlace} (W : World)
    (hv : Value.okWide Tryd.prog W .any 0 22 v1) (hd : DataW.Trod enc Tryd.prog W 0 (fun _ => true) true 22 v1 d1 p1) (hT : TabAt 0 Lib.deBruijn32tab W) :
    Calls Tryd.prog 4 #[.int .u8 pr, v1, .int .u16 sz] W fun e w' => e = .returned (.bool true) ∧ Below W.heap.size W w' := by
  obtain ⟨A, len, cap, rfl, hcap, hm, hP⟩ := nums_of Tryd.underlying22 Tryd.underlying5 (by kernel_rfl) hv hd
  have hlen : len ≤ 9223372036854775807 := by unfold maxLen at hm; omega
  clear hv hd hm
  obtain ⟨n, hn⟩ : ∃ n, n = 1 + pr % 12 := ⟨_, rfl⟩
  obtain ⟨z, hz⟩ : ∃ z, z = 256 * n := ⟨_, rfl⟩
  have e1 : 1 + (pr : Int) % 12 = (n : Int) := by omega
  have e3 : 256 * (n : Int) = z := by omega
  have hn1 : 1 ≤ n ∧ n ≤ 12 := by omega
  have hn2 : (n : Int) ≤ 12 := by omega
  have hn3 : (1 : Int) ≤ n := by omega
  have hzb : z ≤ 3072 := by omega
  have hz1 := Lib.hid (show z = 256 * n by omega)
  have hWk := Lib.hid (works_any14 W hT)
  have hRg := Lib.hid (fun w => (show Calls Tryd.prog 8 #[.int .u32 0, .int .u32 z] w fun e w' => e = .returned (.agg #[.int .u32 0, .int .u32 z]) ∧ Below w.heap.size w w' from region_any 0 z w))
  have hNw := Lib.hid (fun w1 (hb : Below W.heap.size W w1) => (show Calls Tryd.prog 9 #[.agg #[.int .u32 0, .int .u32 z]] w1 fun e w' => ∃ B lo, e = .returned (.tuple #[.pointer (some ⟨B.h, 0, none⟩), .int .i64 0]) ∧ w1.heap.size ≤ lo ∧ Below w1.heap.size w1 w' ∧ HK W B lo w'.heap.size 0 n [] [] w' from by
    have := new_hk (tab_grow hT hb) 0 z (by decide) (by omega) (by omega) (by omega)
    rw [show 0 / 256 = 0 from rfl, show (0 + z) / 256 = n by omega] at this
    exact this.mono fun e w' ⟨B, lo, he, H⟩ => ⟨B, lo, he, H.lo, H.bl, H.h, H.t, hb.trans (H.bl.mono hb.size), H.g, Nat.le_trans hb.size H.lo⟩))
  have hP' := Lib.hid hP
  clear hT hn hz hP
  go_enter Tryd.func4, Tryd.ntmps4
  go_wp2_with fail
  refine hWk.out.mono ?_
  rintro e w1 ⟨rfl, hb⟩
  have hB1 := Lib.hid hb
  clear hb hWk
  go_wp2_with fail
  refine (hRg.out _).mono ?_
  rintro e w2 ⟨rfl, hb⟩
  have hB2 := Lib.hid (hB1.out.trans (hb.mono hB1.out.size))
  clear hb hRg
  go_wp2_with fail
  refine (hNw.out _ hB2.out).mono ?_
  rintro e w3 ⟨B, lo, rfl, hl, hb, H⟩
  have HI := Lib.hid H
  generalize w3.heap.size = hi at H HI
  clear H hb hl hNw hB1 hB2
  go_upto_block 0 with (fail)
  go_cut [10] (fun _ w' => ∃ L R, Hid (HK W B lo hi 0 n L R w'))
  case first =>
    go_wp2_with fail
    go_loopw [10] (fun i wr => ∃ (k : Nat) (L R : List Rg), i = .int .i64 k ∧ k ≤ 50 ∧ Hid (HK W B lo hi 0 n L R wr)) (fun i _ => 50 - (RowKit.intOf i).toNat)
    case atStart => exact ⟨0, [], [], rfl, by omega, HI⟩
    case round =>
      obtain ⟨k, L, R, rfl, hk, HJ⟩ := hrel
      by_cases hlt : 2 * k + 1 < len ∧ k < 50
      · have j1 : 2 * (k : Int) + 1 < (len : Int) := by omega
        have j2 : (k : Int) < 50 := by omega
        obtain ⟨bl, off, rfl, _, x, hx, hwf⟩ := (hP'.out.below HJ.out.bl) (2 * k) (by omega)
        obtain ⟨bl', off', e', _, y, hy, hwf'⟩ := (hP'.out.below HJ.out.bl) (2 * k + 1) hlt.1
        cases e'
        have bx := bounds_u8 hwf
        have bY := bounds_u8 hwf'
        obtain ⟨X0, rfl⟩ := Int.eq_ofNat_of_zero_le bx.1
        obtain ⟨Y0, rfl⟩ := Int.eq_ofNat_of_zero_le bY.1
        have hX0 : X0 < 256 := by omega
        have hY0 : Y0 < 256 := by omega
        obtain ⟨S, hS0⟩ : ∃ S, S = fun w' => Below wr.heap.size wr w' := ⟨_, rfl⟩
        have hK : ∀ w', S w' → Below wr.heap.size wr w' := fun w' h => by rw [hS0] at h; exact h
        have h4 : S wr.drew := by rw [hS0]; exact (Below.refl _ _).drew
        have hl1 := lt_of_cell' hx
        have a0 : ∀ y : Wd S, y.w.cell? ⟨bl, off + 2 * k, none⟩ = some (.int .u8 X0) := fun y => ((hK _ y.h).cell (p := ⟨bl, off + 2 * k, none⟩) hl1).trans hx
        have a1 : ∀ y : Wd S, y.w.cell? ⟨bl, off + (2 * k + 1), none⟩ = some (.int .u8 Y0) := fun y => ((hK _ y.h).cell (p := ⟨bl, off + (2 * k + 1), none⟩) hl1).trans hy
        have s1 : IntKind.i64.wrap (2 * (k : Int)) = 2 * k := by rw [IntKind.wrap_i64]; omega
        have s2 : IntKind.i64.wrap (2 * (k : Int) + 1) = 2 * k + 1 := by rw [IntKind.wrap_i64]; omega
        have t1 : (2 * (k : Int)).toNat = 2 * k := by omega
        have t2 : (2 * (k : Int) + 1).toNat = 2 * k + 1 := by omega
        have u1 : (0 : Int) ≤ 2 * k := by omega
        have u2 : (0 : Int) ≤ 2 * k + 1 := by omega
        have u3 : 2 * (k : Int) < len := by omega
        have hKK := Lib.hid hK
        have hAct := Lib.hid (fun w1 (hb : Below wr.heap.size wr w1) => act_any (HJ.out.grow hb) X0 Y0 hX0 hY0)
        clear hS0 hK bx bY hwf hwf' hx hy hX0 hY0
        go_wp2_with fail
        refine region_cls_tail S 12 (by kernel_rfl) (by kernel_rfl) h4 ?_
        simp only [List.take_succ_cons, List.take_zero, List.drop_succ_cons, List.drop_zero]
        repeat (first
          | go_big_quiet_skip
          | (go_big_quiet_want
             go_big_quiet_op
             first
             | go_big_quiet_on
             | (apply Exists.intro
                refine ⟨fun y => ?_, ?_⟩
                · first | exact rfl
                go_big_quiet_on)))
        refine wpQuiet_nil ?_
        intro y
        have hb := Lib.hid (hKK.out _ y.h)
        obtain ⟨w4', hw4'⟩ : ∃ w4', w4' = y.w := ⟨_, rfl⟩
        rw [← hw4'] at hb ⊢
        clear hw4' a0 a1 h4 hKK s1 s2 t1 t2 u1 u2 u3
        clear y S
        go_wp2_with fail
        refine (hAct.out _ hb.out).mono ?_
        rintro e w5 ⟨rfl, hm, L', R', HJ'⟩
        replace HJ' := Lib.hid HJ'
        clear hm hAct hb
        go_wp2_with fail
        go_roundw
        · exact ⟨k + 1, L', R', by simp, by omega, HJ'⟩
        · simp only [RowKit.intOf]
          omega
      · have hc : ¬ 2 * (k : Int) + 1 < (len : Int) ∨ (2 * (k : Int) + 1 < (len : Int) ∧ ¬ (k : Int) < 50) := by omega
        have s1 : IntKind.i64.wrap (2 * (k : Int)) = 2 * k := by rw [IntKind.wrap_i64]; omega
        rcases hc with hc | ⟨hc, hc2⟩
        all_goals
          go_wp2_with fail
          go_meet
          exact ⟨L, R, HJ⟩
  case rest =>
    obtain ⟨L, R, HJ⟩ := hcut
    have hLv := Lib.hid (live_hk HJ.out)
    have hHi := Lib.hid HJ.out.his
    have hln := HJ.out.h.len
    go_wp2_with fail
    refine hLv.out.mono ?_
    rintro e wl ⟨v, rfl, hr, hb, HL⟩
    have hOwn := Lib.hid (hr.mono (Nat.le_trans hHi.out (Nat.le_refl _)))
    replace HL := Lib.hid HL
    clear hr hb hLv HJ
    go_wp2_with fail
    refine (rest_hk HL.out).mono ?_
    rintro e wr ⟨v2, rfl, hr, hb, HR⟩
    have hOwn1 := Lib.hid (own_grow hOwn.out hb)
    have hOwn2 := Lib.hid hr
    replace HR := Lib.hid HR
    clear hr hb HL hOwn
    go_wp2_with (at_builtin; refine append_both (L := L) (R := R) rfl _ _ rfl rfl hOwn1.out rfl hOwn2.out (by omega) (Nat.le_trans HR.out.his (Nat.le_refl _)) ?_; intro v3 w5 hO hBl; have HK5 := Lib.hid (HR.out.low hBl); have hRow := Lib.hid (rgs_of hO); clear hO hBl)
    obtain ⟨X, hX⟩ : ∃ X, X = L ++ R := ⟨_, rfl⟩
    rw [← hX] at hRow
    have hX' := Lib.hid hX
    have hGd := Lib.hid (show Good 0 n X by rw [hX]; exact HK5.out.h.good)
    have hXl : X.length ≤ 16384 := by rw [hX, List.length_append]; exact hln
    clear hX hOwn1 hOwn2 hHi HR hln
    obtain ⟨P, hPd⟩ : ∃ P, P = padP sz z := ⟨_, rfl⟩
    obtain ⟨A', hAd⟩ : ∃ A', A' = padA sz z := ⟨_, rfl⟩
    obtain ⟨E, hE⟩ : ∃ E, E = padE sz z := ⟨_, rfl⟩
    have hPad := Lib.hid (fun w => (show Calls Tryd.prog 18 #[.int .u32 sz, .int .u32 z] w fun e w' => e = .returned (.tuple #[.int .u32 (P : Int), .int .u32 (A' : Int), .int .i64 E]) ∧ Below w.heap.size w w' from by
      rw [hPd, hAd, hE]; exact pPadded_any sz z w (by omega) (by omega)))
    have hMl := Lib.hid (fun w1 (hb : Below w5.heap.size w5 w1) => (show Calls Tryd.prog 15 #[.pointer (some ⟨B.h, 0, none⟩), .int .u32 sz] w1 fun e w' =>
      e = .returned (.tuple #[rgV ((malO 0 n X sz).getD (0, 0)), .int .i64 (malE 0 n X sz)]) ∧ Mid lo hi w1 w' ∧ Below W.heap.size W w' from by
      rw [hX'.out]; exact (mal_hk (HK5.out.grow hb) sz (by omega)).mono fun e w' k => ⟨k.1, k.2.1, k.2.2.bl⟩))
    obtain ⟨O, hO⟩ : ∃ O, O = (malO 0 n X sz).getD (0, 0) := ⟨_, rfl⟩
    obtain ⟨F, hF⟩ : ∃ F, F = malE 0 n X sz := ⟨_, rfl⟩
    rw [← hO, ← hF] at hMl
    have hPd' := Lib.hid hPd
    have hE' := Lib.hid hE
    have hF' := Lib.hid hF
    dsimp only [rgV] at hMl
    clear hPd hAd hE hF hO
    go_wp2_with fail
    refine (hPad.out _).mono ?_
    rintro e w6 ⟨rfl, hb⟩
    have hB6 := Lib.hid hb
    clear hb hPad
    go_wp2_with fail
    refine (hMl.out _ hB6.out).mono ?_
    rintro e w7 ⟨rfl, hm7, hb7⟩
    have hM7 := Lib.hid hm7
    have hB7 := Lib.hid hb7
    clear hm7 hb7 hMl
    go_upto_region 13 with (fail)
    have hb78 : Below w7.heap.size w7 (w7.alloc (.cells #[.int .u32 (O.1 : Int), .int .u32 (O.2 : Int)] 26)) := (Below.refl _ _).alloc (Nat.le_refl _) _
    have hB8 := Lib.hid (hB7.out.trans (hb78.mono hB7.out.size))
    have hR8 := Lib.hid (hRow.out.keep (n := 0) (w' := w7.alloc (.cells #[.int .u32 (O.1 : Int), .int .u32 (O.2 : Int)] 26)) (fun g h1 h2 =>
      ((hb78.block g (Nat.lt_of_lt_of_le (Nat.lt_of_lt_of_le h2 hB6.out.size) hM7.out.size)).trans (hM7.out.block g (Nat.lt_of_lt_of_le h2 hB6.out.size) (.inr h1))).trans (hB6.out.block g h2))
      (Nat.le_trans hB6.out.size (Nat.le_trans hM7.out.size hb78.size)))
    generalize w7.alloc (.cells #[.int .u32 (O.1 : Int), .int .u32 (O.2 : Int)] 26) = w8 at hB8 hR8 ⊢
    have hz256 : (n - 0) * 256 = z := by rw [hz1.out]; omega
    clear hb78 hM7 hB7 hB6 HK5 hRow hX'
    cases hok : szO sz z
    · have hEv : E = 6 := by rw [hE'.out]; unfold padE; rw [hok]; rfl
      have hFv : F = 6 := by rw [hF'.out]; unfold malE; rw [hz256, hok]; rfl
      subst hEv
      subst hFv
      clear hok hz256 hR8 hGd
      go_wp2_with fail
      go_ret
      exact ⟨rfl, hB8.out⟩
    · have hEv : E = 0 := by rw [hE'.out]; unfold padE; rw [hok]; rfl
      have hPv : P = szP sz := by rw [hPd'.out]; unfold padP; rw [hok]; rfl
      obtain ⟨hPad, hPz⟩ := pad_heap (s := sz) (sz := z) hok (by omega)
      rw [← hPv] at hPad hPz
      have hRend := Lib.hid (Rm_end hGd.out (by omega) hPad)
      have hFv := Lib.hid (show F = if Rm X P n then 0 else 7 by rw [hF'.out, hRend.out]; unfold malE; rw [hz256, hok, ← hPv]; rfl)
      have hP1 : 1 ≤ P := by
        rcases hPad with ⟨h1, _⟩ | ⟨h1, _⟩
        · exact (of_decide_eq_true h1).1
        · omega
      have hPb : P ≤ 3072 := by omega
      have hP0 : (P : Int) ≠ 0 := by omega
      subst hEv
      have hPg := Lib.hid (fun w => pPages_any P w (by omega))
      clear hok hz256 hPv hPad hPz hRend
      replace hP1 := Lib.hid hP1
      obtain ⟨Ar, capr, rfl, hcells⟩ := hR8.out
      replace hcells := Lib.hid hcells
      obtain ⟨m, hm⟩ : ∃ m, X.length = m := ⟨_, rfl⟩
      rw [hm] at hXl ⊢
      replace hm := Lib.hid hm
      clear hR8
      go_wp2_with fail
      go_loopw [17, 18, 19] (fun rv nv pv wr => ∃ p : Nat, p ≤ n ∧ rv = .bool (Rm X P p) ∧ nv = .int .i64 (rnN X p : Nat) ∧ pv = .int .i64 p ∧ Hid (Below w8.heap.size w8 wr)) (fun _ _ pv _ => n - (RowKit.intOf pv).toNat)
      case atStart => exact ⟨0, by omega, by unfold Rm; simp [rmS, rmL], rfl, rfl, Lib.hid (Below.refl _ _)⟩
      case round =>
        obtain ⟨p, hp, rfl, rfl, rfl, hBw⟩ := hrel
        have hrn := rnN_le X p
        by_cases hlt : p < n
        · have hlt2 : (p : Int) < n := by omega
          obtain ⟨a, ha⟩ : ∃ a, a = 256 * p := ⟨_, rfl⟩
          have ea : 256 * (p : Int) = a := by omega
          have hab : a ≤ 3072 := by omega
          have hRgn := Lib.hid (region_any a 256 wr)
          replace ha := Lib.hid ha
          dsimp only [rgV] at hRgn
          go_wp2_with fail
          refine hRgn.out.mono ?_
          rintro e w9 ⟨rfl, hb⟩
          have hB9 := Lib.hid (hBw.out.trans (hb.mono hBw.out.size))
          clear hb hRgn hBw
          go_upto_region 21 with (fail)
          have X0 := Lib.hid (Bx.new w9 (.int .u32 (a : Int)) (.int .u32 256) 26)
          have hB10 := Lib.hid (hB9.out.alloc hB9.out.size (.cells #[.int .u32 (a : Int), .int .u32 256] 26))
          generalize w9.alloc (.cells #[.int .u32 (a : Int), .int .u32 256] 26) = w10 at X0 hB10 ⊢
          obtain ⟨q, hq⟩ : ∃ q, q = w9.heap.size := ⟨_, rfl⟩
          rw [← hq] at X0 ⊢
          clear hq hB9
          go_wp2_with fail
          go_loopw [21, 22, 23] (fun tv ov iv wr => ∃ i : Nat, i ≤ m ∧ tv = .int .i64 ((X.take i).countP (hitF p) : Nat) ∧ ov = .int .i64 ((X.take i).countP (ownF p P) : Nat) ∧ iv = .int .i64 i ∧ Hid (Below w8.heap.size w8 wr ∧ Bx q (.int .u32 (a : Int)) (.int .u32 256) wr)) (fun _ _ iv _ => m - (RowKit.intOf iv).toNat)
          case atStart => exact ⟨0, by omega, rfl, rfl, rfl, Lib.hid ⟨hB10.out, X0.out⟩⟩
          case round =>
            clear X0 hB10
            obtain ⟨i, hi, rfl, rfl, rfl, hS⟩ := hrel
            by_cases hil : i < m
            · have hil2 : (i : Int) < m := by omega
              have hiX : i < X.length := by rw [hm.out]; exact hil
              obtain ⟨g, rfl, _, hg, k0, k1⟩ := hcells.out i hiX
              have hs1 := Lib.hid (cP_succ (hitF p) X i hiX)
              have hs2 := Lib.hid (cP_succ (ownF p P) X i hiX)
              have hc1 := cP_le (hitF p) X i
              have hc2 := cP_le (ownF p P) X i
              rw [hm.out] at hc1 hc2
              obtain ⟨t, ht⟩ : ∃ t, t = (X.take i).countP (hitF p) := ⟨_, rfl⟩
              obtain ⟨o, ho⟩ : ∃ o, o = (X.take i).countP (ownF p P) := ⟨_, rfl⟩
              rw [← ht] at hs1 hc1 ⊢
              rw [← ho] at hs2 hc2 ⊢
              have hu := hGd.out.u32 (by omega) (List.getElem_mem hiX)
              have hps := hGd.out.pos (List.getElem_mem hiX)
              have hcom := Lib.hid (com_ovl (r := X[i]) (a := a) (n := 256) (by omega) (by decide))
              obtain ⟨c, hc⟩ : ∃ c, c = X[i] := ⟨_, rfl⟩
              rw [← hc] at k0 k1 hu hps hcom hs1 hs2
              obtain ⟨c1, c2⟩ := c
              dsimp only at k0 k1 hu hps
              obtain ⟨v, hv⟩ : ∃ v, v = hitF p (c1, c2) := ⟨_, rfl⟩
              have hov : ownF p P (c1, c2) = (v && (decide (c2 = P) && decide (P ≤ 256))) := by rw [hv]; rfl
              have hcv : comB (c1, c2) a 256 = v := by rw [hcom.out, hv, ha.out]; unfold hitF; rw [Nat.mul_comm 256 p]
              rw [← hv] at hs1
              rw [hov] at hs2
              obtain ⟨S, hS0⟩ : ∃ S, S = fun w' => Below wr.heap.size wr w' := ⟨_, rfl⟩
              have hK : ∀ w', S w' → Below wr.heap.size wr w' := fun w' h => by rw [hS0] at h; exact h
              have h4 : S wr.drew := by rw [hS0]; exact (Below.refl _ _).drew
              have hBX : ∀ w', S w' → Below w8.heap.size w8 w' ∧ Bx q (.int .u32 (a : Int)) (.int .u32 256) w' := fun w' h => ⟨hS.out.1.trans ((hK _ h).mono hS.out.1.size), hS.out.2.grow (hK _ h)⟩
              have cC := Lib.hid (show ∀ y : Wd S, Calls Tryd.prog 14 #[.agg #[.int .u32 (c1 : Int), .int .u32 (c2 : Int)], .agg #[.int .u32 (a : Int), .int .u32 256]] y.w fun e w' => e = .returned (.bool v) ∧ ∃ y' : Wd S, w' = y'.w from
                cls_call (fun w' hw => (common_any c1 c2 a 256 (by omega) (by omega) w').mono fun e w2 k => ⟨by rw [k.1, hcv], by rw [hS0]; exact (hK _ hw).trans (k.2.mono (hK _ hw).size)⟩))
              have a0 : ∀ y : Wd S, y.w.cell? ⟨g, i * 2, none⟩ = some (.int .u32 (c1 : Int)) := fun y => ((hBX _ y.h).1.cell (p := ⟨g, i * 2, none⟩) hg).trans k0
              have a1 : ∀ y : Wd S, y.w.cell? ⟨g, i * 2 + 1, none⟩ = some (.int .u32 (c2 : Int)) := fun y => ((hBX _ y.h).1.cell (p := ⟨g, i * 2 + 1, none⟩) hg).trans k1
              have a2 : ∀ y : Wd S, y.w.cell? ⟨q, 0, none⟩ = some (.int .u32 (a : Int)) := fun y => (hBX _ y.h).2.c0
              have a3 : ∀ y : Wd S, y.w.cell? ⟨q, 1, none⟩ = some (.int .u32 256) := fun y => (hBX _ y.h).2.c1
              have hBX' := Lib.hid hBX
              have i0 : (0 : Int) ≤ i := by omega
              replace ht := Lib.hid ht
              replace ho := Lib.hid ho
              have hk1 := Lib.hid k1
              have hgl := Lib.hid hg
              clear hc hv hov hcv hcom hS0 hK hBX k0 k1 hS hg hlt
              cases v
              all_goals
                go_wp2_with fail
                refine region_cls S (by kernel_rfl) (by kernel_rfl) h4 ?_
                repeat (first
                  | go_big_quiet_skip
                  | (go_big_quiet_want
                     go_big_quiet_op
                     first
                     | go_big_quiet_on
                     | (apply Exists.intro
                        refine ⟨fun y => ?_, ?_⟩
                        · first | exact rfl | with_reducible exact cC.out y
                        go_big_quiet_on)))
                refine wpQuiet_nil ?_
                intro y
                have HS3 := Lib.hid (hBX'.out _ y.h)
                obtain ⟨w11, hw11⟩ : ∃ w11, w11 = y.w := ⟨_, rfl⟩
                rw [← hw11] at HS3 ⊢
                clear hw11 a0 a1 a2 a3 h4 hBX' cC
                clear y S
              · go_wp2_with fail
                go_roundw
                · exact ⟨i + 1, by omega, by rw [hs1.out]; simp, by rw [hs2.out]; simp, by simp, HS3⟩
                · simp only [RowKit.intOf]; omega
              · have k1 : w11.cell? ⟨g, i * 2 + 1, none⟩ = some (.int .u32 (c2 : Int)) := (HS3.out.1.cell (p := ⟨g, i * 2 + 1, none⟩) hgl.out).trans hk1.out
                by_cases hcP : c2 = P
                · have hcP2 : (c2 : Int) = P := by omega
                  by_cases hPs : P ≤ 256
                  · have hPs2 : (P : Int) ≤ 256 := by omega
                    subst hcP
                    go_wp2_with fail
                    go_roundw
                    · exact ⟨i + 1, by omega, by rw [hs1.out]; simp, by rw [hs2.out]; simp [hPs], by simp, HS3⟩
                    · simp only [RowKit.intOf]; omega
                  · have hPs2 : ¬ (P : Int) ≤ 256 := by omega
                    subst hcP
                    go_wp2_with fail
                    go_roundw
                    · exact ⟨i + 1, by omega, by rw [hs1.out]; simp, by rw [hs2.out]; simp [hPs], by simp, HS3⟩
                    · simp only [RowKit.intOf]; omega
                · have hcP2 : ¬ (c2 : Int) = P := by omega
                  go_wp2_with fail
                  go_roundw
                  · exact ⟨i + 1, by omega, by rw [hs1.out]; simp, by rw [hs2.out]; simp [hcP], by simp, HS3⟩
                  · simp only [RowKit.intOf]; omega
            · obtain rfl : i = m := by omega
              have hil2 : ¬ (i : Int) < (i : Int) := by omega
              rw [show X.take i = X by rw [← hm.out]; exact List.take_length]
              have htk : X.countP (hitF p) = tkN X p := rfl
              rw [htk]
              have hos := fun (h : P ≤ 256) => own_small X p P h
              obtain ⟨o, ho⟩ : ∃ o, o = X.countP (ownF p P) := ⟨_, rfl⟩
              rw [← ho] at hos ⊢
              have hob : o ≤ 16384 := by rw [ho]; exact Nat.le_trans List.countP_le_length (by rw [hm.out]; exact hXl)
              have hRs := fun (h : P ≤ 256) => Rm_small (X := X) (p := p) h
              have hRl := fun (h : ¬ P ≤ 256) => Rm_large (X := X) (p := p) h
              have hrs := rn_step X p
              have htb : tkN X p ≤ 16384 := Nat.le_trans List.countP_le_length (by rw [hm.out]; exact hXl)
              obtain ⟨t, ht⟩ : ∃ t, t = tkN X p := ⟨_, rfl⟩
              rw [← ht] at hrs htb hRs ⊢
              obtain ⟨r, hr⟩ : ∃ r, r = Rm X P p := ⟨_, rfl⟩
              rw [← hr] at hRs hRl ⊢
              obtain ⟨u, hu⟩ : ∃ u, u = rnN X p := ⟨_, rfl⟩
              rw [← hu] at hrs hrn ⊢
              have hrs' := Lib.hid hrs
              have hBw := Lib.hid hS.out.1
              clear ht hr hu ho hS htk hrs
              by_cases hPs : P ≤ 256
              · have hPs2 : (P : Int) ≤ 256 := by omega
                have hR := hRs hPs
                rw [← hos hPs] at hR
                obtain ⟨d, hd⟩ : ∃ d, d = 256 / P := ⟨_, rfl⟩
                rw [← hd] at hR
                have ed : (256 : Int) / (P : Int) = (d : Int) := by rw [hd]; simp
                have hdb : d ≤ 256 := by rw [hd]; exact Nat.div_le_self _ _
                have hR' := Lib.hid hR
                clear hR hRs hRl hos hd
                by_cases ht0 : 0 < t
                · have ht1 : (0 : Int) < t := by omega
                  have ht2 : ¬ (t : Int) = 0 := by omega
                  cases r
                  · by_cases ho0 : 0 < o
                    · have ho1 : (0 : Int) < o := by omega
                      by_cases hot : o = t
                      · subst hot
                        by_cases hod : o < d
                        · have hod2 : (o : Int) < d := by omega
                          go_wp2_with fail
                          go_roundw
                          · exact ⟨p + 1, by omega, by rw [hR'.out]; simp [ho0, hod], by rw [hrs'.out, if_pos ht0]; rfl, by simp, hBw⟩
                          · simp only [RowKit.intOf]; omega
                        · have hod2 : ¬ (o : Int) < d := by omega
                          go_wp2_with fail
                          go_roundw
                          · exact ⟨p + 1, by omega, by rw [hR'.out, decide_eq_false (p := o = 0) (by omega), decide_eq_false hod]; first | rfl | (simp; done) | (simp; omega), by rw [hrs'.out, if_pos ht0]; rfl, by simp, hBw⟩
                          · simp only [RowKit.intOf]; omega
                      · have hot2 : ¬ (o : Int) = t := by omega
                        go_wp2_with fail
                        go_roundw
                        · exact ⟨p + 1, by omega, by rw [hR'.out, decide_eq_false (p := t = 0) (by omega), decide_eq_false hot]; first | rfl | (simp; done) | (simp; omega), by rw [hrs'.out, if_pos ht0]; rfl, by simp, hBw⟩
                        · simp only [RowKit.intOf]; omega
                    · have ho1 : ¬ (0 : Int) < o := by omega
                      go_wp2_with fail
                      go_roundw
                      · exact ⟨p + 1, by omega, by rw [hR'.out, decide_eq_false (p := t = 0) (by omega), decide_eq_false ho0]; first | rfl | (simp; done) | (simp; omega), by rw [hrs'.out, if_pos ht0]; rfl, by simp, hBw⟩
                      · simp only [RowKit.intOf]; omega
                  · go_wp2_with fail
                    go_roundw
                    · exact ⟨p + 1, by omega, by rw [hR'.out]; rfl, by rw [hrs'.out, if_pos ht0]; rfl, by simp, hBw⟩
                    · simp only [RowKit.intOf]; omega
                · obtain rfl : t = 0 := by omega
                  cases r
                  all_goals
                    go_wp2_with fail
                    go_roundw
                    · exact ⟨p + 1, by omega, by rw [hR'.out]; simp, by rw [hrs'.out, if_neg ht0]; simp, by simp, hBw⟩
                    · simp only [RowKit.intOf]; omega
              · have hPs2 : ¬ (P : Int) ≤ 256 := by omega
                have hR := hRl hPs
                obtain ⟨g, hg⟩ : ∃ g, g = pgN P := ⟨_, rfl⟩
                rw [← hg] at hR hPg
                have hgb : g ≤ 16384 := by rw [hg]; unfold pgN; omega
                have hR' := Lib.hid hR
                clear hR hRs hRl hos hg
                by_cases ht0 : 0 < t
                · have ht1 : (0 : Int) < t := by omega
                  have hrv := Lib.hid (show rnN X (p + 1) = 0 by rw [hrs'.out, if_pos ht0])
                  cases r
                  · by_cases hge : g ≤ 0
                    · have hge2 : (g : Int) ≤ 0 := by omega
                      go_wp2_with fail
                      refine (hPg.out _).mono ?_
                      rintro e wz ⟨rfl, rfl⟩
                      go_wp2_with fail
                      go_roundw
                      · exact ⟨p + 1, by omega, by rw [hR'.out, hrv.out, decide_eq_true hge]; first | rfl | (simp; done) | (simp; omega), by rw [hrv.out]; rfl, by simp, hBw⟩
                      · simp only [RowKit.intOf]; omega
                    · have hge2 : ¬ (g : Int) ≤ 0 := by omega
                      go_wp2_with fail
                      refine (hPg.out _).mono ?_
                      rintro e wz ⟨rfl, rfl⟩
                      go_wp2_with fail
                      go_roundw
                      · exact ⟨p + 1, by omega, by rw [hR'.out, hrv.out, decide_eq_false hge]; first | rfl | (simp; done) | (simp; omega), by rw [hrv.out]; rfl, by simp, hBw⟩
                      · simp only [RowKit.intOf]; omega
                  · go_wp2_with fail
                    go_roundw
                    · exact ⟨p + 1, by omega, by rw [hR'.out]; rfl, by rw [hrv.out]; rfl, by simp, hBw⟩
                    · simp only [RowKit.intOf]; omega
                · obtain rfl : t = 0 := by omega
                  have hrv := Lib.hid (show rnN X (p + 1) = u + 1 by rw [hrs'.out, if_neg ht0])
                  cases r
                  · by_cases hge : g ≤ u + 1
                    · have hge2 : (g : Int) ≤ (u : Int) + 1 := by omega
                      go_wp2_with fail
                      refine (hPg.out _).mono ?_
                      rintro e wz ⟨rfl, rfl⟩
                      go_wp2_with fail
                      go_roundw
                      · exact ⟨p + 1, by omega, by rw [hR'.out, hrv.out, decide_eq_true hge]; first | rfl | (simp; done) | (simp; omega), by rw [hrv.out]; simp, by simp, hBw⟩
                      · simp only [RowKit.intOf]; omega
                    · have hge2 : ¬ (g : Int) ≤ (u : Int) + 1 := by omega
                      go_wp2_with fail
                      refine (hPg.out _).mono ?_
                      rintro e wz ⟨rfl, rfl⟩
                      go_wp2_with fail
                      go_roundw
                      · exact ⟨p + 1, by omega, by rw [hR'.out, hrv.out, decide_eq_false hge]; first | rfl | (simp; done) | (simp; omega), by rw [hrv.out]; simp, by simp, hBw⟩
                      · simp only [RowKit.intOf]; omega
                  · go_wp2_with fail
                    go_roundw
                    · exact ⟨p + 1, by omega, by rw [hR'.out]; rfl, by rw [hrv.out]; simp, by simp, hBw⟩
                    · simp only [RowKit.intOf]; omega
        · obtain rfl : p = n := by omega
          have hlt2 : ¬ (p : Int) < (p : Int) := by omega
          obtain ⟨r, hr⟩ : ∃ r, r = Rm X P p := ⟨_, rfl⟩
          rw [← hr] at hFv ⊢
          obtain ⟨u, hu⟩ : ∃ u, u = rnN X p := ⟨_, rfl⟩
          rw [← hu] at hrn ⊢
          have hFF := hFv.out
          have hB := Lib.hid (hB8.out.trans (hBw.out.mono hB8.out.size))
          clear hr hu hFv hF'
          cases r
          · have hF7 : F = 7 := hFF
            clear hFF
            subst hF7
            go_wp2_with fail
            go_ret
            exact ⟨rfl, hB.out⟩
          · have hF7 : F = 0 := hFF
            clear hFF
            subst hF7
            go_wp2_with fail
            go_ret
            exact ⟨rfl, hB.out⟩
theorem walk (pr : Int) (wpr : (Lit.int .u8 pr).wf = true) {H : Type} {enc : TypeId × Value → H} (v1 : Value) {d1 : DataW H} {p1 : List MemPlace} (sz : Int) (wsz : (Lit.int .u16 sz).wf = true) (W : World)
    (hv : Value.okWide Tryd.prog W .any 0 22 v1) (hd : DataW.Trod enc Tryd.prog W 0 (fun _ => true) true 22 v1 d1 p1) (hT : TabAt 0 Lib.deBruijn32tab W) :
    Calls Tryd.prog 4 #[.int .u8 pr, v1, .int .u16 sz] W fun e w' => e = .returned (.bool true) ∧ Below W.heap.size W w' := by
  have b1 := bounds_u8 wpr
  obtain ⟨pr, rfl⟩ := Int.eq_ofNat_of_zero_le b1.1
  have b2 := bounds_u16 wsz
  obtain ⟨sz, rfl⟩ := Int.eq_ofNat_of_zero_le b2.1
  exact walkN pr sz (by omega) (by omega) v1 W hv hd hT
set_option maxRecDepth 100000 in
theorem lifted (os : Os) (started : os.Started) (H : Type) (enc : TypeId × Value → H) :
    ReturnsInHanded {} Tryd.checked os 4 .any (fun w args => (Rows.heapNoLieSpec.pre enc Tryd.prog Tryd.f4 [] false w args ∧ laidMetH Tryd.prog Rows.heapNoLieRow.laid w) ∧ sizedMet enc Tryd.prog Tryd.f4 (OpenSpec.ofChange Rows.heapNoLieSpec) false w args) (Rows.heapNoLieSpec.post enc Tryd.prog Tryd.f4 false true false false) := by
  refine returnsInHanded_of_change_and (C := Tryd.checked) (X := fun w _ => laidMetH Tryd.prog Rows.heapNoLieRow.laid w) (fun _ _ _ hh h => h.of_heap hh) own started (by kernel_rfl) Tryd.func4
    (ChangeSpec.witness_at (enc := enc) (C := Tryd.checked) (os := os) (X := fun w _ => laidMetH Tryd.prog Rows.heapNoLieRow.laid w) false (laidWorld os) #[.int .u8 0, .slice none 0 0, .int .u16 0] 8 rfl (by kernel_rfl) (by kernel_rfl) (by kernel_rfl) (by kernel_rfl) (by kernel_rfl) (laid_met os _)) ?_
  intro W base args ds gs before hval0 hW _ _ hL _
  have hval : ∀ (j : Nat) t v, Tryd.f4.params[j]? = some t → args[j]? = some v → Value.okWide Tryd.prog W .any base t v := hval0
  have hW' := hW
  obtain ⟨p, q, hA0, hV, rfl, hfz, hnd⟩ := hW
  have hA : DataW.TrodAll enc Tryd.prog W 0 (fun _ => true) true Tryd.f4.params.toList args.toList ds p := hA0
  rw [Tryd.params4] at hA hval
  obtain ⟨v0, vs0, d0, ds0, p0, q0, hargs, rfl, rfl, h0, r0⟩ := trodAll_cons hA
  obtain ⟨v1, vs1, d1, ds1, p1, q1, rfl, rfl, rfl, h1, r1⟩ := trodAll_cons r0
  obtain ⟨v2, vs2, d2, ds2, p2, q2, rfl, rfl, rfl, h2, r2⟩ := trodAll_cons r1
  obtain ⟨rfl, rfl, rfl⟩ := trodAll_nil r2
  obtain rfl : args = #[v0, v1, v2] := by cases args; simp_all
  obtain ⟨rfl, rfl⟩ := trodVars_none hV
  have k0 := h0
  have lt0 : ∀ x ∈ p0, x.block < W.heap.size := by obtain ⟨m, hm⟩ := k0; exact DataW.trod_lt m _ _ _ hm
  have k1 := h1
  have lt1 : ∀ x ∈ p1, x.block < W.heap.size := by obtain ⟨m, hm⟩ := k1; exact DataW.trod_lt m _ _ _ hm
  have k2 := h2
  have lt2 : ∀ x ∈ p2, x.block < W.heap.size := by obtain ⟨m, hm⟩ := k2; exact DataW.trod_lt m _ _ _ hm
  obtain ⟨pages, rfl, rfl, rfl, wpages⟩ := open_int Tryd.underlying5 (hval 0 5 v0 rfl rfl) h0
  obtain ⟨size, rfl, rfl, rfl, wsize⟩ := open_int Tryd.underlying35 (hval 2 35 v2 rfl rfl) h2
  clear hA0 hval0
  refine (walk pages wpages v1 size wsize W (hval 1 22 v1 rfl rfl) k1 (tabs_of_laid hL)).mono fun e W' ⟨he, bel⟩ => ?_
  subst he
  exact ⟨_, rfl, _, _, _, [], _, [], hW', trodAll_mk1 (shut_bool Tryd.underlying4 _), (trodAll_cons_mk (Below.trod laidOut (by kernel_rfl) (of_decide_eq_true (by kernel_rfl)) k0 bel lt0) (trodAll_cons_mk (Below.trod laidOut (by kernel_rfl) (of_decide_eq_true (by kernel_rfl)) k1 bel lt1) (trodAll_cons_mk (Below.trod laidOut (by kernel_rfl) (of_decide_eq_true (by kernel_rfl)) k2 bel lt2) trodAll_mk0))), rfl, bel.frame _, fun h => by cases h⟩
theorem over : Rows.HeapNoLieSaid :=
  OpenClaim.holds_of_wide 4 Tryd.f4 rfl rfl rfl rfl rfl rfl rfl ⟨rfl, rfl, rfl, rfl, rfl⟩ rfl rfl rfl rfl rfl (by kernel_rfl) Tryd.func4 (by kernel_rfl)
    (of_decide_eq_true (by kernel_rfl)) (by unfold Func.isWrapper; first | (rw [if_pos (by decide +kernel)]; kernel_rfl) | (rw [if_neg (by decide +kernel)]; exact ⟨rfl, rfl⟩))
    (fun os started H enc _ => lifted os started H enc)
/-- The given statement. -/
theorem proved : Rows.HeapNoLieCardSaid :=
  Claim7.holds_tied_plain_at .later [] [.data] true (true, "c7df4fa58af645e7010f817469018e4855912b3de514d8c640a49e23bb05f2a6") true
    over (fun _ h => by cases h) (by kernel_rfl) (fun _ h => by cases h) heapNoLie_row_tie rfl ⟨rfl, rfl⟩ (by kernel_rfl) rfl
    (fun f fn hf hfn => by
      obtain rfl : f = 4 := Option.some.inj ((show Tryd.prog.funcNamed "fallow/fallowlaw14.HeapNoLie" = some 4 by kernel_rfl).symm.trans hf) |>.symm
      obtain rfl : fn = Tryd.f4 := (Option.some.inj (Tryd.func4.symm.trans hfn)).symm
      exact ⟨by kernel_rfl, fun j t ht => by
        rw [Tryd.params4] at ht
        rcases j with _ | _ | _ | j
        · obtain rfl : t = 5 := by simpa using ht.symm
          exact (show Tryd.prog.wantsStandIn 5 = false by kernel_rfl)
        · obtain rfl : t = 22 := by simpa using ht.symm
          exact (show Tryd.prog.wantsStandIn 22 = false by kernel_rfl)
        · obtain rfl : t = 35 := by simpa using ht.symm
          exact (show Tryd.prog.wantsStandIn 35 = false by kernel_rfl)
        · simp at ht⟩)
    (by kernel_rfl)
end Go.Proofs.YticfpnhfhhagpaaDoor.hnolie
