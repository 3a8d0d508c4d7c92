/- Proved: slots are taken in order, from the least page on (SlotsLeast). For every input; the library's table is as its own text lays it (the card ties that). -/
import Derived.Test.YtkkjjdnlfdempaaDoorSlV
import Derived.Test.YtkkjjdnlfdempaaDoorSlZ
import Derived.Test.YtkkjjdnlfdempaaDoorNums
import Derived.Test.YtkkjjdnlfdempaaDoorTie
import Derived.Test.YtkkjjdnlfdempaaDoorCards
import Derived.SevenTiedAt
import Derived.ProofKit
import Derived.OpenShut
import Derived.ChangeOld
import Derived.Deep.LoopGhost
namespace Go.Proofs.YtkkjjdnlfdempaaDoor.sleast
open Go.ChangeShapes Go.WideShapes Go.ChangeAt Go.RowKit Go.Shelf
set_option linter.unusedVariables false
set_option maxRecDepth 100000
theorem mayAdd_in {g : Nat → Bool} {p : Nat} (hp : p < 1024) : mayAdd g (p : Int) = !g p := by
  unfold mayAdd
  rw [Int.toNat_natCast, decide_eq_true (Int.natCast_nonneg p), decide_eq_true (show (p : Int) < 1024 by omega)]
  rfl
theorem sorted_pair {g : Nat → Bool} {k p p' : Nat} (h1 : cnt g p' + 1 = k) (h2 : cnt g p = k) : p' < p := by
  rcases Nat.lt_or_ge p' p with h | h
  · exact h
  · have := cnt_mono g h; omega
set_option maxHeartbeats 8000000 in
theorem walkN (pr : Nat) (hpr : pr < 256) {H : Type} {enc : TypeId × Value → H} (v1 : Value) {d1 : DataW H} {p1 : List MemPlace} (W : World)
    (hv : Value.okWide Tryd.prog W .any 0 55 v1) (hd : DataW.Trod enc Tryd.prog W 0 (fun _ => true) true 55 v1 d1 p1) (hT : TabAt 0 Lib.deBruijn32tab W) :
    Calls Tryd.prog 5 #[.int .u8 pr, v1] W fun e w' => e = .returned (.bool true) ∧ Below W.heap.size W w' := by
  obtain ⟨A, len, cap, rfl, hcap, hm, hP⟩ := nums_of Tryd.underlying55 Tryd.underlying56 (by kernel_rfl) hv hd
  have hlen : len ≤ 9223372036854775807 := by unfold maxLen at hm; omega
  clear hv hd hm
  obtain ⟨n, hn⟩ : ∃ n, n = 1 + pr % 16 := ⟨_, rfl⟩
  have e1 : (pr : Int) % 16 = (n : Int) - 1 := by omega
  have e2 : 1 + ((n : Int) - 1) = (n : Int) := by omega
  have hn1 : 1 ≤ n ∧ n ≤ 16 := by omega
  have hn2 : (n : Int) ≤ 16 := by omega
  have hNew := Lib.hid (new_yes n W hn1)
  have hT' := Lib.hid hT
  replace hP := Lib.hid hP
  clear hT hn
  go_enter Tryd.func5, Tryd.ntmps5
  go_wp2_with fail
  refine hNew.out.mono ?_
  intro e w1 h
  obtain ⟨b, rfl, S1⟩ := SK.fresh h
  have S1 := Lib.hid (show SK W b n gN (frm gN n 0) w1 from by
    have : frm gN n 0 = fun _ _ => false := funext fun p => funext fun s => by rw [frm_zero]; rfl
    rw [this]; exact S1)
  clear h hNew
  go_wp2_with fail
  go_loopw [7, 8] (fun mv i wr => ∃ (k : Nat) (g : Nat → Bool), mv = .int .i64 (cnt g 1024 : Nat) ∧ i = .int .i64 k ∧ k ≤ len ∧ k ≤ 20 ∧ SK W b n g (frm g n 0) wr) (fun _ i _ => 20 - (intOf i).toNat)
  case atStart => exact ⟨0, gN, by rw [cnt_zero (g := gN) (fun _ _ => rfl)]; rfl, rfl, by omega, by omega, S1.out⟩
  case round =>
    clear S1
    obtain ⟨k, g, rfl, rfl, hk, hk2, HI⟩ := hrel
    have hk3 : (k : Int) ≤ 20 := by omega
    have hcn := cnt_le g 1024
    have hcn2 : (cnt g 1024 : Int) ≤ 1024 := by omega
    replace HI := Lib.hid HI
    by_cases hlt : k < len ∧ k < 20
    · have j1 : (k : Int) < (len : Int) := by omega
      have j2 : (k : Int) < 20 := by omega
      obtain ⟨bl, off, rfl, hbl, x, hx, hwf⟩ := (hP.out.below HI.out.bl) k hlt.1
      have bx := bounds_u16 hwf
      obtain ⟨X, rfl⟩ := Int.eq_ofNat_of_zero_le bx.1
      obtain ⟨p, hp⟩ : ∃ p, p = X % 1024 := ⟨_, rfl⟩
      have m1 : (X : Int) % 1024 = (p : Int) := by omega
      have hp1 : p < 1024 := by omega
      have hp2 : (p : Int) < 1024 := by omega
      clear bx hwf hp
      cases hg : g p
      · have hA := Lib.hid ((add_yes HI.out.k p (by rw [mayAdd_in hp1, hg]; rfl)).mono fun e w' h => HI.out.next h)
        have hc := Lib.hid (cnt_set hg 1024 hp1)
        have hf := Lib.hid (frm_add (n := n) hg)
        clear HI hg
        go_wp2_with fail
        refine hA.out.mono ?_
        rintro e w3 ⟨rfl, h3⟩
        replace h3 := Lib.hid h3
        clear hA
        go_wp2_with fail
        go_roundw
        case rel => exact ⟨k + 1, upd g p true, by rw [hc.out]; go_num, by go_num, by omega, by omega, by rw [← hf.out]; exact h3.out⟩
        case measure => simp [intOf]; omega
      · have hA := Lib.hid ((add_no HI.out.k (p : Int) (by rw [mayAdd_in hp1, hg]; rfl)).mono fun e w' h => HI.out.next h)
        clear HI hg
        go_wp2_with fail
        refine hA.out.mono ?_
        rintro e w3 ⟨rfl, h3⟩
        replace h3 := Lib.hid h3
        clear hA
        go_wp2_with fail
        go_roundw
        case rel => exact ⟨k + 1, g, rfl, by go_num, by omega, by omega, h3.out⟩
        case measure => simp [intOf]; omega
    · have hPg := Lib.hid ((pages_any HI.out.k).mono fun e w' h => (show ∃ A c, e = .returned (.slice A (setL g 1024).length c) ∧ LstAt w' b A (setL g 1024) ∧ SK W b n g (frm g n 0) w' from by
        obtain ⟨A, c, he, hl, hb⟩ := h.lst HI.out.k.lb
        exact ⟨A, c, he, hl, HI.out.grow hb⟩))
      rw [setL_length] at hPg
      have ht := Lib.hid (tot_frm g hn1.2 1024)
      have hgl := Lib.hid HI.out.k.gl
      obtain ⟨L, hL⟩ : ∃ L, L = setL g 1024 := ⟨_, rfl⟩
      obtain ⟨m, hmm⟩ : ∃ m, m = cnt g 1024 := ⟨_, rfl⟩
      have hLm : L.length = m := by rw [hL, setL_length, hmm]
      rw [← hmm] at hPg ht hcn hcn2 ⊢
      rw [← hL] at hPg
      have hL' := Lib.hid hL
      have hm' := Lib.hid hmm
      have hmn : m * n ≤ 16384 := Nat.le_trans (Nat.mul_le_mul hcn hn1.2) (by decide)
      have hmn2 : (m : Int) * (n : Int) ≤ 16384 := by rw [← Int.natCast_mul]; omega
      have hmn3 : 0 ≤ (m : Int) * (n : Int) := by rw [← Int.natCast_mul]; omega
      have cont : True := trivial
      clear HI hL hmm
      rcases Nat.lt_or_ge k len with h1 | h1
      · have j1 : (k : Int) < (len : Int) := by omega
        have j2 : ¬ (k : Int) < 20 := by omega
        go_wp2_with fail
        refine hPg.out.mono ?_
        rintro e w3 ⟨A2, c2, rfl, hl, S3⟩
        have hF := Lib.hid ((free_yes S3.k ht.out).mono fun e w' h => (show e = .returned (.int .i64 ((m * n : Nat) : Int)) ∧ SK W b n g (frm g n (0 * n)) w' ∧ LstAt w' b A2 L from ⟨h.1, by rw [Nat.zero_mul]; exact (S3.next h).2, hl.off h.2.2⟩))
        have s1 : IntKind.i64.wrap ((m : Int) * (n : Int)) = ((m * n : Nat) : Int) := by rw [IntKind.wrap_i64, Int.natCast_mul]; omega
        clear hl S3 hPg ht
        go_wp2_with fail
        refine hF.out.mono ?_
        rintro e w4 ⟨rfl, S4, l4⟩
        have E4 := Lib.hid (And.intro S4 l4)
        clear S4 l4 hF
        go_wp2_with fail
        clear s1 hmn hmn2 hmn3
        go_loopw [10] (fun xv wr => ∃ x : Nat, x ≤ m ∧ xv = .int .i64 x ∧ SK W b n g (frm g n (x * n)) wr ∧ LstAt wr b A2 L) (fun xv _ => m - (intOf xv).toNat)
        case atStart => exact ⟨0, by omega, rfl, E4.out.1, E4.out.2⟩
        case round =>
          clear E4
          obtain ⟨x, hx, rfl, HS2, HL2⟩ := hrel
          have hx3 : (x : Int) ≤ 1024 := by omega
          by_cases hlt2 : x < m
          · have jx : (x : Int) < (m : Int) := by omega
            obtain ⟨p, hp⟩ : ∃ p, L[x]? = some p := ⟨_, List.getElem?_eq_getElem (show x < L.length by omega)⟩
            have hgp := Lib.hid (setL_at g 1024 x p (hL'.out ▸ hp))
            obtain ⟨q, rfl, hqb, hqs, hcx⟩ := HL2.c x p hp
            have hLp := Lib.hid hp
            have hpb : (p : Int) < 1024 := by have := hgp.out.2.1; omega
            obtain ⟨S, hS0⟩ : ∃ S, S = fun w1 => SK W b n g (frm g n (x * n)) w1 ∧ LstAt w1 b (some ⟨q, 0, none⟩) L := ⟨_, rfl⟩
            have hS : ∀ w w', S w → Below w.heap.size w w' → S w' := fun w w' h k => by rw [hS0] at h ⊢; exact ⟨h.1.grow k, h.2.grow k⟩
            have hK : ∀ w1, S w1 → SK W b n g (frm g n (x * n)) w1 ∧ LstAt w1 b (some ⟨q, 0, none⟩) L := fun w h => by rw [hS0] at h; exact h
            have K := Lib.hid (show S wr from by rw [hS0]; exact ⟨HS2, HL2⟩)
            have cW := Lib.hid (cls_call (S := S) (fun w1 hw => (whole_yes (hK w1 hw).1.k (p : Int) (frm_whole hn1.2 hgp.out.1 hgp.out.2.1 hgp.out.2.2)).mono fun e w' h => (show e = .returned (.bool true) ∧ S w' from ⟨h.1, by rw [hS0]; exact ⟨((hK w1 hw).1.next h).2, (hK w1 hw).2.off h.2.2⟩⟩)))
            have cell : ∀ (i r : Nat), L[i]? = some r → ∀ y : Wd S, y.w.cell? ⟨q, i, none⟩ = some (.int .i64 (r : Int)) := fun i r hr y => by
              obtain ⟨q', hq', _, _, hc'⟩ := (hK _ y.h).2.c i r hr
              obtain rfl : q = q' := by simpa using hq'
              exact hc'
            have a0 := cell x p hp
            have HS := Lib.hid hS
            have HK := Lib.hid hK
            rcases Nat.eq_zero_or_pos x with h0 | h0
            · have x0 : ¬ 0 < (x : Int) := by omega
              have x1 : ¬ 0 < x := by omega
              clear hS hK hS0 HS2 HL2 hp hcx hqs hqb cell h0
              go_wp2_with fail
              refine region_cls S (by kernel_rfl) (by kernel_rfl) (HS.out _ _ K.out (Below.refl _ _).drew) ?_
              repeat (first
                | go_big_quiet_skip
                | (go_big_quiet_want
                   go_big_quiet_op
                   first
                   | go_big_quiet_on
                   | (apply Exists.intro
                      refine ⟨fun y => ?_, ?_⟩
                      · first | exact rfl | with_reducible exact cW.out y
                      go_big_quiet_on)))
              refine wpQuiet_nil ?_
              intro y
              have HY := Lib.hid (HK.out _ y.h)
              obtain ⟨wy, hwy⟩ : ∃ wy, wy = y.w := ⟨_, rfl⟩
              rw [← hwy] at HY ⊢
              clear hwy a0  HS HK K cW
              go_wp2_with fail
              go_loopw [11] (fun jv wr => ∃ j : Nat, j ≤ n ∧ jv = .int .i64 j ∧ SK W b n g (frm g n (x * n + j)) wr ∧ LstAt wr b (some ⟨q, 0, none⟩) L) (fun jv _ => n - (intOf jv).toNat)
              case atStart => exact ⟨0, by omega, rfl, HY.out.1, HY.out.2⟩
              case round =>
                clear HY
                obtain ⟨j, hj, rfl, HS3, HL3⟩ := hrel
                replace HS3 := Lib.hid HS3
                replace HL3 := Lib.hid HL3
                by_cases hlt3 : j < n
                · have j3 : (j : Int) < (n : Int) := by omega
                  have hTk := Lib.hid ((take_yes HS3.out.k (tab_grow hT'.out HS3.out.bl) (frm_least hgp.out.1 hgp.out.2.2 hlt3)).mono fun e w' h => (show e = .returned (.tuple #[.int .i64 (p : Int), .int .i64 (j : Int), .bool true]) ∧ SK W b n g (frm g n (x * n + (j + 1))) w' ∧ LstAt w' b (some ⟨q, 0, none⟩) L from
                    ⟨h.1, by rw [← frm_take hgp.out.1 hgp.out.2.2 hlt3]; exact (HS3.out.next h).2, HL3.out.off h.2.2⟩))
                  have hbr := Lib.hid (frm_broken (k := j) hn1.2 hgp.out.2.2 hlt3)
                  have hj16 : (j : Int) < 16 := by omega
                  clear HS3 HL3
                  go_wp2_with fail
                  refine hTk.out.mono ?_
                  rintro e w6 ⟨rfl, S6, L6⟩
                  have c6 : w6.cell? ⟨q, x, none⟩ = some (.int .i64 (p : Int)) := by
                    obtain ⟨q', hq', _, _, hc'⟩ := L6.c x p hLp.out
                    obtain rfl : q = q' := by simpa using hq'
                    exact hc'
                  have hWh := Lib.hid ((whole_yes S6.k (p : Int) hbr.out).mono fun e w' h => (show e = .returned (.bool false) ∧ SK W b n g (frm g n (x * n + (j + 1))) w' ∧ LstAt w' b (some ⟨q, 0, none⟩) L from ⟨h.1, (S6.next h).2, L6.off h.2.2⟩))
                  clear S6 L6 hTk
                  go_wp2_with fail
                  refine hWh.out.mono ?_
                  rintro e w7 ⟨rfl, S7, L7⟩
                  have hDr := Lib.hid ((drop_no S7.k (p : Int) hbr.out).mono fun e w' h => (show e = .returned (.bool false) ∧ SK W b n g (frm g n (x * n + (j + 1))) w' ∧ LstAt w' b (some ⟨q, 0, none⟩) L from ⟨h.1, (S7.next h).2, L7.off h.2.2⟩))
                  clear S7 L7 hWh c6
                  go_wp2_with fail
                  refine hDr.out.mono ?_
                  rintro e w8 ⟨rfl, S8, L8⟩
                  replace S8 := Lib.hid S8
                  replace L8 := Lib.hid L8
                  clear hDr
                  go_wp2_with fail
                  go_roundw
                  case rel => exact ⟨j + 1, by omega, by go_num, S8.out, L8.out⟩
                  case measure => simp [intOf]; omega
                · have hjn : j = n := by omega
                  rw [hjn] at HS3
                  rw [hjn]
                  have j3 : ¬ (n : Int) < (n : Int) := by omega
                  clear hj hlt3 hjn
                  go_wp2_with fail
                  go_roundw
                  case rel => exact ⟨x + 1, by omega, by go_num, by rw [Nat.succ_mul]; exact HS3.out, HL3.out⟩
                  case measure => simp [intOf]; omega
            · obtain ⟨z, hz⟩ : ∃ z, x = z + 1 := ⟨x - 1, by omega⟩
              obtain ⟨r, hr⟩ : ∃ r, L[z]? = some r := ⟨_, List.getElem?_eq_getElem (show z < L.length by omega)⟩
              have hrp : (r : Int) < (p : Int) := by
                have h1 := setL_at g 1024 z r (hL'.out ▸ hr)
                have h2 := hgp.out.2.2
                have h3 := sorted_pair (p := p) (p' := r) (k := x) (by omega) h2
                omega
              have x0 : 0 < (x : Int) := by omega
              have x6 : 0 < x := by omega
              have x7 : decide (0 < x) = true := decide_eq_true x6
              have x8 : decide (p ≤ r) = false := decide_eq_false (by omega)
              have x2 : (x : Int) - 1 = (z : Int) := by omega
              have x3 : (z : Int) < (m : Int) := by omega
              have x4 : ¬ (p : Int) ≤ (r : Int) := by omega
              have x5 : ¬ p ≤ r := by omega
              have a1 := cell z r hr
              clear hS hK hS0 HS2 HL2 hp hcx hqs hqb cell hr h0 hz
              go_wp2_with fail
              refine region_cls S (by kernel_rfl) (by kernel_rfl) (HS.out _ _ K.out (Below.refl _ _).drew) ?_
              repeat (first
                | go_big_quiet_skip
                | (go_big_quiet_want
                   go_big_quiet_op
                   first
                   | go_big_quiet_on
                   | (apply Exists.intro
                      refine ⟨fun y => ?_, ?_⟩
                      · first | exact rfl | with_reducible exact cW.out y
                      go_big_quiet_on)))
              refine wpQuiet_nil ?_
              intro y
              have HY := Lib.hid (HK.out _ y.h)
              obtain ⟨wy, hwy⟩ : ∃ wy, wy = y.w := ⟨_, rfl⟩
              rw [← hwy] at HY ⊢
              clear hwy a0 a1 HS HK K cW
              go_wp2_with fail
              go_loopw [11] (fun jv wr => ∃ j : Nat, j ≤ n ∧ jv = .int .i64 j ∧ SK W b n g (frm g n (x * n + j)) wr ∧ LstAt wr b (some ⟨q, 0, none⟩) L) (fun jv _ => n - (intOf jv).toNat)
              case atStart => exact ⟨0, by omega, rfl, HY.out.1, HY.out.2⟩
              case round =>
                clear HY
                obtain ⟨j, hj, rfl, HS3, HL3⟩ := hrel
                replace HS3 := Lib.hid HS3
                replace HL3 := Lib.hid HL3
                by_cases hlt3 : j < n
                · have j3 : (j : Int) < (n : Int) := by omega
                  have hTk := Lib.hid ((take_yes HS3.out.k (tab_grow hT'.out HS3.out.bl) (frm_least hgp.out.1 hgp.out.2.2 hlt3)).mono fun e w' h => (show e = .returned (.tuple #[.int .i64 (p : Int), .int .i64 (j : Int), .bool true]) ∧ SK W b n g (frm g n (x * n + (j + 1))) w' ∧ LstAt w' b (some ⟨q, 0, none⟩) L from
                    ⟨h.1, by rw [← frm_take hgp.out.1 hgp.out.2.2 hlt3]; exact (HS3.out.next h).2, HL3.out.off h.2.2⟩))
                  have hbr := Lib.hid (frm_broken (k := j) hn1.2 hgp.out.2.2 hlt3)
                  have hj16 : (j : Int) < 16 := by omega
                  clear HS3 HL3
                  go_wp2_with fail
                  refine hTk.out.mono ?_
                  rintro e w6 ⟨rfl, S6, L6⟩
                  have c6 : w6.cell? ⟨q, x, none⟩ = some (.int .i64 (p : Int)) := by
                    obtain ⟨q', hq', _, _, hc'⟩ := L6.c x p hLp.out
                    obtain rfl : q = q' := by simpa using hq'
                    exact hc'
                  have hWh := Lib.hid ((whole_yes S6.k (p : Int) hbr.out).mono fun e w' h => (show e = .returned (.bool false) ∧ SK W b n g (frm g n (x * n + (j + 1))) w' ∧ LstAt w' b (some ⟨q, 0, none⟩) L from ⟨h.1, (S6.next h).2, L6.off h.2.2⟩))
                  clear S6 L6 hTk
                  go_wp2_with fail
                  refine hWh.out.mono ?_
                  rintro e w7 ⟨rfl, S7, L7⟩
                  have hDr := Lib.hid ((drop_no S7.k (p : Int) hbr.out).mono fun e w' h => (show e = .returned (.bool false) ∧ SK W b n g (frm g n (x * n + (j + 1))) w' ∧ LstAt w' b (some ⟨q, 0, none⟩) L from ⟨h.1, (S7.next h).2, L7.off h.2.2⟩))
                  clear S7 L7 hWh c6
                  go_wp2_with fail
                  refine hDr.out.mono ?_
                  rintro e w8 ⟨rfl, S8, L8⟩
                  replace S8 := Lib.hid S8
                  replace L8 := Lib.hid L8
                  clear hDr
                  go_wp2_with fail
                  go_roundw
                  case rel => exact ⟨j + 1, by omega, by go_num, S8.out, L8.out⟩
                  case measure => simp [intOf]; omega
                · have hjn : j = n := by omega
                  rw [hjn] at HS3
                  rw [hjn]
                  have j3 : ¬ (n : Int) < (n : Int) := by omega
                  clear hj hlt3 hjn
                  go_wp2_with fail
                  go_roundw
                  case rel => exact ⟨x + 1, by omega, by go_num, by rw [Nat.succ_mul]; exact HS3.out, HL3.out⟩
                  case measure => simp [intOf]; omega
          · have hxm : x = m := by omega
            rw [hxm] at HS2
            rw [hxm]
            have jx : ¬ (m : Int) < (m : Int) := by omega
            have hz := Lib.hid (show ∀ p s, frm g n (m * n) p s = false from fun p s => by rw [hm'.out]; exact frm_end hgl.out p s)
            have hTk := Lib.hid ((take_no HS2.k (tab_grow hT'.out HS2.bl) hz.out).mono fun e w' h => HS2.next h)
            clear HS2 HL2 hx hlt2 hxm hx3
            go_wp2_with fail
            refine hTk.out.mono ?_
            rintro e w6 ⟨rfl, S6⟩
            have hFr := Lib.hid ((free_yes S6.k (tot_zero hz.out 1024)).mono fun e w' h => S6.next h)
            clear S6 hTk
            go_wp2_with fail
            refine hFr.out.mono ?_
            rintro e w7 ⟨rfl, S7⟩
            have hWk := Lib.hid ((works_any w7 (tab_grow hT'.out S7.bl)).mono fun e w' h => (show e = .returned (.bool true) ∧ Below W.heap.size W w' from ⟨h.1, S7.bl.trans (h.2.mono S7.bl.size)⟩))
            clear S7 hFr
            go_wp2_with fail
            refine hWk.out.mono ?_
            rintro e w8 ⟨rfl, h8⟩
            replace h8 := Lib.hid h8
            go_wp2
            go_ret
            exact ⟨rfl, h8.out⟩
      · have j1 : ¬ (k : Int) < (len : Int) := by omega
        go_wp2_with fail
        refine hPg.out.mono ?_
        rintro e w3 ⟨A2, c2, rfl, hl, S3⟩
        have hF := Lib.hid ((free_yes S3.k ht.out).mono fun e w' h => (show e = .returned (.int .i64 ((m * n : Nat) : Int)) ∧ SK W b n g (frm g n (0 * n)) w' ∧ LstAt w' b A2 L from ⟨h.1, by rw [Nat.zero_mul]; exact (S3.next h).2, hl.off h.2.2⟩))
        have s1 : IntKind.i64.wrap ((m : Int) * (n : Int)) = ((m * n : Nat) : Int) := by rw [IntKind.wrap_i64, Int.natCast_mul]; omega
        clear hl S3 hPg ht
        go_wp2_with fail
        refine hF.out.mono ?_
        rintro e w4 ⟨rfl, S4, l4⟩
        have E4 := Lib.hid (And.intro S4 l4)
        clear S4 l4 hF
        go_wp2_with fail
        clear s1 hmn hmn2 hmn3
        go_loopw [10] (fun xv wr => ∃ x : Nat, x ≤ m ∧ xv = .int .i64 x ∧ SK W b n g (frm g n (x * n)) wr ∧ LstAt wr b A2 L) (fun xv _ => m - (intOf xv).toNat)
        case atStart => exact ⟨0, by omega, rfl, E4.out.1, E4.out.2⟩
        case round =>
          clear E4
          obtain ⟨x, hx, rfl, HS2, HL2⟩ := hrel
          have hx3 : (x : Int) ≤ 1024 := by omega
          by_cases hlt2 : x < m
          · have jx : (x : Int) < (m : Int) := by omega
            obtain ⟨p, hp⟩ : ∃ p, L[x]? = some p := ⟨_, List.getElem?_eq_getElem (show x < L.length by omega)⟩
            have hgp := Lib.hid (setL_at g 1024 x p (hL'.out ▸ hp))
            obtain ⟨q, rfl, hqb, hqs, hcx⟩ := HL2.c x p hp
            have hLp := Lib.hid hp
            have hpb : (p : Int) < 1024 := by have := hgp.out.2.1; omega
            obtain ⟨S, hS0⟩ : ∃ S, S = fun w1 => SK W b n g (frm g n (x * n)) w1 ∧ LstAt w1 b (some ⟨q, 0, none⟩) L := ⟨_, rfl⟩
            have hS : ∀ w w', S w → Below w.heap.size w w' → S w' := fun w w' h k => by rw [hS0] at h ⊢; exact ⟨h.1.grow k, h.2.grow k⟩
            have hK : ∀ w1, S w1 → SK W b n g (frm g n (x * n)) w1 ∧ LstAt w1 b (some ⟨q, 0, none⟩) L := fun w h => by rw [hS0] at h; exact h
            have K := Lib.hid (show S wr from by rw [hS0]; exact ⟨HS2, HL2⟩)
            have cW := Lib.hid (cls_call (S := S) (fun w1 hw => (whole_yes (hK w1 hw).1.k (p : Int) (frm_whole hn1.2 hgp.out.1 hgp.out.2.1 hgp.out.2.2)).mono fun e w' h => (show e = .returned (.bool true) ∧ S w' from ⟨h.1, by rw [hS0]; exact ⟨((hK w1 hw).1.next h).2, (hK w1 hw).2.off h.2.2⟩⟩)))
            have cell : ∀ (i r : Nat), L[i]? = some r → ∀ y : Wd S, y.w.cell? ⟨q, i, none⟩ = some (.int .i64 (r : Int)) := fun i r hr y => by
              obtain ⟨q', hq', _, _, hc'⟩ := (hK _ y.h).2.c i r hr
              obtain rfl : q = q' := by simpa using hq'
              exact hc'
            have a0 := cell x p hp
            have HS := Lib.hid hS
            have HK := Lib.hid hK
            rcases Nat.eq_zero_or_pos x with h0 | h0
            · have x0 : ¬ 0 < (x : Int) := by omega
              have x1 : ¬ 0 < x := by omega
              clear hS hK hS0 HS2 HL2 hp hcx hqs hqb cell h0
              go_wp2_with fail
              refine region_cls S (by kernel_rfl) (by kernel_rfl) (HS.out _ _ K.out (Below.refl _ _).drew) ?_
              repeat (first
                | go_big_quiet_skip
                | (go_big_quiet_want
                   go_big_quiet_op
                   first
                   | go_big_quiet_on
                   | (apply Exists.intro
                      refine ⟨fun y => ?_, ?_⟩
                      · first | exact rfl | with_reducible exact cW.out y
                      go_big_quiet_on)))
              refine wpQuiet_nil ?_
              intro y
              have HY := Lib.hid (HK.out _ y.h)
              obtain ⟨wy, hwy⟩ : ∃ wy, wy = y.w := ⟨_, rfl⟩
              rw [← hwy] at HY ⊢
              clear hwy a0  HS HK K cW
              go_wp2_with fail
              go_loopw [11] (fun jv wr => ∃ j : Nat, j ≤ n ∧ jv = .int .i64 j ∧ SK W b n g (frm g n (x * n + j)) wr ∧ LstAt wr b (some ⟨q, 0, none⟩) L) (fun jv _ => n - (intOf jv).toNat)
              case atStart => exact ⟨0, by omega, rfl, HY.out.1, HY.out.2⟩
              case round =>
                clear HY
                obtain ⟨j, hj, rfl, HS3, HL3⟩ := hrel
                replace HS3 := Lib.hid HS3
                replace HL3 := Lib.hid HL3
                by_cases hlt3 : j < n
                · have j3 : (j : Int) < (n : Int) := by omega
                  have hTk := Lib.hid ((take_yes HS3.out.k (tab_grow hT'.out HS3.out.bl) (frm_least hgp.out.1 hgp.out.2.2 hlt3)).mono fun e w' h => (show e = .returned (.tuple #[.int .i64 (p : Int), .int .i64 (j : Int), .bool true]) ∧ SK W b n g (frm g n (x * n + (j + 1))) w' ∧ LstAt w' b (some ⟨q, 0, none⟩) L from
                    ⟨h.1, by rw [← frm_take hgp.out.1 hgp.out.2.2 hlt3]; exact (HS3.out.next h).2, HL3.out.off h.2.2⟩))
                  have hbr := Lib.hid (frm_broken (k := j) hn1.2 hgp.out.2.2 hlt3)
                  have hj16 : (j : Int) < 16 := by omega
                  clear HS3 HL3
                  go_wp2_with fail
                  refine hTk.out.mono ?_
                  rintro e w6 ⟨rfl, S6, L6⟩
                  have c6 : w6.cell? ⟨q, x, none⟩ = some (.int .i64 (p : Int)) := by
                    obtain ⟨q', hq', _, _, hc'⟩ := L6.c x p hLp.out
                    obtain rfl : q = q' := by simpa using hq'
                    exact hc'
                  have hWh := Lib.hid ((whole_yes S6.k (p : Int) hbr.out).mono fun e w' h => (show e = .returned (.bool false) ∧ SK W b n g (frm g n (x * n + (j + 1))) w' ∧ LstAt w' b (some ⟨q, 0, none⟩) L from ⟨h.1, (S6.next h).2, L6.off h.2.2⟩))
                  clear S6 L6 hTk
                  go_wp2_with fail
                  refine hWh.out.mono ?_
                  rintro e w7 ⟨rfl, S7, L7⟩
                  have hDr := Lib.hid ((drop_no S7.k (p : Int) hbr.out).mono fun e w' h => (show e = .returned (.bool false) ∧ SK W b n g (frm g n (x * n + (j + 1))) w' ∧ LstAt w' b (some ⟨q, 0, none⟩) L from ⟨h.1, (S7.next h).2, L7.off h.2.2⟩))
                  clear S7 L7 hWh c6
                  go_wp2_with fail
                  refine hDr.out.mono ?_
                  rintro e w8 ⟨rfl, S8, L8⟩
                  replace S8 := Lib.hid S8
                  replace L8 := Lib.hid L8
                  clear hDr
                  go_wp2_with fail
                  go_roundw
                  case rel => exact ⟨j + 1, by omega, by go_num, S8.out, L8.out⟩
                  case measure => simp [intOf]; omega
                · have hjn : j = n := by omega
                  rw [hjn] at HS3
                  rw [hjn]
                  have j3 : ¬ (n : Int) < (n : Int) := by omega
                  clear hj hlt3 hjn
                  go_wp2_with fail
                  go_roundw
                  case rel => exact ⟨x + 1, by omega, by go_num, by rw [Nat.succ_mul]; exact HS3.out, HL3.out⟩
                  case measure => simp [intOf]; omega
            · obtain ⟨z, hz⟩ : ∃ z, x = z + 1 := ⟨x - 1, by omega⟩
              obtain ⟨r, hr⟩ : ∃ r, L[z]? = some r := ⟨_, List.getElem?_eq_getElem (show z < L.length by omega)⟩
              have hrp : (r : Int) < (p : Int) := by
                have h1 := setL_at g 1024 z r (hL'.out ▸ hr)
                have h2 := hgp.out.2.2
                have h3 := sorted_pair (p := p) (p' := r) (k := x) (by omega) h2
                omega
              have x0 : 0 < (x : Int) := by omega
              have x6 : 0 < x := by omega
              have x7 : decide (0 < x) = true := decide_eq_true x6
              have x8 : decide (p ≤ r) = false := decide_eq_false (by omega)
              have x2 : (x : Int) - 1 = (z : Int) := by omega
              have x3 : (z : Int) < (m : Int) := by omega
              have x4 : ¬ (p : Int) ≤ (r : Int) := by omega
              have x5 : ¬ p ≤ r := by omega
              have a1 := cell z r hr
              clear hS hK hS0 HS2 HL2 hp hcx hqs hqb cell hr h0 hz
              go_wp2_with fail
              refine region_cls S (by kernel_rfl) (by kernel_rfl) (HS.out _ _ K.out (Below.refl _ _).drew) ?_
              repeat (first
                | go_big_quiet_skip
                | (go_big_quiet_want
                   go_big_quiet_op
                   first
                   | go_big_quiet_on
                   | (apply Exists.intro
                      refine ⟨fun y => ?_, ?_⟩
                      · first | exact rfl | with_reducible exact cW.out y
                      go_big_quiet_on)))
              refine wpQuiet_nil ?_
              intro y
              have HY := Lib.hid (HK.out _ y.h)
              obtain ⟨wy, hwy⟩ : ∃ wy, wy = y.w := ⟨_, rfl⟩
              rw [← hwy] at HY ⊢
              clear hwy a0 a1 HS HK K cW
              go_wp2_with fail
              go_loopw [11] (fun jv wr => ∃ j : Nat, j ≤ n ∧ jv = .int .i64 j ∧ SK W b n g (frm g n (x * n + j)) wr ∧ LstAt wr b (some ⟨q, 0, none⟩) L) (fun jv _ => n - (intOf jv).toNat)
              case atStart => exact ⟨0, by omega, rfl, HY.out.1, HY.out.2⟩
              case round =>
                clear HY
                obtain ⟨j, hj, rfl, HS3, HL3⟩ := hrel
                replace HS3 := Lib.hid HS3
                replace HL3 := Lib.hid HL3
                by_cases hlt3 : j < n
                · have j3 : (j : Int) < (n : Int) := by omega
                  have hTk := Lib.hid ((take_yes HS3.out.k (tab_grow hT'.out HS3.out.bl) (frm_least hgp.out.1 hgp.out.2.2 hlt3)).mono fun e w' h => (show e = .returned (.tuple #[.int .i64 (p : Int), .int .i64 (j : Int), .bool true]) ∧ SK W b n g (frm g n (x * n + (j + 1))) w' ∧ LstAt w' b (some ⟨q, 0, none⟩) L from
                    ⟨h.1, by rw [← frm_take hgp.out.1 hgp.out.2.2 hlt3]; exact (HS3.out.next h).2, HL3.out.off h.2.2⟩))
                  have hbr := Lib.hid (frm_broken (k := j) hn1.2 hgp.out.2.2 hlt3)
                  have hj16 : (j : Int) < 16 := by omega
                  clear HS3 HL3
                  go_wp2_with fail
                  refine hTk.out.mono ?_
                  rintro e w6 ⟨rfl, S6, L6⟩
                  have c6 : w6.cell? ⟨q, x, none⟩ = some (.int .i64 (p : Int)) := by
                    obtain ⟨q', hq', _, _, hc'⟩ := L6.c x p hLp.out
                    obtain rfl : q = q' := by simpa using hq'
                    exact hc'
                  have hWh := Lib.hid ((whole_yes S6.k (p : Int) hbr.out).mono fun e w' h => (show e = .returned (.bool false) ∧ SK W b n g (frm g n (x * n + (j + 1))) w' ∧ LstAt w' b (some ⟨q, 0, none⟩) L from ⟨h.1, (S6.next h).2, L6.off h.2.2⟩))
                  clear S6 L6 hTk
                  go_wp2_with fail
                  refine hWh.out.mono ?_
                  rintro e w7 ⟨rfl, S7, L7⟩
                  have hDr := Lib.hid ((drop_no S7.k (p : Int) hbr.out).mono fun e w' h => (show e = .returned (.bool false) ∧ SK W b n g (frm g n (x * n + (j + 1))) w' ∧ LstAt w' b (some ⟨q, 0, none⟩) L from ⟨h.1, (S7.next h).2, L7.off h.2.2⟩))
                  clear S7 L7 hWh c6
                  go_wp2_with fail
                  refine hDr.out.mono ?_
                  rintro e w8 ⟨rfl, S8, L8⟩
                  replace S8 := Lib.hid S8
                  replace L8 := Lib.hid L8
                  clear hDr
                  go_wp2_with fail
                  go_roundw
                  case rel => exact ⟨j + 1, by omega, by go_num, S8.out, L8.out⟩
                  case measure => simp [intOf]; omega
                · have hjn : j = n := by omega
                  rw [hjn] at HS3
                  rw [hjn]
                  have j3 : ¬ (n : Int) < (n : Int) := by omega
                  clear hj hlt3 hjn
                  go_wp2_with fail
                  go_roundw
                  case rel => exact ⟨x + 1, by omega, by go_num, by rw [Nat.succ_mul]; exact HS3.out, HL3.out⟩
                  case measure => simp [intOf]; omega
          · have hxm : x = m := by omega
            rw [hxm] at HS2
            rw [hxm]
            have jx : ¬ (m : Int) < (m : Int) := by omega
            have hz := Lib.hid (show ∀ p s, frm g n (m * n) p s = false from fun p s => by rw [hm'.out]; exact frm_end hgl.out p s)
            have hTk := Lib.hid ((take_no HS2.k (tab_grow hT'.out HS2.bl) hz.out).mono fun e w' h => HS2.next h)
            clear HS2 HL2 hx hlt2 hxm hx3
            go_wp2_with fail
            refine hTk.out.mono ?_
            rintro e w6 ⟨rfl, S6⟩
            have hFr := Lib.hid ((free_yes S6.k (tot_zero hz.out 1024)).mono fun e w' h => S6.next h)
            clear S6 hTk
            go_wp2_with fail
            refine hFr.out.mono ?_
            rintro e w7 ⟨rfl, S7⟩
            have hWk := Lib.hid ((works_any w7 (tab_grow hT'.out S7.bl)).mono fun e w' h => (show e = .returned (.bool true) ∧ Below W.heap.size W w' from ⟨h.1, S7.bl.trans (h.2.mono S7.bl.size)⟩))
            clear S7 hFr
            go_wp2_with fail
            refine hWk.out.mono ?_
            rintro e w8 ⟨rfl, h8⟩
            replace h8 := Lib.hid h8
            go_wp2
            go_ret
            exact ⟨rfl, h8.out⟩
theorem walk (pr : Int) (wpr : (Lit.int .u8 pr).wf = true) {H : Type} {enc : TypeId × Value → H} (v1 : Value) {d1 : DataW H} {p1 : List MemPlace} (W : World)
    (hv : Value.okWide Tryd.prog W .any 0 55 v1) (hd : DataW.Trod enc Tryd.prog W 0 (fun _ => true) true 55 v1 d1 p1) (hT : TabAt 0 Lib.deBruijn32tab W) :
    Calls Tryd.prog 5 #[.int .u8 pr, v1] W fun e w' => e = .returned (.bool true) ∧ Below W.heap.size W w' := by
  have b1 := bounds_u8 wpr
  obtain ⟨pr, rfl⟩ := Int.eq_ofNat_of_zero_le b1.1
  exact walkN pr (by omega) v1 W hv hd hT
set_option maxRecDepth 100000 in
theorem lifted (os : Os) (started : os.Started) (H : Type) (enc : TypeId × Value → H) :
    ReturnsInHanded {} Tryd.checked os 5 .any (fun w args => (Rows.slotsLeastSpec.pre enc Tryd.prog Tryd.f5 [] false w args ∧ laidMetH Tryd.prog Rows.slotsLeastRow.laid w) ∧ sizedMet enc Tryd.prog Tryd.f5 (OpenSpec.ofChange Rows.slotsLeastSpec) false w args) (Rows.slotsLeastSpec.post enc Tryd.prog Tryd.f5 false true false false) := by
  refine returnsInHanded_of_change_and (C := Tryd.checked) (X := fun w _ => laidMetH Tryd.prog Rows.slotsLeastRow.laid w) (fun _ _ _ hh h => h.of_heap hh) own started (by kernel_rfl) Tryd.func5
    (ChangeSpec.witness_at (enc := enc) (C := Tryd.checked) (os := os) (X := fun w _ => laidMetH Tryd.prog Rows.slotsLeastRow.laid w) false (laidWorld os) #[.int .u8 0, .slice none 0 0] 8 rfl (by kernel_rfl) (by kernel_rfl) (by kernel_rfl) (by kernel_rfl) (by kernel_rfl) (laid_met os _)) ?_
  intro W base args ds gs before hval0 hW _ _ hL _
  have hval : ∀ (j : Nat) t v, Tryd.f5.params[j]? = some t → args[j]? = some v → Value.okWide Tryd.prog W .any base t v := hval0
  have hW' := hW
  obtain ⟨p, q, hA0, hV, rfl, hfz, hnd⟩ := hW
  have hA : DataW.TrodAll enc Tryd.prog W 0 (fun _ => true) true Tryd.f5.params.toList args.toList ds p := hA0
  rw [Tryd.params5] at hA hval
  obtain ⟨v0, vs0, d0, ds0, p0, q0, hargs, rfl, rfl, h0, r0⟩ := trodAll_cons hA
  obtain ⟨v1, vs1, d1, ds1, p1, q1, rfl, rfl, rfl, h1, r1⟩ := trodAll_cons r0
  obtain ⟨rfl, rfl, rfl⟩ := trodAll_nil r1
  obtain rfl : args = #[v0, v1] := by cases args; simp_all
  obtain ⟨rfl, rfl⟩ := trodVars_none hV
  have k0 := h0
  have lt0 : ∀ x ∈ p0, x.block < W.heap.size := by obtain ⟨m, hm⟩ := k0; exact DataW.trod_lt m _ _ _ hm
  have k1 := h1
  have lt1 : ∀ x ∈ p1, x.block < W.heap.size := by obtain ⟨m, hm⟩ := k1; exact DataW.trod_lt m _ _ _ hm
  obtain ⟨per, rfl, rfl, rfl, wper⟩ := open_int Tryd.underlying5 (hval 0 5 v0 rfl rfl) h0
  clear hA0 hval0
  refine (walk per wper v1 W (hval 1 55 v1 rfl rfl) k1 (tabs_of_laid hL)).mono fun e W' ⟨he, bel⟩ => ?_
  subst he
  exact ⟨_, rfl, _, _, _, [], _, [], hW', trodAll_mk1 (shut_bool Tryd.underlying4 _), (trodAll_cons_mk (Below.trod laidOut (by kernel_rfl) (of_decide_eq_true (by kernel_rfl)) k0 bel lt0) (trodAll_cons_mk (Below.trod laidOut (by kernel_rfl) (of_decide_eq_true (by kernel_rfl)) k1 bel lt1) trodAll_mk0)), rfl, bel.frame _, fun h => by cases h⟩
theorem over : Rows.SlotsLeastSaid :=
  OpenClaim.holds_of_wide 5 Tryd.f5 rfl rfl rfl rfl rfl rfl rfl ⟨rfl, rfl, rfl, rfl, rfl⟩ rfl rfl rfl rfl rfl (by kernel_rfl) Tryd.func5 (by kernel_rfl)
    (of_decide_eq_true (by kernel_rfl)) (by unfold Func.isWrapper; first | (rw [if_pos (by decide +kernel)]; kernel_rfl) | (rw [if_neg (by decide +kernel)]; exact ⟨rfl, rfl⟩))
    (fun os started H enc _ => lifted os started H enc)
/-- The given statement. -/
theorem proved : Rows.SlotsLeastCardSaid :=
  Claim7.holds_tied_plain_at .later [] [.data] true (true, "fbfa39f87344ef7d9078c9c525e3ce029ec122fbba40f77485a2ad5596f726c3") false
    over (fun _ h => by cases h) (by kernel_rfl) (fun _ h => by cases h) slotsLeast_row_tie rfl ⟨rfl, rfl⟩ (by kernel_rfl) rfl
    (fun f fn hf hfn => by
      obtain rfl : f = 5 := Option.some.inj ((show Tryd.prog.funcNamed "fallow/fallowlaw13.SlotsLeast" = some 5 by kernel_rfl).symm.trans hf) |>.symm
      obtain rfl : fn = Tryd.f5 := (Option.some.inj (Tryd.func5.symm.trans hfn)).symm
      exact ⟨by kernel_rfl, fun j t ht => by
        rw [Tryd.params5] at ht
        rcases j with _ | _ | j
        · obtain rfl : t = 5 := by simpa using ht.symm
          exact (show Tryd.prog.wantsStandIn 5 = false by kernel_rfl)
        · obtain rfl : t = 55 := by simpa using ht.symm
          exact (show Tryd.prog.wantsStandIn 55 = false by kernel_rfl)
        · simp at ht⟩)
    (by kernel_rfl)
end Go.Proofs.YtkkjjdnlfdempaaDoor.sleast
