/- Proved: a book of slots does what the document says, step by step (SlotsPlays). For every input; the library's table is as its own text lays it (the card ties that). -/
import Derived.Test.YtkkjjdnlfdempaaDoorSlV
import Derived.Test.YtkkjjdnlfdempaaDoorSlVf
import Derived.Test.YtkkjjdnlfdempaaDoorSlAc
import Derived.Test.YtkkjjdnlfdempaaDoorTie
import Derived.Test.YtkkjjdnlfdempaaDoorCards
import Derived.Test.YtkkjjdnlfdempaaDoorCls
import Derived.SevenTiedAt
import Derived.ProofKit
import Derived.OpenShut
import Derived.ChangeOld
import Derived.Deep.LoopGhost
import Derived.Deep.DeepCutAuto
import Derived.Deep.CutBlock
import Derived.Deep.RegionHeld
namespace Go.Proofs.YtkkjjdnlfdempaaDoor.splays
open Go.ChangeShapes Go.WideShapes Go.ChangeAt Go.RowKit Go.Shelf
set_option linter.unusedVariables false
set_option maxRecDepth 100000

set_option maxHeartbeats 4000000 in
theorem walk_no (n : Int) (A : Option Addr) (len cap : Nat) (hlen : len ≤ 9223372036854775807) (hn : n < 1 ∨ 16 < n) (W : World) (hT : TabAt 0 Lib.deBruijn32tab W) :
    Calls Tryd.prog 3 #[.int .i64 n, .slice A len cap] W fun e w' => e = .returned (.bool true) ∧ Below W.heap.size W w' := by
  have hA := Lib.hid (new_no n W hn)
  have hR := Lib.hid (rNew_no n W hn)
  have hT' := Lib.hid hT
  clear hn hT
  go_enter Tryd.func3, Tryd.ntmps3
  go_wp2_with fail
  refine hA.out.mono ?_
  rintro e w1 ⟨rfl, rfl⟩
  go_wp2_with fail
  refine hR.out.mono ?_
  rintro e w2 ⟨rfl, hb⟩
  unfold two
  have hWk := Lib.hid (show Calls Tryd.prog 9 #[] (w2.alloc (.cells #[.int .i64 0, .slice none 0 0] 27)) fun e w' => e = .returned (.bool true) ∧ Below W.heap.size W w' from by
    have k := hb.alloc hb.size (.cells #[.int .i64 0, .slice none 0 0] 27)
    exact (works_any _ (tab_grow hT'.out k)).mono fun e w' h => ⟨h.1, k.trans (h.2.mono k.size)⟩)
  clear hb
  go_wp2_with fail
  refine hWk.out.mono ?_
  rintro e w3 ⟨rfl, h3⟩
  replace h3 := Lib.hid h3
  go_wp2
  go_ret
  exact ⟨rfl, h3.out⟩

set_option maxHeartbeats 8000000 in
theorem walk_yes (n : Nat) (hn : 1 ≤ n ∧ n ≤ 16) (A : Option Addr) (len cap : Nat) (hlen : len ≤ 9223372036854775807) (W : World) (hP : ActsIn W W.heap.size A len) (hT : TabAt 0 Lib.deBruijn32tab W) :
    Calls Tryd.prog 3 #[.int .i64 (n : Int), .slice A len cap] W fun e w' => e = .returned (.bool true) ∧ Below W.heap.size W w' := by
  have hA := Lib.hid (new_yes n W hn)
  have hT' := Lib.hid hT
  replace hP := Lib.hid hP
  clear hT
  go_enter Tryd.func3, Tryd.ntmps3
  go_wp2_with fail
  refine hA.out.mono ?_
  intro e w1 h
  obtain ⟨b, rfl, S1⟩ := SK.fresh h
  have hR := Lib.hid ((rNew_yes n b w1 hn).mono fun e w' h => (show e = two true (.agg #[.int .i64 n, .slice none 0 0]) ∧ SK W b n gN fN w' from ⟨h.1, S1.grow h.2⟩))
  clear h S1 hA
  go_wp2_with fail
  refine hR.out.mono ?_
  rintro e w2 ⟨rfl, S2⟩
  have P0 := Lib.hid (PS.start S2)
  clear S2 hR
  unfold two
  go_upto_region 3 with (fail)
  generalize (w2.alloc (.cells #[.int .i64 (n : Int), .slice none 0 0] 27)) = w3 at *
  generalize w2.heap.size = Q at *
  clear w1
  go_wp2_with fail
  go_loopw [8] (fun i wr => ∃ (k : Nat) (g : Nat → Bool) (f : Nat → Nat → Bool) (A1 : Option Addr) (n1 c1 : Nat) (l : List Pg), k ≤ len ∧ k ≤ 60 ∧ i = .int .i64 k ∧ PS W b Q n g f g f (.slice A1 n1 c1) (.slice A1 n1 c1) l wr) (fun i _ => 61 - (intOf i).toNat)
  case atStart => exact ⟨0, gN, fN, none, 0, 0, [], by omega, by omega, rfl, P0.out⟩
  case round =>
    clear P0
    obtain ⟨k, g, f, A1, n1, k1, l, hk, hk60, rfl, HP⟩ := hrel
    replace HP := Lib.hid HP
    by_cases hlt : k < len ∧ k < 60
    · have j1 : (k : Int) < (len : Int) := by omega
      have j2 : (k : Int) < 60 := by omega
      obtain ⟨bq, off, rfl, hbq, x0, x1, x2, ⟨r0, r1, r2⟩, c0, c1, c2⟩ := (hP.out.below HP.out.s.bl) k hlt.1
      have hlt' := Lib.hid hlt
      clear hlt hbq hk hk60
      have d0 : (wr.alloc (.cells #[.int .i64 x0, .int .i64 x1, .int .i64 x2] 32)).cell? ⟨wr.heap.size, 0, none⟩ = some (.int .i64 x0) := by rw [World.cell?_alloc_at (hn := rfl)]; rfl
      have d1 : (wr.alloc (.cells #[.int .i64 x0, .int .i64 x1, .int .i64 x2] 32)).cell? ⟨wr.heap.size, 1, none⟩ = some (.int .i64 x1) := by rw [World.cell?_alloc_at (hn := rfl)]; rfl
      have d2 : (wr.alloc (.cells #[.int .i64 x0, .int .i64 x1, .int .i64 x2] 32)).cell? ⟨wr.heap.size, 2, none⟩ = some (.int .i64 x2) := by rw [World.cell?_alloc_at (hn := rfl)]; rfl
      have hq : wr.heap.size < (wr.alloc (.cells #[.int .i64 x0, .int .i64 x1, .int .i64 x2] 32)).heap.size := by simp
      have X1 := Lib.hid (show AcAt _ _ _ _ _ from ⟨d0, d1, d2, hq⟩)
      have P1 := Lib.hid (HP.out.grow ((Below.refl wr.heap.size wr).alloc (Nat.le_refl _) (.cells #[.int .i64 x0, .int .i64 x1, .int .i64 x2] 32)))
      have hQ := Lib.hid (show Q < wr.heap.size ∧ b < wr.heap.size from ⟨HP.out.lq, HP.out.s.k.lb⟩)
      clear hq HP
      go_upto_region 11 with (fail)
      generalize wr.alloc (.cells #[.int .i64 x0, .int .i64 x1, .int .i64 x2] 32) = w4 at *
      generalize wr.heap.size = q at *
      clear c0 c1 c2 wr
      go_upto_block 2 with (fail)
      go_cut [10, 11] (fun x want w' => ∃ (r : Bool) (g' : Nat → Bool) (f' : Nat → Nat → Bool) (A2 : Option Addr) (n2 c2 : Nat) (l' : List Pg), x = .bool r ∧ want = .bool r ∧ PS W b Q n g' f' g' f' (.slice A2 n2 c2) (.slice A2 n2 c2) l' w' ∧ AcAt w' q x0 x1 x2)
      case first =>
        have nq : q ≠ b := by have := hQ.out; omega
        have nQ : q ≠ Q := by have := hQ.out; omega
        have hb4 := Lib.hid (tab_grow hT'.out P1.out.s.bl)
        have hok := Lib.hid (show Ok n g f ∧ ∀ p, g p = true → p < 1024 from ⟨P1.out.s.ok, P1.out.s.k.gl⟩)
        have nq' := Lib.hid (And.intro nq nQ)
        clear nq nQ
        by_cases h0 : x0 = 0
        · subst h0
          have hA := add_any P1.out.s.k x1
          have hB := fun (w : World) (G : Nat → Bool) (F : Nat → Nat → Bool) (P : PS W b Q n G F g f (.slice A1 n1 k1) (.slice A1 n1 k1) l w) (X : AcAt w q 0 x1 x2) => P.doc X (rAdd P.r P.s.k.lb hok.out.1 x1)
          unfold two at hB
          obtain ⟨R, hR⟩ : ∃ R, R = mayAdd g x1 := ⟨_, rfl⟩
          rw [← hR] at hA hB
          obtain ⟨G, hG⟩ : ∃ G, G = if R then upd g x1.toNat true else g := ⟨_, rfl⟩
          obtain ⟨F, hF⟩ : ∃ F, F = if R then updP f x1.toNat (full n) else f := ⟨_, rfl⟩
          rw [← hG, ← hF] at hA hB
          have hA1 := Lib.hid (P1.out.own X1.out nq'.out.1 hA)
          replace hB := Lib.hid hB
          clear hR hG hF hA P1 X1
          go_wp2_with fail
          refine hA1.out.mono ?_
          rintro e w5 ⟨rfl, P5, X5⟩
          have hB1 := Lib.hid (hB.out w5 G F P5 X5)
          have c0 := P5.c0
          have c1 := P5.c1
          have d1 := X5.c1
          clear hA1 hB P5 X5 d0 d2
          go_wp2_with fail
          refine hB1.out.mono ?_
          rintro e w6 ⟨A', n', c', l', rfl, P6, X6⟩
          have c0 := P6.c0
          have c1 := P6.c1
          have z0 := P6.z0
          have z1 := P6.z1
          have P6 := Lib.hid P6
          have X6 := Lib.hid X6
          clear hB1 d1
          go_wp2_with fail
          go_meet
          exact ⟨R, G, F, A', n', c', l', rfl, rfl, P6.out.store, X6.out.off (stQ_off _ _ _ _) nq'.out.2⟩
        · have m0 : (x0 == 0) = false := by simpa using h0
          by_cases h1 : x0 = 1
          · subst h1
            have hA1 := Lib.hid (P1.out.take X1.out nq'.out.1 hb4.out)
            clear h0 m0 P1 X1
            go_wp2_with fail
            refine hA1.out.mono ?_
            rintro e w5 ⟨y0, y1, r, F, rfl, P5, X5, hB⟩
            replace hB := Lib.hid hB
            have c0 := P5.c0
            have c1 := P5.c1
            clear hA1 P5 X5 d0 d1 d2
            go_wp2_with fail
            refine hB.out.mono ?_
            rintro e w6 ⟨A', n', c', l', rfl, P6, X6⟩
            have P7 := Lib.hid (P6.grow ((Below.refl _ _).alloc (Nat.le_refl _) (.cells #[.int .i64 (n : Int), .slice A' n' c'] 27)))
            have X7 := Lib.hid (X6.grow ((Below.refl _ _).alloc (Nat.le_refl _) (.cells #[.int .i64 (n : Int), .slice A' n' c'] 27)))
            have e0 : (w6.alloc (.cells #[.int .i64 (n : Int), .slice A' n' c'] 27)).cell? ⟨w6.heap.size, 0, none⟩ = some (.int .i64 (n : Int)) := by simp
            have e1 : (w6.alloc (.cells #[.int .i64 (n : Int), .slice A' n' c'] 27)).cell? ⟨w6.heap.size, 1, none⟩ = some (.slice A' n' c') := by simp
            clear hB c0 c1 P6 X6
            go_upto_region 25 with (fail)
            generalize (w6.alloc (.cells #[.int .i64 (n : Int), .slice A' n' c'] 27)) = w7 at *
            generalize w6.heap.size = q7 at *
            have c0 := P7.out.c0
            have c1 := P7.out.c1
            have z0 := P7.out.z0
            have z1 := P7.out.z1
            go_wp2_with fail
            go_meet
            exact ⟨true, g, F, A', n', c', l', rfl, rfl, P7.out.store, X7.out.off (stQ_off _ _ _ _) nq'.out.2⟩
          · have m1 : (x0 == 1) = false := by simpa using h1
            by_cases h2 : x0 = 2
            · subst h2
              have hA := put_any P1.out.s.k x1 x2
              have hB := fun (w : World) (F : Nat → Nat → Bool) (P : PS W b Q n g F g f (.slice A1 n1 k1) (.slice A1 n1 k1) l w) (X : AcAt w q 2 x1 x2) => P.doc X (rPut P.r P.s.k.lb hok.out.1 x1 x2)
              unfold two at hB
              obtain ⟨R, hR⟩ : ∃ R, R = okPut n g f x1 x2 := ⟨_, rfl⟩
              rw [← hR] at hA hB
              obtain ⟨F, hF⟩ : ∃ F, F = if R then upd2 f x1.toNat x2.toNat true else f := ⟨_, rfl⟩
              rw [← hF] at hA hB
              have hA1 := Lib.hid (P1.out.own X1.out nq'.out.1 hA)
              replace hB := Lib.hid hB
              clear hR hF hA P1 X1 h0 h1 m0 m1
              go_wp2_with fail
              refine hA1.out.mono ?_
              rintro e w5 ⟨rfl, P5, X5⟩
              have hB1 := Lib.hid (hB.out w5 F P5 X5)
              have c0 := P5.c0
              have c1 := P5.c1
              have d1 := X5.c1
              have d2 := X5.c2
              clear hA1 hB P5 X5 d0
              go_wp2_with fail
              refine hB1.out.mono ?_
              rintro e w6 ⟨A', n', c', l', rfl, P6, X6⟩
              have c0 := P6.c0
              have c1 := P6.c1
              have z0 := P6.z0
              have z1 := P6.z1
              have P6 := Lib.hid P6
              have X6 := Lib.hid X6
              clear hB1 d1 d2
              go_wp2_with fail
              go_meet
              exact ⟨R, g, F, A', n', c', l', rfl, rfl, P6.out.store, X6.out.off (stQ_off _ _ _ _) nq'.out.2⟩
            · have m2 : (x0 == 2) = false := by simpa using h2
              by_cases h3 : x0 = 3
              · subst h3
                have hA := drop_any P1.out.s.k x1
                have hB := fun (w : World) (G : Nat → Bool) (F : Nat → Nat → Bool) (P : PS W b Q n G F g f (.slice A1 n1 k1) (.slice A1 n1 k1) l w) (X : AcAt w q 3 x1 x2) => P.doc X (rDrop P.r P.s.k.lb hok.out.1 x1)
                unfold two at hB
                obtain ⟨R, hR⟩ : ∃ R, R = okW n g f x1 := ⟨_, rfl⟩
                rw [← hR] at hB
                unfold okW at hR
                rw [← hR] at hA
                obtain ⟨G, hG⟩ : ∃ G, G = if R then upd g x1.toNat false else g := ⟨_, rfl⟩
                obtain ⟨F, hF⟩ : ∃ F, F = if R then updP f x1.toNat (fun _ => false) else f := ⟨_, rfl⟩
                rw [← hG, ← hF] at hA hB
                have hA1 := Lib.hid (P1.out.own X1.out nq'.out.1 hA)
                replace hB := Lib.hid hB
                clear hR hG hF hA P1 X1 h0 h1 h2 m0 m1 m2
                go_wp2_with fail
                refine hA1.out.mono ?_
                rintro e w5 ⟨rfl, P5, X5⟩
                have hB1 := Lib.hid (hB.out w5 G F P5 X5)
                have c0 := P5.c0
                have c1 := P5.c1
                have d1 := X5.c1
                clear hA1 hB P5 X5 d0 d2
                go_wp2_with fail
                refine hB1.out.mono ?_
                rintro e w6 ⟨A', n', c', l', rfl, P6, X6⟩
                have c0 := P6.c0
                have c1 := P6.c1
                have z0 := P6.z0
                have z1 := P6.z1
                have P6 := Lib.hid P6
                have X6 := Lib.hid X6
                clear hB1 d1
                go_wp2_with fail
                go_meet
                exact ⟨R, G, F, A', n', c', l', rfl, rfl, P6.out.store, X6.out.off (stQ_off _ _ _ _) nq'.out.2⟩
              · have m3 : (x0 == 3) = false := by simpa using h3
                have hC := Lib.hid (copy P1.out.s.k)
                go_wp2_with fail
                refine hC.out.mono ?_
                intro e w5 h
                obtain ⟨b2, rfl, S5⟩ := SK.fresh h
                have d1 := (X1.out.grow S5.bl).c1
                have d2 := (X1.out.grow S5.bl).c2
                have hA1 := Lib.hid ((add_any S5.k x1).mono fun e w' h => (show ∃ x G F, e = .returned (.bool x) ∧ SK w4 b2 n G F w' from ⟨_, _, _, S5.next h⟩))
                clear h hC S5 d0
                go_wp2_with fail
                refine hA1.out.mono ?_
                rintro e w6 ⟨x, G, F, rfl, S6⟩
                have hA2 := Lib.hid ((take_any S6.k (tab_grow hb4.out S6.bl)).mono fun e w' h => (show ∃ v G F, e = .returned v ∧ SK w4 b2 n G F w' from by
                  rcases h with ⟨_, e1, hb⟩ | ⟨p, s, _, hX⟩
                  · exact ⟨_, _, _, e1, S6.grow hb⟩
                  · exact ⟨_, _, _, S6.next hX⟩))
                have d1 := (X1.out.grow S6.bl).c1
                have d2 := (X1.out.grow S6.bl).c2
                clear hA1 S6
                go_wp2_with fail
                refine hA2.out.mono ?_
                rintro e w7 ⟨x', G2, F2, rfl, S7⟩
                have d1 := (X1.out.grow S7.bl).c1
                have d2 := (X1.out.grow S7.bl).c2
                have hA3 := Lib.hid ((put_any S7.k x1 x2).mono fun e w' h => (show ∃ x, e = .returned (.bool x) ∧ Below w4.heap.size w4 w' from ⟨_, (S7.next h).1, (S7.next h).2.bl⟩))
                clear hA2 S7
                go_wp2_with fail
                refine hA3.out.mono ?_
                rintro e w8 ⟨x'', rfl, hb8⟩
                replace hb8 := Lib.hid hb8
                clear hA3 d1 d2
                go_wp2_with fail
                go_meet
                exact ⟨true, g, f, A1, n1, k1, l, rfl, rfl, P1.out.grow hb8.out, X1.out.grow hb8.out⟩
      case rest =>
        clear P1 X1 d0 d1 d2
        obtain ⟨r, g', f', A2, n2, c2, l', rfl, rfl, P5, X5⟩ := hcut
        obtain ⟨S, hS0⟩ : ∃ S, S = fun w => PS W b Q n g' f' g' f' (.slice A2 n2 c2) (.slice A2 n2 c2) l' w ∧ AcAt w q x0 x1 x2 := ⟨_, rfl⟩
        have HS := Lib.hid (show ∀ w w', S w → Below w.heap.size w w' → S w' from fun w w' h k => by rw [hS0] at h ⊢; exact ⟨h.1.grow k, h.2.grow k⟩)
        have HK := Lib.hid (show ∀ w, S w → PS W b Q n g' f' g' f' (.slice A2 n2 c2) (.slice A2 n2 c2) l' w ∧ AcAt w q x0 x1 x2 from fun w h => by rw [hS0] at h; exact h)
        have K5 := Lib.hid (show S _ from by rw [hS0]; exact ⟨P5, X5⟩)
        have a0 : ∀ y : Wd S, y.w.cell? ⟨Q, 0, none⟩ = some (.int .i64 (n : Int)) := fun y => (HK.out _ y.h).1.c0
        have a1 : ∀ y : Wd S, y.w.cell? ⟨Q, 1, none⟩ = some (.slice A2 n2 c2) := fun y => (HK.out _ y.h).1.c1
        have a2 : ∀ y : Wd S, y.w.cell? ⟨q, 1, none⟩ = some (.int .i64 x1) := fun y => (HK.out _ y.h).2.c1
        obtain ⟨T, hT0⟩ : ∃ T, T = tot f' 1024 := ⟨_, rfl⟩
        obtain ⟨B, hB0⟩ : ∃ B, B = okW n g' f' x1 := ⟨_, rfl⟩
        obtain ⟨L, hL0⟩ : ∃ L, L = setL g' 1024 := ⟨_, rfl⟩
        have hLl : L.length ≤ 1024 := by rw [hL0, setL_length]; exact cnt_le g' 1024
        have cF := Lib.hid (cls_call (S := S) (fun w3 hw => (free_any (HK.out _ hw).1.s.k).mono fun e w' h => (show e = .returned (.int .i64 (T : Nat)) ∧ S w' from ⟨by rw [hT0]; exact h.1, HS.out _ _ hw h.2⟩)))
        have cG := Lib.hid (cls_call (S := S) (fun w3 hw => (rFree (HK.out _ hw).1.r (HK.out _ hw).1.s.ok).mono fun e w' h => (show e = .returned (.int .i64 (T : Nat)) ∧ S w' from ⟨by rw [hT0]; exact h.1, HS.out _ _ hw h.2⟩)))
        have cW := Lib.hid (cls_call (S := S) (fun w3 hw => (whole (HK.out _ hw).1.s.k x1).mono fun e w' h => (show e = .returned (.bool B) ∧ S w' from ⟨by rw [hB0]; exact h.1, HS.out _ _ hw h.2⟩)))
        have cV := Lib.hid (cls_call (S := S) (fun w3 hw => (rWhole (HK.out _ hw).1.r (HK.out _ hw).1.s.ok x1).mono fun e w' h => (show e = .returned (.bool B) ∧ S w' from ⟨by rw [hB0]; exact h.1, HS.out _ _ hw h.2⟩)))
        have hPg := Lib.hid (show ∀ w, S w → Calls Tryd.prog 23 #[.pointer (some ⟨b, 0, none⟩)] w fun e w' => ∃ A c, e = .returned (.slice A L.length c) ∧ LstAt w' b A L ∧ w'.ownsRow w.heap.size 3 1 (.slice A L.length c) L.length (L.map intv) ∧ Below w.heap.size w w' from fun w hw =>
          (pages_any (HK.out _ hw).1.s.k).mono fun e w' h => by rw [← hL0] at h; exact ListPost.both (HK.out _ hw).1.s.k.lb h)
        have hNu := Lib.hid (show ∀ w, S w → Calls Tryd.prog 25 #[.agg #[.int .i64 (n : Int), .slice A2 n2 c2]] w fun e w' => ∃ A c, e = .returned (.slice A L.length c) ∧ LstAt w' b A L ∧ Below w.heap.size w w' from fun w hw =>
          (rNumbers (HK.out _ hw).1.r).mono fun e w' h => by rw [← hL0] at h; exact ListPost.lst (HK.out _ hw).1.s.k.lb h)
        clear P5 X5 hT0 hB0 hL0 hS0
        go_wp2_with fail
        refine region_cls S (by kernel_rfl) (by kernel_rfl) (HS.out _ _ K5.out (Below.refl _ _).drew) ?_
        repeat (first
          | go_big_quiet_skip
          | (go_big_quiet_want
             go_big_quiet_op
             first
             | go_big_quiet_on
             | (apply Exists.intro
                refine ⟨fun y => ?_, ?_⟩
                · first | exact rfl | with_reducible exact cF.out y | with_reducible exact cG.out y | with_reducible exact cW.out y | with_reducible exact cV.out y
                go_big_quiet_on)))
        refine wpQuiet_nil ?_
        intro y
        have Y1 := Lib.hid y.h
        generalize y.w = w6 at *
        clear a0 a1 a2 cF cG cW cV y K5
        have hP1 := Lib.hid (hPg.out _ Y1.out)
        clear hPg
        go_wp2_with fail
        refine hP1.out.mono ?_
        rintro e w7 ⟨A3, c3, rfl, m1, m2, m3⟩
        have Y2 := Lib.hid (HS.out _ _ Y1.out m3)
        have M := Lib.hid (And.intro m1 (And.intro m2 m3))
        have c0 := (HK.out _ Y2.out).1.c0
        have c1 := (HK.out _ Y2.out).1.c1
        have hN1 := Lib.hid (hNu.out _ Y2.out)
        clear hP1 hNu m1 m2 m3
        go_wp2_with fail
        refine hN1.out.mono ?_
        rintro e w8 ⟨A4, c4, rfl, m4, m5⟩
        have Y3 := Lib.hid (HS.out _ _ Y2.out m5)
        have M2 := Lib.hid (show w8.ownsRow w6.heap.size 3 1 (.slice A3 L.length c3) L.length (L.map intv) from ownsRow_heap M.out.2.1 fun r hr => m5.block r (M.out.2.1.lt r hr).2)
        have B8 := Lib.hid (M.out.2.2.trans (m5.mono M.out.2.2.size))
        have hSa := Lib.hid (rsame (k1 := c3) (k2 := c4) hLl (M.out.1.grow m5) m4)
        clear hN1 c0 c1 m4 m5 M Y2
        go_wp2_with fail
        refine hSa.out.mono ?_
        rintro e w9 ⟨rfl, m6⟩
        have M3 := Lib.hid (show w9.ownsRow w6.heap.size 3 1 (.slice A3 L.length c3) L.length (L.map intv) from ownsRow_heap M2.out fun r hr => m6.block r (M2.out.lt r hr).2)
        have B9 := Lib.hid (B8.out.trans (m6.mono B8.out.size))
        obtain ⟨N, hN⟩ : ∃ N, N = L.length := ⟨_, rfl⟩
        rw [← hN] at M3 hLl ⊢
        have hNi : (N : Int) ≤ 1024 := by omega
        clear hSa m6 M2 B8 Y3 hN
        go_wp2_with fail
        go_loopw [21] (fun i wr => ∃ (m : Nat) (xs : List Value), m ≤ N ∧ i = .int .i64 m ∧ wr.ownsRow w6.heap.size 3 1 (.slice A3 N c3) N xs ∧ Below w6.heap.size w6 wr) (fun i _ => N - (intOf i).toNat)
        case atStart => exact ⟨0, _, by omega, rfl, M3.out, B9.out⟩
        case round =>
          clear M3 B9
          obtain ⟨m, xs, hm, rfl, ho, hb⟩ := hrel
          have hm2 : (m : Int) ≤ 1024 := by omega
          by_cases hmN : m < N
          · have jm : (m : Int) < (N : Int) := by omega
            obtain ⟨qp, c5, e5, y1, y2, y3, _⟩ := own_form ho (by omega)
            obtain ⟨rfl, rfl⟩ : A3 = some ⟨qp, 0, none⟩ ∧ c3 = c5 := by simpa using e5
            have ct : ∃ u, wr.cell? ⟨qp, m, none⟩ = some u := by
              have := World.ownsRow.cellAt ho m (by omega)
              rw [List.getElem?_eq_getElem (by have := ho.1; omega)] at this
              exact ⟨_, this⟩
            obtain ⟨u, ct⟩ := ct
            have cf := World.ownsRow.frozenAt ho m
            have o2 := Lib.hid (World.ownsRow.stored ho m (.int .i64 (-1))).1
            have b2 := Lib.hid (hb.setCell (p := ⟨qp, m, none⟩) y1 (.int .i64 (-1)))
            clear ho hb e5
            go_wp2_with fail
            go_roundw
            case rel => exact ⟨m + 1, _, by omega, by go_num, o2.out, b2.out⟩
            case measure => simp [intOf]; omega
          · have jm : ¬ (m : Int) < (N : Int) := by omega
            have Y4 := Lib.hid (HK.out _ (HS.out _ _ Y1.out hb)).1
            clear ho hb hmN hm
            go_wp2_with fail
            go_roundw
            case rel => exact ⟨k + 1, g', f', A2, n2, c2, l', by have := hlt'.out.1; omega, by have := hlt'.out.2; omega, by go_num, Y4.out⟩
            case measure => have := hlt'.out.2; simp [intOf]; omega
    · have hB := Lib.hid (show ∀ w', Below wr.heap.size wr w' → Calls Tryd.prog 9 #[] w' fun e w2 => e = .returned (.bool true) ∧ Below W.heap.size W w2 from fun w' h => by
        have k := HP.out.s.bl.trans (h.mono HP.out.s.bl.size)
        exact (works_any _ (tab_grow hT'.out k)).mono fun e w' h => ⟨h.1, k.trans (h.2.mono k.size)⟩)
      have hcase : ((k : Int) < len ∧ ¬ (k : Int) < 60) ∨ ¬ (k : Int) < len := by omega
      clear hk hk60 hlt hP HP
      rcases hcase with ⟨j1, j2⟩ | j1
      all_goals
        go_wp2_with fail
        refine (hB.out _ (by first | exact Below.refl _ _ | exact (Below.refl _ _).drew)).mono ?_
        rintro e w3 ⟨rfl, h3⟩
        replace h3 := Lib.hid h3
        go_wp2
        go_ret
        exact ⟨rfl, h3.out⟩
theorem walk {H : Type} {enc : TypeId × Value → H} (n : Int) (wn : (Lit.int .i64 n).wf = true) (v1 : Value) {d1 : DataW H} {p1 : List MemPlace} (W : World)
    (hv : Value.okWide Tryd.prog W .any 0 22 v1) (hd : DataW.Trod enc Tryd.prog W 0 (fun _ => true) true 22 v1 d1 p1) (hT : TabAt 0 Lib.deBruijn32tab W) :
    Calls Tryd.prog 3 #[.int .i64 n, v1] W fun e w' => e = .returned (.bool true) ∧ Below W.heap.size W w' := by
  obtain ⟨A, len, cap, rfl, hcap, hm, hP⟩ := acts_of hv hd
  have hlen : len ≤ 9223372036854775807 := by unfold maxLen at hm; omega
  by_cases h1 : n < 1 ∨ 16 < n
  · exact walk_no n A len cap hlen h1 W hT
  · obtain ⟨q, rfl⟩ := Int.eq_ofNat_of_zero_le (show 0 ≤ n by omega)
    exact walk_yes q (by omega) A len cap hlen W hP hT
set_option maxRecDepth 100000 in
theorem lifted (os : Os) (started : os.Started) (H : Type) (enc : TypeId × Value → H) :
    ReturnsInHanded {} Tryd.checked os 3 .any (fun w args => (Rows.slotsPlaysSpec.pre enc Tryd.prog Tryd.f3 [] false w args ∧ laidMetH Tryd.prog Rows.slotsPlaysRow.laid w) ∧ sizedMet enc Tryd.prog Tryd.f3 (OpenSpec.ofChange Rows.slotsPlaysSpec) false w args) (Rows.slotsPlaysSpec.post enc Tryd.prog Tryd.f3 false true false false) := by
  refine returnsInHanded_of_change_and (C := Tryd.checked) (X := fun w _ => laidMetH Tryd.prog Rows.slotsPlaysRow.laid w) (fun _ _ _ hh h => h.of_heap hh) own started (by kernel_rfl) Tryd.func3
    (ChangeSpec.witness_at (enc := enc) (C := Tryd.checked) (os := os) (X := fun w _ => laidMetH Tryd.prog Rows.slotsPlaysRow.laid w) false (laidWorld os) #[.int .i64 0, .slice none 0 0] 8 rfl (by kernel_rfl) (by kernel_rfl) (by kernel_rfl) (by kernel_rfl) (by kernel_rfl) (laid_met os _)) ?_
  intro W base args ds gs before hval0 hW _ _ hL _
  have hval : ∀ (j : Nat) t v, Tryd.f3.params[j]? = some t → args[j]? = some v → Value.okWide Tryd.prog W .any base t v := hval0
  have hW' := hW
  obtain ⟨p, q, hA0, hV, rfl, hfz, hnd⟩ := hW
  have hA : DataW.TrodAll enc Tryd.prog W 0 (fun _ => true) true Tryd.f3.params.toList args.toList ds p := hA0
  rw [Tryd.params3] at hA hval
  obtain ⟨v0, vs0, d0, ds0, p0, q0, hargs, rfl, rfl, h0, r0⟩ := trodAll_cons hA
  obtain ⟨v1, vs1, d1, ds1, p1, q1, rfl, rfl, rfl, h1, r1⟩ := trodAll_cons r0
  obtain ⟨rfl, rfl, rfl⟩ := trodAll_nil r1
  obtain rfl : args = #[v0, v1] := by cases args; simp_all
  obtain ⟨rfl, rfl⟩ := trodVars_none hV
  have k0 := h0
  have lt0 : ∀ x ∈ p0, x.block < W.heap.size := by obtain ⟨m, hm⟩ := k0; exact DataW.trod_lt m _ _ _ hm
  have k1 := h1
  have lt1 : ∀ x ∈ p1, x.block < W.heap.size := by obtain ⟨m, hm⟩ := k1; exact DataW.trod_lt m _ _ _ hm
  obtain ⟨per, rfl, rfl, rfl, wper⟩ := open_int Tryd.underlying3 (hval 0 3 v0 rfl rfl) h0
  clear hA0 hval0
  refine (walk per wper v1 W (hval 1 22 v1 rfl rfl) k1 (tabs_of_laid hL)).mono fun e W' ⟨he, bel⟩ => ?_
  subst he
  exact ⟨_, rfl, _, _, _, [], _, [], hW', trodAll_mk1 (shut_bool Tryd.underlying4 _), (trodAll_cons_mk (Below.trod laidOut (by kernel_rfl) (of_decide_eq_true (by kernel_rfl)) k0 bel lt0) (trodAll_cons_mk (Below.trod laidOut (by kernel_rfl) (of_decide_eq_true (by kernel_rfl)) k1 bel lt1) trodAll_mk0)), rfl, bel.frame _, fun h => by cases h⟩
theorem over : Rows.SlotsPlaysSaid :=
  OpenClaim.holds_of_wide 3 Tryd.f3 rfl rfl rfl rfl rfl rfl rfl ⟨rfl, rfl, rfl, rfl, rfl⟩ rfl rfl rfl rfl rfl (by kernel_rfl) Tryd.func3 (by kernel_rfl)
    (of_decide_eq_true (by kernel_rfl)) (by unfold Func.isWrapper; first | (rw [if_pos (by decide +kernel)]; kernel_rfl) | (rw [if_neg (by decide +kernel)]; exact ⟨rfl, rfl⟩))
    (fun os started H enc _ => lifted os started H enc)
/-- The given statement. -/
theorem proved : Rows.SlotsPlaysCardSaid :=
  Claim7.holds_tied_plain_at .later [] [.data] true (true, "fbfa39f87344ef7d9078c9c525e3ce029ec122fbba40f77485a2ad5596f726c3") false
    over (fun _ h => by cases h) (by kernel_rfl) (fun _ h => by cases h) slotsPlays_row_tie rfl ⟨rfl, rfl⟩ (by kernel_rfl) rfl
    (fun f fn hf hfn => by
      obtain rfl : f = 3 := Option.some.inj ((show Tryd.prog.funcNamed "fallow/fallowlaw13.SlotsPlays" = some 3 by kernel_rfl).symm.trans hf) |>.symm
      obtain rfl : fn = Tryd.f3 := (Option.some.inj (Tryd.func3.symm.trans hfn)).symm
      exact ⟨by kernel_rfl, fun j t ht => by
        rw [Tryd.params3] at ht
        rcases j with _ | _ | j
        · obtain rfl : t = 3 := by simpa using ht.symm
          exact (show Tryd.prog.wantsStandIn 3 = false by kernel_rfl)
        · obtain rfl : t = 22 := by simpa using ht.symm
          exact (show Tryd.prog.wantsStandIn 22 = false by kernel_rfl)
        · simp at ht⟩)
    (by kernel_rfl)
end Go.Proofs.YtkkjjdnlfdempaaDoor.splays
