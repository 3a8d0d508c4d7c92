/- Proved: a jump to a label is the jump by so many words (the card of AsmLabels): for every input; the listed variables are tied to the program's text. -/
import Derived.Test.YtdkggahkfheocaaGreatDoorAsF
import Derived.Test.YtdkggahkfheocaaGreatDoorAsRp
import Derived.Test.YtdkggahkfheocaaGreatDoorAsBl
import Derived.Test.YtdkggahkfheocaaGreatDoorAsWd
import Derived.Test.YtdkggahkfheocaaGreatDoorNew0
import Derived.Test.YtdkggahkfheocaaGreatDoorIsD
import Derived.Test.YtdkggahkfheocaaGreatDoorTie
import Derived.Test.YtdkggahkfheocaaGreatDoorCards
import Derived.SevenTiedAt
import Derived.SizedLaws
import Derived.ProofKit
import Derived.OpenShut
import Derived.ShutString
import Derived.ChangeOld
namespace Go.Proofs.YtdkggahkfheocaaGreatDoor.slabels
open Go.ChangeShapes Go.WideShapes Go.ChangeAt Go.RowKit Go.Lib
set_option linter.unusedVariables false
set_option maxRecDepth 100000

theorem rep_list (n : Nat) : (Lib.repeatL (⟨#[114, 101, 116, 10]⟩ : ByteArray).data.toList n) = retsL n := rep_rets n [114, 101, 116, 10]
theorem own_cell {w : World} {base g cap n : Nat} {ws : List Int} (h : w.ownsRow base 24 1 (.slice (some ⟨g, 0, none⟩) n cap) n (ws.map wV)) {j : Nat} {x : Int} (hj : j < n) (hx : ws[j]? = some x) : w.cell? ⟨g, j, none⟩ = some (.int .u32 x) := by
  rw [h.cellAt j (by omega), List.getElem?_map, hx]; rfl
def st5 (w : World) (g : Nat) (a b c d e : Value) : World := ((((w.setCell ⟨g, 0, none⟩ a).setCell ⟨g, 1, none⟩ b).setCell ⟨g, 2, none⟩ c).setCell ⟨g, 3, none⟩ d).setCell ⟨g, 4, none⟩ e
set_option maxHeartbeats 4000000 in
theorem walk (a : Int) (wa : (Lit.int .u16 a).wf = true) (b : Int) (wb : (Lit.int .u16 b).wf = true) (W : World) (hT : T8 W) :
    Calls Tryz.prog 8 #[.int .u16 a, .int .u16 b] W fun e w' => e = .returned (.bool true) ∧ Below W.heap.size W w' := by
  have ha := bounds_u16 wa
  have hb := bounds_u16 wb
  obtain ⟨n, hn⟩ : ∃ n : Nat, (n : Int) = a % 3000 := ⟨(a % 3000).toNat, by omega⟩
  obtain ⟨m, hm⟩ : ∃ m : Nat, (m : Int) = b % 1000 := ⟨(b % 1000).toNat, by omega⟩
  have hn3 : n < 3000 := by omega
  have hm1 : m < 1000 := by omega
  have ta : a.tmod 3000 = (n : Int) := by rw [Int.tmod_eq_emod_of_nonneg ha.1]; exact hn.symm
  have tb : b.tmod 1000 = (m : Int) := by rw [Int.tmod_eq_emod_of_nonneg hb.1]; exact hm.symm
  have ta2 : a % 3000 = (n : Int) := hn.symm
  have tb2 : b % 1000 = (m : Int) := hm.symm
  have jn : (n : Int) < 3000 := by omega
  have jm : (m : Int) < 1000 := by omega
  have hT' := Lib.hid hT
  have hWk := Lib.hid (works_any W hT)
  have hN := Lib.hid (And.intro hn3 hm1)
  have hR : ∀ (k : Nat), k < 3000 → ∀ w, Calls Tryz.prog 23 #[.string ⟨#[114, 101, 116, 10]⟩, .int .i64 (k : Int)] w fun e w' => e = .returned (.string ⟨(retsL k).toArray⟩) ∧ Below w.heap.size w w' := fun k hk w => by
    have h := Tryz.strings_Repeat ⟨#[114, 101, 116, 10]⟩ k w (by omega) (by simp [ByteArray.size]; omega)
    rw [rep_list] at h
    exact h
  have hR1 := hR n (by omega)
  have hR2 := hR m (by omega)
  clear hR
  have e1 : (firstL ++ [58]) ++ 10 :: (j0L ++ [10]) = [102, 105, 114, 115, 116, 58, 10, 106, 97, 108, 32, 99, 48, 32, 108, 97, 115, 116, 10] := by decide
  have e2 : j1L ++ 10 :: ((lastL ++ [58]) ++ [10]) = [106, 97, 108, 32, 99, 49, 32, 102, 105, 114, 115, 116, 10, 108, 97, 115, 116, 58, 10] := by decide
  have e3 : b0L ++ [10] = [98, 101, 113, 32, 99, 50, 32, 99, 51, 32, 108, 97, 115, 116, 10] := by decide
  have e4 : (onL ++ [58]) ++ [10] = [111, 110, 58, 10] := by decide
  have hln := rets_len n
  have hlm := rets_len m
  have hway : ((([102, 105, 114, 115, 116, 58, 10, 106, 97, 108, 32, 99, 48, 32, 108, 97, 115, 116, 10] ++ retsL n) ++ [106, 97, 108, 32, 99, 49, 32, 102, 105, 114, 115, 116, 10, 108, 97, 115, 116, 58, 10]) ++ retsL m) ++ [98, 101, 113, 32, 99, 50, 32, 99, 51, 32, 108, 97, 115, 116, 10] = wayL n m := by
    rw [← e1, ← e2, ← e3]; unfold wayL; simp
  have hfar : ([111, 110, 58, 10] ++ retsL n) ++ [98, 101, 113, 32, 99, 48, 32, 99, 48, 32, 111, 110] = farL n := by
    rw [← e4]; unfold farL; simp; rfl
  have hwl := way_len n m
  have s1 : ∀ w, (Op.stringOp .add ⟨#[102, 105, 114, 115, 116, 58, 10, 106, 97, 108, 32, 99, 48, 32, 108, 97, 115, 116, 10]⟩ ⟨(retsL n).toArray⟩).run Tryz.prog w = .ok (.string ⟨([102, 105, 114, 115, 116, 58, 10, 106, 97, 108, 32, 99, 48, 32, 108, 97, 115, 116, 10] ++ retsL n).toArray⟩) w := fun w => run_string_add_lists w [102, 105, 114, 115, 116, 58, 10, 106, 97, 108, 32, 99, 48, 32, 108, 97, 115, 116, 10] (retsL n) (by simp) (by omega)
  obtain ⟨t1, ht1⟩ : ∃ t1, t1 = [102, 105, 114, 115, 116, 58, 10, 106, 97, 108, 32, 99, 48, 32, 108, 97, 115, 116, 10] ++ retsL n := ⟨_, rfl⟩
  have ht1l : t1.length ≤ 13000 := by rw [ht1, List.length_append, hln]; simp; omega
  rw [← ht1] at s1 hway
  have s2 : ∀ w, (Op.stringOp .add ⟨t1.toArray⟩ ⟨#[106, 97, 108, 32, 99, 49, 32, 102, 105, 114, 115, 116, 10, 108, 97, 115, 116, 58, 10]⟩).run Tryz.prog w = .ok (.string ⟨(t1 ++ [106, 97, 108, 32, 99, 49, 32, 102, 105, 114, 115, 116, 10, 108, 97, 115, 116, 58, 10]).toArray⟩) w := fun w => run_string_add_lists w t1 [106, 97, 108, 32, 99, 49, 32, 102, 105, 114, 115, 116, 10, 108, 97, 115, 116, 58, 10] (by omega) (by simp)
  obtain ⟨t2, ht2⟩ : ∃ t2, t2 = t1 ++ [106, 97, 108, 32, 99, 49, 32, 102, 105, 114, 115, 116, 10, 108, 97, 115, 116, 58, 10] := ⟨_, rfl⟩
  have ht2l : t2.length ≤ 14000 := by rw [ht2, List.length_append]; simp; omega
  rw [← ht2] at s2 hway
  have s3 : ∀ w, (Op.stringOp .add ⟨t2.toArray⟩ ⟨(retsL m).toArray⟩).run Tryz.prog w = .ok (.string ⟨(t2 ++ retsL m).toArray⟩) w := fun w => run_string_add_lists w t2 (retsL m) (by omega) (by omega)
  obtain ⟨t3, ht3⟩ : ∃ t3, t3 = t2 ++ retsL m := ⟨_, rfl⟩
  have ht3l : t3.length ≤ 18000 := by rw [ht3, List.length_append, hlm]; omega
  rw [← ht3] at s3 hway
  have s4 : ∀ w, (Op.stringOp .add ⟨t3.toArray⟩ ⟨#[98, 101, 113, 32, 99, 50, 32, 99, 51, 32, 108, 97, 115, 116, 10]⟩).run Tryz.prog w = .ok (.string ⟨(wayL n m).toArray⟩) w := fun w => by
    rw [← hway]
    exact run_string_add_lists w t3 [98, 101, 113, 32, 99, 50, 32, 99, 51, 32, 108, 97, 115, 116, 10] (by omega) (by simp)
  have s5 : ∀ w, (Op.stringOp .add ⟨#[111, 110, 58, 10]⟩ ⟨(retsL n).toArray⟩).run Tryz.prog w = .ok (.string ⟨([111, 110, 58, 10] ++ retsL n).toArray⟩) w := fun w => run_string_add_lists w [111, 110, 58, 10] (retsL n) (by simp) (by omega)
  obtain ⟨t5, ht5⟩ : ∃ t5, t5 = [111, 110, 58, 10] ++ retsL n := ⟨_, rfl⟩
  have ht5l : t5.length ≤ 13000 := by rw [ht5, List.length_append, hln]; simp; omega
  rw [← ht5] at s5 hfar
  have s6 : ∀ w, (Op.stringOp .add ⟨t5.toArray⟩ ⟨#[98, 101, 113, 32, 99, 48, 32, 99, 48, 32, 111, 110]⟩).run Tryz.prog w = .ok (.string ⟨(farL n).toArray⟩) w := fun w => by
    rw [← hfar]
    exact run_string_add_lists w t5 [98, 101, 113, 32, 99, 48, 32, 99, 48, 32, 111, 110] (by omega) (by simp)
  have hA := fun w h => asm_any (wayL n m) w h (by omega)
  have hF := fun w h => asm_any (farL n) w h (by rw [far_len]; omega)
  have hfo := far_asm n hn3
  rw [way_asm n m hn3 hm1] at hA
  obtain ⟨hw0, hw1, hw2, hw3⟩ := way_words n m _ rfl
  obtain ⟨hd0, hd1, hd2⟩ := way_decs n m hn3 hm1
  generalize encW (i0 n) :: (List.replicate n retW ++ encW (i1 n) :: (List.replicate m retW ++ [encW (i2 m)])) = ws at *
  unfold AsmPost at hA
  generalize encW (i0 n) = x0 at *
  generalize encW (i1 n) = x1 at *
  generalize encW (i2 m) = x2 at *
  generalize asmL (farL n) = Rf at *
  generalize farL n = fl at *
  have hwl2 : ((wayL n m).length : Int) ≤ 20000 := by omega
  generalize wayL n m = wl at *
  generalize retsL n = rn at *
  generalize retsL m = rm at *
  replace hA := Lib.hid hA
  replace hF := Lib.hid hF
  replace hR1 := Lib.hid hR1
  replace hR2 := Lib.hid hR2
  replace hfo := Lib.hid hfo
  replace hw0 := Lib.hid hw0
  replace hd0 := Lib.hid hd0
  replace hd1 := Lib.hid hd1
  replace hd2 := Lib.hid hd2
  replace hw1 := Lib.hid hw1
  replace hw2 := Lib.hid hw2
  replace hw3 := Lib.hid hw3
  have hund : undef = Value.tuple #[] := rfl
  clear hT wa wb hn hm hn3 hm1 hway hfar e1 e2 e3 e4 hln hlm hwl ht1 ht2 ht3 ht5 ht1l ht2l ht3l ht5l
  go_enter Tryz.func8, Tryz.ntmps8
  go_wp2_with fail
  refine hWk.out.mono ?_
  rintro e w1 ⟨rfl, k1⟩
  have hb1 := Lib.hid k1
  clear hWk k1
  go_wp2_with fail
  refine (hR1.out _).mono ?_
  rintro e w2 ⟨rfl, k2⟩
  have hb2 := Lib.hid (hb1.out.trans (k2.mono hb1.out.size))
  clear hR1 k2 hb1
  go_wp2_with fail
  refine (hR2.out _).mono ?_
  rintro e w3 ⟨rfl, k3⟩
  have hb3 := Lib.hid (hb2.out.trans (k3.mono hb2.out.size))
  clear hR2 k3 hb2
  go_wp2_with fail
  refine (hA.out w3 (hT'.out.below hb3.out)).mono ?_
  rintro e w4 ⟨v, rfl, ho, k4, hw32, -⟩
  have hb4 := Lib.hid (hb3.out.trans (k4.mono hb3.out.size))
  clear hA k4 s1 s2 s3 s4
  obtain ⟨g, cap, rfl, hg, hgl⟩ := ho.form (by rw [hw0.out]; omega)
  have c0 : w4.cell? ⟨g, 0, none⟩ = some (.int .u32 x0) := own_cell ho (by rw [hw0.out]; omega) hw1.out
  have c1 : w4.cell? ⟨g, n + 1, none⟩ = some (.int .u32 x1) := own_cell ho (by rw [hw0.out]; omega) hw2.out
  have c2 : w4.cell? ⟨g, n + m + 2, none⟩ = some (.int .u32 x2) := own_cell ho (by rw [hw0.out]; omega) hw3.out
  have hx0 := hw32 x0 (List.mem_of_getElem? hw1.out)
  have hx1 := hw32 x1 (List.mem_of_getElem? hw2.out)
  have hx2 := hw32 x2 (List.mem_of_getElem? hw3.out)
  have p0 := fun w h => wDecV x0 hx0.1 hx0.2 29 0 0 0 ((n : Int) + 2) hd0.out w h
  have p1 := fun w h => wDecV x1 hx1.1 hx1.2 29 1 0 0 (-(n : Int) - 1) hd1.out w h
  have p2 := fun w h => wDecV x2 hx2.1 hx2.2 25 2 3 0 (-(m : Int)) hd2.out w h
  rw [hw0.out]
  have hlw : ((n + m + 3 : Nat) : Int) = (n : Int) + (m : Int) + 3 := by omega
  have hT4 := Lib.hid (hT'.out.below hb4.out)
  replace p0 := Lib.hid p0
  replace p1 := Lib.hid p1
  replace p2 := Lib.hid p2
  clear ho hw32 hx0 hx1 hx2 hd0 hd1 hd2 hw1 hw2 hw3
  have hgl' := Lib.hid hgl
  go_upto_region 11 with (fail)
  obtain ⟨S, hS0⟩ : ∃ S : World → Prop, S = fun u => Below w4.heap.size w4 u := ⟨_, rfl⟩
  have hK : ∀ u, S u → Below w4.heap.size w4 u := fun u hu => by rw [hS0] at hu; exact hu
  have hSt : Stay S := fun u u' hu k => by rw [hS0] at hu ⊢; exact hu.trans (k.mono hu.size)
  have K1 : S w4.drew := by rw [hS0]; exact (Below.refl _ _).drew
  clear hS0
  refine region_new (aF := ?aF) S 18 3 (fun _ => [.int .i64 0, .int .i64 0, .int .i64 0, .int .i64 0, .int .i64 0]) w4.heap.size (by kernel_rfl) (by kernel_rfl) K1 (Nat.le_refl _) hSt (fun k o hk ho => ?hN) (fun S' h1 h2 => ?hW) (fun bs w' hb2 hS hrow hdis => ?hT)
  case hW =>
    have a0 : ∀ y : Wd S', y.w.cell? ⟨g, 0, none⟩ = some (.int .u32 x0) := fun y => ((hK _ (h1 _ y.h)).cell (p := ⟨g, 0, none⟩) hgl).trans c0
    have a1 : ∀ y : Wd S', y.w.cell? ⟨g, n + 1, none⟩ = some (.int .u32 x1) := fun y => ((hK _ (h1 _ y.h)).cell (p := ⟨g, n + 1, none⟩) hgl).trans c1
    have a2 : ∀ y : Wd S', y.w.cell? ⟨g, n + m + 2, none⟩ = some (.int .u32 x2) := fun y => ((hK _ (h1 _ y.h)).cell (p := ⟨g, n + m + 2, none⟩) hgl).trans c2
    have cD0 := Lib.hid (cls_call (S := S') fun u hu => (p0.out u (hT4.out.below (hK _ (h1 _ hu))).tabs).mono fun e u' k => (⟨k.1, h2 _ _ hu k.2⟩ : _ ∧ S' u'))
    have cD1 := Lib.hid (cls_call (S := S') fun u hu => (p1.out u (hT4.out.below (hK _ (h1 _ hu))).tabs).mono fun e u' k => (⟨k.1, h2 _ _ hu k.2⟩ : _ ∧ S' u'))
    have cD2 := Lib.hid (cls_call (S := S') fun u hu => (p2.out u (hT4.out.below (hK _ (h1 _ hu))).tabs).mono fun e u' k => (⟨k.1, h2 _ _ hu k.2⟩ : _ ∧ S' u'))
    simp only [List.take_succ_cons, List.take_zero]
    repeat (first
      | go_big_quiet_skip
      | (go_big_quiet_want
         go_big_quiet_op
         first
         | go_big_quiet_on
         | (apply Exists.intro
            refine ⟨fun y => ?_, ?_⟩
            · first | exact rfl | with_reducible exact cD0.out y | with_reducible exact cD1.out y | with_reducible exact cD2.out y
            go_big_quiet_on)))
    refine wpQuiet_nil ?_
    exact rfl
  case hN =>
    rcases (show k = 0 ∨ k = 1 ∨ k = 2 by omega) with rfl | rfl | rfl
    all_goals
      obtain rfl := Option.some.inj ho
      exact ⟨rfl, 49, fun a w => by kernel_rfl⟩
  case hT =>
    rcases bs with _ | ⟨b7, _ | ⟨b8, _ | ⟨b9, _ | ⟨x, bs⟩⟩⟩⟩
    · cases hb2
    · cases hb2
    · cases hb2
    · obtain ⟨r7, q7⟩ := hrow 0 b7 rfl
      obtain ⟨r8, q8⟩ := hrow 1 b8 rfl
      obtain ⟨r9, q9⟩ := hrow 2 b9 rfl
      have n78 := hdis 0 1 b7 b8 (by omega) rfl rfl
      have n79 := hdis 0 2 b7 b9 (by omega) rfl rfl
      have n89 := hdis 1 2 b8 b9 (by omega) rfl rfl
      have hkr : KR w4 [⟨b7, [.int .i64 0, .int .i64 0, .int .i64 0, .int .i64 0, .int .i64 0]⟩, ⟨b8, [.int .i64 0, .int .i64 0, .int .i64 0, .int .i64 0, .int .i64 0]⟩, ⟨b9, [.int .i64 0, .int .i64 0, .int .i64 0, .int .i64 0, .int .i64 0]⟩] w' := ⟨hK _ hS, fun x hx => by
        rcases List.mem_cons.1 hx with rfl | hx
        · exact r7
        rcases List.mem_cons.1 hx with rfl | hx
        · exact r8
        rcases List.mem_cons.1 hx with rfl | hx
        · exact r9
        cases hx⟩
      clear r7 r8 r9 hS hrow hdis hK hSt K1 hb2 c0 c1 c2
      obtain ⟨z0, z1, z2, z3, z4, z5⟩ := hkr.cells5 (g := b7) (List.mem_cons_self ..)
      obtain ⟨y0, y1, y2, y3, y4, y5⟩ := hkr.cells5 (g := b8) (List.mem_cons_of_mem _ (List.mem_cons_self ..))
      obtain ⟨v0, v1, v2, v3, v4, v5⟩ := hkr.cells5 (g := b9) (List.mem_cons_of_mem _ (List.mem_cons_of_mem _ (List.mem_cons_self ..)))
      have ne1 : ¬ b7 = b8 := n78
      have ne2 : ¬ b8 = b7 := Ne.symm n78
      have ne3 : ¬ b7 = b9 := n79
      have ne4 : ¬ b9 = b7 := Ne.symm n79
      have ne5 : ¬ b8 = b9 := n89
      have ne6 : ¬ b9 = b8 := Ne.symm n89
      have h5 := (((hkr.set5 q7 (fun x hx => by
          rcases List.mem_cons.1 hx with rfl | hx
          · exact ne2
          · rw [List.mem_singleton] at hx; subst hx; exact ne4) (.int .i64 29) (.int .i64 0) (.int .i64 0) (.int .i64 0) (.int .i64 ((n : Int) + 2))).swap.set5 q8 (fun x hx => by
          rcases List.mem_cons.1 hx with rfl | hx
          · exact ne1
          · rw [List.mem_singleton] at hx; subst hx; exact ne6) (.int .i64 29) (.int .i64 1) (.int .i64 0) (.int .i64 0) (.int .i64 (-(n : Int) - 1))).sub (L' := [⟨b9, [.int .i64 0, .int .i64 0, .int .i64 0, .int .i64 0, .int .i64 0]⟩, ⟨b8, [.int .i64 29, .int .i64 1, .int .i64 0, .int .i64 0, .int .i64 (-(n : Int) - 1)]⟩, ⟨b7, [.int .i64 29, .int .i64 0, .int .i64 0, .int .i64 0, .int .i64 ((n : Int) + 2)]⟩]) (fun x hx => by
          simp only [List.mem_cons, List.not_mem_nil, or_false] at hx ⊢
          rcases hx with hx | hx | hx
          · exact .inr (.inr hx)
          · exact .inl hx
          · exact .inr (.inl hx))).set5 q9 (fun x hx => by
          rcases List.mem_cons.1 hx with rfl | hx
          · exact ne5
          · rw [List.mem_singleton] at hx; subst hx; exact ne3) (.int .i64 25) (.int .i64 2) (.int .i64 3) (.int .i64 0) (.int .i64 (-(m : Int)))
      replace h5 := Lib.hid h5
      clear hkr
      simp only [List.drop_succ_cons, List.drop_zero, List.take_succ_cons, List.take_zero, putL, ptr]
      go_upto_region 12 with (fail)
      change Code.wp _ _ _ _ (st5 (st5 (st5 w' b7 (.int .i64 29) (.int .i64 0) (.int .i64 0) (.int .i64 0) (.int .i64 ((n : Int) + 2))) b8 (.int .i64 29) (.int .i64 1) (.int .i64 0) (.int .i64 0) (.int .i64 (-(n : Int) - 1))) b9 (.int .i64 25) (.int .i64 2) (.int .i64 3) (.int .i64 0) (.int .i64 (-(m : Int))))
      replace h5 : Hid (KR w4 _ (st5 (st5 (st5 w' b7 (.int .i64 29) (.int .i64 0) (.int .i64 0) (.int .i64 0) (.int .i64 ((n : Int) + 2))) b8 (.int .i64 29) (.int .i64 1) (.int .i64 0) (.int .i64 0) (.int .i64 (-(n : Int) - 1))) b9 (.int .i64 25) (.int .i64 2) (.int .i64 3) (.int .i64 0) (.int .i64 (-(m : Int))))) := h5
      generalize (st5 (st5 (st5 w' b7 (.int .i64 29) (.int .i64 0) (.int .i64 0) (.int .i64 0) (.int .i64 ((n : Int) + 2))) b8 (.int .i64 29) (.int .i64 1) (.int .i64 0) (.int .i64 0) (.int .i64 (-(n : Int) - 1))) b9 (.int .i64 25) (.int .i64 2) (.int .i64 3) (.int .i64 0) (.int .i64 (-(m : Int)))) = w5 at *
      clear z0 z1 z2 z3 z4 z5 y0 y1 y2 y3 y4 y5 v0 v1 v2 v3 v4 v5
      have z0 : w5.cell? ⟨b7, 0, none⟩ = some (.int .i64 29) := h5.out.cell _ (List.mem_cons_of_mem _ (List.mem_cons_of_mem _ (List.mem_cons_self ..))) rfl
      have z4 : w5.cell? ⟨b7, 4, none⟩ = some (.int .i64 ((n : Int) + 2)) := h5.out.cell _ (List.mem_cons_of_mem _ (List.mem_cons_of_mem _ (List.mem_cons_self ..))) rfl
      have y1 : w5.cell? ⟨b8, 1, none⟩ = some (.int .i64 1) := h5.out.cell _ (List.mem_cons_of_mem _ (List.mem_cons_self ..)) rfl
      have y4 : w5.cell? ⟨b8, 4, none⟩ = some (.int .i64 (-(n : Int) - 1)) := h5.out.cell _ (List.mem_cons_of_mem _ (List.mem_cons_self ..)) rfl
      have v0 : w5.cell? ⟨b9, 0, none⟩ = some (.int .i64 25) := h5.out.cell _ (List.mem_cons_self ..) rfl
      have v4 : w5.cell? ⟨b9, 4, none⟩ = some (.int .i64 (-(m : Int))) := h5.out.cell _ (List.mem_cons_self ..) rfl
      have hb5 := Lib.hid (hb4.out.trans (h5.out.bl.mono hb4.out.size))
      have hF5 := hF.out w5 (hT'.out.below hb5.out)
      clear h5 hF hb4 p0 p1 p2
      cases Rf with
      | ok l =>
        have h48 : (n : Int) ≤ 2048 := of_decide_eq_true hfo.out.symm
        have hF6 : Calls _ _ _ _ fun e w' => ∃ v, e = .returned (.tuple #[v, .nilIface]) ∧ Below w5.heap.size w5 w' := hF5.mono fun e w' ⟨v, h1, _, h3, _⟩ => ⟨v, h1, h3⟩
        replace hF6 := Lib.hid hF6
        clear hF5 hfo
        go_wp2_with fail
        refine hF6.out.mono ?_
        rintro e w6 ⟨v, rfl, k6⟩
        go_wp2_with fail
        go_ret
        exact ⟨rfl, hb5.out.trans (k6.mono hb5.out.size)⟩
      | error z =>
        obtain ⟨c, q⟩ := z
        have h48 : decide ((n : Int) ≤ 2048) = false := hfo.out.symm
        have hF6 : Calls _ _ _ _ fun e w' => ∃ gg, e = .returned (.tuple #[.slice none 0 0, .iface 36 (.pointer (some ⟨gg, 0, none⟩))]) ∧ Below w5.heap.size w5 w' := hF5.mono fun e w' ⟨v, h1, _, _, h3⟩ => ⟨v, h1, h3⟩
        replace hF6 := Lib.hid hF6
        clear hF5 hfo
        go_wp2_with fail
        refine hF6.out.mono ?_
        rintro e w6 ⟨v, rfl, k6⟩
        go_wp2_with fail
        go_ret
        exact ⟨by first | rfl | (rw [h48]; rfl), hb5.out.trans (k6.mono hb5.out.size)⟩
    · cases hb2

set_option maxRecDepth 100000 in
theorem lifted (os : Os) (started : os.Started) (H : Type) (enc : TypeId × Value → H) :
    ReturnsInHanded {} Tryz.checked os 8 .any (fun w args => (Rows.asmLabelsSpec.pre enc Tryz.prog Tryz.f8 [] false w args ∧ laidMetH Tryz.prog Rows.asmLabelsRow.laid w) ∧ sizedMet enc Tryz.prog Tryz.f8 (OpenSpec.ofChange Rows.asmLabelsSpec) false w args) (Rows.asmLabelsSpec.post enc Tryz.prog Tryz.f8 false true false false) := by
  refine change_and_shaped (C := Tryz.checked) (X := fun w _ => laidMetH Tryz.prog Rows.asmLabelsRow.laid w) (fun _ _ _ hh h => h.of_heap hh) own started (by kernel_rfl) Tryz.func8
    (ChangeSpec.witness_at (enc := enc) (C := Tryz.checked) (os := os) (X := fun w _ => laidMetH Tryz.prog Rows.asmLabelsRow.laid w) false (laidWorld os) #[.int .u16 0, .int .u16 0] 8 rfl (by kernel_rfl) (by kernel_rfl) (by kernel_rfl) (by kernel_rfl) (by kernel_rfl) (laid_met os _)) ?_
  intro W base args ds gs before hval0 hW _ hsz hL hsh
  have hval : ∀ (j : Nat) t v, Tryz.f8.params[j]? = some t → args[j]? = some v → Value.okWide Tryz.prog W .any base t v := hval0
  have hW' := hW
  obtain ⟨p, q, hA0, hV, rfl, hfz, hnd⟩ := hW
  have hA : DataW.TrodAll enc Tryz.prog W 0 (fun _ => true) true Tryz.f8.params.toList args.toList ds p := hA0
  rw [Tryz.params8] at hA hval
  obtain ⟨v0, vs0, d0, ds0, p0, q0, hargs, rfl, rfl, h0, r0⟩ := trodAll_cons hA
  obtain ⟨v1, vs1, d1, ds1, p1, q1, rfl, rfl, rfl, h1, r1⟩ := trodAll_cons r0
  obtain ⟨rfl, rfl, rfl⟩ := trodAll_nil r1
  obtain rfl : args = #[v0, v1] := by cases args; simp_all
  obtain ⟨rfl, rfl⟩ := trodVars_none hV
  have k0 := h0
  have lt0 : ∀ x ∈ p0, x.block < W.heap.size := by obtain ⟨m, hm⟩ := k0; exact DataW.trod_lt m _ _ _ hm
  have k1 := h1
  have lt1 : ∀ x ∈ p1, x.block < W.heap.size := by obtain ⟨m, hm⟩ := k1; exact DataW.trod_lt m _ _ _ hm
  obtain ⟨ahead, rfl, rfl, rfl, wahead⟩ := open_int Tryz.underlying46 (hval 0 46 v0 rfl rfl) h0
  obtain ⟨behind, rfl, rfl, rfl, wbehind⟩ := open_int Tryz.underlying46 (hval 1 46 v1 rfl rfl) h1
  clear hA0 hval0
  refine (walk ahead wahead behind wbehind W (tabs_of_laid hL hsh)).mono fun e W' ⟨he, bel⟩ => ?_
  subst he
  exact ⟨_, rfl, _, _, _, [], _, [], hW', trodAll_mk1 (shut_bool Tryz.underlying4 _), (trodAll_cons_mk (Below.trod laidOut (by kernel_rfl) (of_decide_eq_true (by kernel_rfl)) k0 bel lt0) (trodAll_cons_mk (Below.trod laidOut (by kernel_rfl) (of_decide_eq_true (by kernel_rfl)) k1 bel lt1) trodAll_mk0)), rfl, bel.frame _, fun h => by cases h⟩
theorem over : Rows.AsmLabelsSaid :=
  OpenClaim.holds_of_wide 8 Tryz.f8 rfl rfl rfl rfl rfl rfl rfl ⟨rfl, rfl, rfl, rfl, rfl⟩ rfl rfl rfl rfl rfl (by kernel_rfl) Tryz.func8 (by kernel_rfl)
    (of_decide_eq_true (by kernel_rfl)) (by unfold Func.isWrapper; first | (rw [if_pos (by decide +kernel)]; kernel_rfl) | (rw [if_neg (by decide +kernel)]; exact ⟨rfl, rfl⟩))
    (fun os started H enc _ => lifted os started H enc)
/-- The given statement. -/
theorem proved : Rows.AsmLabelsCardSaid :=
  Claim7.holds_tied_plain_at .later [] [.data, .data, .data, .data, .sentinel, .sentinel, .data, .data, .pinned] true (true, "2bee5fd148fb015520f01933159326b112e4478db675eff5977c33161389b25f") true
    over (fun _ h => by cases h) (by kernel_rfl) (fun _ h => by cases h) asmLabels_row_tie rfl ⟨rfl, rfl⟩ (by kernel_rfl) rfl
    (fun f fn hf hfn => by
      obtain rfl : f = 8 := Option.some.inj ((show Tryz.prog.funcNamed "fallow/fallowlaw08.AsmLabels" = some 8 by kernel_rfl).symm.trans hf) |>.symm
      obtain rfl : fn = Tryz.f8 := (Option.some.inj (Tryz.func8.symm.trans hfn)).symm
      exact ⟨by kernel_rfl, fun j t ht => by
        rw [Tryz.params8] at ht
        rcases j with _ | _ | j
        · obtain rfl : t = 46 := by simpa using ht.symm
          exact (show Tryz.prog.wantsStandIn 46 = false by kernel_rfl)
        · obtain rfl : t = 46 := by simpa using ht.symm
          exact (show Tryz.prog.wantsStandIn 46 = false by kernel_rfl)
        · simp at ht⟩)
    (by kernel_rfl)
end Go.Proofs.YtdkggahkfheocaaGreatDoor.slabels
