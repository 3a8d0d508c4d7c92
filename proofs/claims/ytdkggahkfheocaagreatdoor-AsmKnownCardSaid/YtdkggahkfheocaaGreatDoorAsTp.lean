/- Contracts of the laws of layer asm: told. No statement is proved here. -/
import Derived.Test.YtdkggahkfheocaaGreatDoorAsTo
import Derived.Test.YtdkggahkfheocaaGreatDoorAny
import Derived.WalkKit
import Derived.LaidEql
import Derived.Stop.Asserts
import Derived.RowKitTokens
namespace Go.Proofs.YtdkggahkfheocaaGreatDoor
set_option maxRecDepth 100000
open Go.RowKit Go.Extern.Stop Go.Stop Go.Extern
set_option linter.unusedVariables false
set_option linter.unusedSimpArgs false


theorem told_nil (W : World) : Calls Tryz.prog 20 #[.nilIface, .pointer none] W fun e w' => e = .returned (.bool true) ∧ Below W.heap.size W w' := by
  go_enter Tryz.func20, Tryz.ntmps20
  go_wp2
  go_ret
  exact ⟨rfl, Below.refl _ _⟩
set_option maxHeartbeats 4000000 in
theorem told_fault (c n : Int) (g g' : Nat) (W : World) (hg : W.cell? ⟨2, 0, none⟩ = some (.iface 170 (.agg #[.pointer (some ⟨11, 33, none⟩)])))
    (h1 : W.cell? ⟨g, 0, none⟩ = some (.int .i64 c)) (h2 : W.cell? ⟨g, 1, none⟩ = some (.int .i64 n)) (h3 : W.cell? ⟨g', 0, none⟩ = some (.int .i64 c)) (h4 : W.cell? ⟨g', 1, none⟩ = some (.int .i64 n)) :
    Calls Tryz.prog 20 #[.iface 36 (.pointer (some ⟨g, 0, none⟩)), .pointer (some ⟨g', 0, none⟩)] W fun e w' => e = .returned (.bool true) ∧ Below W.heap.size W w' := by
  have lt : ∀ {b j : Nat} {v : Value}, W.cell? ⟨b, j, none⟩ = some v → b < W.heap.size := fun {b j v} h => by
    rcases Nat.lt_or_ge b W.heap.size with hlt | hge
    · exact hlt
    · simp [World.cell?, Array.getElem?_eq_none hge] at h
  have l0 := lt hg
  have l1 := lt h1
  have l3 := lt h3
  obtain ⟨gt, hgt⟩ : ∃ gt, gt = W.heap.size := ⟨_, rfl⟩
  have K0 : KR W [⟨gt, [.pointer none]⟩] (W.alloc (.cells #[.pointer none] 36)) := by rw [hgt]; exact (KR.start (W := W)).push [.pointer none] 36
  have hAs : ∀ u, KR W [⟨gt, [.pointer none]⟩] u → Calls Tryz.prog 54 #[.iface 36 (.pointer (some ⟨g, 0, none⟩)), .iface 95 (.pointer (some ⟨gt, 0, none⟩))] u fun ev u' => ev = .returned (.bool true) ∧ KR W [⟨gt, [.pointer (some ⟨g, 0, none⟩)]⟩] u' := fun u K =>
    (as_fault ⟨g, 0, none⟩ ⟨gt, 0, none⟩ (.pointer none) u ((K.bl.cell (p := ⟨2, 0, none⟩) l0).trans hg) (K.cell _ (List.mem_cons_self ..) rfl) (K.soft (List.mem_cons_self ..) _)).mono fun ev u' h => ⟨h.1, by
      rw [h.2]
      exact ((((K.alloc _).alloc _).alloc _).alloc _).set (by omega) (fun x hx => by cases hx) 0 (.pointer (some ⟨g, 0, none⟩)) (by simp)⟩
  obtain ⟨S, hS0⟩ : ∃ S : World → Prop, S = KR W [⟨gt, [.pointer (some ⟨g, 0, none⟩)]⟩] := ⟨_, rfl⟩
  rw [← hS0] at hAs
  have hKS : ∀ u, S u → KR W [⟨gt, [.pointer (some ⟨g, 0, none⟩)]⟩] u := fun u h => by rw [← hS0]; exact h
  have e0 : ∀ y : Wd S, y.w.cell? ⟨gt, 0, none⟩ = some (.pointer (some ⟨g, 0, none⟩)) := fun y => (hKS _ y.h).cell _ (List.mem_cons_self ..) rfl
  have e1 : ∀ y : Wd S, y.w.cell? ⟨g, 0, none⟩ = some (.int .i64 c) := fun y => ((hKS _ y.h).bl.cell (p := ⟨g, 0, none⟩) l1).trans h1
  have e2 : ∀ y : Wd S, y.w.cell? ⟨g, 1, none⟩ = some (.int .i64 n) := fun y => ((hKS _ y.h).bl.cell (p := ⟨g, 1, none⟩) l1).trans h2
  have e3 : ∀ y : Wd S, y.w.cell? ⟨g', 0, none⟩ = some (.int .i64 c) := fun y => ((hKS _ y.h).bl.cell (p := ⟨g', 0, none⟩) l3).trans h3
  have e4 : ∀ y : Wd S, y.w.cell? ⟨g', 1, none⟩ = some (.int .i64 n) := fun y => ((hKS _ y.h).bl.cell (p := ⟨g', 1, none⟩) l3).trans h4
  have qI := Lib.hid (cls_call (S := S) fun u hu => (is_fault g c u (e1 ⟨u, hu⟩)).mono fun e u' k => (⟨k.1, by rw [k.2]; exact hu⟩ : _ ∧ S u'))
  have hcc : (c == c) = true := by simp
  have hnn : (n == n) = true := by simp
  have hund : undef = Value.tuple #[] := rfl
  obtain ⟨w1, hw1⟩ : ∃ w1, w1 = W.alloc (.cells #[.pointer none] 36) := ⟨_, rfl⟩
  rw [← hw1] at K0
  replace hAs := Lib.hid hAs
  replace hw1 := Lib.hid hw1
  clear hS0 lt l0 l1 l3 h1 h2 h3 h4 hg
  go_enter Tryz.func20, Tryz.ntmps20
  go_upto_region 4 with (fail)
  rw [← hw1.out, ← hgt]
  clear hw1 hgt
  refine wp_region_any (by kernel_rfl) ?_
  have K1 : KR W [⟨gt, [.pointer none]⟩] { w1 with drawn := w1.drawn + 1 } := K0.below (Below.refl _ _).drew
  generalize ({ w1 with drawn := w1.drawn + 1 } : World) = w2 at *
  clear K0
  refine wpAny_listed' (s' := #[false, false, false, false, false, false, false, false, false, false, false, false, false, false, false, false, false, false, false, false, false, false, false, false, false, false, false, false, false, false, false, false, false, false, false]) (by kernel_rfl) ?_
  refine wpAny_ready (rs := [0, 1]) (by kernel_rfl) (by simp) (AllReady.cons rfl (fun K hK => ?_) (AllReady.cons rfl (fun K hK => ?_) AllReady.nil))
  · skip
    replace hK := Lib.hid hK
    go_simp
    refine hK.out _ _ ?_
    clear hK K
    try simp only [Act.put, List.getElem_toArray, List.getElem_cons_zero, List.getElem_cons_succ, List.setIfInBounds_toArray, List.set_cons_zero, List.set_cons_succ]
    refine wpAny_ready (rs := [1]) (by kernel_rfl) (by simp) (AllReady.cons rfl (fun K hK => ?_) AllReady.nil)
    replace hK := Lib.hid hK
    go_simp
    refine hK.out _ _ ?_
    clear hK K
    try simp only [Act.put, List.getElem_toArray, List.getElem_cons_zero, List.getElem_cons_succ, List.setIfInBounds_toArray, List.set_cons_zero, List.set_cons_succ]
    refine wpAny_ready (rs := [2]) (by kernel_rfl) (by simp) (AllReady.cons rfl (fun K hK => ?_) AllReady.nil)
    replace hK := Lib.hid hK
    go_simp
    refine (hAs.out _ K1).mono ?_
    rintro ee Z1 ⟨rfl, K5⟩
    go_simp
    refine hK.out _ _ ?_
    clear hK K
    try simp only [Act.put, List.getElem_toArray, List.getElem_cons_zero, List.getElem_cons_succ, List.setIfInBounds_toArray, List.set_cons_zero, List.set_cons_succ]
    refine wpAny_ready (rs := [3]) (by kernel_rfl) (by simp) (AllReady.cons rfl (fun K hK => ?_) AllReady.nil)
    replace hK := Lib.hid hK
    go_simp
    refine hK.out _ _ ?_
    clear hK K
    try simp only [Act.put, List.getElem_toArray, List.getElem_cons_zero, List.getElem_cons_succ, List.setIfInBounds_toArray, List.set_cons_zero, List.set_cons_succ]
    refine any_rest S 4 (n := 31) rfl (by kernel_rfl) (by kernel_rfl) K5 ?_
    simp only [List.drop_succ_cons, List.drop_zero]
    repeat (first
      | go_big_quiet_skip
      | (go_big_quiet_want
         go_big_quiet_op
         first
         | go_big_quiet_on
         | (apply Exists.intro
            refine ⟨fun y => ?_, ?_⟩
            · first | exact rfl | with_reducible exact qI.out y
            go_big_quiet_on)))
    refine wpQuiet_nil ?_
    intro y
    have hy := Lib.hid (hKS _ y.h).bl
    clear e0 e1 e2 e3 e4 qI K5
    go_wp2
    go_ret
    exact ⟨rfl, hy.out⟩
  · skip
    replace hK := Lib.hid hK
    go_simp
    refine hK.out _ _ ?_
    clear hK K
    try simp only [Act.put, List.getElem_toArray, List.getElem_cons_zero, List.getElem_cons_succ, List.setIfInBounds_toArray, List.set_cons_zero, List.set_cons_succ]
    refine wpAny_ready (rs := [0]) (by kernel_rfl) (by simp) (AllReady.cons rfl (fun K hK => ?_) AllReady.nil)
    replace hK := Lib.hid hK
    go_simp
    refine hK.out _ _ ?_
    clear hK K
    try simp only [Act.put, List.getElem_toArray, List.getElem_cons_zero, List.getElem_cons_succ, List.setIfInBounds_toArray, List.set_cons_zero, List.set_cons_succ]
    refine wpAny_ready (rs := [2]) (by kernel_rfl) (by simp) (AllReady.cons rfl (fun K hK => ?_) AllReady.nil)
    replace hK := Lib.hid hK
    go_simp
    refine (hAs.out _ K1).mono ?_
    rintro ee Z1 ⟨rfl, K5⟩
    go_simp
    refine hK.out _ _ ?_
    clear hK K
    try simp only [Act.put, List.getElem_toArray, List.getElem_cons_zero, List.getElem_cons_succ, List.setIfInBounds_toArray, List.set_cons_zero, List.set_cons_succ]
    refine wpAny_ready (rs := [3]) (by kernel_rfl) (by simp) (AllReady.cons rfl (fun K hK => ?_) AllReady.nil)
    replace hK := Lib.hid hK
    go_simp
    refine hK.out _ _ ?_
    clear hK K
    try simp only [Act.put, List.getElem_toArray, List.getElem_cons_zero, List.getElem_cons_succ, List.setIfInBounds_toArray, List.set_cons_zero, List.set_cons_succ]
    refine any_rest S 4 (n := 31) rfl (by kernel_rfl) (by kernel_rfl) K5 ?_
    simp only [List.drop_succ_cons, List.drop_zero]
    repeat (first
      | go_big_quiet_skip
      | (go_big_quiet_want
         go_big_quiet_op
         first
         | go_big_quiet_on
         | (apply Exists.intro
            refine ⟨fun y => ?_, ?_⟩
            · first | exact rfl | with_reducible exact qI.out y
            go_big_quiet_on)))
    refine wpQuiet_nil ?_
    intro y
    have hy := Lib.hid (hKS _ y.h).bl
    clear e0 e1 e2 e3 e4 qI K5
    go_wp2
    go_ret
    exact ⟨rfl, hy.out⟩
end Go.Proofs.YtdkggahkfheocaaGreatDoor
