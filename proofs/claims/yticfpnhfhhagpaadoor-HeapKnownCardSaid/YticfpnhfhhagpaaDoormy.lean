/- The laws of layer heap: works. No statement is proved here. -/
import Derived.Test.YticfpnhfhhagpaaDoormx
namespace Go.Proofs.YticfpnhfhhagpaaDoor
set_option maxRecDepth 100000
open Go.RowKit Go.Shelf Go.Maps
set_option linter.unusedVariables false
set_option linter.unusedSimpArgs false
theorem wpAny_listed' {P : Program} {md : Region.Mode} {ops : Array Oper} {Q : Exit → Act → World → Prop} {f : Nat} {s s' : Array Bool} {a : Act} {w : World} (hs : s = s') (h : wpAny P md ops Q f s' a w) : wpAny P md ops Q f s a w := hs ▸ h
theorem free_1 {W w : World} {B : Blk} {lo hi : Nat} (H : HK W B lo hi 4 8 [(1024, 16), (1040, 16), (1280, 32)] [] w) : Calls Tryd.prog 16 #[.pointer (some ⟨B.h, 0, none⟩), .agg #[.int .u32 1040, .int .u32 16]] w fun e w' => e = .returned (.int .i64 0) ∧ Mid lo hi w w' ∧ HK W B lo hi 4 8 [(1024, 16), (1280, 32)] [(1040, 16)] w' := by
  have q1 : (if ((1040, 16) : Rg) ∈ [((1024, 16) : Rg), (1040, 16), (1280, 32)] then (0 : Int) else 8) = 0 := by decide
  have q2 : ([((1024, 16) : Rg), (1040, 16), (1280, 32)].filter fun q => decide (q ≠ (1040, 16))) = [(1024, 16), (1280, 32)] := by decide
  have q3 : (if ((1040, 16) : Rg) ∈ [((1024, 16) : Rg), (1040, 16), (1280, 32)] then insR (1040, 16) [] else []) = [(1040, 16)] := by decide
  have h := free_hk H (1040, 16) (by decide)
  rw [q1, q2, q3] at h
  exact h
theorem free_2 {W w : World} {B : Blk} {lo hi : Nat} (H : HK W B lo hi 4 8 [(1024, 16), (1280, 32)] [(1040, 16)] w) : Calls Tryd.prog 16 #[.pointer (some ⟨B.h, 0, none⟩), .agg #[.int .u32 1040, .int .u32 16]] w fun e w' => e = .returned (.int .i64 8) ∧ Mid lo hi w w' ∧ HK W B lo hi 4 8 [(1024, 16), (1280, 32)] [(1040, 16)] w' := by
  have q1 : (if ((1040, 16) : Rg) ∈ [((1024, 16) : Rg), (1280, 32)] then (0 : Int) else 8) = 8 := by decide
  have q2 : ([((1024, 16) : Rg), (1280, 32)].filter fun q => decide (q ≠ (1040, 16))) = [(1024, 16), (1280, 32)] := by decide
  have q3 : (if ((1040, 16) : Rg) ∈ [((1024, 16) : Rg), (1280, 32)] then insR (1040, 16) [(1040, 16)] else [((1040, 16) : Rg)]) = [(1040, 16)] := by decide
  have h := free_hk H (1040, 16) (by decide)
  rw [q1, q2, q3] at h
  exact h
section
set_option maxHeartbeats 4000000 in
theorem works_any14 (W : World) (hT : TabAt 0 Lib.deBruijn32tab W) : Calls Tryd.prog 7 #[] W fun e w' => e = .returned (.bool true) ∧ Below W.heap.size W w' := by
  have hRg := Lib.hid (fun a n w => region_any a n w)
  have hNw := Lib.hid (fun w1 (hb : Below W.heap.size W w1) => (new_hk (tab_grow hT hb) 1024 1024 (by decide) (by decide) (by decide) (by decide)))
  have hNw' := Lib.hid (fun w1 (hb : Below W.heap.size W w1) => (show Calls Tryd.prog 9 #[.agg #[.int .u32 1024, .int .u32 1024]] w1 fun e w' => ∃ B lo, e = .returned (.tuple #[.pointer (some ⟨B.h, 0, none⟩), .int .i64 0]) ∧ HK W B lo w'.heap.size 4 8 [] [] w' from
    (hNw.out w1 hb).mono fun e w' ⟨B, lo, he, H⟩ => ⟨B, lo, he, H.h, H.t, hb.trans (H.bl.mono hb.size), H.g, Nat.le_trans hb.size H.lo⟩))
  clear hT hNw
  go_enter Tryd.func7, Tryd.ntmps7
  go_wp2_with fail
  refine (hRg.out 1024 1024 _).mono ?_
  rintro e w1 ⟨rfl, hb⟩
  have hb1 := Lib.hid hb
  dsimp only [rgV]
  clear hb
  go_wp2_with fail
  refine (hNw'.out _ hb1.out).mono ?_
  rintro e w2 ⟨B, lo, rfl, H⟩
  obtain ⟨hi, hhi⟩ : ∃ hi, hi = w2.heap.size := ⟨_, rfl⟩
  rw [← hhi] at H
  have H2 := Lib.hid H
  have hh := Lib.hid hhi
  clear H hhi hNw' hb1
  have m1 := Lib.hid (mal_yes H2.out 10 (by decide) w_1 (show insR (1024, 16) [] = [(1024, 16)] from rfl))
  go_wp2_with fail
  refine m1.out.mono ?_
  rintro e w3 ⟨rfl, hm, H⟩
  have al : Below w3.heap.size w3 (w3.alloc (.cells #[.int .u32 1024, .int .u32 16] 26)) := (Below.refl _ _).alloc (Nat.le_refl _) _
  have H3 := Lib.hid (H.grow al)
  have qb3 := Lib.hid (show hi ≤ w3.heap.size from H.his)
  have X3 := Lib.hid (Bx.new w3 (.int .u32 1024) (.int .u32 16) 26)
  clear hm H m1 al
  dsimp only [rgV]
  go_upto_region 5 with (fail)
  generalize w3.alloc (.cells #[.int .u32 1024, .int .u32 16] 26) = V3 at H3 X3 ⊢
  generalize w3.heap.size = b3 at X3 qb3 ⊢
  have m1 := Lib.hid (mal_yes H3.out 16 (by decide) w_2 (show insR (1040, 16) [(1024, 16)] = [(1024, 16), (1040, 16)] from rfl))
  go_wp2_with fail
  refine m1.out.mono ?_
  rintro e w4 ⟨rfl, hm, H⟩
  have al : Below w4.heap.size w4 (w4.alloc (.cells #[.int .u32 1040, .int .u32 16] 26)) := (Below.refl _ _).alloc (Nat.le_refl _) _
  have H4 := Lib.hid (H.grow al)
  replace X3 := Lib.hid ((X3.out.mid hm qb3.out).grow al)
  have qb4 := Lib.hid (show hi ≤ w4.heap.size from H.his)
  have X4 := Lib.hid (Bx.new w4 (.int .u32 1040) (.int .u32 16) 26)
  clear hm H m1 al
  dsimp only [rgV]
  go_upto_region 6 with (fail)
  generalize w4.alloc (.cells #[.int .u32 1040, .int .u32 16] 26) = V4 at H4 X3 X4 ⊢
  generalize w4.heap.size = b4 at X4 qb4 ⊢
  have m1 := Lib.hid (mal_yes H4.out 17 (by decide) w_3 (show insR (1280, 32) [(1024, 16), (1040, 16)] = [(1024, 16), (1040, 16), (1280, 32)] from rfl))
  go_wp2_with fail
  refine m1.out.mono ?_
  rintro e w5 ⟨rfl, hm, H⟩
  have al : Below w5.heap.size w5 (w5.alloc (.cells #[.int .u32 1280, .int .u32 32] 26)) := (Below.refl _ _).alloc (Nat.le_refl _) _
  have H5 := Lib.hid (H.grow al)
  replace X3 := Lib.hid ((X3.out.mid hm qb3.out).grow al)
  replace X4 := Lib.hid ((X4.out.mid hm qb4.out).grow al)
  have qb5 := Lib.hid (show hi ≤ w5.heap.size from H.his)
  have X5 := Lib.hid (Bx.new w5 (.int .u32 1280) (.int .u32 32) 26)
  clear hm H m1 al
  dsimp only [rgV]
  go_upto_region 7 with (fail)
  generalize w5.alloc (.cells #[.int .u32 1280, .int .u32 32] 26) = V5 at H5 X3 X4 X5 ⊢
  generalize w5.heap.size = b5 at X5 qb5 ⊢
  have m1 := Lib.hid (mal_not H5.out 600 (by decide) w_4)
  go_wp2_with fail
  refine m1.out.mono ?_
  rintro e w6 ⟨rfl, hm, H⟩
  have al : Below w6.heap.size w6 (w6.alloc (.cells #[.int .u32 0, .int .u32 0] 26)) := (Below.refl _ _).alloc (Nat.le_refl _) _
  have H6 := Lib.hid (H.grow al)
  replace X3 := Lib.hid ((X3.out.mid hm qb3.out).grow al)
  replace X4 := Lib.hid ((X4.out.mid hm qb4.out).grow al)
  replace X5 := Lib.hid ((X5.out.mid hm qb5.out).grow al)
  clear hm H m1 al
  dsimp only [rgV]
  go_upto_region 8 with (fail)
  generalize w6.alloc (.cells #[.int .u32 0, .int .u32 0] 26) = V6 at H6 X3 X4 X5 ⊢
  generalize w6.heap.size = b6 at ⊢
  obtain ⟨S, hS0⟩ : ∃ S, S = fun w' => HK W B lo hi 4 8 [(1024, 16), (1040, 16), (1280, 32)] [] w' ∧ Bx b3 (.int .u32 1024) (.int .u32 16) w' ∧ Bx b4 (.int .u32 1040) (.int .u32 16) w' ∧ Bx b5 (.int .u32 1280) (.int .u32 32) w' := ⟨_, rfl⟩
  have hK : ∀ w', S w' → HK W B lo hi 4 8 [(1024, 16), (1040, 16), (1280, 32)] [] w' ∧ Bx b3 (.int .u32 1024) (.int .u32 16) w' ∧ Bx b4 (.int .u32 1040) (.int .u32 16) w' ∧ Bx b5 (.int .u32 1280) (.int .u32 32) w' := fun w' h => by rw [hS0] at h; exact h
  have hS : ∀ w1 w', S w1 → Below w1.heap.size w1 w' → S w' := fun w1 w' h k => by rw [hS0] at h ⊢; exact ⟨h.1.grow k, h.2.1.grow k, h.2.2.1.grow k, h.2.2.2.grow k⟩
  have h0 : S V6 := by rw [hS0]; exact ⟨H6.out, X3.out, X4.out, X5.out⟩
  have g1 := Lib.hid (cls_bel hS (fun w => (show Calls Tryd.prog 8 #[.int .u32 1024, .int .u32 16] w fun e w' => e = .returned (.agg #[.int .u32 1024, .int .u32 16]) ∧ Below w.heap.size w w' from hRg.out 1024 16 w)))
  have g2 := Lib.hid (cls_bel hS (fun w => (show Calls Tryd.prog 8 #[.int .u32 1040, .int .u32 16] w fun e w' => e = .returned (.agg #[.int .u32 1040, .int .u32 16]) ∧ Below w.heap.size w w' from hRg.out 1040 16 w)))
  have g3 := Lib.hid (cls_bel hS (fun w => (show Calls Tryd.prog 8 #[.int .u32 1280, .int .u32 32] w fun e w' => e = .returned (.agg #[.int .u32 1280, .int .u32 32]) ∧ Below w.heap.size w w' from hRg.out 1280 32 w)))
  have a3 : ∀ y : Wd S, y.w.cell? ⟨b3, 0, none⟩ = some (.int .u32 1024) := fun y => (hK _ y.h).2.1.c0
  have a4 : ∀ y : Wd S, y.w.cell? ⟨b3, 1, none⟩ = some (.int .u32 16) := fun y => (hK _ y.h).2.1.c1
  have a5 : ∀ y : Wd S, y.w.cell? ⟨b4, 0, none⟩ = some (.int .u32 1040) := fun y => (hK _ y.h).2.2.1.c0
  have a6 : ∀ y : Wd S, y.w.cell? ⟨b4, 1, none⟩ = some (.int .u32 16) := fun y => (hK _ y.h).2.2.1.c1
  have a7 : ∀ y : Wd S, y.w.cell? ⟨b5, 0, none⟩ = some (.int .u32 1280) := fun y => (hK _ y.h).2.2.2.c0
  have a8 : ∀ y : Wd S, y.w.cell? ⟨b5, 1, none⟩ = some (.int .u32 32) := fun y => (hK _ y.h).2.2.2.c1
  have r1 : ∀ w, (Op.equalIn 10000 26 (.agg #[.int .u32 1024, .int .u32 16]) (.agg #[.int .u32 1024, .int .u32 16])).run Tryd.prog w = .ok true w := fun w => rg_eq (1024, 16) (1024, 16) true (by decide) w
  have r2 : ∀ w, (Op.equalIn 10000 26 (.agg #[.int .u32 1040, .int .u32 16]) (.agg #[.int .u32 1040, .int .u32 16])).run Tryd.prog w = .ok true w := fun w => rg_eq (1040, 16) (1040, 16) true (by decide) w
  have r3 : ∀ w, (Op.equalIn 10000 26 (.agg #[.int .u32 1280, .int .u32 32]) (.agg #[.int .u32 1280, .int .u32 32])).run Tryd.prog w = .ok true w := fun w => rg_eq (1280, 32) (1280, 32) true (by decide) w
  have HS := Lib.hid hS
  have HKK := Lib.hid hK
  clear hS hK hS0 H2 H3 H4 H5 H6 X3 X4 X5
  refine region_cls_any S 30 (by kernel_rfl) (by kernel_rfl) (HS.out _ _ h0 (Below.refl _ _).drew) ?_
  simp only [List.take_succ_cons, List.take_zero]
  repeat (first
    | go_big_quiet_skip
    | (go_big_quiet_want
       go_big_quiet_op
       first
       | go_big_quiet_on
       | (apply Exists.intro
          refine ⟨fun y => ?_, ?_⟩
          · first | exact rfl | with_reducible exact g1.out y | with_reducible exact g2.out y | with_reducible exact g3.out y
          go_big_quiet_on)))
  refine wpQuiet_nil ?_
  intro y
  have hk := Lib.hid (HKK.out _ y.h)
  obtain ⟨Z, hZ⟩ : ∃ Z : World, Z = y.w := ⟨_, rfl⟩
  rw [← hZ] at hk ⊢
  clear hZ h0 a3 a4 a5 a6 a7 a8 g1 g2 g3 HS HKK r1 r2 r3
  clear y S
  simp only [List.length_cons, List.length_nil, Nat.reduceAdd, Nat.reduceSub]
  refine wpAny_listed' (s' := #[true, true, true, true, true, true, true, true, true, true, true, true, true, true, true, true, true, true, true, true, true, true, true, true, true, true, true, true, true, true, false, false, false, false, false, false, false, false, false, false, false, false, false, false, false, false, false, false, false, false, false, false, false, false]) (by kernel_rfl) ?_
  have X := Lib.hid hk.out.2.2.1
  have H := Lib.hid hk.out.1
  clear hk
  refine wpAny_take (i := 30) (v := ?_) rfl (by kernel_rfl) (by kernel_rfl) (by kernel_rfl) (fun _ _ _ h => h) (Or.inl ⟨by rfl, ?h11a⟩) ?h11b
  case h11a => intro w; go_simp; try with_reducible rfl
  try simp only [Act.put, List.getElem_toArray, List.getElem_cons_zero, List.getElem_cons_succ, List.setIfInBounds_toArray, List.set_cons_zero, List.set_cons_succ]
  refine wpAny_ready (rs := [31]) (by kernel_rfl) (by simp) (AllReady.cons rfl (fun K hK => ?_) AllReady.nil)
  replace hK := Lib.hid hK
  go_simp
  refine (live_hk H.out).mono ?_
  rintro e Z1 ⟨v, rfl, hr, hb, hx⟩
  obtain ⟨A1, cap1, rfl, _⟩ := rgs_of hr
  replace X := Lib.hid (X.out.grow hb)
  replace H := Lib.hid hx
  clear hr hb hx
  go_simp
  refine hK.out _ _ ?_
  clear hK K
  try simp only [Act.put, List.getElem_toArray, List.getElem_cons_zero, List.getElem_cons_succ, List.setIfInBounds_toArray, List.set_cons_zero, List.set_cons_succ]
  refine wpAny_take (i := 32) (v := ?_) rfl (by kernel_rfl) (by kernel_rfl) (by kernel_rfl) (fun _ _ _ h => h) (Or.inl ⟨by rfl, ?h12a⟩) ?h12b
  case h12a => intro w; go_simp; try with_reducible rfl
  try simp only [Act.put, List.getElem_toArray, List.getElem_cons_zero, List.getElem_cons_succ, List.setIfInBounds_toArray, List.set_cons_zero, List.set_cons_succ]
  refine wpAny_take (i := 33) (v := ?_) rfl (by kernel_rfl) (by kernel_rfl) (by kernel_rfl) (fun _ _ _ h => h) (Or.inl ⟨by rfl, ?h13a⟩) ?h13b
  case h13a => intro w; go_simp; try with_reducible rfl
  try simp only [Act.put, List.getElem_toArray, List.getElem_cons_zero, List.getElem_cons_succ, List.setIfInBounds_toArray, List.set_cons_zero, List.set_cons_succ]
  refine wpAny_take (i := 34) (v := ?_) rfl (by kernel_rfl) (by kernel_rfl) (by kernel_rfl) (fun _ _ _ h => h) (Or.inl ⟨by rfl, ?h14a⟩) ?h14b
  case h14a => intro w; go_simp; try with_reducible rfl
  try simp only [Act.put, List.getElem_toArray, List.getElem_cons_zero, List.getElem_cons_succ, List.setIfInBounds_toArray, List.set_cons_zero, List.set_cons_succ]
  refine wpAny_take (i := 35) (v := ?_) rfl (by kernel_rfl) (by kernel_rfl) (by kernel_rfl) (fun _ _ _ h => h) (Or.inl ⟨by rfl, ?h15a⟩) ?h15b
  case h15a => intro w; go_simp; try with_reducible rfl
  try simp only [Act.put, List.getElem_toArray, List.getElem_cons_zero, List.getElem_cons_succ, List.setIfInBounds_toArray, List.set_cons_zero, List.set_cons_succ]
  refine wpAny_take (i := 36) (v := ?_) rfl (by kernel_rfl) (by kernel_rfl) (by kernel_rfl) (fun _ _ _ h => h) (Or.inl ⟨by rfl, ?h16a⟩) ?h16b
  case h16a => intro w; go_simp; try with_reducible rfl
  try simp only [Act.put, List.getElem_toArray, List.getElem_cons_zero, List.getElem_cons_succ, List.setIfInBounds_toArray, List.set_cons_zero, List.set_cons_succ]
  refine wpAny_ready (rs := [37]) (by kernel_rfl) (by simp) (AllReady.cons rfl (fun K hK => ?_) AllReady.nil)
  replace hK := Lib.hid hK
  have k0 := X.out.c0
  have k1 := X.out.c1
  go_simp
  clear k0 k1
  refine hK.out _ _ ?_
  clear hK K
  try simp only [Act.put, List.getElem_toArray, List.getElem_cons_zero, List.getElem_cons_succ, List.setIfInBounds_toArray, List.set_cons_zero, List.set_cons_succ]
  refine wpAny_ready (rs := [38]) (by kernel_rfl) (by simp) (AllReady.cons rfl (fun K hK => ?_) AllReady.nil)
  replace hK := Lib.hid hK
  go_simp
  refine (free_1 H.out).mono ?_
  rintro e Z2 ⟨rfl, hm, hx⟩
  replace X := Lib.hid (X.out.mid hm qb4.out)
  replace H := Lib.hid hx
  clear hm hx
  go_simp
  refine hK.out _ _ ?_
  clear hK K
  try simp only [Act.put, List.getElem_toArray, List.getElem_cons_zero, List.getElem_cons_succ, List.setIfInBounds_toArray, List.set_cons_zero, List.set_cons_succ]
  refine wpAny_take (i := 39) (v := ?_) rfl (by kernel_rfl) (by kernel_rfl) (by kernel_rfl) (fun _ _ _ h => h) (Or.inl ⟨by rfl, ?h17a⟩) ?h17b
  case h17a => intro w; go_simp; try with_reducible rfl
  try simp only [Act.put, List.getElem_toArray, List.getElem_cons_zero, List.getElem_cons_succ, List.setIfInBounds_toArray, List.set_cons_zero, List.set_cons_succ]
  refine wpAny_take (i := 40) (v := ?_) rfl (by kernel_rfl) (by kernel_rfl) (by kernel_rfl) (fun _ _ _ h => h) (Or.inl ⟨by rfl, ?h18a⟩) ?h18b
  case h18a => intro w; go_simp; try with_reducible rfl
  try simp only [Act.put, List.getElem_toArray, List.getElem_cons_zero, List.getElem_cons_succ, List.setIfInBounds_toArray, List.set_cons_zero, List.set_cons_succ]
  refine wpAny_take (i := 41) (v := ?_) rfl (by kernel_rfl) (by kernel_rfl) (by kernel_rfl) (fun _ _ _ h => h) (Or.inl ⟨by rfl, ?h19a⟩) ?h19b
  case h19a => intro w; go_simp; try with_reducible rfl
  try simp only [Act.put, List.getElem_toArray, List.getElem_cons_zero, List.getElem_cons_succ, List.setIfInBounds_toArray, List.set_cons_zero, List.set_cons_succ]
  refine wpAny_take (i := 42) (v := ?_) rfl (by kernel_rfl) (by kernel_rfl) (by kernel_rfl) (fun _ _ _ h => h) (Or.inl ⟨by rfl, ?h20a⟩) ?h20b
  case h20a => intro w; go_simp; try with_reducible rfl
  try simp only [Act.put, List.getElem_toArray, List.getElem_cons_zero, List.getElem_cons_succ, List.setIfInBounds_toArray, List.set_cons_zero, List.set_cons_succ]
  refine wpAny_ready (rs := [43]) (by kernel_rfl) (by simp) (AllReady.cons rfl (fun K hK => ?_) AllReady.nil)
  replace hK := Lib.hid hK
  have k0 := X.out.c0
  have k1 := X.out.c1
  go_simp
  clear k0 k1
  refine hK.out _ _ ?_
  clear hK K
  try simp only [Act.put, List.getElem_toArray, List.getElem_cons_zero, List.getElem_cons_succ, List.setIfInBounds_toArray, List.set_cons_zero, List.set_cons_succ]
  refine wpAny_ready (rs := [44]) (by kernel_rfl) (by simp) (AllReady.cons rfl (fun K hK => ?_) AllReady.nil)
  replace hK := Lib.hid hK
  go_simp
  refine (free_2 H.out).mono ?_
  rintro e Z3 ⟨rfl, hm, hx⟩
  replace H := Lib.hid hx
  clear hm hx
  go_simp
  refine hK.out _ _ ?_
  clear hK K
  try simp only [Act.put, List.getElem_toArray, List.getElem_cons_zero, List.getElem_cons_succ, List.setIfInBounds_toArray, List.set_cons_zero, List.set_cons_succ]
  refine wpAny_take (i := 45) (v := ?_) rfl (by kernel_rfl) (by kernel_rfl) (by kernel_rfl) (fun _ _ _ h => h) (Or.inl ⟨by rfl, ?h21a⟩) ?h21b
  case h21a => intro w; go_simp; try with_reducible rfl
  try simp only [Act.put, List.getElem_toArray, List.getElem_cons_zero, List.getElem_cons_succ, List.setIfInBounds_toArray, List.set_cons_zero, List.set_cons_succ]
  refine wpAny_take (i := 46) (v := ?_) rfl (by kernel_rfl) (by kernel_rfl) (by kernel_rfl) (fun _ _ _ h => h) (Or.inl ⟨by rfl, ?h22a⟩) ?h22b
  case h22a => intro w; go_simp; try with_reducible rfl
  try simp only [Act.put, List.getElem_toArray, List.getElem_cons_zero, List.getElem_cons_succ, List.setIfInBounds_toArray, List.set_cons_zero, List.set_cons_succ]
  refine wpAny_take (i := 47) (v := ?_) rfl (by kernel_rfl) (by kernel_rfl) (by kernel_rfl) (fun _ _ _ h => h) (Or.inl ⟨by rfl, ?h23a⟩) ?h23b
  case h23a => intro w; go_simp; try with_reducible rfl
  try simp only [Act.put, List.getElem_toArray, List.getElem_cons_zero, List.getElem_cons_succ, List.setIfInBounds_toArray, List.set_cons_zero, List.set_cons_succ]
  refine wpAny_take (i := 48) (v := ?_) rfl (by kernel_rfl) (by kernel_rfl) (by kernel_rfl) (fun _ _ _ h => h) (Or.inl ⟨by rfl, ?h24a⟩) ?h24b
  case h24a => intro w; go_simp; try with_reducible rfl
  try simp only [Act.put, List.getElem_toArray, List.getElem_cons_zero, List.getElem_cons_succ, List.setIfInBounds_toArray, List.set_cons_zero, List.set_cons_succ]
  refine wpAny_ready (rs := [49]) (by kernel_rfl) (by simp) (AllReady.cons rfl (fun K hK => ?_) AllReady.nil)
  replace hK := Lib.hid hK
  go_simp
  refine (rest_hk H.out).mono ?_
  rintro e Z4 ⟨v, rfl, hr, hb, hx⟩
  obtain ⟨A2, cap2, rfl, _⟩ := rgs_of hr
  replace H := Lib.hid hx
  clear hr hb hx
  go_simp
  refine hK.out _ _ ?_
  clear hK K
  try simp only [Act.put, List.getElem_toArray, List.getElem_cons_zero, List.getElem_cons_succ, List.setIfInBounds_toArray, List.set_cons_zero, List.set_cons_succ]
  refine wpAny_take (i := 50) (v := ?_) rfl (by kernel_rfl) (by kernel_rfl) (by kernel_rfl) (fun _ _ _ h => h) (Or.inl ⟨by rfl, ?h25a⟩) ?h25b
  case h25a => intro w; go_simp; try with_reducible rfl
  try simp only [Act.put, List.getElem_toArray, List.getElem_cons_zero, List.getElem_cons_succ, List.setIfInBounds_toArray, List.set_cons_zero, List.set_cons_succ]
  refine wpAny_take (i := 51) (v := ?_) rfl (by kernel_rfl) (by kernel_rfl) (by kernel_rfl) (fun _ _ _ h => h) (Or.inl ⟨by rfl, ?h26a⟩) ?h26b
  case h26a => intro w; go_simp; try with_reducible rfl
  try simp only [Act.put, List.getElem_toArray, List.getElem_cons_zero, List.getElem_cons_succ, List.setIfInBounds_toArray, List.set_cons_zero, List.set_cons_succ]
  refine wpAny_take (i := 52) (v := ?_) rfl (by kernel_rfl) (by kernel_rfl) (by kernel_rfl) (fun _ _ _ h => h) (Or.inl ⟨by rfl, ?h27a⟩) ?h27b
  case h27a => intro w; go_simp; try with_reducible rfl
  try simp only [Act.put, List.getElem_toArray, List.getElem_cons_zero, List.getElem_cons_succ, List.setIfInBounds_toArray, List.set_cons_zero, List.set_cons_succ]
  refine wpAny_take (i := 53) (v := ?_) rfl (by kernel_rfl) (by kernel_rfl) (by kernel_rfl) (fun _ _ _ h => h) (Or.inl ⟨by rfl, ?h28a⟩) ?h28b
  case h28a => intro w; go_simp; try with_reducible rfl
  try simp only [Act.put, List.getElem_toArray, List.getElem_cons_zero, List.getElem_cons_succ, List.setIfInBounds_toArray, List.set_cons_zero, List.set_cons_succ]
  refine wpAny_done (by kernel_rfl) ?_ _
  go_wp2_with fail
  go_ret
  exact ⟨rfl, H.out.bl⟩
end
end Go.Proofs.YticfpnhfhhagpaaDoor
