/- HeapKnown: the chapter's examples of heap; heaps that are none. -/
import Derived.Test.YticfpnhfhhagpaaDoorHpU
import Derived.Test.YticfpnhfhhagpaaDoorLex
import Derived.Test.YticfpnhfhhagpaaDoorTie
import Derived.Test.YticfpnhfhhagpaaDoorCards
import Derived.SevenTiedAt
import Derived.ProofKit
import Derived.OpenShut
import Derived.ChangeOld
import Derived.Deep.LoopGhost
import Derived.Deep.RegionHeld
import Derived.Deep.CutBlock
namespace Go.Proofs.YticfpnhfhhagpaaDoor.hknown
set_option maxRecDepth 100000
open Go.ChangeShapes Go.WideShapes Go.ChangeAt Go.RowKit Go.Shelf Go.Maps
set_option linter.unusedVariables false
set_option linter.unusedSimpArgs false
theorem wk_1 : malO 4 8 ([] ++ []) 10 = some (1024, 16) ∧ malE 4 8 ([] ++ []) 10 = 0 := by decide +kernel
theorem wk_2 : malO 4 8 ([(1024, 16)] ++ []) 16 = some (1040, 16) ∧ malE 4 8 ([(1024, 16)] ++ []) 16 = 0 := by decide +kernel
theorem wk_3 : malO 4 8 ([(1024, 16), (1040, 16)] ++ []) 17 = some (1280, 32) ∧ malE 4 8 ([(1024, 16), (1040, 16)] ++ []) 17 = 0 := by decide +kernel
theorem wk_4 : malO 4 8 ([(1024, 16), (1040, 16), (1280, 32)] ++ []) 1 = some (1056, 16) ∧ malE 4 8 ([(1024, 16), (1040, 16), (1280, 32)] ++ []) 1 = 0 := by decide +kernel
theorem wk_5 : malO 4 8 ([(1024, 16), (1040, 16), (1056, 16), (1280, 32)] ++ []) 300 = some (1536, 512) ∧ malE 4 8 ([(1024, 16), (1040, 16), (1056, 16), (1280, 32)] ++ []) 300 = 0 := by decide +kernel
theorem wk_6 : malO 4 8 ([(1024, 16), (1040, 16), (1056, 16), (1280, 32), (1536, 512)] ++ []) 0 = none ∧ malE 4 8 ([(1024, 16), (1040, 16), (1056, 16), (1280, 32), (1536, 512)] ++ []) 0 = 6 := by decide +kernel
theorem wk_7 : malO 4 8 ([(1024, 16), (1040, 16), (1056, 16), (1280, 32), (1536, 512)] ++ []) 1025 = none ∧ malE 4 8 ([(1024, 16), (1040, 16), (1056, 16), (1280, 32), (1536, 512)] ++ []) 1025 = 6 := by decide +kernel
theorem wk_8 : malO 4 8 ([(1024, 16), (1040, 16), (1056, 16), (1280, 32), (1536, 512)] ++ []) 200 = none ∧ malE 4 8 ([(1024, 16), (1040, 16), (1056, 16), (1280, 32), (1536, 512)] ++ []) 200 = 7 := by decide +kernel
theorem fk_1 {W w : World} {B : Blk} {lo hi : Nat} (H : HK W B lo hi 4 8 [(1024, 16), (1040, 16), (1056, 16), (1280, 32), (1536, 512)] [] w) : Calls Tryd.prog 16 #[.pointer (some ⟨B.h, 0, none⟩), .agg #[.int .u32 1040, .int .u32 16]] w fun e w' => e = .returned (.int .i64 0) ∧ Mid lo hi w w' ∧ HK W B lo hi 4 8 [(1024, 16), (1056, 16), (1280, 32), (1536, 512)] [(1040, 16)] w' := by
  have q1 : (if ((1040, 16) : Rg) ∈ ([(1024, 16), (1040, 16), (1056, 16), (1280, 32), (1536, 512)] : List Rg) then (0 : Int) else 8) = 0 := by decide
  have q2 : (([(1024, 16), (1040, 16), (1056, 16), (1280, 32), (1536, 512)] : List Rg).filter fun q => decide (q ≠ (1040, 16))) = [(1024, 16), (1056, 16), (1280, 32), (1536, 512)] := by decide
  have q3 : (if ((1040, 16) : Rg) ∈ ([(1024, 16), (1040, 16), (1056, 16), (1280, 32), (1536, 512)] : List Rg) then insR (1040, 16) [] else ([] : List Rg)) = [(1040, 16)] := by decide
  have h := free_hk H (1040, 16) (by decide)
  rw [q1, q2, q3] at h
  exact h
theorem fk_2 {W w : World} {B : Blk} {lo hi : Nat} (H : HK W B lo hi 4 8 [(1024, 16), (1056, 16), (1280, 32), (1536, 512)] [(1040, 16)] w) : Calls Tryd.prog 16 #[.pointer (some ⟨B.h, 0, none⟩), .agg #[.int .u32 1040, .int .u32 32]] w fun e w' => e = .returned (.int .i64 8) ∧ Mid lo hi w w' ∧ HK W B lo hi 4 8 [(1024, 16), (1056, 16), (1280, 32), (1536, 512)] [(1040, 16)] w' := by
  have q1 : (if ((1040, 32) : Rg) ∈ ([(1024, 16), (1056, 16), (1280, 32), (1536, 512)] : List Rg) then (0 : Int) else 8) = 8 := by decide
  have q2 : (([(1024, 16), (1056, 16), (1280, 32), (1536, 512)] : List Rg).filter fun q => decide (q ≠ (1040, 32))) = [(1024, 16), (1056, 16), (1280, 32), (1536, 512)] := by decide
  have q3 : (if ((1040, 32) : Rg) ∈ ([(1024, 16), (1056, 16), (1280, 32), (1536, 512)] : List Rg) then insR (1040, 32) [(1040, 16)] else ([(1040, 16)] : List Rg)) = [(1040, 16)] := by decide
  have h := free_hk H (1040, 32) (by decide)
  rw [q1, q2, q3] at h
  exact h
theorem wk_9 : malO 4 8 ([(1024, 16), (1056, 16), (1280, 32), (1536, 512)] ++ [(1040, 16)]) 16 = some (1072, 16) ∧ malE 4 8 ([(1024, 16), (1056, 16), (1280, 32), (1536, 512)] ++ [(1040, 16)]) 16 = 0 := by decide +kernel
theorem fk_3 {W w : World} {B : Blk} {lo hi : Nat} (H : HK W B lo hi 4 8 [(1024, 16), (1056, 16), (1072, 16), (1280, 32), (1536, 512)] [(1040, 16)] w) : Calls Tryd.prog 17 #[.pointer (some ⟨B.h, 0, none⟩), .agg #[.int .u32 1040, .int .u32 16]] w fun e w' => e = .returned (.int .i64 0) ∧ Mid lo hi w w' ∧ HK W B lo hi 4 8 [(1024, 16), (1056, 16), (1072, 16), (1280, 32), (1536, 512)] [] w' := by
  have q1 : (if ((1040, 16) : Rg) ∈ ([(1040, 16)] : List Rg) then (0 : Int) else 8) = 0 := by decide
  have q2 : (([(1040, 16)] : List Rg).filter fun q => decide (q ≠ (1040, 16))) = [] := by decide
  have h := rel_hk H (1040, 16) (by decide)
  rw [q1, q2] at h
  exact h
theorem fk_4 {W w : World} {B : Blk} {lo hi : Nat} (H : HK W B lo hi 4 8 [(1024, 16), (1056, 16), (1072, 16), (1280, 32), (1536, 512)] [] w) : Calls Tryd.prog 17 #[.pointer (some ⟨B.h, 0, none⟩), .agg #[.int .u32 1040, .int .u32 16]] w fun e w' => e = .returned (.int .i64 8) ∧ Mid lo hi w w' ∧ HK W B lo hi 4 8 [(1024, 16), (1056, 16), (1072, 16), (1280, 32), (1536, 512)] [] w' := by
  have q1 : (if ((1040, 16) : Rg) ∈ ([] : List Rg) then (0 : Int) else 8) = 8 := by decide
  have q2 : (([] : List Rg).filter fun q => decide (q ≠ (1040, 16))) = [] := by decide
  have h := rel_hk H (1040, 16) (by decide)
  rw [q1, q2] at h
  exact h
theorem wk_10 : malO 4 8 ([(1024, 16), (1056, 16), (1072, 16), (1280, 32), (1536, 512)] ++ []) 16 = some (1040, 16) ∧ malE 4 8 ([(1024, 16), (1056, 16), (1072, 16), (1280, 32), (1536, 512)] ++ []) 16 = 0 := by decide +kernel
theorem room_k : roomN 8 (fre 4 8 ([(1024, 16), (1040, 16), (1056, 16), (1072, 16), (1280, 32), (1536, 512)] ++ [])) (slF ([(1024, 16), (1040, 16), (1056, 16), (1072, 16), (1280, 32), (1536, 512)] ++ [])) 5 = 416 := by decide +kernel
set_option maxHeartbeats 16000000 in
theorem walk (W : World) (hT : TabAt 0 Lib.deBruijn32tab W) : Calls Tryd.prog 6 #[] W fun e w' => e = .returned (.bool true) ∧ Below W.heap.size W w' := by
  have hRg := Lib.hid (fun a n w => region_any a n w)
  have hNw := Lib.hid (fun w1 (hb : Below W.heap.size W w1) => (show Calls Tryd.prog 9 #[.agg #[.int .u32 1024, .int .u32 1024]] w1 fun e w' => ∃ B lo, e = .returned (.tuple #[.pointer (some ⟨B.h, 0, none⟩), .int .i64 0]) ∧ HK W B lo w'.heap.size 4 8 [] [] w' from
    (new_hk (tab_grow hT hb) 1024 1024 (by decide) (by decide) (by decide) (by decide)).mono fun e w' ⟨B, lo, he, H⟩ => ⟨B, lo, he, H.h, H.t, hb.trans (H.bl.mono hb.size), H.g, Nat.le_trans hb.size H.lo⟩))
  have hBig := Lib.hid (fun w => (show Calls Tryd.prog 9 #[.agg #[.int .u32 0, .int .u32 262144]] w fun e w' => ∃ h, e = .returned (.tuple #[.pointer (some ⟨h, 0, none⟩), .int .i64 0]) ∧ Below w.heap.size w w' from
    (New_any 0 262144 (by decide) (by decide) (by decide) (by decide)).mono fun e w' ⟨B, lo, he, _, _, hb⟩ => ⟨B.h, he, hb⟩))
  clear hT
  go_enter Tryd.func6, Tryd.ntmps6
  go_wp2_with fail
  refine (hRg.out 1024 1024 _).mono ?_
  rintro e w1 ⟨rfl, hb⟩
  have hb1 := Lib.hid hb
  dsimp only [rgV]
  clear hb
  go_wp2_with fail
  refine (hNw.out _ hb1.out).mono ?_
  rintro e w2 ⟨B, lo, rfl, hx⟩
  obtain ⟨hi, hhi⟩ : ∃ hi, hi = w2.heap.size := ⟨_, rfl⟩
  rw [← hhi] at hx
  have H := Lib.hid hx
  clear hx hhi hNw hb1
  have m1 := Lib.hid (mal_yes H.out 10 (by decide) wk_1 (show insR (1024, 16) [] = [(1024, 16)] from rfl))
  dsimp only [rgV] at m1
  go_wp2_with fail
  refine m1.out.mono ?_
  rintro e w3 ⟨rfl, hm, hx⟩
  replace H := Lib.hid hx
  clear hm hx m1
  have m1 := Lib.hid (mal_yes H.out 16 (by decide) wk_2 (show insR (1040, 16) [(1024, 16)] = [(1024, 16), (1040, 16)] from rfl))
  dsimp only [rgV] at m1
  go_wp2_with fail
  refine m1.out.mono ?_
  rintro e w4 ⟨rfl, hm, hx⟩
  replace H := Lib.hid hx
  clear hm hx m1
  have m1 := Lib.hid (mal_yes H.out 17 (by decide) wk_3 (show insR (1280, 32) [(1024, 16), (1040, 16)] = [(1024, 16), (1040, 16), (1280, 32)] from rfl))
  dsimp only [rgV] at m1
  go_wp2_with fail
  refine m1.out.mono ?_
  rintro e w5 ⟨rfl, hm, hx⟩
  replace H := Lib.hid hx
  clear hm hx m1
  have m1 := Lib.hid (mal_yes H.out 1 (by decide) wk_4 (show insR (1056, 16) [(1024, 16), (1040, 16), (1280, 32)] = [(1024, 16), (1040, 16), (1056, 16), (1280, 32)] from rfl))
  dsimp only [rgV] at m1
  go_wp2_with fail
  refine m1.out.mono ?_
  rintro e w6 ⟨rfl, hm, hx⟩
  replace H := Lib.hid hx
  clear hm hx m1
  have al : Below w6.heap.size w6 (w6.alloc (.cells #[.int .u32 1056, .int .u32 16] 26)) := (Below.refl _ _).alloc (Nat.le_refl _) _
  have qa := Lib.hid (show hi ≤ w6.heap.size from H.out.his)
  have Xa := Lib.hid (Bx.new w6 (.int .u32 1056) (.int .u32 16) 26)
  replace H := Lib.hid (H.out.grow al)
  clear al
  go_upto_region 6 with (fail)
  generalize w6.alloc (.cells #[.int .u32 1056, .int .u32 16] 26) = V6 at H Xa ⊢
  obtain ⟨ba, hba⟩ : ∃ b, b = w6.heap.size := ⟨_, rfl⟩
  rw [← hba] at Xa qa ⊢
  clear hba
  have m1 := Lib.hid (mal_yes H.out 300 (by decide) wk_5 (show insR (1536, 512) [(1024, 16), (1040, 16), (1056, 16), (1280, 32)] = [(1024, 16), (1040, 16), (1056, 16), (1280, 32), (1536, 512)] from rfl))
  dsimp only [rgV] at m1
  go_wp2_with fail
  refine m1.out.mono ?_
  rintro e w7 ⟨rfl, hm, hx⟩
  replace Xa := Lib.hid (Xa.out.mid hm qa.out)
  replace H := Lib.hid hx
  clear hm hx m1
  have al : Below w7.heap.size w7 (w7.alloc (.cells #[.int .u32 1536, .int .u32 512] 26)) := (Below.refl _ _).alloc (Nat.le_refl _) _
  replace Xa := Lib.hid (Xa.out.grow al)
  have qb := Lib.hid (show hi ≤ w7.heap.size from H.out.his)
  have Xb := Lib.hid (Bx.new w7 (.int .u32 1536) (.int .u32 512) 26)
  replace H := Lib.hid (H.out.grow al)
  clear al
  go_upto_region 7 with (fail)
  generalize w7.alloc (.cells #[.int .u32 1536, .int .u32 512] 26) = V7 at H Xa Xb ⊢
  obtain ⟨bb, hbb⟩ : ∃ b, b = w7.heap.size := ⟨_, rfl⟩
  rw [← hbb] at Xb qb ⊢
  clear hbb
  have m1 := Lib.hid (mal_not H.out 0 (by decide) wk_6)
  dsimp only [rgV] at m1
  go_wp2_with fail
  refine m1.out.mono ?_
  rintro e w8 ⟨rfl, hm, hx⟩
  replace Xa := Lib.hid (Xa.out.mid hm qa.out)
  replace Xb := Lib.hid (Xb.out.mid hm qb.out)
  replace H := Lib.hid hx
  clear hm hx m1
  have al : Below w8.heap.size w8 (w8.alloc (.cells #[.int .u32 0, .int .u32 0] 26)) := (Below.refl _ _).alloc (Nat.le_refl _) _
  replace Xa := Lib.hid (Xa.out.grow al)
  replace Xb := Lib.hid (Xb.out.grow al)
  replace H := Lib.hid (H.out.grow al)
  clear al
  go_upto_region 8 with (fail)
  generalize w8.alloc (.cells #[.int .u32 0, .int .u32 0] 26) = V8 at H Xa Xb ⊢
  generalize w8.heap.size = z8 at ⊢
  have m1 := Lib.hid (mal_not H.out 1025 (by decide) wk_7)
  dsimp only [rgV] at m1
  go_wp2_with fail
  refine m1.out.mono ?_
  rintro e w9 ⟨rfl, hm, hx⟩
  replace Xa := Lib.hid (Xa.out.mid hm qa.out)
  replace Xb := Lib.hid (Xb.out.mid hm qb.out)
  replace H := Lib.hid hx
  clear hm hx m1
  have al : Below w9.heap.size w9 (w9.alloc (.cells #[.int .u32 0, .int .u32 0] 26)) := (Below.refl _ _).alloc (Nat.le_refl _) _
  replace Xa := Lib.hid (Xa.out.grow al)
  replace Xb := Lib.hid (Xb.out.grow al)
  replace H := Lib.hid (H.out.grow al)
  clear al
  go_upto_region 9 with (fail)
  generalize w9.alloc (.cells #[.int .u32 0, .int .u32 0] 26) = V9 at H Xa Xb ⊢
  generalize w9.heap.size = z9 at ⊢
  have m1 := Lib.hid (mal_not H.out 200 (by decide) wk_8)
  dsimp only [rgV] at m1
  go_wp2_with fail
  refine m1.out.mono ?_
  rintro e w10 ⟨rfl, hm, hx⟩
  replace Xa := Lib.hid (Xa.out.mid hm qa.out)
  replace Xb := Lib.hid (Xb.out.mid hm qb.out)
  replace H := Lib.hid hx
  clear hm hx m1
  have al : Below w10.heap.size w10 (w10.alloc (.cells #[.int .u32 0, .int .u32 0] 26)) := (Below.refl _ _).alloc (Nat.le_refl _) _
  replace Xa := Lib.hid (Xa.out.grow al)
  replace Xb := Lib.hid (Xb.out.grow al)
  replace H := Lib.hid (H.out.grow al)
  clear al
  go_upto_region 10 with (fail)
  generalize w10.alloc (.cells #[.int .u32 0, .int .u32 0] 26) = V10 at H Xa Xb ⊢
  generalize w10.heap.size = z10 at ⊢
  go_wp2_with fail
  refine (hRg.out 1040 16 _).mono ?_
  rintro e w11 ⟨rfl, hb⟩
  replace Xa := Lib.hid (Xa.out.grow hb)
  replace Xb := Lib.hid (Xb.out.grow hb)
  replace H := Lib.hid (H.out.grow hb)
  clear hb
  dsimp only [rgV]
  go_wp2_with fail
  refine (fk_1 H.out).mono ?_
  rintro e w12 ⟨rfl, hm, hx⟩
  replace Xa := Lib.hid (Xa.out.mid hm qa.out)
  replace Xb := Lib.hid (Xb.out.mid hm qb.out)
  replace H := Lib.hid hx
  clear hm hx
  go_wp2_with fail
  refine (hRg.out 1040 32 _).mono ?_
  rintro e w13 ⟨rfl, hb⟩
  replace Xa := Lib.hid (Xa.out.grow hb)
  replace Xb := Lib.hid (Xb.out.grow hb)
  replace H := Lib.hid (H.out.grow hb)
  clear hb
  dsimp only [rgV]
  go_wp2_with fail
  refine (fk_2 H.out).mono ?_
  rintro e w14 ⟨rfl, hm, hx⟩
  replace Xa := Lib.hid (Xa.out.mid hm qa.out)
  replace Xb := Lib.hid (Xb.out.mid hm qb.out)
  replace H := Lib.hid hx
  clear hm hx
  have m1 := Lib.hid (mal_yes H.out 16 (by decide) wk_9 (show insR (1072, 16) [(1024, 16), (1056, 16), (1280, 32), (1536, 512)] = [(1024, 16), (1056, 16), (1072, 16), (1280, 32), (1536, 512)] from rfl))
  dsimp only [rgV] at m1
  go_wp2_with fail
  refine m1.out.mono ?_
  rintro e w15 ⟨rfl, hm, hx⟩
  replace Xa := Lib.hid (Xa.out.mid hm qa.out)
  replace Xb := Lib.hid (Xb.out.mid hm qb.out)
  replace H := Lib.hid hx
  clear hm hx m1
  have al : Below w15.heap.size w15 (w15.alloc (.cells #[.int .u32 1072, .int .u32 16] 26)) := (Below.refl _ _).alloc (Nat.le_refl _) _
  replace Xa := Lib.hid (Xa.out.grow al)
  replace Xb := Lib.hid (Xb.out.grow al)
  have qi := Lib.hid (show hi ≤ w15.heap.size from H.out.his)
  have Xi := Lib.hid (Bx.new w15 (.int .u32 1072) (.int .u32 16) 26)
  replace H := Lib.hid (H.out.grow al)
  clear al
  go_upto_region 13 with (fail)
  generalize w15.alloc (.cells #[.int .u32 1072, .int .u32 16] 26) = V15 at H Xa Xb Xi ⊢
  obtain ⟨bi, hbi⟩ : ∃ b, b = w15.heap.size := ⟨_, rfl⟩
  rw [← hbi] at Xi qi ⊢
  clear hbi
  go_wp2_with fail
  refine (hRg.out 1040 16 _).mono ?_
  rintro e w16 ⟨rfl, hb⟩
  replace Xa := Lib.hid (Xa.out.grow hb)
  replace Xb := Lib.hid (Xb.out.grow hb)
  replace Xi := Lib.hid (Xi.out.grow hb)
  replace H := Lib.hid (H.out.grow hb)
  clear hb
  dsimp only [rgV]
  go_wp2_with fail
  refine (fk_3 H.out).mono ?_
  rintro e w17 ⟨rfl, hm, hx⟩
  replace Xa := Lib.hid (Xa.out.mid hm qa.out)
  replace Xb := Lib.hid (Xb.out.mid hm qb.out)
  replace Xi := Lib.hid (Xi.out.mid hm qi.out)
  replace H := Lib.hid hx
  clear hm hx
  go_wp2_with fail
  refine (hRg.out 1040 16 _).mono ?_
  rintro e w18 ⟨rfl, hb⟩
  replace Xa := Lib.hid (Xa.out.grow hb)
  replace Xb := Lib.hid (Xb.out.grow hb)
  replace Xi := Lib.hid (Xi.out.grow hb)
  replace H := Lib.hid (H.out.grow hb)
  clear hb
  dsimp only [rgV]
  go_wp2_with fail
  refine (fk_4 H.out).mono ?_
  rintro e w19 ⟨rfl, hm, hx⟩
  replace Xa := Lib.hid (Xa.out.mid hm qa.out)
  replace Xb := Lib.hid (Xb.out.mid hm qb.out)
  replace Xi := Lib.hid (Xi.out.mid hm qi.out)
  replace H := Lib.hid hx
  clear hm hx
  have m1 := Lib.hid (mal_yes H.out 16 (by decide) wk_10 (show insR (1040, 16) [(1024, 16), (1056, 16), (1072, 16), (1280, 32), (1536, 512)] = [(1024, 16), (1040, 16), (1056, 16), (1072, 16), (1280, 32), (1536, 512)] from rfl))
  dsimp only [rgV] at m1
  go_wp2_with fail
  refine m1.out.mono ?_
  rintro e w20 ⟨rfl, hm, hx⟩
  replace Xa := Lib.hid (Xa.out.mid hm qa.out)
  replace Xb := Lib.hid (Xb.out.mid hm qb.out)
  replace Xi := Lib.hid (Xi.out.mid hm qi.out)
  replace H := Lib.hid hx
  clear hm hx m1
  have al : Below w20.heap.size w20 (w20.alloc (.cells #[.int .u32 1040, .int .u32 16] 26)) := (Below.refl _ _).alloc (Nat.le_refl _) _
  replace Xa := Lib.hid (Xa.out.grow al)
  replace Xb := Lib.hid (Xb.out.grow al)
  replace Xi := Lib.hid (Xi.out.grow al)
  have ql := Lib.hid (show hi ≤ w20.heap.size from H.out.his)
  have Xl := Lib.hid (Bx.new w20 (.int .u32 1040) (.int .u32 16) 26)
  replace H := Lib.hid (H.out.grow al)
  clear al
  go_upto_region 16 with (fail)
  generalize w20.alloc (.cells #[.int .u32 1040, .int .u32 16] 26) = V20 at H Xa Xb Xi Xl ⊢
  obtain ⟨bl, hbl⟩ : ∃ b, b = w20.heap.size := ⟨_, rfl⟩
  rw [← hbl] at Xl ql ⊢
  clear hbl
  go_wp2_with fail
  refine (hRg.out 1 256 _).mono ?_
  rintro e w21 ⟨rfl, hb⟩
  replace Xa := Lib.hid (Xa.out.grow hb)
  replace Xb := Lib.hid (Xb.out.grow hb)
  replace Xi := Lib.hid (Xi.out.grow hb)
  replace Xl := Lib.hid (Xl.out.grow hb)
  replace H := Lib.hid (H.out.grow hb)
  clear hb
  dsimp only [rgV]
  go_wp2_with fail
  refine (New_arg 1 256 (by decide) (by decide) (by decide)).mono ?_
  rintro e w22 ⟨rfl, hb⟩
  replace Xa := Lib.hid (Xa.out.grow hb)
  replace Xb := Lib.hid (Xb.out.grow hb)
  replace Xi := Lib.hid (Xi.out.grow hb)
  replace Xl := Lib.hid (Xl.out.grow hb)
  replace H := Lib.hid (H.out.grow hb)
  clear hb
  go_wp2_with fail
  refine (hRg.out 256 0 _).mono ?_
  rintro e w23 ⟨rfl, hb⟩
  replace Xa := Lib.hid (Xa.out.grow hb)
  replace Xb := Lib.hid (Xb.out.grow hb)
  replace Xi := Lib.hid (Xi.out.grow hb)
  replace Xl := Lib.hid (Xl.out.grow hb)
  replace H := Lib.hid (H.out.grow hb)
  clear hb
  dsimp only [rgV]
  go_wp2_with fail
  refine (New_arg 256 0 (by decide) (by decide) (by decide)).mono ?_
  rintro e w24 ⟨rfl, hb⟩
  replace Xa := Lib.hid (Xa.out.grow hb)
  replace Xb := Lib.hid (Xb.out.grow hb)
  replace Xi := Lib.hid (Xi.out.grow hb)
  replace Xl := Lib.hid (Xl.out.grow hb)
  replace H := Lib.hid (H.out.grow hb)
  clear hb
  go_wp2_with fail
  refine (hRg.out 256 255 _).mono ?_
  rintro e w25 ⟨rfl, hb⟩
  replace Xa := Lib.hid (Xa.out.grow hb)
  replace Xb := Lib.hid (Xb.out.grow hb)
  replace Xi := Lib.hid (Xi.out.grow hb)
  replace Xl := Lib.hid (Xl.out.grow hb)
  replace H := Lib.hid (H.out.grow hb)
  clear hb
  dsimp only [rgV]
  go_wp2_with fail
  refine (New_arg 256 255 (by decide) (by decide) (by decide)).mono ?_
  rintro e w26 ⟨rfl, hb⟩
  replace Xa := Lib.hid (Xa.out.grow hb)
  replace Xb := Lib.hid (Xb.out.grow hb)
  replace Xi := Lib.hid (Xi.out.grow hb)
  replace Xl := Lib.hid (Xl.out.grow hb)
  replace H := Lib.hid (H.out.grow hb)
  clear hb
  go_wp2_with fail
  refine (hRg.out 256 262144 _).mono ?_
  rintro e w27 ⟨rfl, hb⟩
  replace Xa := Lib.hid (Xa.out.grow hb)
  replace Xb := Lib.hid (Xb.out.grow hb)
  replace Xi := Lib.hid (Xi.out.grow hb)
  replace Xl := Lib.hid (Xl.out.grow hb)
  replace H := Lib.hid (H.out.grow hb)
  clear hb
  dsimp only [rgV]
  go_wp2_with fail
  refine (New_long 256 262144 (by decide) (by decide) (by decide) (by decide) (by decide) (by decide)).mono ?_
  rintro e w28 ⟨rfl, hb⟩
  replace Xa := Lib.hid (Xa.out.grow hb)
  replace Xb := Lib.hid (Xb.out.grow hb)
  replace Xi := Lib.hid (Xi.out.grow hb)
  replace Xl := Lib.hid (Xl.out.grow hb)
  replace H := Lib.hid (H.out.grow hb)
  clear hb
  go_wp2_with fail
  refine (hRg.out 0 262144 _).mono ?_
  rintro e w29 ⟨rfl, hb⟩
  replace Xa := Lib.hid (Xa.out.grow hb)
  replace Xb := Lib.hid (Xb.out.grow hb)
  replace Xi := Lib.hid (Xi.out.grow hb)
  replace Xl := Lib.hid (Xl.out.grow hb)
  replace H := Lib.hid (H.out.grow hb)
  clear hb
  dsimp only [rgV]
  go_wp2_with fail
  refine (hBig.out _).mono ?_
  rintro e w30 ⟨h2, rfl, hb⟩
  replace Xa := Lib.hid (Xa.out.grow hb)
  replace Xb := Lib.hid (Xb.out.grow hb)
  replace Xi := Lib.hid (Xi.out.grow hb)
  replace Xl := Lib.hid (Xl.out.grow hb)
  replace H := Lib.hid (H.out.grow hb)
  clear hb hBig
  have al : Below w30.heap.size w30 (w30.alloc (.cells #[.int .u32 0, .map none, .map none, .pointer none, .pointer none, .pointer none, .pointer none, .pointer none, .pointer none] 55)) := (Below.refl _ _).alloc (Nat.le_refl _) _
  have NE := Lib.hid (NoH.empty (w := w30.alloc (.cells #[.int .u32 0, .map none, .map none, .pointer none, .pointer none, .pointer none, .pointer none, .pointer none, .pointer none] 55)) w30.heap.size (by simp))
  replace Xa := Lib.hid (Xa.out.grow al)
  replace Xb := Lib.hid (Xb.out.grow al)
  replace Xi := Lib.hid (Xi.out.grow al)
  replace Xl := Lib.hid (Xl.out.grow al)
  replace H := Lib.hid (H.out.grow al)
  clear al
  go_upto_region 23 with (fail)
  generalize w30.alloc (.cells #[.int .u32 0, .map none, .map none, .pointer none, .pointer none, .pointer none, .pointer none, .pointer none, .pointer none] 55) = w31 at H Xa Xb Xi Xl NE ⊢
  obtain ⟨hq, hq0⟩ : ∃ hq, hq = w30.heap.size := ⟨_, rfl⟩
  rw [← hq0] at NE ⊢
  clear hq0
  have hMn := Lib.hid (Malloc_no (NoH.nil w31) 16)
  dsimp only [rgV] at hMn
  go_wp2_with fail
  refine hMn.out.mono ?_
  rintro e w32 ⟨rfl, hb⟩
  have al : Below w32.heap.size w32 (w32.alloc (.cells #[.int .u32 ((0 : Nat) : Int), .int .u32 ((0 : Nat) : Int)] 26)) := (Below.refl _ _).alloc (Nat.le_refl _) _
  replace al := hb.trans (al.mono hb.size)
  replace Xa := Lib.hid (Xa.out.grow al)
  replace Xb := Lib.hid (Xb.out.grow al)
  replace Xi := Lib.hid (Xi.out.grow al)
  replace Xl := Lib.hid (Xl.out.grow al)
  replace H := Lib.hid (H.out.grow al)
  replace NE := Lib.hid (NE.out.grow al)
  clear al hb hMn
  go_upto_region 24 with (fail)
  generalize w32.alloc (.cells #[.int .u32 ((0 : Nat) : Int), .int .u32 ((0 : Nat) : Int)] 26) = w33 at H Xa Xb Xi Xl NE
  have hz0 : ((0 : Nat) : Int) = 0 := rfl
  go_wp2_with fail
  refine (hRg.out 0 16 _).mono ?_
  rintro e w34 ⟨rfl, hb⟩
  replace Xa := Lib.hid (Xa.out.grow hb)
  replace Xb := Lib.hid (Xb.out.grow hb)
  replace Xi := Lib.hid (Xi.out.grow hb)
  replace Xl := Lib.hid (Xl.out.grow hb)
  replace H := Lib.hid (H.out.grow hb)
  replace NE := Lib.hid (NE.out.grow hb)
  clear hb
  have hFn := Lib.hid (Free_no NE.out 0 16)
  dsimp only [rgV] at hFn ⊢
  go_wp2_with fail
  refine hFn.out.mono ?_
  rintro e w35 ⟨rfl, hb⟩
  replace Xa := Lib.hid (Xa.out.grow hb)
  replace Xb := Lib.hid (Xb.out.grow hb)
  replace Xi := Lib.hid (Xi.out.grow hb)
  replace Xl := Lib.hid (Xl.out.grow hb)
  replace H := Lib.hid (H.out.grow hb)
  replace NE := Lib.hid (NE.out.grow hb)
  clear hb hFn
  obtain ⟨S, hS0⟩ : ∃ S, S = fun w' => HK W B lo hi 4 8 [(1024, 16), (1040, 16), (1056, 16), (1072, 16), (1280, 32), (1536, 512)] [] w' ∧ (Bx ba (.int .u32 1056) (.int .u32 16) w' ∧ Bx bb (.int .u32 1536) (.int .u32 512) w') ∧ (Bx bi (.int .u32 1072) (.int .u32 16) w' ∧ Bx bl (.int .u32 1040) (.int .u32 16) w') ∧ NoH (.pointer (some ⟨hq, 0, none⟩)) w' := ⟨_, rfl⟩
  have hK : ∀ w', S w' → HK W B lo hi 4 8 [(1024, 16), (1040, 16), (1056, 16), (1072, 16), (1280, 32), (1536, 512)] [] w' ∧ (Bx ba (.int .u32 1056) (.int .u32 16) w' ∧ Bx bb (.int .u32 1536) (.int .u32 512) w') ∧ (Bx bi (.int .u32 1072) (.int .u32 16) w' ∧ Bx bl (.int .u32 1040) (.int .u32 16) w') ∧ NoH (.pointer (some ⟨hq, 0, none⟩)) w' := fun w' h => by rw [hS0] at h; exact h
  have hS : ∀ w1 w', S w1 → Below w1.heap.size w1 w' → S w' := fun w1 w' h k => by rw [hS0] at h ⊢; exact ⟨h.1.grow k, ⟨h.2.1.1.grow k, h.2.1.2.grow k⟩, ⟨h.2.2.1.1.grow k, h.2.2.1.2.grow k⟩, h.2.2.2.grow k⟩
  have h0 : S w35 := by rw [hS0]; exact ⟨H.out, ⟨Xa.out, Xb.out⟩, ⟨Xi.out, Xl.out⟩, NE.out⟩
  have g0 := Lib.hid (cls_bel hS (fun w => (show Calls Tryd.prog 8 #[.int .u32 1056, .int .u32 16] w fun e w' => e = .returned (.agg #[.int .u32 1056, .int .u32 16]) ∧ Below w.heap.size w w' from hRg.out 1056 16 w)))
  have r0 : ∀ w, (Op.equalIn 10000 26 (.agg #[.int .u32 1056, .int .u32 16]) (.agg #[.int .u32 1056, .int .u32 16])).run Tryd.prog w = .ok true w := fun w => rg_eq (1056, 16) (1056, 16) true (by decide) w
  have g1 := Lib.hid (cls_bel hS (fun w => (show Calls Tryd.prog 8 #[.int .u32 1536, .int .u32 512] w fun e w' => e = .returned (.agg #[.int .u32 1536, .int .u32 512]) ∧ Below w.heap.size w w' from hRg.out 1536 512 w)))
  have r1 : ∀ w, (Op.equalIn 10000 26 (.agg #[.int .u32 1536, .int .u32 512]) (.agg #[.int .u32 1536, .int .u32 512])).run Tryd.prog w = .ok true w := fun w => rg_eq (1536, 512) (1536, 512) true (by decide) w
  have g2 := Lib.hid (cls_bel hS (fun w => (show Calls Tryd.prog 8 #[.int .u32 1072, .int .u32 16] w fun e w' => e = .returned (.agg #[.int .u32 1072, .int .u32 16]) ∧ Below w.heap.size w w' from hRg.out 1072 16 w)))
  have r2 : ∀ w, (Op.equalIn 10000 26 (.agg #[.int .u32 1072, .int .u32 16]) (.agg #[.int .u32 1072, .int .u32 16])).run Tryd.prog w = .ok true w := fun w => rg_eq (1072, 16) (1072, 16) true (by decide) w
  have g3 := Lib.hid (cls_bel hS (fun w => (show Calls Tryd.prog 8 #[.int .u32 1040, .int .u32 16] w fun e w' => e = .returned (.agg #[.int .u32 1040, .int .u32 16]) ∧ Below w.heap.size w w' from hRg.out 1040 16 w)))
  have r3 : ∀ w, (Op.equalIn 10000 26 (.agg #[.int .u32 1040, .int .u32 16]) (.agg #[.int .u32 1040, .int .u32 16])).run Tryd.prog w = .ok true w := fun w => rg_eq (1040, 16) (1040, 16) true (by decide) w
  have g4 := Lib.hid (cls_bel hS (fun w => (show Calls Tryd.prog 8 #[.int .u32 0, .int .u32 16] w fun e w' => e = .returned (.agg #[.int .u32 0, .int .u32 16]) ∧ Below w.heap.size w w' from hRg.out 0 16 w)))
  have a0 : ∀ y : Wd S, y.w.cell? ⟨ba, 0, none⟩ = some (.int .u32 1056) := fun y => (hK _ y.h).2.1.1.c0
  have a1 : ∀ y : Wd S, y.w.cell? ⟨ba, 1, none⟩ = some (.int .u32 16) := fun y => (hK _ y.h).2.1.1.c1
  have a2 : ∀ y : Wd S, y.w.cell? ⟨bb, 0, none⟩ = some (.int .u32 1536) := fun y => (hK _ y.h).2.1.2.c0
  have a3 : ∀ y : Wd S, y.w.cell? ⟨bb, 1, none⟩ = some (.int .u32 512) := fun y => (hK _ y.h).2.1.2.c1
  have a4 : ∀ y : Wd S, y.w.cell? ⟨bi, 0, none⟩ = some (.int .u32 1072) := fun y => (hK _ y.h).2.2.1.1.c0
  have a5 : ∀ y : Wd S, y.w.cell? ⟨bi, 1, none⟩ = some (.int .u32 16) := fun y => (hK _ y.h).2.2.1.1.c1
  have a6 : ∀ y : Wd S, y.w.cell? ⟨bl, 0, none⟩ = some (.int .u32 1040) := fun y => (hK _ y.h).2.2.1.2.c0
  have a7 : ∀ y : Wd S, y.w.cell? ⟨bl, 1, none⟩ = some (.int .u32 16) := fun y => (hK _ y.h).2.2.1.2.c1
  have cW := Lib.hid (show ∀ y : Wd S, Calls Tryd.prog 7 #[] y.w fun e w' => e = .returned (.bool true) ∧ ∃ y' : Wd S, w' = y'.w from fun y => (works_any14 y.w (hK _ y.h).1.t).mono fun e w' k => ⟨k.1, ⟨w', hS _ _ y.h k.2⟩, rfl⟩)
  have cR := Lib.hid (show ∀ y : Wd S, Calls Tryd.prog 20 #[.pointer (some ⟨B.h, 0, none⟩)] y.w fun e w' => e = .returned (.int .u32 416) ∧ ∃ y' : Wd S, w' = y'.w from fun y => (Room_any (hK _ y.h).1.h.hs (hK _ y.h).1.h.le).mono fun e w' k => ⟨by rw [k.1, room_k]; rfl, ⟨w', hS _ _ y.h k.2⟩, rfl⟩)
  have cE := Lib.hid (show ∀ y : Wd S, Calls Tryd.prog 17 #[.pointer none, .agg #[.int .u32 0, .int .u32 16]] y.w fun e w' => e = .returned (.int .i64 1) ∧ ∃ y' : Wd S, w' = y'.w from fun y => (Release_no (NoH.nil y.w) 0 16).mono fun e w' k => ⟨k.1, ⟨w', hS _ _ y.h k.2⟩, rfl⟩)
  have cL := Lib.hid (show ∀ y : Wd S, Calls Tryd.prog 11 #[.pointer (some ⟨hq, 0, none⟩)] y.w fun e w' => e = .returned (.slice none 0 0) ∧ ∃ y' : Wd S, w' = y'.w from fun y => (Live_no (hK _ y.h).2.2.2).mono fun e w' k => ⟨k.1, y, k.2.symm⟩)
  have cT := Lib.hid (show ∀ y : Wd S, Calls Tryd.prog 12 #[.pointer none] y.w fun e w' => e = .returned (.slice none 0 0) ∧ ∃ y' : Wd S, w' = y'.w from fun y => (Resting_no (NoH.nil y.w)).mono fun e w' k => ⟨k.1, y, k.2.symm⟩)
  have cO := Lib.hid (show ∀ y : Wd S, Calls Tryd.prog 20 #[.pointer none] y.w fun e w' => e = .returned (.int .u32 0) ∧ ∃ y' : Wd S, w' = y'.w from fun y => (Room_no (NoH.nil y.w)).mono fun e w' k => ⟨k.1, y, k.2.symm⟩)
  have cC := Lib.hid (show ∀ y : Wd S, Calls Tryd.prog 21 #[.pointer (some ⟨hq, 0, none⟩)] y.w fun e w' => e = .returned (.pointer none) ∧ ∃ y' : Wd S, w' = y'.w from fun y => (Copy_no (hK _ y.h).2.2.2).mono fun e w' k => ⟨k.1, y, k.2.symm⟩)
  have cD := Lib.hid (show ∀ y : Wd S, Calls Tryd.prog 21 #[.pointer none] y.w fun e w' => e = .returned (.pointer none) ∧ ∃ y' : Wd S, w' = y'.w from fun y => (Copy_no (NoH.nil y.w)).mono fun e w' k => ⟨k.1, y, k.2.symm⟩)
  have HS := Lib.hid hS
  have HKK := Lib.hid hK
  have h4 := HS.out _ _ h0 (Below.refl _ _).drew
  clear hS hK hS0 H Xa Xb Xi Xl NE h0
  go_wp2_with fail
  refine region_cls_lex S (by kernel_rfl) (by kernel_rfl) (by kernel_rfl) h4 ?_
  simp only [List.append_eq, List.cons_append, List.nil_append]
  repeat (first
    | go_big_quiet_skip
    | (go_big_quiet_want
       go_big_quiet_op
       first
       | go_big_quiet_on
       | (apply Exists.intro
          refine ⟨fun y => ?_, ?_⟩
          · first | exact rfl | with_reducible exact g0.out y | with_reducible exact g1.out y | with_reducible exact g2.out y | with_reducible exact g3.out y | with_reducible exact g4.out y | with_reducible exact cW.out y | with_reducible exact cR.out y | with_reducible exact cE.out y | with_reducible exact cL.out y | with_reducible exact cT.out y | with_reducible exact cO.out y | with_reducible exact cC.out y | with_reducible exact cD.out y
          go_big_quiet_on)))
  refine wpQuiet_nil ?_
  intro y
  have hE := Lib.hid (HKK.out _ y.h).1.bl
  go_wp2_with fail
  go_ret
  exact ⟨rfl, hE.out⟩
set_option maxRecDepth 100000 in
theorem lifted (os : Os) (started : os.Started) (H : Type) (enc : TypeId × Value → H) :
    ReturnsInHanded {} Tryd.checked os 6 .any (fun w args => (Rows.heapKnownSpec.pre enc Tryd.prog Tryd.f6 [] false w args ∧ laidMetH Tryd.prog Rows.heapKnownRow.laid w) ∧ sizedMet enc Tryd.prog Tryd.f6 (OpenSpec.ofChange Rows.heapKnownSpec) false w args) (Rows.heapKnownSpec.post enc Tryd.prog Tryd.f6 false true false false) := by
  refine returnsInHanded_of_change_and (C := Tryd.checked) (X := fun w _ => laidMetH Tryd.prog Rows.heapKnownRow.laid w) (fun _ _ _ hh h => h.of_heap hh) own started (by kernel_rfl) Tryd.func6
    (ChangeSpec.witness_at (enc := enc) (C := Tryd.checked) (os := os) (X := fun w _ => laidMetH Tryd.prog Rows.heapKnownRow.laid w) false (laidWorld os) #[] 8 rfl (by kernel_rfl) (by kernel_rfl) (by kernel_rfl) (by kernel_rfl) (by kernel_rfl) (laid_met os _)) ?_
  intro W base args ds gs before hval0 hW _ _ hL _
  have hval : ∀ (j : Nat) t v, Tryd.f6.params[j]? = some t → args[j]? = some v → Value.okWide Tryd.prog W .any base t v := hval0
  have hW' := hW
  obtain ⟨p, q, hA0, hV, rfl, hfz, hnd⟩ := hW
  have hA : DataW.TrodAll enc Tryd.prog W 0 (fun _ => true) true Tryd.f6.params.toList args.toList ds p := hA0
  rw [Tryd.params6] at hA hval
  obtain ⟨rfl, rfl, rfl⟩ := trodAll_none hA
  obtain ⟨rfl, rfl⟩ := trodVars_none hV
  clear hA0 hval0
  refine (walk  W (tabs_of_laid hL)).mono fun e W' ⟨he, bel⟩ => ?_
  subst he
  exact ⟨_, rfl, _, _, _, [], _, [], hW', trodAll_mk1 (shut_bool Tryd.underlying4 _), trodAll_mk0, rfl, bel.frame _, fun h => by cases h⟩
theorem over : Rows.HeapKnownSaid :=
  OpenClaim.holds_of_wide 6 Tryd.f6 rfl rfl rfl rfl rfl rfl rfl ⟨rfl, rfl, rfl, rfl, rfl⟩ rfl rfl rfl rfl rfl (by kernel_rfl) Tryd.func6 (by kernel_rfl)
    (of_decide_eq_true (by kernel_rfl)) (by unfold Func.isWrapper; first | (rw [if_pos (by decide +kernel)]; kernel_rfl) | (rw [if_neg (by decide +kernel)]; exact ⟨rfl, rfl⟩))
    (fun os started H enc _ => lifted os started H enc)
/-- The given statement. -/
theorem proved : Rows.HeapKnownCardSaid :=
  Claim7.holds_tied_plain_at .later [] [.data] true (true, "c7df4fa58af645e7010f817469018e4855912b3de514d8c640a49e23bb05f2a6") true
    over (fun _ h => by cases h) (by kernel_rfl) (fun _ h => by cases h) heapKnown_row_tie rfl ⟨rfl, rfl⟩ (by kernel_rfl) rfl
    (fun f fn hf hfn => by
      obtain rfl : f = 6 := Option.some.inj ((show Tryd.prog.funcNamed "fallow/fallowlaw14.HeapKnown" = some 6 by kernel_rfl).symm.trans hf) |>.symm
      obtain rfl : fn = Tryd.f6 := (Option.some.inj (Tryd.func6.symm.trans hfn)).symm
      exact ⟨by kernel_rfl, fun j t ht => by
        rw [Tryd.params6] at ht
        simp at ht⟩)
    (by kernel_rfl)
end Go.Proofs.YticfpnhfhhagpaaDoor.hknown
