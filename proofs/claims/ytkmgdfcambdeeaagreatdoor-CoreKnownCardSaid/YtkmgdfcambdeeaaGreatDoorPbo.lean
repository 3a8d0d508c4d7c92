/- The program's Do (layer core), whole. No statement is proved here. -/
import Derived.Test.YtkmgdfcambdeeaaGreatDoorPbj
import Derived.Test.YtkmgdfcambdeeaaGreatDoorPbh
import Derived.Test.YtkmgdfcambdeeaaGreatDoorPbl
import Derived.Test.YtkmgdfcambdeeaaGreatDoorPbm
import Derived.Test.YtkmgdfcambdeeaaGreatDoorPbn
import Derived.Test.YtkmgdfcambdeeaaGreatDoorPbk
import Derived.Test.YtkmgdfcambdeeaaGreatDoorPbi
namespace Go.Proofs.YtkmgdfcambdeeaaGreatDoor
set_option maxRecDepth 100000
open Go.RowKit
set_option linter.unusedVariables false
theorem do_bad {F : List Cp} {i : Ins} {N : Nat} {f : Nat → Bool} {l : List UInt8} (h : (mayB i && decide (i.op ≠ 53)) = false) : doT F i N = 6 ∧ doF F i N f l = zF ∧ doG F i N f = f ∧ doL F i N l = l := by
  have h6 : doT F i N = 6 := if_pos h
  refine ⟨h6, ?_, if_neg (fun k => ?_), if_neg (fun k => ?_)⟩
  · unfold doF; rw [h6, if_pos (by decide)]
  · rw [h6] at k; exact absurd k.1 (by decide)
  · rw [h6] at k; exact absurd k.1 (by decide)
section
variable {w : World} {a mb wb bb cc N g : Nat} {f : Nat → Bool} {l : List UInt8}
set_option maxHeartbeats 8000000 in
theorem pDo_bad (H : ArAt w a mb wb bb cc N g f l) (hT : Tabs w) (F : List Cp) (hF : Fit F) (op A B C m : Int) (h : (mayB ⟨op, A, B, C, m⟩ && decide (op ≠ 53)) = false) : Calls Tryz.prog 12 #[fV F, .agg #[.int .i64 op, .int .i64 A, .int .i64 B, .int .i64 C, .int .i64 m], .pointer (some ⟨a, 0, none⟩)] w fun e w' => e = .returned (.tuple #[fV zF, .int .i64 6]) ∧ Below w.heap.size w w' := by
  have k0 := Lib.hid (start_do F op A B C m w)
  have hM := Lib.hid (fun w (h : Tabs w) => pmay_any op A B C m w h)
  have zs : (Tryz.prog.info? 28).map (·.size) = some (Tryz.zeroCells28).size := by rw [zero_fr]; exact size_fa (F := zF) rfl
  have zo : (Tryz.zeroCells28).all (·.oneCell') = true := by rw [zero_fr]; exact one_fr zF
  replace hT := Lib.hid hT
  clear H hF
  by_cases h53 : op = 53
  · subst h53
    clear h hM
    unfold fV
    go_enter Tryz.func12, Tryz.ntmps12
    go_upto_region 1 with (fail)
    generalize (((w.alloc (.cells (fC F).toArray 28)).alloc _).alloc _) = w1 at k0 ⊢
    have i0 := k0.out.cell (g := w.heap.size + 1) (j := 0) (u := .int .i64 53) (ir 53 A B C m) (by simp) rfl
    have th := k0.out.there (g := w.heap.size + 2) (vs := fC zF) (by simp) 0 136 (by rw [fC_len]; decide)
    have k9 := Lib.hid ((k0.out.sub (L' := [⟨w.heap.size + 2, fC zF⟩]) (by simp)).putA (fC zF) (by simp) (by simp) rfl)
    have th' : w1.there (w.heap.size + 2) 0 (Tryz.zeroCells28).size := by rw [show (Tryz.zeroCells28).size = 136 from by rw [zero_fr, List.size_toArray, fC_len]; rfl]; exact th
    have hz : w1.setCells (w.heap.size + 2) 0 (Tryz.zeroCells28).toList = w1.setCells (w.heap.size + 2) 0 (fC zF) := by rw [zero_fr]
    replace hz := Lib.hid hz
    clear th k0
    go_wp2_with ((with_reducible show wpList _ _ _ _ _ _); refine wpList_store_mid rfl 28 _ _ rfl (w.heap.size + 1 + 1) 0 Tryz.zeroCells28 rfl rfl th' zs zo ?_; clear th' zs zo i0; change wpList _ _ _ _ _ (w1.setCells (w.heap.size + 2) 0 (Tryz.zeroCells28).toList); rw [hz.out]; generalize w1.setCells (w.heap.size + 2) 0 (fC zF) = wf at k9 ⊢)
    exact bodyPost_ret (v := .tuple #[fV zF, .int .i64 6]) (res_two Tryz.results12 rfl rfl (load_fr k9.out (List.mem_cons_self ..) rfl)) rfl ⟨rfl, k9.out.bl⟩
  · have hm : mayB ⟨op, A, B, C, m⟩ = false := by
      rw [decide_eq_true h53, Bool.and_true] at h; exact h
    rw [hm] at hM
    have n53 : (op == 53) = false := by simpa using h53
    clear h hm h53
    unfold fV
    go_enter Tryz.func12, Tryz.ntmps12
    go_upto_region 1 with (fail)
    generalize (((w.alloc (.cells (fC F).toArray 28)).alloc _).alloc _) = w1 at k0 ⊢
    have T1 := Lib.hid (hT.out.below k0.out.bl)
    have i0 := k0.out.cell (g := w.heap.size + 1) (j := 0) (u := .int .i64 op) (ir op A B C m) (by simp) rfl
    have i1 := k0.out.cell (g := w.heap.size + 1) (j := 1) (u := .int .i64 A) (ir op A B C m) (by simp) rfl
    have i2 := k0.out.cell (g := w.heap.size + 1) (j := 2) (u := .int .i64 B) (ir op A B C m) (by simp) rfl
    have i3 := k0.out.cell (g := w.heap.size + 1) (j := 3) (u := .int .i64 C) (ir op A B C m) (by simp) rfl
    have i4 := k0.out.cell (g := w.heap.size + 1) (j := 4) (u := .int .i64 m) (ir op A B C m) (by simp) rfl
    go_wp2_with fail
    refine (hM.out _ T1.out).mono ?_
    rintro ee w2 ⟨rfl, h2⟩
    have k2 := Lib.hid (k0.out.below h2)
    clear h2 k0 i0 i1 i2 i3 i4 hM T1
    have th := k2.out.there (g := w.heap.size + 2) (vs := fC zF) (by simp) 0 136 (by rw [fC_len]; decide)
    have k9 := Lib.hid ((k2.out.sub (L' := [⟨w.heap.size + 2, fC zF⟩]) (by simp)).putA (fC zF) (by simp) (by simp) rfl)
    have th' : w2.there (w.heap.size + 2) 0 (Tryz.zeroCells28).size := by rw [show (Tryz.zeroCells28).size = 136 from by rw [zero_fr, List.size_toArray, fC_len]; rfl]; exact th
    have hz : w2.setCells (w.heap.size + 2) 0 (Tryz.zeroCells28).toList = w2.setCells (w.heap.size + 2) 0 (fC zF) := by rw [zero_fr]
    replace hz := Lib.hid hz
    clear th k2
    go_wp2_with ((with_reducible show wpList _ _ _ _ _ _); refine wpList_store_mid rfl 28 _ _ rfl (w.heap.size + 1 + 1) 0 Tryz.zeroCells28 rfl rfl th' zs zo ?_; clear th' zs zo; change wpList _ _ _ _ _ (w2.setCells (w.heap.size + 2) 0 (Tryz.zeroCells28).toList); rw [hz.out]; generalize w2.setCells (w.heap.size + 2) 0 (fC zF) = wf at k9 ⊢)
    exact bodyPost_ret (v := .tuple #[fV zF, .int .i64 6]) (res_two Tryz.results12 rfl rfl (load_fr k9.out (List.mem_cons_self ..) rfl)) rfl ⟨rfl, k9.out.bl⟩
/-- What is a load, a store, a branch, a jump, does nothing, or reckons. -/
theorem op_cases {op : Int} (h1 : 1 ≤ op) (h2 : op ≤ 53) (h3 : op ≠ 53) : (op = 17 ∨ op = 18 ∨ op = 19 ∨ op = 23) ∨ (op = 20 ∨ op = 21 ∨ op = 22 ∨ op = 24) ∨ (op = 25 ∨ op = 26 ∨ op = 27 ∨ op = 28) ∨ (op = 50 ∨ op = 51 ∨ op = 52) ∨ op = 29 ∨ op = 30 ∨ (isR op = true ∨ isD op = true) := by
  by_cases hr : 3 ≤ op ∧ op ≤ 15
  · exact .inr (.inr (.inr (.inr (.inr (.inr (.inl (decide_eq_true hr)))))))
  by_cases hd : (op = 1 ∨ op = 2 ∨ op = 16 ∨ op = 31 ∨ op = 41 ∨ op = 32 ∨ op = 33 ∨ op = 34 ∨ op = 35 ∨ op = 36 ∨ op = 37 ∨ op = 38 ∨ op = 39 ∨ op = 40 ∨ op = 42 ∨ op = 43 ∨ op = 44 ∨ op = 45 ∨ op = 46 ∨ op = 47 ∨ op = 48 ∨ op = 49)
  · exact .inr (.inr (.inr (.inr (.inr (.inr (.inr (decide_eq_true hd)))))))
  omega
theorem pDo_any (H : ArAt w a mb wb bb cc N g f l) (hT : Tabs w) (F : List Cp) (hF : Fit F) (i : Ins) : Calls Tryz.prog 12 #[fV F, iv i, .pointer (some ⟨a, 0, none⟩)] w (Nxt a mb wb bb cc N g (doG F i N f) (doL F i N l) w (.tuple #[fV (doF F i N f l), .int .i64 (doT F i N)])) := by
  obtain ⟨op, A, B, C, m⟩ := i
  cases h : (mayB ⟨op, A, B, C, m⟩ && decide (op ≠ 53))
  · obtain ⟨e1, e2, e3, e4⟩ := do_bad (F := F) (N := N) (f := f) (l := l) h
    rw [e1, e2, e3, e4]
    exact (pDo_bad H hT F hF op A B C m h).mono fun e w' k => nxt_below H k
  · simp only [Bool.and_eq_true, decide_eq_true_eq] at h
    obtain ⟨h1, h2⟩ := may_flds h.1 |>.1
    rcases op_cases h1 h2 h.2 with k | k | k | k | k | k | k
    · exact pDo_load H hT F hF op A B C m h.1 h.2 k
    · exact pDo_store H hT F hF op A B C m h.1 h.2 k
    · exact pDo_br H hT F hF op A B C m h.1 h.2 k
    · exact pDo_stay H hT F hF op A B C m h.1 h.2 k
    · exact pDo_jal H hT F hF op A B C m h.1 h.2 k
    · exact pDo_jalr H hT F hF op A B C m h.1 h.2 k
    · exact pDo_reck H hT F hF op A B C m h.1 h.2 k
end
end Go.Proofs.YtkmgdfcambdeeaaGreatDoor
