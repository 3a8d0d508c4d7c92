/- What the laws of layer quarantine ask first: a yard in a law, step by step; works. No statement is proved here. -/
import Derived.Test.YtmfipabbdhfmcaaQuI2
import Derived.Test.YtmfipabbdhfmcaaStr
namespace Go.Proofs.Ytmfipabbdhfmcaa.Qu
set_option maxRecDepth 100000
open Go.RowKit Go.Shelf
set_option linter.unusedVariables false
theorem rg_eq' (d : Nat) (i j x y : Int) (w : World) :
    (Op.equalIn (d + 1 + 1) 33 (.agg #[.int .u32 i, .int .u32 x]) (.agg #[.int .u32 j, .int .u32 y])).run Try.prog w = .ok ((i == j) && ((x == y) && true)) w := by
  rw [run_equalIn_struct w (d + 1) 33 _ _ (by kernel_rfl) (by kernel_rfl)]
  have hf : (Try.prog.fieldsOf 33).toList.map (fun f => (f.name, f.type, f.offset)) = [("At", 31, 0), ("Size", 31, 1)] := by kernel_rfl
  have i32 : ∀ (x y : Int) w, (Op.equalIn (d + 1) 31 (.int .u32 x) (.int .u32 y)).run Try.prog w = .ok (x == y) w := fun x y w => run_equalIn_int w d 31 .u32 .u32 x y (by kernel_rfl)
  generalize (Try.prog.fieldsOf 33).toList = fs at *
  obtain ⟨f0, fs, rfl, hf0, hf⟩ := List.map_eq_cons_iff.1 hf
  obtain ⟨f1, fs, rfl, hf1, hf⟩ := List.map_eq_cons_iff.1 hf
  obtain rfl := List.map_eq_nil_iff.1 hf
  simp only [Prod.mk.injEq] at hf0 hf1
  refine eqF_step hf0 (by decide) (by kernel_rfl) (by kernel_rfl) (i32 _ _ _) ?_
  exact eqF_step hf1 (by decide) (by kernel_rfl) (by kernel_rfl) (i32 _ _ _) eqF_nil
/-- Two regions compared. -/
theorem rg_eq (q r : Rg) (v : Bool) (hv : decide (q = r) = v) (w : World) : (Op.equalIn 10000 33 (.agg #[.int .u32 (q.1 : Int), .int .u32 (q.2 : Int)]) (.agg #[.int .u32 (r.1 : Int), .int .u32 (r.2 : Int)])).run Try.prog w = .ok v w := by
  rw [show (10000 : Nat) = 9998 + 1 + 1 from rfl, rg_eq']
  congr 1
  rw [← hv]
  obtain ⟨a, b⟩ := q
  obtain ⟨c, d⟩ := r
  rw [Bool.eq_iff_iff]
  simp
  omega
/-- A box of two cells. -/
structure Bx (q : Nat) (u v : Value) (w : World) : Prop where
  c0 : w.cell? ⟨q, 0, none⟩ = some u
  c1 : w.cell? ⟨q, 1, none⟩ = some v
  f0 : w.frozen? ⟨q, 0, none⟩ = false
  f1 : w.frozen? ⟨q, 1, none⟩ = false
section
variable {w w' W : World} {q y p b wb n e base m : Nat} {Wt Bt L X Wt' Bt' : List Rg} {sw : Bool} {u v wv bv : Value} {r : Rg} {D : Nat → Prop} {A : Option Addr} {cap : Nat}
theorem Bx.lt (H : Bx q u v w) : q < w.heap.size := lt_of_cell' (p := ⟨q, 0, none⟩) H.c0
theorem Bx.new (w : World) (u v : Value) (T : TypeId) : Bx w.heap.size u v (w.alloc (.cells #[u, v] T)) := ⟨by simp, by simp, by simp, by simp⟩
theorem Bx.keep (H : Bx q u v w) (h : w'.heap[q]? = w.heap[q]?) : Bx q u v w' :=
  ⟨(World.cell?_of_block (a := ⟨q, 0, none⟩) h).trans H.c0, (World.cell?_of_block (a := ⟨q, 1, none⟩) h).trans H.c1, (World.frozen?_of_block (a := ⟨q, 0, none⟩) h).trans H.f0, (World.frozen?_of_block (a := ⟨q, 1, none⟩) h).trans H.f1⟩
theorem Bx.grow (H : Bx q u v w) (m : Below w.heap.size w w') : Bx q u v w' := H.keep (m.block q H.lt)
theorem Bx.set (H : Bx q u v w) (u' v' : Value) : Bx q u' v' ((w.setCell ⟨q, 0, none⟩ u').setCell ⟨q, 1, none⟩ v') := by
  refine ⟨?_, ?_, ?_, ?_⟩
  · rw [World.cell?_setCell_other _ _ _ _ (fun e => by have := congrArg Addr.off e; simp at this)]
    exact World.cell?_setCell_same' _ _ _ (by rw [H.c0]; rfl)
  · exact World.cell?_setCell_same' _ _ _ (by rw [World.cell?_setCell_other _ _ _ _ (fun e => by have := congrArg Addr.off e; simp at this), H.c1]; rfl)
  · rw [World.frozen?_setCell, World.frozen?_setCell]; exact H.f0
  · rw [World.frozen?_setCell, World.frozen?_setCell]; exact H.f1
/-- The law's own region. -/
theorem region_any (a n : Nat) (w : World) : Calls Try.prog 23 #[.int .u32 a, .int .u32 n] w fun e w' => e = .returned (rgV (a, n)) ∧ Below w.heap.size w w' := by
  have Q1 := Lib.hid (Bx.new w (.int .u32 0) (.int .u32 0) 33)
  have B1 := Lib.hid ((Below.refl w.heap.size w).alloc (Nat.le_refl _) (.cells #[.int .u32 0, .int .u32 0] 33))
  obtain ⟨W1, hW1⟩ : ∃ W1, W1 = w.alloc (.cells #[.int .u32 0, .int .u32 0] 33) := ⟨_, rfl⟩
  rw [← hW1] at Q1 B1
  have hW1' := Lib.hid hW1
  have c0 := Q1.out.c0
  have c1 := Q1.out.c1
  have f0 := Q1.out.f0
  have f1 := Q1.out.f1
  clear hW1
  go_enter Try.func23, Try.ntmps23
  go_upto_region 1 with (fail)
  rw [← hW1'.out]
  go_wp2_with fail
  have hl := Q1.out.set (.int .u32 a) (.int .u32 n)
  have hb := (B1.out.setCell (p := ⟨w.heap.size, 0, none⟩) (Nat.le_refl _) (.int .u32 a)).setCell (p := ⟨w.heap.size, 1, none⟩) (Nat.le_refl _) (.int .u32 n)
  generalize (W1.setCell ⟨w.heap.size, 0, none⟩ (.int .u32 a)).setCell ⟨w.heap.size, 1, none⟩ (.int .u32 n) = W2 at *
  exact bodyPost_ret (v := rgV (a, n)) (by simp [results, Try.results23, go_sem, hl.c0, hl.c1, rgV]) rfl ⟨rfl, hb⟩
/-- Is a row just that region? -/
theorem only_any (hown : w.ownsRow base 33 2 v L.length (L.flatMap rgC)) (r : Rg) : Calls Try.prog 31 #[v, rgV r] w fun e w' => e = .returned (.bool (decide (L = [r]))) ∧ Below w.heap.size w w' := by
  obtain ⟨A, cap, rfl⟩ := own_slice hown
  obtain ⟨w1, hw1⟩ : ∃ w1, w1 = w.alloc (.cells #[.int .u32 (r.1 : Int), .int .u32 (r.2 : Int)] 33) := ⟨_, rfl⟩
  have b1 : Below w.heap.size w w1 := by rw [hw1]; exact (Below.refl _ _).alloc (Nat.le_refl _) _
  have X1 : Bx w.heap.size (.int .u32 (r.1 : Int)) (.int .u32 (r.2 : Int)) w1 := by rw [hw1]; exact Bx.new _ _ _ _
  obtain ⟨S, hS0⟩ : ∃ S, S = fun w' => Below w1.heap.size w1 w' := ⟨_, rfl⟩
  have hKS : ∀ w', S w' → Below w1.heap.size w1 w' := fun w' h => by rw [hS0] at h; exact h
  have h4 : S w1.drew := by rw [hS0]; exact (Below.refl _ _).drew
  have a2 : ∀ y : Wd S, y.w.cell? ⟨w.heap.size, 0, none⟩ = some (.int .u32 (r.1 : Int)) := fun y => (X1.grow (hKS _ y.h)).c0
  have a3 : ∀ y : Wd S, y.w.cell? ⟨w.heap.size, 1, none⟩ = some (.int .u32 (r.2 : Int)) := fun y => (X1.grow (hKS _ y.h)).c1
  have hw1' := Lib.hid hw1
  have hb1 := Lib.hid b1
  have hKK := Lib.hid hKS
  unfold rgV
  obtain ⟨V, hV⟩ : ∃ V, V = decide (L = [r]) := ⟨_, rfl⟩
  rw [← hV]
  by_cases hl : L.length = 1
  · obtain ⟨c, rfl⟩ : ∃ c, L = [c] := List.length_eq_one_iff.1 hl
    obtain ⟨g, rfl, hg, _, k0, k1⟩ := own_at hown 0 (by simp)
    have hEq := fun w => rg_eq c r (decide (c = r)) rfl w
    have hV2 : V = decide (c = r) := by rw [hV, decide_eq_decide]; simp
    rw [← hV2] at hEq
    simp only [List.getElem_cons_zero, Nat.zero_mul, Nat.zero_add] at k0 k1
    obtain ⟨c1, c2⟩ := c
    obtain ⟨r1, r2⟩ := r
    dsimp only at k0 k1 hEq a2 a3 hw1'
    have a0 : ∀ y : Wd S, y.w.cell? ⟨g, 0, none⟩ = some (.int .u32 (c1 : Int)) := fun y => ((b1.trans ((hKS _ y.h).mono b1.size)).cell (p := ⟨g, 0, none⟩) hg).trans k0
    have a1 : ∀ y : Wd S, y.w.cell? ⟨g, 1, none⟩ = some (.int .u32 (c2 : Int)) := fun y => ((b1.trans ((hKS _ y.h).mono b1.size)).cell (p := ⟨g, 1, none⟩) hg).trans k1
    clear hS0 hKS k0 k1 hg hV hV2 hown X1 b1 hw1 hl
    simp only [List.length_cons, List.length_nil, Nat.zero_add]
    go_enter Try.func31, Try.ntmps31
    go_upto_region 1 with (fail)
    rw [← hw1'.out]
    cases V
    all_goals
      go_wp2_with fail
      refine region_cls S (by kernel_rfl) (by kernel_rfl) h4 ?_
      repeat (first
        | go_big_quiet_skip
        | (go_big_quiet_want
           go_big_quiet_op
           first
           | go_big_quiet_on
           | (apply Exists.intro
              refine ⟨fun y => ?_, ?_⟩
              · first | exact rfl
              go_big_quiet_on)))
      refine wpQuiet_nil ?_
      intro y
      go_wp2_with fail
      go_ret
      exact ⟨rfl, hb1.out.trans ((hKK.out _ y.h).mono hb1.out.size)⟩
  · have hVf : V = false := by rw [hV]; exact decide_eq_false fun e => hl (by rw [e]; rfl)
    subst hVf
    obtain ⟨x, hx⟩ : ∃ x, x = L.length := ⟨_, rfl⟩
    rw [← hx] at hl ⊢
    have hne : ((x : Int) == 1) = false := by simp; omega
    have hne2 : ¬ (x : Int) = 1 := by omega
    clear hS0 hKS hV hown X1 b1 hw1 hx
    go_enter Try.func31, Try.ntmps31
    go_upto_region 1 with (fail)
    rw [← hw1'.out]
    go_wp2_with fail
    refine region_cls S (by kernel_rfl) (by kernel_rfl) h4 ?_
    repeat (first
      | go_big_quiet_skip
      | (go_big_quiet_want
         go_big_quiet_op
         first
         | go_big_quiet_on
         | (apply Exists.intro
            refine ⟨fun y => ?_, ?_⟩
            · first | exact rfl
            go_big_quiet_on)))
    refine wpQuiet_nil ?_
    intro y
    go_wp2_with fail
    go_ret
    exact ⟨rfl, hb1.out.trans ((hKK.out _ y.h).mono hb1.out.size)⟩
end
end Go.Proofs.Ytmfipabbdhfmcaa.Qu
