/- Contracts of layer heap: New whole. No statement is proved here. -/
import Derived.Test.YticfpnhfhhagpaaDoormv
namespace Go.Proofs.YticfpnhfhhagpaaDoor
set_option maxRecDepth 100000
open Go.RowKit Go.Shelf Go.Maps
set_option linter.unusedVariables false
set_option linter.unusedSimpArgs false
theorem wpAny_goal {P : Program} {md : Region.Mode} {ops : Array Oper} {Q : Exit → Act → World → Prop} {f : Nat} {s : Array Bool} {a : Act} {w : World}
    (H : ∀ (G : Nat → Array Bool → Act → World → Prop) (b : Act), Hid (G = wpAny P md ops Q) → b = a → G f s b w) : wpAny P md ops Q f s a w := H _ _ (Lib.hid rfl) rfl
section
variable {W' W w : World}
/-- What the region leaves. -/
def NewS (q n p : Nat) (W1 : World) (v : Value) (w' : World) : Prop := ∃ h k2 k3 pb pm pw, v = .pointer (some ⟨h, 0, none⟩) ∧ NS W1 q n p h k2 k3 pb pm pw (fun _ => 0) 0 (fun _ => false) w'
def NewPost (p0 p : Nat) (w : World) (e : Ending) (w' : World) : Prop := ∃ B lo, e = .returned (.tuple #[.pointer (some ⟨B.h, 0, none⟩), .int .i64 0]) ∧ w.heap.size ≤ lo ∧ HA B lo w'.heap.size p0 p [] [] w' ∧ Below w.heap.size w w'
set_option maxHeartbeats 4000000 in
theorem New_any (a n : Nat) (h1 : a % 256 = 0) (h2 : n % 256 = 0) (h3 : n ≠ 0) (h : a + n ≤ 262144) :
    Calls Tryd.prog 9 #[rgV (a, n)] w (NewPost (a / 256) ((a + n) / 256) w) := by
  obtain ⟨W1, hW1⟩ : ∃ W1, W1 = w.alloc (.cells #[.int .u32 (a : Int), .int .u32 (n : Int)] 26) := ⟨_, rfl⟩
  have B1 : Below w.heap.size w W1 := by rw [hW1]; exact (Below.refl _ _).alloc (Nat.le_refl _) _
  have Q1 : Bx w.heap.size (.int .u32 a) (.int .u32 n) W1 := by rw [hW1]; exact Bx.new w _ _ _
  obtain ⟨q, hq⟩ : ∃ q, q = w.heap.size := ⟨_, rfl⟩
  have hql : q < W1.heap.size := hq ▸ Q1.lt
  have c0 : W1.cell? ⟨q, 0, none⟩ = some (.int .u32 (a : Int)) := hq ▸ Q1.c0
  have c1 : W1.cell? ⟨q, 1, none⟩ = some (.int .u32 (n : Int)) := hq ▸ Q1.c1
  have hb1 := Lib.hid B1
  have hW1' := Lib.hid hW1
  have hq' := Lib.hid hq
  clear hW1 B1 hq
  dsimp only [rgV]
  obtain ⟨p, hp⟩ : ∃ p, p = (a + n) / 256 := ⟨_, rfl⟩
  obtain ⟨p0, hp0⟩ : ∃ p0, p0 = a / 256 := ⟨_, rfl⟩
  obtain ⟨run, hrun⟩ : ∃ run, run = pgN n := ⟨_, rfl⟩
  have hrun2 : run = n / 256 := by rw [hrun]; unfold pgN; omega
  have hsum : p0 + run = p ∧ 1 ≤ run ∧ n = run * 256 := by omega
  rw [← hp, ← hp0]
  have hPo := Lib.hid (fun w => pageOf_any a n (by omega) w)
  have hPg := Lib.hid (fun w => pPages_any n w (by omega))
  rw [← hp0] at hPo
  rw [← hrun] at hPg
  have hSm := Lib.hid hsum
  clear hrun hrun2 hp0
  obtain ⟨D, hD⟩ : ∃ D, D = NewPost p0 p w := ⟨_, rfl⟩
  rw [← hD]
  replace hD := Lib.hid hD
  have e1 : (a : Int) % 256 = 0 := by omega
  have e2 : (n : Int) % 256 = 0 := by omega
  have e3 : ¬ (n : Int) = 0 := by omega
  have e4 : (a : Int) + n ≤ 262144 := by omega
  have e7 : ((a : Int) + n) / 256 = p := by omega
  have e5 : a ≤ 262144 := by omega
  have e6 : n ≤ 262144 := by omega
  have e8 : p ≤ 1024 := by omega
  have hPn := Lib.hid (fun w => pnew p w e8)
  have e9 : (p : Int) ≤ 1024 := by omega
  have hwr := Lib.hid (show IntKind.i64.wrap (IntKind.u64.wrap (((a : Int) + n).tdiv 256)) = p from by
    rw [Int.tdiv_eq_ediv_of_nonneg (by omega), e7]
    have h1 : IntKind.u64.wrap (p : Int) = p := by simp [IntKind.wrap, IntKind.signed, IntKind.bits]; omega
    have h2 : IntKind.i64.wrap (p : Int) = p := by simp [IntKind.wrap, IntKind.signed, IntKind.bits]; omega
    rw [h1, h2])
  have hmm := @run_makeMap Tryd.prog
  have hp1 := Lib.hid (show 1 ≤ p by omega)
  have hp2 := Lib.hid e8
  have hQ1 := Lib.hid (show Bx q (.int .u32 a) (.int .u32 n) W1 from hq'.out ▸ Q1)
  clear h1 h2 h3 h hp e8 Q1 hsum
  go_enter Tryd.func9, Tryd.ntmps9
  go_wp2_with fail
  rw [← hW1'.out, ← hq'.out]
  go_wp2_with fail
  have e9' : p < 1025 := by omega
  go_cut [5] (fun v w' => NewS q n p W1 v w')
  case first =>
    have hI0 : Iv W1 q n p false false false false undef undef undef undef W1.drew := ⟨(Below.refl _ _).drew, hql, by simp, by simp, by simp, by simp, by simp⟩
    clear e1 e2 e3 e4 e5 e6 hb1 c0
    refine wp_region_any (by kernel_rfl) ?_
    change wpAny _ _ _ _ 11 _ _ (World.drew _)
    generalize W1.drew = w0 at hI0 ⊢
    refine wpAny_take (i := 0) (v := ?_) rfl (by kernel_rfl) (by kernel_rfl) (by kernel_rfl) (fun _ _ _ h => h) (Or.inl ⟨by rfl, ?h1a⟩) ?h1b
    case h1a => intro w; go_simp; try with_reducible rfl
    try simp only [Act.put, List.getElem_toArray, List.getElem_cons_zero, List.getElem_cons_succ, List.setIfInBounds_toArray, List.set_cons_zero, List.set_cons_succ]
    refine wpAny_take (i := 4) (v := ?_) rfl (by kernel_rfl) (by kernel_rfl) (by kernel_rfl) (fun _ _ _ h => h) (Or.inl ⟨by rfl, ?h2a⟩) ?h2b
    case h2a => intro w; go_simp; try with_reducible rfl
    try simp only [Act.put, List.getElem_toArray, List.getElem_cons_zero, List.getElem_cons_succ, List.setIfInBounds_toArray, List.set_cons_zero, List.set_cons_succ]
    refine wpAny_take (i := 5) (v := ?_) rfl (by kernel_rfl) (by kernel_rfl) (by kernel_rfl) (fun _ _ _ h => h) (Or.inl ⟨by rfl, ?h3a⟩) ?h3b
    case h3a => intro w; go_simp; try with_reducible rfl
    try simp only [Act.put, List.getElem_toArray, List.getElem_cons_zero, List.getElem_cons_succ, List.setIfInBounds_toArray, List.set_cons_zero, List.set_cons_succ]
    refine wpAny_take (i := 6) (v := ?_) rfl (by kernel_rfl) (by kernel_rfl) (by kernel_rfl) (fun _ _ _ h => h) (Or.inl ⟨by rfl, ?h4a⟩) ?h4b
    case h4a => intro w; go_simp; try with_reducible rfl
    try simp only [Act.put, List.getElem_toArray, List.getElem_cons_zero, List.getElem_cons_succ, List.setIfInBounds_toArray, List.set_cons_zero, List.set_cons_succ]
    refine wpAny_goal fun G b0 hG hb0 => ?_
    have e31 := Lib.hid (show b0.tmps.getD 31 undef = .pointer (some ⟨q, 1, none⟩) from by rw [hb0]; rfl)
    have e37 := Lib.hid (show b0.tmps.getD 37 undef = .int .i64 (p : Int) from by
      have : b0.tmps.getD 37 undef = .int .i64 (IntKind.i64.wrap (IntKind.u64.wrap (((a : Int) + n).tdiv 256))) := by rw [hb0]; rfl
      rw [this, hwr.out])
    have eA : A4 b0 undef undef undef undef = b0 := by rw [hb0]; rfl
    replace hb0 := Lib.hid hb0
    have L1111 : ∀ x y z u Z, Iv W1 q n p true true true true x y z u Z → G 3 #[true, true, true, true, true, true, true, true, false, false, false] (A4 b0 x y z u) Z := by
      intro x y z u Z hI
      rw [hG.out]
      obtain rfl := hI.i1 rfl
      obtain ⟨k2, rfl, hk2, hq2⟩ := hI.i2 rfl
      obtain ⟨k3, rfl, hk3, hq3⟩ := hI.i3 rfl
      obtain ⟨pb, pm, pw, rfl, hP, hq4, hq5, hq6⟩ := hI.i7 rfl
      have h23 : k2 ≠ k3 := fun e => hI.i23 rfl rfl (by rw [e])
      have hN := Lib.hid (NS.start (n := n) (bk := fun _ => 0) hI.base hI.hq hp1.out hk2 hk3 hP h23 ⟨hq2, hq3, hq4, hq5, hq6⟩)
      clear hI hk2 hk3 hP h23 hq2 hq3 hq4 hq5 hq6
      rw [hb0.out]
      unfold A4
      try simp only [Act.put, List.getElem_toArray, List.getElem_cons_zero, List.getElem_cons_succ, List.setIfInBounds_toArray, List.set_cons_zero, List.set_cons_succ]
      refine wpAny_take (i := 8) (v := ?_) rfl (by kernel_rfl) (by kernel_rfl) (by kernel_rfl) (fun _ _ _ h => h) (Or.inl ⟨by rfl, ?h5a⟩) ?h5b
      case h5a => intro w; go_simp; try with_reducible rfl
      try simp only [Act.put, List.getElem_toArray, List.getElem_cons_zero, List.getElem_cons_succ, List.setIfInBounds_toArray, List.set_cons_zero, List.set_cons_succ]
      refine wpAny_ready (rs := [9]) (by kernel_rfl) (by simp) (AllReady.cons rfl (fun K hK => ?_) AllReady.nil)
      replace hK := Lib.hid hK
      go_simp
      refine hK.out _ _ ?_
      clear hK K
      refine wpAny_take (i := 10) (v := ?_) rfl (by kernel_rfl) (by kernel_rfl) (by kernel_rfl) (fun _ _ _ h => h) (Or.inl ⟨by rfl, ?h6a⟩) ?h6b
      case h6a => intro w; go_simp; try with_reducible rfl
      try simp only [Act.put, List.getElem_toArray, List.getElem_cons_zero, List.getElem_cons_succ, List.setIfInBounds_toArray, List.set_cons_zero, List.set_cons_succ]
      refine wpAny_done (by kernel_rfl) ?_ _
      go_wp2_with fail
      go_meet
      exact ⟨_, _, _, _, _, _, rfl, hN.out⟩
    have L0111 : ∀ x y z u Z, Iv W1 q n p false true true true x y z u Z → G 4 #[true, false, true, true, true, true, true, true, false, false, false] (A4 b0 x y z u) Z := by
      intro x y z u Z hI
      rw [hG.out]
      refine wpAny_ready (rs := [1]) (by kernel_rfl) (by simp) (AllReady.cons rfl (fun K hK => ?_) AllReady.nil)
      · replace hK := Lib.hid hK
        have he : ((A4 b0 x y z u).tmps[31]?).getD undef = .pointer (some ⟨q, 1, none⟩) := by rw [← Array.getD_eq_getD_getElem?]; exact (A4_at (by decide) (by decide) (by decide) (by decide)).trans e31.out
        have hc : Z.cell? ⟨q, 1, none⟩ = some (.int .u32 (n : Int)) := (hI.base.cell (p := ⟨q, 1, none⟩) hI.hq).trans c1
        replace hI := Lib.hid hI
        go_simp
        refine hK.out _ _ ?_
        have h := L1111 _ _ _ _ _ hI.out.load
        rw [hG.out] at h
        rw [← A4_x (x := x)] at h
        exact h
    have L1011 : ∀ x y z u Z, Iv W1 q n p true false true true x y z u Z → G 4 #[true, true, false, true, true, true, true, true, false, false, false] (A4 b0 x y z u) Z := by
      intro x y z u Z hI
      rw [hG.out]
      refine wpAny_ready (rs := [2]) (by kernel_rfl) (by simp) (AllReady.cons rfl (fun K hK => ?_) AllReady.nil)
      · replace hK := Lib.hid hK
        replace hI := Lib.hid hI
        go_simp
        refine hK.out _ _ ?_
        have h := L1111 _ _ _ _ _ hI.out.mk2
        rw [hG.out] at h
        rw [← A4_y (y := y)] at h
        exact h
    have L1101 : ∀ x y z u Z, Iv W1 q n p true true false true x y z u Z → G 4 #[true, true, true, false, true, true, true, true, false, false, false] (A4 b0 x y z u) Z := by
      intro x y z u Z hI
      rw [hG.out]
      refine wpAny_ready (rs := [3]) (by kernel_rfl) (by simp) (AllReady.cons rfl (fun K hK => ?_) AllReady.nil)
      · replace hK := Lib.hid hK
        replace hI := Lib.hid hI
        go_simp
        refine hK.out _ _ ?_
        have h := L1111 _ _ _ _ _ hI.out.mk3
        rw [hG.out] at h
        rw [← A4_z (z := z)] at h
        exact h
    have L1110 : ∀ x y z u Z, Iv W1 q n p true true true false x y z u Z → G 4 #[true, true, true, true, true, true, true, false, false, false, false] (A4 b0 x y z u) Z := by
      intro x y z u Z hI
      rw [hG.out]
      refine wpAny_ready (rs := [7]) (by kernel_rfl) (by simp) (AllReady.cons rfl (fun K hK => ?_) AllReady.nil)
      · replace hK := Lib.hid hK
        have he : ((A4 b0 x y z u).tmps[37]?).getD undef = .int .i64 (p : Int) := by rw [← Array.getD_eq_getD_getElem?]; exact (A4_at (by decide) (by decide) (by decide) (by decide)).trans e37.out
        replace hI := Lib.hid hI
        go_simp
        refine (hPn.out _).mono ?_
        rintro ee X hX
        obtain ⟨v, rfl⟩ : ∃ v, ee = .returned v := by obtain ⟨_, _, _, h, _⟩ := hX; exact ⟨_, h⟩
        replace hX := Lib.hid hX
        go_simp
        refine hK.out _ _ ?_
        have h := L1111 _ _ _ _ _ (hI.out.mk7 hX.out)
        rw [hG.out] at h
        rw [← A4_u (u := u)] at h
        exact h
    have L0011 : ∀ x y z u Z, Iv W1 q n p false false true true x y z u Z → G 5 #[true, false, false, true, true, true, true, true, false, false, false] (A4 b0 x y z u) Z := by
      intro x y z u Z hI
      rw [hG.out]
      refine wpAny_ready (rs := [1, 2]) (by kernel_rfl) (by simp) (AllReady.cons rfl (fun K hK => ?_) (AllReady.cons rfl (fun K hK => ?_) AllReady.nil))
      · replace hK := Lib.hid hK
        have he : ((A4 b0 x y z u).tmps[31]?).getD undef = .pointer (some ⟨q, 1, none⟩) := by rw [← Array.getD_eq_getD_getElem?]; exact (A4_at (by decide) (by decide) (by decide) (by decide)).trans e31.out
        have hc : Z.cell? ⟨q, 1, none⟩ = some (.int .u32 (n : Int)) := (hI.base.cell (p := ⟨q, 1, none⟩) hI.hq).trans c1
        replace hI := Lib.hid hI
        go_simp
        refine hK.out _ _ ?_
        have h := L1011 _ _ _ _ _ hI.out.load
        rw [hG.out] at h
        rw [← A4_x (x := x)] at h
        exact h
      · replace hK := Lib.hid hK
        replace hI := Lib.hid hI
        go_simp
        refine hK.out _ _ ?_
        have h := L0111 _ _ _ _ _ hI.out.mk2
        rw [hG.out] at h
        rw [← A4_y (y := y)] at h
        exact h
    have L0101 : ∀ x y z u Z, Iv W1 q n p false true false true x y z u Z → G 5 #[true, false, true, false, true, true, true, true, false, false, false] (A4 b0 x y z u) Z := by
      intro x y z u Z hI
      rw [hG.out]
      refine wpAny_ready (rs := [1, 3]) (by kernel_rfl) (by simp) (AllReady.cons rfl (fun K hK => ?_) (AllReady.cons rfl (fun K hK => ?_) AllReady.nil))
      · replace hK := Lib.hid hK
        have he : ((A4 b0 x y z u).tmps[31]?).getD undef = .pointer (some ⟨q, 1, none⟩) := by rw [← Array.getD_eq_getD_getElem?]; exact (A4_at (by decide) (by decide) (by decide) (by decide)).trans e31.out
        have hc : Z.cell? ⟨q, 1, none⟩ = some (.int .u32 (n : Int)) := (hI.base.cell (p := ⟨q, 1, none⟩) hI.hq).trans c1
        replace hI := Lib.hid hI
        go_simp
        refine hK.out _ _ ?_
        have h := L1101 _ _ _ _ _ hI.out.load
        rw [hG.out] at h
        rw [← A4_x (x := x)] at h
        exact h
      · replace hK := Lib.hid hK
        replace hI := Lib.hid hI
        go_simp
        refine hK.out _ _ ?_
        have h := L0111 _ _ _ _ _ hI.out.mk3
        rw [hG.out] at h
        rw [← A4_z (z := z)] at h
        exact h
    have L0110 : ∀ x y z u Z, Iv W1 q n p false true true false x y z u Z → G 5 #[true, false, true, true, true, true, true, false, false, false, false] (A4 b0 x y z u) Z := by
      intro x y z u Z hI
      rw [hG.out]
      refine wpAny_ready (rs := [1, 7]) (by kernel_rfl) (by simp) (AllReady.cons rfl (fun K hK => ?_) (AllReady.cons rfl (fun K hK => ?_) AllReady.nil))
      · replace hK := Lib.hid hK
        have he : ((A4 b0 x y z u).tmps[31]?).getD undef = .pointer (some ⟨q, 1, none⟩) := by rw [← Array.getD_eq_getD_getElem?]; exact (A4_at (by decide) (by decide) (by decide) (by decide)).trans e31.out
        have hc : Z.cell? ⟨q, 1, none⟩ = some (.int .u32 (n : Int)) := (hI.base.cell (p := ⟨q, 1, none⟩) hI.hq).trans c1
        replace hI := Lib.hid hI
        go_simp
        refine hK.out _ _ ?_
        have h := L1110 _ _ _ _ _ hI.out.load
        rw [hG.out] at h
        rw [← A4_x (x := x)] at h
        exact h
      · replace hK := Lib.hid hK
        have he : ((A4 b0 x y z u).tmps[37]?).getD undef = .int .i64 (p : Int) := by rw [← Array.getD_eq_getD_getElem?]; exact (A4_at (by decide) (by decide) (by decide) (by decide)).trans e37.out
        replace hI := Lib.hid hI
        go_simp
        refine (hPn.out _).mono ?_
        rintro ee X hX
        obtain ⟨v, rfl⟩ : ∃ v, ee = .returned v := by obtain ⟨_, _, _, h, _⟩ := hX; exact ⟨_, h⟩
        replace hX := Lib.hid hX
        go_simp
        refine hK.out _ _ ?_
        have h := L0111 _ _ _ _ _ (hI.out.mk7 hX.out)
        rw [hG.out] at h
        rw [← A4_u (u := u)] at h
        exact h
    have L1001 : ∀ x y z u Z, Iv W1 q n p true false false true x y z u Z → G 5 #[true, true, false, false, true, true, true, true, false, false, false] (A4 b0 x y z u) Z := by
      intro x y z u Z hI
      rw [hG.out]
      refine wpAny_ready (rs := [2, 3]) (by kernel_rfl) (by simp) (AllReady.cons rfl (fun K hK => ?_) (AllReady.cons rfl (fun K hK => ?_) AllReady.nil))
      · replace hK := Lib.hid hK
        replace hI := Lib.hid hI
        go_simp
        refine hK.out _ _ ?_
        have h := L1101 _ _ _ _ _ hI.out.mk2
        rw [hG.out] at h
        rw [← A4_y (y := y)] at h
        exact h
      · replace hK := Lib.hid hK
        replace hI := Lib.hid hI
        go_simp
        refine hK.out _ _ ?_
        have h := L1011 _ _ _ _ _ hI.out.mk3
        rw [hG.out] at h
        rw [← A4_z (z := z)] at h
        exact h
    have L1010 : ∀ x y z u Z, Iv W1 q n p true false true false x y z u Z → G 5 #[true, true, false, true, true, true, true, false, false, false, false] (A4 b0 x y z u) Z := by
      intro x y z u Z hI
      rw [hG.out]
      refine wpAny_ready (rs := [2, 7]) (by kernel_rfl) (by simp) (AllReady.cons rfl (fun K hK => ?_) (AllReady.cons rfl (fun K hK => ?_) AllReady.nil))
      · replace hK := Lib.hid hK
        replace hI := Lib.hid hI
        go_simp
        refine hK.out _ _ ?_
        have h := L1110 _ _ _ _ _ hI.out.mk2
        rw [hG.out] at h
        rw [← A4_y (y := y)] at h
        exact h
      · replace hK := Lib.hid hK
        have he : ((A4 b0 x y z u).tmps[37]?).getD undef = .int .i64 (p : Int) := by rw [← Array.getD_eq_getD_getElem?]; exact (A4_at (by decide) (by decide) (by decide) (by decide)).trans e37.out
        replace hI := Lib.hid hI
        go_simp
        refine (hPn.out _).mono ?_
        rintro ee X hX
        obtain ⟨v, rfl⟩ : ∃ v, ee = .returned v := by obtain ⟨_, _, _, h, _⟩ := hX; exact ⟨_, h⟩
        replace hX := Lib.hid hX
        go_simp
        refine hK.out _ _ ?_
        have h := L1011 _ _ _ _ _ (hI.out.mk7 hX.out)
        rw [hG.out] at h
        rw [← A4_u (u := u)] at h
        exact h
    have L1100 : ∀ x y z u Z, Iv W1 q n p true true false false x y z u Z → G 5 #[true, true, true, false, true, true, true, false, false, false, false] (A4 b0 x y z u) Z := by
      intro x y z u Z hI
      rw [hG.out]
      refine wpAny_ready (rs := [3, 7]) (by kernel_rfl) (by simp) (AllReady.cons rfl (fun K hK => ?_) (AllReady.cons rfl (fun K hK => ?_) AllReady.nil))
      · replace hK := Lib.hid hK
        replace hI := Lib.hid hI
        go_simp
        refine hK.out _ _ ?_
        have h := L1110 _ _ _ _ _ hI.out.mk3
        rw [hG.out] at h
        rw [← A4_z (z := z)] at h
        exact h
      · replace hK := Lib.hid hK
        have he : ((A4 b0 x y z u).tmps[37]?).getD undef = .int .i64 (p : Int) := by rw [← Array.getD_eq_getD_getElem?]; exact (A4_at (by decide) (by decide) (by decide) (by decide)).trans e37.out
        replace hI := Lib.hid hI
        go_simp
        refine (hPn.out _).mono ?_
        rintro ee X hX
        obtain ⟨v, rfl⟩ : ∃ v, ee = .returned v := by obtain ⟨_, _, _, h, _⟩ := hX; exact ⟨_, h⟩
        replace hX := Lib.hid hX
        go_simp
        refine hK.out _ _ ?_
        have h := L1101 _ _ _ _ _ (hI.out.mk7 hX.out)
        rw [hG.out] at h
        rw [← A4_u (u := u)] at h
        exact h
    have L0001 : ∀ x y z u Z, Iv W1 q n p false false false true x y z u Z → G 6 #[true, false, false, false, true, true, true, true, false, false, false] (A4 b0 x y z u) Z := by
      intro x y z u Z hI
      rw [hG.out]
      refine wpAny_ready (rs := [1, 2, 3]) (by kernel_rfl) (by simp) (AllReady.cons rfl (fun K hK => ?_) (AllReady.cons rfl (fun K hK => ?_) (AllReady.cons rfl (fun K hK => ?_) AllReady.nil)))
      · replace hK := Lib.hid hK
        have he : ((A4 b0 x y z u).tmps[31]?).getD undef = .pointer (some ⟨q, 1, none⟩) := by rw [← Array.getD_eq_getD_getElem?]; exact (A4_at (by decide) (by decide) (by decide) (by decide)).trans e31.out
        have hc : Z.cell? ⟨q, 1, none⟩ = some (.int .u32 (n : Int)) := (hI.base.cell (p := ⟨q, 1, none⟩) hI.hq).trans c1
        replace hI := Lib.hid hI
        go_simp
        refine hK.out _ _ ?_
        have h := L1001 _ _ _ _ _ hI.out.load
        rw [hG.out] at h
        rw [← A4_x (x := x)] at h
        exact h
      · replace hK := Lib.hid hK
        replace hI := Lib.hid hI
        go_simp
        refine hK.out _ _ ?_
        have h := L0101 _ _ _ _ _ hI.out.mk2
        rw [hG.out] at h
        rw [← A4_y (y := y)] at h
        exact h
      · replace hK := Lib.hid hK
        replace hI := Lib.hid hI
        go_simp
        refine hK.out _ _ ?_
        have h := L0011 _ _ _ _ _ hI.out.mk3
        rw [hG.out] at h
        rw [← A4_z (z := z)] at h
        exact h
    have L0010 : ∀ x y z u Z, Iv W1 q n p false false true false x y z u Z → G 6 #[true, false, false, true, true, true, true, false, false, false, false] (A4 b0 x y z u) Z := by
      intro x y z u Z hI
      rw [hG.out]
      refine wpAny_ready (rs := [1, 2, 7]) (by kernel_rfl) (by simp) (AllReady.cons rfl (fun K hK => ?_) (AllReady.cons rfl (fun K hK => ?_) (AllReady.cons rfl (fun K hK => ?_) AllReady.nil)))
      · replace hK := Lib.hid hK
        have he : ((A4 b0 x y z u).tmps[31]?).getD undef = .pointer (some ⟨q, 1, none⟩) := by rw [← Array.getD_eq_getD_getElem?]; exact (A4_at (by decide) (by decide) (by decide) (by decide)).trans e31.out
        have hc : Z.cell? ⟨q, 1, none⟩ = some (.int .u32 (n : Int)) := (hI.base.cell (p := ⟨q, 1, none⟩) hI.hq).trans c1
        replace hI := Lib.hid hI
        go_simp
        refine hK.out _ _ ?_
        have h := L1010 _ _ _ _ _ hI.out.load
        rw [hG.out] at h
        rw [← A4_x (x := x)] at h
        exact h
      · replace hK := Lib.hid hK
        replace hI := Lib.hid hI
        go_simp
        refine hK.out _ _ ?_
        have h := L0110 _ _ _ _ _ hI.out.mk2
        rw [hG.out] at h
        rw [← A4_y (y := y)] at h
        exact h
      · replace hK := Lib.hid hK
        have he : ((A4 b0 x y z u).tmps[37]?).getD undef = .int .i64 (p : Int) := by rw [← Array.getD_eq_getD_getElem?]; exact (A4_at (by decide) (by decide) (by decide) (by decide)).trans e37.out
        replace hI := Lib.hid hI
        go_simp
        refine (hPn.out _).mono ?_
        rintro ee X hX
        obtain ⟨v, rfl⟩ : ∃ v, ee = .returned v := by obtain ⟨_, _, _, h, _⟩ := hX; exact ⟨_, h⟩
        replace hX := Lib.hid hX
        go_simp
        refine hK.out _ _ ?_
        have h := L0011 _ _ _ _ _ (hI.out.mk7 hX.out)
        rw [hG.out] at h
        rw [← A4_u (u := u)] at h
        exact h
    have L0100 : ∀ x y z u Z, Iv W1 q n p false true false false x y z u Z → G 6 #[true, false, true, false, true, true, true, false, false, false, false] (A4 b0 x y z u) Z := by
      intro x y z u Z hI
      rw [hG.out]
      refine wpAny_ready (rs := [1, 3, 7]) (by kernel_rfl) (by simp) (AllReady.cons rfl (fun K hK => ?_) (AllReady.cons rfl (fun K hK => ?_) (AllReady.cons rfl (fun K hK => ?_) AllReady.nil)))
      · replace hK := Lib.hid hK
        have he : ((A4 b0 x y z u).tmps[31]?).getD undef = .pointer (some ⟨q, 1, none⟩) := by rw [← Array.getD_eq_getD_getElem?]; exact (A4_at (by decide) (by decide) (by decide) (by decide)).trans e31.out
        have hc : Z.cell? ⟨q, 1, none⟩ = some (.int .u32 (n : Int)) := (hI.base.cell (p := ⟨q, 1, none⟩) hI.hq).trans c1
        replace hI := Lib.hid hI
        go_simp
        refine hK.out _ _ ?_
        have h := L1100 _ _ _ _ _ hI.out.load
        rw [hG.out] at h
        rw [← A4_x (x := x)] at h
        exact h
      · replace hK := Lib.hid hK
        replace hI := Lib.hid hI
        go_simp
        refine hK.out _ _ ?_
        have h := L0110 _ _ _ _ _ hI.out.mk3
        rw [hG.out] at h
        rw [← A4_z (z := z)] at h
        exact h
      · replace hK := Lib.hid hK
        have he : ((A4 b0 x y z u).tmps[37]?).getD undef = .int .i64 (p : Int) := by rw [← Array.getD_eq_getD_getElem?]; exact (A4_at (by decide) (by decide) (by decide) (by decide)).trans e37.out
        replace hI := Lib.hid hI
        go_simp
        refine (hPn.out _).mono ?_
        rintro ee X hX
        obtain ⟨v, rfl⟩ : ∃ v, ee = .returned v := by obtain ⟨_, _, _, h, _⟩ := hX; exact ⟨_, h⟩
        replace hX := Lib.hid hX
        go_simp
        refine hK.out _ _ ?_
        have h := L0101 _ _ _ _ _ (hI.out.mk7 hX.out)
        rw [hG.out] at h
        rw [← A4_u (u := u)] at h
        exact h
    have L1000 : ∀ x y z u Z, Iv W1 q n p true false false false x y z u Z → G 6 #[true, true, false, false, true, true, true, false, false, false, false] (A4 b0 x y z u) Z := by
      intro x y z u Z hI
      rw [hG.out]
      refine wpAny_ready (rs := [2, 3, 7]) (by kernel_rfl) (by simp) (AllReady.cons rfl (fun K hK => ?_) (AllReady.cons rfl (fun K hK => ?_) (AllReady.cons rfl (fun K hK => ?_) AllReady.nil)))
      · replace hK := Lib.hid hK
        replace hI := Lib.hid hI
        go_simp
        refine hK.out _ _ ?_
        have h := L1100 _ _ _ _ _ hI.out.mk2
        rw [hG.out] at h
        rw [← A4_y (y := y)] at h
        exact h
      · replace hK := Lib.hid hK
        replace hI := Lib.hid hI
        go_simp
        refine hK.out _ _ ?_
        have h := L1010 _ _ _ _ _ hI.out.mk3
        rw [hG.out] at h
        rw [← A4_z (z := z)] at h
        exact h
      · replace hK := Lib.hid hK
        have he : ((A4 b0 x y z u).tmps[37]?).getD undef = .int .i64 (p : Int) := by rw [← Array.getD_eq_getD_getElem?]; exact (A4_at (by decide) (by decide) (by decide) (by decide)).trans e37.out
        replace hI := Lib.hid hI
        go_simp
        refine (hPn.out _).mono ?_
        rintro ee X hX
        obtain ⟨v, rfl⟩ : ∃ v, ee = .returned v := by obtain ⟨_, _, _, h, _⟩ := hX; exact ⟨_, h⟩
        replace hX := Lib.hid hX
        go_simp
        refine hK.out _ _ ?_
        have h := L1001 _ _ _ _ _ (hI.out.mk7 hX.out)
        rw [hG.out] at h
        rw [← A4_u (u := u)] at h
        exact h
    have L0000 : ∀ x y z u Z, Iv W1 q n p false false false false x y z u Z → G 7 #[true, false, false, false, true, true, true, false, false, false, false] (A4 b0 x y z u) Z := by
      intro x y z u Z hI
      rw [hG.out]
      refine wpAny_ready (rs := [1, 2, 3, 7]) (by kernel_rfl) (by simp) (AllReady.cons rfl (fun K hK => ?_) (AllReady.cons rfl (fun K hK => ?_) (AllReady.cons rfl (fun K hK => ?_) (AllReady.cons rfl (fun K hK => ?_) AllReady.nil))))
      · replace hK := Lib.hid hK
        have he : ((A4 b0 x y z u).tmps[31]?).getD undef = .pointer (some ⟨q, 1, none⟩) := by rw [← Array.getD_eq_getD_getElem?]; exact (A4_at (by decide) (by decide) (by decide) (by decide)).trans e31.out
        have hc : Z.cell? ⟨q, 1, none⟩ = some (.int .u32 (n : Int)) := (hI.base.cell (p := ⟨q, 1, none⟩) hI.hq).trans c1
        replace hI := Lib.hid hI
        go_simp
        refine hK.out _ _ ?_
        have h := L1000 _ _ _ _ _ hI.out.load
        rw [hG.out] at h
        rw [← A4_x (x := x)] at h
        exact h
      · replace hK := Lib.hid hK
        replace hI := Lib.hid hI
        go_simp
        refine hK.out _ _ ?_
        have h := L0100 _ _ _ _ _ hI.out.mk2
        rw [hG.out] at h
        rw [← A4_y (y := y)] at h
        exact h
      · replace hK := Lib.hid hK
        replace hI := Lib.hid hI
        go_simp
        refine hK.out _ _ ?_
        have h := L0010 _ _ _ _ _ hI.out.mk3
        rw [hG.out] at h
        rw [← A4_z (z := z)] at h
        exact h
      · replace hK := Lib.hid hK
        have he : ((A4 b0 x y z u).tmps[37]?).getD undef = .int .i64 (p : Int) := by rw [← Array.getD_eq_getD_getElem?]; exact (A4_at (by decide) (by decide) (by decide) (by decide)).trans e37.out
        replace hI := Lib.hid hI
        go_simp
        refine (hPn.out _).mono ?_
        rintro ee X hX
        obtain ⟨v, rfl⟩ : ∃ v, ee = .returned v := by obtain ⟨_, _, _, h, _⟩ := hX; exact ⟨_, h⟩
        replace hX := Lib.hid hX
        go_simp
        refine hK.out _ _ ?_
        have h := L0001 _ _ _ _ _ (hI.out.mk7 hX.out)
        rw [hG.out] at h
        rw [← A4_u (u := u)] at h
        exact h
    rw [← eA]
    exact L0000 _ _ _ _ _ hI0
  case rest =>
    obtain ⟨h, k2, k3, pb, pm, pw, rfl, hNS⟩ := hcut
    clear e1 e2 e3 e4 e7 e9 hPn hmm e9' hwr
    have b0 := (hQ1.out.keep (hNS.base.block q hql)).c0
    have b1 := (hQ1.out.keep (hNS.base.block q hql)).c1
    have d3 := hNS.c3
    have hPut := Lib.hid (fun w1 (hb : Below wc.heap.size wc w1) => (show Calls Tryd.prog 23 #[.pointer (some ⟨pb, 0, none⟩), .int .i64 p0, .int .i64 run] w1 (fun e w2 => e = .returned (.bool true) ∧ NS W1 q n p h k2 k3 pb pm pw (fun _ => 0) 0 (fre p0 p []) w2) from by
      obtain ⟨s1, s2, s3⟩ := hSm.out
      have h4 := hp2.out
      have hPu := put_run (f := fun _ => false) (g := fre p0 p []) (n := p) (a := p0) (run := run) s2 (by omega) (fun k => by
        rw [s1]
        have : fre p0 p [] k = inr p0 p k := by unfold fre inr hit; simp
        rw [this]; simp) (fun k h1 h2 => by
        have : fre p0 p [] k = inr p0 p k := by unfold fre inr hit; simp
        rw [this]; unfold inr; simp; omega)
      have hP := pput (hNS.grow hb).pool (p0 : Int) (run : Int) (by omega) (by omega) (by omega) (by omega)
      rw [hPu.1, hPu.2] at hP
      refine hP.mono ?_
      rintro e w2 ⟨rfl, kp, ko⟩
      exact ⟨rfl, (hNS.grow hb).setPool ko kp⟩))
    clear hNS c0 c1
    go_wp2_with fail
    obtain ⟨S, hS0⟩ : ∃ S, S = fun w' => Below wc.heap.size wc w' := ⟨_, rfl⟩
    have hK : ∀ w', S w' → Below wc.heap.size wc w' := fun w' h => by rw [hS0] at h; exact h
    have hS : ∀ w1 w', S w1 → Below w1.heap.size w1 w' → S w' := fun w1 w' h k => by rw [hS0] at h ⊢; exact h.trans (k.mono h.size)
    have h4 : S wc.drew := by rw [hS0]; exact (Below.refl _ _).drew
    have a0 : ∀ y : Wd S, y.w.cell? ⟨q, 0, none⟩ = some (.int .u32 (a : Int)) := fun y => ((hK _ y.h).cell (p := ⟨q, 0, none⟩) (lt_of_cell' b0)).trans b0
    have a1 : ∀ y : Wd S, y.w.cell? ⟨q, 1, none⟩ = some (.int .u32 (n : Int)) := fun y => ((hK _ y.h).cell (p := ⟨q, 1, none⟩) (lt_of_cell' b1)).trans b1
    have a3 : ∀ y : Wd S, y.w.cell? ⟨h, 3, none⟩ = some (.pointer (some ⟨pb, 0, none⟩)) := fun y => ((hK _ y.h).cell (p := ⟨h, 3, none⟩) (lt_of_cell' d3)).trans d3
    have cO := Lib.hid (cls_bel hS hPo.out)
    have cG := Lib.hid (cls_bel hS (fun w => (hPg.out w).mono fun _ _ k => ⟨k.1, k.2 ▸ Below.refl _ _⟩))
    replace hK := Lib.hid hK
    clear hS0 b0 b1 d3 hS
    refine region_cls_tail S 9 (by kernel_rfl) (by kernel_rfl) h4 ?_
    simp only [List.take_succ_cons, List.take_zero, List.drop_succ_cons, List.drop_zero]
    repeat (first
      | go_big_quiet_skip
      | (go_big_quiet_want
         go_big_quiet_op
         first
         | go_big_quiet_on
         | (apply Exists.intro
            refine ⟨fun y => ?_, ?_⟩
            · first | exact rfl | with_reducible exact cO.out y | with_reducible exact cG.out y
            go_big_quiet_on)))
    refine wpQuiet_nil ?_
    intro y
    have hb := Lib.hid (hK.out _ y.h)
    obtain ⟨w4', hw4'⟩ : ∃ w4', w4' = y.w := ⟨_, rfl⟩
    rw [← hw4'] at hb ⊢
    clear hw4' a0 a1 a3 h4 hK cO cG
    clear y S
    go_wp2_with fail
    refine (hPut.out _ hb.out).mono ?_
    rintro e w5 ⟨rfl, hX⟩
    replace hX := Lib.hid hX
    clear hPut hb
    go_wp2_with fail
    go_loopw [51] (fun i wr => ∃ (k : Nat) (bk : Nat → Nat), k ≤ 5 ∧ i = .int .i64 k ∧ Hid (NS W1 q n p h k2 k3 pb pm pw bk k (fre p0 p []) wr)) (fun i _ => 5 - (RowKit.intOf i).toNat)
    case atStart => exact ⟨0, fun _ => 0, by omega, rfl, hX⟩
    case round =>
      obtain ⟨k, bk, hk, rfl, hN⟩ := hrel
      by_cases hlt : k < 5
      · have hki : (k : Int) < 5 := by omega
        have hpl := per_le hlt
        have hSl := Lib.hid (fun w => (show Calls Tryd.prog 26 #[.int .i64 (k : Nat)] w fun e w' => e = .returned (.int .u32 (sltN k : Nat)) ∧ w = w' from by
          have := pSlot_any k w
          rwa [slt_int hlt] at this))
        have hSn := Lib.hid (fun w => snew_yes (perN k) w ⟨hpl.1, hpl.2.1⟩)
        obtain ⟨s, hs⟩ : ∃ s, s = sltN k := ⟨_, rfl⟩
        obtain ⟨r, hr⟩ : ∃ r, r = perN k := ⟨_, rfl⟩
        have hBk := Lib.hid (fun w1 b (hb : BookAt w1 b r (fun _ => false) (fun _ _ => false)) (g : wr.heap.size ≤ b) (kk : Below wr.heap.size wr w1) => hN.out.setBook hlt (hr ▸ hb) g kk)
        have hcz := Lib.hid (fun w1 (kk : Below wr.heap.size wr w1) => ((hN.out.grow kk).cz k hlt))
        have hrs : (256 : Int) / s = r := by
          rw [hs, hr]; unfold perN; simp
        have hsne : ¬ (s : Int) = 0 := by omega
        have hsne' : ¬ s = 0 := by omega
        have hrb : (r : Int) ≤ 16 := by omega
        have hsp : (0 : Int) ≤ s := by omega
        have hwr := Lib.hid (show IntKind.i64.wrap (IntKind.u32.wrap ((256 : Int).tdiv s)) = r from by
          rw [Int.tdiv_eq_ediv_of_nonneg (by omega), hrs]
          have h1 : IntKind.u32.wrap (r : Int) = r := by simp [IntKind.wrap, IntKind.signed, IntKind.bits]; omega
          have h2 : IntKind.i64.wrap (r : Int) = r := by simp [IntKind.wrap, IntKind.signed, IntKind.bits]; omega
          rw [h1, h2])
        rw [← hs] at hSl
        rw [← hr] at hSn
        clear hs hr hpl hrb
        go_wp2_with fail
        refine wp_region_any (by kernel_rfl) ?_
        change wpAny _ _ _ _ 11 _ _ (World.drew _)
        refine wpAny_take (i := 0) (v := ?_) rfl (by kernel_rfl) (by kernel_rfl) (by kernel_rfl) (fun _ _ _ h => h) (Or.inl ⟨by rfl, ?h11a⟩) ?h11b
        case h11a => intro w; go_simp; try with_reducible rfl
        try simp only [Act.put, List.getElem_toArray, List.getElem_cons_zero, List.getElem_cons_succ, List.setIfInBounds_toArray, List.set_cons_zero, List.set_cons_succ]
        refine wpAny_take (i := 1) (v := ?_) rfl (by kernel_rfl) (by kernel_rfl) (by kernel_rfl) (fun _ _ _ h => h) (Or.inl ⟨by rfl, ?h12a⟩) ?h12b
        case h12a => intro w; go_simp; try with_reducible rfl
        try simp only [Act.put, List.getElem_toArray, List.getElem_cons_zero, List.getElem_cons_succ, List.setIfInBounds_toArray, List.set_cons_zero, List.set_cons_succ]
        refine wpAny_take (i := 2) (v := ?_) rfl (by kernel_rfl) (by kernel_rfl) (by kernel_rfl) (fun _ _ _ h => h) (Or.inl ⟨by rfl, ?h13a⟩) ?h13b
        case h13a => intro w; go_simp; try with_reducible rfl
        try simp only [Act.put, List.getElem_toArray, List.getElem_cons_zero, List.getElem_cons_succ, List.setIfInBounds_toArray, List.set_cons_zero, List.set_cons_succ]
        refine wpAny_take (i := 7) (v := ?_) rfl (by kernel_rfl) (by kernel_rfl) (by kernel_rfl) (fun _ _ _ h => h) (Or.inl ⟨by rfl, ?h14a⟩) ?h14b
        case h14a => intro w; go_simp; try with_reducible rfl
        try simp only [Act.put, List.getElem_toArray, List.getElem_cons_zero, List.getElem_cons_succ, List.setIfInBounds_toArray, List.set_cons_zero, List.set_cons_succ]
        refine wpAny_take (i := 8) (v := ?_) rfl (by kernel_rfl) (by kernel_rfl) (by kernel_rfl) (fun _ _ _ h => h) (Or.inl ⟨by rfl, ?h15a⟩) ?h15b
        case h15a => intro w; go_simp; try with_reducible rfl
        try simp only [Act.put, List.getElem_toArray, List.getElem_cons_zero, List.getElem_cons_succ, List.setIfInBounds_toArray, List.set_cons_zero, List.set_cons_succ]
        refine wpAny_ready (rs := [3]) (by kernel_rfl) (by simp) (AllReady.cons rfl (fun K hK => ?_) AllReady.nil)
        replace hK := Lib.hid hK
        go_simp
        refine (hSl.out _).mono ?_
        rintro e w6 ⟨rfl, rfl⟩
        go_simp
        refine hK.out _ _ ?_
        clear hK K
        try simp only [Act.put, List.getElem_toArray, List.getElem_cons_zero, List.getElem_cons_succ, List.setIfInBounds_toArray, List.set_cons_zero, List.set_cons_succ]
        refine wpAny_take (i := 4) (v := ?_) rfl (by kernel_rfl) (by kernel_rfl) (by kernel_rfl) (fun _ _ _ h => h) (Or.inl ⟨by rfl, ?h16a⟩) ?h16b
        case h16a => intro w; go_simp; try with_reducible rfl
        try simp only [Act.put, List.getElem_toArray, List.getElem_cons_zero, List.getElem_cons_succ, List.setIfInBounds_toArray, List.set_cons_zero, List.set_cons_succ]
        refine wpAny_take (i := 5) (v := ?_) rfl (by kernel_rfl) (by kernel_rfl) (by kernel_rfl) (fun _ _ _ h => h) (Or.inl ⟨by rfl, ?h17a⟩) ?h17b
        case h17a => intro w; go_simp; try with_reducible rfl
        try simp only [Act.put, List.getElem_toArray, List.getElem_cons_zero, List.getElem_cons_succ, List.setIfInBounds_toArray, List.set_cons_zero, List.set_cons_succ]
        rw [hwr.out]
        refine wpAny_ready (rs := [6]) (by kernel_rfl) (by simp) (AllReady.cons rfl (fun K hK => ?_) AllReady.nil)
        replace hK := Lib.hid hK
        go_simp
        refine (hSn.out _).mono ?_
        rintro e w7 ⟨b, rfl, hbk, hg, hb7⟩
        obtain ⟨v0, hv0⟩ := Option.isSome_iff_exists.1 (hcz.out _ ((Below.refl _ _).drew.trans hb7)).1
        have hf0 := (hcz.out _ ((Below.refl _ _).drew.trans hb7)).2
        have hY := Lib.hid (hBk.out _ _ hbk hg ((Below.refl _ _).drew.trans hb7))
        clear hbk hg hb7
        go_simp
        refine hK.out _ _ ?_
        clear hK K
        try simp only [Act.put, List.getElem_toArray, List.getElem_cons_zero, List.getElem_cons_succ, List.setIfInBounds_toArray, List.set_cons_zero, List.set_cons_succ]
        refine wpAny_take (i := 9) (v := ?_) rfl (by kernel_rfl) (by kernel_rfl) (by kernel_rfl) (fun _ _ _ h => h) (Or.inl ⟨by rfl, ?h18a⟩) ?h18b
        case h18a => intro w; go_simp; try with_reducible rfl
        try simp only [Act.put, List.getElem_toArray, List.getElem_cons_zero, List.getElem_cons_succ, List.setIfInBounds_toArray, List.set_cons_zero, List.set_cons_succ]
        refine wpAny_ready (rs := [10]) (by kernel_rfl) (by simp) (AllReady.cons rfl (fun K hK => ?_) AllReady.nil)
        replace hK := Lib.hid hK
        go_simp
        refine hK.out _ _ ?_
        clear hK K
        try simp only [Act.put, List.getElem_toArray, List.getElem_cons_zero, List.getElem_cons_succ, List.setIfInBounds_toArray, List.set_cons_zero, List.set_cons_succ]
        refine wpAny_done (by kernel_rfl) ?_ _
        go_wp2_with fail
        go_roundw
        · obtain ⟨bk', hbk'⟩ := hY.out
          exact ⟨k + 1, bk', by omega, by simp, Lib.hid hbk'⟩
        · simp only [RowKit.intOf]
          omega
      · have : k = 5 := by omega
        subst this
        go_wp2_with fail
        rw [hD.out]
        obtain ⟨s1, s2, s3⟩ := hSm.out
        have hA := hN.out.ha (p0 := p0) (by omega) hp2.out (by omega)
        have hF : NewPost p0 p w (.returned (.tuple #[.pointer (some ⟨h, 0, none⟩), .int .i64 0])) wr := ⟨⟨h, k2, k3, pb, pm, pw, bk⟩, W1.heap.size, rfl, hb1.out.size, hA, hb1.out.trans (hN.out.base.mono hb1.out.size)⟩
        exact hF
end
end Go.Proofs.YticfpnhfhhagpaaDoor
