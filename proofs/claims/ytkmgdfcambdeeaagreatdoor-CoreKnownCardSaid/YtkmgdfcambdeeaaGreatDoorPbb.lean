/- The program's Decode. No statement is proved here.; The program's Encode. No statement is proved here. -/
import Derived.Test.YtkmgdfcambdeeaaGreatDoorPav
import Derived.Test.YtkmgdfcambdeeaaGreatDoorPax
namespace Go.Proofs.YtkmgdfcambdeeaaGreatDoor
set_option maxRecDepth 100000
open Go.RowKit
set_option linter.unusedVariables false

set_option maxHeartbeats 4000000 in
theorem pDecode_any (x : Int) (h0 : 0 ≤ x) (h1 : x < 4294967296) (W : World) (hT : Tabs W) : Calls Tryz.prog 58 #[.int .u32 x] W (DecPost W x) := by
  obtain ⟨D, hD⟩ : ∃ D, D = DecPost W x := ⟨_, rfl⟩
  rw [← hD]
  replace hD := Lib.hid hD
  have hx := Lib.hid (And.intro h0 h1)
  obtain ⟨op, hop⟩ : ∃ op, op = x / 16777216 % 256 := ⟨_, rfl⟩
  obtain ⟨r0, hr0⟩ : ∃ r0, r0 = x - x / 16777216 % 256 * 16777216 := ⟨_, rfl⟩
  have hr1 : 0 ≤ r0 ∧ r0 < 4294967296 := by omega
  have k0 : KR W [⟨W.heap.size + 1, ir 0 0 0 0 0⟩, ⟨W.heap.size, [.int .u32 x]⟩] ((W.alloc (.cells #[.int .u32 x] 22)).alloc (.cells #[.int .i64 0, .int .i64 0, .int .i64 0, .int .i64 0, .int .i64 0] 30)) := by
    have hk := ((KR.start (W := W)).push [.int .u32 x] 22).push (ir 0 0 0 0 0) 30
    rw [World.size_alloc] at hk
    exact hk
  replace hop := Lib.hid hop
  replace hr0 := Lib.hid hr0
  replace hr1 := Lib.hid hr1
  replace hT := Lib.hid hT
  replace k0 := Lib.hid k0
  clear h0 h1
  go_enter Tryz.func58, Tryz.ntmps58
  go_wp2_with fail
  generalize (W.alloc (.cells #[.int .u32 x] 22)).alloc (.cells #[.int .i64 0, .int .i64 0, .int .i64 0, .int .i64 0, .int .i64 0] 30) = w0 at *
  refine (opField_any w0).mono ?_
  rintro e w1 ⟨rfl, k1⟩
  have K1 := (k0.out.below k1).swap
  clear k1 k0
  have hC := take_o x hx.out.1 hx.out.2 W.heap.size w1 (K1.cell _ (List.mem_cons_self ..) rfl) (K1.soft (List.mem_cons_self ..)) (K1.lt (List.mem_cons_self ..))
  rw [← hop.out, show x - op * 16777216 = r0 from by rw [hop.out, hr0.out]] at hC
  replace K1 := Lib.hid K1
  replace hC := Lib.hid hC
  go_wp2_with fail
  refine hC.out.mono ?_
  rintro e w2 ⟨rfl, k2⟩
  have K2 := K1.out.sto (Nat.le_refl _) (by simp) k2
  clear k2 hC K1
  have hgi := K2.bl.size
  have hsz : W.heap.size + 1 < w2.heap.size := K2.lt (g := W.heap.size + 1) (vs := ir 0 0 0 0 0) (List.mem_cons_of_mem _ (List.mem_cons_self ..))
  have K3 := K2.push (ir op 0 0 0 0) 30
  obtain ⟨w3, hw3⟩ : ∃ w3, w3 = w2.alloc (.cells #[.int .i64 op, .int .i64 0, .int .i64 0, .int .i64 0, .int .i64 0] 30) := ⟨_, rfl⟩
  have K3' : KR W [⟨w2.heap.size, ir op 0 0 0 0⟩, ⟨W.heap.size, [.int .u32 r0]⟩, ⟨W.heap.size + 1, ir 0 0 0 0 0⟩] w3 := by rw [hw3]; exact K3
  clear K3 K2
  replace hw3 := Lib.hid hw3
  have hF := Form_any op w3 (hT.out.below K3'.bl)
  have hfl := form_letters op
  obtain ⟨l, hl⟩ : ∃ l, l = formAt op := ⟨_, rfl⟩
  rw [← hl] at hfl hF
  replace hF := Lib.hid hF
  replace hl := Lib.hid hl
  replace hfl := Lib.hid hfl
  have c0 : w3.cell? ⟨w2.heap.size, 0, none⟩ = some (.int .i64 op) := K3'.cell _ (List.mem_cons_self ..) rfl
  replace K3' := Lib.hid K3'
  replace hgi := Lib.hid hgi
  replace hsz := Lib.hid hsz
  go_wp2_with fail
  rw [← hw3.out]
  refine hF.out.mono ?_
  rintro e w' ⟨rfl, rfl⟩
  clear hw3 c0 hF
  generalize w2.heap.size = gi at *
  have hD1 : ∀ x, x ∈ ([⟨gi, ir op 0 0 0 0⟩, ⟨W.heap.size + 1, ir 0 0 0 0 0⟩] : List Rw) → x.g ≠ W.heap.size := by
    have := hsz.out; have := hgi.out
    intro x hx; simp at hx; rcases hx with rfl | rfl <;> simp <;> omega
  have H0 := LP.start K3'.out.swap ⟨l.toArray⟩
  go_wp2_with fail
  obtain ⟨it, hit⟩ : ∃ it, it = w3.heap.size := ⟨_, rfl⟩
  obtain ⟨w4, hw4⟩ : ∃ w4, w4 = w3.iter ⟨l.toArray⟩ 0 := ⟨_, rfl⟩
  rw [← hit, ← hw4] at H0
  rw [← hit, ← hw4]
  clear hw4 hit
  replace hD1 := Lib.hid hD1
  have HD := Lib.hid (show (∀ a b c m : Int, ∀ x, x ∈ ([⟨gi, ir op a b c m⟩, ⟨W.heap.size + 1, ir 0 0 0 0 0⟩] : List Rw) → x.g ≠ W.heap.size) ∧ W.heap.size ≤ gi ∧ (∀ y : Value, ∀ x, x ∈ ([⟨W.heap.size, [y]⟩, ⟨W.heap.size + 1, ir 0 0 0 0 0⟩] : List Rw) → x.g ≠ gi) from by
    have := hsz.out; have := hgi.out
    refine ⟨?_, by omega, ?_⟩
    · intro a b c m x hx; simp at hx; rcases hx with rfl | rfl <;> simp <;> omega
    · intro y x hx; simp at hx; rcases hx with rfl | rfl <;> simp <;> omega)
  replace H0 := Lib.hid H0
  clear hD1 K3' hgi hsz
  go_loopw [6] (fun _ wr => ∃ (p : Nat) (t : DSt), p ≤ l.length ∧ Hid (t = (l.take p).foldl tkS ⟨0, 0, 0, 0, r0⟩) ∧ Hid (LP W [⟨W.heap.size, [.int .u32 t.r]⟩, ⟨gi, ir op t.a t.b t.c t.m⟩, ⟨W.heap.size + 1, ir 0 0 0 0 0⟩] it ⟨l.toArray⟩ p wr)) (fun _ wr => l.length - wr.iterPos it)
  case atStart => exact ⟨0, ⟨0, 0, 0, 0, r0⟩, Nat.zero_le _, Lib.hid rfl, H0⟩
  case round =>
    obtain ⟨p, t, hp, hfold, HL⟩ := hrel
    have hlow : Hid (0 ≤ t.r ∧ t.r < 4294967296) := Lib.hid (by rw [hfold.out]; exact tk_low _ hr1.out)
    by_cases hlt : p < l.length
    · obtain ⟨ch, hch⟩ : ∃ ch, ch = l[p] := ⟨_, rfl⟩
      have hcs := hfl.out l[p] (List.getElem_mem hlt)
      rw [← hch] at hcs
      have hfold2 := Lib.hid (fold_snoc tkS ⟨0, 0, 0, 0, r0⟩ l p hlt)
      rcases hcs with rfl | rfl | rfl | rfl | rfl
      · have hnx := next_at (P := Tryz.prog) 97 97 HL.out.i hlt hch rfl (by decide)
        obtain ⟨ta, tb, tc, tm, tr⟩ := t
        dsimp only at HL hlow
        have hfold' := Lib.hid (show (⟨tr / 1048576 % 16, tb, tc, tm, tr - tr / 1048576 % 16 * 1048576⟩ : DSt) = (l.take (p + 1)).foldl tkS ⟨0, 0, 0, 0, r0⟩ from by rw [hfold2.out, ← hfold.out, ← hch]; simp [tkS])
        replace HL := Lib.hid HL.out
        replace hlow := Lib.hid hlow.out
        clear hch
        clear hfold hfold2
        have hpp := Lib.hid hp
        have hll := Lib.hid hlt
        clear hp hlt
        go_wp2_with fail
        refine (partOf_a gi _).mono ?_
        rintro e w' ⟨rfl, rfl⟩
        go_wp2_with fail
        refine (fieldOf_a _).mono ?_
        rintro e w2 ⟨rfl, k2⟩
        have H2 := (HL.out.next (p + 1)).below k2
        clear k2 hnx
        have hT2 := take_a tr hlow.out.1 hlow.out.2 W.heap.size w2 (H2.k.cell _ (List.mem_cons_self ..) rfl) (H2.k.soft (List.mem_cons_self ..)) (H2.k.lt (List.mem_cons_self ..))
        replace H2 := Lib.hid H2
        replace hT2 := Lib.hid hT2
        go_wp2_with fail
        refine hT2.out.mono ?_
        rintro e w3 ⟨rfl, k3⟩
        have H3 := (H2.out.sto (Nat.le_refl _) (HD.out.1 _ _ _ _) k3).swap
        clear k3 hT2 H2
        have c0 : w3.cell? ⟨gi, 1, none⟩ = some (.int .i64 ta) := H3.k.cell _ (List.mem_cons_self ..) rfl
        have c1 : w3.frozen? ⟨gi, 1, none⟩ = false := H3.k.soft (List.mem_cons_self ..) _
        have H4 := Lib.hid (H3.set HD.out.2.1 (HD.out.2.2 _) 1 (.int .i64 (tr / 1048576 % 16)) (by simp [ir])).swap
        clear H3
        go_wp2_with fail
        refine ⟨⟨p + 1, ⟨tr / 1048576 % 16, tb, tc, tm, tr - tr / 1048576 % 16 * 1048576⟩, by have := hll.out; omega, hfold', H4⟩, ?_⟩
        rw [H4.out.pos, HL.out.pos]
        have := hll.out
        omega
      · have hnx := next_at (P := Tryz.prog) 98 98 HL.out.i hlt hch rfl (by decide)
        obtain ⟨ta, tb, tc, tm, tr⟩ := t
        dsimp only at HL hlow
        have hfold' := Lib.hid (show (⟨ta, tr / 65536 % 16, tc, tm, tr - tr / 65536 % 16 * 65536⟩ : DSt) = (l.take (p + 1)).foldl tkS ⟨0, 0, 0, 0, r0⟩ from by rw [hfold2.out, ← hfold.out, ← hch]; simp [tkS])
        replace HL := Lib.hid HL.out
        replace hlow := Lib.hid hlow.out
        clear hch
        clear hfold hfold2
        have hpp := Lib.hid hp
        have hll := Lib.hid hlt
        clear hp hlt
        go_wp2_with fail
        refine (partOf_b gi _).mono ?_
        rintro e w' ⟨rfl, rfl⟩
        go_wp2_with fail
        refine (fieldOf_b _).mono ?_
        rintro e w2 ⟨rfl, k2⟩
        have H2 := (HL.out.next (p + 1)).below k2
        clear k2 hnx
        have hT2 := take_b tr hlow.out.1 hlow.out.2 W.heap.size w2 (H2.k.cell _ (List.mem_cons_self ..) rfl) (H2.k.soft (List.mem_cons_self ..)) (H2.k.lt (List.mem_cons_self ..))
        replace H2 := Lib.hid H2
        replace hT2 := Lib.hid hT2
        go_wp2_with fail
        refine hT2.out.mono ?_
        rintro e w3 ⟨rfl, k3⟩
        have H3 := (H2.out.sto (Nat.le_refl _) (HD.out.1 _ _ _ _) k3).swap
        clear k3 hT2 H2
        have c0 : w3.cell? ⟨gi, 2, none⟩ = some (.int .i64 tb) := H3.k.cell _ (List.mem_cons_self ..) rfl
        have c1 : w3.frozen? ⟨gi, 2, none⟩ = false := H3.k.soft (List.mem_cons_self ..) _
        have H4 := Lib.hid (H3.set HD.out.2.1 (HD.out.2.2 _) 2 (.int .i64 (tr / 65536 % 16)) (by simp [ir])).swap
        clear H3
        go_wp2_with fail
        refine ⟨⟨p + 1, ⟨ta, tr / 65536 % 16, tc, tm, tr - tr / 65536 % 16 * 65536⟩, by have := hll.out; omega, hfold', H4⟩, ?_⟩
        rw [H4.out.pos, HL.out.pos]
        have := hll.out
        omega
      · have hnx := next_at (P := Tryz.prog) 99 99 HL.out.i hlt hch rfl (by decide)
        obtain ⟨ta, tb, tc, tm, tr⟩ := t
        dsimp only at HL hlow
        have hfold' := Lib.hid (show (⟨ta, tb, tr / 4096 % 16, tm, tr - tr / 4096 % 16 * 4096⟩ : DSt) = (l.take (p + 1)).foldl tkS ⟨0, 0, 0, 0, r0⟩ from by rw [hfold2.out, ← hfold.out, ← hch]; simp [tkS])
        replace HL := Lib.hid HL.out
        replace hlow := Lib.hid hlow.out
        clear hch
        clear hfold hfold2
        have hpp := Lib.hid hp
        have hll := Lib.hid hlt
        clear hp hlt
        go_wp2_with fail
        refine (partOf_c gi _).mono ?_
        rintro e w' ⟨rfl, rfl⟩
        go_wp2_with fail
        refine (fieldOf_c _).mono ?_
        rintro e w2 ⟨rfl, k2⟩
        have H2 := (HL.out.next (p + 1)).below k2
        clear k2 hnx
        have hT2 := take_c tr hlow.out.1 hlow.out.2 W.heap.size w2 (H2.k.cell _ (List.mem_cons_self ..) rfl) (H2.k.soft (List.mem_cons_self ..)) (H2.k.lt (List.mem_cons_self ..))
        replace H2 := Lib.hid H2
        replace hT2 := Lib.hid hT2
        go_wp2_with fail
        refine hT2.out.mono ?_
        rintro e w3 ⟨rfl, k3⟩
        have H3 := (H2.out.sto (Nat.le_refl _) (HD.out.1 _ _ _ _) k3).swap
        clear k3 hT2 H2
        have c0 : w3.cell? ⟨gi, 3, none⟩ = some (.int .i64 tc) := H3.k.cell _ (List.mem_cons_self ..) rfl
        have c1 : w3.frozen? ⟨gi, 3, none⟩ = false := H3.k.soft (List.mem_cons_self ..) _
        have H4 := Lib.hid (H3.set HD.out.2.1 (HD.out.2.2 _) 3 (.int .i64 (tr / 4096 % 16)) (by simp [ir])).swap
        clear H3
        go_wp2_with fail
        refine ⟨⟨p + 1, ⟨ta, tb, tr / 4096 % 16, tm, tr - tr / 4096 % 16 * 4096⟩, by have := hll.out; omega, hfold', H4⟩, ?_⟩
        rw [H4.out.pos, HL.out.pos]
        have := hll.out
        omega
      · have hnx := next_at (P := Tryz.prog) 105 105 HL.out.i hlt hch rfl (by decide)
        obtain ⟨ta, tb, tc, tm, tr⟩ := t
        dsimp only at HL hlow
        have hfold' := Lib.hid (show (⟨ta, tb, tc, sx 4096 2048 (tr % 4096), tr - tr % 4096⟩ : DSt) = (l.take (p + 1)).foldl tkS ⟨0, 0, 0, 0, r0⟩ from by rw [hfold2.out, ← hfold.out, ← hch]; simp [tkS])
        replace HL := Lib.hid HL.out
        replace hlow := Lib.hid hlow.out
        clear hch
        clear hfold hfold2
        have hpp := Lib.hid hp
        have hll := Lib.hid hlt
        clear hp hlt
        go_wp2_with fail
        refine (partOf_i gi _).mono ?_
        rintro e w' ⟨rfl, rfl⟩
        go_wp2_with fail
        refine (fieldOf_i _).mono ?_
        rintro e w2 ⟨rfl, k2⟩
        have H2 := (HL.out.next (p + 1)).below k2
        clear k2 hnx
        have hT2 := take_i tr hlow.out.1 hlow.out.2 W.heap.size w2 (H2.k.cell _ (List.mem_cons_self ..) rfl) (H2.k.soft (List.mem_cons_self ..)) (H2.k.lt (List.mem_cons_self ..))
        replace H2 := Lib.hid H2
        replace hT2 := Lib.hid hT2
        go_wp2_with fail
        refine hT2.out.mono ?_
        rintro e w3 ⟨rfl, k3⟩
        have H3 := (H2.out.sto (Nat.le_refl _) (HD.out.1 _ _ _ _) k3).swap
        clear k3 hT2 H2
        have c0 : w3.cell? ⟨gi, 4, none⟩ = some (.int .i64 tm) := H3.k.cell _ (List.mem_cons_self ..) rfl
        have c1 : w3.frozen? ⟨gi, 4, none⟩ = false := H3.k.soft (List.mem_cons_self ..) _
        have H4 := Lib.hid (H3.set HD.out.2.1 (HD.out.2.2 _) 4 (.int .i64 (sx 4096 2048 (tr % 4096))) (by simp [ir])).swap
        clear H3
        go_wp2_with fail
        refine ⟨⟨p + 1, ⟨ta, tb, tc, sx 4096 2048 (tr % 4096), tr - tr % 4096⟩, by have := hll.out; omega, hfold', H4⟩, ?_⟩
        rw [H4.out.pos, HL.out.pos]
        have := hll.out
        omega
      · have hnx := next_at (P := Tryz.prog) 106 106 HL.out.i hlt hch rfl (by decide)
        obtain ⟨ta, tb, tc, tm, tr⟩ := t
        dsimp only at HL hlow
        have hfold' := Lib.hid (show (⟨ta, tb, tc, sx 1048576 524288 (tr % 1048576), tr - tr % 1048576⟩ : DSt) = (l.take (p + 1)).foldl tkS ⟨0, 0, 0, 0, r0⟩ from by rw [hfold2.out, ← hfold.out, ← hch]; simp [tkS])
        replace HL := Lib.hid HL.out
        replace hlow := Lib.hid hlow.out
        clear hch
        clear hfold hfold2
        have hpp := Lib.hid hp
        have hll := Lib.hid hlt
        clear hp hlt
        go_wp2_with fail
        refine (partOf_j gi _).mono ?_
        rintro e w' ⟨rfl, rfl⟩
        go_wp2_with fail
        refine (fieldOf_j _).mono ?_
        rintro e w2 ⟨rfl, k2⟩
        have H2 := (HL.out.next (p + 1)).below k2
        clear k2 hnx
        have hT2 := take_j tr hlow.out.1 hlow.out.2 W.heap.size w2 (H2.k.cell _ (List.mem_cons_self ..) rfl) (H2.k.soft (List.mem_cons_self ..)) (H2.k.lt (List.mem_cons_self ..))
        replace H2 := Lib.hid H2
        replace hT2 := Lib.hid hT2
        go_wp2_with fail
        refine hT2.out.mono ?_
        rintro e w3 ⟨rfl, k3⟩
        have H3 := (H2.out.sto (Nat.le_refl _) (HD.out.1 _ _ _ _) k3).swap
        clear k3 hT2 H2
        have c0 : w3.cell? ⟨gi, 4, none⟩ = some (.int .i64 tm) := H3.k.cell _ (List.mem_cons_self ..) rfl
        have c1 : w3.frozen? ⟨gi, 4, none⟩ = false := H3.k.soft (List.mem_cons_self ..) _
        have H4 := Lib.hid (H3.set HD.out.2.1 (HD.out.2.2 _) 4 (.int .i64 (sx 1048576 524288 (tr % 1048576))) (by simp [ir])).swap
        clear H3
        go_wp2_with fail
        refine ⟨⟨p + 1, ⟨ta, tb, tc, sx 1048576 524288 (tr % 1048576), tr - tr % 1048576⟩, by have := hll.out; omega, hfold', H4⟩, ?_⟩
        rw [H4.out.pos, HL.out.pos]
        have := hll.out
        omega
    · obtain rfl : p = l.length := by omega
      have hend := next_end (P := Tryz.prog) HL.out.i hlt
      rw [List.take_length] at hfold
      replace HL := HL.out
      have hdec := decP_is x hx.out.1 hx.out.2
      unfold decP at hdec
      dsimp only at hdec
      rw [← hop.out, ← hl.out, show x - op * 16777216 = r0 from by rw [hop.out, hr0.out], ← hfold.out] at hdec
      obtain ⟨c0, c1, c2, c3, c4, -⟩ := HL.k.cells5 (g := gi) (List.mem_cons_of_mem _ (List.mem_cons_self ..))
      obtain ⟨z0, z1, z2, z3, z4, zf⟩ := HL.k.cells5 (g := W.heap.size + 1) (List.mem_cons_of_mem _ (List.mem_cons_of_mem _ (List.mem_cons_self ..)))
      have z5 := zf 0
      have z6 := zf 1
      have z7 := zf 2
      have z8 := zf 3
      have z9 := zf 4
      have d0 : wr.cell? ⟨W.heap.size, 0, none⟩ = some (.int .u32 t.r) := HL.k.cell _ (List.mem_cons_self ..) rfl
      have hO := Lib.hid (isOp_any op wr)
      have KR0 := Lib.hid ((HL.k.swap.sub (L' := [⟨W.heap.size + 1, ir 0 0 0 0 0⟩]) (by intro y hy; simp at hy; subst hy; simp)))
      replace hdec := Lib.hid hdec
      clear HL zf hfold hlow hlt hp H0
      obtain ⟨ta, tb, tc, tm, tr⟩ := t
      dsimp only at c0 c1 c2 c3 c4 d0 hdec
      have KF := fun u0 u1 u2 u3 u4 => KR0.out.set5 (W := W) (by omega) (by simp) u0 u1 u2 u3 u4
      by_cases hin : 1 ≤ op ∧ op ≤ 53
      · rw [decide_eq_true hin] at hO
        by_cases htr : tr = 0
        · subst htr
          have HZ := hdec.out
          rw [if_pos ⟨hin, rfl⟩] at HZ
          replace HZ := Lib.hid HZ
          replace KF := Lib.hid (KF (.int .i64 op) (.int .i64 ta) (.int .i64 tb) (.int .i64 tc) (.int .i64 tm))
          clear hin hdec
          go_wp2_with fail
          refine hO.out.mono ?_
          rintro e w' ⟨rfl, rfl⟩
          go_wp2_with fail
          clear z0 z1 z2 z3 z4 z5 z6 z7 z8 z9 c0 c1 c2 c3 c4 d0
          generalize (World.setCell (World.setCell (World.setCell (World.setCell (World.setCell wr ⟨W.heap.size + 1, 0, none⟩ (.int .i64 op)) ⟨W.heap.size + 1, 1, none⟩ (.int .i64 ta)) ⟨W.heap.size + 1, 2, none⟩ (.int .i64 tb)) ⟨W.heap.size + 1, 3, none⟩ (.int .i64 tc)) ⟨W.heap.size + 1, 4, none⟩ (.int .i64 tm)) = w9 at *
          obtain ⟨z0, z1, z2, z3, z4, -⟩ := KF.out.cells5 (List.mem_cons_self ..)
          rw [hD.out]
          exact bodyPost_ret (v := .agg #[.int .i64 op, .int .i64 ta, .int .i64 tb, .int .i64 tc, .int .i64 tm]) (by simp [results, Tryz.results58, go_sem, z0, z1, z2, z3, z4]) rfl (DecPost.mk (i := ⟨op, ta, tb, tc, tm⟩) HZ.out rfl KF.out.bl)
        · have HZ := hdec.out
          rw [if_neg (fun k => htr k.2)] at HZ
          replace HZ := Lib.hid HZ
          replace KF := Lib.hid (KF (.int .i64 0) (.int .i64 0) (.int .i64 0) (.int .i64 0) (.int .i64 0))
          have hne : (tr != 0) = true := by simpa using htr
          clear hin hdec htr
          go_wp2_with fail
          refine hO.out.mono ?_
          rintro e w' ⟨rfl, rfl⟩
          go_wp2_with fail
          clear z0 z1 z2 z3 z4 z5 z6 z7 z8 z9 c0 c1 c2 c3 c4 d0
          generalize (World.setCell (World.setCell (World.setCell (World.setCell (World.setCell wr ⟨W.heap.size + 1, 0, none⟩ (.int .i64 0)) ⟨W.heap.size + 1, 1, none⟩ (.int .i64 0)) ⟨W.heap.size + 1, 2, none⟩ (.int .i64 0)) ⟨W.heap.size + 1, 3, none⟩ (.int .i64 0)) ⟨W.heap.size + 1, 4, none⟩ (.int .i64 0)) = w9 at *
          obtain ⟨z0, z1, z2, z3, z4, -⟩ := KF.out.cells5 (List.mem_cons_self ..)
          rw [hD.out]
          exact bodyPost_ret (v := .agg #[.int .i64 0, .int .i64 0, .int .i64 0, .int .i64 0, .int .i64 0]) (by simp [results, Tryz.results58, go_sem, z0, z1, z2, z3, z4]) rfl (DecPost.mk (i := Ins.zero) HZ.out rfl KF.out.bl)
      · rw [decide_eq_false hin] at hO
        have HZ := hdec.out
        rw [if_neg (fun k => hin k.1)] at HZ
        replace HZ := Lib.hid HZ
        replace KF := Lib.hid (KF (.int .i64 0) (.int .i64 0) (.int .i64 0) (.int .i64 0) (.int .i64 0))
        clear hin hdec
        go_wp2_with fail
        refine hO.out.mono ?_
        rintro e w' ⟨rfl, rfl⟩
        go_wp2_with fail
        clear z0 z1 z2 z3 z4 z5 z6 z7 z8 z9 c0 c1 c2 c3 c4 d0
        generalize (World.setCell (World.setCell (World.setCell (World.setCell (World.setCell wr ⟨W.heap.size + 1, 0, none⟩ (.int .i64 0)) ⟨W.heap.size + 1, 1, none⟩ (.int .i64 0)) ⟨W.heap.size + 1, 2, none⟩ (.int .i64 0)) ⟨W.heap.size + 1, 3, none⟩ (.int .i64 0)) ⟨W.heap.size + 1, 4, none⟩ (.int .i64 0)) = w9 at *
        obtain ⟨z0, z1, z2, z3, z4, -⟩ := KF.out.cells5 (List.mem_cons_self ..)
        rw [hD.out]
        exact bodyPost_ret (v := .agg #[.int .i64 0, .int .i64 0, .int .i64 0, .int .i64 0, .int .i64 0]) (by simp [results, Tryz.results58, go_sem, z0, z1, z2, z3, z4]) rfl (DecPost.mk (i := Ins.zero) HZ.out rfl KF.out.bl)
end Go.Proofs.YtkmgdfcambdeeaaGreatDoor
namespace Go.Proofs.YtkmgdfcambdeeaaGreatDoor
set_option maxRecDepth 100000
open Go.RowKit
set_option linter.unusedVariables false

set_option maxHeartbeats 4000000 in
theorem pEncode_any (op a b c m : Int) (W : World) (hT : Tabs W) : Calls Tryz.prog 79 #[.agg #[.int .i64 op, .int .i64 a, .int .i64 b, .int .i64 c, .int .i64 m]] W (EncPost W ⟨op, a, b, c, m⟩) := by
  obtain ⟨D, hD⟩ : ∃ D, D = EncPost W ⟨op, a, b, c, m⟩ := ⟨_, rfl⟩
  rw [← hD]
  replace hD := Lib.hid hD
  have k0 : KR W [⟨W.heap.size + 1, [.int .u32 0]⟩, ⟨W.heap.size, ir op a b c m⟩] ((W.alloc (.cells #[.int .i64 op, .int .i64 a, .int .i64 b, .int .i64 c, .int .i64 m] 30)).alloc (.cells #[.int .u32 0] 22)) := by
    have hk := ((KR.start (W := W)).push (ir op a b c m) 30).push [.int .u32 0] 22
    rw [World.size_alloc] at hk
    exact hk
  obtain ⟨S, hS0⟩ : ∃ S, S = KR W [⟨W.heap.size + 1, [.int .u32 0]⟩, ⟨W.heap.size, ir op a b c m⟩] := ⟨_, rfl⟩
  have hK : ∀ w, S w → KR W [⟨W.heap.size + 1, [.int .u32 0]⟩, ⟨W.heap.size, ir op a b c m⟩] w := fun w h => by rw [← hS0]; exact h
  have hS : ∀ w w', S w → Below w.heap.size w w' → S w' := fun w w' h k => by rw [hS0] at h ⊢; exact h.below k
  rw [← hS0] at k0
  clear hS0
  have cO := Lib.hid (cls_bel hS opField_any)
  have a0 : ∀ y : Wd S, y.w.cell? ⟨W.heap.size, 0, none⟩ = some (.int .i64 op) := fun y => (hK _ y.h).cell _ (List.mem_cons_of_mem _ (List.mem_cons_self ..)) rfl
  replace hT := Lib.hid hT
  replace k0 := Lib.hid k0
  have HS := Lib.hid hS
  have HK := Lib.hid hK
  clear hS hK
  go_enter Tryz.func79, Tryz.ntmps79
  go_wp2_with fail
  generalize (W.alloc (.cells #[.int .i64 op, .int .i64 a, .int .i64 b, .int .i64 c, .int .i64 m] 30)).alloc (.cells #[.int .u32 0] 22) = w0 at *
  refine region_cls_tail S 4 (by kernel_rfl) (by kernel_rfl) (HS.out _ _ k0.out (Below.refl _ _).drew) ?_
  simp only [List.take_succ_cons, List.take_zero, List.drop_succ_cons, List.drop_zero]
  repeat (first
    | go_big_quiet_skip
    | (go_big_quiet_want
       go_big_quiet_op
       first
       | go_big_quiet_on
       | (apply Exists.intro
          refine ⟨fun y => ?_, ?_⟩
          · first | exact rfl | with_reducible exact cO.out y
          go_big_quiet_on)))
  refine wpQuiet_nil ?_
  intro y
  have HY := HK.out _ y.h
  have hP := put_o 0 op (W.heap.size + 1) y.w (HY.cell _ (List.mem_cons_self ..) rfl) (HY.soft (List.mem_cons_self ..)) (HY.lt (List.mem_cons_self ..))
  obtain ⟨w8, hw8⟩ : ∃ w8, w8 = bits .or .u32 0 (op % 256 * 16777216) := ⟨_, rfl⟩
  rw [← hw8] at hP
  replace hP := Lib.hid hP
  replace hw8 := Lib.hid hw8
  replace HY := Lib.hid HY
  clear a0 cO
  go_wp2_with fail
  refine hP.out.mono ?_
  rintro e w1 ⟨rfl, k1⟩
  have K1 := HY.out.sto (Nat.le_succ _) (by simp) k1
  clear k1 hP HY
  have hF := Form_any op w1 (hT.out.below K1.bl)
  have hfl := form_letters op
  obtain ⟨l, hl⟩ : ∃ l, l = formAt op := ⟨_, rfl⟩
  rw [← hl] at hfl hF
  replace hF := Lib.hid hF
  replace hl := Lib.hid hl
  replace hfl := Lib.hid hfl
  have c0 : w1.cell? ⟨W.heap.size, 0, none⟩ = some (.int .i64 op) := K1.cell _ (List.mem_cons_of_mem _ (List.mem_cons_self ..)) rfl
  replace K1 := Lib.hid K1
  go_wp2_with fail
  refine hF.out.mono ?_
  rintro e w' ⟨rfl, rfl⟩
  clear c0 hF
  have H0 := LP.start K1.out ⟨l.toArray⟩
  go_wp2_with fail
  obtain ⟨it, hit⟩ : ∃ it, it = w1.heap.size := ⟨_, rfl⟩
  obtain ⟨w4, hw4⟩ : ∃ w4, w4 = w1.iter ⟨l.toArray⟩ 0 := ⟨_, rfl⟩
  rw [← hit, ← hw4] at H0
  rw [← hit, ← hw4]
  clear hw4 hit
  have HD := Lib.hid (show ∀ x, x ∈ ([⟨W.heap.size, ir op a b c m⟩] : List Rw) → x.g ≠ W.heap.size + 1 from by
    intro x hx; simp at hx; subst hx; simp)
  replace H0 := Lib.hid H0
  clear K1
  go_loopw [7] (fun _ wr => ∃ (p : Nat) (t : Int), p ≤ l.length ∧ Hid (t = (l.take p).foldl (ptS ⟨op, a, b, c, m⟩) w8) ∧ Hid (LP W [⟨W.heap.size + 1, [.int .u32 t]⟩, ⟨W.heap.size, ir op a b c m⟩] it ⟨l.toArray⟩ p wr)) (fun _ wr => l.length - wr.iterPos it)
  case atStart => exact ⟨0, w8, Nat.zero_le _, Lib.hid rfl, H0⟩
  case round =>
    obtain ⟨p, t, hp, hfold, HL⟩ := hrel
    by_cases hlt : p < l.length
    · obtain ⟨ch, hch⟩ : ∃ ch, ch = l[p] := ⟨_, rfl⟩
      have hcs := hfl.out l[p] (List.getElem_mem hlt)
      rw [← hch] at hcs
      have hfold2 := Lib.hid (fold_snoc (ptS ⟨op, a, b, c, m⟩) w8 l p hlt)
      rcases hcs with rfl | rfl | rfl | rfl | rfl
      · have hnx := next_at (P := Tryz.prog) 97 97 HL.out.i hlt hch rfl (by decide)
        have hfold' := Lib.hid (show ptS ⟨op, a, b, c, m⟩ t 97 = (l.take (p + 1)).foldl (ptS ⟨op, a, b, c, m⟩) w8 from by rw [hfold2.out, ← hfold.out, ← hch])
        clear hch
        clear hfold hfold2
        have hpp := Lib.hid hp
        have hll := Lib.hid hlt
        clear hp hlt
        go_wp2_with fail
        refine (fieldOf_a _).mono ?_
        rintro e w2 ⟨rfl, k2⟩
        have H2 := (HL.out.next (p + 1)).below k2
        clear k2 hnx
        have c0 : w2.cell? ⟨W.heap.size, 1, none⟩ = some (.int .i64 a) := H2.k.cell _ (List.mem_cons_of_mem _ (List.mem_cons_self ..)) rfl
        have hT2 := put_a t a (W.heap.size + 1) w2 (H2.k.cell _ (List.mem_cons_self ..) rfl) (H2.k.soft (List.mem_cons_self ..)) (H2.k.lt (List.mem_cons_self ..))
        replace H2 := Lib.hid H2
        replace hT2 := Lib.hid hT2
        go_wp2_with fail
        refine (partOf_a W.heap.size _).mono ?_
        rintro e w' ⟨rfl, rfl⟩
        go_wp2_with fail
        refine hT2.out.mono ?_
        rintro e w3 ⟨rfl, k3⟩
        have H4 := Lib.hid (H2.out.sto (Nat.le_succ _) HD.out k3)
        clear k3 hT2 H2 c0
        go_wp2_with fail
        refine ⟨⟨p + 1, _, by have := hll.out; omega, hfold', H4⟩, ?_⟩
        rw [H4.out.pos, HL.out.pos]
        have := hll.out
        omega
      · have hnx := next_at (P := Tryz.prog) 98 98 HL.out.i hlt hch rfl (by decide)
        have hfold' := Lib.hid (show ptS ⟨op, a, b, c, m⟩ t 98 = (l.take (p + 1)).foldl (ptS ⟨op, a, b, c, m⟩) w8 from by rw [hfold2.out, ← hfold.out, ← hch])
        clear hch
        clear hfold hfold2
        have hpp := Lib.hid hp
        have hll := Lib.hid hlt
        clear hp hlt
        go_wp2_with fail
        refine (fieldOf_b _).mono ?_
        rintro e w2 ⟨rfl, k2⟩
        have H2 := (HL.out.next (p + 1)).below k2
        clear k2 hnx
        have c0 : w2.cell? ⟨W.heap.size, 2, none⟩ = some (.int .i64 b) := H2.k.cell _ (List.mem_cons_of_mem _ (List.mem_cons_self ..)) rfl
        have hT2 := put_b t b (W.heap.size + 1) w2 (H2.k.cell _ (List.mem_cons_self ..) rfl) (H2.k.soft (List.mem_cons_self ..)) (H2.k.lt (List.mem_cons_self ..))
        replace H2 := Lib.hid H2
        replace hT2 := Lib.hid hT2
        go_wp2_with fail
        refine (partOf_b W.heap.size _).mono ?_
        rintro e w' ⟨rfl, rfl⟩
        go_wp2_with fail
        refine hT2.out.mono ?_
        rintro e w3 ⟨rfl, k3⟩
        have H4 := Lib.hid (H2.out.sto (Nat.le_succ _) HD.out k3)
        clear k3 hT2 H2 c0
        go_wp2_with fail
        refine ⟨⟨p + 1, _, by have := hll.out; omega, hfold', H4⟩, ?_⟩
        rw [H4.out.pos, HL.out.pos]
        have := hll.out
        omega
      · have hnx := next_at (P := Tryz.prog) 99 99 HL.out.i hlt hch rfl (by decide)
        have hfold' := Lib.hid (show ptS ⟨op, a, b, c, m⟩ t 99 = (l.take (p + 1)).foldl (ptS ⟨op, a, b, c, m⟩) w8 from by rw [hfold2.out, ← hfold.out, ← hch])
        clear hch
        clear hfold hfold2
        have hpp := Lib.hid hp
        have hll := Lib.hid hlt
        clear hp hlt
        go_wp2_with fail
        refine (fieldOf_c _).mono ?_
        rintro e w2 ⟨rfl, k2⟩
        have H2 := (HL.out.next (p + 1)).below k2
        clear k2 hnx
        have c0 : w2.cell? ⟨W.heap.size, 3, none⟩ = some (.int .i64 c) := H2.k.cell _ (List.mem_cons_of_mem _ (List.mem_cons_self ..)) rfl
        have hT2 := put_c t c (W.heap.size + 1) w2 (H2.k.cell _ (List.mem_cons_self ..) rfl) (H2.k.soft (List.mem_cons_self ..)) (H2.k.lt (List.mem_cons_self ..))
        replace H2 := Lib.hid H2
        replace hT2 := Lib.hid hT2
        go_wp2_with fail
        refine (partOf_c W.heap.size _).mono ?_
        rintro e w' ⟨rfl, rfl⟩
        go_wp2_with fail
        refine hT2.out.mono ?_
        rintro e w3 ⟨rfl, k3⟩
        have H4 := Lib.hid (H2.out.sto (Nat.le_succ _) HD.out k3)
        clear k3 hT2 H2 c0
        go_wp2_with fail
        refine ⟨⟨p + 1, _, by have := hll.out; omega, hfold', H4⟩, ?_⟩
        rw [H4.out.pos, HL.out.pos]
        have := hll.out
        omega
      · have hnx := next_at (P := Tryz.prog) 105 105 HL.out.i hlt hch rfl (by decide)
        have hfold' := Lib.hid (show ptS ⟨op, a, b, c, m⟩ t 105 = (l.take (p + 1)).foldl (ptS ⟨op, a, b, c, m⟩) w8 from by rw [hfold2.out, ← hfold.out, ← hch])
        clear hch
        clear hfold hfold2
        have hpp := Lib.hid hp
        have hll := Lib.hid hlt
        clear hp hlt
        go_wp2_with fail
        refine (fieldOf_i _).mono ?_
        rintro e w2 ⟨rfl, k2⟩
        have H2 := (HL.out.next (p + 1)).below k2
        clear k2 hnx
        have c0 : w2.cell? ⟨W.heap.size, 4, none⟩ = some (.int .i64 m) := H2.k.cell _ (List.mem_cons_of_mem _ (List.mem_cons_self ..)) rfl
        have hT2 := put_i t m (W.heap.size + 1) w2 (H2.k.cell _ (List.mem_cons_self ..) rfl) (H2.k.soft (List.mem_cons_self ..)) (H2.k.lt (List.mem_cons_self ..))
        replace H2 := Lib.hid H2
        replace hT2 := Lib.hid hT2
        go_wp2_with fail
        refine (partOf_i W.heap.size _).mono ?_
        rintro e w' ⟨rfl, rfl⟩
        go_wp2_with fail
        refine hT2.out.mono ?_
        rintro e w3 ⟨rfl, k3⟩
        have H4 := Lib.hid (H2.out.sto (Nat.le_succ _) HD.out k3)
        clear k3 hT2 H2 c0
        go_wp2_with fail
        refine ⟨⟨p + 1, _, by have := hll.out; omega, hfold', H4⟩, ?_⟩
        rw [H4.out.pos, HL.out.pos]
        have := hll.out
        omega
      · have hnx := next_at (P := Tryz.prog) 106 106 HL.out.i hlt hch rfl (by decide)
        have hfold' := Lib.hid (show ptS ⟨op, a, b, c, m⟩ t 106 = (l.take (p + 1)).foldl (ptS ⟨op, a, b, c, m⟩) w8 from by rw [hfold2.out, ← hfold.out, ← hch])
        clear hch
        clear hfold hfold2
        have hpp := Lib.hid hp
        have hll := Lib.hid hlt
        clear hp hlt
        go_wp2_with fail
        refine (fieldOf_j _).mono ?_
        rintro e w2 ⟨rfl, k2⟩
        have H2 := (HL.out.next (p + 1)).below k2
        clear k2 hnx
        have c0 : w2.cell? ⟨W.heap.size, 4, none⟩ = some (.int .i64 m) := H2.k.cell _ (List.mem_cons_of_mem _ (List.mem_cons_self ..)) rfl
        have hT2 := put_j t m (W.heap.size + 1) w2 (H2.k.cell _ (List.mem_cons_self ..) rfl) (H2.k.soft (List.mem_cons_self ..)) (H2.k.lt (List.mem_cons_self ..))
        replace H2 := Lib.hid H2
        replace hT2 := Lib.hid hT2
        go_wp2_with fail
        refine (partOf_j W.heap.size _).mono ?_
        rintro e w' ⟨rfl, rfl⟩
        go_wp2_with fail
        refine hT2.out.mono ?_
        rintro e w3 ⟨rfl, k3⟩
        have H4 := Lib.hid (H2.out.sto (Nat.le_succ _) HD.out k3)
        clear k3 hT2 H2 c0
        go_wp2_with fail
        refine ⟨⟨p + 1, _, by have := hll.out; omega, hfold', H4⟩, ?_⟩
        rw [H4.out.pos, HL.out.pos]
        have := hll.out
        omega
    · obtain rfl : p = l.length := by omega
      have hend := next_end (P := Tryz.prog) HL.out.i hlt
      rw [List.take_length] at hfold
      have ht : t = encP ⟨op, a, b, c, m⟩ := by rw [hfold.out, hl.out, hw8.out]; rfl
      have hv := encP_val ⟨op, a, b, c, m⟩
      have KE := HL.out.k
      clear HL hfold hlt hp H0 hfl
      obtain ⟨S2, hS0⟩ : ∃ S2, S2 = KR W [⟨W.heap.size + 1, [.int .u32 t]⟩, ⟨W.heap.size, ir op a b c m⟩] := ⟨_, rfl⟩
      have hK : ∀ w, S2 w → KR W [⟨W.heap.size + 1, [.int .u32 t]⟩, ⟨W.heap.size, ir op a b c m⟩] w := fun w h => by rw [← hS0]; exact h
      have hS : ∀ w w', S2 w → Below w.heap.size w w' → S2 w' := fun w w' h k => by rw [hS0] at h ⊢; exact h.below k
      rw [← hS0] at KE
      clear hS0
      have hdec : ∀ w, S2 w → Calls Tryz.prog 58 #[.int .u32 t] w fun e w' => e = .returned (iv (decW t)) ∧ S2 w' := fun w hw =>
        (pDecode_any t (by rw [ht]; exact hv.1) (by rw [ht]; exact hv.2.1) w (hT.out.below (hK _ hw).bl)).mono fun e w' k => ⟨k.1, hS _ _ hw k.2⟩
      have hEq := fun w => ins_eq (decW t) ⟨op, a, b, c, m⟩ w
      have htest : op ≠ 0 → decide (decW t = ⟨op, a, b, c, m⟩) = mayB ⟨op, a, b, c, m⟩ := fun h => by rw [ht]; exact enc_test (i := ⟨op, a, b, c, m⟩) h
      have henc : mayB ⟨op, a, b, c, m⟩ = true → t = encW ⟨op, a, b, c, m⟩ := fun h => ht.trans (hv.2.2 h)
      generalize decide (decW t = ⟨op, a, b, c, m⟩) = q at *
      obtain ⟨v, hvv⟩ : ∃ v, v = decW t := ⟨_, rfl⟩
      rw [← hvv] at hdec hEq
      clear hvv
      obtain ⟨zo, za, zb, zc, zm⟩ := v
      replace hdec : ∀ w, S2 w → Calls Tryz.prog 58 #[.int .u32 t] w fun e w' => e = .returned (.agg #[.int .i64 zo, .int .i64 za, .int .i64 zb, .int .i64 zc, .int .i64 zm]) ∧ S2 w' := hdec
      replace hEq : ∀ w, (Op.equalIn 10000 30 (.agg #[.int .i64 zo, .int .i64 za, .int .i64 zb, .int .i64 zc, .int .i64 zm]) (.agg #[.int .i64 op, .int .i64 a, .int .i64 b, .int .i64 c, .int .i64 m])).run Tryz.prog w = .ok q w := hEq
      have cD := Lib.hid (cls_call hdec)
      have d0 : ∀ y : Wd S2, y.w.cell? ⟨W.heap.size + 1, 0, none⟩ = some (.int .u32 t) := fun y => (hK _ y.h).cell _ (List.mem_cons_self ..) rfl
      have e0 : ∀ y : Wd S2, y.w.cell? ⟨W.heap.size, 0, none⟩ = some (.int .i64 op) := fun y => (hK _ y.h).cell _ (List.mem_cons_of_mem _ (List.mem_cons_self ..)) rfl
      have e1 : ∀ y : Wd S2, y.w.cell? ⟨W.heap.size, 1, none⟩ = some (.int .i64 a) := fun y => (hK _ y.h).cell _ (List.mem_cons_of_mem _ (List.mem_cons_self ..)) rfl
      have e2 : ∀ y : Wd S2, y.w.cell? ⟨W.heap.size, 2, none⟩ = some (.int .i64 b) := fun y => (hK _ y.h).cell _ (List.mem_cons_of_mem _ (List.mem_cons_self ..)) rfl
      have e3 : ∀ y : Wd S2, y.w.cell? ⟨W.heap.size, 3, none⟩ = some (.int .i64 c) := fun y => (hK _ y.h).cell _ (List.mem_cons_of_mem _ (List.mem_cons_self ..)) rfl
      have e4 : ∀ y : Wd S2, y.w.cell? ⟨W.heap.size, 4, none⟩ = some (.int .i64 m) := fun y => (hK _ y.h).cell _ (List.mem_cons_of_mem _ (List.mem_cons_self ..)) rfl
      have HS2 := Lib.hid hS
      have HK2 := Lib.hid hK
      replace KE := Lib.hid KE
      replace htest := Lib.hid htest
      replace henc := Lib.hid henc
      have hund : undef = Value.tuple #[] := rfl
      clear hdec hS hK ht hv
      by_cases hop0 : op = 0
      · have hno := Lib.hid (show mayB ⟨op, a, b, c, m⟩ = false from by unfold mayB; rw [decide_eq_false (show ¬ 1 ≤ op by omega)]; simp)
        have hb : (op == 0) = true := by simpa using hop0
        replace hop0 := Lib.hid hop0
        go_wp2_with fail
        refine region_cls S2 (by kernel_rfl) (by kernel_rfl) (HS2.out _ _ KE.out (Below.refl _ _).drew) ?_
        repeat (first
          | go_big_quiet_skip
          | (go_big_quiet_want
             go_big_quiet_op
             first
             | go_big_quiet_on
             | (apply Exists.intro
                refine ⟨fun y => ?_, ?_⟩
                · first | exact rfl
                go_big_quiet_on)))
        refine wpQuiet_nil ?_
        intro y
        have hk := Lib.hid (HK2.out _ y.h).bl
        go_wp2
        rw [hD.out]
        exact EncPost.no hno.out rfl hk.out
      · have hb : (op == 0) = false := by simpa using hop0
        have htq := htest.out hop0
        replace hop0 := Lib.hid hop0
        cases q
        all_goals
          replace htq := Lib.hid htq
          go_wp2_with fail
          refine region_cls S2 (by kernel_rfl) (by kernel_rfl) (HS2.out _ _ KE.out (Below.refl _ _).drew) ?_
          repeat (first
            | go_big_quiet_skip
            | (go_big_quiet_want
               go_big_quiet_op
               first
               | go_big_quiet_on
               | (apply Exists.intro
                  refine ⟨fun y => ?_, ?_⟩
                  · first | exact rfl | with_reducible exact cD.out y
                  go_big_quiet_on)))
          refine wpQuiet_nil ?_
          intro y
          have hk := Lib.hid (HK2.out _ y.h).bl
          go_wp2
          rw [hD.out]
          first
          | exact EncPost.no htq.out.symm rfl hk.out
          | exact EncPost.yes htq.out.symm (henc.out htq.out.symm) rfl hk.out
end Go.Proofs.YtkmgdfcambdeeaaGreatDoor
