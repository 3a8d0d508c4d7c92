/- The document's side of layer quarantine: rows of regions: with, Same. No statement is proved here. -/
import Derived.Test.YtmfipabbdhfmcaaQuK
import Derived.Deep.LoopGhost
import Derived.Deep.DeepCutAuto
namespace Go.Proofs.Ytmfipabbdhfmcaa.Qu
set_option maxRecDepth 100000
open Go.RowKit Go.Shelf
set_option linter.unusedVariables false
section
variable {w w' : World} {base : Nat} {L R M : List Rg} {v lv rv : Value} {r : Rg}
/-- A row of regions, to be read. -/
def GR (w : World) (L : List Rg) (v : Value) : Prop := ∃ A cap, v = .slice A L.length cap ∧ ∀ j (hj : j < L.length), ∃ g, A = some ⟨g, 0, none⟩ ∧ g < w.heap.size ∧ w.cell? ⟨g, j * 2, none⟩ = some (.int .u32 (L[j].1 : Int)) ∧ w.cell? ⟨g, j * 2 + 1, none⟩ = some (.int .u32 (L[j].2 : Int))
theorem gr_of (h : w.ownsRow base 33 2 v L.length (L.flatMap rgC)) : GR w L v := by
  obtain ⟨A, cap, rfl⟩ := own_slice h
  exact ⟨A, cap, rfl, fun j hj => by obtain ⟨g, e, h1, _, h2, h3⟩ := own_at h j hj; exact ⟨g, e, h1, h2, h3⟩⟩
/-- One region more behind a row of one's own. -/
theorem append_one {ops : Array Oper} {rest : List Oper} {o : Oper} {a : Act} {Q : Exit → Act → World → Prop} (hgd : o.guard = none) (s x : Operand)
    (ho : o.op = .call { callee := .builtin .append, args := #[s, x], argTypes := #[25, 25] }) {q : Nat}
    (hs : a.eval s = v) (hown : w.ownsRow base 33 2 v M.length (M.flatMap rgC)) (hx : a.eval x = .slice (some ⟨q, 0, none⟩) 1 1)
    (c0 : w.cell? ⟨q, 0, none⟩ = some (.int .u32 (r.1 : Int))) (c1 : w.cell? ⟨q, 1, none⟩ = some (.int .u32 (r.2 : Int))) (hl : M.length ≤ 20000) (hb : base ≤ w.heap.size)
    (h : ∀ A' cap' w', w'.ownsRow base 33 2 (.slice A' (M ++ [r]).length cap') (M ++ [r]).length ((M ++ [r]).flatMap rgC) → Below base w w' → wpList Try.prog ops Q rest (a.put o.dst (.slice A' (M ++ [r]).length cap')) w') :
    wpList Try.prog ops Q (o :: rest) a w := by
  obtain ⟨i0, hi, hz0, hz1, hz2⟩ := info_parts infoRg
  refine wpList_append_own _ hgd s x 25 ho base 33 i0 (.agg #[.int .u32 0, .int .u32 0]) 2 8 Try.underlying25 hi hz0 hz1 hz2 rfl (by decide) v M.length (M.flatMap rgC) hs hown ⟨q, 0, none⟩ 1 1 (rgC r) hx rfl ?_ ?_ (by unfold maxLen; omega) (by omega) hb ?_
  · intro j u hu
    match j, hu with
    | 0, hu => simp [rgC] at hu; subst hu; simpa [Addr.add] using c0
    | 1, hu => simp [rgC] at hu; subst hu; simpa [Addr.add] using c1
  · intro u hu
    exact rgC_one [r] u (by simpa using hu)
  · intro v' w' k1 k2 _
    have e1 : (M ++ [r]).length = M.length + 1 := by simp
    have e2 : (M ++ [r]).flatMap rgC = M.flatMap rgC ++ rgC r := by simp
    obtain ⟨A', cap', rfl⟩ := own_slice k1
    have := h A' cap' w' (by rw [e1, e2]; exact k1) ((Below.refl base w).grown k2 hb (fun k hk => own_base hown k hk))
    rw [e1] at this
    exact this
theorem ins_more (r : Rg) : ∀ (l : List Rg) (x : Rg), (∃ q ∈ l, r.1 < q.1) → insR r (l ++ [x]) = insR r l ++ [x]
  | [], x, h => by obtain ⟨q, hq, _⟩ := h; cases hq
  | p :: l, x, h => by
    show (if r.1 < p.1 then r :: p :: (l ++ [x]) else p :: insR r (l ++ [x])) = (if r.1 < p.1 then r :: p :: l else p :: insR r l) ++ [x]
    by_cases h1 : r.1 < p.1
    · rw [if_pos h1, if_pos h1]; rfl
    · rw [if_neg h1, if_neg h1, ins_more r l x (by
        obtain ⟨q, hq, hlt⟩ := h
        rcases List.mem_cons.1 hq with rfl | hq
        · exact absurd hlt h1
        · exact ⟨q, hq, hlt⟩)]
      rfl
theorem ins_here (r : Rg) : ∀ (l : List Rg) (x : Rg), (∀ q ∈ l, ¬ r.1 < q.1) → r.1 < x.1 → insR r (l ++ [x]) = l ++ [r] ++ [x]
  | [], x, _, hx => by show (if r.1 < x.1 then r :: x :: [] else x :: insR r []) = _; rw [if_pos hx]; rfl
  | p :: l, x, h, hx => by
    show (if r.1 < p.1 then r :: p :: (l ++ [x]) else p :: insR r (l ++ [x])) = _
    rw [if_neg (h p (List.mem_cons_self ..)), ins_here r l x (fun q hq => h q (List.mem_cons_of_mem _ hq)) hx]
    rfl
theorem ins_end (r : Rg) : ∀ (l : List Rg), (∀ q ∈ l, ¬ r.1 < q.1) → insR r l = l ++ [r]
  | [], _ => rfl
  | p :: l, h => by
    show (if r.1 < p.1 then r :: p :: l else p :: insR r l) = _
    rw [if_neg (h p (List.mem_cons_self ..)), ins_end r l (fun q hq => h q (List.mem_cons_of_mem _ hq))]
    rfl
set_option maxHeartbeats 32000000 in
theorem rwith (HL : GR w L lv) (r : Rg) (lL : L.length ≤ 16384) : Calls Try.prog 37 #[lv, rgV r] w (RowPost (insR r L) w) := by
  obtain ⟨Al, capl, rfl, hl⟩ := HL
  obtain ⟨r1, r2⟩ := r
  obtain ⟨w1, hw1⟩ : ∃ w1, w1 = w.alloc (.cells #[.int .u32 (r1 : Int), .int .u32 (r2 : Int)] 33) := ⟨_, rfl⟩
  have b1 : Below w.heap.size w w1 := by rw [hw1]; exact (Below.refl _ _).alloc (Nat.le_refl _) _
  have X1 := Lib.hid (show Bx w.heap.size (.int .u32 (r1 : Int)) (.int .u32 (r2 : Int)) w1 by rw [hw1]; exact Bx.new _ _ _ _)
  have hb1 := Lib.hid b1
  have hw' := Lib.hid hw1
  obtain ⟨m, hm⟩ : ∃ m, m = L.length := ⟨_, rfl⟩
  rw [← hm] at lL
  have hm' := Lib.hid hm
  have hl' := Lib.hid hl
  obtain ⟨F, hF⟩ : ∃ F, F = RowPost (insR (r1, r2) L) w := ⟨_, rfl⟩
  rw [← hF]
  have hF' := Lib.hid hF
  unfold rgV
  dsimp only
  rw [← hm]
  clear b1 hw1 hm hl hF
  go_enter Try.func37, Try.ntmps37
  go_upto_region 4 with (fail)
  rw [← hw'.out]
  clear hw'
  go_wp2_with fail
  go_loopw [5, 6, 7] (fun ov pv iv wr => ∃ (i : Nat) (p : Bool) (M : List Rg) (A : Option Addr) (cap : Nat), i ≤ m ∧ ov = .slice A M.length cap ∧ pv = .bool p ∧ iv = .int .i64 i ∧ Hid (M = (if p then insR (r1, r2) (L.take i) else L.take i) ∧ (p = true ↔ ∃ q ∈ L.take i, r1 < q.1) ∧ Below w1.heap.size w1 wr ∧ wr.ownsRow w1.heap.size 33 2 (.slice A M.length cap) M.length (M.flatMap rgC))) (fun _ _ iv _ => m - (intOf iv).toNat)
  case atStart => exact ⟨0, false, [], none, 0, by omega, rfl, rfl, rfl, Lib.hid ⟨by simp, by simp, Below.refl _ _, World.ownsRow_nil _ _ _ _⟩⟩
  case round =>
    obtain ⟨i, p, M, A, cap, hi, rfl, rfl, rfl, hB⟩ := hrel
    have hMl : M.length ≤ 16385 := by
      rw [hB.out.1]
      split
      · rw [insR_len, List.length_take]; omega
      · rw [List.length_take]; omega
    by_cases hil : i < m
    · have hil2 : (i : Int) < m := by omega
      have hiX : i < L.length := by rw [← hm'.out]; exact hil
      obtain ⟨g, rfl, hg, k0, k1⟩ := hl'.out i hiX
      have hbb := Lib.hid (hb1.out.trans (hB.out.2.2.1.mono hb1.out.size))
      have X2 := Lib.hid (X1.out.grow hB.out.2.2.1)
      have q0 := (hbb.out.cell (p := ⟨g, i * 2, none⟩) hg).trans k0
      have q1 := (hbb.out.cell (p := ⟨g, i * 2 + 1, none⟩) hg).trans k1
      have htk := Lib.hid (List.take_succ_eq_append_getElem hiX)
      obtain ⟨c, hc⟩ : ∃ c, c = L[i] := ⟨_, rfl⟩
      rw [← hc] at q0 q1 htk k0 k1
      obtain ⟨c1, c2⟩ := c
      dsimp only at q0 q1 k0 k1
      obtain ⟨S, hS0⟩ : ∃ S, S = fun w' => Below wr.heap.size wr w' := ⟨_, rfl⟩
      have hKS : ∀ w', S w' → Below wr.heap.size wr w' := fun w' h => by rw [hS0] at h; exact h
      have h4 : S wr.drew := by rw [hS0]; exact (Below.refl _ _).drew
      have a0 : ∀ y : Wd S, y.w.cell? ⟨g, i * 2, none⟩ = some (.int .u32 (c1 : Int)) := fun y => ((hKS _ y.h).cell (p := ⟨g, i * 2, none⟩) (lt_of_cell' q0)).trans q0
      have a2 : ∀ y : Wd S, y.w.cell? ⟨w.heap.size, 0, none⟩ = some (.int .u32 (r1 : Int)) := fun y => (X2.out.grow (hKS _ y.h)).c0
      have hKK := Lib.hid hKS
      have hq := Lib.hid (And.intro q0 q1)
      have i0 : (0 : Int) ≤ i := by omega
      have hgw := Lib.hid hg
      have hgc := Lib.hid (And.intro k0 k1)
      clear hS0 hKS k0 k1 hg hc q0 q1
      cases p
      · have hU := Lib.hid (show M = L.take i by rw [hB.out.1]; rfl)
        have hV := Lib.hid (show ¬ ∃ q ∈ L.take i, r1 < q.1 from fun h => Bool.noConfusion (hB.out.2.1.2 h))
        by_cases hv : r1 < c1
        · have hv2 : (r1 : Int) < c1 := by omega
          go_wp2_with fail
          refine region_cls S (by kernel_rfl) (by kernel_rfl) h4 ?_
          repeat (first
            | go_big_quiet_skip
            | (go_big_quiet_want
               go_big_quiet_op
               first
               | go_big_quiet_on
               | (apply Exists.intro
                  refine ⟨fun y => ?_, ?_⟩
                  · first | exact rfl
                  go_big_quiet_on)))
          refine wpQuiet_nil ?_
          intro y
          have hE := Lib.hid (hKK.out _ y.h)
          obtain ⟨w6, hw6⟩ : ∃ w6, w6 = y.w := ⟨_, rfl⟩
          rw [← hw6] at hE ⊢
          clear hw6 a0 a2 h4 hKK
          clear y S
          have hO := Lib.hid (own_grow hB.out.2.2.2 hE.out)
          have hb6 := Lib.hid (hB.out.2.2.1.trans (hE.out.mono hB.out.2.2.1.size))
          have X6 := Lib.hid (X1.out.grow hb6.out)
          have q2 := X6.out.c0
          have q3 := X6.out.c1
          have al5 : Below w6.heap.size w6 (w6.alloc (.cells #[.int .u32 (r1 : Int), .int .u32 (r2 : Int)] 33)) := (Below.refl _ _).alloc (Nat.le_refl _) _
          have hP5 := Lib.hid (own_grow hO.out al5)
          have hc5 := Lib.hid (show (w6.alloc (.cells #[.int .u32 (r1 : Int), .int .u32 (r2 : Int)] 33)).cell? ⟨w6.heap.size, 0, none⟩ = some (.int .u32 (r1 : Int)) ∧ (w6.alloc (.cells #[.int .u32 (r1 : Int), .int .u32 (r2 : Int)] 33)).cell? ⟨w6.heap.size, 1, none⟩ = some (.int .u32 (r2 : Int)) from ⟨by simp, by simp⟩)
          have hd5 := Lib.hid (hb6.out.trans (al5.mono hb6.out.size))
          clear al5
          go_wp2_with (at_builtin; first | (refine append_one (M := M) (r := (r1, r2)) rfl _ _ rfl (q := w6.heap.size) rfl hP5.out rfl hc5.out.1 hc5.out.2 (by first | omega | (rw [hN5.out]; simp; omega)) hd5.out.size ?_; intro A5 cap5 w58 hQ5 hbQ5; obtain ⟨M5, hM5⟩ : ∃ M5, M5 = M ++ [(r1, r2)] := ⟨_, rfl⟩; rw [← hM5] at hQ5 ⊢; have hN5 := Lib.hid hM5; clear hM5; have hR5 := Lib.hid hQ5; have hS5 := Lib.hid (hd5.out.trans hbQ5); clear hQ5 hbQ5; have hE8 := Lib.hid (hb1.out.trans (hS5.out.mono hb1.out.size)); have q0 := (hE8.out.cell (p := ⟨g, i * 2, none⟩) hgw.out).trans hgc.out.1; have q1 := (hE8.out.cell (p := ⟨g, i * 2 + 1, none⟩) hgw.out).trans hgc.out.2; clear q2 q3; have al7 : Below w58.heap.size w58 (w58.alloc (.cells #[.int .u32 (c1 : Int), .int .u32 (c2 : Int)] 33)) := (Below.refl _ _).alloc (Nat.le_refl _) _; have hP7 := Lib.hid (own_grow hR5.out al7); have hc7 := Lib.hid (show (w58.alloc (.cells #[.int .u32 (c1 : Int), .int .u32 (c2 : Int)] 33)).cell? ⟨w58.heap.size, 0, none⟩ = some (.int .u32 (c1 : Int)) ∧ (w58.alloc (.cells #[.int .u32 (c1 : Int), .int .u32 (c2 : Int)] 33)).cell? ⟨w58.heap.size, 1, none⟩ = some (.int .u32 (c2 : Int)) from ⟨by simp, by simp⟩); have hd7 := Lib.hid (hS5.out.trans (al7.mono hS5.out.size)); clear al7) | (refine append_one (M := M5) (r := (c1, c2)) rfl _ _ rfl (q := w58.heap.size) rfl hP7.out rfl hc7.out.1 hc7.out.2 (by first | omega | (rw [hN5.out]; simp; omega)) hd7.out.size ?_; intro A7 cap7 w78 hQ7 hbQ7; obtain ⟨M7, hM7⟩ : ∃ M7, M7 = M5 ++ [(c1, c2)] := ⟨_, rfl⟩; rw [← hM7] at hQ7 ⊢; have hN7 := Lib.hid hM7; clear hM7; have hR7 := Lib.hid hQ7; have hS7 := Lib.hid (hd7.out.trans hbQ7); clear hQ7 hbQ7))
          have hMe := Lib.hid (show M7 = (if true then insR (r1, r2) (L.take (i + 1)) else L.take (i + 1)) by rw [if_pos rfl, htk.out, hN7.out, hN5.out, hU.out]; exact (ins_here (r1, r2) (L.take i) (c1, c2) (fun q hq hlt => hV.out ⟨q, hq, hlt⟩) hv).symm)
          have hpe := Lib.hid (show true = true ↔ ∃ q ∈ L.take (i + 1), r1 < q.1 by exact ⟨fun _ => ⟨(c1, c2), by rw [htk.out]; simp, hv⟩, fun _ => rfl⟩)
          go_wp2_with fail
          go_roundw
          case rel => exact ⟨i + 1, true, M7, A7, cap7, by omega, by simp, rfl, by go_num, Lib.hid ⟨hMe.out, hpe.out, hS7.out, hR7.out⟩⟩
          case measure => simp [intOf]; omega
        · have hv2 : ¬ (r1 : Int) < c1 := by omega
          go_wp2_with fail
          refine region_cls S (by kernel_rfl) (by kernel_rfl) h4 ?_
          repeat (first
            | go_big_quiet_skip
            | (go_big_quiet_want
               go_big_quiet_op
               first
               | go_big_quiet_on
               | (apply Exists.intro
                  refine ⟨fun y => ?_, ?_⟩
                  · first | exact rfl
                  go_big_quiet_on)))
          refine wpQuiet_nil ?_
          intro y
          have hE := Lib.hid (hKK.out _ y.h)
          obtain ⟨w6, hw6⟩ : ∃ w6, w6 = y.w := ⟨_, rfl⟩
          rw [← hw6] at hE ⊢
          clear hw6 a0 a2 h4 hKK
          clear y S
          have hO := Lib.hid (own_grow hB.out.2.2.2 hE.out)
          have hb6 := Lib.hid (hB.out.2.2.1.trans (hE.out.mono hB.out.2.2.1.size))
          have X6 := Lib.hid (X1.out.grow hb6.out)
          have q0 := (hE.out.cell (p := ⟨g, i * 2, none⟩) (lt_of_cell' hq.out.1)).trans hq.out.1
          have q1 := (hE.out.cell (p := ⟨g, i * 2 + 1, none⟩) (lt_of_cell' hq.out.2)).trans hq.out.2
          have al7 : Below w6.heap.size w6 (w6.alloc (.cells #[.int .u32 (c1 : Int), .int .u32 (c2 : Int)] 33)) := (Below.refl _ _).alloc (Nat.le_refl _) _
          have hP7 := Lib.hid (own_grow hO.out al7)
          have hc7 := Lib.hid (show (w6.alloc (.cells #[.int .u32 (c1 : Int), .int .u32 (c2 : Int)] 33)).cell? ⟨w6.heap.size, 0, none⟩ = some (.int .u32 (c1 : Int)) ∧ (w6.alloc (.cells #[.int .u32 (c1 : Int), .int .u32 (c2 : Int)] 33)).cell? ⟨w6.heap.size, 1, none⟩ = some (.int .u32 (c2 : Int)) from ⟨by simp, by simp⟩)
          have hd7 := Lib.hid (hb6.out.trans (al7.mono hb6.out.size))
          clear al7
          go_wp2_with (at_builtin; (refine append_one (M := M) (r := (c1, c2)) rfl _ _ rfl (q := w6.heap.size) rfl hP7.out rfl hc7.out.1 hc7.out.2 (by first | omega | (rw [hN5.out]; simp; omega)) hd7.out.size ?_; intro A7 cap7 w78 hQ7 hbQ7; obtain ⟨M7, hM7⟩ : ∃ M7, M7 = M ++ [(c1, c2)] := ⟨_, rfl⟩; rw [← hM7] at hQ7 ⊢; have hN7 := Lib.hid hM7; clear hM7; have hR7 := Lib.hid hQ7; have hS7 := Lib.hid (hd7.out.trans hbQ7); clear hQ7 hbQ7))
          have hMe := Lib.hid (show M7 = (if false then insR (r1, r2) (L.take (i + 1)) else L.take (i + 1)) by rw [if_neg (by simp), htk.out, hN7.out, hU.out])
          have hpe := Lib.hid (show false = true ↔ ∃ q ∈ L.take (i + 1), r1 < q.1 by refine ⟨fun h => Bool.noConfusion h, fun ⟨q, hq, hlt⟩ => ?_⟩; rw [htk.out] at hq; rcases List.mem_append.1 hq with h | h; exact absurd ⟨q, h, hlt⟩ hV.out; rw [List.mem_singleton] at h; subst h; exact absurd hlt hv)
          go_wp2_with fail
          go_roundw
          case rel => exact ⟨i + 1, false, M7, A7, cap7, by omega, by simp, rfl, by go_num, Lib.hid ⟨hMe.out, hpe.out, hS7.out, hR7.out⟩⟩
          case measure => simp [intOf]; omega
      · have hU := Lib.hid (show M = insR (r1, r2) (L.take i) by rw [hB.out.1]; rfl)
        have hV := Lib.hid (show ∃ q ∈ L.take i, r1 < q.1 from hB.out.2.1.1 rfl)
        go_wp2_with fail
        refine region_cls S (by kernel_rfl) (by kernel_rfl) h4 ?_
        repeat (first
          | go_big_quiet_skip
          | (go_big_quiet_want
             go_big_quiet_op
             first
             | go_big_quiet_on
             | (apply Exists.intro
                refine ⟨fun y => ?_, ?_⟩
                · first | exact rfl
                go_big_quiet_on)))
        refine wpQuiet_nil ?_
        intro y
        have hE := Lib.hid (hKK.out _ y.h)
        obtain ⟨w6, hw6⟩ : ∃ w6, w6 = y.w := ⟨_, rfl⟩
        rw [← hw6] at hE ⊢
        clear hw6 a0 a2 h4 hKK
        clear y S
        have hO := Lib.hid (own_grow hB.out.2.2.2 hE.out)
        have hb6 := Lib.hid (hB.out.2.2.1.trans (hE.out.mono hB.out.2.2.1.size))
        have X6 := Lib.hid (X1.out.grow hb6.out)
        have q0 := (hE.out.cell (p := ⟨g, i * 2, none⟩) (lt_of_cell' hq.out.1)).trans hq.out.1
        have q1 := (hE.out.cell (p := ⟨g, i * 2 + 1, none⟩) (lt_of_cell' hq.out.2)).trans hq.out.2
        have al7 : Below w6.heap.size w6 (w6.alloc (.cells #[.int .u32 (c1 : Int), .int .u32 (c2 : Int)] 33)) := (Below.refl _ _).alloc (Nat.le_refl _) _
        have hP7 := Lib.hid (own_grow hO.out al7)
        have hc7 := Lib.hid (show (w6.alloc (.cells #[.int .u32 (c1 : Int), .int .u32 (c2 : Int)] 33)).cell? ⟨w6.heap.size, 0, none⟩ = some (.int .u32 (c1 : Int)) ∧ (w6.alloc (.cells #[.int .u32 (c1 : Int), .int .u32 (c2 : Int)] 33)).cell? ⟨w6.heap.size, 1, none⟩ = some (.int .u32 (c2 : Int)) from ⟨by simp, by simp⟩)
        have hd7 := Lib.hid (hb6.out.trans (al7.mono hb6.out.size))
        clear al7
        go_wp2_with (at_builtin; (refine append_one (M := M) (r := (c1, c2)) rfl _ _ rfl (q := w6.heap.size) rfl hP7.out rfl hc7.out.1 hc7.out.2 (by first | omega | (rw [hN5.out]; simp; omega)) hd7.out.size ?_; intro A7 cap7 w78 hQ7 hbQ7; obtain ⟨M7, hM7⟩ : ∃ M7, M7 = M ++ [(c1, c2)] := ⟨_, rfl⟩; rw [← hM7] at hQ7 ⊢; have hN7 := Lib.hid hM7; clear hM7; have hR7 := Lib.hid hQ7; have hS7 := Lib.hid (hd7.out.trans hbQ7); clear hQ7 hbQ7))
        have hMe := Lib.hid (show M7 = (if true then insR (r1, r2) (L.take (i + 1)) else L.take (i + 1)) by rw [if_pos rfl, htk.out, hN7.out, hU.out]; exact (ins_more (r1, r2) (L.take i) (c1, c2) hV.out).symm)
        have hpe := Lib.hid (show true = true ↔ ∃ q ∈ L.take (i + 1), r1 < q.1 by refine ⟨fun _ => ?_, fun _ => rfl⟩; obtain ⟨q, hq, hlt⟩ := hV.out; exact ⟨q, by rw [htk.out]; exact List.mem_append_left _ hq, hlt⟩)
        go_wp2_with fail
        go_roundw
        case rel => exact ⟨i + 1, true, M7, A7, cap7, by omega, by simp, rfl, by go_num, Lib.hid ⟨hMe.out, hpe.out, hS7.out, hR7.out⟩⟩
        case measure => simp [intOf]; omega
    · obtain rfl : i = m := by omega
      have hil2 : ¬ (i : Int) < (i : Int) := by omega
      have hEE := Lib.hid (hb1.out.trans (hB.out.2.2.1.mono hb1.out.size))
      have hT : L.take i = L := by rw [hm'.out]; exact List.take_length
      rw [hT] at hB
      cases p
      · have X6 := Lib.hid (X1.out.grow hB.out.2.2.1)
        have q2 := X6.out.c0
        have q3 := X6.out.c1
        have hO := Lib.hid hB.out.2.2.2
        have hb6 := Lib.hid hB.out.2.2.1
        have al5 : Below wr.heap.size wr (wr.alloc (.cells #[.int .u32 (r1 : Int), .int .u32 (r2 : Int)] 33)) := (Below.refl _ _).alloc (Nat.le_refl _) _
        have hP5 := Lib.hid (own_grow hO.out al5)
        have hc5 := Lib.hid (show (wr.alloc (.cells #[.int .u32 (r1 : Int), .int .u32 (r2 : Int)] 33)).cell? ⟨wr.heap.size, 0, none⟩ = some (.int .u32 (r1 : Int)) ∧ (wr.alloc (.cells #[.int .u32 (r1 : Int), .int .u32 (r2 : Int)] 33)).cell? ⟨wr.heap.size, 1, none⟩ = some (.int .u32 (r2 : Int)) from ⟨by simp, by simp⟩)
        have hd5 := Lib.hid (hb6.out.trans (al5.mono hb6.out.size))
        clear al5
        go_wp2_with (at_builtin; (refine append_one (M := M) (r := (r1, r2)) rfl _ _ rfl (q := wr.heap.size) rfl hP5.out rfl hc5.out.1 hc5.out.2 (by first | omega | (rw [hN5.out]; simp; omega)) hd5.out.size ?_; intro A5 cap5 w58 hQ5 hbQ5; obtain ⟨M5, hM5⟩ : ∃ M5, M5 = M ++ [(r1, r2)] := ⟨_, rfl⟩; rw [← hM5] at hQ5 ⊢; have hN5 := Lib.hid hM5; clear hM5; have hR5 := Lib.hid hQ5; have hS5 := Lib.hid (hd5.out.trans hbQ5); clear hQ5 hbQ5))
        have hE8 := Lib.hid (hb1.out.trans (hS5.out.mono hb1.out.size))
        have hMe := Lib.hid (show M5 = insR (r1, r2) L by rw [hN5.out, hB.out.1]; exact (ins_end (r1, r2) L (fun q hq hlt => Bool.noConfusion (hB.out.2.1.2 ⟨q, hq, hlt⟩))).symm)
        go_wp2_with fail
        show F (.returned _) _
        rw [hF'.out]
        exact ⟨_, rfl, by rw [← hMe.out]; exact hR5.out.mono hb1.out.size, hE8.out, fun h => by have := insR_len (r1, r2) L; rw [h] at this; cases this⟩
      · have hG := Lib.hid (gr_of hB.out.2.2.2)
        have hMe := Lib.hid (show M = insR (r1, r2) L by rw [hB.out.1]; rfl)
        go_wp2_with fail
        show F (.returned _) _
        rw [hF'.out]
        exact ⟨_, rfl, by rw [← hMe.out]; exact hB.out.2.2.2.mono hb1.out.size, hEE.out, fun h => by have := insR_len (r1, r2) L; rw [h] at this; cases this⟩
set_option maxHeartbeats 8000000 in
theorem rSame (HL : GR w L lv) (HR : GR w R rv) (lL : L.length ≤ 16384) (lR : R.length ≤ 16384) : Calls Try.prog 15 #[lv, rv] w fun e w' => e = .returned (.bool (decide (L = R))) ∧ Below w.heap.size w w' := by
  obtain ⟨Al, capl, rfl, hl⟩ := HL
  obtain ⟨Ar, capr, rfl, hr⟩ := HR
  obtain ⟨V, hV⟩ : ∃ V, V = decide (L = R) := ⟨_, rfl⟩
  rw [← hV]
  by_cases hlen : L.length = R.length
  · obtain ⟨m, hm⟩ : ∃ m, m = L.length := ⟨_, rfl⟩
    have hm2 : R.length = m := by omega
    rw [← hm] at lL ⊢
    rw [hm2]
    have hm' := Lib.hid hm
    have hm2' := Lib.hid hm2
    have hl' := Lib.hid hl
    have hr' := Lib.hid hr
    have hV' := Lib.hid hV
    clear hl hr hV hm hm2 hlen lR
    go_enter Try.func15, Try.ntmps15
    go_wp2_with fail
    go_loopw [5] (fun iv wr => ∃ i : Nat, i ≤ m ∧ iv = .int .i64 i ∧ Hid (Below w.heap.size w wr ∧ ∀ j (h1 : j < L.length) (h2 : j < R.length), j < i → L[j] = R[j])) (fun iv _ => m - (intOf iv).toNat)
    case atStart => exact ⟨0, by omega, rfl, Lib.hid ⟨Below.refl _ _, fun _ _ _ h => absurd h (by omega)⟩⟩
    case round =>
      obtain ⟨i, hi, rfl, hB⟩ := hrel
      by_cases hil : i < m
      · have hil2 : (i : Int) < m := by omega
        have hiL : i < L.length := by rw [← hm'.out]; exact hil
        have hiR : i < R.length := by rw [hm2'.out]; exact hil
        obtain ⟨g, rfl, hg, k0, k1⟩ := hl'.out i hiL
        obtain ⟨g', rfl, hg', j0, j1⟩ := hr'.out i hiR
        have q0 := (hB.out.1.cell (p := ⟨g, i * 2, none⟩) hg).trans k0
        have q1 := (hB.out.1.cell (p := ⟨g, i * 2 + 1, none⟩) hg).trans k1
        have p0 := (hB.out.1.cell (p := ⟨g', i * 2, none⟩) hg').trans j0
        have p1 := (hB.out.1.cell (p := ⟨g', i * 2 + 1, none⟩) hg').trans j1
        have hEq := fun w => rg_eq L[i] R[i] (decide (L[i] = R[i])) rfl w
        obtain ⟨v, hv⟩ : ∃ v, v = decide (L[i] = R[i]) := ⟨_, rfl⟩
        rw [← hv] at hEq
        have hv' := Lib.hid hv
        obtain ⟨c, hc⟩ : ∃ c, c = L[i] := ⟨_, rfl⟩
        obtain ⟨d, hd⟩ : ∃ d, d = R[i] := ⟨_, rfl⟩
        rw [← hc] at q0 q1 hEq
        rw [← hd] at p0 p1 hEq
        obtain ⟨c1, c2⟩ := c
        obtain ⟨d1, d2⟩ := d
        dsimp only at q0 q1 p0 p1 hEq
        obtain ⟨S, hS0⟩ : ∃ S, S = fun w' => Below wr.heap.size wr w' := ⟨_, rfl⟩
        have hKS : ∀ w', S w' → Below wr.heap.size wr w' := fun w' h => by rw [hS0] at h; exact h
        have h4 : S wr.drew := by rw [hS0]; exact (Below.refl _ _).drew
        have a0 : ∀ y : Wd S, y.w.cell? ⟨g, i * 2, none⟩ = some (.int .u32 (c1 : Int)) := fun y => ((hKS _ y.h).cell (p := ⟨g, i * 2, none⟩) (lt_of_cell' q0)).trans q0
        have a1 : ∀ y : Wd S, y.w.cell? ⟨g, i * 2 + 1, none⟩ = some (.int .u32 (c2 : Int)) := fun y => ((hKS _ y.h).cell (p := ⟨g, i * 2 + 1, none⟩) (lt_of_cell' q1)).trans q1
        have a2 : ∀ y : Wd S, y.w.cell? ⟨g', i * 2, none⟩ = some (.int .u32 (d1 : Int)) := fun y => ((hKS _ y.h).cell (p := ⟨g', i * 2, none⟩) (lt_of_cell' p0)).trans p0
        have a3 : ∀ y : Wd S, y.w.cell? ⟨g', i * 2 + 1, none⟩ = some (.int .u32 (d2 : Int)) := fun y => ((hKS _ y.h).cell (p := ⟨g', i * 2 + 1, none⟩) (lt_of_cell' p1)).trans p1
        have hKK := Lib.hid hKS
        have i0 : (0 : Int) ≤ i := by omega
        clear hS0 hKS k0 k1 j0 j1 hg hg' hv hc hd q0 q1 p0 p1
        cases v
        all_goals
          go_wp2_with fail
          refine region_cls S (by kernel_rfl) (by kernel_rfl) h4 ?_
          repeat (first
            | go_big_quiet_skip
            | (go_big_quiet_want
               go_big_quiet_op
               first
               | go_big_quiet_on
               | (apply Exists.intro
                  refine ⟨fun y => ?_, ?_⟩
                  · first | exact rfl
                  go_big_quiet_on)))
          refine wpQuiet_nil ?_
          intro y
          have hE := Lib.hid (hKK.out _ y.h)
        · have hVf := Lib.hid (show V = false by
            rw [hV'.out]
            refine decide_eq_false fun e => ?_
            subst e
            exact absurd rfl (of_decide_eq_false hv'.out.symm))
          go_wp2_with fail
          go_ret
          exact ⟨by rw [hVf.out]; rfl, hB.out.1.trans (hE.out.mono hB.out.1.size)⟩
        · go_wp2_with fail
          go_roundw
          case rel => exact ⟨i + 1, by omega, by go_num, Lib.hid ⟨hB.out.1.trans (hE.out.mono hB.out.1.size), fun j h1 h2 h => by
            rcases Nat.lt_or_ge j i with h3 | h3
            · exact hB.out.2 j h1 h2 h3
            · obtain rfl : j = i := by omega
              exact of_decide_eq_true hv'.out.symm⟩⟩
          case measure => simp [intOf]; omega
      · obtain rfl : i = m := by omega
        have hil2 : ¬ (i : Int) < (i : Int) := by omega
        have hVt := Lib.hid (show V = true by
          rw [hV'.out]
          exact decide_eq_true (List.ext_getElem (by rw [hm2'.out, hm'.out]) fun j h1 h2 => hB.out.2 j h1 h2 (by rw [hm'.out]; exact h1)))
        go_wp2_with fail
        go_ret
        exact ⟨by rw [hVt.out]; rfl, hB.out.1⟩
  · have hVf : V = false := by rw [hV]; exact decide_eq_false fun e => hlen (by rw [e])
    rw [hVf]
    obtain ⟨x, hx⟩ : ∃ x, x = L.length := ⟨_, rfl⟩
    obtain ⟨y, hy⟩ : ∃ y, y = R.length := ⟨_, rfl⟩
    rw [← hx, ← hy] at hlen ⊢
    have hne : ((x : Int) != y) = true := by simp; omega
    have hne2 : ¬ (x : Int) = y := by omega
    clear hV hVf hl hr hx hy
    go_enter Try.func15, Try.ntmps15
    go_wp2_with fail
    go_ret
    exact ⟨rfl, Below.refl _ _⟩
end
end Go.Proofs.Ytmfipabbdhfmcaa.Qu
