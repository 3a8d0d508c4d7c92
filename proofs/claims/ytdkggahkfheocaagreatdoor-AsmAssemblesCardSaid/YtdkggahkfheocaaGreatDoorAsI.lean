/- Contracts of layer asm, the program's side: an instruction is read. No statement is proved here. -/
import Derived.Test.YtdkggahkfheocaaGreatDoorAsR
import Derived.Test.YtdkggahkfheocaaGreatDoorIsE
import Derived.LaidEqlPtr
namespace Go.Proofs.YtdkggahkfheocaaGreatDoor
set_option maxRecDepth 100000
open Go.RowKit Go.Lib
set_option linter.unusedVariables false

def ri (i : Ins) : List Value := [.int .i64 i.op, .int .i64 i.a, .int .i64 i.b, .int .i64 i.c, .int .i64 i.m]
def InsPost (W0 : World) (g : Nat) (R : Option (Ins × List UInt8 × List (List UInt8))) (n : Nat) (e : Ending) (w' : World) : Prop :=
  e = .returned (.tuple #[.int .u32 (insV R).1, .string ⟨(insV R).2.1.toArray⟩, .bool (insV R).2.2]) ∧
    ∃ l' : List UInt8, l'.length ≤ n ∧ KR W0 [⟨g, [.string ⟨l'.toArray⟩]⟩] w' ∧ ∀ i lab r, R = some (i, lab, r) → wordsL l' = r
theorem rest_len (l : List UInt8) : (rest l).length ≤ l.length := by
  have h1 : (trimLeftB l 32).length ≤ l.length := by unfold trimLeftB; exact (List.dropWhile_sublist _).length_le
  have h2 : ((trimLeftB l 32).dropWhile (· != 32)).length ≤ (trimLeftB l 32).length := (List.dropWhile_sublist _).length_le
  unfold rest
  rw [List.length_drop]
  omega
theorem tok_len (l : List UInt8) : (tok l).length ≤ l.length := by
  have h1 : (trimLeftB l 32).length ≤ l.length := by unfold trimLeftB; exact (List.dropWhile_sublist _).length_le
  have h2 : ((trimLeftB l 32).takeWhile (· != 32)).length ≤ (trimLeftB l 32).length := (List.takeWhile_sublist _).length_le
  unfold tok
  omega
theorem InsPost.none {W0 : World} {g : Nat} {R : Option (Ins × List UInt8 × List (List UInt8))} {n : Nat} {e : Ending} {w' : World} (hR : R = Option.none) (he : e = .returned (.tuple #[.int .u32 0, .string ⟨#[]⟩, .bool false])) (l' : List UInt8) (hl : l'.length ≤ n) (k : KR W0 [⟨g, [.string ⟨l'.toArray⟩]⟩] w') : InsPost W0 g R n e w' := by
  subst hR
  exact ⟨he, l', hl, k, fun i lab r h => by cases h⟩
theorem InsPost.some {W0 : World} {g : Nat} {R : Option (Ins × List UInt8 × List (List UInt8))} {n : Nat} {e : Ending} {w' : World} {i : Ins} {lab l' : List UInt8} (hR : R = Option.some (i, lab, wordsL l')) (he : e = .returned (.tuple #[.int .u32 (if mayB i then encW i else 0), .string ⟨lab.toArray⟩, .bool (mayB i)])) (hl : l'.length ≤ n) (k : KR W0 [⟨g, [.string ⟨l'.toArray⟩]⟩] w') : InsPost W0 g R n e w' := by
  subst hR
  exact ⟨he, l', hl, k, fun i' lab' r h => by cases h; rfl⟩
theorem next_fn (g : Nat) : ∀ w, (callFunc 108 #[.pointer (some ⟨g, 0, none⟩)]).run Tryz.prog w = .ok (.enter 108 #[.pointer (some ⟨g, 0, none⟩)]) w := fun w => by kernel_rfl

theorem eq_field (g i j : Nat) (b : Bool) (h : decide (i = j) = b) : ∀ w, (binOp .eql 59 (.pointer (some ⟨g, i, none⟩)) (.pointer (some ⟨g, j, none⟩))).run Tryz.prog w = .ok (.bool b) w := fun w => by
  have hp : Tryz.prog.underlying 59 = some (.pointer 3) := by kernel_rfl
  obtain ⟨q, hq, hz⟩ : ∃ q, Tryz.prog.info? 3 = some q ∧ q.size = 1 := by
    have : (Tryz.prog.info? 3).map (·.size) = some 1 := by kernel_rfl
    obtain ⟨q, hq, hz⟩ := Option.map_eq_some_iff.1 this
    exact ⟨q, hq, hz⟩
  have hd : ∀ d : Nat, (Op.equalIn (d + 1) 59 (.pointer (some ⟨g, i, none⟩)) (.pointer (some ⟨g, j, none⟩))).run Tryz.prog w = .ok b w := fun d => by
    subst h
    simp [Op.equalIn, run_underlying hp, sizeOf, typeInfo, hq, hz, sameAddr]
    by_cases e : i = j <;> simp [e]
  simp only [binOp]
  simp [Op.equal, Op.maxDepth, hd 9999]
set_option maxHeartbeats 8000000 in
theorem instr_any (op : Int) (W0 W : World) (g : Nat) (l0 : List UInt8) (hT : T8 W0) (hg : W0.heap.size ≤ g) (hl0 : l0.length ≤ 140737488355328) (k0 : KR W0 [⟨g, [.string ⟨l0.toArray⟩]⟩] W) :
    Calls Tryz.prog 76 #[.int .i64 op, .func (.func 108) #[] #[.pointer (some ⟨g, 0, none⟩)]] W (InsPost W0 g (argsP op (formAt op) ⟨op, 0, 0, 0, 0⟩ [] (wordsL l0)) l0.length) := by
  obtain ⟨R, hR⟩ : ∃ R, R = argsP op (formAt op) ⟨op, 0, 0, 0, 0⟩ [] (wordsL l0) := ⟨_, rfl⟩
  rw [← hR]
  obtain ⟨D, hD⟩ : ∃ D, D = InsPost W0 g R l0.length := ⟨_, rfl⟩
  rw [← hD]
  replace hD := Lib.hid hD
  have hgl := k0.lt (List.mem_cons_self ..)
  have k1 : KR W0 [⟨W.heap.size, ri ⟨op, 0, 0, 0, 0⟩⟩, ⟨g, [.string ⟨l0.toArray⟩]⟩] (W.alloc (.cells #[.int .i64 op, .int .i64 0, .int .i64 0, .int .i64 0, .int .i64 0] 49)) := k0.push (ri ⟨op, 0, 0, 0, 0⟩) 49
  have hbl := k0.bl.size
  obtain ⟨w1, hw1⟩ : ∃ w1, w1 = W.alloc (.cells #[.int .i64 op, .int .i64 0, .int .i64 0, .int .i64 0, .int .i64 0] 49) := ⟨_, rfl⟩
  rw [← hw1] at k1
  have hF := Form_any op w1 (hT.below k1.bl).tabs
  have hfl := form_letters op
  obtain ⟨f, hf⟩ : ∃ f, f = formAt op := ⟨_, rfl⟩
  rw [← hf] at hfl hF hR
  have hND := Lib.hid (show (∀ x, x ∈ ([⟨W.heap.size, ri ⟨op, 0, 0, 0, 0⟩⟩] : List Rw) → x.g ≠ g) from fun x hx => by simp at hx; subst hx; simp; omega)
  replace hF := Lib.hid hF
  replace hf := Lib.hid hf
  replace hfl := Lib.hid hfl
  replace hw1 := Lib.hid hw1
  replace hR := Lib.hid hR
  replace hT := Lib.hid hT
  replace k1 := Lib.hid k1
  replace hl0 := Lib.hid hl0
  replace hg := Lib.hid hg
  replace hgl := Lib.hid hgl
  replace hbl := Lib.hid hbl
  have hnf := next_fn g
  clear k0
  go_enter Tryz.func76, Tryz.ntmps76
  go_wp2_with fail
  rw [← hw1.out]
  refine hF.out.mono ?_
  rintro e w' ⟨rfl, rfl⟩
  clear hF hw1
  generalize W.heap.size = gi at *
  have H0 := LP.start k1.out ⟨f.toArray⟩
  go_wp2_with fail
  obtain ⟨it, hit⟩ : ∃ it, it = w1.heap.size := ⟨_, rfl⟩
  obtain ⟨w4, hw4⟩ : ∃ w4, w4 = w1.iter ⟨f.toArray⟩ 0 := ⟨_, rfl⟩
  rw [← hit, ← hw4] at H0
  rw [← hit, ← hw4]
  clear hw4 hit
  have HD := Lib.hid (show (∀ y : List Value, ∀ x, x ∈ ([⟨gi, y⟩] : List Rw) → x.g ≠ g) ∧ W0.heap.size ≤ gi ∧ (∀ y : List Value, ∀ x, x ∈ ([⟨g, y⟩] : List Rw) → x.g ≠ gi) from by
    have := hgl.out; have := hbl.out; have := hg.out
    refine ⟨?_, by omega, ?_⟩
    · intro y x hx; simp at hx; subst hx; simp; omega
    · intro y x hx; simp at hx; subst hx; simp; omega)
  replace H0 := Lib.hid H0
  clear hND k1 hgl hbl
  go_loopw [5] (fun lb wr => ∃ (p : Nat) (i : Ins) (lab l : List UInt8), p ≤ f.length ∧ lb = .string ⟨lab.toArray⟩ ∧ Hid (R = argsP op (f.drop p) i lab (wordsL l)) ∧ Hid (l.length ≤ l0.length) ∧ Hid (i.op = op) ∧ Hid (LP W0 [⟨gi, ri i⟩, ⟨g, [.string ⟨l.toArray⟩]⟩] it ⟨f.toArray⟩ p wr)) (fun _ wr => f.length - wr.iterPos it)
  case atStart => exact ⟨0, ⟨op, 0, 0, 0, 0⟩, [], l0, Nat.zero_le _, rfl, hR, Lib.hid (Nat.le_refl _), Lib.hid rfl, H0⟩
  case round =>
    obtain ⟨p, i, lab, l, hp, rfl, hA, hl, hio, HL⟩ := hrel
    by_cases hlt : p < f.length
    · obtain ⟨ch, hch⟩ : ∃ ch, ch = f[p] := ⟨_, rfl⟩
      have hcs := hfl.out f[p] (List.getElem_mem hlt)
      rw [← hch] at hcs
      have hdr : f.drop p = ch :: f.drop (p + 1) := by rw [List.drop_eq_getElem_cons hlt, hch]
      have hA1 := hA.out
      rw [hdr] at hA1
      have htk : (tok l).length ≤ 140737488355328 := by have := tok_len l; have := hl.out; have := hl0.out; omega
      have hrl : (rest l).length ≤ l0.length := by have := rest_len l; have := hl.out; omega
      have hnt := fun w h1 h2 h3 => next_tok l g w h1 h2 h3 (by have := hl.out; have := hl0.out; omega)
      have hw1 : tok l = (wordsL l).headD [] := tok_head l
      have hw2 : wordsL (rest l) = (wordsL l).tail := words_rest l
      rcases hcs with hcl | hcl | hcl | hcl | hcl
      · subst hcl
        have hnx := next_at (P := Tryz.prog) 97 97 HL.out.i hlt hch rfl (by decide)
        obtain ⟨iop, ia, ib, ic, im⟩ := i
        have hno : ¬ (preB 97 = false ∧ jmpB op = true ∧ nameB ((wordsL l).headD []) = true) := fun h => absurd h.1 (by decide)
        have hAn := fun h => argsP_none (f := f.drop (p + 1)) (i := ⟨iop, ia, ib, ic, im⟩) (lab := lab) hno h
        have hAs := fun v h => argsP_some (f := f.drop (p + 1)) (i := ⟨iop, ia, ib, ic, im⟩) (lab := lab) (v := v) hno h
        rw [← hA1, show preB 97 = true from by decide, ← hw1] at hAn
        rw [← hA1, show preB 97 = true from by decide, ← hw1, ← hw2] at hAs
        have hN := fun w h => num_c (tok l) w h htk
        obtain ⟨o, ho⟩ : ∃ o, o = numP true (tok l) := ⟨_, rfl⟩
        rw [← ho] at hAn hAs hN
        replace hAn := Lib.hid hAn
        replace hAs := Lib.hid hAs
        replace hN := Lib.hid hN
        replace hw1 := Lib.hid hw1
        replace hw2 := Lib.hid hw2
        replace hdr := Lib.hid hdr
        replace hA1 := Lib.hid hA1
        replace htk := Lib.hid htk
        replace hrl := Lib.hid hrl
        have hpp := Lib.hid (And.intro hp hlt)
        have hnt' := Lib.hid hnt
        have hqe := eq_field gi 1 4 false (by decide)
        clear hch hno hp hlt hnt ho
        go_wp2_with fail
        refine (partOf8_a gi _).mono ?_
        rintro e w' ⟨rfl, rfl⟩
        have H2 := (HL.out.next (p + 1)).swap
        have hK := hnt'.out _ (H2.k.cell _ (List.mem_cons_self ..) rfl) (H2.k.soft (List.mem_cons_self ..) _) (H2.k.lt (List.mem_cons_self ..))
        replace H2 := Lib.hid H2
        replace hK := Lib.hid hK
        go_wp2_with fail
        refine hK.out.mono ?_
        rintro e w5 ⟨rfl, k5⟩
        have H3 := (H2.out.sto hg.out (HD.out.1 _) k5).swap
        have hN3 := Lib.hid (hN.out w5 (hT.out.below H3.k.bl))
        replace H3 := Lib.hid H3
        clear hK k5 H2
        cases o with
        | none =>
          go_wp2_with (refine hN3.out.mono ?_; rintro e w6 ⟨rfl, k6⟩; have H6 := H3.out.below k6; have s1 : w6.cell? ⟨gi, 1, none⟩ = some (.int .i64 ia) := H6.k.cell _ (List.mem_cons_self ..) rfl; have s2 : w6.frozen? ⟨gi, 1, none⟩ = false := H6.k.soft (List.mem_cons_self ..) _; have H7 := Lib.hid (H6.set HD.out.2.1 (HD.out.2.2 _) 1 (.int .i64 0) (by simp [ri])); clear H6 k6)
          rw [hD.out]
          exact InsPost.none (hAn.out (by first | rfl | trivial)) rfl _ hrl.out (H7.out.k.sub (fun x hx => List.mem_cons_of_mem _ hx))
        | some v =>
          go_wp2_with (refine hN3.out.mono ?_; rintro e w6 ⟨rfl, k6⟩; have H6 := H3.out.below k6; have s1 : w6.cell? ⟨gi, 1, none⟩ = some (.int .i64 ia) := H6.k.cell _ (List.mem_cons_self ..) rfl; have s2 : w6.frozen? ⟨gi, 1, none⟩ = false := H6.k.soft (List.mem_cons_self ..) _; have H7 := Lib.hid (H6.set HD.out.2.1 (HD.out.2.2 _) 1 (.int .i64 v) (by simp [ri])); clear H6 k6)
          refine ⟨⟨p + 1, setF ⟨iop, ia, ib, ic, im⟩ 97 v, lab, rest l, by have := hpp.out; omega, rfl, Lib.hid (hAs.out v rfl), hrl, hio, H7⟩, ?_⟩
          show f.length - (w6.setCell ⟨gi, 1, none⟩ (.int .i64 v)).iterPos it < _
          rw [H7.out.pos, HL.out.pos]
          have := hpp.out
          omega
      · subst hcl
        have hnx := next_at (P := Tryz.prog) 98 98 HL.out.i hlt hch rfl (by decide)
        obtain ⟨iop, ia, ib, ic, im⟩ := i
        have hno : ¬ (preB 98 = false ∧ jmpB op = true ∧ nameB ((wordsL l).headD []) = true) := fun h => absurd h.1 (by decide)
        have hAn := fun h => argsP_none (f := f.drop (p + 1)) (i := ⟨iop, ia, ib, ic, im⟩) (lab := lab) hno h
        have hAs := fun v h => argsP_some (f := f.drop (p + 1)) (i := ⟨iop, ia, ib, ic, im⟩) (lab := lab) (v := v) hno h
        rw [← hA1, show preB 98 = true from by decide, ← hw1] at hAn
        rw [← hA1, show preB 98 = true from by decide, ← hw1, ← hw2] at hAs
        have hN := fun w h => num_c (tok l) w h htk
        obtain ⟨o, ho⟩ : ∃ o, o = numP true (tok l) := ⟨_, rfl⟩
        rw [← ho] at hAn hAs hN
        replace hAn := Lib.hid hAn
        replace hAs := Lib.hid hAs
        replace hN := Lib.hid hN
        replace hw1 := Lib.hid hw1
        replace hw2 := Lib.hid hw2
        replace hdr := Lib.hid hdr
        replace hA1 := Lib.hid hA1
        replace htk := Lib.hid htk
        replace hrl := Lib.hid hrl
        have hpp := Lib.hid (And.intro hp hlt)
        have hnt' := Lib.hid hnt
        have hqe := eq_field gi 2 4 false (by decide)
        clear hch hno hp hlt hnt ho
        go_wp2_with fail
        refine (partOf8_b gi _).mono ?_
        rintro e w' ⟨rfl, rfl⟩
        have H2 := (HL.out.next (p + 1)).swap
        have hK := hnt'.out _ (H2.k.cell _ (List.mem_cons_self ..) rfl) (H2.k.soft (List.mem_cons_self ..) _) (H2.k.lt (List.mem_cons_self ..))
        replace H2 := Lib.hid H2
        replace hK := Lib.hid hK
        go_wp2_with fail
        refine hK.out.mono ?_
        rintro e w5 ⟨rfl, k5⟩
        have H3 := (H2.out.sto hg.out (HD.out.1 _) k5).swap
        have hN3 := Lib.hid (hN.out w5 (hT.out.below H3.k.bl))
        replace H3 := Lib.hid H3
        clear hK k5 H2
        cases o with
        | none =>
          go_wp2_with (refine hN3.out.mono ?_; rintro e w6 ⟨rfl, k6⟩; have H6 := H3.out.below k6; have s1 : w6.cell? ⟨gi, 2, none⟩ = some (.int .i64 ib) := H6.k.cell _ (List.mem_cons_self ..) rfl; have s2 : w6.frozen? ⟨gi, 2, none⟩ = false := H6.k.soft (List.mem_cons_self ..) _; have H7 := Lib.hid (H6.set HD.out.2.1 (HD.out.2.2 _) 2 (.int .i64 0) (by simp [ri])); clear H6 k6)
          rw [hD.out]
          exact InsPost.none (hAn.out (by first | rfl | trivial)) rfl _ hrl.out (H7.out.k.sub (fun x hx => List.mem_cons_of_mem _ hx))
        | some v =>
          go_wp2_with (refine hN3.out.mono ?_; rintro e w6 ⟨rfl, k6⟩; have H6 := H3.out.below k6; have s1 : w6.cell? ⟨gi, 2, none⟩ = some (.int .i64 ib) := H6.k.cell _ (List.mem_cons_self ..) rfl; have s2 : w6.frozen? ⟨gi, 2, none⟩ = false := H6.k.soft (List.mem_cons_self ..) _; have H7 := Lib.hid (H6.set HD.out.2.1 (HD.out.2.2 _) 2 (.int .i64 v) (by simp [ri])); clear H6 k6)
          refine ⟨⟨p + 1, setF ⟨iop, ia, ib, ic, im⟩ 98 v, lab, rest l, by have := hpp.out; omega, rfl, Lib.hid (hAs.out v rfl), hrl, hio, H7⟩, ?_⟩
          show f.length - (w6.setCell ⟨gi, 2, none⟩ (.int .i64 v)).iterPos it < _
          rw [H7.out.pos, HL.out.pos]
          have := hpp.out
          omega
      · subst hcl
        have hnx := next_at (P := Tryz.prog) 99 99 HL.out.i hlt hch rfl (by decide)
        obtain ⟨iop, ia, ib, ic, im⟩ := i
        have hno : ¬ (preB 99 = false ∧ jmpB op = true ∧ nameB ((wordsL l).headD []) = true) := fun h => absurd h.1 (by decide)
        have hAn := fun h => argsP_none (f := f.drop (p + 1)) (i := ⟨iop, ia, ib, ic, im⟩) (lab := lab) hno h
        have hAs := fun v h => argsP_some (f := f.drop (p + 1)) (i := ⟨iop, ia, ib, ic, im⟩) (lab := lab) (v := v) hno h
        rw [← hA1, show preB 99 = true from by decide, ← hw1] at hAn
        rw [← hA1, show preB 99 = true from by decide, ← hw1, ← hw2] at hAs
        have hN := fun w h => num_c (tok l) w h htk
        obtain ⟨o, ho⟩ : ∃ o, o = numP true (tok l) := ⟨_, rfl⟩
        rw [← ho] at hAn hAs hN
        replace hAn := Lib.hid hAn
        replace hAs := Lib.hid hAs
        replace hN := Lib.hid hN
        replace hw1 := Lib.hid hw1
        replace hw2 := Lib.hid hw2
        replace hdr := Lib.hid hdr
        replace hA1 := Lib.hid hA1
        replace htk := Lib.hid htk
        replace hrl := Lib.hid hrl
        have hpp := Lib.hid (And.intro hp hlt)
        have hnt' := Lib.hid hnt
        have hqe := eq_field gi 3 4 false (by decide)
        clear hch hno hp hlt hnt ho
        go_wp2_with fail
        refine (partOf8_c gi _).mono ?_
        rintro e w' ⟨rfl, rfl⟩
        have H2 := (HL.out.next (p + 1)).swap
        have hK := hnt'.out _ (H2.k.cell _ (List.mem_cons_self ..) rfl) (H2.k.soft (List.mem_cons_self ..) _) (H2.k.lt (List.mem_cons_self ..))
        replace H2 := Lib.hid H2
        replace hK := Lib.hid hK
        go_wp2_with fail
        refine hK.out.mono ?_
        rintro e w5 ⟨rfl, k5⟩
        have H3 := (H2.out.sto hg.out (HD.out.1 _) k5).swap
        have hN3 := Lib.hid (hN.out w5 (hT.out.below H3.k.bl))
        replace H3 := Lib.hid H3
        clear hK k5 H2
        cases o with
        | none =>
          go_wp2_with (refine hN3.out.mono ?_; rintro e w6 ⟨rfl, k6⟩; have H6 := H3.out.below k6; have s1 : w6.cell? ⟨gi, 3, none⟩ = some (.int .i64 ic) := H6.k.cell _ (List.mem_cons_self ..) rfl; have s2 : w6.frozen? ⟨gi, 3, none⟩ = false := H6.k.soft (List.mem_cons_self ..) _; have H7 := Lib.hid (H6.set HD.out.2.1 (HD.out.2.2 _) 3 (.int .i64 0) (by simp [ri])); clear H6 k6)
          rw [hD.out]
          exact InsPost.none (hAn.out (by first | rfl | trivial)) rfl _ hrl.out (H7.out.k.sub (fun x hx => List.mem_cons_of_mem _ hx))
        | some v =>
          go_wp2_with (refine hN3.out.mono ?_; rintro e w6 ⟨rfl, k6⟩; have H6 := H3.out.below k6; have s1 : w6.cell? ⟨gi, 3, none⟩ = some (.int .i64 ic) := H6.k.cell _ (List.mem_cons_self ..) rfl; have s2 : w6.frozen? ⟨gi, 3, none⟩ = false := H6.k.soft (List.mem_cons_self ..) _; have H7 := Lib.hid (H6.set HD.out.2.1 (HD.out.2.2 _) 3 (.int .i64 v) (by simp [ri])); clear H6 k6)
          refine ⟨⟨p + 1, setF ⟨iop, ia, ib, ic, im⟩ 99 v, lab, rest l, by have := hpp.out; omega, rfl, Lib.hid (hAs.out v rfl), hrl, hio, H7⟩, ?_⟩
          show f.length - (w6.setCell ⟨gi, 3, none⟩ (.int .i64 v)).iterPos it < _
          rw [H7.out.pos, HL.out.pos]
          have := hpp.out
          omega
      · subst hcl
        have hnx := next_at (P := Tryz.prog) 105 105 HL.out.i hlt hch rfl (by decide)
        obtain ⟨iop, ia, ib, ic, im⟩ := i
        have hpf : preB 105 = false := by decide
        have hAn := fun hno h => argsP_none (op := op) (x := 105) (f := f.drop (p + 1)) (i := ⟨iop, ia, ib, ic, im⟩) (lab := lab) (ts := wordsL l) hno h
        have hAs := fun v hno h => argsP_some (op := op) (x := 105) (f := f.drop (p + 1)) (i := ⟨iop, ia, ib, ic, im⟩) (lab := lab) (ts := wordsL l) (v := v) hno h
        have hAb := fun h => argsP_name (op := op) (x := 105) (f := f.drop (p + 1)) (i := ⟨iop, ia, ib, ic, im⟩) (lab := lab) (ts := wordsL l) h
        rw [← hA1, hpf, ← hw1] at hAn
        rw [← hA1, hpf, ← hw1, ← hw2] at hAs hAb
        have hJ := fun w => isJump_any op w
        have hI := fun w => isName_any ⟨(tok l).toArray⟩ w
        have hIe : nameB (⟨(tok l).toArray⟩ : ByteArray).data.toList = nameB (tok l) := rfl
        simp only at hI
        have hN := fun w h => num_plain (tok l) w h htk
        obtain ⟨o, ho⟩ : ∃ o, o = numP false (tok l) := ⟨_, rfl⟩
        rw [← ho] at hAn hAs hN
        generalize nameB (tok l) = nb at *
        generalize jmpB op = jb at *
        replace hAn := Lib.hid hAn
        replace hAs := Lib.hid hAs
        replace hAb := Lib.hid hAb
        replace hN := Lib.hid hN
        replace hJ := Lib.hid hJ
        replace hI := Lib.hid hI
        replace hw1 := Lib.hid hw1
        replace hw2 := Lib.hid hw2
        replace hdr := Lib.hid hdr
        replace hA1 := Lib.hid hA1
        replace htk := Lib.hid htk
        replace hrl := Lib.hid hrl
        have hpp := Lib.hid (And.intro hp hlt)
        have hnt' := Lib.hid hnt
        have hqe := eq_field gi 4 4 true (by decide)
        clear hch hp hlt hnt ho hpf hIe
        go_wp2_with fail
        refine (partOf8_m gi 105 (.inl rfl) _).mono ?_
        rintro e w' ⟨rfl, rfl⟩
        have H2 := (HL.out.next (p + 1)).swap
        have hK := hnt'.out _ (H2.k.cell _ (List.mem_cons_self ..) rfl) (H2.k.soft (List.mem_cons_self ..) _) (H2.k.lt (List.mem_cons_self ..))
        replace H2 := Lib.hid H2
        replace hK := Lib.hid hK
        go_wp2_with fail
        refine hK.out.mono ?_
        rintro e w5 ⟨rfl, k5⟩
        have H3 := (H2.out.sto hg.out (HD.out.1 _) k5).swap
        replace H3 := Lib.hid H3
        clear hK k5 H2
        go_wp2_with fail
        refine (hJ.out _).mono ?_
        rintro e w' ⟨rfl, rfl⟩
        cases jb with
        | false =>
          replace hAn := Lib.hid (hAn.out (by simp))
          replace hAs := Lib.hid (fun v => hAs.out v (by simp))
          have hN3 := Lib.hid (hN.out w5 (hT.out.below H3.out.k.bl))
          clear hAb
          cases o with
          | none =>
            go_wp2_with (refine hN3.out.mono ?_; rintro e w6 ⟨rfl, k6⟩; have H6 := H3.out.below k6; have s1 : w6.cell? ⟨gi, 4, none⟩ = some (.int .i64 im) := H6.k.cell _ (List.mem_cons_self ..) rfl; have s2 : w6.frozen? ⟨gi, 4, none⟩ = false := H6.k.soft (List.mem_cons_self ..) _; have H7 := Lib.hid (H6.set HD.out.2.1 (HD.out.2.2 _) 4 (.int .i64 0) (by simp [ri])); clear H6 k6)
            rw [hD.out]
            exact InsPost.none (hAn.out (by first | rfl | trivial)) rfl _ hrl.out (H7.out.k.sub (fun x hx => List.mem_cons_of_mem _ hx))
          | some v =>
            go_wp2_with (refine hN3.out.mono ?_; rintro e w6 ⟨rfl, k6⟩; have H6 := H3.out.below k6; have s1 : w6.cell? ⟨gi, 4, none⟩ = some (.int .i64 im) := H6.k.cell _ (List.mem_cons_self ..) rfl; have s2 : w6.frozen? ⟨gi, 4, none⟩ = false := H6.k.soft (List.mem_cons_self ..) _; have H7 := Lib.hid (H6.set HD.out.2.1 (HD.out.2.2 _) 4 (.int .i64 v) (by simp [ri])); clear H6 k6)
            refine ⟨⟨p + 1, setF ⟨iop, ia, ib, ic, im⟩ 105 v, lab, rest l, by have := hpp.out; omega, rfl, Lib.hid (hAs.out v rfl), hrl, hio, H7⟩, ?_⟩
            show f.length - (w6.setCell ⟨gi, 4, none⟩ (.int .i64 v)).iterPos it < _
            rw [H7.out.pos, HL.out.pos]
            have := hpp.out
            omega
        | true =>
          go_wp2_with fail
          refine (hI.out _).mono ?_
          rintro e w7 ⟨rfl, k7⟩
          have H4 := Lib.hid (H3.out.below k7)
          clear k7 H3
          cases nb with
          | true =>
            replace hAb := Lib.hid (hAb.out (by simp))
            go_wp2
            refine ⟨⟨p + 1, ⟨iop, ia, ib, ic, im⟩, tok l, rest l, by have := hpp.out; omega, rfl, hAb, hrl, hio, H4⟩, ?_⟩
            rw [H4.out.pos, HL.out.pos]
            have := hpp.out
            omega
          | false =>
            replace hAn := Lib.hid (hAn.out (by simp))
            replace hAs := Lib.hid (fun v => hAs.out v (by simp))
            have hN3 := Lib.hid (hN.out w7 (hT.out.below H4.out.k.bl))
            clear hAb
            cases o with
            | none =>
              go_wp2_with (refine hN3.out.mono ?_; rintro e w6 ⟨rfl, k6⟩; have H6 := H4.out.below k6; have s1 : w6.cell? ⟨gi, 4, none⟩ = some (.int .i64 im) := H6.k.cell _ (List.mem_cons_self ..) rfl; have s2 : w6.frozen? ⟨gi, 4, none⟩ = false := H6.k.soft (List.mem_cons_self ..) _; have H7 := Lib.hid (H6.set HD.out.2.1 (HD.out.2.2 _) 4 (.int .i64 0) (by simp [ri])); clear H6 k6)
              rw [hD.out]
              exact InsPost.none (hAn.out (by first | rfl | trivial)) rfl _ hrl.out (H7.out.k.sub (fun x hx => List.mem_cons_of_mem _ hx))
            | some v =>
              go_wp2_with (refine hN3.out.mono ?_; rintro e w6 ⟨rfl, k6⟩; have H6 := H4.out.below k6; have s1 : w6.cell? ⟨gi, 4, none⟩ = some (.int .i64 im) := H6.k.cell _ (List.mem_cons_self ..) rfl; have s2 : w6.frozen? ⟨gi, 4, none⟩ = false := H6.k.soft (List.mem_cons_self ..) _; have H7 := Lib.hid (H6.set HD.out.2.1 (HD.out.2.2 _) 4 (.int .i64 v) (by simp [ri])); clear H6 k6)
              refine ⟨⟨p + 1, setF ⟨iop, ia, ib, ic, im⟩ 105 v, lab, rest l, by have := hpp.out; omega, rfl, Lib.hid (hAs.out v rfl), hrl, hio, H7⟩, ?_⟩
              show f.length - (w6.setCell ⟨gi, 4, none⟩ (.int .i64 v)).iterPos it < _
              rw [H7.out.pos, HL.out.pos]
              have := hpp.out
              omega
      · subst hcl
        have hnx := next_at (P := Tryz.prog) 106 106 HL.out.i hlt hch rfl (by decide)
        obtain ⟨iop, ia, ib, ic, im⟩ := i
        have hpf : preB 106 = false := by decide
        have hAn := fun hno h => argsP_none (op := op) (x := 106) (f := f.drop (p + 1)) (i := ⟨iop, ia, ib, ic, im⟩) (lab := lab) (ts := wordsL l) hno h
        have hAs := fun v hno h => argsP_some (op := op) (x := 106) (f := f.drop (p + 1)) (i := ⟨iop, ia, ib, ic, im⟩) (lab := lab) (ts := wordsL l) (v := v) hno h
        have hAb := fun h => argsP_name (op := op) (x := 106) (f := f.drop (p + 1)) (i := ⟨iop, ia, ib, ic, im⟩) (lab := lab) (ts := wordsL l) h
        rw [← hA1, hpf, ← hw1] at hAn
        rw [← hA1, hpf, ← hw1, ← hw2] at hAs hAb
        have hJ := fun w => isJump_any op w
        have hI := fun w => isName_any ⟨(tok l).toArray⟩ w
        have hIe : nameB (⟨(tok l).toArray⟩ : ByteArray).data.toList = nameB (tok l) := rfl
        simp only at hI
        have hN := fun w h => num_plain (tok l) w h htk
        obtain ⟨o, ho⟩ : ∃ o, o = numP false (tok l) := ⟨_, rfl⟩
        rw [← ho] at hAn hAs hN
        generalize nameB (tok l) = nb at *
        generalize jmpB op = jb at *
        replace hAn := Lib.hid hAn
        replace hAs := Lib.hid hAs
        replace hAb := Lib.hid hAb
        replace hN := Lib.hid hN
        replace hJ := Lib.hid hJ
        replace hI := Lib.hid hI
        replace hw1 := Lib.hid hw1
        replace hw2 := Lib.hid hw2
        replace hdr := Lib.hid hdr
        replace hA1 := Lib.hid hA1
        replace htk := Lib.hid htk
        replace hrl := Lib.hid hrl
        have hpp := Lib.hid (And.intro hp hlt)
        have hnt' := Lib.hid hnt
        have hqe := eq_field gi 4 4 true (by decide)
        clear hch hp hlt hnt ho hpf hIe
        go_wp2_with fail
        refine (partOf8_m gi 106 (.inr rfl) _).mono ?_
        rintro e w' ⟨rfl, rfl⟩
        have H2 := (HL.out.next (p + 1)).swap
        have hK := hnt'.out _ (H2.k.cell _ (List.mem_cons_self ..) rfl) (H2.k.soft (List.mem_cons_self ..) _) (H2.k.lt (List.mem_cons_self ..))
        replace H2 := Lib.hid H2
        replace hK := Lib.hid hK
        go_wp2_with fail
        refine hK.out.mono ?_
        rintro e w5 ⟨rfl, k5⟩
        have H3 := (H2.out.sto hg.out (HD.out.1 _) k5).swap
        replace H3 := Lib.hid H3
        clear hK k5 H2
        go_wp2_with fail
        refine (hJ.out _).mono ?_
        rintro e w' ⟨rfl, rfl⟩
        cases jb with
        | false =>
          replace hAn := Lib.hid (hAn.out (by simp))
          replace hAs := Lib.hid (fun v => hAs.out v (by simp))
          have hN3 := Lib.hid (hN.out w5 (hT.out.below H3.out.k.bl))
          clear hAb
          cases o with
          | none =>
            go_wp2_with (refine hN3.out.mono ?_; rintro e w6 ⟨rfl, k6⟩; have H6 := H3.out.below k6; have s1 : w6.cell? ⟨gi, 4, none⟩ = some (.int .i64 im) := H6.k.cell _ (List.mem_cons_self ..) rfl; have s2 : w6.frozen? ⟨gi, 4, none⟩ = false := H6.k.soft (List.mem_cons_self ..) _; have H7 := Lib.hid (H6.set HD.out.2.1 (HD.out.2.2 _) 4 (.int .i64 0) (by simp [ri])); clear H6 k6)
            rw [hD.out]
            exact InsPost.none (hAn.out (by first | rfl | trivial)) rfl _ hrl.out (H7.out.k.sub (fun x hx => List.mem_cons_of_mem _ hx))
          | some v =>
            go_wp2_with (refine hN3.out.mono ?_; rintro e w6 ⟨rfl, k6⟩; have H6 := H3.out.below k6; have s1 : w6.cell? ⟨gi, 4, none⟩ = some (.int .i64 im) := H6.k.cell _ (List.mem_cons_self ..) rfl; have s2 : w6.frozen? ⟨gi, 4, none⟩ = false := H6.k.soft (List.mem_cons_self ..) _; have H7 := Lib.hid (H6.set HD.out.2.1 (HD.out.2.2 _) 4 (.int .i64 v) (by simp [ri])); clear H6 k6)
            refine ⟨⟨p + 1, setF ⟨iop, ia, ib, ic, im⟩ 106 v, lab, rest l, by have := hpp.out; omega, rfl, Lib.hid (hAs.out v rfl), hrl, hio, H7⟩, ?_⟩
            show f.length - (w6.setCell ⟨gi, 4, none⟩ (.int .i64 v)).iterPos it < _
            rw [H7.out.pos, HL.out.pos]
            have := hpp.out
            omega
        | true =>
          go_wp2_with fail
          refine (hI.out _).mono ?_
          rintro e w7 ⟨rfl, k7⟩
          have H4 := Lib.hid (H3.out.below k7)
          clear k7 H3
          cases nb with
          | true =>
            replace hAb := Lib.hid (hAb.out (by simp))
            go_wp2
            refine ⟨⟨p + 1, ⟨iop, ia, ib, ic, im⟩, tok l, rest l, by have := hpp.out; omega, rfl, hAb, hrl, hio, H4⟩, ?_⟩
            rw [H4.out.pos, HL.out.pos]
            have := hpp.out
            omega
          | false =>
            replace hAn := Lib.hid (hAn.out (by simp))
            replace hAs := Lib.hid (fun v => hAs.out v (by simp))
            have hN3 := Lib.hid (hN.out w7 (hT.out.below H4.out.k.bl))
            clear hAb
            cases o with
            | none =>
              go_wp2_with (refine hN3.out.mono ?_; rintro e w6 ⟨rfl, k6⟩; have H6 := H4.out.below k6; have s1 : w6.cell? ⟨gi, 4, none⟩ = some (.int .i64 im) := H6.k.cell _ (List.mem_cons_self ..) rfl; have s2 : w6.frozen? ⟨gi, 4, none⟩ = false := H6.k.soft (List.mem_cons_self ..) _; have H7 := Lib.hid (H6.set HD.out.2.1 (HD.out.2.2 _) 4 (.int .i64 0) (by simp [ri])); clear H6 k6)
              rw [hD.out]
              exact InsPost.none (hAn.out (by first | rfl | trivial)) rfl _ hrl.out (H7.out.k.sub (fun x hx => List.mem_cons_of_mem _ hx))
            | some v =>
              go_wp2_with (refine hN3.out.mono ?_; rintro e w6 ⟨rfl, k6⟩; have H6 := H4.out.below k6; have s1 : w6.cell? ⟨gi, 4, none⟩ = some (.int .i64 im) := H6.k.cell _ (List.mem_cons_self ..) rfl; have s2 : w6.frozen? ⟨gi, 4, none⟩ = false := H6.k.soft (List.mem_cons_self ..) _; have H7 := Lib.hid (H6.set HD.out.2.1 (HD.out.2.2 _) 4 (.int .i64 v) (by simp [ri])); clear H6 k6)
              refine ⟨⟨p + 1, setF ⟨iop, ia, ib, ic, im⟩ 106 v, lab, rest l, by have := hpp.out; omega, rfl, Lib.hid (hAs.out v rfl), hrl, hio, H7⟩, ?_⟩
              show f.length - (w6.setCell ⟨gi, 4, none⟩ (.int .i64 v)).iterPos it < _
              rw [H7.out.pos, HL.out.pos]
              have := hpp.out
              omega
    · have hpe : p = f.length := by omega
      have hA1 := hA.out
      rw [hpe, List.drop_length] at hA1
      have hRs : R = some (i, lab, wordsL l) := hA1
      have hnx := next_end (P := Tryz.prog) HL.out.i hlt
      obtain ⟨iop, ia, ib, ic, im⟩ := i
      have H1 := HL.out.k
      obtain ⟨c0, c1, c2, c3, c4, -⟩ := H1.cells5 (g := gi) (v0 := .int .i64 iop) (v1 := .int .i64 ia) (v2 := .int .i64 ib) (v3 := .int .i64 ic) (v4 := .int .i64 im) (List.mem_cons_self ..)
      have hE := fun w h => pEncode_any iop ia ib ic im w h
      replace hE := Lib.hid hE
      replace hRs := Lib.hid hRs
      replace H1 := Lib.hid H1
      clear hA1 hpe hlt hp hA
      cases hm : mayB ⟨iop, ia, ib, ic, im⟩ with
      | true =>
        replace hm := Lib.hid hm
        go_wp2_with (refine (hE.out _ (hT.out.below H1.out.bl).tabs).mono ?_; rintro e w5 hEP; obtain ⟨rfl, k5⟩ := hEP.at_yes hm.out; replace k5 := Lib.hid k5)
        rw [hD.out]
        exact InsPost.some hRs.out (by rw [hm.out]; rfl) hl.out ((H1.out.below k5.out).sub (fun x hx => List.mem_cons_of_mem _ hx))
      | false =>
        replace hm := Lib.hid hm
        go_wp2_with (refine (hE.out _ (hT.out.below H1.out.bl).tabs).mono ?_; rintro e w5 hEP; obtain ⟨rfl, k5⟩ := hEP.at_no hm.out; replace k5 := Lib.hid k5)
        rw [hD.out]
        exact InsPost.some hRs.out (by rw [hm.out]; rfl) hl.out ((H1.out.below k5.out).sub (fun x hx => List.mem_cons_of_mem _ hx))
end Go.Proofs.YtdkggahkfheocaaGreatDoor
