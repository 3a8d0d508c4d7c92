/- Contracts of layer asm, the program's side: a line's word is laid behind the others. No statement is proved here. -/
import Derived.Test.YtdkggahkfheocaaGreatDoorAsU
import Derived.Deep.RegionLaw
namespace Go.Proofs.YtdkggahkfheocaaGreatDoor
set_option maxRecDepth 100000
open Go.RowKit Go.Lib
set_option linter.unusedVariables false

/-- What a line's word does: what is wrong, or 0; the words; the jumps. -/
def wordV (ws : List Int) (js : List (Nat × Nat × List UInt8)) (n : Nat) (R : Option (Int × List UInt8)) : Int × List Int × List (Nat × Nat × List UInt8) := match R with
  | none => (4, ws, js)
  | some (w, lab) => if ws.length = 4096 then (3, ws, js) else (0, ws ++ [w], if lab = [] then js else js ++ [(n, ws.length, lab)])
def WordPost (W : World) (X : List Rw) (gs mb : Nat) (labs : List (List UInt8 × Nat)) (R : Int × List Int × List (Nat × Nat × List UInt8)) (e : Ending) (w' : World) : Prop :=
  e = .returned (.int .i64 R.1) ∧ ∃ vw vj, PS W X gs mb R.2.1 R.2.2 labs vw vj w'
set_option maxHeartbeats 8000000 in
theorem word_any (W w : World) (X : List Rw) (gs mb : Nat) (ws : List Int) (js : List (Nat × Nat × List UInt8)) (labs : List (List UInt8 × Nat)) (vw vj : Value) (h : PS W X gs mb ws js labs vw vj w) (hT : T8 W) (n : Nat) (hn : n ≤ 40000) (l : List UInt8) (hl : l.length ≤ 32768) (hw : ws.length ≤ 4096) (hj : js.length ≤ 4096) :
    Calls Tryz.prog 45 #[.pointer (some ⟨gs, 0, none⟩), .int .i64 n, .string ⟨l.toArray⟩] w (WordPost W X gs mb labs (wordV ws js n (readP (wordsL l)))) := by
  have hR := read_any l w (hT.below h.k.bl) (by omega)
  unfold ReadPost at hR
  obtain ⟨D, hD⟩ : ∃ D, D = WordPost W X gs mb labs (wordV ws js n (readP (wordsL l))) := ⟨_, rfl⟩
  rw [← hD]
  generalize readP (wordsL l) = R at *
  replace hD := Lib.hid hD
  have H0 := Lib.hid h
  have hjj := Lib.hid hj
  clear hl hT
  cases R with
  | none =>
    replace hR := Lib.hid hR
    clear h hj
    go_enter Tryz.func45, Tryz.ntmps45
    go_wp2_with (refine hR.out.mono ?_; rintro e w1 ⟨rfl, k1⟩; replace k1 := Lib.hid k1)
    rw [hD.out]
    exact (show _ ∧ _ from ⟨rfl, _, _, H0.out.below k1.out⟩)
  | some z =>
    obtain ⟨x, lab⟩ := z
    obtain ⟨A, cap, rfl, ha1, ha2⟩ := own_slice h.ow
    replace hR := Lib.hid (show Calls Tryz.prog 39 #[.string ⟨l.toArray⟩] w fun e w' => e = .returned (.tuple #[.int .u32 x, .string ⟨lab.toArray⟩, .bool true]) ∧ Below w.heap.size w w' from hR)
    have hwi : (ws.length : Int) ≤ 4096 := by omega
    by_cases h4 : ws.length = 4096
    · have hV := Lib.hid (show wordV ws js n (some (x, lab)) = (3, ws, js) from if_pos h4)
      have hb : ((ws.length : Int) == 4096) = true := by rw [h4]; rfl
      clear h hj h4 hw
      go_enter Tryz.func45, Tryz.ntmps45
      go_wp2_with (refine hR.out.mono ?_; rintro e w1 ⟨rfl, k1⟩; have H1 := H0.out.below k1; obtain ⟨c0, c1, c2, f0, f2⟩ := H1.cells; replace H1 := Lib.hid H1; clear k1)
      rw [hD.out, hV.out]
      exact (show _ ∧ _ from ⟨rfl, _, _, H1.out⟩)
    · have hb : ((ws.length : Int) == 4096) = false := by rw [beq_eq_false_iff_ne]; omega
      have hwl := Lib.hid hw
      obtain ⟨i0, hi, hz0, hz1, hz2⟩ := info_parts infoW
      have hT2 := Lib.hid (show x = x from rfl)
      by_cases hlb : lab = []
      · have hV := Lib.hid (show wordV ws js n (some (x, lab)) = (0, ws ++ [x], js) from by simp only [wordV]; rw [if_neg h4, if_pos hlb])
        subst hlb
        clear h hj h4 hw hT2
        go_enter Tryz.func45, Tryz.ntmps45
        go_wp2_with (first
          | (go_at_call 39; refine hR.out.mono ?_; rintro e w1 ⟨rfl, k1⟩; have H1 := H0.out.below k1; obtain ⟨c0, c1, c2, f0, f2⟩ := H1.cells; replace H1 := Lib.hid H1; clear k1)
          | (at_builtin; refine wpList_append_lies _ rfl _ _ 22 rfl W.heap.size 24 i0 (.int .u32 0) 1 4 Tryz.underlying22 hi hz0 hz1 hz2 rfl (by decide) _ _ _ rfl (H1.out.ow.alloc _) ⟨w1.heap.size, 0, none⟩ 1 1 [.int .u32 x] rfl rfl ?c1 ?c2 (by decide) ?c3 ?c4 ?c5 _ rfl ?_))
        case c1 =>
          intro i u hu
          match i, hu with
          | 0, hu => simp at hu; subst hu; simp [Addr.add]
        case c2 => intro u hu; simp at hu; subst hu; rfl
        case c3 => have := hwl.out; unfold maxLen; omega
        case c4 => have := hwl.out; omega
        case c5 => have := H1.out.k.bl.size; simp; omega
        · intro g cap2 w2 hown hgrow hwhere hglt
          have HA := H1.out.below ((Below.refl _ _).alloc (Nat.le_refl _) (.cells #[.int .u32 x] 24))
          have H2 := Lib.hid (HA.addW x g (ws.length + 1) cap2 hown hgrow (hwhere.imp id (fun e => by rw [e]; simp)))
          obtain ⟨s0, s2, s3, s4⟩ := HA.mid hgrow HA.d1
          clear HA hown hgrow hwhere hglt
          go_wp2
          rw [hD.out, hV.out]
          exact (show _ ∧ _ from ⟨rfl, _, _, H2.out⟩)
      · have hV := Lib.hid (show wordV ws js n (some (x, lab)) = (0, ws ++ [x], js ++ [(n, ws.length, lab)]) from by simp only [wordV]; rw [if_neg h4, if_neg hlb])
        obtain ⟨f0, f1⟩ := list_ne_empty hlb
        have hne2 : ((⟨lab.toArray⟩ : ByteArray).toList != []) = true := by rw [bne, f0]; rfl
        obtain ⟨lb, hlbe⟩ : ∃ lb : ByteArray, lb = ⟨lab.toArray⟩ := ⟨_, rfl⟩
        rw [← hlbe] at f0 f1 hne2 hR
        have hjv := Lib.hid (show jV (n, ws.length, lab) = [.int .i64 n, .int .i64 ws.length, .string lb] from by rw [hlbe]; rfl)
        obtain ⟨j0, hji, hjz0, hjz1, hjz2⟩ := info_parts infoJ
        clear h hj h4 hw hT2 hlb hlbe
        go_enter Tryz.func45, Tryz.ntmps45
        go_wp2_with (refine hR.out.mono ?_; rintro e w1 ⟨rfl, k1⟩; have H1 := H0.out.below k1; obtain ⟨c0, c1, c2, f0, f2⟩ := H1.cells; replace H1 := Lib.hid H1; clear k1)
        have HU := H1.out.below (((Below.refl _ _).alloc (Nat.le_refl _) (.cells #[.int .i64 n, .int .i64 ws.length, .string lb] 89)).drew)
        have hnews : ∀ j u, (jV (n, ws.length, lab))[j]? = some u → ((w1.alloc (.cells #[.int .i64 n, .int .i64 ws.length, .string lb] 89)).drew).cell? ((⟨w1.heap.size, 0, none⟩ : Addr).add j) = some u := fun j u hu => by
          rw [hjv.out] at hu
          show (w1.alloc _).cell? _ = _
          match j, hu with
          | 0, hu => simp at hu; subst hu; simp [Addr.add]
          | 1, hu => simp at hu; subst hu; simp [Addr.add]
          | 2, hu => simp at hu; subst hu; simp [Addr.add]
        have hone : ∀ u ∈ jV (n, ws.length, lab), u.oneCell' = true := fun u hu => by
          rw [hjv.out] at hu
          simp at hu
          rcases hu with rfl | rfl | rfl <;> rfl
        have hHU := Lib.hid HU
        replace hnews := Lib.hid hnews
        replace hone := Lib.hid hone
        have hl3 : (jV (n, ws.length, lab)).length = 1 * 3 := rfl
        replace hl3 := Lib.hid hl3
        have hm1 := Lib.hid (show js.length + 1 ≤ maxLen by have := hjj.out; unfold maxLen; omega)
        have hm2 := Lib.hid (show (js.length + 1) * 32 ≤ 140737488355328 by have := hjj.out; omega)
        have hm3 := Lib.hid (show W.heap.size ≤ ((w1.alloc (.cells #[.int .i64 n, .int .i64 ws.length, .string lb] 89)).drew).heap.size from HU.k.bl.size)
        have hgl : gs < w1.heap.size := H1.out.k.lt (List.mem_cons_self ..)
        clear HU
        go_region_law (refine step_append_lies _ rfl (.tmp 30) (.tmp 39) 79 rfl W.heap.size 89 j0 _ 3 32 Tryz.underlying79 hji hjz0 hjz1 hjz2 rfl (by decide) vj js.length (js.flatMap jV) (by simp [Act.eval]) hHU.out.oj ⟨w1.heap.size, 0, none⟩ 1 1 (jV (n, ws.length, lab)) (by simp [Act.eval]) hl3.out hnews.out hone.out (by decide) hm1.out hm2.out hm3.out _ rfl ?_; intro g cap2 w2 hown hgrow hwhere hglt; obtain ⟨s0, s2, s3, s4⟩ := hHU.out.mid hgrow hHU.out.d3)
        all_goals
          have H2 := hHU.out.addJ (n, ws.length, lab) g (js.length + 1) cap2 hown hgrow (hwhere.imp id (fun e => by rw [e]; exact Nat.le_refl _))
          clear hown hgrow hwhere hglt s0 s2 s3 s4 hHU hnews hone hl3 hm1 hm2 hm3 hgl
          generalize (w2.setCell ⟨gs, 2, none⟩ (.slice (some ⟨g, 0, none⟩) (js.length + 1) cap2)) = w3 at *
          generalize (Value.slice (some ⟨g, 0, none⟩) (js.length + 1) cap2) = vj2 at *
          obtain ⟨d0, d1, d2, g0, g2⟩ := H2.cells
          replace H2 := Lib.hid H2
          clear c0 c1 c2 f0 f2 H1
          go_wp2_with (at_builtin; refine wpList_append_lies _ rfl _ _ 22 rfl W.heap.size 24 i0 (.int .u32 0) 1 4 Tryz.underlying22 hi hz0 hz1 hz2 rfl (by decide) _ _ _ rfl (H2.out.ow.alloc _) ⟨w3.heap.size, 0, none⟩ 1 1 [.int .u32 x] rfl rfl ?c1 ?c2 (by decide) ?c3 ?c4 ?c5 _ rfl ?_)
          case c1 =>
            intro i u hu
            match i, hu with
            | 0, hu => simp at hu; subst hu; simp [Addr.add]
          case c2 => intro u hu; simp at hu; subst hu; rfl
          case c3 => have := hwl.out; unfold maxLen; omega
          case c4 => have := hwl.out; omega
          case c5 => have := H2.out.k.bl.size; simp; omega
          intro g4 cap4 w4 hown hgrow hwhere hglt
          have HA := H2.out.below ((Below.refl _ _).alloc (Nat.le_refl _) (.cells #[.int .u32 x] 24))
          have H4 := Lib.hid (HA.addW x g4 (ws.length + 1) cap4 hown hgrow (hwhere.imp id (fun e => by rw [e]; simp)))
          obtain ⟨s0, s2, s3, s4⟩ := HA.mid hgrow HA.d1
          clear HA hown hgrow hwhere hglt
          go_wp2
          rw [hD.out, hV.out]
          exact (show _ ∧ _ from ⟨rfl, _, _, H4.out⟩)
end Go.Proofs.YtdkggahkfheocaaGreatDoor
