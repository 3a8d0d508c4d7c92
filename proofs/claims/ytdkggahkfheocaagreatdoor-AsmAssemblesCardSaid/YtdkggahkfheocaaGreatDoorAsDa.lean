/- Contracts of layer asm, the document's side: what stands between blanks. No statement is proved here. -/
import Derived.Test.YtdkggahkfheocaaGreatDoorAsS
import Derived.Test.YtdkggahkfheocaaGreatDoorAsO
import Derived.Test.YtdkggahkfheocaaGreatDoorAsP
import Derived.Test.YtdkggahkfheocaaGreatDoorAsV
namespace Go.Proofs.YtdkggahkfheocaaGreatDoor
set_option maxRecDepth 100000
open Go.RowKit Go.Lib
set_option linter.unusedVariables false

theorem slice_one (l : List UInt8) (k : Nat) (h : k < l.length) (ch : UInt8) (hc : ch = l[k]) (w : World) : (Instr.slice 9 (.string ⟨l.toArray⟩) (some (.int .i64 (k : Int))) (some (.int .i64 ((k : Int) + 1))) none).run Tryz.prog w = .ok (.string ⟨#[ch]⟩) w := by
  rw [run_slice_string w 9 ⟨l.toArray⟩ .i64 .i64 k ((k : Int) + 1) Tryz.underlying9 (by omega) (by omega) (by rw [size_mk]; omega)]
  congr 2
  rw [Lib.extract_eq, show ((k : Int)).toNat = k from by omega, show ((k : Int) + 1).toNat = k + 1 from by omega]
  have e : (l.drop k).take (k + 1 - k) = [ch] := by
    rw [show k + 1 - k = 1 from by omega, List.drop_eq_getElem_cons h, hc]; rfl
  show (⟨((l.drop k).take (k + 1 - k)).toArray⟩ : ByteArray) = _
  rw [e]
set_option maxHeartbeats 4000000 in
theorem rwords_any (l : List UInt8) (hl : l.length ≤ 1048576) (W : World) : Calls Tryz.prog 40 #[.string ⟨l.toArray⟩] W fun e w' => ∃ v, e = .returned v ∧ w'.ownsRow W.heap.size 9 1 v (wordsL l).length ((wordsL l).map strV) ∧ Below W.heap.size W w' := by
  obtain ⟨D, hD⟩ : ∃ D : Ending → World → Prop, D = fun e w' => ∃ v, e = .returned v ∧ w'.ownsRow W.heap.size 9 1 v (wordsL l).length ((wordsL l).map strV) ∧ Below W.heap.size W w' := ⟨_, rfl⟩
  rw [← hD]
  replace hD := Lib.hid hD
  obtain ⟨i0, hi, hz0, hz1, hz2⟩ := info_parts infoS
  have hli : (l.length : Int) ≤ 1048576 := by omega
  have hll := Lib.hid hl
  have hsz : (⟨l.toArray⟩ : ByteArray).size = l.length := size_mk l
  clear hl
  go_enter Tryz.func40, Tryz.ntmps40
  go_wp2
  go_loopw [3, 4, 5] (fun o s i wr => ∃ (k : Nat) (xs : List (List UInt8)) (cw : List UInt8), k ≤ l.length ∧ i = .int .i64 k ∧ s = .string ⟨cw.toArray⟩ ∧ Hid (wordsL l = xs ++ wordsF cw (l.drop k)) ∧ Hid (cw.length ≤ k ∧ xs.length ≤ k) ∧ Hid (wr.ownsRow W.heap.size 9 1 o xs.length (xs.map strV)) ∧ Hid (Below W.heap.size W wr)) (fun _ _ i _ => l.length - (RowKit.intOf i).toNat)
  case atStart => exact ⟨0, [], [], Nat.zero_le _, rfl, rfl, Lib.hid rfl, Lib.hid ⟨Nat.le_refl _, Nat.le_refl _⟩, Lib.hid (World.ownsRow_nil _ _ _ _), Lib.hid (Below.refl _ _)⟩
  case round =>
    obtain ⟨k, xs, cw, hk, rfl, rfl, hx, hn, hO, hb⟩ := hrel
    by_cases hlt : k < l.length
    · obtain ⟨ch, hch⟩ : ∃ ch, ch = l[k] := ⟨_, rfl⟩
      have hix := index_list l k hlt ch hch
      have hsl := fun w => slice_one l k hlt ch hch w
      have hdr : l.drop k = ch :: l.drop (k + 1) := by rw [hch]; exact List.drop_eq_getElem_cons hlt
      have hx2 := hx.out
      rw [hdr, wordsF] at hx2
      have hkl := Lib.hid (And.intro hk hlt)
      have hlti : (k : Int) < (l.length : Int) := by omega
      by_cases h32 : ch = 32
      · rw [if_pos h32] at hx2
        have hcb : ((ch.toNat : Int) != 32) = false := by rw [h32]; rfl
        have hci : (ch.toNat : Int) = 32 := by rw [h32]; rfl
        by_cases hcw : cw = []
        · subst hcw
          rw [if_pos rfl] at hx2
          replace hx2 := Lib.hid hx2
          clear hch hdr hk hsl h32
          go_wp2
          go_roundw
          case rel => exact ⟨k + 1, xs, [], by have := hkl.out; omega, by go_num, rfl, hx2, Lib.hid ⟨Nat.zero_le _, by have := hn.out; omega⟩, hO, hb⟩
          case measure => have := hkl.out; simp [RowKit.intOf]; omega
        · rw [if_neg hcw] at hx2
          have hx3 := Lib.hid (show wordsL l = (xs ++ [cw]) ++ wordsF [] (l.drop (k + 1)) by rw [hx2]; simp)
          have f2 : cw.isEmpty = false := by simpa using hcw
          clear hch hdr hk hsl h32 hx2 hcw
          go_wp2_with (at_builtin; refine wpList_append_lies _ rfl _ _ 52 rfl W.heap.size 9 i0 (.string ⟨#[]⟩) 1 16 Tryz.underlying52 hi hz0 hz1 hz2 rfl (by decide) _ _ _ rfl (hO.out.alloc _) ⟨wr.heap.size, 0, none⟩ 1 1 [.string ⟨cw.toArray⟩] rfl rfl ?c1 ?c2 (by decide) ?c3 ?c4 ?c5 _ rfl ?_)
          case c1 =>
            intro i u hu
            match i, hu with
            | 0, hu => simp at hu; subst hu; simp [Addr.add]
          case c2 => intro u hu; simp at hu; subst hu; rfl
          case c3 => have := hn.out; have := hll.out; have := hkl.out; unfold maxLen; omega
          case c4 => have := hn.out; have := hll.out; have := hkl.out; omega
          case c5 => have := hb.out.size; simp; omega
          · intro g cap w7 hown' hgrow hwhere hglt
            have hlo := hO.out.lt
            have hb7 := Lib.hid (below_grown (hb.out.alloc hb.out.size _) hgrow (fun q hq => (hlo q hq).1))
            have hO7 : w7.ownsRow W.heap.size 9 1 (.slice (some ⟨g, 0, none⟩) (xs.length + 1) cap) (xs ++ [cw]).length ((xs ++ [cw]).map strV) := by
              rw [List.map_append, List.length_append]; exact hown'
            replace hO7 := Lib.hid hO7
            clear hown' hgrow hwhere hglt hlo
            go_wp2
            go_roundw
            case rel => exact ⟨k + 1, xs ++ [cw], [], by have := hkl.out; omega, by go_num, rfl, hx3, Lib.hid ⟨Nat.zero_le _, by have := hn.out; simp; omega⟩, hO7, hb7⟩
            case measure => have := hkl.out; simp [RowKit.intOf]; omega
      · rw [if_neg h32] at hx2
        have hci : ¬ (ch.toNat : Int) = 32 := fun e => h32 (UInt8.toNat_inj.1 (by
          have h : ch.toNat = 32 := by omega
          rw [h]; rfl))
        have hcb : ((ch.toNat : Int) != 32) = true := by
          rw [bne_iff_ne]; exact hci
        have hadd : ∀ w, (Op.stringOp .add ⟨cw.toArray⟩ ⟨#[ch]⟩).run Tryz.prog w = .ok (.string ⟨(cw ++ [ch]).toArray⟩) w := fun w => run_string_add_lists w cw [ch] (by have := hn.out; omega) (by simp)
        replace hx2 := Lib.hid hx2
        clear hch hdr hk h32
        go_wp2
        go_roundw
        case rel => exact ⟨k + 1, xs, cw ++ [ch], by have := hkl.out; omega, by go_num, rfl, hx2, Lib.hid ⟨by have := hn.out; simp; omega, by have := hn.out; omega⟩, hO, hb⟩
        case measure => have := hkl.out; simp [RowKit.intOf]; omega
    · have hke : k = l.length := by omega
      have hx2 := hx.out
      rw [hke, List.drop_length, wordsF] at hx2
      by_cases hcw : cw = []
      · subst hcw
        rw [if_pos rfl, List.append_nil] at hx2
        replace hx2 := Lib.hid hx2
        clear hke
        go_wp2
        rw [hD.out, hx2.out]
        exact ⟨_, rfl, hO.out, hb.out⟩
      · rw [if_neg hcw] at hx2
        have f2 : cw.isEmpty = false := by simpa using hcw
        replace hx2 := Lib.hid hx2
        have hk2 := Lib.hid hk
        clear hcw hke
        go_wp2_with (at_builtin; refine wpList_append_lies _ rfl _ _ 52 rfl W.heap.size 9 i0 (.string ⟨#[]⟩) 1 16 Tryz.underlying52 hi hz0 hz1 hz2 rfl (by decide) _ _ _ rfl (hO.out.alloc _) ⟨wr.heap.size, 0, none⟩ 1 1 [.string ⟨cw.toArray⟩] rfl rfl ?c1 ?c2 (by decide) ?c3 ?c4 ?c5 _ rfl ?_)
        case c1 =>
          intro i u hu
          match i, hu with
          | 0, hu => simp at hu; subst hu; simp [Addr.add]
        case c2 => intro u hu; simp at hu; subst hu; rfl
        case c3 => have := hn.out; have := hll.out; have := hk2.out; unfold maxLen; omega
        case c4 => have := hn.out; have := hll.out; have := hk2.out; omega
        case c5 => have := hb.out.size; simp; omega
        · intro g cap w7 hown' hgrow hwhere hglt
          have hlo := hO.out.lt
          have hb7 := Lib.hid (below_grown (hb.out.alloc hb.out.size _) hgrow (fun q hq => (hlo q hq).1))
          have hO7 : w7.ownsRow W.heap.size 9 1 (.slice (some ⟨g, 0, none⟩) (xs.length + 1) cap) (xs ++ [cw]).length ((xs ++ [cw]).map strV) := by
            rw [List.map_append, List.length_append]; exact hown'
          replace hO7 := Lib.hid hO7
          clear hown' hgrow hwhere hglt hlo
          go_wp2
          rw [hD.out, hx2.out]
          exact ⟨_, rfl, hO7.out, hb7.out⟩
end Go.Proofs.YtdkggahkfheocaaGreatDoor
