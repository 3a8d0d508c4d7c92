/- Proved: remarks, empty lines, blanks, and labels that nobody names change no word (the card of AsmRemarks): for every input; the listed variables are tied to the program's text. -/
import Derived.Test.YtdkggahkfheocaaGreatDoorAsF
import Derived.Test.YtdkggahkfheocaaGreatDoorAsRp
import Derived.Test.YtdkggahkfheocaaGreatDoorAsWd
import Derived.Test.YtdkggahkfheocaaGreatDoorAsC
import Derived.Test.YtdkggahkfheocaaGreatDoorTie
import Derived.Test.YtdkggahkfheocaaGreatDoorCards
import Derived.SevenTiedAt
import Derived.SizedLaws
import Derived.ProofKit
import Derived.OpenShut
import Derived.ShutString
import Derived.ChangeOld
import Derived.Deep.DeepCutAuto
namespace Go.Proofs.YtdkggahkfheocaaGreatDoor.srem
open Go.ChangeShapes Go.WideShapes Go.ChangeAt Go.RowKit Go.Lib
open Go.ChangeMaps (open_string shut_string)
set_option linter.unusedVariables false
set_option maxRecDepth 100000

theorem cut_str (t : ByteArray) (k : Nat) : ∃ l : List UInt8, t.extract 0 k = ⟨l.toArray⟩ ∧ l.length ≤ k := by
  obtain ⟨⟨l⟩⟩ := t
  exact ⟨l.take k, by rw [Lib.extract_eq]; simp, by simp; omega⟩
theorem str_list (t : ByteArray) : ∃ l : List UInt8, t = ⟨l.toArray⟩ := ⟨t.data.toList, (Lib.mk_data t).symm⟩
theorem two_conv (W : World) (a b : UInt8) (x y : Int) (hx : x = (a.toNat : Int)) (hy : y = (b.toNat : Int)) : (convert 42 9 (.slice (some ⟨W.heap.size, 0, none⟩) 2 2)).run Tryz.prog (W.alloc (.cells #[.int .u8 x, .int .u8 y] 5)) = .ok (.string ⟨#[a, b]⟩) (W.alloc (.cells #[.int .u8 x, .int .u8 y] 5)) := by
  have h := run_convert_bytes_back (P := Tryz.prog) (W.alloc (.cells #[.int .u8 x, .int .u8 y] 5)) 42 9 5 ⟨W.heap.size, 0, none⟩ 2 [a, b] (by kernel_rfl) (by kernel_rfl) (by kernel_rfl) (fun j hj => by
    match j, hj with
    | 0, _ => simp [Addr.add, hx]
    | 1, _ => simp [Addr.add, hy])
  exact h
theorem has_feed (l : List UInt8) : decide (0 ≤ Lib.indexByte l 10) = false ↔ 10 ∉ l := by
  have h : ∀ l : List UInt8, (0 ≤ Lib.indexByte l 10) ↔ 10 ∈ l := fun l => by
    induction l with
    | nil => simp [Lib.indexByte]
    | cons c l ih =>
      by_cases hc : c = 10
      · subst hc; simp [Lib.indexByte]
      · have h1 := Lib.indexByte_ge l 10
        have hb : (c == 10) = false := by simpa using hc
        have e : Lib.indexByte (c :: l) 10 = if Lib.indexByte l 10 = -1 then -1 else Lib.indexByte l 10 + 1 := by
          simp [Lib.indexByte, hb]
        rw [e, List.mem_cons]
        by_cases hm : Lib.indexByte l 10 = -1
        · rw [if_pos hm]
          constructor
          · intro h; omega
          · rintro (h | h)
            · exact absurd h.symm hc
            · have := ih.2 h; omega
        · rw [if_neg hm]
          constructor
          · intro h; exact .inr (ih.1 (by omega))
          · intro h; omega
  rw [decide_eq_false_iff_not, h]
set_option maxHeartbeats 4000000 in
theorem walk {H : Type} {enc : TypeId × Value → H} (v0 : Value) (t : ByteArray) (wt : t.size ≤ maxLen) (v2 : Value) {d0 d2 : DataW H} {p0 p2 : List MemPlace} (W : World)
    (hv : Value.okWide Tryz.prog W .any 0 22 v0) (hd : DataW.Trod enc Tryz.prog W 0 (fun _ => true) true 22 v0 d0 p0) (hv2 : Value.okWide Tryz.prog W .any 0 42 v2) (hd2 : DataW.Trod enc Tryz.prog W 0 (fun _ => true) true 42 v2 d2 p2) (hT : T8 W) :
    Calls Tryz.prog 7 #[v0, .string t, v2] W fun e w' => e = .returned (.bool true) ∧ Below W.heap.size W w' := by
  obtain ⟨A, len, cap, rfl, hcap, hm, hP⟩ := nums_of Tryz.underlying22 Tryz.underlying24 (by kernel_rfl) hv hd
  obtain ⟨A2, len2, cap2, rfl, hcap2, hm2, hP2⟩ := nums_of Tryz.underlying42 Tryz.underlying5 (by kernel_rfl) hv2 hd2
  have hlen : len ≤ 9223372036854775807 := by unfold maxLen at hm; omega
  have hlen2 : len2 ≤ 9223372036854775807 := by unfold maxLen at hm2; omega
  have hcap' : (len : Int) ≤ cap := by omega
  have hcap2' : (len2 : Int) ≤ cap2 := by omega
  have hts : t.size ≤ 9223372036854775807 := by unfold maxLen at wt; omega
  clear hv hd hm hv2 hd2 hm2 wt hcap hcap2
  obtain ⟨ws, hws, hA, hw⟩ := words_of (hP.mono (Nat.min_le_left len 30))
  have hl : ws.length ≤ 30 := by omega
  replace hA := Lib.hid hA
  replace hw := Lib.hid hw
  replace hP2 := Lib.hid hP2
  have hT' := Lib.hid hT
  obtain ⟨mx, hmx⟩ := hT.mx
  have hund : undef = Value.tuple #[] := rfl
  have hWk := Lib.hid (works_any W hT)
  replace hmx := Lib.hid hmx
  clear hT hP
  go_enter Tryz.func7, Tryz.ntmps7
  go_wp2_with fail
  refine hWk.out.mono ?_
  rintro e w1 ⟨rfl, k1⟩
  have hb1 := Lib.hid k1
  clear hWk k1
  go_upto_region 3 with (fail)
  go_cut [0] (fun v w' => v = .slice A ws.length cap ∧ w1 = w')
  case first =>
    go_wp2
    go_meet
    exact ⟨by rw [hws]; congr 1; omega, rfl⟩
  case rest =>
    obtain ⟨rfl, rfl⟩ := hcut
    have hll := Lib.hid hl
    clear hws
    go_upto_region 4 with (fail)
    go_cut [1] (fun s w' => ∃ l : List UInt8, s = .string ⟨l.toArray⟩ ∧ l.length ≤ 100 ∧ w1 = w')
    case first =>
      go_wp2_with fail
      go_meet
      obtain ⟨l, hl, hq⟩ := cut_str t (min (t.size : Int) 100).toNat
      exact ⟨l, by rw [← hl], by omega, by first | rfl | trivial⟩
    case rest =>
      obtain ⟨rem, rfl, hrl, rfl⟩ := hcut
      have hC := Tryz.strings_Contains_one ⟨rem.toArray⟩ 10 w1
      have hfd := has_feed rem
      simp only at hC
      cases hq : decide (0 ≤ Lib.indexByte rem 10) with
      | true =>
        rw [hq] at hC
        replace hC := Lib.hid hC
        clear hfd hq
        go_wp2_with (refine hC.out.mono ?_; rintro e w2 ⟨rfl, rfl⟩)
        go_ret
        exact ⟨rfl, hb1.out⟩
      | false =>
        rw [hq] at hC
        have h10 := Lib.hid (hfd.1 hq)
        replace hC := Lib.hid hC
        have hrll := Lib.hid hrl
        have hri : (rem.length : Int) ≤ 100 := by omega
        clear hfd hq hrl
        go_wp2_with (refine hC.out.mono ?_; rintro e w2 ⟨rfl, rfl⟩)
        go_loopw [7, 8] (fun sv k wr => ∃ (p : Nat) (zs : List Pc), p ≤ ws.length ∧ k = .int .i64 p ∧ sv = .string ⟨(textR 0 rem zs).toArray⟩ ∧ Hid (zs.length = p ∧ zs.map (·.w) = ws.take p) ∧ Hid (Below W.heap.size W wr)) (fun _ k _ => ws.length - (RowKit.intOf k).toNat)
        case atStart => exact ⟨0, [], Nat.zero_le _, rfl, rfl, Lib.hid ⟨rfl, rfl⟩, hb1⟩
        case round =>
          obtain ⟨p, zs, hp, rfl, rfl, hzs, hb⟩ := hrel
          by_cases hlt : p < ws.length
          · obtain ⟨b, off, rfl, hbb, hc⟩ := hA.out (by omega)
            have hcp := hc p ws[p] (List.getElem?_eq_getElem hlt)
            have hbd := hw.out ws[p] (List.getElem_mem hlt)
            have hwz : zs.map (·.w) ++ [ws[p]] = ws.take (p + 1) := by rw [List.take_succ_eq_append_getElem hlt, hzs.out.2]
            have hzw : ∀ z, z ∈ zs → 0 ≤ z.w ∧ z.w < 4294967296 := fun z hz => hw.out z.w (List.mem_of_mem_take (i := p) (by rw [← hzs.out.2]; exact List.mem_map_of_mem hz))
            generalize ws[p] = x at *
            have hpl := Lib.hid (And.intro hp hlt)
            have hp30 : p < 30 := by have := hll.out; omega
            have hTl := text_len rem hrll.out zs 0 hzw
            have hPl := fun b1 b2 b4 b8 => piece_len p rem hrll.out ⟨x, b1, b2, b4, b8⟩ hbd.1 hbd.2
            have hTn := fun b1 b2 b4 b8 => textR_app rem zs 0 (⟨x, b1, b2, b4, b8⟩ : Pc)
            rw [hzs.out.1, Nat.zero_add] at hTn
            rw [hzs.out.1] at hTl
            have hsl := print_len x hbd.1 hbd.2
            have hPr := Lib.hid (print_any x hbd.1 hbd.2 wr (hT'.out.below hb.out))
            have c0 : wr.cell? ⟨b, off + p, none⟩ = some (.int .u32 x) := (hb.out.cell (p := ⟨b, off + p, none⟩) hbb).trans hcp
            generalize textR 0 rem zs = tx at *
            replace hwz := Lib.hid hwz
            replace hTn := Lib.hid hTn
            replace hPl := Lib.hid hPl
            have htl : tx.length ≤ 24000 := by omega
            have hsll := Lib.hid hsl
            have htll := Lib.hid htl
            replace hzs := Lib.hid hzs.out.1
            clear hbd hp hc hcp hbb hzw hTl hsl htl
            have hlti : (p : Int) < (ws.length : Int) := by omega
            have hp30i : (p : Int) < 30 := by omega
            go_wp2_with fail
            refine hPr.out.mono ?_
            rintro e w3 ⟨rfl, k3⟩
            have hb3 := Lib.hid (hb.out.trans (k3.mono hb.out.size))
            clear k3 hPr c0
            go_upto_if 41 with (fail)
            go_cut [10] (fun v w' => ∃ kk : Int, v = .int .u8 kk ∧ w3 = w')
            case first =>
              by_cases h2 : p < len2
              · obtain ⟨b', off', rfl, hb', y, hy, hyw⟩ := hP2.out p h2
                have c1 : w3.cell? ⟨b', off' + p, none⟩ = some (.int .u8 y) := (hb3.out.cell (p := ⟨b', off' + p, none⟩) hb').trans hy
                have h2i : (p : Int) < (len2 : Int) := by omega
                clear hy hyw hb'
                go_wp2_with fail
                go_meet
                exact ⟨y, rfl, by first | rfl | trivial⟩
              · have h2i : ¬ (p : Int) < (len2 : Int) := by omega
                go_wp2_with fail
                go_meet
                exact ⟨0, rfl, by first | rfl | trivial⟩
            case rest =>
              obtain ⟨kk, rfl, rfl⟩ := hcut
              have hRA := Tryz.strings_ReplaceAll ⟨(printL x).toArray⟩ ⟨#[32]⟩ ⟨#[32, 32, 32]⟩ mx w3 (by rw [size_mk]; have := hsll.out; omega) ((hb3.out.cell (p := ⟨3, 0, none⟩) (Nat.lt_of_lt_of_le (by decide) hT'.out.low)).trans hmx.out) (by decide) (by
                have e : countB ⟨(printL x).toArray⟩ ⟨#[32]⟩ = (printL x).count 32 := count_one 32 (printL x)
                have := List.count_le_length (a := (32 : UInt8)) (l := printL x)
                have := hsll.out
                rw [e, size_mk]
                simp [ByteArray.size]
                omega)
              have eR : Lib.replaceAll (⟨(printL x).toArray⟩ : ByteArray).data.toList (⟨#[32]⟩ : ByteArray).data.toList (⟨#[32, 32, 32]⟩ : ByteArray).data.toList = tripL (printL x) := rep_all _
              rw [eR] at hRA
              have htr := trip_len (printL x)
              have ha1 : ∀ w, (Op.stringOp .add ⟨#[32, 32]⟩ ⟨(tripL (printL x)).toArray⟩).run Tryz.prog w = .ok (.string ⟨([32, 32] ++ tripL (printL x)).toArray⟩) w := fun w => run_string_add_lists w [32, 32] (tripL (printL x)) (by simp) (by have := hsll.out; omega)
              have ha2 : ∀ w, (Op.stringOp .add ⟨([32, 32] ++ tripL (printL x)).toArray⟩ ⟨#[32]⟩).run Tryz.prog w = .ok (.string ⟨(oneL true (printL x)).toArray⟩) w := fun w => run_string_add_lists w ([32, 32] ++ tripL (printL x)) [32] (by rw [List.length_append]; have := hsll.out; simp; omega) (by simp)
              generalize hm1 : [32, 32] ++ tripL (printL x) = m1 at *
              have ho1 : (oneL true (printL x)).length ≤ 280 := by
                have := hsll.out
                simp only [oneL, if_true, List.length_append, List.length_cons, List.length_nil]
                omega
              obtain ⟨o1, hO1⟩ : ∃ o1, o1 = oneL true (printL x) := ⟨_, rfl⟩
              rw [← hO1] at ha2 ho1
              replace hO1 := Lib.hid hO1
              replace hRA := Lib.hid hRA
              clear hm1 eR htr
              go_upto_if 48 with (fail)
              go_cut [9] (fun v w' => ∃ (b1 : Bool) (s1 : List UInt8), v = .string ⟨s1.toArray⟩ ∧ Hid (s1 = oneL b1 (printL x)) ∧ Hid (s1.length ≤ 280) ∧ Hid (Below W.heap.size W w'))
              case first =>
                go_wp2_with (refine hRA.out.mono ?_; rintro e w4 ⟨rfl, k4⟩; replace k4 := Lib.hid (hb3.out.trans (k4.mono hb3.out.size)))
                · go_meet
                  exact ⟨true, o1, rfl, hO1, Lib.hid ho1, k4⟩
                · go_meet
                  exact ⟨false, printL x, rfl, Lib.hid rfl, Lib.hid (by have := hsll.out; omega), hb3⟩
              case rest =>
                obtain ⟨b1, s1, rfl, hs1, hl1, hb4⟩ := hcut
                have h1l : s1.length ≤ 280 := hl1.out
                have ha1 : ∀ w, (Op.stringOp .add ⟨s1.toArray⟩ ⟨#[59]⟩).run Tryz.prog w = .ok (.string ⟨(s1 ++ [59]).toArray⟩) w := fun w => run_string_add_lists w s1 [59] (by omega) (by simp)
                have ha2 : ∀ w, (Op.stringOp .add ⟨(s1 ++ [59]).toArray⟩ ⟨rem.toArray⟩).run Tryz.prog w = .ok (.string ⟨(s1 ++ 59 :: rem).toArray⟩) w := fun w => by
                  have := run_string_add_lists (P := Tryz.prog) w (s1 ++ [59]) rem (by simp; omega) (by have := hrll.out; omega)
                  rw [List.append_assoc] at this
                  exact this
                generalize s1 ++ [59] = m1 at *
                have ho2 : (s1 ++ 59 :: rem).length ≤ 390 := by have := hrll.out; simp; omega
                have hr2 := Lib.hid (show s1 ++ 59 :: rem = remL true rem s1 from rfl)
                obtain ⟨o2, hO2⟩ : ∃ o2, o2 = s1 ++ 59 :: rem := ⟨_, rfl⟩
                rw [← hO2] at ha2 ho2 hr2
                clear hO2 h1l
                clear ho1 hO1 hRA
                go_upto_if 55 with (fail)
                go_cut [9] (fun v w' => ∃ (b2 : Bool) (s2 : List UInt8), v = .string ⟨s2.toArray⟩ ∧ Hid (s2 = remL b2 rem s1) ∧ Hid (s2.length ≤ 390) ∧ Hid (Below W.heap.size W w'))
                case first =>
                  go_wp2_with fail
                  · go_meet
                    exact ⟨true, o2, rfl, hr2, Lib.hid ho2, hb4⟩
                  · go_meet
                    exact ⟨false, s1, rfl, Lib.hid rfl, Lib.hid (by have := hl1.out; omega), hb4⟩
                case rest =>
                  obtain ⟨b2, s2, rfl, hs2, hl2, hb5⟩ := hcut
                  clear ha1 ha2 ho2 hr2
                  have h2l : s2.length ≤ 390 := hl2.out
                  have ha1 : ∀ w, (Op.stringOp .add ⟨#[10, 59]⟩ ⟨rem.toArray⟩).run Tryz.prog w = .ok (.string ⟨([10, 59] ++ rem).toArray⟩) w := fun w => run_string_add_lists w [10, 59] rem (by simp) (by have := hrll.out; omega)
                  have ha2 : ∀ w, (Op.stringOp .add ⟨([10, 59] ++ rem).toArray⟩ ⟨#[10]⟩).run Tryz.prog w = .ok (.string ⟨(([10, 59] ++ rem) ++ [10]).toArray⟩) w := fun w => run_string_add_lists w ([10, 59] ++ rem) [10] (by have := hrll.out; simp; omega) (by simp)
                  have ha3 : ∀ w, (Op.stringOp .add ⟨(([10, 59] ++ rem) ++ [10]).toArray⟩ ⟨s2.toArray⟩).run Tryz.prog w = .ok (.string ⟨(emptL true rem s2).toArray⟩) w := fun w => by
                    have := run_string_add_lists (P := Tryz.prog) w (([10, 59] ++ rem) ++ [10]) s2 (by have := hrll.out; simp; omega) (by omega)
                    have e : (([10, 59] ++ rem) ++ [10]) ++ s2 = emptL true rem s2 := by simp [emptL]
                    rw [e] at this
                    exact this
                  have ho3 : (emptL true rem s2).length ≤ 500 := by have := hrll.out; simp [emptL]; omega
                  generalize ([10, 59] ++ rem) ++ [10] = m2 at *
                  generalize [10, 59] ++ rem = m1 at *
                  obtain ⟨o3, hO3⟩ : ∃ o3, o3 = emptL true rem s2 := ⟨_, rfl⟩
                  rw [← hO3] at ha3 ho3
                  replace hO3 := Lib.hid hO3
                  clear h2l
                  go_upto_if 62 with (fail)
                  go_cut [9] (fun v w' => ∃ (b4 : Bool) (s3 : List UInt8), v = .string ⟨s3.toArray⟩ ∧ Hid (s3 = emptL b4 rem s2) ∧ Hid (s3.length ≤ 500) ∧ Hid (Below W.heap.size W w'))
                  case first =>
                    go_wp2_with fail
                    · go_meet
                      exact ⟨true, o3, rfl, hO3, Lib.hid ho3, hb5⟩
                    · go_meet
                      exact ⟨false, s2, rfl, Lib.hid rfl, Lib.hid (by have := hl2.out; omega), hb5⟩
                  case rest =>
                    obtain ⟨b4, s3, rfl, hs3, hl3, hb6⟩ := hcut
                    clear ha1 ha2 ha3 ho3 hO3
                    have h3l : s3.length ≤ 500 := hl3.out
                    have hrl := hrll.out
                    have ea : (nmL p) = [108, UInt8.ofNat (97 + p % 26), UInt8.ofNat (97 + p / 26)] := rfl
                    obtain ⟨r, hr⟩ : ∃ r, r = p % 26 := ⟨_, rfl⟩
                    obtain ⟨q, hq⟩ : ∃ q, q = p / 26 := ⟨_, rfl⟩
                    rw [← hr, ← hq] at ea
                    have hr26 : (r : Int) < 26 := by omega
                    have hq2 : (q : Int) < 2 := by omega
                    have er : (p : Int).tmod 26 = (r : Int) := by rw [Int.tmod_eq_emod_of_nonneg (by omega)]; omega
                    have er2 : (p : Int) % 26 = (r : Int) := by omega
                    have eq : (p : Int).tdiv 26 = (q : Int) := by rw [Int.tdiv_eq_ediv_of_nonneg (by omega)]; omega
                    have eq2 : (p : Int) / 26 = (q : Int) := by omega
                    obtain ⟨ua, hua⟩ : ∃ ua, ua = UInt8.ofNat (97 + r) := ⟨_, rfl⟩
                    obtain ⟨ub, hub⟩ : ∃ ub, ub = UInt8.ofNat (97 + q) := ⟨_, rfl⟩
                    rw [← hua, ← hub] at ea
                    have hcv := fun Wn => two_conv Wn ua ub (97 + (r : Int)) (97 + (q : Int)) (by rw [hua]; simp; omega) (by rw [hub]; simp; omega)
                    have ha1 : ∀ w, (Op.stringOp .add ⟨#[32, 108]⟩ ⟨#[ua, ub]⟩).run Tryz.prog w = .ok (.string ⟨([32, 108, ua, ub] : List UInt8).toArray⟩) w := fun w => run_string_add_lists w [32, 108] [ua, ub] (by simp) (by simp)
                    have ha2 : ∀ w, (Op.stringOp .add ⟨([32, 108, ua, ub] : List UInt8).toArray⟩ ⟨#[58, 32, 59]⟩).run Tryz.prog w = .ok (.string ⟨([32, 108, ua, ub, 58, 32, 59] : List UInt8).toArray⟩) w := fun w => run_string_add_lists w [32, 108, ua, ub] [58, 32, 59] (by simp) (by simp)
                    have ha3 : ∀ w, (Op.stringOp .add ⟨([32, 108, ua, ub, 58, 32, 59] : List UInt8).toArray⟩ ⟨rem.toArray⟩).run Tryz.prog w = .ok (.string ⟨([32, 108, ua, ub, 58, 32, 59] ++ rem).toArray⟩) w := fun w => run_string_add_lists w [32, 108, ua, ub, 58, 32, 59] rem (by simp) (by omega)
                    have ha4 : ∀ w, (Op.stringOp .add ⟨([32, 108, ua, ub, 58, 32, 59] ++ rem).toArray⟩ ⟨#[10]⟩).run Tryz.prog w = .ok (.string ⟨(([32, 108, ua, ub, 58, 32, 59] ++ rem) ++ [10]).toArray⟩) w := fun w => run_string_add_lists w ([32, 108, ua, ub, 58, 32, 59] ++ rem) [10] (by simp; omega) (by simp)
                    have ha5 : ∀ w, (Op.stringOp .add ⟨(([32, 108, ua, ub, 58, 32, 59] ++ rem) ++ [10]).toArray⟩ ⟨s3.toArray⟩).run Tryz.prog w = .ok (.string ⟨(labsL true p rem s3).toArray⟩) w := fun w => by
                      have := run_string_add_lists (P := Tryz.prog) w (([32, 108, ua, ub, 58, 32, 59] ++ rem) ++ [10]) s3 (by simp; omega) (by omega)
                      have e : (([32, 108, ua, ub, 58, 32, 59] ++ rem) ++ [10]) ++ s3 = labsL true p rem s3 := by simp [labsL, ea]
                      rw [e] at this
                      exact this
                    have ho4 : (labsL true p rem s3).length ≤ 700 := by simp [labsL, ea]; omega
                    obtain ⟨m4, hm4⟩ : ∃ m4, m4 = ([32, 108, ua, ub, 58, 32, 59] ++ rem) ++ [10] := ⟨_, rfl⟩
                    rw [← hm4] at ha4 ha5
                    clear hm4
                    obtain ⟨m3, hm3⟩ : ∃ m3, m3 = [32, 108, ua, ub, 58, 32, 59] ++ rem := ⟨_, rfl⟩
                    rw [← hm3] at ha3 ha4
                    clear hm3
                    obtain ⟨m2, hm2⟩ : ∃ m2 : List UInt8, m2 = [32, 108, ua, ub, 58, 32, 59] := ⟨_, rfl⟩
                    rw [← hm2] at ha2 ha3
                    clear hm2
                    obtain ⟨m1, hm1⟩ : ∃ m1 : List UInt8, m1 = [32, 108, ua, ub] := ⟨_, rfl⟩
                    rw [← hm1] at ha1 ha2
                    clear hm1
                    obtain ⟨o4, hO4⟩ : ∃ o4, o4 = labsL true p rem s3 := ⟨_, rfl⟩
                    rw [← hO4] at ha5 ho4
                    replace hO4 := Lib.hid hO4
                    clear h3l hrl hr hq ea hua hub
                    go_upto_if 70 with (fail)
                    go_cut [9] (fun v w' => ∃ (b8 : Bool) (s4 : List UInt8), v = .string ⟨s4.toArray⟩ ∧ Hid (s4 = labsL b8 p rem s3) ∧ Hid (s4.length ≤ 700) ∧ Hid (Below W.heap.size W w'))
                    case first =>
                      go_wp2_with fail
                      · go_meet
                        exact ⟨true, o4, rfl, hO4, Lib.hid ho4, Lib.hid (hb6.out.alloc hb6.out.size _)⟩
                      · go_meet
                        exact ⟨false, s3, rfl, Lib.hid rfl, Lib.hid (by have := hl3.out; omega), hb6⟩
                    case rest =>
                      obtain ⟨b8, s4, rfl, hs4, hl4, hb7⟩ := hcut
                      clear ha1 ha2 ha3 ha4 ha5 ho4 hO4 hcv
                      have hpc : s4 ++ [10] = pieceL p rem ⟨x, b1, b2, b4, b8⟩ := by
                        unfold pieceL
                        rw [hs4.out, hs3.out, hs2.out, hs1.out]
                      have hTn' := hTn.out b1 b2 b4 b8
                      rw [← hpc] at hTn'
                      have h4l := hl4.out
                      have htl := htll.out
                      have ha1 : ∀ w, (Op.stringOp .add ⟨tx.toArray⟩ ⟨s4.toArray⟩).run Tryz.prog w = .ok (.string ⟨(tx ++ s4).toArray⟩) w := fun w => run_string_add_lists w tx s4 (by omega) (by omega)
                      have ha2 : ∀ w, (Op.stringOp .add ⟨(tx ++ s4).toArray⟩ ⟨#[10]⟩).run Tryz.prog w = .ok (.string ⟨(textR 0 rem (zs ++ [⟨x, b1, b2, b4, b8⟩])).toArray⟩) w := fun w => by
                        have := run_string_add_lists (P := Tryz.prog) w (tx ++ s4) [10] (by simp; omega) (by simp)
                        rw [List.append_assoc, ← hTn'] at this
                        exact this
                      obtain ⟨m1, hm1⟩ : ∃ m1, m1 = tx ++ s4 := ⟨_, rfl⟩
                      rw [← hm1] at ha1 ha2
                      obtain ⟨o5, hO5⟩ : ∃ o5, o5 = textR 0 rem (zs ++ [⟨x, b1, b2, b4, b8⟩]) := ⟨_, rfl⟩
                      rw [← hO5] at ha2
                      replace hO5 := Lib.hid hO5
                      clear hpc hTn' h4l htl hm1
                      go_wp2_with fail
                      go_roundw
                      case rel => exact ⟨p + 1, zs ++ [⟨x, b1, b2, b4, b8⟩], by have := hpl.out; omega, by go_num, by rw [hO5.out], Lib.hid ⟨by rw [List.length_append, hzs.out]; rfl, by rw [List.map_append]; exact hwz.out⟩, hb7⟩
                      case measure => have := hpl.out; simp [RowKit.intOf]; omega
          · have hpe : p = ws.length := by omega
            have hzw : ∀ z, z ∈ zs → 0 ≤ z.w ∧ z.w < 4294967296 := fun z hz => hw.out z.w (List.mem_of_mem_take (i := p) (by rw [← hzs.out.2]; exact List.mem_map_of_mem hz))
            have hTl := text_len rem hrll.out zs 0 hzw
            have hAs := fun w h => asm_any (textR 0 rem zs) w h (by have := hzs.out.1; have := hll.out; omega)
            rw [asm_rem rem h10.out hrll.out zs (by have := hzs.out.1; have := hll.out; omega) hzw, hzs.out.2, hpe, List.take_length] at hAs
            unfold AsmPost at hAs
            have h1 := Lib.hid (hAs wr (hT'.out.below hb.out))
            generalize textR 0 rem zs = tx at *
            clear hzw hTl hAs
            go_wp2_with fail
            refine h1.out.mono ?_
            rintro e w3 ⟨v, rfl, ho, k3, -, -⟩
            obtain ⟨A3, cap3, rfl, hc3, hA3⟩ := own_WL ho
            have hb3 := Lib.hid (hb.out.trans (k3.mono hb.out.size))
            have hA4 : WL w3 w3.heap.size A ws := fun hn => by
              obtain ⟨b, off, e, hbb, hc⟩ := hA.out hn
              exact ⟨b, off, e, Nat.lt_of_lt_of_le hbb hb3.out.size, fun j u hj => ((hb3.out.cell (p := ⟨b, off + j, none⟩) hbb)).trans (hc j u hj)⟩
            have h3 := Lib.hid (words_same ws A3 A cap3 cap w3 hA3 hA4 (by have := hll.out; omega))
            clear h1 k3 ho hA3 hA4 hc3
            go_wp2_with fail
            refine h3.out.mono ?_
            rintro e w4 ⟨rfl, k4⟩
            have hb4 := Lib.hid (hb3.out.trans (k4.mono hb3.out.size))
            go_wp2_with fail
            go_ret
            exact ⟨rfl, hb4.out⟩

set_option maxRecDepth 100000 in
theorem lifted (os : Os) (started : os.Started) (H : Type) (enc : TypeId × Value → H) :
    ReturnsInHanded {} Tryz.checked os 7 .any (fun w args => (Rows.asmRemarksSpec.pre enc Tryz.prog Tryz.f7 [] false w args ∧ laidMetH Tryz.prog Rows.asmRemarksRow.laid w) ∧ sizedMet enc Tryz.prog Tryz.f7 (OpenSpec.ofChange Rows.asmRemarksSpec) false w args) (Rows.asmRemarksSpec.post enc Tryz.prog Tryz.f7 false true false false) := by
  refine change_and_shaped (C := Tryz.checked) (X := fun w _ => laidMetH Tryz.prog Rows.asmRemarksRow.laid w) (fun _ _ _ hh h => h.of_heap hh) own started (by kernel_rfl) Tryz.func7
    (ChangeSpec.witness_at (enc := enc) (C := Tryz.checked) (os := os) (X := fun w _ => laidMetH Tryz.prog Rows.asmRemarksRow.laid w) false (laidWorld os) #[.slice none 0 0, .string ByteArray.empty, .slice none 0 0] 8 rfl (by kernel_rfl) (by kernel_rfl) (by kernel_rfl) (by kernel_rfl) (by kernel_rfl) (laid_met os _)) ?_
  intro W base args ds gs before hval0 hW _ hsz hL hsh
  have hval : ∀ (j : Nat) t v, Tryz.f7.params[j]? = some t → args[j]? = some v → Value.okWide Tryz.prog W .any base t v := hval0
  have hW' := hW
  obtain ⟨p, q, hA0, hV, rfl, hfz, hnd⟩ := hW
  have hA : DataW.TrodAll enc Tryz.prog W 0 (fun _ => true) true Tryz.f7.params.toList args.toList ds p := hA0
  rw [Tryz.params7] at hA hval
  obtain ⟨v0, vs0, d0, ds0, p0, q0, hargs, rfl, rfl, h0, r0⟩ := trodAll_cons hA
  obtain ⟨v1, vs1, d1, ds1, p1, q1, rfl, rfl, rfl, h1, r1⟩ := trodAll_cons r0
  obtain ⟨v2, vs2, d2, ds2, p2, q2, rfl, rfl, rfl, h2, r2⟩ := trodAll_cons r1
  obtain ⟨rfl, rfl, rfl⟩ := trodAll_nil r2
  obtain rfl : args = #[v0, v1, v2] := by cases args; simp_all
  obtain ⟨rfl, rfl⟩ := trodVars_none hV
  have k0 := h0
  have lt0 : ∀ x ∈ p0, x.block < W.heap.size := by obtain ⟨m, hm⟩ := k0; exact DataW.trod_lt m _ _ _ hm
  have k1 := h1
  have lt1 : ∀ x ∈ p1, x.block < W.heap.size := by obtain ⟨m, hm⟩ := k1; exact DataW.trod_lt m _ _ _ hm
  have k2 := h2
  have lt2 : ∀ x ∈ p2, x.block < W.heap.size := by obtain ⟨m, hm⟩ := k2; exact DataW.trod_lt m _ _ _ hm
  obtain ⟨remark, rfl, rfl, rfl, wremark⟩ := open_string Tryz.underlying9 (hval 1 9 v1 rfl rfl) h1
  clear hA0 hval0
  refine (walk v0 remark wremark v2 W (hval 0 22 v0 rfl rfl) k0 (hval 2 42 v2 rfl rfl) k2 (tabs_of_laid hL hsh)).mono fun e W' ⟨he, bel⟩ => ?_
  subst he
  exact ⟨_, rfl, _, _, _, [], _, [], hW', trodAll_mk1 (shut_bool Tryz.underlying4 _), (trodAll_cons_mk (Below.trod laidOut (by kernel_rfl) (of_decide_eq_true (by kernel_rfl)) k0 bel lt0) (trodAll_cons_mk (Below.trod laidOut (by kernel_rfl) (of_decide_eq_true (by kernel_rfl)) k1 bel lt1) (trodAll_cons_mk (Below.trod laidOut (by kernel_rfl) (of_decide_eq_true (by kernel_rfl)) k2 bel lt2) trodAll_mk0))), rfl, bel.frame _, fun h => by cases h⟩
theorem over : Rows.AsmRemarksSaid :=
  OpenClaim.holds_of_wide 7 Tryz.f7 rfl rfl rfl rfl rfl rfl rfl ⟨rfl, rfl, rfl, rfl, rfl⟩ rfl rfl rfl rfl rfl (by kernel_rfl) Tryz.func7 (by kernel_rfl)
    (of_decide_eq_true (by kernel_rfl)) (by unfold Func.isWrapper; first | (rw [if_pos (by decide +kernel)]; kernel_rfl) | (rw [if_neg (by decide +kernel)]; exact ⟨rfl, rfl⟩))
    (fun os started H enc _ => lifted os started H enc)
/-- The given statement. -/
theorem proved : Rows.AsmRemarksCardSaid :=
  Claim7.holds_tied_plain_at .later [] [.data, .data, .data, .data, .sentinel, .sentinel, .data, .data, .pinned] true (true, "2bee5fd148fb015520f01933159326b112e4478db675eff5977c33161389b25f") true
    over (fun _ h => by cases h) (by kernel_rfl) (fun _ h => by cases h) asmRemarks_row_tie rfl ⟨rfl, rfl⟩ (by kernel_rfl) rfl
    (fun f fn hf hfn => by
      obtain rfl : f = 7 := Option.some.inj ((show Tryz.prog.funcNamed "fallow/fallowlaw08.AsmRemarks" = some 7 by kernel_rfl).symm.trans hf) |>.symm
      obtain rfl : fn = Tryz.f7 := (Option.some.inj (Tryz.func7.symm.trans hfn)).symm
      exact ⟨by kernel_rfl, fun j t ht => by
        rw [Tryz.params7] at ht
        rcases j with _ | _ | _ | j
        · obtain rfl : t = 22 := by simpa using ht.symm
          exact (show Tryz.prog.wantsStandIn 22 = false by kernel_rfl)
        · obtain rfl : t = 9 := by simpa using ht.symm
          exact (show Tryz.prog.wantsStandIn 9 = false by kernel_rfl)
        · obtain rfl : t = 42 := by simpa using ht.symm
          exact (show Tryz.prog.wantsStandIn 42 = false by kernel_rfl)
        · simp at ht⟩)
    (by kernel_rfl)
end Go.Proofs.YtdkggahkfheocaaGreatDoor.srem
