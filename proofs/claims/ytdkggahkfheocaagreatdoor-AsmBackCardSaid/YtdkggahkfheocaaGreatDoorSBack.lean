/- Proved: a word's text is read as that word, and words that are printed are assembled again; what is no word's text is refused (the card of AsmBack, the stage's theorem): for every input; the listed variables are tied to the program's text. -/
import Derived.Test.YtdkggahkfheocaaGreatDoorAsF
import Derived.Test.YtdkggahkfheocaaGreatDoorAsBm
import Derived.Test.YtdkggahkfheocaaGreatDoorAsWd
import Derived.Test.YtdkggahkfheocaaGreatDoorTie
import Derived.Test.YtdkggahkfheocaaGreatDoorCards
import Derived.SevenTiedAt
import Derived.SizedLaws
import Derived.ProofKit
import Derived.OpenShut
import Derived.ShutString
import Derived.ChangeOld
namespace Go.Proofs.YtdkggahkfheocaaGreatDoor.sback
open Go.ChangeShapes Go.WideShapes Go.ChangeAt Go.RowKit Go.Lib
open Go.ChangeMaps (open_string shut_string)
set_option linter.unusedVariables false
set_option maxRecDepth 100000

theorem line_low (l : List UInt8) : (lineV l = (0, 4)) ∨ (∃ w, lineV l = (w, 0) ∧ printL w = l ∧ 0 ≤ w ∧ w < 4294967296) := by
  unfold lineV
  split
  · rename_i w lab hr
    have := readP_low hr
    split
    · exact .inr ⟨w, rfl, by assumption, this.1, this.2⟩
    · exact .inl rfl
  · exact .inl rfl
set_option maxHeartbeats 2000000 in
theorem walk {H : Type} {enc : TypeId × Value → H} (v0 : Value) (s : ByteArray) (ws0 : s.size ≤ reachBytes) {d0 : DataW H} {p0 : List MemPlace} (W : World)
    (hv : Value.okWide Tryz.prog W .any 0 22 v0) (hd : DataW.Trod enc Tryz.prog W 0 (fun _ => true) true 22 v0 d0 p0) (hT : T8 W) :
    Calls Tryz.prog 6 #[v0, .string s] W fun e w' => e = .returned (.bool true) ∧ Below W.heap.size W w' := by
  obtain ⟨A, len, cap, rfl, hcap, hm, hP⟩ := nums_of Tryz.underlying22 Tryz.underlying24 (by kernel_rfl) hv hd
  have hlen : len ≤ 9223372036854775807 := by unfold maxLen at hm; omega
  have hcap' : (len : Int) ≤ cap := by omega
  clear hv hd hm
  obtain ⟨ws, hws, hA, hw⟩ := words_of (hP.mono (Nat.min_le_left len 100))
  have hl : ws.length ≤ 100 := by omega
  obtain ⟨tx, htx⟩ : ∃ tx : List UInt8, s = ⟨tx.toArray⟩ := ⟨s.data.toList, (Lib.mk_data s).symm⟩
  subst htx
  have htl : tx.length ≤ 140737488355328 := by rw [size_mk] at ws0; unfold reachBytes at ws0; omega
  replace hA := Lib.hid hA
  replace hw := Lib.hid hw
  have hT' := Lib.hid hT
  have hund : undef = Value.tuple #[] := rfl
  have hWk := Lib.hid (works_any W hT)
  replace htl := Lib.hid htl
  clear hT hP ws0
  go_enter Tryz.func6, Tryz.ntmps6
  go_wp2_with fail
  refine hWk.out.mono ?_
  rintro e w1 ⟨rfl, k1⟩
  have hb1 := Lib.hid k1
  clear hWk k1
  go_upto_region 3 with (fail)
  go_cut [0] (fun v w' => v = .slice A ws.length cap ∧ w1 = w')
  case rest =>
    obtain ⟨rfl, rfl⟩ := hcut
    have hll := Lib.hid hl
    clear hws
    go_wp2_with fail
    go_loopw [5] (fun k wr => ∃ p : Nat, p ≤ ws.length ∧ k = .int .i64 p ∧ Hid (Below W.heap.size W wr)) (fun k _ => ws.length - (RowKit.intOf k).toNat)
    case atStart => exact ⟨0, Nat.zero_le _, rfl, hb1⟩
    case round =>
      obtain ⟨p, hp, rfl, hb⟩ := hrel
      by_cases hlt : p < ws.length
      · obtain ⟨b, off, rfl, hbb, hc⟩ := hA.out (by omega)
        have hcp := hc p ws[p] (List.getElem?_eq_getElem hlt)
        have hbd := hw.out ws[p] (List.getElem_mem hlt)
        generalize ws[p] = x at *
        have hpl := Lib.hid (And.intro hp hlt)
        have hPr := Lib.hid (print_any x hbd.1 hbd.2 wr (hT'.out.below hb.out))
        have hLn := fun w (h : T8 w) => line_any (printL x) w h (by have := print_len x hbd.1 hbd.2; omega)
        rw [line_print x hbd.1 hbd.2] at hLn
        replace hLn := Lib.hid hLn
        have c0 : wr.cell? ⟨b, off + p, none⟩ = some (.int .u32 x) := (hb.out.cell (p := ⟨b, off + p, none⟩) hbb).trans hcp
        have hcl := Lib.hid (fun w (k : Below W.heap.size W w) => (k.cell (p := ⟨b, off + p, none⟩) hbb).trans hcp)
        have hxx : (x == x) = true := by simp
        clear hbd hp hc hcp hbb
        go_wp2_with fail
        refine hPr.out.mono ?_
        rintro e w2 ⟨rfl, k2⟩
        have hb2 := Lib.hid (hb.out.trans (k2.mono hb.out.size))
        clear k2 c0
        go_wp2_with fail
        refine (hLn.out _ (hT'.out.below hb2.out)).mono ?_
        rintro e w3 ⟨rfl, k3⟩
        have hb3 := Lib.hid (hb2.out.trans (k3.mono hb2.out.size))
        have c0 := hcl.out _ hb3.out
        clear k3 hPr hLn
        go_wp2
        go_roundw
        case rel => exact ⟨p + 1, by have := hpl.out; omega, by go_num, hb3⟩
        case measure => have := hpl.out; simp [RowKit.intOf]; omega
      · have hT2 := Lib.hid (hT'.out.below hb.out)
        have hA2 : WL wr wr.heap.size A ws := fun hn => by
          obtain ⟨b, off, e, hbb, hc⟩ := hA.out hn
          exact ⟨b, off, e, Nat.lt_of_lt_of_le hbb hb.out.size, fun j u hj => ((hb.out.cell (p := ⟨b, off + j, none⟩) hbb)).trans (hc j u hj)⟩
        have h1 := Lib.hid (dis_any ws A cap wr hT2.out hA2 hw.out hll.out)
        have hAs := fun w h => asm_any (disL ws) w h (by have := dis_len ws hw.out; have := hll.out; omega)
        rw [asm_dis ws hw.out hll.out] at hAs
        unfold AsmPost at hAs
        replace hAs := Lib.hid hAs
        clear hA2 hp
        go_wp2_with fail
        refine h1.out.mono ?_
        rintro e w2 ⟨rfl, k2⟩
        have hb2 := Lib.hid (hb.out.trans (k2.mono hb.out.size))
        have h2 := Lib.hid (hAs.out w2 (hT'.out.below hb2.out))
        clear h1 k2 hAs hT2
        go_wp2_with fail
        refine h2.out.mono ?_
        rintro e w3 ⟨v, rfl, ho, k3, -, -⟩
        obtain ⟨A3, cap3, rfl, hc3, hA3⟩ := own_WL ho
        have hb3 := Lib.hid (hb2.out.trans (k3.mono hb2.out.size))
        have hA4 : WL w3 w3.heap.size A ws := fun hn => by
          obtain ⟨b, off, e, hbb, hc⟩ := hA.out hn
          exact ⟨b, off, e, Nat.lt_of_lt_of_le hbb hb3.out.size, fun j u hj => ((hb3.out.cell (p := ⟨b, off + j, none⟩) hbb)).trans (hc j u hj)⟩
        have h3 := Lib.hid (words_same ws A3 A cap3 cap w3 hA3 hA4 (by have := hll.out; omega))
        clear h2 k3 ho hA3 hA4 hc3
        go_wp2_with fail
        refine h3.out.mono ?_
        rintro e w4 ⟨rfl, k4⟩
        have hb4 := Lib.hid (hb3.out.trans (k4.mono hb3.out.size))
        have h4 := line_any tx w4 (hT'.out.below hb4.out) htl.out
        clear h3 k4
        rcases line_low tx with hlv | ⟨x, hlv, hpx, hx0, hx1⟩
        · rw [hlv] at h4
          replace h4 := Lib.hid h4
          clear hlv
          go_wp2_with fail
          refine h4.out.mono ?_
          rintro e w5 ⟨rfl, k5⟩
          have hb5 := Lib.hid (hb4.out.trans (k5.mono hb4.out.size))
          go_wp2_with fail
          go_ret
          exact ⟨rfl, hb5.out⟩
        · rw [hlv] at h4
          replace h4 := Lib.hid h4
          have h5 := fun w (h : T8 w) => print_any x hx0 hx1 w h
          rw [hpx] at h5
          replace h5 := Lib.hid h5
          have htt : (tx == tx) = true := by simp
          clear hlv hpx hx0 hx1
          go_wp2_with fail
          refine h4.out.mono ?_
          rintro e w5 ⟨rfl, k5⟩
          have hb5 := Lib.hid (hb4.out.trans (k5.mono hb4.out.size))
          clear h4 k5
          go_wp2_with fail
          refine (h5.out _ (hT'.out.below hb5.out)).mono ?_
          rintro e w6 ⟨rfl, k6⟩
          have hb6 := Lib.hid (hb5.out.trans (k6.mono hb5.out.size))
          go_wp2_with fail
          go_ret
          exact ⟨rfl, hb6.out⟩
  case first =>
    go_wp2
    go_meet
    exact ⟨by rw [hws]; congr 1; omega, rfl⟩

set_option maxRecDepth 100000 in
theorem lifted (os : Os) (started : os.Started) (H : Type) (enc : TypeId × Value → H) :
    ReturnsInHanded {} Tryz.checked os 6 .any (fun w args => (Rows.asmBackSpec.pre enc Tryz.prog Tryz.f6 [] false w args ∧ laidMetH Tryz.prog Rows.asmBackRow.laid w) ∧ sizedMet enc Tryz.prog Tryz.f6 (OpenSpec.ofChange Rows.asmBackSpec) false w args) (Rows.asmBackSpec.post enc Tryz.prog Tryz.f6 false true false false) := by
  refine change_and_shaped (C := Tryz.checked) (X := fun w _ => laidMetH Tryz.prog Rows.asmBackRow.laid w) (fun _ _ _ hh h => h.of_heap hh) own started (by kernel_rfl) Tryz.func6
    (ChangeSpec.witness_at (enc := enc) (C := Tryz.checked) (os := os) (X := fun w _ => laidMetH Tryz.prog Rows.asmBackRow.laid w) false (laidWorld os) #[.slice none 0 0, .string ByteArray.empty] 8 rfl (by kernel_rfl) (by kernel_rfl) (by kernel_rfl) (by kernel_rfl) (by kernel_rfl) (laid_met os _)) ?_
  intro W base args ds gs before hval0 hW _ hsz hL hsh
  have hval : ∀ (j : Nat) t v, Tryz.f6.params[j]? = some t → args[j]? = some v → Value.okWide Tryz.prog W .any base t v := hval0
  have hW' := hW
  obtain ⟨p, q, hA0, hV, rfl, hfz, hnd⟩ := hW
  have hA : DataW.TrodAll enc Tryz.prog W 0 (fun _ => true) true Tryz.f6.params.toList args.toList ds p := hA0
  rw [Tryz.params6] at hA hval
  obtain ⟨v0, vs0, d0, ds0, p0, q0, hargs, rfl, rfl, h0, r0⟩ := trodAll_cons hA
  obtain ⟨v1, vs1, d1, ds1, p1, q1, rfl, rfl, rfl, h1, r1⟩ := trodAll_cons r0
  obtain ⟨rfl, rfl, rfl⟩ := trodAll_nil r1
  obtain rfl : args = #[v0, v1] := by cases args; simp_all
  obtain ⟨rfl, rfl⟩ := trodVars_none hV
  have k0 := h0
  have lt0 : ∀ x ∈ p0, x.block < W.heap.size := by obtain ⟨m, hm⟩ := k0; exact DataW.trod_lt m _ _ _ hm
  have k1 := h1
  have lt1 : ∀ x ∈ p1, x.block < W.heap.size := by obtain ⟨m, hm⟩ := k1; exact DataW.trod_lt m _ _ _ hm
  obtain ⟨s, rfl, rfl, rfl, ws⟩ := open_string Tryz.underlying9 (hval 1 9 v1 rfl rfl) h1
  have zs := sized_string hsz (j := 1) (t := 9) (by kernel_rfl) rfl
  clear hA0 hval0
  refine (walk v0 s (Nat.le_trans (Nat.le_of_eq (Lib.size_eq s)) zs) W (hval 0 22 v0 rfl rfl) k0 (tabs_of_laid hL hsh)).mono fun e W' ⟨he, bel⟩ => ?_
  subst he
  exact ⟨_, rfl, _, _, _, [], _, [], hW', trodAll_mk1 (shut_bool Tryz.underlying4 _), (trodAll_cons_mk (Below.trod laidOut (by kernel_rfl) (of_decide_eq_true (by kernel_rfl)) k0 bel lt0) (trodAll_cons_mk (Below.trod laidOut (by kernel_rfl) (of_decide_eq_true (by kernel_rfl)) k1 bel lt1) trodAll_mk0)), rfl, bel.frame _, fun h => by cases h⟩
theorem over : Rows.AsmBackSaid :=
  OpenClaim.holds_of_wide 6 Tryz.f6 rfl rfl rfl rfl rfl rfl rfl ⟨rfl, rfl, rfl, rfl, rfl⟩ rfl rfl rfl rfl rfl (by kernel_rfl) Tryz.func6 (by kernel_rfl)
    (of_decide_eq_true (by kernel_rfl)) (by unfold Func.isWrapper; first | (rw [if_pos (by decide +kernel)]; kernel_rfl) | (rw [if_neg (by decide +kernel)]; exact ⟨rfl, rfl⟩))
    (fun os started H enc _ => lifted os started H enc)
/-- The given statement. -/
theorem proved : Rows.AsmBackCardSaid :=
  Claim7.holds_tied_plain_at .later [] [.data, .data, .data, .data, .sentinel, .sentinel, .data, .data, .pinned] true (true, "2bee5fd148fb015520f01933159326b112e4478db675eff5977c33161389b25f") true
    over (fun _ h => by cases h) (by kernel_rfl) (fun _ h => by cases h) asmBack_row_tie rfl ⟨rfl, rfl⟩ (by kernel_rfl) rfl
    (fun f fn hf hfn => by
      obtain rfl : f = 6 := Option.some.inj ((show Tryz.prog.funcNamed "fallow/fallowlaw08.AsmBack" = some 6 by kernel_rfl).symm.trans hf) |>.symm
      obtain rfl : fn = Tryz.f6 := (Option.some.inj (Tryz.func6.symm.trans hfn)).symm
      exact ⟨by kernel_rfl, fun j t ht => by
        rw [Tryz.params6] at ht
        rcases j with _ | _ | j
        · obtain rfl : t = 22 := by simpa using ht.symm
          exact (show Tryz.prog.wantsStandIn 22 = false by kernel_rfl)
        · obtain rfl : t = 9 := by simpa using ht.symm
          exact (show Tryz.prog.wantsStandIn 9 = false by kernel_rfl)
        · simp at ht⟩)
    (by kernel_rfl)
end Go.Proofs.YtdkggahkfheocaaGreatDoor.sback
