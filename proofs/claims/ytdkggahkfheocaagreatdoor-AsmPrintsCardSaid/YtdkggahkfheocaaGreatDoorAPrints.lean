/- Proved: a word's text, and the texts of many words, are as the document says (the card of AsmPrints): for every input; the listed variables are tied to the program's text. -/
import Derived.Test.YtdkggahkfheocaaGreatDoorAsF
import Derived.Test.YtdkggahkfheocaaGreatDoorAsH
import Derived.Test.YtdkggahkfheocaaGreatDoorAsS
import Derived.Test.YtdkggahkfheocaaGreatDoorNums
import Derived.Test.YtdkggahkfheocaaGreatDoorTie
import Derived.Test.YtdkggahkfheocaaGreatDoorCards
import Derived.SevenTiedAt
import Derived.ProofKit
import Derived.OpenShut
import Derived.ShutString
import Derived.ChangeOld
namespace Go.Proofs.YtdkggahkfheocaaGreatDoor.aprints
open Go.ChangeShapes Go.WideShapes Go.ChangeAt Go.RowKit
open Go.ChangeMaps (open_string shut_string)
set_option linter.unusedVariables false
set_option maxRecDepth 100000

set_option maxHeartbeats 2000000 in
theorem walk {H : Type} {enc : TypeId × Value → H} (v0 : Value) {d0 : DataW H} {p0 : List MemPlace} (W : World)
    (hv : Value.okWide Tryz.prog W .any 0 22 v0) (hd : DataW.Trod enc Tryz.prog W 0 (fun _ => true) true 22 v0 d0 p0) (hT : T8 W) :
    Calls Tryz.prog 3 #[v0] W fun e w' => e = .returned (.bool true) ∧ Below W.heap.size W w' := by
  obtain ⟨A, len, cap, rfl, hcap, hm, hP⟩ := nums_of Tryz.underlying22 Tryz.underlying24 (by kernel_rfl) hv hd
  have hlen : len ≤ 9223372036854775807 := by unfold maxLen at hm; omega
  have hcap' : (len : Int) ≤ cap := by omega
  clear hv hd hm
  obtain ⟨ws, hws, hA, hw⟩ := words_of (hP.mono (Nat.min_le_left len 100))
  have hl : ws.length ≤ 100 := by omega
  replace hA := Lib.hid hA
  replace hw := Lib.hid hw
  have hT' := Lib.hid hT
  have hund : undef = Value.tuple #[] := rfl
  clear hT hP
  go_enter Tryz.func3, Tryz.ntmps3
  go_upto_region 1 with (fail)
  go_cut [0] (fun v w' => v = .slice A ws.length cap ∧ W = w')
  case rest =>
    obtain ⟨rfl, rfl⟩ := hcut
    have hll := Lib.hid hl
    clear hws
    have hb0 := Lib.hid (Below.refl W.heap.size W)
    go_wp2_with fail
    go_loopw [3] (fun k wr => ∃ p : Nat, p ≤ ws.length ∧ k = .int .i64 p ∧ Hid (Below W.heap.size W wr)) (fun k _ => ws.length - (RowKit.intOf k).toNat)
    case atStart => exact ⟨0, Nat.zero_le _, rfl, hb0⟩
    case round =>
      obtain ⟨p, hp, rfl, hb⟩ := hrel
      by_cases hlt : p < ws.length
      · obtain ⟨b, off, rfl, hbb, hc⟩ := hA.out (by omega)
        have hcp := hc p ws[p] (List.getElem?_eq_getElem hlt)
        have hbd := hw.out ws[p] (List.getElem_mem hlt)
        generalize ws[p] = x at *
        have hpl := Lib.hid (And.intro hp hlt)
        obtain ⟨S, hS0⟩ : ∃ S : World → Prop, S = Below W.heap.size W := ⟨_, rfl⟩
        have hK : ∀ w, S w → Below W.heap.size W w := fun w h => by rw [← hS0]; exact h
        have hS : ∀ u v, S u → Below u.heap.size u v → S v := fun u v h k => by rw [hS0] at h ⊢; exact h.trans (k.mono h.size)
        have s0 : S wr := by rw [hS0]; exact hb.out
        clear hS0
        have q1 := Lib.hid (cls_call (S := S) fun w hw => (print_any x hbd.1 hbd.2 w (hT'.out.below (hK w hw))).mono fun e u k => (⟨k.1, hS _ _ hw k.2⟩ : _ ∧ S u))
        have q2 := Lib.hid (cls_call (S := S) fun w hw => (rprint_any x hbd.1 hbd.2 w).mono fun e u k => (⟨k.1, hS _ _ hw k.2⟩ : _ ∧ S u))
        have e0 : ∀ y : Wd S, y.w.cell? ⟨b, off + p, none⟩ = some (.int .u32 x) := fun y => ((hK _ y.h).cell (p := ⟨b, off + p, none⟩) hbb).trans hcp
        have HS := Lib.hid hS
        have HK := Lib.hid hK
        replace s0 := Lib.hid s0
        clear hK hS hbd hp hc hcp
        go_wp2_with fail
        refine region_cls S (by kernel_rfl) (by kernel_rfl) (HS.out _ _ s0.out (Below.refl _ _).drew) ?_
        repeat (first
          | go_big_quiet_skip
          | (go_big_quiet_want
             go_big_quiet_op
             first
             | go_big_quiet_on
             | (apply Exists.intro
                refine ⟨fun y => ?_, ?_⟩
                · first | exact rfl | with_reducible exact q1.out y | with_reducible exact q2.out y
                go_big_quiet_on)))
        refine wpQuiet_nil ?_
        intro y
        have hy := Lib.hid (HK.out _ y.h)
        clear q1 q2 e0 s0 HS HK
        go_wp2
        go_roundw
        case rel => exact ⟨p + 1, by have := hpl.out; omega, by go_num, hy⟩
        case measure => have := hpl.out; simp [RowKit.intOf]; omega
      · have hpe : p = ws.length := by omega
        have hT2 := Lib.hid (hT'.out.below hb.out)
        have hA2 : WL wr wr.heap.size A ws := fun hn => by
          obtain ⟨b, off, e, hbb, hc⟩ := hA.out hn
          exact ⟨b, off, e, Nat.lt_of_lt_of_le hbb hb.out.size, fun j u hj => ((hb.out.cell (p := ⟨b, off + j, none⟩) hbb)).trans (hc j u hj)⟩
        have h1 := Lib.hid (dis_any ws A cap wr hT2.out hA2 hw.out hll.out)
        replace hA2 := Lib.hid hA2
        go_wp2_with fail
        refine h1.out.mono ?_
        rintro e w1 ⟨rfl, k1⟩
        have hA3 : WL w1 w1.heap.size A ws := fun hn => by
          obtain ⟨b, off, e, hbb, hc⟩ := hA2.out hn
          exact ⟨b, off, e, Nat.lt_of_lt_of_le hbb k1.size, fun j u hj => ((k1.cell (p := ⟨b, off + j, none⟩) hbb)).trans (hc j u hj)⟩
        have h2 := Lib.hid (rdis_any ws A cap w1 hA3 hw.out hll.out)
        replace hT2 := Lib.hid (hT2.out.below k1)
        have hb1 := Lib.hid (hb.out.trans (k1.mono hb.out.size))
        clear h1 hA2 hA3 k1 hb
        go_wp2_with fail
        refine h2.out.mono ?_
        rintro e w2 ⟨rfl, k2⟩
        have h3 := Lib.hid (works_any w2 (hT2.out.below k2))
        have hb2 := Lib.hid (hb1.out.trans (k2.mono hb1.out.size))
        clear h2 k2 hb1 hT2
        go_wp2_with fail
        refine h3.out.mono ?_
        rintro e w3 ⟨rfl, k3⟩
        have hb3 := Lib.hid (hb2.out.trans (k3.mono hb2.out.size))
        clear h3 k3 hb2
        go_wp2_with fail
        go_ret
        exact ⟨rfl, hb3.out⟩
  case first =>
    go_wp2
    go_meet
    exact ⟨by rw [hws]; congr 1; omega, rfl⟩

set_option maxRecDepth 100000 in
theorem lifted (os : Os) (started : os.Started) (H : Type) (enc : TypeId × Value → H) :
    ReturnsInHanded {} Tryz.checked os 3 .any (fun w args => (Rows.asmPrintsSpec.pre enc Tryz.prog Tryz.f3 [] false w args ∧ laidMetH Tryz.prog Rows.asmPrintsRow.laid w) ∧ sizedMet enc Tryz.prog Tryz.f3 (OpenSpec.ofChange Rows.asmPrintsSpec) false w args) (Rows.asmPrintsSpec.post enc Tryz.prog Tryz.f3 false true false false) := by
  refine change_and_shaped (C := Tryz.checked) (X := fun w _ => laidMetH Tryz.prog Rows.asmPrintsRow.laid w) (fun _ _ _ hh h => h.of_heap hh) own started (by kernel_rfl) Tryz.func3
    (ChangeSpec.witness_at (enc := enc) (C := Tryz.checked) (os := os) (X := fun w _ => laidMetH Tryz.prog Rows.asmPrintsRow.laid w) false (laidWorld os) #[.slice none 0 0] 8 rfl (by kernel_rfl) (by kernel_rfl) (by kernel_rfl) (by kernel_rfl) (by kernel_rfl) (laid_met os _)) ?_
  intro W base args ds gs before hval0 hW _ hsz hL hsh
  have hval : ∀ (j : Nat) t v, Tryz.f3.params[j]? = some t → args[j]? = some v → Value.okWide Tryz.prog W .any base t v := hval0
  have hW' := hW
  obtain ⟨p, q, hA0, hV, rfl, hfz, hnd⟩ := hW
  have hA : DataW.TrodAll enc Tryz.prog W 0 (fun _ => true) true Tryz.f3.params.toList args.toList ds p := hA0
  rw [Tryz.params3] at hA hval
  obtain ⟨v0, vs0, d0, ds0, p0, q0, hargs, rfl, rfl, h0, r0⟩ := trodAll_cons hA
  obtain ⟨rfl, rfl, rfl⟩ := trodAll_nil r0
  obtain rfl : args = #[v0] := by cases args; simp_all
  obtain ⟨rfl, rfl⟩ := trodVars_none hV
  have k0 := h0
  have lt0 : ∀ x ∈ p0, x.block < W.heap.size := by obtain ⟨m, hm⟩ := k0; exact DataW.trod_lt m _ _ _ hm
  clear hA0 hval0
  refine (walk v0 W (hval 0 22 v0 rfl rfl) k0 (tabs_of_laid hL hsh)).mono fun e W' ⟨he, bel⟩ => ?_
  subst he
  exact ⟨_, rfl, _, _, _, [], _, [], hW', trodAll_mk1 (shut_bool Tryz.underlying4 _), (trodAll_cons_mk (Below.trod laidOut (by kernel_rfl) (of_decide_eq_true (by kernel_rfl)) k0 bel lt0) trodAll_mk0), rfl, bel.frame _, fun h => by cases h⟩
theorem over : Rows.AsmPrintsSaid :=
  OpenClaim.holds_of_wide 3 Tryz.f3 rfl rfl rfl rfl rfl rfl rfl ⟨rfl, rfl, rfl, rfl, rfl⟩ rfl rfl rfl rfl rfl (by kernel_rfl) Tryz.func3 (by kernel_rfl)
    (of_decide_eq_true (by kernel_rfl)) (by unfold Func.isWrapper; first | (rw [if_pos (by decide +kernel)]; kernel_rfl) | (rw [if_neg (by decide +kernel)]; exact ⟨rfl, rfl⟩))
    (fun os started H enc _ => lifted os started H enc)
/-- The given statement. -/
theorem proved : Rows.AsmPrintsCardSaid :=
  Claim7.holds_tied_plain_at .later [] [.data, .data, .data, .data, .sentinel, .sentinel, .data, .data, .pinned] true (true, "2bee5fd148fb015520f01933159326b112e4478db675eff5977c33161389b25f") true
    over (fun _ h => by cases h) (by kernel_rfl) (fun _ h => by cases h) asmPrints_row_tie rfl ⟨rfl, rfl⟩ (by kernel_rfl) rfl
    (fun f fn hf hfn => by
      obtain rfl : f = 3 := Option.some.inj ((show Tryz.prog.funcNamed "fallow/fallowlaw08.AsmPrints" = some 3 by kernel_rfl).symm.trans hf) |>.symm
      obtain rfl : fn = Tryz.f3 := (Option.some.inj (Tryz.func3.symm.trans hfn)).symm
      exact ⟨by kernel_rfl, fun j t ht => by
        rw [Tryz.params3] at ht
        rcases j with _ | j
        · obtain rfl : t = 22 := by simpa using ht.symm
          exact (show Tryz.prog.wantsStandIn 22 = false by kernel_rfl)
        · simp at ht⟩)
    (by kernel_rfl)
end Go.Proofs.YtdkggahkfheocaaGreatDoor.aprints
