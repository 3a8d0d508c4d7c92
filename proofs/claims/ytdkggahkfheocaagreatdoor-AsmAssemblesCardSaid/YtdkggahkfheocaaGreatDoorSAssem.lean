/- Proved: what Assemble answers is what the document says, its words, or what is wrong and where (the card of AsmAssembles): for every input; the listed variables are tied to the program's text. -/
import Derived.Test.YtdkggahkfheocaaGreatDoorAqD
import Derived.Test.YtdkggahkfheocaaGreatDoorAqB
import Derived.Test.YtdkggahkfheocaaGreatDoorAqC
import Derived.Test.YtdkggahkfheocaaGreatDoorAsDs
import Derived.Test.YtdkggahkfheocaaGreatDoorTie
import Derived.Test.YtdkggahkfheocaaGreatDoorCards
import Derived.SevenTiedAt
import Derived.SizedLaws
import Derived.ProofKit
import Derived.OpenShut
import Derived.ShutString
import Derived.ChangeOld
namespace Go.Proofs.YtdkggahkfheocaaGreatDoor.sassem
open Go.ChangeShapes Go.WideShapes Go.ChangeAt Go.RowKit Go.Lib
open Go.ChangeMaps (open_string shut_string)
set_option linter.unusedVariables false
set_option linter.unusedSimpArgs false
set_option maxRecDepth 100000

set_option maxHeartbeats 4000000 in
theorem walk (s : ByteArray) (zs : s.size ≤ reachBytes) (W : World) (hT : T8 W) (hE : HE W) : Calls Tryz.prog 5 #[.string s] W fun e w' => e = .returned (.bool true) ∧ Below W.heap.size W w' := by
  obtain ⟨tx, htx⟩ : ∃ tx : List UInt8, s = ⟨tx.toArray⟩ := ⟨s.data.toList, (Lib.mk_data s).symm⟩
  subst htx
  have htl : tx.length ≤ 9223372036854775807 := by rw [size_mk] at zs; exact Nat.le_trans zs (by decide)
  have hR := Lib.hid (fun w => rasm_any tx w htl)
  have hT' := Lib.hid hT
  have hE' := Lib.hid hE
  cases hR0 : asmL tx with
  | error z =>
    obtain ⟨c, n⟩ := z
    have hA := Lib.hid (asm_err tx c n hR0 htl W hT)
    rw [hR0] at hR
    have hW : Hid (∀ w : World, Calls Tryz.prog 19 #[.slice none 0 0, .slice none 0 0] w fun e w' => e = .returned (.bool true) ∧ Below w.heap.size w w') := Lib.hid (fun w => words_same [] none none 0 0 w (fun hn => absurd hn (by simp)) (fun hn => absurd hn (by simp)) (by simp))
    clear hT hE zs htl hR0
    go_enter Tryz.func5, Tryz.ntmps5
    go_wp2_with fail
    refine hA.out.mono ?_
    rintro e w1 ⟨g, rfl, f1, k1⟩
    have hb1 := Lib.hid k1
    have f1' := Lib.hid f1
    clear f1 k1 hA
    go_wp2_with fail
    refine (hR.out _).mono ?_
    rintro e w2 ⟨g', rfl, f2, k2⟩
    have hb2 := Lib.hid (hb1.out.trans (k2.mono hb1.out.size))
    have f12 := Lib.hid (f1'.out.below k2)
    have f22 := Lib.hid f2
    clear f2 k2 hR hb1 f1'
    go_wp2_with fail
    refine (hW.out _).mono ?_
    rintro e w3 ⟨rfl, k3⟩
    have hb3 := Lib.hid (hb2.out.trans (k3.mono hb2.out.size))
    have f13 := f12.out.below k3
    have f23 := f22.out.below k3
    have hTo := Lib.hid (told_fault c n g g' w3 (hE'.out.below hT'.out hb3.out) f13.2.1 f13.2.2 f23.2.1 f23.2.2)
    clear k3 hW hb2 f12 f22 f13 f23
    go_wp2_with fail
    refine hTo.out.mono ?_
    rintro e w4 ⟨rfl, k4⟩
    have hb4 := Lib.hid (hb3.out.trans (k4.mono hb3.out.size))
    have h5 := Lib.hid (works_any w4 (hT'.out.below hb4.out))
    clear k4 hTo hb3
    go_wp2_with fail
    refine h5.out.mono ?_
    rintro e w5 ⟨rfl, k5⟩
    have hb5 := Lib.hid (hb4.out.trans (k5.mono hb4.out.size))
    go_wp2_with fail
    go_ret
    exact ⟨rfl, hb5.out⟩
  | ok ws =>
    have hA := Lib.hid (asm_good tx ws hR0 htl W hT)
    rw [hR0] at hR
    have hR2 : ∀ w, Calls Tryz.prog 18 #[.string ⟨tx.toArray⟩] w fun e w' => ∃ A cap, e = .returned (.tuple #[.slice A ws.length cap, .pointer none]) ∧ WL w' w'.heap.size A ws ∧ Below w.heap.size w w' ∧ ws.length ≤ 5000 := fun w => (hR.out w).mono fun e w' hp => by
      obtain ⟨v, he, ho, k, hl⟩ := hp
      obtain ⟨A, cap, rfl, -, hw⟩ := own_WL ho
      exact ⟨A, cap, he, hw, k, by omega⟩
    replace hR2 := Lib.hid hR2
    clear hT hE zs htl hR0 hR
    go_enter Tryz.func5, Tryz.ntmps5
    go_wp2_with fail
    refine hA.out.mono ?_
    rintro e w1 ⟨A1, cap1, rfl, l1, k1⟩
    have hb1 := Lib.hid k1
    have l1' := Lib.hid l1
    clear l1 k1 hA
    go_wp2_with fail
    refine (hR2.out _).mono ?_
    rintro e w2 ⟨A2, cap2, rfl, l2, k2, hl⟩
    have hb2 := Lib.hid (hb1.out.trans (k2.mono hb1.out.size))
    have hW := Lib.hid (words_same ws A1 A2 cap1 cap2 w2 ((l1'.out.below k2).more k2.size) l2 hl)
    clear l2 k2 hR2 hb1 l1' hl
    go_wp2_with fail
    refine hW.out.mono ?_
    rintro e w3 ⟨rfl, k3⟩
    have hb3 := Lib.hid (hb2.out.trans (k3.mono hb2.out.size))
    clear k3 hW hb2
    go_wp2_with fail
    refine (told_nil _).mono ?_
    rintro e w4 ⟨rfl, k4⟩
    have hb4 := Lib.hid (hb3.out.trans (k4.mono hb3.out.size))
    have h5 := Lib.hid (works_any w4 (hT'.out.below hb4.out))
    clear k4 hb3
    go_wp2_with fail
    refine h5.out.mono ?_
    rintro e w5 ⟨rfl, k5⟩
    have hb5 := Lib.hid (hb4.out.trans (k5.mono hb4.out.size))
    go_wp2_with fail
    go_ret
    exact ⟨rfl, hb5.out⟩
theorem same_laid : Rows.asmAssemblesRow.laid = laidHL := rfl
theorem lifted (os : Os) (started : os.Started) (H : Type) (enc : TypeId × Value → H) :
    ReturnsInHanded {} Tryz.checked os 5 .any (fun w args => (Rows.asmAssemblesSpec.pre enc Tryz.prog Tryz.f5 [] false w args ∧ laidMetH Tryz.prog Rows.asmAssemblesRow.laid w) ∧ sizedMet enc Tryz.prog Tryz.f5 (OpenSpec.ofChange Rows.asmAssemblesSpec) false w args) (Rows.asmAssemblesSpec.post enc Tryz.prog Tryz.f5 false true false false) := by
  refine change_and_shaped (C := Tryz.checked) (X := fun w _ => laidMetH Tryz.prog Rows.asmAssemblesRow.laid w) (fun _ _ _ hh h => h.of_heap hh) own started (by kernel_rfl) Tryz.func5
    (ChangeSpec.witness_at (enc := enc) (C := Tryz.checked) (os := os) (X := fun w _ => laidMetH Tryz.prog Rows.asmAssemblesRow.laid w) false (laidWorldH os) #[.string ByteArray.empty] 8 rfl (by kernel_rfl) (by kernel_rfl) (by kernel_rfl) (by kernel_rfl) (by kernel_rfl) (laid_metH os _)) ?_
  intro W base args ds gs before hval0 hW _ hsz hL hsh
  have hval : ∀ (j : Nat) t v, Tryz.f5.params[j]? = some t → args[j]? = some v → Value.okWide Tryz.prog W .any base t v := hval0
  have hW' := hW
  obtain ⟨p, q, hA0, hV, rfl, hfz, hnd⟩ := hW
  have hA : DataW.TrodAll enc Tryz.prog W 0 (fun _ => true) true Tryz.f5.params.toList args.toList ds p := hA0
  rw [Tryz.params5] at hA hval
  obtain ⟨v0, vs0, d0, ds0, p0, q0, hargs, rfl, rfl, h0, r0⟩ := trodAll_cons hA
  obtain ⟨rfl, rfl, rfl⟩ := trodAll_nil r0
  obtain rfl : args = #[v0] := by cases args; simp_all
  obtain ⟨rfl, rfl⟩ := trodVars_none hV
  have k0 := h0
  have lt0 : ∀ x ∈ p0, x.block < W.heap.size := by obtain ⟨m, hm⟩ := k0; exact DataW.trod_lt m _ _ _ hm
  obtain ⟨s, rfl, rfl, rfl, ws⟩ := open_string Tryz.underlying9 (hval 0 9 v0 rfl rfl) h0
  have zs := sized_string hsz (j := 0) (t := 9) (by kernel_rfl) rfl
  clear hA0 hval0
  have hP := parts_of_laidH hL hsh
  refine (walk s (Nat.le_trans (Nat.le_of_eq (Lib.size_eq s)) zs) W hP.1 hP.2).mono fun e W' ⟨he, bel⟩ => ?_
  subst he
  exact ⟨_, rfl, _, _, _, [], _, [], hW', trodAll_mk1 (shut_bool Tryz.underlying4 _), (trodAll_cons_mk (Below.trod laidOut (by kernel_rfl) (of_decide_eq_true (by kernel_rfl)) k0 bel lt0) trodAll_mk0), rfl, bel.frame _, fun h => by cases h⟩
theorem over : Rows.AsmAssemblesSaid :=
  OpenClaim.holds_of_wide 5 Tryz.f5 rfl rfl rfl rfl rfl rfl rfl ⟨rfl, rfl, rfl, rfl, rfl⟩ rfl rfl rfl rfl rfl (by kernel_rfl) Tryz.func5 (by kernel_rfl)
    (of_decide_eq_true (by kernel_rfl)) (by unfold Func.isWrapper; first | (rw [if_pos (by decide +kernel)]; kernel_rfl) | (rw [if_neg (by decide +kernel)]; exact ⟨rfl, rfl⟩))
    (fun os started H enc _ => lifted os started H enc)
/-- The given statement. -/
theorem proved : Rows.AsmAssemblesCardSaid :=
  Claim7.holds_tied_plain_at .later [] _ _ _ _
    over (fun _ h => by cases h) (by kernel_rfl) (fun _ h => by cases h) asmAssembles_row_tie rfl ⟨rfl, rfl⟩ (by kernel_rfl) rfl
    (fun f fn hf hfn => by
      obtain rfl : f = 5 := Option.some.inj ((show Tryz.prog.funcNamed "fallow/fallowlaw08.AsmAssembles" = some 5 by kernel_rfl).symm.trans hf) |>.symm
      obtain rfl : fn = Tryz.f5 := (Option.some.inj (Tryz.func5.symm.trans hfn)).symm
      exact ⟨by kernel_rfl, fun j t ht => by
        rw [Tryz.params5] at ht
        rcases j with _ | j
        · obtain rfl : t = 9 := by simpa using ht.symm
          exact (show Tryz.prog.wantsStandIn 9 = false by kernel_rfl)
        · simp at ht⟩)
    (by kernel_rfl)
end Go.Proofs.YtdkggahkfheocaaGreatDoor.sassem
