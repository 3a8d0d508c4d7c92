/- Contracts of layer asm, the program's side: a line is taken. No statement is proved here. -/
import Derived.Test.YtdkggahkfheocaaGreatDoorAsV
namespace Go.Proofs.YtdkggahkfheocaaGreatDoor
set_option maxRecDepth 100000
open Go.RowKit Go.Lib
set_option linter.unusedVariables false

def TakePost8 (W : World) (X : List Rw) (gs mb : Nat) (c : Int) (st : AS) (e : Ending) (w' : World) : Prop :=
  e = .returned (.int .i64 c) ∧ ∃ vw vj, PS W X gs mb st.words (jumpsFrom 0 st.its) st.labs vw vj w'
theorem words_app (st : AS) (w : Int) (lab : List UInt8) (n : Nat) : ({ st with its := st.its ++ [(w, lab, n)] } : AS).words = st.words ++ [w] := by simp [AS.words]
theorem words_len (st : AS) : st.words.length = st.its.length := by simp [AS.words]
theorem jumps_add (st : AS) (w : Int) (lab : List UInt8) (n : Nat) : jumpsFrom 0 (st.its ++ [(w, lab, n)]) = if lab = [] then jumpsFrom 0 st.its else jumpsFrom 0 st.its ++ [(n, st.words.length, lab)] := by
  rw [jumps_app, words_len, Nat.zero_add]
  split <;> simp
set_option maxHeartbeats 8000000 in
theorem take_any (W w : World) (X : List Rw) (gs mb : Nat) (st : AS) (vw vj : Value) (h : PS W X gs mb st.words (jumpsFrom 0 st.its) st.labs vw vj w) (hT : T8 W) (n : Nat) (hn : n ≤ 40000) (l : List UInt8) (hl : l.length ≤ 32768) (hw : st.its.length ≤ 4096) (hlb : st.labs.length ≤ 40000) :
    Calls Tryz.prog 42 #[.int .i64 n, .string ⟨l.toArray⟩, .pointer (some ⟨gs, 0, none⟩)] w (TakePost8 W X gs mb (takeL st n l).1 (takeL st n l).2) := by
  have hC := Tryz.strings_CutSuffix ⟨l.toArray⟩ ⟨#[58]⟩ w (by rw [size_mk]; omega)
  have e1 : Lib.trimSuffix (⟨l.toArray⟩ : ByteArray).data.toList (⟨#[58]⟩ : ByteArray).data.toList = trimSuffix l [58] := rfl
  have e2 : Lib.hasSuffix (⟨l.toArray⟩ : ByteArray).data.toList (⟨#[58]⟩ : ByteArray).data.toList = hasSuffix l [58] := rfl
  rw [e1, e2] at hC
  have hjl := Nat.le_trans (jumps_len st.its 0) hw
  have hwl : st.words.length ≤ 4096 := by rw [words_len]; exact hw
  have htl : (trimSuffix l [58]).length ≤ 32768 := Nat.le_trans (Lib.trimSuffix_le l [58]) hl
  have hLa := label_any W w X gs mb st.words (jumpsFrom 0 st.its) st.labs vw vj h (trimSuffix l [58]) htl hlb hwl
  have hWo := word_any W w X gs mb st.words (jumpsFrom 0 st.its) st.labs vw vj h hT n hn l hl hwl hjl
  have hjs := fun x lab => jumps_add st x lab n
  have hwa := fun x lab => words_app st x lab n
  obtain ⟨R, hR⟩ : ∃ R, R = takeL st n l := ⟨_, rfl⟩
  rw [← hR]
  unfold takeL at hR
  obtain ⟨D, hD⟩ : ∃ D, D = TakePost8 W X gs mb R.1 R.2 := ⟨_, rfl⟩
  rw [← hD]
  replace hD := Lib.hid hD
  have H0 := Lib.hid h
  replace hC := Lib.hid hC
  have hnn := Lib.hid hn
  have hll := Lib.hid hl
  clear hT hlb hl e1 e2 htl h
  by_cases h0 : l = []
  · rw [if_pos h0] at hR
    replace hR := Lib.hid hR
    subst h0
    clear hLa hWo hn hw
    generalize trimSuffix [] [58] = t at *
    generalize hasSuffix [] [58] = b at *
    go_enter Tryz.func42, Tryz.ntmps42
    go_wp2_with (refine hC.out.mono ?_; rintro e w1 ⟨rfl, rfl⟩)
    rw [hD.out, hR.out]
    exact (show _ ∧ _ from ⟨rfl, _, _, H0.out⟩)
  rw [if_neg h0] at hR
  obtain ⟨f0, f1⟩ := list_ne_empty h0
  cases hb : hasSuffix l [58] with
  | true =>
    rw [if_pos hb] at hR
    rw [hb] at hC
    generalize trimSuffix l [58] = t at *
    generalize (⟨l.toArray⟩ : ByteArray) = q at *
    unfold LabPost at hLa
    rw [words_len] at hLa
    clear hWo hn hw hb h0
    by_cases h1 : nameB t = true
    · rw [if_pos h1] at hR
      cases h2 : (labF st.labs t).isSome with
      | true =>
        rw [h2] at hR
        have hLb : Calls Tryz.prog 44 #[.pointer (some ⟨gs, 0, none⟩), .string ⟨t.toArray⟩] w fun e w' => e = .returned (.int .i64 11) ∧ PS W X gs mb st.words (jumpsFrom 0 st.its) st.labs vw vj w' :=
          hLa.mono fun e w' k => ⟨by rw [k.1, h2, if_pos h1]; rfl, by have := k.2; rw [h2, if_neg (by simp)] at this; exact this⟩
        replace hLb := Lib.hid hLb
        clear hLa h1 h2
        go_enter Tryz.func42, Tryz.ntmps42
        go_wp2_with (first
          | (go_at_call 43; refine hC.out.mono ?_; rintro e w1 ⟨rfl, rfl⟩)
          | (go_at_call 44; refine hLb.out.mono ?_; rintro e w2 ⟨rfl, K2⟩; replace K2 := Lib.hid K2))
        rw [hD.out, hR]
        exact (show _ ∧ _ from ⟨rfl, _, _, K2.out⟩)
      | false =>
        rw [h2] at hR
        have hLb : Calls Tryz.prog 44 #[.pointer (some ⟨gs, 0, none⟩), .string ⟨t.toArray⟩] w fun e w' => e = .returned (.int .i64 0) ∧ PS W X gs mb st.words (jumpsFrom 0 st.its) ((t, st.its.length) :: st.labs) vw vj w' :=
          hLa.mono fun e w' k => ⟨by rw [k.1, h2, if_pos h1]; rfl, by have := k.2; rw [h2, if_pos ⟨h1, rfl⟩] at this; exact this⟩
        replace hLb := Lib.hid hLb
        clear hLa h1 h2
        go_enter Tryz.func42, Tryz.ntmps42
        go_wp2_with (first
          | (go_at_call 43; refine hC.out.mono ?_; rintro e w1 ⟨rfl, rfl⟩)
          | (go_at_call 44; refine hLb.out.mono ?_; rintro e w2 ⟨rfl, K2⟩; replace K2 := Lib.hid K2))
        rw [hD.out, hR]
        exact (show _ ∧ _ from ⟨rfl, _, _, K2.out⟩)
    · rw [if_neg h1] at hR
      have hLb : Calls Tryz.prog 44 #[.pointer (some ⟨gs, 0, none⟩), .string ⟨t.toArray⟩] w fun e w' => e = .returned (.int .i64 4) ∧ PS W X gs mb st.words (jumpsFrom 0 st.its) st.labs vw vj w' :=
        hLa.mono fun e w' k => ⟨by rw [k.1, if_neg h1], by have := k.2; rw [if_neg (fun k => h1 k.1)] at this; exact this⟩
      replace hLb := Lib.hid hLb
      clear hLa h1
      go_enter Tryz.func42, Tryz.ntmps42
      go_wp2_with (first
        | (go_at_call 43; refine hC.out.mono ?_; rintro e w1 ⟨rfl, rfl⟩)
        | (go_at_call 44; refine hLb.out.mono ?_; rintro e w2 ⟨rfl, K2⟩; replace K2 := Lib.hid K2))
      rw [hD.out, hR]
      exact (show _ ∧ _ from ⟨rfl, _, _, K2.out⟩)
  | false =>
    rw [if_neg (by rw [hb]; decide)] at hR
    rw [hb] at hC
    generalize trimSuffix l [58] = t at *
    generalize readP (wordsL l) = P at *
    replace hWo := Lib.hid hWo
    generalize (⟨l.toArray⟩ : ByteArray) = q at *
    clear hLa hn hb h0
    go_enter Tryz.func42, Tryz.ntmps42
    go_wp2_with (first
      | (go_at_call 43; refine hC.out.mono ?_; rintro e w1 ⟨rfl, rfl⟩)
      | (go_at_call 45; refine hWo.out.mono ?_; rintro e w2 ⟨rfl, vw2, vj2, K2⟩; replace K2 := Lib.hid K2))
    rw [hD.out]
    cases P with
    | none =>
      refine (show _ ∧ _ from ⟨?_, vw2, vj2, ?_⟩)
      · rw [hR]; rfl
      · rw [hR]; exact K2.out
    | some z =>
      obtain ⟨x, lab⟩ := z
      simp only at hR
      by_cases h4 : st.its.length = 4096
      · have hV : wordV st.words (jumpsFrom 0 st.its) n (some (x, lab)) = (3, st.words, jumpsFrom 0 st.its) := by simp only [wordV]; rw [if_pos (by rw [words_len]; exact h4)]
        have K := K2.out
        rw [hV] at K
        rw [if_pos h4] at hR
        refine (show _ ∧ _ from ⟨?_, vw2, vj2, ?_⟩)
        · rw [hR, hV]; rfl
        · rw [hR]; exact K
      · have hV : wordV st.words (jumpsFrom 0 st.its) n (some (x, lab)) = (0, st.words ++ [x], if lab = [] then jumpsFrom 0 st.its else jumpsFrom 0 st.its ++ [(n, st.words.length, lab)]) := by simp only [wordV]; rw [if_neg (by rw [words_len]; exact h4)]
        have K := K2.out
        rw [hV] at K
        rw [if_neg h4] at hR
        refine (show _ ∧ _ from ⟨?_, vw2, vj2, ?_⟩)
        · rw [hR, hV]; rfl
        · rw [hR]
          simp only
          rw [hjs, hwa]
          exact K
end Go.Proofs.YtdkggahkfheocaaGreatDoor
