/- Questions, as derive asks them: closures that tell a truth and write nothing old. Contracts of open, all and of what they make. No statement is proved here. -/
import Derived.Test.YthniimefocjamaaCapP
import Derived.Test.YthniimefocjamaaCapK
import Derived.Test.YthniimefocjamaaCls
import Derived.Deep.LoopGhost
namespace Go.Proofs.Ythniimefocjamaa
open Go.RowKit
set_option linter.unusedVariables false

/-- A question: called in whatever world came of this one, it tells b, and writes nothing that is old. -/
def Ques (w : World) (v : Value) (b : Bool) : Prop := ∃ f caps, v = .func (.func f) #[] caps ∧ (∀ w', (callFunc f caps).run Try.prog w' = .ok (.enter f caps) w') ∧ ∀ w', Below w.heap.size w w' → Calls Try.prog f caps w' fun e w'' => e = .returned (.bool b) ∧ Below w'.heap.size w' w''
theorem Ques.below {w w1 : World} {v : Value} {b : Bool} (h : Ques w v b) (k : Below w.heap.size w w1) : Ques w1 v b :=
  let ⟨f, caps, e, cf, c⟩ := h
  ⟨f, caps, e, cf, fun w' k' => c w' (k.trans (k'.mono k.size))⟩
theorem Ques.drew {w : World} {v : Value} {b : Bool} (h : Ques w v b) : Ques w.drew v b := h.below (Below.refl _ _).drew
/-- What a call leaves that tells a question. -/
def QPost (W : World) (b : Bool) (e : Ending) (w' : World) : Prop := ∃ v, e = .returned v ∧ Ques w' v b ∧ Below W.heap.size W w'

theorem pOpen1_any (bx : Nat) (cu e b t pm ty rs : Nat) (va : Bool) (w : World) (H : CapAt w bx cu e b t pm ty rs va) :
    Calls Try.prog 86 #[.pointer (some ⟨bx, 0, none⟩)] w fun e w' => e = .returned (.bool (va && decide (ty = 0))) ∧ Below w.heap.size w w' := by
  obtain ⟨q0, q1, q2, q3, q4, q5, q6, q7⟩ := H
  cases va
  · go_enter Try.func86, Try.ntmps86
    go_wp2
    go_ret
    exact ⟨rfl, by go_grown⟩
  · go_enter Try.func86, Try.ntmps86
    go_wp2
    go_ret
    refine ⟨ret_bool ?_, by go_grown⟩
    rw [Bool.eq_iff_iff]; simp

theorem pOpen_any (cu e b t pm ty rs : Nat) (va : Bool) (W : World) : Calls Try.prog 59 #[.agg #[.int .u32 cu, .int .u8 e, .int .u16 b, .int .u16 t, .int .u16 pm, .int .u16 ty, .int .u32 rs, .bool va]] W (QPost W (va && decide (ty = 0))) := by
  have hQ : Ques (W.alloc (.cells #[.int .u32 cu, .int .u8 e, .int .u16 b, .int .u16 t, .int .u16 pm, .int .u16 ty, .int .u32 rs, .bool va] 25)) (.func (.func 86) #[] #[.pointer (some ⟨W.heap.size, 0, none⟩)]) (va && decide (ty = 0)) :=
    ⟨_, _, rfl, fun w' => by kernel_rfl, fun w' k => pOpen1_any _ _ _ _ _ _ _ _ _ w' ((CapAt.make W cu e b t pm ty rs va).below k (by simp))⟩
  replace hQ := Lib.hid hQ
  go_enter Try.func59, Try.ntmps59
  go_wp2_with fail
  go_ret
  exact ⟨_, rfl, hQ.out, by go_grown⟩

/-- Questions that lie one behind the other. -/
def QsAt (w : World) (sb : Nat) (qs : List (Value × Bool)) : Prop := ∀ j p, qs[j]? = some p → w.cell? ⟨sb, j, none⟩ = some p.1 ∧ Ques w p.1 p.2
theorem QsAt.below {w w1 : World} {sb : Nat} {qs : List (Value × Bool)} (h : QsAt w sb qs) (k : Below w.heap.size w w1) (hs : sb < w.heap.size) : QsAt w1 sb qs :=
  fun j p hp => ⟨(k.cell (p := ⟨sb, j, none⟩) hs).trans (h j p hp).1, (h j p hp).2.below k⟩

/-- What a call leaves that tells a truth and writes nothing old. -/
def BPost (W : World) (b : Bool) (e : Ending) (w' : World) : Prop := e = .returned (.bool b) ∧ Below W.heap.size W w'

theorem pAll1_any (bx sb : Nat) (qs : List (Value × Bool)) (w : World) (hb : w.cell? ⟨bx, 0, none⟩ = some (.slice (some ⟨sb, 0, none⟩) qs.length qs.length)) (hn : qs.length ≤ 100) (hs : sb < w.heap.size) (hq : QsAt w sb qs) :
    Calls Try.prog 85 #[.pointer (some ⟨bx, 0, none⟩)] w (BPost w (qs.all (·.2))) := by
  have hQ := Lib.hid hq
  clear hq
  go_enter Try.func85, Try.ntmps85
  go_wp2_with fail
  go_loopw [6] (fun i wr => ∃ j : Nat, j ≤ qs.length ∧ i = .int .i64 j ∧ (∀ p ∈ qs.take j, p.2 = true) ∧ Below w.heap.size w wr) (fun i _ => qs.length - (intOf i).toNat)
  case atStart => exact ⟨0, by omega, rfl, by simp, Below.refl _ _⟩
  case round =>
    obtain ⟨j, hj, rfl, hall, hbl⟩ := hrel
    by_cases hlt : j < qs.length
    · obtain ⟨p, hp⟩ : ∃ p, qs[j]? = some p := ⟨qs[j], List.getElem?_eq_getElem hlt⟩
      obtain ⟨c0, hc⟩ := hQ.out j p hp
      replace c0 : wr.cell? ⟨sb, j, none⟩ = some p.1 := (hbl.cell (p := ⟨sb, j, none⟩) hs).trans c0
      replace hc := hc.below hbl
      have htk : qs.take (j + 1) = qs.take j ++ [p] := by rw [List.take_add_one, hp]; rfl
      have hmem : p ∈ qs := List.mem_of_getElem? hp
      obtain ⟨v, b⟩ := p
      obtain ⟨f, caps, rfl, hcf, c⟩ := hc
      dsimp only at c0 c
      have hbs := hbl.size
      replace hall := Lib.hid hall
      replace htk := Lib.hid htk
      replace hmem := Lib.hid hmem
      replace hp := Lib.hid hp
      replace hbl := Lib.hid hbl
      replace c := Lib.hid c
      cases b
      · have hF : qs.all (·.2) = false := by
          rw [List.all_eq_false]; exact ⟨_, hmem.out, by simp⟩
        replace hF := Lib.hid hF
        go_wp2_with fail
        refine (c.out _ (Below.refl _ _)).mono ?_
        rintro e w2 ⟨rfl, h2⟩
        replace h2 := Lib.hid (hbl.out.trans (h2.mono hbs))
        go_wp2_with fail
        go_ret
        exact ⟨ret_bool hF.out.symm, h2.out⟩
      · go_wp2_with fail
        refine (c.out _ (Below.refl _ _)).mono ?_
        rintro e w2 ⟨rfl, h2⟩
        replace h2 := Lib.hid (hbl.out.trans (h2.mono hbs))
        go_wp2_with fail
        go_roundw
        case rel =>
          refine ⟨j + 1, by omega, by go_num, ?_, h2.out⟩
          intro p hp
          rw [htk.out] at hp
          rcases List.mem_append.1 hp with hp | hp
          · exact hall.out p hp
          · simp at hp; subst hp; rfl
        case measure => simp [intOf]; omega
    · obtain rfl : j = qs.length := by omega
      rw [List.take_length] at hall
      have hT : qs.all (·.2) = true := by rw [List.all_eq_true]; exact fun p hp => hall p hp
      replace hT := Lib.hid hT
      replace hbl := Lib.hid hbl
      clear hall
      go_wp2_with fail
      go_ret
      exact ⟨ret_bool hT.out.symm, hbl.out⟩

theorem pAll_any (sb : Nat) (qs : List (Value × Bool)) (W : World) (hn : qs.length ≤ 100) (hs : sb < W.heap.size) (hq : QsAt W sb qs) :
    Calls Try.prog 58 #[.slice (some ⟨sb, 0, none⟩) qs.length qs.length] W (QPost W (qs.all (·.2))) := by
  have hb0 := (Below.refl W.heap.size W).alloc (Nat.le_refl _) (.cells #[.slice (some ⟨sb, 0, none⟩) qs.length qs.length] 103)
  have hc : (W.alloc (.cells #[.slice (some ⟨sb, 0, none⟩) qs.length qs.length] 103)).cell? ⟨W.heap.size, 0, none⟩ = some (.slice (some ⟨sb, 0, none⟩) qs.length qs.length) := by simp [go_sem]
  have hz : W.heap.size < (W.alloc (.cells #[.slice (some ⟨sb, 0, none⟩) qs.length qs.length] 103)).heap.size := by simp
  have hQ : Ques (W.alloc (.cells #[.slice (some ⟨sb, 0, none⟩) qs.length qs.length] 103)) (.func (.func 85) #[] #[.pointer (some ⟨W.heap.size, 0, none⟩)]) (qs.all (·.2)) :=
    ⟨_, _, rfl, fun w' => by kernel_rfl, fun w' k => pAll1_any _ sb qs w' ((k.cell (p := ⟨W.heap.size, 0, none⟩) hz).trans hc) hn (by have := k.size; omega) ((hq.below hb0 hs).below k (by omega))⟩
  replace hQ := Lib.hid hQ
  clear hb0 hc hz hq
  go_enter Try.func58, Try.ntmps58
  go_wp2_with fail
  go_ret
  exact ⟨_, rfl, hQ.out, by go_grown⟩
end Go.Proofs.Ythniimefocjamaa
