/- Contracts of the laws of layer asm: two lists of words that are alike. No statement is proved here. -/
import Derived.Test.YtdkggahkfheocaaGreatDoorAsH
import Derived.Test.YtdkggahkfheocaaGreatDoorAsK
namespace Go.Proofs.YtdkggahkfheocaaGreatDoor
set_option maxRecDepth 100000
open Go.RowKit Go.Lib
set_option linter.unusedVariables false

theorem own_WL {w : World} {base : Nat} {v : Value} {ws : List Int} (h : w.ownsRow base 24 1 v ws.length (ws.map wV)) : ∃ A cap, v = .slice A ws.length cap ∧ ws.length ≤ cap ∧ WL w w.heap.size A ws := by
  obtain ⟨A, cap, rfl, h1, h2⟩ := own_slice h
  refine ⟨A, cap, rfl, h1, fun hn => ?_⟩
  obtain ⟨g, cap', hv, hb, hg⟩ := h.form hn
  simp only [Value.slice.injEq, true_and] at hv
  obtain ⟨rfl, rfl⟩ := hv
  refine ⟨g, 0, rfl, hg, fun j u hu => ?_⟩
  have hj : j < ws.length := by
    rcases Nat.lt_or_ge j ws.length with hlt | hge
    · exact hlt
    · rw [List.getElem?_eq_none hge] at hu; cases hu
  rw [Nat.zero_add, h.cellAt j (by omega), List.getElem?_map, hu]
  rfl
set_option maxHeartbeats 2000000 in
theorem words_same (ws : List Int) (A A' : Option Addr) (cap cap' : Nat) (W : World) (h : WL W W.heap.size A ws) (h' : WL W W.heap.size A' ws) (hl : ws.length ≤ 5000) :
    Calls Tryz.prog 19 #[.slice A ws.length cap, .slice A' ws.length cap'] W fun e w' => e = .returned (.bool true) ∧ Below W.heap.size W w' := by
  have hA := Lib.hid h
  have hA' := Lib.hid h'
  have hl1 : (ws.length : Int) ≤ 5000 := by omega
  have hbb : ((ws.length : Int) == (ws.length : Int)) = true := by simp
  clear h h' hl
  go_enter Tryz.func19, Tryz.ntmps19
  go_wp2
  go_loopw [5] (fun i wr => ∃ p : Nat, p ≤ ws.length ∧ i = .int .i64 p ∧ Hid (Below W.heap.size W wr)) (fun i _ => ws.length - (RowKit.intOf i).toNat)
  case atStart => exact ⟨0, Nat.zero_le _, rfl, Lib.hid (Below.refl _ _)⟩
  case round =>
    obtain ⟨p, hp, rfl, hb⟩ := hrel
    by_cases hlt : p < ws.length
    · obtain ⟨b, off, rfl, hb1, hc⟩ := hA.out (by omega)
      obtain ⟨b', off', rfl, hb2, hc'⟩ := hA'.out (by omega)
      have q1 := hc p ws[p] (List.getElem?_eq_getElem hlt)
      have q2 := hc' p ws[p] (List.getElem?_eq_getElem hlt)
      generalize ws[p] = x at *
      have hpl := Lib.hid (And.intro hp hlt)
      obtain ⟨S, hS0⟩ : ∃ S : World → Prop, S = Below W.heap.size W := ⟨_, rfl⟩
      have hK : ∀ w, S w → Below W.heap.size W w := fun w h => by rw [← hS0]; exact h
      have hS : ∀ u v, S u → Below u.heap.size u v → S v := fun u v h k => by rw [hS0] at h ⊢; exact h.trans (k.mono h.size)
      have s0 : S wr := by rw [hS0]; exact hb.out
      clear hS0
      have e0 : ∀ y : Wd S, y.w.cell? ⟨b, off + p, none⟩ = some (.int .u32 x) := fun y => ((hK _ y.h).cell (p := ⟨b, off + p, none⟩) hb1).trans q1
      have e1 : ∀ y : Wd S, y.w.cell? ⟨b', off' + p, none⟩ = some (.int .u32 x) := fun y => ((hK _ y.h).cell (p := ⟨b', off' + p, none⟩) hb2).trans q2
      have hxx : (x == x) = true := by simp
      have HS := Lib.hid hS
      have HK := Lib.hid hK
      replace s0 := Lib.hid s0
      clear hK hS hp hc hc' q1 q2 hb1 hb2
      go_wp2_with fail
      refine region_cls S (by kernel_rfl) (by kernel_rfl) (HS.out _ _ s0.out (Below.refl _ _).drew) ?_
      repeat (first
        | go_big_quiet_skip
        | (go_big_quiet_want
           go_big_quiet_op
           first
           | go_big_quiet_on
           | (apply Exists.intro
              refine ⟨fun y => ?_, ?_⟩
              · exact rfl
              go_big_quiet_on)))
      refine wpQuiet_nil ?_
      intro y
      have hy := Lib.hid (HK.out _ y.h)
      clear e0 e1 s0 HS HK
      go_wp2
      go_roundw
      case rel => exact ⟨p + 1, by have := hpl.out; omega, by go_num, hy⟩
      case measure => have := hpl.out; simp [RowKit.intOf]; omega
    · go_wp2
      go_ret
      exact ⟨rfl, hb.out⟩
end Go.Proofs.YtdkggahkfheocaaGreatDoor
