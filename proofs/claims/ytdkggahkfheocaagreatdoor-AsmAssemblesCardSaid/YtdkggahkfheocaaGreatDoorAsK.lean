/- Contracts of layer asm, the program's side: the word of a line. No statement is proved here. -/
import Derived.Test.YtdkggahkfheocaaGreatDoorAsQ
import Derived.Test.YtdkggahkfheocaaGreatDoorAsJ
namespace Go.Proofs.YtdkggahkfheocaaGreatDoor
set_option maxRecDepth 100000
open Go.RowKit Go.Lib
set_option linter.unusedVariables false

theorem rawW_low {l : List UInt8} {w : Int} (h : rawW l = some w) : 0 ≤ w ∧ w < 4294967296 := by
  unfold rawW at h
  split at h
  · split at h
    · rename_i hb; obtain rfl := Option.some.inj h; exact hb
    · cases h
  · cases h
theorem readP_low {ts : List (List UInt8)} {w : Int} {lab : List UInt8} (h : readP ts = some (w, lab)) : 0 ≤ w ∧ w < 4294967296 := by
  unfold readP at h
  split at h
  · unfold rawR at h
    split at h
    · rename_i v hv
      split at h
      · obtain ⟨rfl, -⟩ := Prod.mk.inj (Option.some.inj h); exact rawW_low hv
      · cases h
    · cases h
  · unfold insR at h
    split at h
    · split at h
      · rename_i hm
        obtain ⟨rfl, -⟩ := Prod.mk.inj (Option.some.inj h)
        exact enc_lt hm.1
      · cases h
    · cases h
/-- The word of a text, and what is wrong. -/
def lineV (l : List UInt8) : Int × Int := match readP (wordsL l) with
  | some (w, _) => if printL w = l then (w, 0) else (0, 4)
  | none => (0, 4)
set_option maxHeartbeats 2000000 in
theorem line_any (l : List UInt8) (W : World) (hT : T8 W) (hl : l.length ≤ 140737488355328) : Calls Tryz.prog 15 #[.string ⟨l.toArray⟩] W fun e w' => e = .returned (.tuple #[.int .u32 (lineV l).1, .int .i64 (lineV l).2]) ∧ Below W.heap.size W w' := by
  have hR := read_any l W hT hl
  unfold lineV
  unfold ReadPost at hR
  have hT' := Lib.hid hT
  cases hr : readP (wordsL l) with
  | none =>
    rw [hr] at hR
    replace hR := Lib.hid hR
    clear hT hl hr
    go_enter Tryz.func15, Tryz.ntmps15
    go_wp2_with (refine hR.out.mono ?_; rintro e w1 ⟨rfl, k1⟩; replace k1 := Lib.hid k1)
    go_ret2
    exact ⟨rfl, k1.out⟩
  | some z =>
    obtain ⟨x, lab⟩ := z
    rw [hr] at hR
    have hx := readP_low hr
    have hP := fun w h => print_any x hx.1 hx.2 w h
    replace hR := Lib.hid hR
    replace hP := Lib.hid hP
    clear hT hl hr
    simp only
    by_cases he : printL x = l
    · rw [if_pos he]
      rw [he] at hP
      clear he hx
      go_enter Tryz.func15, Tryz.ntmps15
      go_wp2_with (first
        | (go_at_call 39; refine hR.out.mono ?_; rintro e w1 ⟨rfl, k1⟩; replace k1 := Lib.hid k1)
        | (go_at_call 10; refine (hP.out _ (hT'.out.below k1.out)).mono ?_; rintro e w2 ⟨rfl, k2⟩; replace k2 := Lib.hid (k1.out.trans (k2.mono k1.out.size))))
      go_ret2
      exact ⟨rfl, k2.out⟩
    · rw [if_neg he]
      have hf : (printL x == l) = false := by simpa using he
      have hf2 : (printL x != l) = true := by rw [bne, hf]; rfl
      generalize printL x = q at *
      clear he hx
      go_enter Tryz.func15, Tryz.ntmps15
      go_wp2_with (first
        | (go_at_call 39; refine hR.out.mono ?_; rintro e w1 ⟨rfl, k1⟩; replace k1 := Lib.hid k1)
        | (go_at_call 10; refine (hP.out _ (hT'.out.below k1.out)).mono ?_; rintro e w2 ⟨rfl, k2⟩; replace k2 := Lib.hid (k1.out.trans (k2.mono k1.out.size))))
      go_ret2
      exact ⟨rfl, k2.out⟩
end Go.Proofs.YtdkggahkfheocaaGreatDoor
