/- Contracts of caps' end, Number, Range, Sound, IsNumber, Holds, Meets, Within. No statement is proved here. -/
import Derived.Test.YtpopfmboonjplaaCapT
import Derived.Test.YtpopfmboonjplaaBndE
import Derived.Deep.RegionHeld3
namespace Go.Proofs.Ytpopfmboonjplaa
open Go.RowKit
set_option linter.unusedVariables false

theorem pend_any (at_ sz : Nat) (W : World) (la : at_ < 4294967296) (lz : sz < 4294967296) :
    Calls Try.prog 36 #[.agg #[.int .u32 at_, .int .u32 sz]] W fun e' w' => e' = .returned (.int .u64 ((at_ + sz : Nat) : Int)) ∧ Below W.heap.size W w' := by
  go_enter Try.func36, Try.ntmps36
  go_wp2
  go_ret
  exact ⟨ret_int (by omega), by go_grown⟩

theorem pNumber_any (v : Nat) (lv : v < 4294967296) (W : World) : Calls Try.prog 8 #[.int .u32 v] W fun ee w' => ee = .returned (.agg #[.int .u32 v, .int .u8 0, .int .u16 0, .int .u16 0, .int .u16 0, .int .u16 0, .int .u32 0, .bool false]) ∧ Below W.heap.size W w' := by
  go_enter Try.func8, Try.ntmps8
  go_wp2_with fail
  exact bodyPost_ret (v := .agg #[.int .u32 v, .int .u8 0, .int .u16 0, .int .u16 0, .int .u16 0, .int .u16 0, .int .u32 0, .bool false]) (by simp [results, Try.results8, go_sem]) rfl ⟨rfl, by go_grown⟩

theorem pRange_any (cu e b t pm ty rs : Nat) (va : Bool) (l0 : cu < 4294967296) (l1 : e < 256) (l2 : b < 65536) (l3 : t < 65536) (l4 : pm < 65536) (l5 : ty < 65536) (l6 : rs < 4294967296) (W : World) : Calls Try.prog 9 #[.agg #[.int .u32 cu, .int .u8 e, .int .u16 b, .int .u16 t, .int .u16 pm, .int .u16 ty, .int .u32 rs, .bool va]] W fun ee w' => ee = .returned (.tuple #[.int .u32 (deB e b t cu), .int .u64 (deT e b t cu)]) ∧ Below W.heap.size W w' := by
  have hD := Lib.hid (fun w => Decode_any e b t cu w l0)
  generalize deB e b t cu = x at *
  generalize deT e b t cu = y at *
  have hb0 := Lib.hid ((Below.refl W.heap.size W).alloc (Nat.le_refl _) (.cells #[.int .u32 cu, .int .u8 e, .int .u16 b, .int .u16 t, .int .u16 pm, .int .u16 ty, .int .u32 rs, .bool va] 25))
  go_enter Try.func9, Try.ntmps9
  go_wp2_with fail
  refine (hD.out _).mono ?_
  rintro e' w1 ⟨rfl, h1⟩
  replace h1 := Lib.hid h1
  go_wp2_with fail
  go_ret2
  exact ⟨rfl, hb0.out.trans (h1.out.mono hb0.out.size)⟩

theorem pSound_any (cu e b t pm ty rs : Nat) (va : Bool) (l0 : cu < 4294967296) (l1 : e < 256) (l2 : b < 65536) (l3 : t < 65536) (l4 : pm < 65536) (l5 : ty < 65536) (l6 : rs < 4294967296) (W : World) : Calls Try.prog 34 #[.agg #[.int .u32 cu, .int .u8 e, .int .u16 b, .int .u16 t, .int .u16 pm, .int .u16 ty, .int .u32 rs, .bool va]] W fun ee w' => ee = .returned (.bool (sndP e b t pm ty rs)) ∧ Below W.heap.size W w' := by
  obtain ⟨z, hz⟩ : ∃ z, z = sndP e b t pm ty rs := ⟨_, rfl⟩
  rw [← hz]
  rcases first6 ((e : Int) ≤ 21) ((b : Int) < 4096) ((t : Int) < 4096) ((pm : Int) ≤ 255) ((ty : Int) < 4096) ((rs : Int) < 16777216) with ⟨c1, c2, c3, c4, c5, c6⟩ | c1 | ⟨c1, c2⟩ | ⟨c1, c2, c3⟩ | ⟨c1, c2, c3, c4⟩ | ⟨c1, c2, c3, c4, c5⟩ | ⟨c1, c2, c3, c4, c5, c6⟩
  · rw [show z = true from by rw [hz]; exact decide_eq_true (by omega)]
    clear hz
    go_enter Try.func34, Try.ntmps34
    go_wp2
    go_ret
    refine ⟨?_, by go_grown⟩
    first | rfl | (show Ending.returned (.bool (decide ((rs : Int) < 16777216))) = _; rw [decide_eq_true c6])
  all_goals
    rw [show z = false from by rw [hz]; exact decide_eq_false (by omega)]
    clear hz
    go_enter Try.func34, Try.ntmps34
    go_wp2
    go_ret
    refine ⟨?_, by go_grown⟩
    first | rfl | (show Ending.returned (.bool (decide ((rs : Int) < 16777216))) = _; rw [decide_eq_false (by omega)])

/-- What is kept beside the cells. -/
def SB1 (W w : World) : Prop := Below W.heap.size W w ∧ W.heap.size < w.heap.size
theorem SB1.drew {W w : World} (h : SB1 W w) : SB1 W w.drew := ⟨h.1.drew, h.2⟩
theorem SB1.below {W w w' : World} (h : SB1 W w) (k : Below w.heap.size w w') : SB1 W w' := ⟨h.1.trans (k.mono (Nat.le_of_lt h.2)), Nat.lt_of_lt_of_le h.2 k.size⟩

/-- A region in a box. -/
structure RegAt (w : World) (bx : Nat) (at_ sz : Nat) : Prop where
  q0 : w.cell? ⟨bx, 0, none⟩ = some (.int .u32 at_)
  q1 : w.cell? ⟨bx, 1, none⟩ = some (.int .u32 sz)
theorem RegAt.below {w w' : World} {bx B : Nat} {at_ sz : Nat} (h : RegAt w bx at_ sz) (k : Below B w w') (hb : bx < B) : RegAt w' bx at_ sz :=
  ⟨(k.cell hb).trans h.q0, (k.cell hb).trans h.q1⟩
end Go.Proofs.Ytpopfmboonjplaa
