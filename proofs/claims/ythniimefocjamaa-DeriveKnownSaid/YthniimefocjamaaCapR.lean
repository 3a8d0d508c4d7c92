/- Contracts of the document's answers for layer caps: Bytes, Of. No statement is proved here. -/
import Derived.Test.YthniimefocjamaaCapL
import Derived.Lib.ConvBytes
namespace Go.Proofs.Ythniimefocjamaa
open Go.RowKit
set_option linter.unusedVariables false

/-- A capability's bytes. -/
def bytesC (cu e b t pm ty rs : Nat) : List UInt8 := leB 4 cu ++ leB 1 e ++ leB 2 b ++ leB 2 t ++ leB 2 pm ++ leB 2 ty ++ leB 3 rs
theorem bytesC_length (cu e b t pm ty rs : Nat) : (bytesC cu e b t pm ty rs).length = 16 := by simp [bytesC, leB_length]

/-- A capability in a box. -/
structure CapAt (w : World) (bx : Nat) (cu e b t pm ty rs : Nat) (va : Bool) : Prop where
  q0 : w.cell? ⟨bx, 0, none⟩ = some (.int .u32 cu)
  q1 : w.cell? ⟨bx, 1, none⟩ = some (.int .u8 e)
  q2 : w.cell? ⟨bx, 2, none⟩ = some (.int .u16 b)
  q3 : w.cell? ⟨bx, 3, none⟩ = some (.int .u16 t)
  q4 : w.cell? ⟨bx, 4, none⟩ = some (.int .u16 pm)
  q5 : w.cell? ⟨bx, 5, none⟩ = some (.int .u16 ty)
  q6 : w.cell? ⟨bx, 6, none⟩ = some (.int .u32 rs)
  q7 : w.cell? ⟨bx, 7, none⟩ = some (.bool va)
theorem CapAt.below {w w' : World} {bx B : Nat} {cu e b t pm ty rs : Nat} {va : Bool} (h : CapAt w bx cu e b t pm ty rs va) (k : Below B w w') (hb : bx < B) : CapAt w' bx cu e b t pm ty rs va :=
  ⟨(k.cell hb).trans h.q0, (k.cell hb).trans h.q1, (k.cell hb).trans h.q2, (k.cell hb).trans h.q3, (k.cell hb).trans h.q4, (k.cell hb).trans h.q5, (k.cell hb).trans h.q6, (k.cell hb).trans h.q7⟩

theorem own_conv {w : World} {base : Nat} {v : Value} {l : List UInt8} (h : w.ownsRow base 5 1 v l.length (l.map vb)) (hl : 0 < l.length) :
    (convert 28 9 v).run Try.prog w = .ok (.string ⟨l.toArray⟩) w := by
  have h0 := h
  rcases h.2 with ⟨_, hn⟩ | ⟨g, cap, cur, rfl, _, _, _, _, _⟩
  · omega
  · refine run_convert_bytes_back (P := Try.prog) w 28 9 5 ⟨g, 0, none⟩ cap l Try.underlying28 Try.underlying5 Try.underlying9 (fun j hj => ?_)
    rw [Addr.add_lit, Nat.zero_add]
    have := h0.cellAt j (by omega)
    rw [this, List.getElem?_map, List.getElem?_eq_getElem hj]
    rfl

/-- Is it sound? -/
def sndP (e b t pm ty rs : Nat) : Bool := decide (e ≤ 21 ∧ b < 4096 ∧ t < 4096 ∧ pm ≤ 255 ∧ ty < 4096 ∧ rs < 16777216)
theorem first6 (a b c d e f : Prop) : (a ∧ b ∧ c ∧ d ∧ e ∧ f) ∨ ¬ a ∨ (a ∧ ¬ b) ∨ (a ∧ b ∧ ¬ c) ∨ (a ∧ b ∧ c ∧ ¬ d) ∨ (a ∧ b ∧ c ∧ d ∧ ¬ e) ∨ (a ∧ b ∧ c ∧ d ∧ e ∧ ¬ f) := by
  by_cases a <;> by_cases b <;> by_cases c <;> by_cases d <;> by_cases e <;> by_cases f <;> simp [*]
theorem rSound_any (cu e b t pm ty rs : Nat) (va : Bool) (W : World) :
    Calls Try.prog 74 #[.agg #[.int .u32 cu, .int .u8 e, .int .u16 b, .int .u16 t, .int .u16 pm, .int .u16 ty, .int .u32 rs, .bool va]] W fun e' w' => e' = .returned (.bool (sndP e b t pm ty rs)) ∧ Below W.heap.size W w' := by
  obtain ⟨z, hz⟩ : ∃ z, z = sndP e b t pm ty rs := ⟨_, rfl⟩
  rw [← hz]
  rcases first6 ((e : Int) ≤ 21) ((b : Int) < 4096) ((t : Int) < 4096) ((pm : Int) ≤ 255) ((ty : Int) < 4096) ((rs : Int) < 16777216) with ⟨c1, c2, c3, c4, c5, c6⟩ | c1 | ⟨c1, c2⟩ | ⟨c1, c2, c3⟩ | ⟨c1, c2, c3, c4⟩ | ⟨c1, c2, c3, c4, c5⟩ | ⟨c1, c2, c3, c4, c5, c6⟩
  · rw [show z = true from by rw [hz]; exact decide_eq_true (by omega)]
    clear hz
    go_enter Try.func74, Try.ntmps74
    go_wp2
    go_ret
    refine ⟨?_, by go_grown⟩
    first | rfl | (show Ending.returned (.bool (decide ((rs : Int) < 16777216))) = _; rw [decide_eq_true c6])
  all_goals
    rw [show z = false from by rw [hz]; exact decide_eq_false (by omega)]
    clear hz
    go_enter Try.func74, Try.ntmps74
    go_wp2
    go_ret
    refine ⟨?_, by go_grown⟩
    first | rfl | (show Ending.returned (.bool (decide ((rs : Int) < 16777216))) = _; rw [decide_eq_false (by omega)])

end Go.Proofs.Ythniimefocjamaa
