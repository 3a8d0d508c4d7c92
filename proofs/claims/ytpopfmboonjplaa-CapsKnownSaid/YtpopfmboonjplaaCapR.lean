/- Contracts of the document's answers for layer caps: Bytes, Of. No statement is proved here. -/
import Derived.Test.YtpopfmboonjplaaCapL
import Derived.Lib.ConvBytes
namespace Go.Proofs.Ytpopfmboonjplaa
open Go.RowKit
set_option linter.unusedVariables false

/-- A capability's bytes. -/
def bytesC (cu e b t pm ty rs : Nat) : List UInt8 := leB 4 cu ++ leB 1 e ++ leB 2 b ++ leB 2 t ++ leB 2 pm ++ leB 2 ty ++ leB 3 rs
theorem bytesC_length (cu e b t pm ty rs : Nat) : (bytesC cu e b t pm ty rs).length = 16 := by simp [bytesC, leB_length]

/-- A capability in a box. -/
structure CapAt (w : World) (bx : Nat) (cu e b t pm ty rs : Nat) (va : Bool) : Prop where
  q0 : w.cell? ⟨bx, 0, none⟩ = some (.int .u32 cu)
  q1 : w.cell? ⟨bx, 1, none⟩ = some (.int .u8 e)
  q2 : w.cell? ⟨bx, 2, none⟩ = some (.int .u16 b)
  q3 : w.cell? ⟨bx, 3, none⟩ = some (.int .u16 t)
  q4 : w.cell? ⟨bx, 4, none⟩ = some (.int .u16 pm)
  q5 : w.cell? ⟨bx, 5, none⟩ = some (.int .u16 ty)
  q6 : w.cell? ⟨bx, 6, none⟩ = some (.int .u32 rs)
  q7 : w.cell? ⟨bx, 7, none⟩ = some (.bool va)
theorem CapAt.below {w w' : World} {bx B : Nat} {cu e b t pm ty rs : Nat} {va : Bool} (h : CapAt w bx cu e b t pm ty rs va) (k : Below B w w') (hb : bx < B) : CapAt w' bx cu e b t pm ty rs va :=
  ⟨(k.cell hb).trans h.q0, (k.cell hb).trans h.q1, (k.cell hb).trans h.q2, (k.cell hb).trans h.q3, (k.cell hb).trans h.q4, (k.cell hb).trans h.q5, (k.cell hb).trans h.q6, (k.cell hb).trans h.q7⟩

theorem own_conv {w : World} {base : Nat} {v : Value} {l : List UInt8} (h : w.ownsRow base 5 1 v l.length (l.map vb)) (hl : 0 < l.length) :
    (convert 28 9 v).run Try.prog w = .ok (.string ⟨l.toArray⟩) w := by
  have h0 := h
  rcases h.2 with ⟨_, hn⟩ | ⟨g, cap, cur, rfl, _, _, _, _, _⟩
  · omega
  · refine run_convert_bytes_back (P := Try.prog) w 28 9 5 ⟨g, 0, none⟩ cap l Try.underlying28 Try.underlying5 Try.underlying9 (fun j hj => ?_)
    rw [Addr.add_lit, Nat.zero_add]
    have := h0.cellAt j (by omega)
    rw [this, List.getElem?_map, List.getElem?_eq_getElem hj]
    rfl

theorem rBytes_any (cu e b t pm ty rs : Nat) (va : Bool) (W : World) (l0 : cu < 4294967296) (l1 : e < 256) (l2 : b < 65536) (l3 : t < 65536) (l4 : pm < 65536) (l5 : ty < 65536) (l6 : rs < 4294967296) :
    Calls Try.prog 78 #[.agg #[.int .u32 cu, .int .u8 e, .int .u16 b, .int .u16 t, .int .u16 pm, .int .u16 ty, .int .u32 rs, .bool va]] W fun e' w' => e' = .returned (.string ⟨(bytesC cu e b t pm ty rs).toArray⟩) ∧ Below W.heap.size W w' := by
  have step := Lib.hid (fun v l n k w (hk : k ≤ 4) (hl : l.length ≤ 1000) (hn : n < 4294967296) hown hbase => laid_any (W.heap.size + 1) v l n k w hk hl hn hown hbase)
  have C0 : CapAt (W.alloc (.cells #[.int .u32 cu, .int .u8 e, .int .u16 b, .int .u16 t, .int .u16 pm, .int .u16 ty, .int .u32 rs, .bool va] 25)) W.heap.size cu e b t pm ty rs va :=
    ⟨by simp [go_sem], by simp [go_sem], by simp [go_sem], by simp [go_sem], by simp [go_sem], by simp [go_sem], by simp [go_sem], by simp [go_sem]⟩
  have hb0 := Lib.hid ((Below.refl W.heap.size W).alloc (Nat.le_refl _) (.cells #[.int .u32 cu, .int .u8 e, .int .u16 b, .int .u16 t, .int .u16 pm, .int .u16 ty, .int .u32 rs, .bool va] 25))
  have hs0 := Lib.hid (show W.heap.size + 1 ≤ (W.alloc (.cells #[.int .u32 cu, .int .u8 e, .int .u16 b, .int .u16 t, .int .u16 pm, .int .u16 ty, .int .u32 rs, .bool va] 25)).heap.size from by simp)
  go_enter Try.func78, Try.ntmps78
  go_wp2_with fail
  generalize W.alloc (.cells #[.int .u32 cu, .int .u8 e, .int .u16 b, .int .u16 t, .int .u16 pm, .int .u16 ty, .int .u32 rs, .bool va] 25) = w0 at C0 hb0 hs0 ⊢
  refine (step.out (.slice none 0 0) [] cu 4 w0 (by omega) (by simp) (by omega) (World.ownsRow_nil _ _ _ _) hs0.out).mono ?_
  rintro e' w1 ⟨v1, rfl, ho, hl⟩
  have O1 := Lib.hid ho
  have C1 := C0.below hl (Nat.lt_succ_self _)
  have hb1 := Lib.hid (hb0.out.trans (hl.mono (Nat.le_succ _)))
  have hs1 := Lib.hid (Nat.le_trans hs0.out hl.size)
  clear ho hl C0
  obtain ⟨q0, q1, q2, q3, q4, q5, q6, q7⟩ := id C1
  go_wp2_with fail
  clear q0 q1 q2 q3 q4 q5 q6 q7
  refine (step.out v1 ([] ++ leB 4 cu) e 1 w1 (by omega) (by simp [leB_length]) (by omega) O1.out hs1.out).mono ?_
  rintro e' w2 ⟨v2, rfl, ho, hl⟩
  have O2 := Lib.hid ho
  have C2 := C1.below hl (Nat.lt_succ_self _)
  have hb2 := Lib.hid (hb1.out.trans (hl.mono (Nat.le_succ _)))
  have hs2 := Lib.hid (Nat.le_trans hs1.out hl.size)
  clear ho hl C1 O1
  obtain ⟨q0, q1, q2, q3, q4, q5, q6, q7⟩ := id C2
  go_wp2_with fail
  clear q0 q1 q2 q3 q4 q5 q6 q7
  refine (step.out v2 (([] ++ leB 4 cu) ++ leB 1 e) b 2 w2 (by omega) (by simp [leB_length]) (by omega) O2.out hs2.out).mono ?_
  rintro e' w3 ⟨v3, rfl, ho, hl⟩
  have O3 := Lib.hid ho
  have C3 := C2.below hl (Nat.lt_succ_self _)
  have hb3 := Lib.hid (hb2.out.trans (hl.mono (Nat.le_succ _)))
  have hs3 := Lib.hid (Nat.le_trans hs2.out hl.size)
  clear ho hl C2 O2
  obtain ⟨q0, q1, q2, q3, q4, q5, q6, q7⟩ := id C3
  go_wp2_with fail
  clear q0 q1 q2 q3 q4 q5 q6 q7
  refine (step.out v3 ((([] ++ leB 4 cu) ++ leB 1 e) ++ leB 2 b) t 2 w3 (by omega) (by simp [leB_length]) (by omega) O3.out hs3.out).mono ?_
  rintro e' w4 ⟨v4, rfl, ho, hl⟩
  have O4 := Lib.hid ho
  have C4 := C3.below hl (Nat.lt_succ_self _)
  have hb4 := Lib.hid (hb3.out.trans (hl.mono (Nat.le_succ _)))
  have hs4 := Lib.hid (Nat.le_trans hs3.out hl.size)
  clear ho hl C3 O3
  obtain ⟨q0, q1, q2, q3, q4, q5, q6, q7⟩ := id C4
  go_wp2_with fail
  clear q0 q1 q2 q3 q4 q5 q6 q7
  refine (step.out v4 (((([] ++ leB 4 cu) ++ leB 1 e) ++ leB 2 b) ++ leB 2 t) pm 2 w4 (by omega) (by simp [leB_length]) (by omega) O4.out hs4.out).mono ?_
  rintro e' w5 ⟨v5, rfl, ho, hl⟩
  have O5 := Lib.hid ho
  have C5 := C4.below hl (Nat.lt_succ_self _)
  have hb5 := Lib.hid (hb4.out.trans (hl.mono (Nat.le_succ _)))
  have hs5 := Lib.hid (Nat.le_trans hs4.out hl.size)
  clear ho hl C4 O4
  obtain ⟨q0, q1, q2, q3, q4, q5, q6, q7⟩ := id C5
  go_wp2_with fail
  clear q0 q1 q2 q3 q4 q5 q6 q7
  refine (step.out v5 ((((([] ++ leB 4 cu) ++ leB 1 e) ++ leB 2 b) ++ leB 2 t) ++ leB 2 pm) ty 2 w5 (by omega) (by simp [leB_length]) (by omega) O5.out hs5.out).mono ?_
  rintro e' w6 ⟨v6, rfl, ho, hl⟩
  have O6 := Lib.hid ho
  have C6 := C5.below hl (Nat.lt_succ_self _)
  have hb6 := Lib.hid (hb5.out.trans (hl.mono (Nat.le_succ _)))
  have hs6 := Lib.hid (Nat.le_trans hs5.out hl.size)
  clear ho hl C5 O5
  obtain ⟨q0, q1, q2, q3, q4, q5, q6, q7⟩ := id C6
  go_wp2_with fail
  clear q0 q1 q2 q3 q4 q5 q6 q7
  refine (step.out v6 (((((([] ++ leB 4 cu) ++ leB 1 e) ++ leB 2 b) ++ leB 2 t) ++ leB 2 pm) ++ leB 2 ty) rs 3 w6 (by omega) (by simp [leB_length]) (by omega) O6.out hs6.out).mono ?_
  rintro e' w7 ⟨v7, rfl, ho, hl⟩
  have O7 := Lib.hid ho
  have C7 := C6.below hl (Nat.lt_succ_self _)
  have hb7 := Lib.hid (hb6.out.trans (hl.mono (Nat.le_succ _)))
  have hs7 := Lib.hid (Nat.le_trans hs6.out hl.size)
  clear ho hl C6 O6
  have hcv := own_conv (l := bytesC cu e b t pm ty rs) O7.out (by rw [bytesC_length]; omega)
  go_wp2
  go_ret
  exact ⟨rfl, hb7.out⟩
/-- Is it sound? -/
def sndP (e b t pm ty rs : Nat) : Bool := decide (e ≤ 21 ∧ b < 4096 ∧ t < 4096 ∧ pm ≤ 255 ∧ ty < 4096 ∧ rs < 16777216)
theorem first6 (a b c d e f : Prop) : (a ∧ b ∧ c ∧ d ∧ e ∧ f) ∨ ¬ a ∨ (a ∧ ¬ b) ∨ (a ∧ b ∧ ¬ c) ∨ (a ∧ b ∧ c ∧ ¬ d) ∨ (a ∧ b ∧ c ∧ d ∧ ¬ e) ∨ (a ∧ b ∧ c ∧ d ∧ e ∧ ¬ f) := by
  by_cases a <;> by_cases b <;> by_cases c <;> by_cases d <;> by_cases e <;> by_cases f <;> simp [*]
theorem rSound_any (cu e b t pm ty rs : Nat) (va : Bool) (W : World) :
    Calls Try.prog 79 #[.agg #[.int .u32 cu, .int .u8 e, .int .u16 b, .int .u16 t, .int .u16 pm, .int .u16 ty, .int .u32 rs, .bool va]] W fun e' w' => e' = .returned (.bool (sndP e b t pm ty rs)) ∧ Below W.heap.size W w' := by
  obtain ⟨z, hz⟩ : ∃ z, z = sndP e b t pm ty rs := ⟨_, rfl⟩
  rw [← hz]
  rcases first6 ((e : Int) ≤ 21) ((b : Int) < 4096) ((t : Int) < 4096) ((pm : Int) ≤ 255) ((ty : Int) < 4096) ((rs : Int) < 16777216) with ⟨c1, c2, c3, c4, c5, c6⟩ | c1 | ⟨c1, c2⟩ | ⟨c1, c2, c3⟩ | ⟨c1, c2, c3, c4⟩ | ⟨c1, c2, c3, c4, c5⟩ | ⟨c1, c2, c3, c4, c5, c6⟩
  · rw [show z = true from by rw [hz]; exact decide_eq_true (by omega)]
    clear hz
    go_enter Try.func79, Try.ntmps79
    go_wp2
    go_ret
    refine ⟨?_, by go_grown⟩
    first | rfl | (show Ending.returned (.bool (decide ((rs : Int) < 16777216))) = _; rw [decide_eq_true c6])
  all_goals
    rw [show z = false from by rw [hz]; exact decide_eq_false (by omega)]
    clear hz
    go_enter Try.func79, Try.ntmps79
    go_wp2
    go_ret
    refine ⟨?_, by go_grown⟩
    first | rfl | (show Ending.returned (.bool (decide ((rs : Int) < 16777216))) = _; rw [decide_eq_false (by omega)])

end Go.Proofs.Ytpopfmboonjplaa
