/- Contracts of layer arena at an arena that is none, and at one that New did not make. No statement is proved here. -/
import Derived.Test.YtpopfmboonjplaaArW
import Derived.Test.YtpopfmboonjplaaArZB
import Derived.Test.YtpopfmboonjplaaArZC
namespace Go.Proofs.Ytpopfmboonjplaa
open Go.RowKit
set_option linter.unusedVariables false

/-- An arena that New did not make: none, or one of no bytes and no map. -/
def Emp (P : Value) (w : World) : Prop := P = .pointer none ∨ ∃ em, P = .pointer (some ⟨em, 0, none⟩) ∧ em < w.heap.size ∧ w.cell? ⟨em, 0, none⟩ = some (.pointer none) ∧ w.cell? ⟨em, 1, none⟩ = some (.slice none 0 0)
theorem Emp.below {P : Value} {w w' : World} (h : Emp P w) (k : Below w.heap.size w w') : Emp P w' := by
  rcases h with h | ⟨em, h, h1, h2, h3⟩
  · exact .inl h
  · exact .inr ⟨em, h, Nat.lt_of_lt_of_le h1 k.size, (k.cell (p := ⟨em, 0, none⟩) h1).trans h2, (k.cell (p := ⟨em, 1, none⟩) h1).trans h3⟩
theorem own_emp {P : Value} {w : World} (h : Emp P w) : Calls Try.prog 42 #[P] w fun e w' => e = .returned (.agg #[.pointer none, .slice none 0 0]) ∧ Below w.heap.size w w' := by
  rcases h with rfl | ⟨em, rfl, h1, h2, h3⟩
  · exact own_nil w
  · exact own_any em none none 0 0 w h2 h3 h1
theorem nfield : ∀ w, (Instr.field 69 (.agg #[.pointer none, .slice none 0 0]) 1).run Try.prog w = .ok (.slice none 0 0) w := fun w => by kernel_rfl
theorem nfield0 : ∀ w, (Instr.field 69 (.agg #[.pointer none, .slice none 0 0]) 0).run Try.prog w = .ok (.pointer none) w := fun w => by kernel_rfl
section
variable {P : Value} {w : World}
theorem nsize (H : Emp P w) : Calls Try.prog 16 #[P] w fun e w' => e = .returned (.int .i64 0) ∧ Below w.heap.size w w' := by
  have hO := Lib.hid (own_emp H)
  have hf := nfield
  clear H
  go_enter Try.func16, Try.ntmps16
  go_wp2_with fail
  refine hO.out.mono ?_
  rintro e w2 ⟨rfl, hb⟩
  have hB := Lib.hid hb
  clear hb
  go_wp2
  go_ret
  exact ⟨rfl, hB.out⟩
theorem nload (H : Emp P w) (at_ : Nat) (k : Int) (la : at_ < 4294967296) : Calls Try.prog 29 #[P, .int .u32 at_, .int .i64 k] w fun e w' => e = .returned (.tuple #[.int .u32 (getB [] at_ k : Nat), .bool (inB 0 at_ k)]) ∧ Below w.heap.size w w' := by
  have hO := Lib.hid (own_emp H)
  have hG : ∀ w', Below w.heap.size w w' → Calls Try.prog 63 #[.slice none 0 0, .int .i64 at_, .int .i64 k] w' fun e w' => e = .returned (.tuple #[.int .u32 (getB [] at_ k : Nat), .bool (inB 0 at_ k)]) ∧ Below w.heap.size w w' := fun w' hb => by
    have := get_any none [] w'.heap.size 0 at_ k w' RB.nil (by simp) (by simp) (by omega)
    exact this.mono fun e w'' ⟨h1, k, h2⟩ => ⟨h1, h2 ▸ below_drewN hb k⟩
  have hG' := Lib.hid hG
  have hf := nfield
  clear H hG
  go_enter Try.func29, Try.ntmps29
  go_wp2_with fail
  refine hO.out.mono ?_
  rintro e w2 ⟨rfl, hb⟩
  have hB := Lib.hid hb
  clear hb
  go_wp2_with fail
  refine (hG'.out w2 hB.out).mono ?_
  rintro e w3 ⟨rfl, hb⟩
  have hB3 := Lib.hid hb
  clear hb
  go_wp2
  go_ret2
  exact ⟨rfl, hB3.out⟩
theorem nread (H : Emp P w) (at_ : Nat) (k : Int) : Calls Try.prog 28 #[P, .int .u32 at_, .int .i64 k] w fun e w' => e = .returned (.tuple #[.string ⟨#[]⟩, .bool false]) ∧ Below w.heap.size w w' := by
  have hO := Lib.hid (own_emp H)
  have hT := Lib.hid (fun S w => there_none S at_ k w)
  clear H
  go_enter Try.func28, Try.ntmps28
  go_wp2_with fail
  refine hO.out.mono ?_
  rintro e w2 ⟨rfl, hb⟩
  have hb2 := Lib.hid (hb.alloc hb.size (.cells #[.pointer none, .slice none 0 0] 69))
  have hsz := hb.size
  clear hb
  go_wp2_with fail
  refine (hT.out _ _).mono ?_
  rintro e w3 ⟨rfl, hb⟩
  have hb3 := Lib.hid (hb2.out.trans (hb.mono (by simp; omega)))
  clear hb
  go_wp2
  go_ret2
  exact ⟨rfl, hb3.out⟩
theorem nwrite (H : Emp P w) (s : List UInt8) (at_ : Nat) : Calls Try.prog 25 #[P, .int .u32 at_, .string ⟨s.toArray⟩] w fun e w' => e = .returned (.bool false) ∧ Below w.heap.size w w' := by
  have hO := Lib.hid (own_emp H)
  have hconv : ∀ w, (convert 9 28 (.string ⟨s.toArray⟩)).run Try.prog w = .ok (.slice (some ⟨w.heap.size, 0, none⟩) s.length (grownCap w s.length 0 5)) (Lib.bytesWorld w 5 ⟨s.toArray⟩) := fun w => Lib.run_convert_string_bytes w _ _ _ _ Try.underlying9 Try.underlying28 Try.underlying5
  clear H
  go_enter Try.func25, Try.ntmps25
  go_wp2_with fail
  refine hO.out.mono ?_
  rintro e w2 ⟨rfl, hb⟩
  have hB := Lib.hid hb
  clear hb
  go_wp2_with fail
  have hB2 := bw_below w2 5 ⟨s.toArray⟩
  refine (lay_none (.pointer none) (.slice none 0 0) at_ _ _ _ _ rfl).mono ?_
  rintro e w3 ⟨rfl, h3⟩
  have hE := Lib.hid ((hB.out.trans (hB2.mono hB.out.size)).trans (h3.mono (by have := hB2.size; have := hB.out.size; omega)))
  clear h3 hB2
  go_wp2
  go_ret
  exact ⟨rfl, hE.out⟩
theorem nstore (H : Emp P w) (k : Int) (v at_ : Nat) (lv : v < 4294967296) : Calls Try.prog 19 #[P, .int .u32 at_, .int .i64 k, .int .u32 v] w fun e w' => e = .returned (.bool false) ∧ Below w.heap.size w w' := by
  have hP := Lib.hid (put_any [] k v w (by simp) lv)
  have hO := Lib.hid (fun w' (hb : Below w.heap.size w w') => own_emp (H.below hb))
  generalize putB [] k v = s at *
  have hconv : ∀ w, (convert 9 28 (.string ⟨s.toArray⟩)).run Try.prog w = .ok (.slice (some ⟨w.heap.size, 0, none⟩) s.length (grownCap w s.length 0 5)) (Lib.bytesWorld w 5 ⟨s.toArray⟩) := fun w => Lib.run_convert_string_bytes w _ _ _ _ Try.underlying9 Try.underlying28 Try.underlying5
  by_cases hse : s = []
  · subst hse
    clear H
    go_enter Try.func19, Try.ntmps19
    go_wp2_with fail
    refine hP.out.mono ?_
    rintro e w2 ⟨rfl, hb⟩
    have hE := Lib.hid hb
    clear hb
    go_wp2
    go_ret
    exact ⟨rfl, hE.out⟩
  · clear H
    go_enter Try.func19, Try.ntmps19
    go_wp2_with fail
    refine hP.out.mono ?_
    rintro e w2 ⟨rfl, hb⟩
    have hB := Lib.hid hb
    clear hb
    go_wp2_with fail
    refine (hO.out w2 hB.out).mono ?_
    rintro e w3 ⟨rfl, hb⟩
    have hB3 := Lib.hid (hB.out.trans (hb.mono hB.out.size))
    clear hb
    go_wp2_with fail
    have hB2 := bw_below w3 5 ⟨s.toArray⟩
    refine (lay_none (.pointer none) (.slice none 0 0) at_ _ _ _ _ rfl).mono ?_
    rintro e w4 ⟨rfl, h3⟩
    have hE := Lib.hid ((hB3.out.trans (hB2.mono hB3.out.size)).trans (h3.mono (by have := hB2.size; have := hB3.out.size; omega)))
    clear h3 hB2
    go_wp2
    go_ret
    exact ⟨rfl, hE.out⟩
end
end Go.Proofs.Ytpopfmboonjplaa
