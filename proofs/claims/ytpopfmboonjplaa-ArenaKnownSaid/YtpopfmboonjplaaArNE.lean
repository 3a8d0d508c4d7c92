/- Contracts of layer arena at the values of the closed law. No statement is proved here. -/
import Derived.Test.YtpopfmboonjplaaArND
namespace Go.Proofs.Ytpopfmboonjplaa
open Go.RowKit
set_option linter.unusedVariables false
section
variable {a mb wb bb c : Nat} {f : Nat → Bool} {l : List UInt8} {w : World}
def kcap : Value := .agg #[.int .u32 256, .int .u8 0, .int .u16 256, .int .u16 320, .int .u16 3, .int .u16 0, .int .u32 0, .bool true]
theorem k_sc32 (H : ArAt w a mb wb bb c 4096 256 F0 l) : Calls Try.prog 18 #[.pointer (some ⟨a, 0, none⟩), .int .u32 32, .agg #[.int .u32 256, .int .u8 0, .int .u16 256, .int .u16 320, .int .u16 3, .int .u16 0, .int .u32 0, .bool true]] w (Nxt a mb wb bb c 4096 256 F3 (ovr l 32 c64B) w (.bool true)) :=
  (ascap_any H 256 0 256 320 3 0 0 true 32 (by decide) (by decide) (by decide) (by decide) (by decide) (by decide) (by decide) (by decide)).mono fun e w' h => h.ext (fun j => by
    rw [show (true && sndP 0 256 320 3 0 0) = true from by decide]
    unfold scF
    rw [if_pos (by decide)]
    simp [upd, clr, F0, F3]) (by unfold scL; rw [if_pos (by decide)]; rfl) (by rw [show grn 4096 32 = true from by decide])
theorem k_sc48 (H : ArAt w a mb wb bb c 4096 256 F3 l) : Calls Try.prog 18 #[.pointer (some ⟨a, 0, none⟩), .int .u32 48, .agg #[.int .u32 256, .int .u8 0, .int .u16 256, .int .u16 320, .int .u16 256, .int .u16 0, .int .u32 0, .bool true]] w (Nxt a mb wb bb c 4096 256 F3 (ovr l 48 (bytesC 256 0 256 320 256 0 0)) w (.bool true)) :=
  (ascap_any H 256 0 256 320 256 0 0 true 48 (by decide) (by decide) (by decide) (by decide) (by decide) (by decide) (by decide) (by decide)).mono fun e w' h => h.ext (fun j => by
    rw [show (true && sndP 0 256 320 256 0 0) = false from by decide]
    unfold scF
    rw [if_pos (by decide)]
    by_cases hj : j = 3
    · subst hj; simp [upd, F3]
    · simp only [upd, clr, tch, F3]
      rw [Bool.eq_iff_iff]
      simp [hj]
      omega) (by unfold scL; rw [if_pos (by decide)]) (by rw [show grn 4096 48 = true from by decide])
theorem k_un (H : ArAt w a mb wb bb c 4096 256 F3 l) : Calls Try.prog 24 #[.pointer (some ⟨a, 0, none⟩), .int .u32 32] w (Nxt a mb wb bb c 4096 256 F0 l w (.bool true)) :=
  (auntag_any H 32 (by decide)).mono fun e w' h => h.ext (fun j => by simp [utF, F3, F0]) rfl (by rw [show (decide (32 % 16 = 0) && F3 (32 / 16)) = true from by decide])
theorem k_un2 (H : ArAt w a mb wb bb c 4096 256 F0 l) : Calls Try.prog 24 #[.pointer (some ⟨a, 0, none⟩), .int .u32 32] w (Nxt a mb wb bb c 4096 256 F0 l w (.bool false)) :=
  (auntag_any H 32 (by decide)).mono fun e w' h => h.ext (fun j => by simp [utF, F0]) rfl (by rw [show (decide (32 % 16 = 0) && F0 (32 / 16)) = false from by decide])
theorem k_w2 (H : ArAt w a mb wb bb c 4096 256 F3 l) : Calls Try.prog 25 #[.pointer (some ⟨a, 0, none⟩), .int .u32 30, .string ⟨#[97, 98]⟩] w (Nxt a mb wb bb c 4096 256 F3 (ovr l 30 [97, 98]) w (.bool true)) :=
  (awrite_any H [97, 98] 30 (by decide) (by decide)).mono fun e w' h => h.ext (fun j => by
    unfold stF
    rw [if_pos (by decide)]
    simp only [clr, tch, F3]
    rw [Bool.eq_iff_iff]
    simp
    omega) (by unfold stL; rw [if_pos (by decide)]) (by rw [show thr 4096 30 ([97, 98] : List UInt8).length = true from by decide])
theorem k_w3 (H : ArAt w a mb wb bb c 4096 256 F3 l) : Calls Try.prog 25 #[.pointer (some ⟨a, 0, none⟩), .int .u32 30, .string ⟨#[97, 98, 99]⟩] w (Nxt a mb wb bb c 4096 256 F0 (ovr l 30 [97, 98, 99]) w (.bool true)) :=
  (awrite_any H [97, 98, 99] 30 (by decide) (by decide)).mono fun e w' h => h.ext (fun j => by
    unfold stF
    rw [if_pos (by decide)]
    simp only [clr, tch, F3, F0]
    rw [Bool.eq_false_iff]
    simp
    omega) (by unfold stL; rw [if_pos (by decide)]) (by rw [show thr 4096 30 ([97, 98, 99] : List UInt8).length = true from by decide])
theorem k_lc40 (H : ArAt w a mb wb bb c 4096 256 f l) : Calls Try.prog 27 #[.pointer (some ⟨a, 0, none⟩), .int .u32 40] w fun e w' => e = .returned (.tuple #[cap0, .bool false]) ∧ Below w.heap.size w w' := alcap_no H 40 (by decide) (by decide)
theorem k_r1 (H : ArAt w a mb wb bb c 4096 256 f l) : Calls Try.prog 28 #[.pointer (some ⟨a, 0, none⟩), .int .u32 4096, .int .i64 0] w fun e w' => e = .returned (.tuple #[.string ⟨#[]⟩, .bool true]) ∧ Below w.heap.size w w' := by
  have := aread_yes H 4096 0 (by decide) (by decide)
  rw [List.take_zero] at this
  exact this
theorem k_r2 (H : ArAt w a mb wb bb c 4096 256 f l) : Calls Try.prog 28 #[.pointer (some ⟨a, 0, none⟩), .int .u32 4097, .int .i64 0] w fun e w' => e = .returned (.tuple #[.string ⟨#[]⟩, .bool false]) ∧ Below w.heap.size w w' := aread_no H 4097 0 (by decide) (by decide) (by decide)
theorem k_r3 (H : ArAt w a mb wb bb c 4096 256 f l) : Calls Try.prog 28 #[.pointer (some ⟨a, 0, none⟩), .int .u32 0, .int .i64 (-1)] w fun e w' => e = .returned (.tuple #[.string ⟨#[]⟩, .bool false]) ∧ Below w.heap.size w w' := aread_no H 0 (-1) (by decide) (by decide) (by decide)
end
section
variable {P : Value} {w : World}
theorem kn_load (H : Emp P w) : Calls Try.prog 29 #[P, .int .u32 0, .int .i64 1] w fun e w' => e = .returned (.tuple #[.int .u32 0, .bool false]) ∧ Below w.heap.size w w' := nload H 0 1 (by decide)
theorem kn_read (H : Emp P w) : Calls Try.prog 28 #[P, .int .u32 0, .int .i64 0] w fun e w' => e = .returned (.tuple #[.string ⟨#[]⟩, .bool false]) ∧ Below w.heap.size w w' := nread H 0 0
theorem kn_store (H : Emp P w) : Calls Try.prog 19 #[P, .int .u32 0, .int .i64 1, .int .u32 0] w fun e w' => e = .returned (.bool false) ∧ Below w.heap.size w w' := nstore H 1 0 0 (by decide)
theorem kn_write (H : Emp P w) : Calls Try.prog 25 #[P, .int .u32 0, .string ⟨#[]⟩] w fun e w' => e = .returned (.bool false) ∧ Below w.heap.size w w' := nwrite H [] 0
theorem kn_scap (H : Emp P w) : Calls Try.prog 18 #[P, .int .u32 0, .agg #[.int .u32 256, .int .u8 0, .int .u16 256, .int .u16 320, .int .u16 3, .int .u16 0, .int .u32 0, .bool true]] w fun ee w' => ee = .returned (.bool false) ∧ Below w.heap.size w w' := nscap H 256 0 256 320 3 0 0 true (by decide) (by decide) (by decide) (by decide) (by decide) (by decide) (by decide)
end
end Go.Proofs.Ytpopfmboonjplaa
