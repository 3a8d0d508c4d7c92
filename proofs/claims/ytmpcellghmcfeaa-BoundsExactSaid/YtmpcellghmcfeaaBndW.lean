/- Contracts of the laws' own helpers for layer bounds: works, bring. No statement is proved here. -/
import Derived.Test.YtmpcellghmcfeaaBndE
namespace Go.Proofs.Ytmpcellghmcfeaa
open Go.RowKit
set_option linter.unusedVariables false

theorem Encode_is (b t e m n : Nat) (x i : Bool) (w : World) (hb : b < 4294967296) (ht : t < 18446744073709551616) (h : enE b t = e ∧ enB b t = m ∧ enT b t = n ∧ enX b t = x ∧ may b t = i) :
    Calls Try.prog 18 #[.int .u32 b, .int .u64 t] w fun e' w' => e' = .returned (.tuple #[.int .u8 e, .int .u16 m, .int .u16 n, .bool x, .bool i]) ∧ Below w.heap.size w w' := by
  obtain ⟨rfl, rfl, rfl, rfl, rfl⟩ := h
  exact Encode_any b t w hb ht
theorem Decode_is (e b t c : Nat) (x y : Int) (w : World) (hc : c < 4294967296) (h : deB e b t c = x ∧ deT e b t c = y) :
    Calls Try.prog 13 #[.int .u8 e, .int .u16 b, .int .u16 t, .int .u32 c] w fun e' w' => e' = .returned (.tuple #[.int .u32 x, .int .u64 y]) ∧ Below w.heap.size w w' := by
  obtain ⟨rfl, rfl⟩ := h
  exact Decode_any e b t c w hc

theorem works_any (w : World) : Calls Try.prog 15 #[] w fun e w' => e = .returned (.bool true) ∧ Below w.heap.size w w' := by
  have hE := Lib.hid (fun w => Encode_is 4096 4100 0 0 4 true true w (by decide) (by decide) (by decide))
  have hD := Lib.hid (fun w => Decode_is 0 0 4 4098 4096 4100 w (by decide) (by decide))
  go_enter Try.func15, Try.ntmps15
  go_wp2_with fail
  refine (hE.out _).mono ?_
  rintro e w1 ⟨rfl, h1⟩
  replace h1 := Lib.hid h1
  go_wp2_with fail
  refine (hD.out _).mono ?_
  rintro e w2 ⟨rfl, h2⟩
  replace h1 := Lib.hid (h1.out.trans (h2.mono h1.out.size))
  clear h2
  go_wp2_with fail
  go_ret
  exact ⟨rfl, h1.out⟩

theorem bring_any (a b : Nat) (w : World) (ha : a < 4294967296) (hb : b < 4294967296) :
    Calls Try.prog 24 #[.int .u32 a, .int .u32 b] w fun e w' => e = .returned (.tuple #[.int .u32 (min a b : Nat), .int .u64 (max a b + 1 : Nat)]) ∧ ∃ n, w.drewN n = w' := by
  by_cases h : (b : Int) < a
  · rw [show min a b = b from by omega, show max a b = a from by omega]
    go_enter Try.func24, Try.ntmps24
    go_wp2_with fail
    go_ret2
    exact ⟨rfl, 0, rfl⟩
  · rw [show min a b = a from by omega, show max a b = b from by omega]
    go_enter Try.func24, Try.ntmps24
    go_wp2_with fail
    go_ret2
    exact ⟨rfl, 0, rfl⟩
end Go.Proofs.Ytmpcellghmcfeaa
