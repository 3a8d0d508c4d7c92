/- Proved: the chapter's examples of bounds hold (BoundsKnown), a closed statement. -/
import Derived.Test.YtmpcellghmcfeaaRows
import Derived.Test.YtmpcellghmcfeaaBndW
import Derived.Deep.LoopGhost
import Derived.Deep.DeepCutAuto
import Derived.ProofKit
import Derived.OpenShut
import Derived.ShutString
import Derived.ChangeOld
namespace Go.Proofs.Ytmpcellghmcfeaa.bknown
open Go.ChangeShapes Go.WideShapes Go.ChangeAt Go.RowKit
open Go.ChangeMaps (open_string shut_string)
set_option linter.unusedVariables false

theorem Round_is (b t x y : Nat) (i : Bool) (w : World) (hb : b < 4294967296) (ht : t < 18446744073709551616) (h : rdB b t = x ∧ rdT b t = y ∧ may b t = i) :
    Calls Try.prog 20 #[.int .u32 b, .int .u64 t] w fun e' w' => e' = .returned (.tuple #[.int .u32 x, .int .u64 y, .bool i]) ∧ Below w.heap.size w w' := by
  obtain ⟨rfl, rfl, rfl⟩ := h
  exact Round_any b t w hb ht
theorem Keeps_is (e b t c n : Nat) (i : Bool) (w : World) (hc : c < 4294967296) (hn : n < 4294967296) (h : kp e b t c n = i) :
    Calls Try.prog 16 #[.int .u8 e, .int .u16 b, .int .u16 t, .int .u32 c, .int .u32 n] w fun e' w' => e' = .returned (.bool i) ∧ Below w.heap.size w w' := by
  subst h
  exact Keeps_any e b t c n w hc hn
theorem Pad_is (s x y : Nat) (w : World) (hs : s < 4294967296) (h : pdP s = x ∧ pdA s = y) :
    Calls Try.prog 22 #[.int .u32 s] w fun e' w' => e' = .returned (.tuple #[.int .u32 x, .int .u32 y]) ∧ Below w.heap.size w w' := by
  obtain ⟨rfl, rfl⟩ := h
  exact Pad_any s w hs

/-- A list that was laid stands; what lies below is kept. -/
structure Tab (W w : World) (b : Nat) (c : Array Value) (ty : TypeId) : Prop where
  bl : Below W.heap.size W w
  tb : w.heap[b]? = some (.cells c ty (0, 0))
  lt : b < w.heap.size
theorem Tab.keep {W w w' : World} {b : Nat} {c : Array Value} {ty : TypeId} (h : Tab W w b c ty) (k : Below w.heap.size w w') : Tab W w' b c ty :=
  ⟨h.bl.trans (k.mono h.bl.size), (k.block b h.lt).trans h.tb, Nat.lt_of_lt_of_le h.lt k.size⟩
theorem Tab.alloc {W w : World} {b : Nat} {c : Array Value} {ty : TypeId} (h : Tab W w b c ty) (o : Obj) : Tab W (w.alloc o) b c ty := h.keep ((Below.refl _ _).alloc (Nat.le_refl _) o)
theorem Tab.new {W w : World} (h : Below W.heap.size W w) (c : Array Value) (ty : TypeId) : Tab W (w.alloc (.cells c ty)) w.heap.size c ty := ⟨h.alloc h.size _, heap_alloc_new w _, by simp⟩
theorem cell_of {w : World} {b : Nat} {c : Array Value} {ty : TypeId} {fr : Nat × Nat} (h : w.heap[b]? = some (.cells c ty fr)) (j : Nat) : w.cell? ⟨b, j, none⟩ = c[j]? := by
  simp [World.cell?, h]

set_option maxRecDepth 100000 in
set_option maxHeartbeats 6000000 in
theorem walk (W : World) : Calls Try.prog 12 #[] W fun e w' => e = .returned (.bool true) ∧ Below W.heap.size W w' := by
  have E1 := Lib.hid (fun w => Encode_is 0 4294967296 21 0 2048 true true w (by decide) (by decide) (by decide +kernel))
  have E2 := Lib.hid (fun w => Encode_is 1 4294967296 21 0 2048 false true w (by decide) (by decide) (by decide +kernel))
  have E3 := Lib.hid (fun w => Encode_is 4097 8193 2 1024 2049 false true w (by decide) (by decide) (by decide +kernel))
  have E4 := Lib.hid (fun w => Encode_is 5 4 0 0 0 false false w (by decide) (by decide) (by decide +kernel))
  have R1 := Lib.hid (fun w => Round_is 4097 8193 4096 8196 true w (by decide) (by decide) (by decide +kernel))
  have R2 := Lib.hid (fun w => Round_is 0 4294967297 0 0 false w (by decide) (by decide) (by decide +kernel))
  have R3 := Lib.hid (fun w => Round_is 0 18446744073709551615 0 0 false w (by decide) (by decide) (by decide +kernel))
  go_enter Try.func12, Try.ntmps12
  go_wp2_with fail
  refine (E1.out _).mono ?_
  rintro e w1 ⟨rfl, h1⟩
  have b1 := Lib.hid h1
  clear h1 E1
  go_wp2_with fail
  refine (E2.out _).mono ?_
  rintro e w2 ⟨rfl, h1⟩
  replace b1 := Lib.hid (b1.out.trans (h1.mono b1.out.size))
  clear h1 E2
  go_wp2_with fail
  refine (E3.out _).mono ?_
  rintro e w3 ⟨rfl, h1⟩
  replace b1 := Lib.hid (b1.out.trans (h1.mono b1.out.size))
  clear h1 E3
  go_wp2_with fail
  refine (E4.out _).mono ?_
  rintro e w4 ⟨rfl, h1⟩
  replace b1 := Lib.hid (b1.out.trans (h1.mono b1.out.size))
  clear h1 E4
  go_wp2_with fail
  refine (R1.out _).mono ?_
  rintro e w5 ⟨rfl, h1⟩
  replace b1 := Lib.hid (b1.out.trans (h1.mono b1.out.size))
  clear h1 R1
  go_wp2_with fail
  refine (R2.out _).mono ?_
  rintro e w6 ⟨rfl, h1⟩
  replace b1 := Lib.hid (b1.out.trans (h1.mono b1.out.size))
  clear h1 R2
  go_wp2_with fail
  refine (R3.out _).mono ?_
  rintro e w7 ⟨rfl, h1⟩
  replace b1 := Lib.hid (b1.out.trans (h1.mono b1.out.size))
  clear h1 R3
  go_wp2_with fail
  go_loopw [157] (fun i wr => ∃ j : Nat, j ≤ 6 ∧ i = .int .i64 j ∧ Tab W wr w7.heap.size #[.int .u32 4096, .int .u32 4099, .int .u32 3072, .int .u32 3071, .int .u32 7167, .int .u32 7168] 25) (fun i _ => 6 - (intOf i).toNat)
  case atStart => exact ⟨0, by omega, rfl, Tab.new b1.out _ _⟩
  case round =>
    obtain ⟨j, hj, rfl, hI⟩ := hrel
    replace hI := Lib.hid hI
    have hj' : j = 0 ∨ j = 1 ∨ j = 2 ∨ j = 3 ∨ j = 4 ∨ j = 5 ∨ j = 6 := by omega
    rcases hj' with rfl | rfl | rfl | rfl | rfl | rfl | rfl
    · have c0 : wr.cell? ⟨w7.heap.size, 0, none⟩ = some (.int .u32 4096) := (cell_of hI.out.tb 0).trans rfl
      go_wp2_with fail
      refine (Decode_is 0 0 4 4096 4096 4100 _ (by decide) (by decide +kernel)).mono ?_
      rintro e w8 ⟨rfl, h1⟩
      have T8 := Lib.hid (hI.out.keep h1)
      clear h1
      go_wp2_with fail
      go_roundw
      case rel => exact ⟨1, by omega, rfl, T8.out.alloc _⟩
      case measure => simp [intOf]
    · have c0 : wr.cell? ⟨w7.heap.size, 1, none⟩ = some (.int .u32 4099) := (cell_of hI.out.tb 1).trans rfl
      go_wp2_with fail
      refine (Decode_is 0 0 4 4099 4096 4100 _ (by decide) (by decide +kernel)).mono ?_
      rintro e w8 ⟨rfl, h1⟩
      have T8 := Lib.hid (hI.out.keep h1)
      clear h1
      go_wp2_with fail
      go_roundw
      case rel => exact ⟨2, by omega, rfl, T8.out.alloc _⟩
      case measure => simp [intOf]
    · have c0 : wr.cell? ⟨w7.heap.size, 2, none⟩ = some (.int .u32 3072) := (cell_of hI.out.tb 2).trans rfl
      go_wp2_with fail
      refine (Decode_is 0 0 4 3072 4096 4100 _ (by decide) (by decide +kernel)).mono ?_
      rintro e w8 ⟨rfl, h1⟩
      have T8 := Lib.hid (hI.out.keep h1)
      clear h1
      go_wp2_with fail
      go_roundw
      case rel => exact ⟨3, by omega, rfl, T8.out.alloc _⟩
      case measure => simp [intOf]
    · have c0 : wr.cell? ⟨w7.heap.size, 3, none⟩ = some (.int .u32 3071) := (cell_of hI.out.tb 3).trans rfl
      go_wp2_with fail
      refine (Decode_is 0 0 4 3071 0 4 _ (by decide) (by decide +kernel)).mono ?_
      rintro e w8 ⟨rfl, h1⟩
      have T8 := Lib.hid (hI.out.keep h1)
      clear h1
      go_wp2_with fail
      go_roundw
      case rel => exact ⟨4, by omega, rfl, T8.out.alloc _⟩
      case measure => simp [intOf]
    · have c0 : wr.cell? ⟨w7.heap.size, 4, none⟩ = some (.int .u32 7167) := (cell_of hI.out.tb 4).trans rfl
      go_wp2_with fail
      refine (Decode_is 0 0 4 7167 4096 4100 _ (by decide) (by decide +kernel)).mono ?_
      rintro e w8 ⟨rfl, h1⟩
      have T8 := Lib.hid (hI.out.keep h1)
      clear h1
      go_wp2_with fail
      go_roundw
      case rel => exact ⟨5, by omega, rfl, T8.out.alloc _⟩
      case measure => simp [intOf]
    · have c0 : wr.cell? ⟨w7.heap.size, 5, none⟩ = some (.int .u32 7168) := (cell_of hI.out.tb 5).trans rfl
      go_wp2_with fail
      refine (Decode_is 0 0 4 7168 8192 8196 _ (by decide) (by decide +kernel)).mono ?_
      rintro e w8 ⟨rfl, h1⟩
      have T8 := Lib.hid (hI.out.keep h1)
      clear h1
      go_wp2_with fail
      go_roundw
      case rel => exact ⟨6, by omega, rfl, T8.out.alloc _⟩
      case measure => simp [intOf]
    · have B1 := Lib.hid hI.out.bl
      clear hI hj
      rw [show ((6 : Nat) : Int) = 6 from rfl]
      go_wp2_with fail
      obtain ⟨W9, hW9⟩ : ∃ W9, W9 = wr := ⟨_, rfl⟩
      rw [← hW9]
      rw [← hW9] at B1
      clear hW9
      go_loopw [190] (fun i w' => ∃ j : Nat, j ≤ 6 ∧ i = .int .i64 j ∧ Tab W w' W9.heap.size #[.int .u8 22, .int .u16 0, .int .u16 1, .int .u8 255, .int .u16 0, .int .u16 1, .int .u8 0, .int .u16 5, .int .u16 4, .int .u8 0, .int .u16 4000, .int .u16 10, .int .u8 0, .int .u16 4096, .int .u16 4097, .int .u8 0, .int .u16 0, .int .u16 4096] 24) (fun i _ => 6 - (intOf i).toNat)
      case atStart => exact ⟨0, by omega, rfl, Tab.new B1.out _ _⟩
      case round =>
        obtain ⟨j, hj, rfl, hI⟩ := hrel
        replace hI := Lib.hid hI
        have hj' : j = 0 ∨ j = 1 ∨ j = 2 ∨ j = 3 ∨ j = 4 ∨ j = 5 ∨ j = 6 := by omega
        rcases hj' with rfl | rfl | rfl | rfl | rfl | rfl | rfl
        · have c0 : wr.cell? ⟨W9.heap.size, 0, none⟩ = some (.int .u8 22) := (cell_of hI.out.tb 0).trans rfl
          have c1 : wr.cell? ⟨W9.heap.size, 1, none⟩ = some (.int .u16 0) := (cell_of hI.out.tb 1).trans rfl
          have c2 : wr.cell? ⟨W9.heap.size, 2, none⟩ = some (.int .u16 1) := (cell_of hI.out.tb 2).trans rfl
          go_wp2_with fail
          refine (Decode_is 22 0 1 5 0 0 _ (by decide) (by decide +kernel)).mono ?_
          rintro e w8 ⟨rfl, h1⟩
          have q0 : w8.cell? ⟨wr.heap.size, 0, none⟩ = some (.int .u8 22) := (h1.cell (by simp)).trans (by simp [go_sem])
          have q1 : w8.cell? ⟨wr.heap.size, 1, none⟩ = some (.int .u16 0) := (h1.cell (by simp)).trans (by simp [go_sem])
          have q2 : w8.cell? ⟨wr.heap.size, 2, none⟩ = some (.int .u16 1) := (h1.cell (by simp)).trans (by simp [go_sem])
          have T8 := Lib.hid ((hI.out.alloc _).keep h1)
          clear h1
          go_wp2_with fail
          refine (Keeps_is 22 0 1 5 5 false _ (by decide) (by decide) (by decide +kernel)).mono ?_
          rintro e w9 ⟨rfl, h1⟩
          replace T8 := Lib.hid (T8.out.keep h1)
          clear h1
          go_wp2_with fail
          go_roundw
          case rel => exact ⟨1, by omega, rfl, T8.out⟩
          case measure => simp [intOf]
        · have c0 : wr.cell? ⟨W9.heap.size, 3, none⟩ = some (.int .u8 255) := (cell_of hI.out.tb 3).trans rfl
          have c1 : wr.cell? ⟨W9.heap.size, 4, none⟩ = some (.int .u16 0) := (cell_of hI.out.tb 4).trans rfl
          have c2 : wr.cell? ⟨W9.heap.size, 5, none⟩ = some (.int .u16 1) := (cell_of hI.out.tb 5).trans rfl
          go_wp2_with fail
          refine (Decode_is 255 0 1 5 0 0 _ (by decide) (by decide +kernel)).mono ?_
          rintro e w8 ⟨rfl, h1⟩
          have q0 : w8.cell? ⟨wr.heap.size, 0, none⟩ = some (.int .u8 255) := (h1.cell (by simp)).trans (by simp [go_sem])
          have q1 : w8.cell? ⟨wr.heap.size, 1, none⟩ = some (.int .u16 0) := (h1.cell (by simp)).trans (by simp [go_sem])
          have q2 : w8.cell? ⟨wr.heap.size, 2, none⟩ = some (.int .u16 1) := (h1.cell (by simp)).trans (by simp [go_sem])
          have T8 := Lib.hid ((hI.out.alloc _).keep h1)
          clear h1
          go_wp2_with fail
          refine (Keeps_is 255 0 1 5 5 false _ (by decide) (by decide) (by decide +kernel)).mono ?_
          rintro e w9 ⟨rfl, h1⟩
          replace T8 := Lib.hid (T8.out.keep h1)
          clear h1
          go_wp2_with fail
          go_roundw
          case rel => exact ⟨2, by omega, rfl, T8.out⟩
          case measure => simp [intOf]
        · have c0 : wr.cell? ⟨W9.heap.size, 6, none⟩ = some (.int .u8 0) := (cell_of hI.out.tb 6).trans rfl
          have c1 : wr.cell? ⟨W9.heap.size, 7, none⟩ = some (.int .u16 5) := (cell_of hI.out.tb 7).trans rfl
          have c2 : wr.cell? ⟨W9.heap.size, 8, none⟩ = some (.int .u16 4) := (cell_of hI.out.tb 8).trans rfl
          go_wp2_with fail
          refine (Decode_is 0 5 4 5 0 0 _ (by decide) (by decide +kernel)).mono ?_
          rintro e w8 ⟨rfl, h1⟩
          have q0 : w8.cell? ⟨wr.heap.size, 0, none⟩ = some (.int .u8 0) := (h1.cell (by simp)).trans (by simp [go_sem])
          have q1 : w8.cell? ⟨wr.heap.size, 1, none⟩ = some (.int .u16 5) := (h1.cell (by simp)).trans (by simp [go_sem])
          have q2 : w8.cell? ⟨wr.heap.size, 2, none⟩ = some (.int .u16 4) := (h1.cell (by simp)).trans (by simp [go_sem])
          have T8 := Lib.hid ((hI.out.alloc _).keep h1)
          clear h1
          go_wp2_with fail
          refine (Keeps_is 0 5 4 5 5 false _ (by decide) (by decide) (by decide +kernel)).mono ?_
          rintro e w9 ⟨rfl, h1⟩
          replace T8 := Lib.hid (T8.out.keep h1)
          clear h1
          go_wp2_with fail
          go_roundw
          case rel => exact ⟨3, by omega, rfl, T8.out⟩
          case measure => simp [intOf]
        · have c0 : wr.cell? ⟨W9.heap.size, 9, none⟩ = some (.int .u8 0) := (cell_of hI.out.tb 9).trans rfl
          have c1 : wr.cell? ⟨W9.heap.size, 10, none⟩ = some (.int .u16 4000) := (cell_of hI.out.tb 10).trans rfl
          have c2 : wr.cell? ⟨W9.heap.size, 11, none⟩ = some (.int .u16 10) := (cell_of hI.out.tb 11).trans rfl
          go_wp2_with fail
          refine (Decode_is 0 4000 10 5 0 0 _ (by decide) (by decide +kernel)).mono ?_
          rintro e w8 ⟨rfl, h1⟩
          have q0 : w8.cell? ⟨wr.heap.size, 0, none⟩ = some (.int .u8 0) := (h1.cell (by simp)).trans (by simp [go_sem])
          have q1 : w8.cell? ⟨wr.heap.size, 1, none⟩ = some (.int .u16 4000) := (h1.cell (by simp)).trans (by simp [go_sem])
          have q2 : w8.cell? ⟨wr.heap.size, 2, none⟩ = some (.int .u16 10) := (h1.cell (by simp)).trans (by simp [go_sem])
          have T8 := Lib.hid ((hI.out.alloc _).keep h1)
          clear h1
          go_wp2_with fail
          refine (Keeps_is 0 4000 10 5 5 false _ (by decide) (by decide) (by decide +kernel)).mono ?_
          rintro e w9 ⟨rfl, h1⟩
          replace T8 := Lib.hid (T8.out.keep h1)
          clear h1
          go_wp2_with fail
          go_roundw
          case rel => exact ⟨4, by omega, rfl, T8.out⟩
          case measure => simp [intOf]
        · have c0 : wr.cell? ⟨W9.heap.size, 12, none⟩ = some (.int .u8 0) := (cell_of hI.out.tb 12).trans rfl
          have c1 : wr.cell? ⟨W9.heap.size, 13, none⟩ = some (.int .u16 4096) := (cell_of hI.out.tb 13).trans rfl
          have c2 : wr.cell? ⟨W9.heap.size, 14, none⟩ = some (.int .u16 4097) := (cell_of hI.out.tb 14).trans rfl
          go_wp2_with fail
          refine (Decode_is 0 4096 4097 5 0 0 _ (by decide) (by decide +kernel)).mono ?_
          rintro e w8 ⟨rfl, h1⟩
          have q0 : w8.cell? ⟨wr.heap.size, 0, none⟩ = some (.int .u8 0) := (h1.cell (by simp)).trans (by simp [go_sem])
          have q1 : w8.cell? ⟨wr.heap.size, 1, none⟩ = some (.int .u16 4096) := (h1.cell (by simp)).trans (by simp [go_sem])
          have q2 : w8.cell? ⟨wr.heap.size, 2, none⟩ = some (.int .u16 4097) := (h1.cell (by simp)).trans (by simp [go_sem])
          have T8 := Lib.hid ((hI.out.alloc _).keep h1)
          clear h1
          go_wp2_with fail
          refine (Keeps_is 0 4096 4097 5 5 false _ (by decide) (by decide) (by decide +kernel)).mono ?_
          rintro e w9 ⟨rfl, h1⟩
          replace T8 := Lib.hid (T8.out.keep h1)
          clear h1
          go_wp2_with fail
          go_roundw
          case rel => exact ⟨5, by omega, rfl, T8.out⟩
          case measure => simp [intOf]
        · have c0 : wr.cell? ⟨W9.heap.size, 15, none⟩ = some (.int .u8 0) := (cell_of hI.out.tb 15).trans rfl
          have c1 : wr.cell? ⟨W9.heap.size, 16, none⟩ = some (.int .u16 0) := (cell_of hI.out.tb 16).trans rfl
          have c2 : wr.cell? ⟨W9.heap.size, 17, none⟩ = some (.int .u16 4096) := (cell_of hI.out.tb 17).trans rfl
          go_wp2_with fail
          refine (Decode_is 0 0 4096 5 0 0 _ (by decide) (by decide +kernel)).mono ?_
          rintro e w8 ⟨rfl, h1⟩
          have q0 : w8.cell? ⟨wr.heap.size, 0, none⟩ = some (.int .u8 0) := (h1.cell (by simp)).trans (by simp [go_sem])
          have q1 : w8.cell? ⟨wr.heap.size, 1, none⟩ = some (.int .u16 0) := (h1.cell (by simp)).trans (by simp [go_sem])
          have q2 : w8.cell? ⟨wr.heap.size, 2, none⟩ = some (.int .u16 4096) := (h1.cell (by simp)).trans (by simp [go_sem])
          have T8 := Lib.hid ((hI.out.alloc _).keep h1)
          clear h1
          go_wp2_with fail
          refine (Keeps_is 0 0 4096 5 5 false _ (by decide) (by decide) (by decide +kernel)).mono ?_
          rintro e w9 ⟨rfl, h1⟩
          replace T8 := Lib.hid (T8.out.keep h1)
          clear h1
          go_wp2_with fail
          go_roundw
          case rel => exact ⟨6, by omega, rfl, T8.out⟩
          case measure => simp [intOf]
        · have B2 := Lib.hid hI.out.bl
          clear hI hj
          go_wp2_with fail
          refine (Keeps_is 0 0 4 4096 3072 true _ (by decide) (by decide) (by decide +kernel)).mono ?_
          rintro e w11 ⟨rfl, h1⟩
          replace B2 := Lib.hid (B2.out.trans (h1.mono B2.out.size))
          clear h1
          go_wp2_with fail
          refine (Keeps_is 0 0 4 4096 3071 false _ (by decide) (by decide) (by decide +kernel)).mono ?_
          rintro e w12 ⟨rfl, h1⟩
          replace B2 := Lib.hid (B2.out.trans (h1.mono B2.out.size))
          clear h1
          go_wp2_with fail
          refine (Keeps_is 0 0 4 3071 0 true _ (by decide) (by decide) (by decide +kernel)).mono ?_
          rintro e w13 ⟨rfl, h1⟩
          replace B2 := Lib.hid (B2.out.trans (h1.mono B2.out.size))
          clear h1
          go_wp2_with fail
          go_loopw [231] (fun i w' => ∃ j : Nat, j ≤ 8 ∧ i = .int .i64 j ∧ Tab W w' w13.heap.size #[.int .u32 0, .int .u32 1, .int .u32 2048, .int .u32 2049, .int .u32 4097, .int .u32 4294967295, .int .u32 4292870144, .int .u32 4292870145] 25) (fun i _ => 8 - (intOf i).toNat)
          case atStart => exact ⟨0, by omega, rfl, Tab.new B2.out _ _⟩
          case round =>
            obtain ⟨j, hj, rfl, hI⟩ := hrel
            replace hI := Lib.hid hI
            have hj' : j = 0 ∨ j = 1 ∨ j = 2 ∨ j = 3 ∨ j = 4 ∨ j = 5 ∨ j = 6 ∨ j = 7 ∨ j = 8 := by omega
            rcases hj' with rfl | rfl | rfl | rfl | rfl | rfl | rfl | rfl | rfl
            · have c0 : wr.cell? ⟨w13.heap.size, 0, none⟩ = some (.int .u32 0) := (cell_of hI.out.tb 0).trans rfl
              go_wp2_with fail
              refine (Pad_is 0 0 1 _ (by decide) (by decide +kernel)).mono ?_
              rintro e w14 ⟨rfl, h1⟩
              have T8 := Lib.hid (hI.out.keep h1)
              clear h1
              go_wp2_with fail
              go_roundw
              case rel => exact ⟨1, by omega, rfl, (T8.out.alloc _).alloc _⟩
              case measure => simp [intOf]
            · have c0 : wr.cell? ⟨w13.heap.size, 1, none⟩ = some (.int .u32 1) := (cell_of hI.out.tb 1).trans rfl
              go_wp2_with fail
              refine (Pad_is 1 1 1 _ (by decide) (by decide +kernel)).mono ?_
              rintro e w14 ⟨rfl, h1⟩
              have T8 := Lib.hid (hI.out.keep h1)
              clear h1
              go_wp2_with fail
              go_roundw
              case rel => exact ⟨2, by omega, rfl, (T8.out.alloc _).alloc _⟩
              case measure => simp [intOf]
            · have c0 : wr.cell? ⟨w13.heap.size, 2, none⟩ = some (.int .u32 2048) := (cell_of hI.out.tb 2).trans rfl
              go_wp2_with fail
              refine (Pad_is 2048 2048 1 _ (by decide) (by decide +kernel)).mono ?_
              rintro e w14 ⟨rfl, h1⟩
              have T8 := Lib.hid (hI.out.keep h1)
              clear h1
              go_wp2_with fail
              go_roundw
              case rel => exact ⟨3, by omega, rfl, (T8.out.alloc _).alloc _⟩
              case measure => simp [intOf]
            · have c0 : wr.cell? ⟨w13.heap.size, 3, none⟩ = some (.int .u32 2049) := (cell_of hI.out.tb 3).trans rfl
              go_wp2_with fail
              refine (Pad_is 2049 2050 2 _ (by decide) (by decide +kernel)).mono ?_
              rintro e w14 ⟨rfl, h1⟩
              have T8 := Lib.hid (hI.out.keep h1)
              clear h1
              go_wp2_with fail
              go_roundw
              case rel => exact ⟨4, by omega, rfl, (T8.out.alloc _).alloc _⟩
              case measure => simp [intOf]
            · have c0 : wr.cell? ⟨w13.heap.size, 4, none⟩ = some (.int .u32 4097) := (cell_of hI.out.tb 4).trans rfl
              go_wp2_with fail
              refine (Pad_is 4097 4100 4 _ (by decide) (by decide +kernel)).mono ?_
              rintro e w14 ⟨rfl, h1⟩
              have T8 := Lib.hid (hI.out.keep h1)
              clear h1
              go_wp2_with fail
              go_roundw
              case rel => exact ⟨5, by omega, rfl, (T8.out.alloc _).alloc _⟩
              case measure => simp [intOf]
            · have c0 : wr.cell? ⟨w13.heap.size, 5, none⟩ = some (.int .u32 4294967295) := (cell_of hI.out.tb 5).trans rfl
              go_wp2_with fail
              refine (Pad_is 4294967295 0 0 _ (by decide) (by decide +kernel)).mono ?_
              rintro e w14 ⟨rfl, h1⟩
              have T8 := Lib.hid (hI.out.keep h1)
              clear h1
              go_wp2_with fail
              go_roundw
              case rel => exact ⟨6, by omega, rfl, (T8.out.alloc _).alloc _⟩
              case measure => simp [intOf]
            · have c0 : wr.cell? ⟨w13.heap.size, 6, none⟩ = some (.int .u32 4292870144) := (cell_of hI.out.tb 6).trans rfl
              go_wp2_with fail
              refine (Pad_is 4292870144 4292870144 2097152 _ (by decide) (by decide +kernel)).mono ?_
              rintro e w14 ⟨rfl, h1⟩
              have T8 := Lib.hid (hI.out.keep h1)
              clear h1
              go_wp2_with fail
              go_roundw
              case rel => exact ⟨7, by omega, rfl, (T8.out.alloc _).alloc _⟩
              case measure => simp [intOf]
            · have c0 : wr.cell? ⟨w13.heap.size, 7, none⟩ = some (.int .u32 4292870145) := (cell_of hI.out.tb 7).trans rfl
              go_wp2_with fail
              refine (Pad_is 4292870145 0 0 _ (by decide) (by decide +kernel)).mono ?_
              rintro e w14 ⟨rfl, h1⟩
              have T8 := Lib.hid (hI.out.keep h1)
              clear h1
              go_wp2_with fail
              go_roundw
              case rel => exact ⟨8, by omega, rfl, (T8.out.alloc _).alloc _⟩
              case measure => simp [intOf]
            · have B3 := Lib.hid hI.out.bl
              clear hI hj
              go_wp2_with fail
              refine (works_any _).mono ?_
              rintro e w15 ⟨rfl, h1⟩
              replace B3 := Lib.hid (B3.out.trans (h1.mono B3.out.size))
              clear h1
              go_wp2_with fail
              go_ret
              exact ⟨rfl, B3.out⟩
theorem own : ownKnob Try.prog.godebug = none := by kernel_rfl
theorem laidOut : laidOutB Try.prog = true := by kernel_rfl
set_option maxRecDepth 100000 in
theorem lifted (os : Os) (started : os.Started) (H : Type) (enc : TypeId × Value → H) :
    ReturnsInHanded {} Try.checked os 12 .any (Rows.boundsKnownSpec.pre6 enc Try.prog Try.f12 Rows.boundsKnownRow.domain false) (Rows.boundsKnownSpec.post enc Try.prog Try.f12 false true false false) := by
  refine returnsInHanded_of_change (C := Try.checked) own started (by kernel_rfl) Try.func12
    (ChangeSpec.witness6 (enc := enc) (C := Try.checked) false ⟨#[], #[], []⟩ 8 (by kernel_rfl) (by kernel_rfl) (by kernel_rfl) (by kernel_rfl)) ?_
  intro W base args ds gs before hval0 hW hcnd hsz
  have hval : ∀ (j : Nat) t v, Try.f12.params[j]? = some t → args[j]? = some v → Value.okWide Try.prog W .any base t v := hval0
  have hW' := hW
  obtain ⟨p, q, hA0, hV, rfl, hfz, hnd⟩ := hW
  have hA : DataW.TrodAll enc Try.prog W 0 (fun _ => true) true Try.f12.params.toList args.toList ds p := hA0
  rw [Try.params12] at hA hval
  obtain ⟨rfl, rfl, rfl⟩ := trodAll_none hA
  obtain ⟨rfl, rfl⟩ := trodVars_none hV
  clear hA0 hval0
  refine (walk  W).mono fun e W' ⟨he, bel⟩ => ?_
  subst he
  exact ⟨_, rfl, _, _, _, [], _, [], hW', trodAll_mk1 (shut_bool Try.underlying4 _), trodAll_mk0, rfl, bel.frame _, fun h => by cases h⟩
theorem over : Rows.boundsKnownRow.holds Try.pinned (OpenSpec.ofChange Rows.boundsKnownSpec) :=
  OpenClaim.holds_of_wide 12 Try.f12 rfl rfl rfl rfl rfl rfl rfl ⟨rfl, rfl, rfl, rfl, rfl⟩ rfl rfl rfl rfl rfl (by kernel_rfl) Try.func12 (by kernel_rfl)
    (of_decide_eq_true (by kernel_rfl)) (by unfold Func.isWrapper; first | (rw [if_pos (by decide +kernel)]; kernel_rfl) | (rw [if_neg (by decide +kernel)]; exact ⟨rfl, rfl⟩))
    (fun os started H enc _ => lifted os started H enc)
/-- The given statement. -/
theorem proved : Rows.BoundsKnownSaid := over
end Go.Proofs.Ytmpcellghmcfeaa.bknown
