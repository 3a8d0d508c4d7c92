/- Proved: the chapter's examples of sizes hold (SizesKnown), a closed statement. -/
import Derived.Test.YtchonkkflklckaaRows
import Derived.Test.YtchonkkflklckaaSzB
import Derived.Test.YtchonkkflklckaaCls
import Derived.Deep.QuietTactic
import Derived.Deep.LoopGhost
import Derived.Deep.DeepCutAuto
import Derived.StillTailTactics
import Derived.ProofKit
import Derived.OpenShut
import Derived.ShutString
import Derived.ChangeOld
namespace Go.Proofs.Ytchonkkflklckaa.zknown
open Go.ChangeShapes Go.WideShapes Go.ChangeAt Go.RowKit
open Go.ChangeMaps (open_string shut_string)
set_option linter.unusedVariables false
set_option linter.unusedSimpArgs false
theorem Cls_is (s c : Nat) (b : Bool) (w : World) (hs : s < 4294967296) (h : clsN s = c ∧ clsB s = b) : Calls Try.prog 10 #[.int .u32 s] w fun e w' => e = .returned (.tuple #[.int .i64 c, .bool b]) ∧ Below w.heap.size w w' := by
  obtain ⟨rfl, rfl⟩ := h
  exact pClass_any s w hs
theorem Padded_is (s h x y : Nat) (z : Int) (w : World) (hs : s < 4294967296) (hh : h < 4294967296) (k : padP s h = x ∧ padA s h = y ∧ padE s h = z) : Calls Try.prog 16 #[.int .u32 s, .int .u32 h] w fun e w' => e = .returned (.tuple #[.int .u32 x, .int .u32 y, .int .i64 z]) ∧ Below w.heap.size w w' := by
  obtain ⟨rfl, rfl, rfl⟩ := k
  exact pPadded_any s h w hs hh
theorem Slot_is (c : Int) (x : Nat) (w : World) (h : sltI c = x) : Calls Try.prog 12 #[.int .i64 c] w fun e w' => e = .returned (.int .u32 x) ∧ w = w' := by
  subst h
  exact pSlot_any c w
theorem Pages_is (s x : Nat) (w : World) (hs : s < 4294967296) (h : pgN s = x) : Calls Try.prog 18 #[.int .u32 s] w fun e w' => e = .returned (.int .i64 x) ∧ w = w' := by
  subst h
  exact pPages_any s w hs
/-- A list that was laid stands; what lies below is kept. -/
structure Tab (W w : World) (b : Nat) (c : Array Value) (ty : TypeId) : Prop where
  bl : Below W.heap.size W w
  tb : w.heap[b]? = some (.cells c ty (0, 0))
  lt : b < w.heap.size
theorem Tab.keep {W w w' : World} {b : Nat} {c : Array Value} {ty : TypeId} (h : Tab W w b c ty) (k : Below w.heap.size w w') : Tab W w' b c ty :=
  ⟨h.bl.trans (k.mono h.bl.size), (k.block b h.lt).trans h.tb, Nat.lt_of_lt_of_le h.lt k.size⟩
theorem Tab.alloc {W w : World} {b : Nat} {c : Array Value} {ty : TypeId} (h : Tab W w b c ty) (o : Obj) : Tab W (w.alloc o) b c ty := h.keep ((Below.refl _ _).alloc (Nat.le_refl _) o)
theorem Tab.drew {W w : World} {b : Nat} {c : Array Value} {ty : TypeId} (h : Tab W w b c ty) : Tab W w.drew b c ty := h.keep (Below.refl _ _).drew
theorem Tab.new {W w : World} (h : Below W.heap.size W w) (c : Array Value) (ty : TypeId) : Tab W (w.alloc (.cells c ty)) w.heap.size c ty := ⟨h.alloc h.size _, heap_alloc_new w _, by simp⟩
theorem cell_of {w : World} {b : Nat} {c : Array Value} {ty : TypeId} {fr : Nat × Nat} (h : w.heap[b]? = some (.cells c ty fr)) (j : Nat) : w.cell? ⟨b, j, none⟩ = c[j]? := by
  simp [World.cell?, h]
set_option maxRecDepth 100000 in
set_option maxHeartbeats 16000000 in
theorem walk (W : World) : Calls Try.prog 9 #[] W fun e w' => e = .returned (.bool true) ∧ Below W.heap.size W w' := by
  have hC := Lib.hid pClasses_any
  go_enter Try.func9, Try.ntmps9
  go_wp2_with fail
  refine (hC.out _).mono ?_
  rintro e w1 ⟨rfl, rfl⟩
  go_wp2_with fail
  refine (Slot_is 0 16 _ (by decide +kernel)).mono ?_
  rintro e w1 ⟨rfl, rfl⟩
  go_wp2_with fail
  refine (Slot_is 4 256 _ (by decide +kernel)).mono ?_
  rintro e w1 ⟨rfl, rfl⟩
  go_wp2_with fail
  refine (Slot_is 5 0 _ (by decide +kernel)).mono ?_
  rintro e w1 ⟨rfl, rfl⟩
  go_wp2_with fail
  refine (Slot_is (-1) 0 _ (by decide +kernel)).mono ?_
  rintro e w1 ⟨rfl, rfl⟩
  go_wp2_with fail
  refine (Slot_is 4611686018427387904 0 _ (by decide +kernel)).mono ?_
  rintro e w1 ⟨rfl, rfl⟩
  go_wp2_with fail
  refine (Slot_is (-9223372036854775808) 0 _ (by decide +kernel)).mono ?_
  rintro e w1 ⟨rfl, rfl⟩
  go_wp2_with fail
  go_loopw [42] (fun i wr => ∃ j : Nat, j ≤ 7 ∧ i = .int .i64 j ∧ Tab W wr W.heap.size #[.int .u32 0, .int .u32 1, .int .u32 16, .int .u32 17, .int .u32 256, .int .u32 257, .int .u32 4294967295] 22) (fun i _ => 7 - (intOf i).toNat)
  case atStart => exact ⟨0, by omega, rfl, Tab.new (Below.refl _ _) _ _⟩
  case round =>
    obtain ⟨j, hj, rfl, hI⟩ := hrel
    replace hI := Lib.hid hI
    have hj' : j = 0 ∨ j = 1 ∨ j = 2 ∨ j = 3 ∨ j = 4 ∨ j = 5 ∨ j = 6 ∨ j = 7 := by omega
    rcases hj' with rfl | rfl | rfl | rfl | rfl | rfl | rfl | rfl
    · have c0 : wr.cell? ⟨W.heap.size, 0, none⟩ = some (.int .u32 0) := (cell_of hI.out.tb 0).trans rfl
      go_wp2_with fail
      refine (Cls_is 0 0 false _ (by decide) (by decide +kernel)).mono ?_
      rintro e w8 ⟨rfl, h1⟩
      have T8 := Lib.hid (hI.out.keep h1)
      clear h1
      go_wp2_with fail
      go_roundw
      case rel => exact ⟨1, by omega, rfl, T8.out.alloc _⟩
      case measure => simp [intOf]
    · have c0 : wr.cell? ⟨W.heap.size, 1, none⟩ = some (.int .u32 1) := (cell_of hI.out.tb 1).trans rfl
      go_wp2_with fail
      refine (Cls_is 1 0 true _ (by decide) (by decide +kernel)).mono ?_
      rintro e w8 ⟨rfl, h1⟩
      have T8 := Lib.hid (hI.out.keep h1)
      clear h1
      go_wp2_with fail
      go_roundw
      case rel => exact ⟨2, by omega, rfl, T8.out.alloc _⟩
      case measure => simp [intOf]
    · have c0 : wr.cell? ⟨W.heap.size, 2, none⟩ = some (.int .u32 16) := (cell_of hI.out.tb 2).trans rfl
      go_wp2_with fail
      refine (Cls_is 16 0 true _ (by decide) (by decide +kernel)).mono ?_
      rintro e w8 ⟨rfl, h1⟩
      have T8 := Lib.hid (hI.out.keep h1)
      clear h1
      go_wp2_with fail
      go_roundw
      case rel => exact ⟨3, by omega, rfl, T8.out.alloc _⟩
      case measure => simp [intOf]
    · have c0 : wr.cell? ⟨W.heap.size, 3, none⟩ = some (.int .u32 17) := (cell_of hI.out.tb 3).trans rfl
      go_wp2_with fail
      refine (Cls_is 17 1 true _ (by decide) (by decide +kernel)).mono ?_
      rintro e w8 ⟨rfl, h1⟩
      have T8 := Lib.hid (hI.out.keep h1)
      clear h1
      go_wp2_with fail
      go_roundw
      case rel => exact ⟨4, by omega, rfl, T8.out.alloc _⟩
      case measure => simp [intOf]
    · have c0 : wr.cell? ⟨W.heap.size, 4, none⟩ = some (.int .u32 256) := (cell_of hI.out.tb 4).trans rfl
      go_wp2_with fail
      refine (Cls_is 256 4 true _ (by decide) (by decide +kernel)).mono ?_
      rintro e w8 ⟨rfl, h1⟩
      have T8 := Lib.hid (hI.out.keep h1)
      clear h1
      go_wp2_with fail
      go_roundw
      case rel => exact ⟨5, by omega, rfl, T8.out.alloc _⟩
      case measure => simp [intOf]
    · have c0 : wr.cell? ⟨W.heap.size, 5, none⟩ = some (.int .u32 257) := (cell_of hI.out.tb 5).trans rfl
      go_wp2_with fail
      refine (Cls_is 257 0 false _ (by decide) (by decide +kernel)).mono ?_
      rintro e w8 ⟨rfl, h1⟩
      have T8 := Lib.hid (hI.out.keep h1)
      clear h1
      go_wp2_with fail
      go_roundw
      case rel => exact ⟨6, by omega, rfl, T8.out.alloc _⟩
      case measure => simp [intOf]
    · have c0 : wr.cell? ⟨W.heap.size, 6, none⟩ = some (.int .u32 4294967295) := (cell_of hI.out.tb 6).trans rfl
      go_wp2_with fail
      refine (Cls_is 4294967295 0 false _ (by decide) (by decide +kernel)).mono ?_
      rintro e w8 ⟨rfl, h1⟩
      have T8 := Lib.hid (hI.out.keep h1)
      clear h1
      go_wp2_with fail
      go_roundw
      case rel => exact ⟨7, by omega, rfl, T8.out.alloc _⟩
      case measure => simp [intOf]
    · have B1 := Lib.hid hI.out.bl
      clear hI hj
      go_wp2_with fail
      go_loopw [6] (fun i w' => ∃ j : Nat, j ≤ 7 ∧ i = .int .i64 j ∧ Tab W w' wr.heap.size #[.int .u32 1, .int .u32 4096, .int .u32 16, .int .u32 16, .int .u32 33, .int .u32 4096, .int .u32 64, .int .u32 64, .int .u32 257, .int .u32 4096, .int .u32 512, .int .u32 256, .int .u32 200000, .int .u32 1048576, .int .u32 200192, .int .u32 256, .int .u32 1048575, .int .u32 16777216, .int .u32 1048576, .int .u32 512, .int .u32 2097153, .int .u32 16777216, .int .u32 2099200, .int .u32 2048, .int .u32 300, .int .u32 512, .int .u32 512, .int .u32 256] 42) (fun i _ => 7 - (intOf i).toNat)
      case atStart => exact ⟨0, by omega, rfl, Tab.new B1.out _ _⟩
      case round =>
        obtain ⟨j, hj, rfl, hI⟩ := hrel
        rename World => wq
        replace hI := Lib.hid hI
        have hj' : j = 0 ∨ j = 1 ∨ j = 2 ∨ j = 3 ∨ j = 4 ∨ j = 5 ∨ j = 6 ∨ j = 7 := by omega
        rcases hj' with rfl | rfl | rfl | rfl | rfl | rfl | rfl | rfl
        · obtain ⟨SS, hS0⟩ : ∃ SS : World → Prop, SS = fun w => Tab W w wr.heap.size #[.int .u32 1, .int .u32 4096, .int .u32 16, .int .u32 16, .int .u32 33, .int .u32 4096, .int .u32 64, .int .u32 64, .int .u32 257, .int .u32 4096, .int .u32 512, .int .u32 256, .int .u32 200000, .int .u32 1048576, .int .u32 200192, .int .u32 256, .int .u32 1048575, .int .u32 16777216, .int .u32 1048576, .int .u32 512, .int .u32 2097153, .int .u32 16777216, .int .u32 2099200, .int .u32 2048, .int .u32 300, .int .u32 512, .int .u32 512, .int .u32 256] 42 := ⟨_, rfl⟩
          have hK : ∀ w, SS w → Tab W w wr.heap.size #[.int .u32 1, .int .u32 4096, .int .u32 16, .int .u32 16, .int .u32 33, .int .u32 4096, .int .u32 64, .int .u32 64, .int .u32 257, .int .u32 4096, .int .u32 512, .int .u32 256, .int .u32 200000, .int .u32 1048576, .int .u32 200192, .int .u32 256, .int .u32 1048575, .int .u32 16777216, .int .u32 1048576, .int .u32 512, .int .u32 2097153, .int .u32 16777216, .int .u32 2099200, .int .u32 2048, .int .u32 300, .int .u32 512, .int .u32 512, .int .u32 256] 42 := fun w h => by rw [hS0] at h; exact h
          have hS : ∀ u v, SS u → Below u.heap.size u v → SS v := fun u v h k => by rw [hS0] at h ⊢; exact h.keep k
          have s0 : SS wq.drew := by rw [hS0]; exact hI.out.drew
          clear hS0 hI
          have c0 : ∀ y : Wd SS, y.w.cell? ⟨wr.heap.size, 0, none⟩ = some (.int .u32 1) := fun y => (cell_of (hK _ y.h).tb 0).trans rfl
          have c1 : ∀ y : Wd SS, y.w.cell? ⟨wr.heap.size, 1, none⟩ = some (.int .u32 4096) := fun y => (cell_of (hK _ y.h).tb 1).trans rfl
          have qP := Lib.hid (cls_bel hS (fun w => Padded_is 1 4096 16 16 0 w (by decide) (by decide) (by decide +kernel)))
          replace hK := Lib.hid hK
          replace s0 := Lib.hid s0
          clear hS
          go_wp2_with fail
          refine region_cls SS (by kernel_rfl) (by kernel_rfl) s0.out ?_
          repeat (first
            | go_big_quiet_skip
            | (go_big_quiet_want
               go_big_quiet_op
               first
               | go_big_quiet_on
               | (apply Exists.intro
                  refine ⟨fun y => ?_, ?_⟩
                  · first | exact rfl | exact qP.out y
                  go_big_quiet_on)))
          refine wpQuiet_nil ?_
          intro y
          have T8 := Lib.hid (hK.out _ y.h)
          generalize y.w = w8 at T8 ⊢
          clear c0 c1 qP hK s0
          have c2 : w8.cell? ⟨wr.heap.size, 2, none⟩ = some (.int .u32 16) := (cell_of T8.out.tb 2).trans rfl
          have c3 : w8.cell? ⟨wr.heap.size, 3, none⟩ = some (.int .u32 16) := (cell_of T8.out.tb 3).trans rfl
          go_wp2_with fail
          go_roundw
          case rel => exact ⟨1, by omega, rfl, T8.out⟩
          case measure => simp [intOf]
        · obtain ⟨SS, hS0⟩ : ∃ SS : World → Prop, SS = fun w => Tab W w wr.heap.size #[.int .u32 1, .int .u32 4096, .int .u32 16, .int .u32 16, .int .u32 33, .int .u32 4096, .int .u32 64, .int .u32 64, .int .u32 257, .int .u32 4096, .int .u32 512, .int .u32 256, .int .u32 200000, .int .u32 1048576, .int .u32 200192, .int .u32 256, .int .u32 1048575, .int .u32 16777216, .int .u32 1048576, .int .u32 512, .int .u32 2097153, .int .u32 16777216, .int .u32 2099200, .int .u32 2048, .int .u32 300, .int .u32 512, .int .u32 512, .int .u32 256] 42 := ⟨_, rfl⟩
          have hK : ∀ w, SS w → Tab W w wr.heap.size #[.int .u32 1, .int .u32 4096, .int .u32 16, .int .u32 16, .int .u32 33, .int .u32 4096, .int .u32 64, .int .u32 64, .int .u32 257, .int .u32 4096, .int .u32 512, .int .u32 256, .int .u32 200000, .int .u32 1048576, .int .u32 200192, .int .u32 256, .int .u32 1048575, .int .u32 16777216, .int .u32 1048576, .int .u32 512, .int .u32 2097153, .int .u32 16777216, .int .u32 2099200, .int .u32 2048, .int .u32 300, .int .u32 512, .int .u32 512, .int .u32 256] 42 := fun w h => by rw [hS0] at h; exact h
          have hS : ∀ u v, SS u → Below u.heap.size u v → SS v := fun u v h k => by rw [hS0] at h ⊢; exact h.keep k
          have s0 : SS wq.drew := by rw [hS0]; exact hI.out.drew
          clear hS0 hI
          have c0 : ∀ y : Wd SS, y.w.cell? ⟨wr.heap.size, 4, none⟩ = some (.int .u32 33) := fun y => (cell_of (hK _ y.h).tb 4).trans rfl
          have c1 : ∀ y : Wd SS, y.w.cell? ⟨wr.heap.size, 5, none⟩ = some (.int .u32 4096) := fun y => (cell_of (hK _ y.h).tb 5).trans rfl
          have qP := Lib.hid (cls_bel hS (fun w => Padded_is 33 4096 64 64 0 w (by decide) (by decide) (by decide +kernel)))
          replace hK := Lib.hid hK
          replace s0 := Lib.hid s0
          clear hS
          go_wp2_with fail
          refine region_cls SS (by kernel_rfl) (by kernel_rfl) s0.out ?_
          repeat (first
            | go_big_quiet_skip
            | (go_big_quiet_want
               go_big_quiet_op
               first
               | go_big_quiet_on
               | (apply Exists.intro
                  refine ⟨fun y => ?_, ?_⟩
                  · first | exact rfl | exact qP.out y
                  go_big_quiet_on)))
          refine wpQuiet_nil ?_
          intro y
          have T8 := Lib.hid (hK.out _ y.h)
          generalize y.w = w8 at T8 ⊢
          clear c0 c1 qP hK s0
          have c2 : w8.cell? ⟨wr.heap.size, 6, none⟩ = some (.int .u32 64) := (cell_of T8.out.tb 6).trans rfl
          have c3 : w8.cell? ⟨wr.heap.size, 7, none⟩ = some (.int .u32 64) := (cell_of T8.out.tb 7).trans rfl
          go_wp2_with fail
          go_roundw
          case rel => exact ⟨2, by omega, rfl, T8.out⟩
          case measure => simp [intOf]
        · obtain ⟨SS, hS0⟩ : ∃ SS : World → Prop, SS = fun w => Tab W w wr.heap.size #[.int .u32 1, .int .u32 4096, .int .u32 16, .int .u32 16, .int .u32 33, .int .u32 4096, .int .u32 64, .int .u32 64, .int .u32 257, .int .u32 4096, .int .u32 512, .int .u32 256, .int .u32 200000, .int .u32 1048576, .int .u32 200192, .int .u32 256, .int .u32 1048575, .int .u32 16777216, .int .u32 1048576, .int .u32 512, .int .u32 2097153, .int .u32 16777216, .int .u32 2099200, .int .u32 2048, .int .u32 300, .int .u32 512, .int .u32 512, .int .u32 256] 42 := ⟨_, rfl⟩
          have hK : ∀ w, SS w → Tab W w wr.heap.size #[.int .u32 1, .int .u32 4096, .int .u32 16, .int .u32 16, .int .u32 33, .int .u32 4096, .int .u32 64, .int .u32 64, .int .u32 257, .int .u32 4096, .int .u32 512, .int .u32 256, .int .u32 200000, .int .u32 1048576, .int .u32 200192, .int .u32 256, .int .u32 1048575, .int .u32 16777216, .int .u32 1048576, .int .u32 512, .int .u32 2097153, .int .u32 16777216, .int .u32 2099200, .int .u32 2048, .int .u32 300, .int .u32 512, .int .u32 512, .int .u32 256] 42 := fun w h => by rw [hS0] at h; exact h
          have hS : ∀ u v, SS u → Below u.heap.size u v → SS v := fun u v h k => by rw [hS0] at h ⊢; exact h.keep k
          have s0 : SS wq.drew := by rw [hS0]; exact hI.out.drew
          clear hS0 hI
          have c0 : ∀ y : Wd SS, y.w.cell? ⟨wr.heap.size, 8, none⟩ = some (.int .u32 257) := fun y => (cell_of (hK _ y.h).tb 8).trans rfl
          have c1 : ∀ y : Wd SS, y.w.cell? ⟨wr.heap.size, 9, none⟩ = some (.int .u32 4096) := fun y => (cell_of (hK _ y.h).tb 9).trans rfl
          have qP := Lib.hid (cls_bel hS (fun w => Padded_is 257 4096 512 256 0 w (by decide) (by decide) (by decide +kernel)))
          replace hK := Lib.hid hK
          replace s0 := Lib.hid s0
          clear hS
          go_wp2_with fail
          refine region_cls SS (by kernel_rfl) (by kernel_rfl) s0.out ?_
          repeat (first
            | go_big_quiet_skip
            | (go_big_quiet_want
               go_big_quiet_op
               first
               | go_big_quiet_on
               | (apply Exists.intro
                  refine ⟨fun y => ?_, ?_⟩
                  · first | exact rfl | exact qP.out y
                  go_big_quiet_on)))
          refine wpQuiet_nil ?_
          intro y
          have T8 := Lib.hid (hK.out _ y.h)
          generalize y.w = w8 at T8 ⊢
          clear c0 c1 qP hK s0
          have c2 : w8.cell? ⟨wr.heap.size, 10, none⟩ = some (.int .u32 512) := (cell_of T8.out.tb 10).trans rfl
          have c3 : w8.cell? ⟨wr.heap.size, 11, none⟩ = some (.int .u32 256) := (cell_of T8.out.tb 11).trans rfl
          go_wp2_with fail
          go_roundw
          case rel => exact ⟨3, by omega, rfl, T8.out⟩
          case measure => simp [intOf]
        · obtain ⟨SS, hS0⟩ : ∃ SS : World → Prop, SS = fun w => Tab W w wr.heap.size #[.int .u32 1, .int .u32 4096, .int .u32 16, .int .u32 16, .int .u32 33, .int .u32 4096, .int .u32 64, .int .u32 64, .int .u32 257, .int .u32 4096, .int .u32 512, .int .u32 256, .int .u32 200000, .int .u32 1048576, .int .u32 200192, .int .u32 256, .int .u32 1048575, .int .u32 16777216, .int .u32 1048576, .int .u32 512, .int .u32 2097153, .int .u32 16777216, .int .u32 2099200, .int .u32 2048, .int .u32 300, .int .u32 512, .int .u32 512, .int .u32 256] 42 := ⟨_, rfl⟩
          have hK : ∀ w, SS w → Tab W w wr.heap.size #[.int .u32 1, .int .u32 4096, .int .u32 16, .int .u32 16, .int .u32 33, .int .u32 4096, .int .u32 64, .int .u32 64, .int .u32 257, .int .u32 4096, .int .u32 512, .int .u32 256, .int .u32 200000, .int .u32 1048576, .int .u32 200192, .int .u32 256, .int .u32 1048575, .int .u32 16777216, .int .u32 1048576, .int .u32 512, .int .u32 2097153, .int .u32 16777216, .int .u32 2099200, .int .u32 2048, .int .u32 300, .int .u32 512, .int .u32 512, .int .u32 256] 42 := fun w h => by rw [hS0] at h; exact h
          have hS : ∀ u v, SS u → Below u.heap.size u v → SS v := fun u v h k => by rw [hS0] at h ⊢; exact h.keep k
          have s0 : SS wq.drew := by rw [hS0]; exact hI.out.drew
          clear hS0 hI
          have c0 : ∀ y : Wd SS, y.w.cell? ⟨wr.heap.size, 12, none⟩ = some (.int .u32 200000) := fun y => (cell_of (hK _ y.h).tb 12).trans rfl
          have c1 : ∀ y : Wd SS, y.w.cell? ⟨wr.heap.size, 13, none⟩ = some (.int .u32 1048576) := fun y => (cell_of (hK _ y.h).tb 13).trans rfl
          have qP := Lib.hid (cls_bel hS (fun w => Padded_is 200000 1048576 200192 256 0 w (by decide) (by decide) (by decide +kernel)))
          replace hK := Lib.hid hK
          replace s0 := Lib.hid s0
          clear hS
          go_wp2_with fail
          refine region_cls SS (by kernel_rfl) (by kernel_rfl) s0.out ?_
          repeat (first
            | go_big_quiet_skip
            | (go_big_quiet_want
               go_big_quiet_op
               first
               | go_big_quiet_on
               | (apply Exists.intro
                  refine ⟨fun y => ?_, ?_⟩
                  · first | exact rfl | exact qP.out y
                  go_big_quiet_on)))
          refine wpQuiet_nil ?_
          intro y
          have T8 := Lib.hid (hK.out _ y.h)
          generalize y.w = w8 at T8 ⊢
          clear c0 c1 qP hK s0
          have c2 : w8.cell? ⟨wr.heap.size, 14, none⟩ = some (.int .u32 200192) := (cell_of T8.out.tb 14).trans rfl
          have c3 : w8.cell? ⟨wr.heap.size, 15, none⟩ = some (.int .u32 256) := (cell_of T8.out.tb 15).trans rfl
          go_wp2_with fail
          go_roundw
          case rel => exact ⟨4, by omega, rfl, T8.out⟩
          case measure => simp [intOf]
        · obtain ⟨SS, hS0⟩ : ∃ SS : World → Prop, SS = fun w => Tab W w wr.heap.size #[.int .u32 1, .int .u32 4096, .int .u32 16, .int .u32 16, .int .u32 33, .int .u32 4096, .int .u32 64, .int .u32 64, .int .u32 257, .int .u32 4096, .int .u32 512, .int .u32 256, .int .u32 200000, .int .u32 1048576, .int .u32 200192, .int .u32 256, .int .u32 1048575, .int .u32 16777216, .int .u32 1048576, .int .u32 512, .int .u32 2097153, .int .u32 16777216, .int .u32 2099200, .int .u32 2048, .int .u32 300, .int .u32 512, .int .u32 512, .int .u32 256] 42 := ⟨_, rfl⟩
          have hK : ∀ w, SS w → Tab W w wr.heap.size #[.int .u32 1, .int .u32 4096, .int .u32 16, .int .u32 16, .int .u32 33, .int .u32 4096, .int .u32 64, .int .u32 64, .int .u32 257, .int .u32 4096, .int .u32 512, .int .u32 256, .int .u32 200000, .int .u32 1048576, .int .u32 200192, .int .u32 256, .int .u32 1048575, .int .u32 16777216, .int .u32 1048576, .int .u32 512, .int .u32 2097153, .int .u32 16777216, .int .u32 2099200, .int .u32 2048, .int .u32 300, .int .u32 512, .int .u32 512, .int .u32 256] 42 := fun w h => by rw [hS0] at h; exact h
          have hS : ∀ u v, SS u → Below u.heap.size u v → SS v := fun u v h k => by rw [hS0] at h ⊢; exact h.keep k
          have s0 : SS wq.drew := by rw [hS0]; exact hI.out.drew
          clear hS0 hI
          have c0 : ∀ y : Wd SS, y.w.cell? ⟨wr.heap.size, 16, none⟩ = some (.int .u32 1048575) := fun y => (cell_of (hK _ y.h).tb 16).trans rfl
          have c1 : ∀ y : Wd SS, y.w.cell? ⟨wr.heap.size, 17, none⟩ = some (.int .u32 16777216) := fun y => (cell_of (hK _ y.h).tb 17).trans rfl
          have qP := Lib.hid (cls_bel hS (fun w => Padded_is 1048575 16777216 1048576 512 0 w (by decide) (by decide) (by decide +kernel)))
          replace hK := Lib.hid hK
          replace s0 := Lib.hid s0
          clear hS
          go_wp2_with fail
          refine region_cls SS (by kernel_rfl) (by kernel_rfl) s0.out ?_
          repeat (first
            | go_big_quiet_skip
            | (go_big_quiet_want
               go_big_quiet_op
               first
               | go_big_quiet_on
               | (apply Exists.intro
                  refine ⟨fun y => ?_, ?_⟩
                  · first | exact rfl | exact qP.out y
                  go_big_quiet_on)))
          refine wpQuiet_nil ?_
          intro y
          have T8 := Lib.hid (hK.out _ y.h)
          generalize y.w = w8 at T8 ⊢
          clear c0 c1 qP hK s0
          have c2 : w8.cell? ⟨wr.heap.size, 18, none⟩ = some (.int .u32 1048576) := (cell_of T8.out.tb 18).trans rfl
          have c3 : w8.cell? ⟨wr.heap.size, 19, none⟩ = some (.int .u32 512) := (cell_of T8.out.tb 19).trans rfl
          go_wp2_with fail
          go_roundw
          case rel => exact ⟨5, by omega, rfl, T8.out⟩
          case measure => simp [intOf]
        · obtain ⟨SS, hS0⟩ : ∃ SS : World → Prop, SS = fun w => Tab W w wr.heap.size #[.int .u32 1, .int .u32 4096, .int .u32 16, .int .u32 16, .int .u32 33, .int .u32 4096, .int .u32 64, .int .u32 64, .int .u32 257, .int .u32 4096, .int .u32 512, .int .u32 256, .int .u32 200000, .int .u32 1048576, .int .u32 200192, .int .u32 256, .int .u32 1048575, .int .u32 16777216, .int .u32 1048576, .int .u32 512, .int .u32 2097153, .int .u32 16777216, .int .u32 2099200, .int .u32 2048, .int .u32 300, .int .u32 512, .int .u32 512, .int .u32 256] 42 := ⟨_, rfl⟩
          have hK : ∀ w, SS w → Tab W w wr.heap.size #[.int .u32 1, .int .u32 4096, .int .u32 16, .int .u32 16, .int .u32 33, .int .u32 4096, .int .u32 64, .int .u32 64, .int .u32 257, .int .u32 4096, .int .u32 512, .int .u32 256, .int .u32 200000, .int .u32 1048576, .int .u32 200192, .int .u32 256, .int .u32 1048575, .int .u32 16777216, .int .u32 1048576, .int .u32 512, .int .u32 2097153, .int .u32 16777216, .int .u32 2099200, .int .u32 2048, .int .u32 300, .int .u32 512, .int .u32 512, .int .u32 256] 42 := fun w h => by rw [hS0] at h; exact h
          have hS : ∀ u v, SS u → Below u.heap.size u v → SS v := fun u v h k => by rw [hS0] at h ⊢; exact h.keep k
          have s0 : SS wq.drew := by rw [hS0]; exact hI.out.drew
          clear hS0 hI
          have c0 : ∀ y : Wd SS, y.w.cell? ⟨wr.heap.size, 20, none⟩ = some (.int .u32 2097153) := fun y => (cell_of (hK _ y.h).tb 20).trans rfl
          have c1 : ∀ y : Wd SS, y.w.cell? ⟨wr.heap.size, 21, none⟩ = some (.int .u32 16777216) := fun y => (cell_of (hK _ y.h).tb 21).trans rfl
          have qP := Lib.hid (cls_bel hS (fun w => Padded_is 2097153 16777216 2099200 2048 0 w (by decide) (by decide) (by decide +kernel)))
          replace hK := Lib.hid hK
          replace s0 := Lib.hid s0
          clear hS
          go_wp2_with fail
          refine region_cls SS (by kernel_rfl) (by kernel_rfl) s0.out ?_
          repeat (first
            | go_big_quiet_skip
            | (go_big_quiet_want
               go_big_quiet_op
               first
               | go_big_quiet_on
               | (apply Exists.intro
                  refine ⟨fun y => ?_, ?_⟩
                  · first | exact rfl | exact qP.out y
                  go_big_quiet_on)))
          refine wpQuiet_nil ?_
          intro y
          have T8 := Lib.hid (hK.out _ y.h)
          generalize y.w = w8 at T8 ⊢
          clear c0 c1 qP hK s0
          have c2 : w8.cell? ⟨wr.heap.size, 22, none⟩ = some (.int .u32 2099200) := (cell_of T8.out.tb 22).trans rfl
          have c3 : w8.cell? ⟨wr.heap.size, 23, none⟩ = some (.int .u32 2048) := (cell_of T8.out.tb 23).trans rfl
          go_wp2_with fail
          go_roundw
          case rel => exact ⟨6, by omega, rfl, T8.out⟩
          case measure => simp [intOf]
        · obtain ⟨SS, hS0⟩ : ∃ SS : World → Prop, SS = fun w => Tab W w wr.heap.size #[.int .u32 1, .int .u32 4096, .int .u32 16, .int .u32 16, .int .u32 33, .int .u32 4096, .int .u32 64, .int .u32 64, .int .u32 257, .int .u32 4096, .int .u32 512, .int .u32 256, .int .u32 200000, .int .u32 1048576, .int .u32 200192, .int .u32 256, .int .u32 1048575, .int .u32 16777216, .int .u32 1048576, .int .u32 512, .int .u32 2097153, .int .u32 16777216, .int .u32 2099200, .int .u32 2048, .int .u32 300, .int .u32 512, .int .u32 512, .int .u32 256] 42 := ⟨_, rfl⟩
          have hK : ∀ w, SS w → Tab W w wr.heap.size #[.int .u32 1, .int .u32 4096, .int .u32 16, .int .u32 16, .int .u32 33, .int .u32 4096, .int .u32 64, .int .u32 64, .int .u32 257, .int .u32 4096, .int .u32 512, .int .u32 256, .int .u32 200000, .int .u32 1048576, .int .u32 200192, .int .u32 256, .int .u32 1048575, .int .u32 16777216, .int .u32 1048576, .int .u32 512, .int .u32 2097153, .int .u32 16777216, .int .u32 2099200, .int .u32 2048, .int .u32 300, .int .u32 512, .int .u32 512, .int .u32 256] 42 := fun w h => by rw [hS0] at h; exact h
          have hS : ∀ u v, SS u → Below u.heap.size u v → SS v := fun u v h k => by rw [hS0] at h ⊢; exact h.keep k
          have s0 : SS wq.drew := by rw [hS0]; exact hI.out.drew
          clear hS0 hI
          have c0 : ∀ y : Wd SS, y.w.cell? ⟨wr.heap.size, 24, none⟩ = some (.int .u32 300) := fun y => (cell_of (hK _ y.h).tb 24).trans rfl
          have c1 : ∀ y : Wd SS, y.w.cell? ⟨wr.heap.size, 25, none⟩ = some (.int .u32 512) := fun y => (cell_of (hK _ y.h).tb 25).trans rfl
          have qP := Lib.hid (cls_bel hS (fun w => Padded_is 300 512 512 256 0 w (by decide) (by decide) (by decide +kernel)))
          replace hK := Lib.hid hK
          replace s0 := Lib.hid s0
          clear hS
          go_wp2_with fail
          refine region_cls SS (by kernel_rfl) (by kernel_rfl) s0.out ?_
          repeat (first
            | go_big_quiet_skip
            | (go_big_quiet_want
               go_big_quiet_op
               first
               | go_big_quiet_on
               | (apply Exists.intro
                  refine ⟨fun y => ?_, ?_⟩
                  · first | exact rfl | exact qP.out y
                  go_big_quiet_on)))
          refine wpQuiet_nil ?_
          intro y
          have T8 := Lib.hid (hK.out _ y.h)
          generalize y.w = w8 at T8 ⊢
          clear c0 c1 qP hK s0
          have c2 : w8.cell? ⟨wr.heap.size, 26, none⟩ = some (.int .u32 512) := (cell_of T8.out.tb 26).trans rfl
          have c3 : w8.cell? ⟨wr.heap.size, 27, none⟩ = some (.int .u32 256) := (cell_of T8.out.tb 27).trans rfl
          go_wp2_with fail
          go_roundw
          case rel => exact ⟨7, by omega, rfl, T8.out⟩
          case measure => simp [intOf]
        · have B2 := Lib.hid hI.out.bl
          clear hI hj B1
          go_wp2_with fail
          go_loopw [10] (fun i w' => ∃ j : Nat, j ≤ 5 ∧ i = .int .i64 j ∧ Below W.heap.size W w') (fun i _ => 5 - (intOf i).toNat)
          case atStart => exact ⟨0, by omega, rfl, B2.out⟩
          case round =>
            obtain ⟨j, hj, rfl, hI⟩ := hrel
            rename World => wp
            replace hI := Lib.hid hI
            have al : ∀ w', Below W.heap.size W w' → ∀ (o : Obj), Below W.heap.size W (w'.alloc o) := fun w' h o => h.alloc h.size o
            have dr : ∀ w', Below W.heap.size W w' → Below W.heap.size W w'.drew := fun w' h => h.drew
            have cb := Lib.hid (fun (w' Z : World) (h : Below W.heap.size W w') (k : Below w'.heap.size w' Z) => (h.trans (k.mono h.size) : Below W.heap.size W Z))
            replace al := Lib.hid al
            replace dr := Lib.hid dr
            rcases (show j < 5 ∨ j = 5 by omega) with hj5 | rfl
            · have hj0 : (0 : Int) ≤ (j : Int) := by omega
              have hj1 : (j : Int) < 5 := by omega
              have hj2 : (j : Int) + 1 ≤ 5 := by omega
              obtain ⟨sv, hv, hsv, hhv, hP⟩ : ∃ sv hv : Nat, Hid ((#[.int .u32 0, .int .u32 300, .int .u32 4294967295, .int .u32 4294967040, .int .u32 1] : Array Value)[j]? = some (.int .u32 sv)) ∧ Hid ((#[.int .u32 4096, .int .u32 511, .int .u32 4294967295, .int .u32 4294967295, .int .u32 15] : Array Value)[j]? = some (.int .u32 hv)) ∧
                  Hid (∀ w, Calls Try.prog 16 #[.int .u32 sv, .int .u32 hv] w fun e w' => e = .returned (.tuple #[.int .u32 0, .int .u32 0, .int .i64 6]) ∧ Below w.heap.size w w') := by
                have hj' : j = 0 ∨ j = 1 ∨ j = 2 ∨ j = 3 ∨ j = 4 := by omega
                rcases hj' with rfl | rfl | rfl | rfl | rfl
                · exact ⟨0, 4096, Lib.hid rfl, Lib.hid rfl, Lib.hid (fun w => Padded_is 0 4096 0 0 6 w (by decide) (by decide) (by decide +kernel))⟩
                · exact ⟨300, 511, Lib.hid rfl, Lib.hid rfl, Lib.hid (fun w => Padded_is 300 511 0 0 6 w (by decide) (by decide) (by decide +kernel))⟩
                · exact ⟨4294967295, 4294967295, Lib.hid rfl, Lib.hid rfl, Lib.hid (fun w => Padded_is 4294967295 4294967295 0 0 6 w (by decide) (by decide) (by decide +kernel))⟩
                · exact ⟨4294967040, 4294967295, Lib.hid rfl, Lib.hid rfl, Lib.hid (fun w => Padded_is 4294967040 4294967295 0 0 6 w (by decide) (by decide) (by decide +kernel))⟩
                · exact ⟨1, 15, Lib.hid rfl, Lib.hid rfl, Lib.hid (fun w => Padded_is 1 15 0 0 6 w (by decide) (by decide) (by decide +kernel))⟩
              clear hj
              go_upto_region 20 with (fail)
              go_cut [11, 12, 13] (fun a b c w' => a = .int .u32 0 ∧ b = .int .u32 0 ∧ c = .int .i64 6 ∧ Below W.heap.size W w')
              case first =>
                have hdr := Lib.hid hI.out.drew
                clear hI
                refine wp_region_any (by kernel_rfl) ?_
                change wpAny _ _ _ _ _ _ _ (World.drew _)
                generalize wp.drew = w0 at hdr ⊢
                refine wpAny_take (i := 1) (v := ?_) rfl (by kernel_rfl) (by kernel_rfl) (by kernel_rfl) (fun _ _ _ h => h) (Or.inl ⟨by rfl, ?h1a⟩) ?h1b
                case h1a => intro w; go_simp; try with_reducible rfl
                try simp only [Act.put, List.getElem_toArray, List.getElem_cons_zero, List.getElem_cons_succ, List.setIfInBounds_toArray, List.set_cons_zero, List.set_cons_succ]
                refine wpAny_take (i := 5) (v := ?_) rfl (by kernel_rfl) (by kernel_rfl) (by kernel_rfl) (fun _ _ _ h => h) (Or.inl ⟨by rfl, ?h2a⟩) ?h2b
                case h2a => intro w; go_simp; try with_reducible rfl
                try simp only [Act.put, List.getElem_toArray, List.getElem_cons_zero, List.getElem_cons_succ, List.setIfInBounds_toArray, List.set_cons_zero, List.set_cons_succ]
                refine wpAny_ready (rs := [0, 4]) (by kernel_rfl) (by simp) (AllReady.cons rfl (fun K hK => ?_) (AllReady.cons rfl (fun K hK => ?_) AllReady.nil))
                · replace hK := Lib.hid hK
                  go_simp
                  refine hK.out _ _ ?_
                  clear hK K
                  try simp only [Act.put, List.getElem_toArray, List.getElem_cons_zero, List.getElem_cons_succ, List.setIfInBounds_toArray, List.set_cons_zero, List.set_cons_succ]
                  have tA := Lib.hid (Tab.new hdr.out #[.int .u32 0, .int .u32 300, .int .u32 4294967295, .int .u32 4294967040, .int .u32 1] 22)
                  generalize w0.heap.size = bA at tA ⊢
                  generalize w0.alloc (.cells #[.int .u32 0, .int .u32 300, .int .u32 4294967295, .int .u32 4294967040, .int .u32 1] 22) = w1 at tA ⊢
                  refine wpAny_take (i := 2) (v := ?_) rfl (by kernel_rfl) (by kernel_rfl) (by kernel_rfl) (fun _ _ _ h => h) (Or.inl ⟨by rfl, ?h3a⟩) ?h3b
                  case h3a => intro w; go_simp; try with_reducible rfl
                  try simp only [Act.put, List.getElem_toArray, List.getElem_cons_zero, List.getElem_cons_succ, List.setIfInBounds_toArray, List.set_cons_zero, List.set_cons_succ]
                  refine wpAny_ready (rs := [3, 4]) (by kernel_rfl) (by simp) (AllReady.cons rfl (fun K hK => ?_) (AllReady.cons rfl (fun K hK => ?_) AllReady.nil))
                  · replace hK := Lib.hid hK
                    have hc : w1.cell? ⟨bA, j, none⟩ = some (.int .u32 sv) := (cell_of tA.out.tb j).trans hsv.out
                    go_simp
                    refine hK.out _ _ ?_
                    clear hK K hc
                    try simp only [Act.put, List.getElem_toArray, List.getElem_cons_zero, List.getElem_cons_succ, List.setIfInBounds_toArray, List.set_cons_zero, List.set_cons_succ]
                    refine wpAny_ready (rs := [4]) (by kernel_rfl) (by simp) (AllReady.cons rfl (fun K hK => ?_) AllReady.nil)
                    · replace hK := Lib.hid hK
                      go_simp
                      refine hK.out _ _ ?_
                      clear hK K
                      try simp only [Act.put, List.getElem_toArray, List.getElem_cons_zero, List.getElem_cons_succ, List.setIfInBounds_toArray, List.set_cons_zero, List.set_cons_succ]
                      have tB := Lib.hid (Tab.new tA.out.bl #[.int .u32 4096, .int .u32 511, .int .u32 4294967295, .int .u32 4294967295, .int .u32 15] 22)
                      replace tA := Lib.hid (tA.out.alloc (.cells #[.int .u32 4096, .int .u32 511, .int .u32 4294967295, .int .u32 4294967295, .int .u32 15] 22))
                      generalize w1.heap.size = bB at tB ⊢
                      generalize w1.alloc (.cells #[.int .u32 4096, .int .u32 511, .int .u32 4294967295, .int .u32 4294967295, .int .u32 15] 22) = w2 at tA tB ⊢
                      refine wpAny_take (i := 6) (v := ?_) rfl (by kernel_rfl) (by kernel_rfl) (by kernel_rfl) (fun _ _ _ h => h) (Or.inl ⟨by rfl, ?h4a⟩) ?h4b
                      case h4a => intro w; go_simp; try with_reducible rfl
                      try simp only [Act.put, List.getElem_toArray, List.getElem_cons_zero, List.getElem_cons_succ, List.setIfInBounds_toArray, List.set_cons_zero, List.set_cons_succ]
                      refine wpAny_ready (rs := [7]) (by kernel_rfl) (by simp) (AllReady.cons rfl (fun K hK => ?_) AllReady.nil)
                      · replace hK := Lib.hid hK
                        have hc : w2.cell? ⟨bB, j, none⟩ = some (.int .u32 hv) := (cell_of tB.out.tb j).trans hhv.out
                        go_simp
                        refine hK.out _ _ ?_
                        clear hK K hc
                        try simp only [Act.put, List.getElem_toArray, List.getElem_cons_zero, List.getElem_cons_succ, List.setIfInBounds_toArray, List.set_cons_zero, List.set_cons_succ]
                        refine wpAny_ready (rs := [8]) (by kernel_rfl) (by simp) (AllReady.cons rfl (fun K hK => ?_) AllReady.nil)
                        · replace hK := Lib.hid hK
                          go_simp
                          refine (hP.out _).mono ?_
                          rintro ee Z ⟨rfl, hz⟩
                          replace hz := Lib.hid (tA.out.bl.trans (hz.mono tA.out.bl.size))
                          go_simp
                          refine hK.out _ _ ?_
                          clear hK K
                          try simp only [Act.put, List.getElem_toArray, List.getElem_cons_zero, List.getElem_cons_succ, List.setIfInBounds_toArray, List.set_cons_zero, List.set_cons_succ]
                          refine wpAny_take (i := 9) (v := ?_) rfl (by kernel_rfl) (by kernel_rfl) (by kernel_rfl) (fun _ _ _ h => h) (Or.inl ⟨by rfl, ?h5a⟩) ?h5b
                          case h5a => intro w; go_simp; try with_reducible rfl
                          try simp only [Act.put, List.getElem_toArray, List.getElem_cons_zero, List.getElem_cons_succ, List.setIfInBounds_toArray, List.set_cons_zero, List.set_cons_succ]
                          refine wpAny_take (i := 10) (v := ?_) rfl (by kernel_rfl) (by kernel_rfl) (by kernel_rfl) (fun _ _ _ h => h) (Or.inl ⟨by rfl, ?h6a⟩) ?h6b
                          case h6a => intro w; go_simp; try with_reducible rfl
                          try simp only [Act.put, List.getElem_toArray, List.getElem_cons_zero, List.getElem_cons_succ, List.setIfInBounds_toArray, List.set_cons_zero, List.set_cons_succ]
                          refine wpAny_take (i := 11) (v := ?_) rfl (by kernel_rfl) (by kernel_rfl) (by kernel_rfl) (fun _ _ _ h => h) (Or.inl ⟨by rfl, ?h7a⟩) ?h7b
                          case h7a => intro w; go_simp; try with_reducible rfl
                          try simp only [Act.put, List.getElem_toArray, List.getElem_cons_zero, List.getElem_cons_succ, List.setIfInBounds_toArray, List.set_cons_zero, List.set_cons_succ]
                          refine wpAny_take (i := 12) (v := ?_) rfl (by kernel_rfl) (by kernel_rfl) (by kernel_rfl) (fun _ _ _ h => h) (Or.inl ⟨by rfl, ?h8a⟩) ?h8b
                          case h8a => intro w; go_simp; try with_reducible rfl
                          try simp only [Act.put, List.getElem_toArray, List.getElem_cons_zero, List.getElem_cons_succ, List.setIfInBounds_toArray, List.set_cons_zero, List.set_cons_succ]
                          refine wpAny_take (i := 13) (v := ?_) rfl (by kernel_rfl) (by kernel_rfl) (by kernel_rfl) (fun _ _ _ h => h) (Or.inl ⟨by rfl, ?h9a⟩) ?h9b
                          case h9a => intro w; go_simp; try with_reducible rfl
                          try simp only [Act.put, List.getElem_toArray, List.getElem_cons_zero, List.getElem_cons_succ, List.setIfInBounds_toArray, List.set_cons_zero, List.set_cons_succ]
                          refine wpAny_take (i := 14) (v := ?_) rfl (by kernel_rfl) (by kernel_rfl) (by kernel_rfl) (fun _ _ _ h => h) (Or.inl ⟨by rfl, ?h10a⟩) ?h10b
                          case h10a => intro w; go_simp; try with_reducible rfl
                          try simp only [Act.put, List.getElem_toArray, List.getElem_cons_zero, List.getElem_cons_succ, List.setIfInBounds_toArray, List.set_cons_zero, List.set_cons_succ]
                          refine wpAny_take (i := 15) (v := ?_) rfl (by kernel_rfl) (by kernel_rfl) (by kernel_rfl) (fun _ _ _ h => h) (Or.inl ⟨by rfl, ?h11a⟩) ?h11b
                          case h11a => intro w; go_simp; try with_reducible rfl
                          try simp only [Act.put, List.getElem_toArray, List.getElem_cons_zero, List.getElem_cons_succ, List.setIfInBounds_toArray, List.set_cons_zero, List.set_cons_succ]
                          refine wpAny_done (by kernel_rfl) ?_ _
                          go_wp2_with fail
                          go_meet
                          exact ⟨rfl, rfl, rfl, hz.out⟩
                  · replace hK := Lib.hid hK
                    go_simp
                    refine hK.out _ _ ?_
                    clear hK K
                    try simp only [Act.put, List.getElem_toArray, List.getElem_cons_zero, List.getElem_cons_succ, List.setIfInBounds_toArray, List.set_cons_zero, List.set_cons_succ]
                    have tB := Lib.hid (Tab.new tA.out.bl #[.int .u32 4096, .int .u32 511, .int .u32 4294967295, .int .u32 4294967295, .int .u32 15] 22)
                    replace tA := Lib.hid (tA.out.alloc (.cells #[.int .u32 4096, .int .u32 511, .int .u32 4294967295, .int .u32 4294967295, .int .u32 15] 22))
                    generalize w1.heap.size = bB at tB ⊢
                    generalize w1.alloc (.cells #[.int .u32 4096, .int .u32 511, .int .u32 4294967295, .int .u32 4294967295, .int .u32 15] 22) = w2 at tA tB ⊢
                    refine wpAny_take (i := 6) (v := ?_) rfl (by kernel_rfl) (by kernel_rfl) (by kernel_rfl) (fun _ _ _ h => h) (Or.inl ⟨by rfl, ?h12a⟩) ?h12b
                    case h12a => intro w; go_simp; try with_reducible rfl
                    try simp only [Act.put, List.getElem_toArray, List.getElem_cons_zero, List.getElem_cons_succ, List.setIfInBounds_toArray, List.set_cons_zero, List.set_cons_succ]
                    refine wpAny_ready (rs := [3, 7]) (by kernel_rfl) (by simp) (AllReady.cons rfl (fun K hK => ?_) (AllReady.cons rfl (fun K hK => ?_) AllReady.nil))
                    · replace hK := Lib.hid hK
                      have hc : w2.cell? ⟨bA, j, none⟩ = some (.int .u32 sv) := (cell_of tA.out.tb j).trans hsv.out
                      go_simp
                      refine hK.out _ _ ?_
                      clear hK K hc
                      try simp only [Act.put, List.getElem_toArray, List.getElem_cons_zero, List.getElem_cons_succ, List.setIfInBounds_toArray, List.set_cons_zero, List.set_cons_succ]
                      refine wpAny_ready (rs := [7]) (by kernel_rfl) (by simp) (AllReady.cons rfl (fun K hK => ?_) AllReady.nil)
                      · replace hK := Lib.hid hK
                        have hc : w2.cell? ⟨bB, j, none⟩ = some (.int .u32 hv) := (cell_of tB.out.tb j).trans hhv.out
                        go_simp
                        refine hK.out _ _ ?_
                        clear hK K hc
                        try simp only [Act.put, List.getElem_toArray, List.getElem_cons_zero, List.getElem_cons_succ, List.setIfInBounds_toArray, List.set_cons_zero, List.set_cons_succ]
                        refine wpAny_ready (rs := [8]) (by kernel_rfl) (by simp) (AllReady.cons rfl (fun K hK => ?_) AllReady.nil)
                        · replace hK := Lib.hid hK
                          go_simp
                          refine (hP.out _).mono ?_
                          rintro ee Z ⟨rfl, hz⟩
                          replace hz := Lib.hid (tA.out.bl.trans (hz.mono tA.out.bl.size))
                          go_simp
                          refine hK.out _ _ ?_
                          clear hK K
                          try simp only [Act.put, List.getElem_toArray, List.getElem_cons_zero, List.getElem_cons_succ, List.setIfInBounds_toArray, List.set_cons_zero, List.set_cons_succ]
                          refine wpAny_take (i := 9) (v := ?_) rfl (by kernel_rfl) (by kernel_rfl) (by kernel_rfl) (fun _ _ _ h => h) (Or.inl ⟨by rfl, ?h13a⟩) ?h13b
                          case h13a => intro w; go_simp; try with_reducible rfl
                          try simp only [Act.put, List.getElem_toArray, List.getElem_cons_zero, List.getElem_cons_succ, List.setIfInBounds_toArray, List.set_cons_zero, List.set_cons_succ]
                          refine wpAny_take (i := 10) (v := ?_) rfl (by kernel_rfl) (by kernel_rfl) (by kernel_rfl) (fun _ _ _ h => h) (Or.inl ⟨by rfl, ?h14a⟩) ?h14b
                          case h14a => intro w; go_simp; try with_reducible rfl
                          try simp only [Act.put, List.getElem_toArray, List.getElem_cons_zero, List.getElem_cons_succ, List.setIfInBounds_toArray, List.set_cons_zero, List.set_cons_succ]
                          refine wpAny_take (i := 11) (v := ?_) rfl (by kernel_rfl) (by kernel_rfl) (by kernel_rfl) (fun _ _ _ h => h) (Or.inl ⟨by rfl, ?h15a⟩) ?h15b
                          case h15a => intro w; go_simp; try with_reducible rfl
                          try simp only [Act.put, List.getElem_toArray, List.getElem_cons_zero, List.getElem_cons_succ, List.setIfInBounds_toArray, List.set_cons_zero, List.set_cons_succ]
                          refine wpAny_take (i := 12) (v := ?_) rfl (by kernel_rfl) (by kernel_rfl) (by kernel_rfl) (fun _ _ _ h => h) (Or.inl ⟨by rfl, ?h16a⟩) ?h16b
                          case h16a => intro w; go_simp; try with_reducible rfl
                          try simp only [Act.put, List.getElem_toArray, List.getElem_cons_zero, List.getElem_cons_succ, List.setIfInBounds_toArray, List.set_cons_zero, List.set_cons_succ]
                          refine wpAny_take (i := 13) (v := ?_) rfl (by kernel_rfl) (by kernel_rfl) (by kernel_rfl) (fun _ _ _ h => h) (Or.inl ⟨by rfl, ?h17a⟩) ?h17b
                          case h17a => intro w; go_simp; try with_reducible rfl
                          try simp only [Act.put, List.getElem_toArray, List.getElem_cons_zero, List.getElem_cons_succ, List.setIfInBounds_toArray, List.set_cons_zero, List.set_cons_succ]
                          refine wpAny_take (i := 14) (v := ?_) rfl (by kernel_rfl) (by kernel_rfl) (by kernel_rfl) (fun _ _ _ h => h) (Or.inl ⟨by rfl, ?h18a⟩) ?h18b
                          case h18a => intro w; go_simp; try with_reducible rfl
                          try simp only [Act.put, List.getElem_toArray, List.getElem_cons_zero, List.getElem_cons_succ, List.setIfInBounds_toArray, List.set_cons_zero, List.set_cons_succ]
                          refine wpAny_take (i := 15) (v := ?_) rfl (by kernel_rfl) (by kernel_rfl) (by kernel_rfl) (fun _ _ _ h => h) (Or.inl ⟨by rfl, ?h19a⟩) ?h19b
                          case h19a => intro w; go_simp; try with_reducible rfl
                          try simp only [Act.put, List.getElem_toArray, List.getElem_cons_zero, List.getElem_cons_succ, List.setIfInBounds_toArray, List.set_cons_zero, List.set_cons_succ]
                          refine wpAny_done (by kernel_rfl) ?_ _
                          go_wp2_with fail
                          go_meet
                          exact ⟨rfl, rfl, rfl, hz.out⟩
                    · replace hK := Lib.hid hK
                      have hc : w2.cell? ⟨bB, j, none⟩ = some (.int .u32 hv) := (cell_of tB.out.tb j).trans hhv.out
                      go_simp
                      refine hK.out _ _ ?_
                      clear hK K hc
                      try simp only [Act.put, List.getElem_toArray, List.getElem_cons_zero, List.getElem_cons_succ, List.setIfInBounds_toArray, List.set_cons_zero, List.set_cons_succ]
                      refine wpAny_ready (rs := [3]) (by kernel_rfl) (by simp) (AllReady.cons rfl (fun K hK => ?_) AllReady.nil)
                      · replace hK := Lib.hid hK
                        have hc : w2.cell? ⟨bA, j, none⟩ = some (.int .u32 sv) := (cell_of tA.out.tb j).trans hsv.out
                        go_simp
                        refine hK.out _ _ ?_
                        clear hK K hc
                        try simp only [Act.put, List.getElem_toArray, List.getElem_cons_zero, List.getElem_cons_succ, List.setIfInBounds_toArray, List.set_cons_zero, List.set_cons_succ]
                        refine wpAny_ready (rs := [8]) (by kernel_rfl) (by simp) (AllReady.cons rfl (fun K hK => ?_) AllReady.nil)
                        · replace hK := Lib.hid hK
                          go_simp
                          refine (hP.out _).mono ?_
                          rintro ee Z ⟨rfl, hz⟩
                          replace hz := Lib.hid (tA.out.bl.trans (hz.mono tA.out.bl.size))
                          go_simp
                          refine hK.out _ _ ?_
                          clear hK K
                          try simp only [Act.put, List.getElem_toArray, List.getElem_cons_zero, List.getElem_cons_succ, List.setIfInBounds_toArray, List.set_cons_zero, List.set_cons_succ]
                          refine wpAny_take (i := 9) (v := ?_) rfl (by kernel_rfl) (by kernel_rfl) (by kernel_rfl) (fun _ _ _ h => h) (Or.inl ⟨by rfl, ?h20a⟩) ?h20b
                          case h20a => intro w; go_simp; try with_reducible rfl
                          try simp only [Act.put, List.getElem_toArray, List.getElem_cons_zero, List.getElem_cons_succ, List.setIfInBounds_toArray, List.set_cons_zero, List.set_cons_succ]
                          refine wpAny_take (i := 10) (v := ?_) rfl (by kernel_rfl) (by kernel_rfl) (by kernel_rfl) (fun _ _ _ h => h) (Or.inl ⟨by rfl, ?h21a⟩) ?h21b
                          case h21a => intro w; go_simp; try with_reducible rfl
                          try simp only [Act.put, List.getElem_toArray, List.getElem_cons_zero, List.getElem_cons_succ, List.setIfInBounds_toArray, List.set_cons_zero, List.set_cons_succ]
                          refine wpAny_take (i := 11) (v := ?_) rfl (by kernel_rfl) (by kernel_rfl) (by kernel_rfl) (fun _ _ _ h => h) (Or.inl ⟨by rfl, ?h22a⟩) ?h22b
                          case h22a => intro w; go_simp; try with_reducible rfl
                          try simp only [Act.put, List.getElem_toArray, List.getElem_cons_zero, List.getElem_cons_succ, List.setIfInBounds_toArray, List.set_cons_zero, List.set_cons_succ]
                          refine wpAny_take (i := 12) (v := ?_) rfl (by kernel_rfl) (by kernel_rfl) (by kernel_rfl) (fun _ _ _ h => h) (Or.inl ⟨by rfl, ?h23a⟩) ?h23b
                          case h23a => intro w; go_simp; try with_reducible rfl
                          try simp only [Act.put, List.getElem_toArray, List.getElem_cons_zero, List.getElem_cons_succ, List.setIfInBounds_toArray, List.set_cons_zero, List.set_cons_succ]
                          refine wpAny_take (i := 13) (v := ?_) rfl (by kernel_rfl) (by kernel_rfl) (by kernel_rfl) (fun _ _ _ h => h) (Or.inl ⟨by rfl, ?h24a⟩) ?h24b
                          case h24a => intro w; go_simp; try with_reducible rfl
                          try simp only [Act.put, List.getElem_toArray, List.getElem_cons_zero, List.getElem_cons_succ, List.setIfInBounds_toArray, List.set_cons_zero, List.set_cons_succ]
                          refine wpAny_take (i := 14) (v := ?_) rfl (by kernel_rfl) (by kernel_rfl) (by kernel_rfl) (fun _ _ _ h => h) (Or.inl ⟨by rfl, ?h25a⟩) ?h25b
                          case h25a => intro w; go_simp; try with_reducible rfl
                          try simp only [Act.put, List.getElem_toArray, List.getElem_cons_zero, List.getElem_cons_succ, List.setIfInBounds_toArray, List.set_cons_zero, List.set_cons_succ]
                          refine wpAny_take (i := 15) (v := ?_) rfl (by kernel_rfl) (by kernel_rfl) (by kernel_rfl) (fun _ _ _ h => h) (Or.inl ⟨by rfl, ?h26a⟩) ?h26b
                          case h26a => intro w; go_simp; try with_reducible rfl
                          try simp only [Act.put, List.getElem_toArray, List.getElem_cons_zero, List.getElem_cons_succ, List.setIfInBounds_toArray, List.set_cons_zero, List.set_cons_succ]
                          refine wpAny_done (by kernel_rfl) ?_ _
                          go_wp2_with fail
                          go_meet
                          exact ⟨rfl, rfl, rfl, hz.out⟩
                · replace hK := Lib.hid hK
                  go_simp
                  refine hK.out _ _ ?_
                  clear hK K
                  try simp only [Act.put, List.getElem_toArray, List.getElem_cons_zero, List.getElem_cons_succ, List.setIfInBounds_toArray, List.set_cons_zero, List.set_cons_succ]
                  have tB := Lib.hid (Tab.new hdr.out #[.int .u32 4096, .int .u32 511, .int .u32 4294967295, .int .u32 4294967295, .int .u32 15] 22)
                  generalize w0.heap.size = bB at tB ⊢
                  generalize w0.alloc (.cells #[.int .u32 4096, .int .u32 511, .int .u32 4294967295, .int .u32 4294967295, .int .u32 15] 22) = w1 at tB ⊢
                  refine wpAny_take (i := 6) (v := ?_) rfl (by kernel_rfl) (by kernel_rfl) (by kernel_rfl) (fun _ _ _ h => h) (Or.inl ⟨by rfl, ?h27a⟩) ?h27b
                  case h27a => intro w; go_simp; try with_reducible rfl
                  try simp only [Act.put, List.getElem_toArray, List.getElem_cons_zero, List.getElem_cons_succ, List.setIfInBounds_toArray, List.set_cons_zero, List.set_cons_succ]
                  refine wpAny_ready (rs := [0, 7]) (by kernel_rfl) (by simp) (AllReady.cons rfl (fun K hK => ?_) (AllReady.cons rfl (fun K hK => ?_) AllReady.nil))
                  · replace hK := Lib.hid hK
                    go_simp
                    refine hK.out _ _ ?_
                    clear hK K
                    try simp only [Act.put, List.getElem_toArray, List.getElem_cons_zero, List.getElem_cons_succ, List.setIfInBounds_toArray, List.set_cons_zero, List.set_cons_succ]
                    have tA := Lib.hid (Tab.new tB.out.bl #[.int .u32 0, .int .u32 300, .int .u32 4294967295, .int .u32 4294967040, .int .u32 1] 22)
                    replace tB := Lib.hid (tB.out.alloc (.cells #[.int .u32 0, .int .u32 300, .int .u32 4294967295, .int .u32 4294967040, .int .u32 1] 22))
                    generalize w1.heap.size = bA at tA ⊢
                    generalize w1.alloc (.cells #[.int .u32 0, .int .u32 300, .int .u32 4294967295, .int .u32 4294967040, .int .u32 1] 22) = w2 at tA tB ⊢
                    refine wpAny_take (i := 2) (v := ?_) rfl (by kernel_rfl) (by kernel_rfl) (by kernel_rfl) (fun _ _ _ h => h) (Or.inl ⟨by rfl, ?h28a⟩) ?h28b
                    case h28a => intro w; go_simp; try with_reducible rfl
                    try simp only [Act.put, List.getElem_toArray, List.getElem_cons_zero, List.getElem_cons_succ, List.setIfInBounds_toArray, List.set_cons_zero, List.set_cons_succ]
                    refine wpAny_ready (rs := [3, 7]) (by kernel_rfl) (by simp) (AllReady.cons rfl (fun K hK => ?_) (AllReady.cons rfl (fun K hK => ?_) AllReady.nil))
                    · replace hK := Lib.hid hK
                      have hc : w2.cell? ⟨bA, j, none⟩ = some (.int .u32 sv) := (cell_of tA.out.tb j).trans hsv.out
                      go_simp
                      refine hK.out _ _ ?_
                      clear hK K hc
                      try simp only [Act.put, List.getElem_toArray, List.getElem_cons_zero, List.getElem_cons_succ, List.setIfInBounds_toArray, List.set_cons_zero, List.set_cons_succ]
                      refine wpAny_ready (rs := [7]) (by kernel_rfl) (by simp) (AllReady.cons rfl (fun K hK => ?_) AllReady.nil)
                      · replace hK := Lib.hid hK
                        have hc : w2.cell? ⟨bB, j, none⟩ = some (.int .u32 hv) := (cell_of tB.out.tb j).trans hhv.out
                        go_simp
                        refine hK.out _ _ ?_
                        clear hK K hc
                        try simp only [Act.put, List.getElem_toArray, List.getElem_cons_zero, List.getElem_cons_succ, List.setIfInBounds_toArray, List.set_cons_zero, List.set_cons_succ]
                        refine wpAny_ready (rs := [8]) (by kernel_rfl) (by simp) (AllReady.cons rfl (fun K hK => ?_) AllReady.nil)
                        · replace hK := Lib.hid hK
                          go_simp
                          refine (hP.out _).mono ?_
                          rintro ee Z ⟨rfl, hz⟩
                          replace hz := Lib.hid (tA.out.bl.trans (hz.mono tA.out.bl.size))
                          go_simp
                          refine hK.out _ _ ?_
                          clear hK K
                          try simp only [Act.put, List.getElem_toArray, List.getElem_cons_zero, List.getElem_cons_succ, List.setIfInBounds_toArray, List.set_cons_zero, List.set_cons_succ]
                          refine wpAny_take (i := 9) (v := ?_) rfl (by kernel_rfl) (by kernel_rfl) (by kernel_rfl) (fun _ _ _ h => h) (Or.inl ⟨by rfl, ?h29a⟩) ?h29b
                          case h29a => intro w; go_simp; try with_reducible rfl
                          try simp only [Act.put, List.getElem_toArray, List.getElem_cons_zero, List.getElem_cons_succ, List.setIfInBounds_toArray, List.set_cons_zero, List.set_cons_succ]
                          refine wpAny_take (i := 10) (v := ?_) rfl (by kernel_rfl) (by kernel_rfl) (by kernel_rfl) (fun _ _ _ h => h) (Or.inl ⟨by rfl, ?h30a⟩) ?h30b
                          case h30a => intro w; go_simp; try with_reducible rfl
                          try simp only [Act.put, List.getElem_toArray, List.getElem_cons_zero, List.getElem_cons_succ, List.setIfInBounds_toArray, List.set_cons_zero, List.set_cons_succ]
                          refine wpAny_take (i := 11) (v := ?_) rfl (by kernel_rfl) (by kernel_rfl) (by kernel_rfl) (fun _ _ _ h => h) (Or.inl ⟨by rfl, ?h31a⟩) ?h31b
                          case h31a => intro w; go_simp; try with_reducible rfl
                          try simp only [Act.put, List.getElem_toArray, List.getElem_cons_zero, List.getElem_cons_succ, List.setIfInBounds_toArray, List.set_cons_zero, List.set_cons_succ]
                          refine wpAny_take (i := 12) (v := ?_) rfl (by kernel_rfl) (by kernel_rfl) (by kernel_rfl) (fun _ _ _ h => h) (Or.inl ⟨by rfl, ?h32a⟩) ?h32b
                          case h32a => intro w; go_simp; try with_reducible rfl
                          try simp only [Act.put, List.getElem_toArray, List.getElem_cons_zero, List.getElem_cons_succ, List.setIfInBounds_toArray, List.set_cons_zero, List.set_cons_succ]
                          refine wpAny_take (i := 13) (v := ?_) rfl (by kernel_rfl) (by kernel_rfl) (by kernel_rfl) (fun _ _ _ h => h) (Or.inl ⟨by rfl, ?h33a⟩) ?h33b
                          case h33a => intro w; go_simp; try with_reducible rfl
                          try simp only [Act.put, List.getElem_toArray, List.getElem_cons_zero, List.getElem_cons_succ, List.setIfInBounds_toArray, List.set_cons_zero, List.set_cons_succ]
                          refine wpAny_take (i := 14) (v := ?_) rfl (by kernel_rfl) (by kernel_rfl) (by kernel_rfl) (fun _ _ _ h => h) (Or.inl ⟨by rfl, ?h34a⟩) ?h34b
                          case h34a => intro w; go_simp; try with_reducible rfl
                          try simp only [Act.put, List.getElem_toArray, List.getElem_cons_zero, List.getElem_cons_succ, List.setIfInBounds_toArray, List.set_cons_zero, List.set_cons_succ]
                          refine wpAny_take (i := 15) (v := ?_) rfl (by kernel_rfl) (by kernel_rfl) (by kernel_rfl) (fun _ _ _ h => h) (Or.inl ⟨by rfl, ?h35a⟩) ?h35b
                          case h35a => intro w; go_simp; try with_reducible rfl
                          try simp only [Act.put, List.getElem_toArray, List.getElem_cons_zero, List.getElem_cons_succ, List.setIfInBounds_toArray, List.set_cons_zero, List.set_cons_succ]
                          refine wpAny_done (by kernel_rfl) ?_ _
                          go_wp2_with fail
                          go_meet
                          exact ⟨rfl, rfl, rfl, hz.out⟩
                    · replace hK := Lib.hid hK
                      have hc : w2.cell? ⟨bB, j, none⟩ = some (.int .u32 hv) := (cell_of tB.out.tb j).trans hhv.out
                      go_simp
                      refine hK.out _ _ ?_
                      clear hK K hc
                      try simp only [Act.put, List.getElem_toArray, List.getElem_cons_zero, List.getElem_cons_succ, List.setIfInBounds_toArray, List.set_cons_zero, List.set_cons_succ]
                      refine wpAny_ready (rs := [3]) (by kernel_rfl) (by simp) (AllReady.cons rfl (fun K hK => ?_) AllReady.nil)
                      · replace hK := Lib.hid hK
                        have hc : w2.cell? ⟨bA, j, none⟩ = some (.int .u32 sv) := (cell_of tA.out.tb j).trans hsv.out
                        go_simp
                        refine hK.out _ _ ?_
                        clear hK K hc
                        try simp only [Act.put, List.getElem_toArray, List.getElem_cons_zero, List.getElem_cons_succ, List.setIfInBounds_toArray, List.set_cons_zero, List.set_cons_succ]
                        refine wpAny_ready (rs := [8]) (by kernel_rfl) (by simp) (AllReady.cons rfl (fun K hK => ?_) AllReady.nil)
                        · replace hK := Lib.hid hK
                          go_simp
                          refine (hP.out _).mono ?_
                          rintro ee Z ⟨rfl, hz⟩
                          replace hz := Lib.hid (tA.out.bl.trans (hz.mono tA.out.bl.size))
                          go_simp
                          refine hK.out _ _ ?_
                          clear hK K
                          try simp only [Act.put, List.getElem_toArray, List.getElem_cons_zero, List.getElem_cons_succ, List.setIfInBounds_toArray, List.set_cons_zero, List.set_cons_succ]
                          refine wpAny_take (i := 9) (v := ?_) rfl (by kernel_rfl) (by kernel_rfl) (by kernel_rfl) (fun _ _ _ h => h) (Or.inl ⟨by rfl, ?h36a⟩) ?h36b
                          case h36a => intro w; go_simp; try with_reducible rfl
                          try simp only [Act.put, List.getElem_toArray, List.getElem_cons_zero, List.getElem_cons_succ, List.setIfInBounds_toArray, List.set_cons_zero, List.set_cons_succ]
                          refine wpAny_take (i := 10) (v := ?_) rfl (by kernel_rfl) (by kernel_rfl) (by kernel_rfl) (fun _ _ _ h => h) (Or.inl ⟨by rfl, ?h37a⟩) ?h37b
                          case h37a => intro w; go_simp; try with_reducible rfl
                          try simp only [Act.put, List.getElem_toArray, List.getElem_cons_zero, List.getElem_cons_succ, List.setIfInBounds_toArray, List.set_cons_zero, List.set_cons_succ]
                          refine wpAny_take (i := 11) (v := ?_) rfl (by kernel_rfl) (by kernel_rfl) (by kernel_rfl) (fun _ _ _ h => h) (Or.inl ⟨by rfl, ?h38a⟩) ?h38b
                          case h38a => intro w; go_simp; try with_reducible rfl
                          try simp only [Act.put, List.getElem_toArray, List.getElem_cons_zero, List.getElem_cons_succ, List.setIfInBounds_toArray, List.set_cons_zero, List.set_cons_succ]
                          refine wpAny_take (i := 12) (v := ?_) rfl (by kernel_rfl) (by kernel_rfl) (by kernel_rfl) (fun _ _ _ h => h) (Or.inl ⟨by rfl, ?h39a⟩) ?h39b
                          case h39a => intro w; go_simp; try with_reducible rfl
                          try simp only [Act.put, List.getElem_toArray, List.getElem_cons_zero, List.getElem_cons_succ, List.setIfInBounds_toArray, List.set_cons_zero, List.set_cons_succ]
                          refine wpAny_take (i := 13) (v := ?_) rfl (by kernel_rfl) (by kernel_rfl) (by kernel_rfl) (fun _ _ _ h => h) (Or.inl ⟨by rfl, ?h40a⟩) ?h40b
                          case h40a => intro w; go_simp; try with_reducible rfl
                          try simp only [Act.put, List.getElem_toArray, List.getElem_cons_zero, List.getElem_cons_succ, List.setIfInBounds_toArray, List.set_cons_zero, List.set_cons_succ]
                          refine wpAny_take (i := 14) (v := ?_) rfl (by kernel_rfl) (by kernel_rfl) (by kernel_rfl) (fun _ _ _ h => h) (Or.inl ⟨by rfl, ?h41a⟩) ?h41b
                          case h41a => intro w; go_simp; try with_reducible rfl
                          try simp only [Act.put, List.getElem_toArray, List.getElem_cons_zero, List.getElem_cons_succ, List.setIfInBounds_toArray, List.set_cons_zero, List.set_cons_succ]
                          refine wpAny_take (i := 15) (v := ?_) rfl (by kernel_rfl) (by kernel_rfl) (by kernel_rfl) (fun _ _ _ h => h) (Or.inl ⟨by rfl, ?h42a⟩) ?h42b
                          case h42a => intro w; go_simp; try with_reducible rfl
                          try simp only [Act.put, List.getElem_toArray, List.getElem_cons_zero, List.getElem_cons_succ, List.setIfInBounds_toArray, List.set_cons_zero, List.set_cons_succ]
                          refine wpAny_done (by kernel_rfl) ?_ _
                          go_wp2_with fail
                          go_meet
                          exact ⟨rfl, rfl, rfl, hz.out⟩
                  · replace hK := Lib.hid hK
                    have hc : w1.cell? ⟨bB, j, none⟩ = some (.int .u32 hv) := (cell_of tB.out.tb j).trans hhv.out
                    go_simp
                    refine hK.out _ _ ?_
                    clear hK K hc
                    try simp only [Act.put, List.getElem_toArray, List.getElem_cons_zero, List.getElem_cons_succ, List.setIfInBounds_toArray, List.set_cons_zero, List.set_cons_succ]
                    refine wpAny_ready (rs := [0]) (by kernel_rfl) (by simp) (AllReady.cons rfl (fun K hK => ?_) AllReady.nil)
                    · replace hK := Lib.hid hK
                      go_simp
                      refine hK.out _ _ ?_
                      clear hK K
                      try simp only [Act.put, List.getElem_toArray, List.getElem_cons_zero, List.getElem_cons_succ, List.setIfInBounds_toArray, List.set_cons_zero, List.set_cons_succ]
                      have tA := Lib.hid (Tab.new tB.out.bl #[.int .u32 0, .int .u32 300, .int .u32 4294967295, .int .u32 4294967040, .int .u32 1] 22)
                      replace tB := Lib.hid (tB.out.alloc (.cells #[.int .u32 0, .int .u32 300, .int .u32 4294967295, .int .u32 4294967040, .int .u32 1] 22))
                      generalize w1.heap.size = bA at tA ⊢
                      generalize w1.alloc (.cells #[.int .u32 0, .int .u32 300, .int .u32 4294967295, .int .u32 4294967040, .int .u32 1] 22) = w2 at tA tB ⊢
                      refine wpAny_take (i := 2) (v := ?_) rfl (by kernel_rfl) (by kernel_rfl) (by kernel_rfl) (fun _ _ _ h => h) (Or.inl ⟨by rfl, ?h43a⟩) ?h43b
                      case h43a => intro w; go_simp; try with_reducible rfl
                      try simp only [Act.put, List.getElem_toArray, List.getElem_cons_zero, List.getElem_cons_succ, List.setIfInBounds_toArray, List.set_cons_zero, List.set_cons_succ]
                      refine wpAny_ready (rs := [3]) (by kernel_rfl) (by simp) (AllReady.cons rfl (fun K hK => ?_) AllReady.nil)
                      · replace hK := Lib.hid hK
                        have hc : w2.cell? ⟨bA, j, none⟩ = some (.int .u32 sv) := (cell_of tA.out.tb j).trans hsv.out
                        go_simp
                        refine hK.out _ _ ?_
                        clear hK K hc
                        try simp only [Act.put, List.getElem_toArray, List.getElem_cons_zero, List.getElem_cons_succ, List.setIfInBounds_toArray, List.set_cons_zero, List.set_cons_succ]
                        refine wpAny_ready (rs := [8]) (by kernel_rfl) (by simp) (AllReady.cons rfl (fun K hK => ?_) AllReady.nil)
                        · replace hK := Lib.hid hK
                          go_simp
                          refine (hP.out _).mono ?_
                          rintro ee Z ⟨rfl, hz⟩
                          replace hz := Lib.hid (tA.out.bl.trans (hz.mono tA.out.bl.size))
                          go_simp
                          refine hK.out _ _ ?_
                          clear hK K
                          try simp only [Act.put, List.getElem_toArray, List.getElem_cons_zero, List.getElem_cons_succ, List.setIfInBounds_toArray, List.set_cons_zero, List.set_cons_succ]
                          refine wpAny_take (i := 9) (v := ?_) rfl (by kernel_rfl) (by kernel_rfl) (by kernel_rfl) (fun _ _ _ h => h) (Or.inl ⟨by rfl, ?h44a⟩) ?h44b
                          case h44a => intro w; go_simp; try with_reducible rfl
                          try simp only [Act.put, List.getElem_toArray, List.getElem_cons_zero, List.getElem_cons_succ, List.setIfInBounds_toArray, List.set_cons_zero, List.set_cons_succ]
                          refine wpAny_take (i := 10) (v := ?_) rfl (by kernel_rfl) (by kernel_rfl) (by kernel_rfl) (fun _ _ _ h => h) (Or.inl ⟨by rfl, ?h45a⟩) ?h45b
                          case h45a => intro w; go_simp; try with_reducible rfl
                          try simp only [Act.put, List.getElem_toArray, List.getElem_cons_zero, List.getElem_cons_succ, List.setIfInBounds_toArray, List.set_cons_zero, List.set_cons_succ]
                          refine wpAny_take (i := 11) (v := ?_) rfl (by kernel_rfl) (by kernel_rfl) (by kernel_rfl) (fun _ _ _ h => h) (Or.inl ⟨by rfl, ?h46a⟩) ?h46b
                          case h46a => intro w; go_simp; try with_reducible rfl
                          try simp only [Act.put, List.getElem_toArray, List.getElem_cons_zero, List.getElem_cons_succ, List.setIfInBounds_toArray, List.set_cons_zero, List.set_cons_succ]
                          refine wpAny_take (i := 12) (v := ?_) rfl (by kernel_rfl) (by kernel_rfl) (by kernel_rfl) (fun _ _ _ h => h) (Or.inl ⟨by rfl, ?h47a⟩) ?h47b
                          case h47a => intro w; go_simp; try with_reducible rfl
                          try simp only [Act.put, List.getElem_toArray, List.getElem_cons_zero, List.getElem_cons_succ, List.setIfInBounds_toArray, List.set_cons_zero, List.set_cons_succ]
                          refine wpAny_take (i := 13) (v := ?_) rfl (by kernel_rfl) (by kernel_rfl) (by kernel_rfl) (fun _ _ _ h => h) (Or.inl ⟨by rfl, ?h48a⟩) ?h48b
                          case h48a => intro w; go_simp; try with_reducible rfl
                          try simp only [Act.put, List.getElem_toArray, List.getElem_cons_zero, List.getElem_cons_succ, List.setIfInBounds_toArray, List.set_cons_zero, List.set_cons_succ]
                          refine wpAny_take (i := 14) (v := ?_) rfl (by kernel_rfl) (by kernel_rfl) (by kernel_rfl) (fun _ _ _ h => h) (Or.inl ⟨by rfl, ?h49a⟩) ?h49b
                          case h49a => intro w; go_simp; try with_reducible rfl
                          try simp only [Act.put, List.getElem_toArray, List.getElem_cons_zero, List.getElem_cons_succ, List.setIfInBounds_toArray, List.set_cons_zero, List.set_cons_succ]
                          refine wpAny_take (i := 15) (v := ?_) rfl (by kernel_rfl) (by kernel_rfl) (by kernel_rfl) (fun _ _ _ h => h) (Or.inl ⟨by rfl, ?h50a⟩) ?h50b
                          case h50a => intro w; go_simp; try with_reducible rfl
                          try simp only [Act.put, List.getElem_toArray, List.getElem_cons_zero, List.getElem_cons_succ, List.setIfInBounds_toArray, List.set_cons_zero, List.set_cons_succ]
                          refine wpAny_done (by kernel_rfl) ?_ _
                          go_wp2_with fail
                          go_meet
                          exact ⟨rfl, rfl, rfl, hz.out⟩
              case rest =>
                obtain ⟨rfl, rfl, rfl, h8⟩ := hcut
                have T8 := Lib.hid h8
                clear h8
                go_wp2_with fail
                go_roundw
                case rel => exact ⟨j + 1, by omega, by simp, T8.out⟩
                case measure => simp [intOf]; omega
            · have B3 := hI
              clear hI hj
              go_wp2_with fail
              refine (Pages_is 0 0 _ (by decide) (by decide +kernel)).mono ?_
              rintro e w1 ⟨rfl, rfl⟩
              go_wp2_with fail
              refine (Pages_is 1 1 _ (by decide) (by decide +kernel)).mono ?_
              rintro e w1 ⟨rfl, rfl⟩
              go_wp2_with fail
              refine (Pages_is 256 1 _ (by decide) (by decide +kernel)).mono ?_
              rintro e w1 ⟨rfl, rfl⟩
              go_wp2_with fail
              refine (Pages_is 257 2 _ (by decide) (by decide +kernel)).mono ?_
              rintro e w1 ⟨rfl, rfl⟩
              go_wp2_with fail
              refine (Pages_is 4294967295 16777216 _ (by decide) (by decide +kernel)).mono ?_
              rintro e w1 ⟨rfl, rfl⟩
              go_wp2_with fail
              refine (szworks_any _).mono ?_
              rintro e w15 ⟨rfl, h1⟩
              replace B3 := Lib.hid (B3.out.trans (h1.mono B3.out.size))
              clear h1
              go_wp2_with fail
              go_ret
              exact ⟨rfl, B3.out⟩
theorem own : ownKnob Try.prog.godebug = none := by kernel_rfl
theorem laidOut : laidOutB Try.prog = true := by kernel_rfl
set_option maxRecDepth 100000 in
theorem lifted (os : Os) (started : os.Started) (H : Type) (enc : TypeId × Value → H) :
    ReturnsInHanded {} Try.checked os 9 .any (Rows.sizesKnownSpec.pre6 enc Try.prog Try.f9 Rows.sizesKnownRow.domain false) (Rows.sizesKnownSpec.post enc Try.prog Try.f9 false true false false) := by
  refine returnsInHanded_of_change (C := Try.checked) own started (by kernel_rfl) Try.func9
    (ChangeSpec.witness6 (enc := enc) (C := Try.checked) false ⟨#[], #[], []⟩ 8 (by kernel_rfl) (by kernel_rfl) (by kernel_rfl) (by kernel_rfl)) ?_
  intro W base args ds gs before hval0 hW hcnd hsz
  have hval : ∀ (j : Nat) t v, Try.f9.params[j]? = some t → args[j]? = some v → Value.okWide Try.prog W .any base t v := hval0
  have hW' := hW
  obtain ⟨p, q, hA0, hV, rfl, hfz, hnd⟩ := hW
  have hA : DataW.TrodAll enc Try.prog W 0 (fun _ => true) true Try.f9.params.toList args.toList ds p := hA0
  rw [Try.params9] at hA hval
  obtain ⟨rfl, rfl, rfl⟩ := trodAll_none hA
  obtain ⟨rfl, rfl⟩ := trodVars_none hV
  clear hA0 hval0
  refine (walk  W).mono fun e W' ⟨he, bel⟩ => ?_
  subst he
  exact ⟨_, rfl, _, _, _, [], _, [], hW', trodAll_mk1 (shut_bool Try.underlying4 _), trodAll_mk0, rfl, bel.frame _, fun h => by cases h⟩
theorem over : Rows.sizesKnownRow.holds Try.pinned (OpenSpec.ofChange Rows.sizesKnownSpec) :=
  OpenClaim.holds_of_wide 9 Try.f9 rfl rfl rfl rfl rfl rfl rfl ⟨rfl, rfl, rfl, rfl, rfl⟩ rfl rfl rfl rfl rfl (by kernel_rfl) Try.func9 (by kernel_rfl)
    (of_decide_eq_true (by kernel_rfl)) (by unfold Func.isWrapper; first | (rw [if_pos (by decide +kernel)]; kernel_rfl) | (rw [if_neg (by decide +kernel)]; exact ⟨rfl, rfl⟩))
    (fun os started H enc _ => lifted os started H enc)
/-- The given statement. -/
theorem proved : Rows.SizesKnownSaid := over
end Go.Proofs.Ytchonkkflklckaa.zknown
