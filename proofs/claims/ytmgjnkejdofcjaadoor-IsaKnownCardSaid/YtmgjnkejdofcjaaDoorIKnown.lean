/- Proved: the chapter's examples; each operation has a name, and it alone (the card of IsaKnown): for every input; the tables of names and forms are tied to the program's text. -/
import Derived.Test.YtmgjnkejdofcjaaDoorIsF
import Derived.Test.YtmgjnkejdofcjaaDoorIsW
import Derived.Test.YtmgjnkejdofcjaaDoorIsV
import Derived.Test.YtmgjnkejdofcjaaDoorFlat
import Derived.Test.YtmgjnkejdofcjaaDoorTie
import Derived.Test.YtmgjnkejdofcjaaDoorCards
import Derived.SevenTiedAt
import Derived.ProofKit
import Derived.OpenShut
import Derived.ShutString
import Derived.ChangeOld
import Derived.Deep.LoopGhost
namespace Go.Proofs.YtmgjnkejdofcjaaDoor.iknown
open Go.ChangeShapes Go.WideShapes Go.ChangeAt Go.RowKit
open Go.ChangeMaps (open_string shut_string)
set_option linter.unusedVariables false

theorem names_ok : ∀ n : Nat, n < 54 → 1 ≤ n → nameAt (n : Int) ≠ [] ∧ opAt (nameAt (n : Int)) = (n : Int) := by decide
theorem kF (op : Int) (l : List UInt8) (h : formAt op = l) (w : World) (hT : Tabs w) : Calls Tryd.prog 17 #[.int .i64 op] w fun e w' => e = .returned (.string ⟨l.toArray⟩) ∧ w = w' := h ▸ Form_any op w hT
theorem kN (op : Int) (l : List UInt8) (h : nameAt op = l) (w : World) (hT : Tabs w) : Calls Tryd.prog 15 #[.int .i64 op] w fun e w' => e = .returned (.string ⟨l.toArray⟩) ∧ w = w' := h ▸ Name_any op w hT
theorem kO (l : List UInt8) (n : Int) (h : opAt l = n) (w : World) (hT : Tabs w) : Calls Tryd.prog 19 #[.string ⟨l.toArray⟩] w fun e w' => e = .returned (.int .i64 n) ∧ w = w' := h ▸ Op_any l w hT
theorem kE_w0 (w : World) (hT : Tabs w) : Calls Tryd.prog 10 #[.agg #[.int .i64 3, .int .i64 1, .int .i64 2, .int .i64 3, .int .i64 0]] w fun e w' => e = .returned (.tuple #[.int .u32 51523584, .int .i64 0]) ∧ Below w.heap.size w w' := (pEncode_any 3 1 2 3 0 w hT).mono fun e w' h => ⟨h.1.trans (by kernel_rfl), h.2⟩
theorem kE_w1 (w : World) (hT : Tabs w) : Calls Tryd.prog 10 #[.agg #[.int .i64 29, .int .i64 1, .int .i64 0, .int .i64 0, .int .i64 (-2)]] w fun e w' => e = .returned (.tuple #[.int .u32 488636414, .int .i64 0]) ∧ Below w.heap.size w w' := (pEncode_any 29 1 0 0 (-2) w hT).mono fun e w' h => ⟨h.1.trans (by kernel_rfl), h.2⟩
theorem kE_w2 (w : World) (hT : Tabs w) : Calls Tryd.prog 10 #[.agg #[.int .i64 52, .int .i64 0, .int .i64 0, .int .i64 0, .int .i64 4]] w fun e w' => e = .returned (.tuple #[.int .u32 872415236, .int .i64 0]) ∧ Below w.heap.size w w' := (pEncode_any 52 0 0 0 4 w hT).mono fun e w' h => ⟨h.1.trans (by kernel_rfl), h.2⟩
theorem kE_w3 (w : World) (hT : Tabs w) : Calls Tryd.prog 10 #[.agg #[.int .i64 53, .int .i64 0, .int .i64 0, .int .i64 0, .int .i64 0]] w fun e w' => e = .returned (.tuple #[.int .u32 889192448, .int .i64 0]) ∧ Below w.heap.size w w' := (pEncode_any 53 0 0 0 0 w hT).mono fun e w' h => ⟨h.1.trans (by kernel_rfl), h.2⟩
theorem kE_b0 (w : World) (hT : Tabs w) : Calls Tryd.prog 10 #[.agg #[.int .i64 0, .int .i64 0, .int .i64 0, .int .i64 0, .int .i64 0]] w fun e w' => e = .returned (.tuple #[.int .u32 0, .int .i64 2]) ∧ Below w.heap.size w w' := (pEncode_any 0 0 0 0 0 w hT).mono fun e w' h => ⟨h.1.trans (by kernel_rfl), h.2⟩
theorem kE_b1 (w : World) (hT : Tabs w) : Calls Tryd.prog 10 #[.agg #[.int .i64 (-1), .int .i64 0, .int .i64 0, .int .i64 0, .int .i64 0]] w fun e w' => e = .returned (.tuple #[.int .u32 0, .int .i64 2]) ∧ Below w.heap.size w w' := (pEncode_any (-1) 0 0 0 0 w hT).mono fun e w' h => ⟨h.1.trans (by kernel_rfl), h.2⟩
theorem kE_b2 (w : World) (hT : Tabs w) : Calls Tryd.prog 10 #[.agg #[.int .i64 54, .int .i64 0, .int .i64 0, .int .i64 0, .int .i64 0]] w fun e w' => e = .returned (.tuple #[.int .u32 0, .int .i64 2]) ∧ Below w.heap.size w w' := (pEncode_any 54 0 0 0 0 w hT).mono fun e w' h => ⟨h.1.trans (by kernel_rfl), h.2⟩
theorem kE_b3 (w : World) (hT : Tabs w) : Calls Tryd.prog 10 #[.agg #[.int .i64 1, .int .i64 16, .int .i64 0, .int .i64 0, .int .i64 0]] w fun e w' => e = .returned (.tuple #[.int .u32 0, .int .i64 2]) ∧ Below w.heap.size w w' := (pEncode_any 1 16 0 0 0 w hT).mono fun e w' h => ⟨h.1.trans (by kernel_rfl), h.2⟩
theorem kE_b4 (w : World) (hT : Tabs w) : Calls Tryd.prog 10 #[.agg #[.int .i64 1, .int .i64 (-1), .int .i64 0, .int .i64 0, .int .i64 0]] w fun e w' => e = .returned (.tuple #[.int .u32 0, .int .i64 2]) ∧ Below w.heap.size w w' := (pEncode_any 1 (-1) 0 0 0 w hT).mono fun e w' h => ⟨h.1.trans (by kernel_rfl), h.2⟩
theorem kE_b5 (w : World) (hT : Tabs w) : Calls Tryd.prog 10 #[.agg #[.int .i64 1, .int .i64 0, .int .i64 0, .int .i64 0, .int .i64 2048]] w fun e w' => e = .returned (.tuple #[.int .u32 0, .int .i64 2]) ∧ Below w.heap.size w w' := (pEncode_any 1 0 0 0 2048 w hT).mono fun e w' h => ⟨h.1.trans (by kernel_rfl), h.2⟩
theorem kE_b6 (w : World) (hT : Tabs w) : Calls Tryd.prog 10 #[.agg #[.int .i64 1, .int .i64 0, .int .i64 0, .int .i64 0, .int .i64 (-2049)]] w fun e w' => e = .returned (.tuple #[.int .u32 0, .int .i64 2]) ∧ Below w.heap.size w w' := (pEncode_any 1 0 0 0 (-2049) w hT).mono fun e w' h => ⟨h.1.trans (by kernel_rfl), h.2⟩
theorem kE_b7 (w : World) (hT : Tabs w) : Calls Tryd.prog 10 #[.agg #[.int .i64 1, .int .i64 0, .int .i64 1, .int .i64 0, .int .i64 0]] w fun e w' => e = .returned (.tuple #[.int .u32 0, .int .i64 2]) ∧ Below w.heap.size w w' := (pEncode_any 1 0 1 0 0 w hT).mono fun e w' h => ⟨h.1.trans (by kernel_rfl), h.2⟩
theorem kE_b8 (w : World) (hT : Tabs w) : Calls Tryd.prog 10 #[.agg #[.int .i64 3, .int .i64 0, .int .i64 0, .int .i64 0, .int .i64 1]] w fun e w' => e = .returned (.tuple #[.int .u32 0, .int .i64 2]) ∧ Below w.heap.size w w' := (pEncode_any 3 0 0 0 1 w hT).mono fun e w' h => ⟨h.1.trans (by kernel_rfl), h.2⟩
theorem kE_b9 (w : World) (hT : Tabs w) : Calls Tryd.prog 10 #[.agg #[.int .i64 3, .int .i64 0, .int .i64 0, .int .i64 16, .int .i64 0]] w fun e w' => e = .returned (.tuple #[.int .u32 0, .int .i64 2]) ∧ Below w.heap.size w w' := (pEncode_any 3 0 0 16 0 w hT).mono fun e w' h => ⟨h.1.trans (by kernel_rfl), h.2⟩
theorem kE_b10 (w : World) (hT : Tabs w) : Calls Tryd.prog 10 #[.agg #[.int .i64 29, .int .i64 0, .int .i64 0, .int .i64 0, .int .i64 524288]] w fun e w' => e = .returned (.tuple #[.int .u32 0, .int .i64 2]) ∧ Below w.heap.size w w' := (pEncode_any 29 0 0 0 524288 w hT).mono fun e w' h => ⟨h.1.trans (by kernel_rfl), h.2⟩
theorem kE_b11 (w : World) (hT : Tabs w) : Calls Tryd.prog 10 #[.agg #[.int .i64 29, .int .i64 0, .int .i64 0, .int .i64 0, .int .i64 (-524289)]] w fun e w' => e = .returned (.tuple #[.int .u32 0, .int .i64 2]) ∧ Below w.heap.size w w' := (pEncode_any 29 0 0 0 (-524289) w hT).mono fun e w' h => ⟨h.1.trans (by kernel_rfl), h.2⟩
theorem kE_b12 (w : World) (hT : Tabs w) : Calls Tryd.prog 10 #[.agg #[.int .i64 29, .int .i64 0, .int .i64 1, .int .i64 0, .int .i64 0]] w fun e w' => e = .returned (.tuple #[.int .u32 0, .int .i64 2]) ∧ Below w.heap.size w w' := (pEncode_any 29 0 1 0 0 w hT).mono fun e w' h => ⟨h.1.trans (by kernel_rfl), h.2⟩
theorem kE_b13 (w : World) (hT : Tabs w) : Calls Tryd.prog 10 #[.agg #[.int .i64 31, .int .i64 0, .int .i64 0, .int .i64 1, .int .i64 0]] w fun e w' => e = .returned (.tuple #[.int .u32 0, .int .i64 2]) ∧ Below w.heap.size w w' := (pEncode_any 31 0 0 1 0 w hT).mono fun e w' h => ⟨h.1.trans (by kernel_rfl), h.2⟩
theorem kE_b14 (w : World) (hT : Tabs w) : Calls Tryd.prog 10 #[.agg #[.int .i64 51, .int .i64 1, .int .i64 0, .int .i64 0, .int .i64 0]] w fun e w' => e = .returned (.tuple #[.int .u32 0, .int .i64 2]) ∧ Below w.heap.size w w' := (pEncode_any 51 1 0 0 0 w hT).mono fun e w' h => ⟨h.1.trans (by kernel_rfl), h.2⟩
theorem kE_b15 (w : World) (hT : Tabs w) : Calls Tryd.prog 10 #[.agg #[.int .i64 53, .int .i64 0, .int .i64 0, .int .i64 0, .int .i64 1]] w fun e w' => e = .returned (.tuple #[.int .u32 0, .int .i64 2]) ∧ Below w.heap.size w w' := (pEncode_any 53 0 0 0 1 w hT).mono fun e w' h => ⟨h.1.trans (by kernel_rfl), h.2⟩
theorem kE_b16 (w : World) (hT : Tabs w) : Calls Tryd.prog 10 #[.agg #[.int .i64 52, .int .i64 1, .int .i64 0, .int .i64 0, .int .i64 0]] w fun e w' => e = .returned (.tuple #[.int .u32 0, .int .i64 2]) ∧ Below w.heap.size w w' := (pEncode_any 52 1 0 0 0 w hT).mono fun e w' h => ⟨h.1.trans (by kernel_rfl), h.2⟩
theorem kD_0 (w : World) (hT : Tabs w) : Calls Tryd.prog 13 #[.int .u32 0] w fun e w' => e = .returned (.agg #[.int .i64 0, .int .i64 0, .int .i64 0, .int .i64 0, .int .i64 0]) ∧ Below w.heap.size w w' := (pDecode_any 0 (by decide) (by decide) w hT).mono fun e w' h => ⟨h.1.trans (by kernel_rfl), h.2⟩
theorem kD_1 (w : World) (hT : Tabs w) : Calls Tryd.prog 13 #[.int .u32 19988480] w fun e w' => e = .returned (.agg #[.int .i64 0, .int .i64 0, .int .i64 0, .int .i64 0, .int .i64 0]) ∧ Below w.heap.size w w' := (pDecode_any 19988480 (by decide) (by decide) w hT).mono fun e w' h => ⟨h.1.trans (by kernel_rfl), h.2⟩
theorem kD_2 (w : World) (hT : Tabs w) : Calls Tryd.prog 13 #[.int .u32 19927040] w fun e w' => e = .returned (.agg #[.int .i64 0, .int .i64 0, .int .i64 0, .int .i64 0, .int .i64 0]) ∧ Below w.heap.size w w' := (pDecode_any 19927040 (by decide) (by decide) w hT).mono fun e w' h => ⟨h.1.trans (by kernel_rfl), h.2⟩
theorem kD_3 (w : World) (hT : Tabs w) : Calls Tryd.prog 13 #[.int .u32 4294967295] w fun e w' => e = .returned (.agg #[.int .i64 0, .int .i64 0, .int .i64 0, .int .i64 0, .int .i64 0]) ∧ Below w.heap.size w w' := (pDecode_any 4294967295 (by decide) (by decide) w hT).mono fun e w' h => ⟨h.1.trans (by kernel_rfl), h.2⟩
theorem kD_4 (w : World) (hT : Tabs w) : Calls Tryd.prog 13 #[.int .u32 51523585] w fun e w' => e = .returned (.agg #[.int .i64 0, .int .i64 0, .int .i64 0, .int .i64 0, .int .i64 0]) ∧ Below w.heap.size w w' := (pDecode_any 51523585 (by decide) (by decide) w hT).mono fun e w' h => ⟨h.1.trans (by kernel_rfl), h.2⟩
theorem kD_5 (w : World) (hT : Tabs w) : Calls Tryd.prog 13 #[.int .u32 905969664] w fun e w' => e = .returned (.agg #[.int .i64 0, .int .i64 0, .int .i64 0, .int .i64 0, .int .i64 0]) ∧ Below w.heap.size w w' := (pDecode_any 905969664 (by decide) (by decide) w hT).mono fun e w' h => ⟨h.1.trans (by kernel_rfl), h.2⟩
theorem kD_6 (w : World) (hT : Tabs w) : Calls Tryd.prog 13 #[.int .u32 855638017] w fun e w' => e = .returned (.agg #[.int .i64 0, .int .i64 0, .int .i64 0, .int .i64 0, .int .i64 0]) ∧ Below w.heap.size w w' := (pDecode_any 855638017 (by decide) (by decide) w hT).mono fun e w' h => ⟨h.1.trans (by kernel_rfl), h.2⟩
set_option maxRecDepth 100000 in
set_option maxHeartbeats 20000000 in
theorem walk (W : World) (hT : Tabs W) : Calls Tryd.prog 9 #[] W fun e w' => e = .returned (.bool true) ∧ Below W.heap.size W w' := by
  have hN := fun p => Name_any p W hT
  have hO := fun l => Op_any l W hT
  have hEz : ∀ w, (Op.equalIn 10000 23 (.agg #[.int .i64 0, .int .i64 0, .int .i64 0, .int .i64 0, .int .i64 0]) (.agg #[.int .i64 0, .int .i64 0, .int .i64 0, .int .i64 0, .int .i64 0])).run Tryd.prog w = .ok true w := fun w => ins_eq ⟨0, 0, 0, 0, 0⟩ ⟨0, 0, 0, 0, 0⟩ w
  replace hN := Lib.hid hN
  replace hO := Lib.hid hO
  replace hT := Lib.hid hT
  go_enter Tryd.func9, Tryd.ntmps9
  go_wp2_with fail
  go_loop [1] (fun i => ∃ p : Nat, 1 ≤ p ∧ p ≤ 54 ∧ i = .int .i64 p) (fun i => 54 - (intOf i).toNat)
  case atStart => exact ⟨1, by omega, by omega, rfl⟩
  case round =>
    obtain ⟨p, hp1, hp, rfl⟩ := hrel
    by_cases hlt : p < 54
    · have hle : (p : Int) ≤ 53 := by omega
      obtain ⟨n1, n2⟩ := names_ok p hlt hp1
      have hC := hN.out p
      have hC2 := hO.out (nameAt (p : Int))
      rw [n2] at hC2
      generalize nameAt (p : Int) = z at *
      have g1 : (z == []) = false := by simpa using n1
      have g2 : z.isEmpty = false := by simpa using n1
      replace hC := Lib.hid hC
      replace hC2 := Lib.hid hC2
      clear n1 n2
      go_wp2_with fail
      refine hC.out.mono ?_
      rintro e w' ⟨rfl, rfl⟩
      go_wp2_with fail
      refine hC.out.mono ?_
      rintro e w' ⟨rfl, rfl⟩
      go_wp2_with fail
      refine hC2.out.mono ?_
      rintro e w' ⟨rfl, rfl⟩
      go_wp2
      go_round
      case rel => exact ⟨p + 1, by omega, by omega, by go_num⟩
      case measure => simp [intOf]; omega
    · have hgt : ¬ (p : Int) ≤ 53 := by omega
      obtain rfl : p = 54 := by omega
      clear hlt hp hp1 hN hO
      have K1 : KR W [⟨W.heap.size, [.int .i64 3, .int .i64 1, .int .i64 2, .int .i64 3, .int .i64 0, .int .i64 29, .int .i64 1, .int .i64 0, .int .i64 0, .int .i64 (-2), .int .i64 52, .int .i64 0, .int .i64 0, .int .i64 0, .int .i64 4, .int .i64 53, .int .i64 0, .int .i64 0, .int .i64 0, .int .i64 0]⟩] (W.alloc (.cells #[.int .i64 3, .int .i64 1, .int .i64 2, .int .i64 3, .int .i64 0, .int .i64 29, .int .i64 1, .int .i64 0, .int .i64 0, .int .i64 (-2), .int .i64 52, .int .i64 0, .int .i64 0, .int .i64 0, .int .i64 4, .int .i64 53, .int .i64 0, .int .i64 0, .int .i64 0, .int .i64 0] 23)) := KR.start.push [.int .i64 3, .int .i64 1, .int .i64 2, .int .i64 3, .int .i64 0, .int .i64 29, .int .i64 1, .int .i64 0, .int .i64 0, .int .i64 (-2), .int .i64 52, .int .i64 0, .int .i64 0, .int .i64 0, .int .i64 4, .int .i64 53, .int .i64 0, .int .i64 0, .int .i64 0, .int .i64 0] 23
      go_wp2_with fail
      generalize (W.alloc (.cells #[.int .i64 3, .int .i64 1, .int .i64 2, .int .i64 3, .int .i64 0, .int .i64 29, .int .i64 1, .int .i64 0, .int .i64 0, .int .i64 (-2), .int .i64 52, .int .i64 0, .int .i64 0, .int .i64 0, .int .i64 4, .int .i64 53, .int .i64 0, .int .i64 0, .int .i64 0, .int .i64 0] 23)) = w0 at *
      replace K1 := Lib.hid K1
      go_loopw [3] (fun i wr => ∃ j : Nat, j ≤ 4 ∧ i = .int .i64 j ∧ Hid (KR W [⟨W.heap.size, [.int .i64 3, .int .i64 1, .int .i64 2, .int .i64 3, .int .i64 0, .int .i64 29, .int .i64 1, .int .i64 0, .int .i64 0, .int .i64 (-2), .int .i64 52, .int .i64 0, .int .i64 0, .int .i64 0, .int .i64 4, .int .i64 53, .int .i64 0, .int .i64 0, .int .i64 0, .int .i64 0]⟩] wr)) (fun i _ => 4 - (intOf i).toNat)
      case atStart => exact ⟨0, by omega, rfl, K1⟩
      case round =>
        obtain ⟨j, hj, rfl, hI⟩ := hrel
        have hj' : j = 0 ∨ j = 1 ∨ j = 2 ∨ j = 3 ∨ j = 4 := by omega
        clear hj K1
        rcases hj' with rfl | rfl | rfl | rfl | rfl
        · have c0 : wr.cell? ⟨W.heap.size, 0, none⟩ = some (.int .i64 3) := hI.out.cell _ (List.mem_cons_self ..) rfl
          have c1 : wr.cell? ⟨W.heap.size, 1, none⟩ = some (.int .i64 1) := hI.out.cell _ (List.mem_cons_self ..) rfl
          have c2 : wr.cell? ⟨W.heap.size, 2, none⟩ = some (.int .i64 2) := hI.out.cell _ (List.mem_cons_self ..) rfl
          have c3 : wr.cell? ⟨W.heap.size, 3, none⟩ = some (.int .i64 3) := hI.out.cell _ (List.mem_cons_self ..) rfl
          have c4 : wr.cell? ⟨W.heap.size, 4, none⟩ = some (.int .i64 0) := hI.out.cell _ (List.mem_cons_self ..) rfl
          have hC := Lib.hid (kE_w0 wr (hT.out.below hI.out.bl))
          go_wp2_with fail
          refine hC.out.mono ?_
          rintro e w8 ⟨rfl, h1⟩
          have T8 := Lib.hid (hI.out.below h1)
          clear h1 hC
          go_wp2_with fail
          go_roundw
          case rel => exact ⟨1, by omega, rfl, Lib.hid (T8.out.alloc _)⟩
          case measure => simp [intOf]
        · have c0 : wr.cell? ⟨W.heap.size, 5, none⟩ = some (.int .i64 29) := hI.out.cell _ (List.mem_cons_self ..) rfl
          have c1 : wr.cell? ⟨W.heap.size, 6, none⟩ = some (.int .i64 1) := hI.out.cell _ (List.mem_cons_self ..) rfl
          have c2 : wr.cell? ⟨W.heap.size, 7, none⟩ = some (.int .i64 0) := hI.out.cell _ (List.mem_cons_self ..) rfl
          have c3 : wr.cell? ⟨W.heap.size, 8, none⟩ = some (.int .i64 0) := hI.out.cell _ (List.mem_cons_self ..) rfl
          have c4 : wr.cell? ⟨W.heap.size, 9, none⟩ = some (.int .i64 (-2)) := hI.out.cell _ (List.mem_cons_self ..) rfl
          have hC := Lib.hid (kE_w1 wr (hT.out.below hI.out.bl))
          go_wp2_with fail
          refine hC.out.mono ?_
          rintro e w8 ⟨rfl, h1⟩
          have T8 := Lib.hid (hI.out.below h1)
          clear h1 hC
          go_wp2_with fail
          go_roundw
          case rel => exact ⟨2, by omega, rfl, Lib.hid (T8.out.alloc _)⟩
          case measure => simp [intOf]
        · have c0 : wr.cell? ⟨W.heap.size, 10, none⟩ = some (.int .i64 52) := hI.out.cell _ (List.mem_cons_self ..) rfl
          have c1 : wr.cell? ⟨W.heap.size, 11, none⟩ = some (.int .i64 0) := hI.out.cell _ (List.mem_cons_self ..) rfl
          have c2 : wr.cell? ⟨W.heap.size, 12, none⟩ = some (.int .i64 0) := hI.out.cell _ (List.mem_cons_self ..) rfl
          have c3 : wr.cell? ⟨W.heap.size, 13, none⟩ = some (.int .i64 0) := hI.out.cell _ (List.mem_cons_self ..) rfl
          have c4 : wr.cell? ⟨W.heap.size, 14, none⟩ = some (.int .i64 4) := hI.out.cell _ (List.mem_cons_self ..) rfl
          have hC := Lib.hid (kE_w2 wr (hT.out.below hI.out.bl))
          go_wp2_with fail
          refine hC.out.mono ?_
          rintro e w8 ⟨rfl, h1⟩
          have T8 := Lib.hid (hI.out.below h1)
          clear h1 hC
          go_wp2_with fail
          go_roundw
          case rel => exact ⟨3, by omega, rfl, Lib.hid (T8.out.alloc _)⟩
          case measure => simp [intOf]
        · have c0 : wr.cell? ⟨W.heap.size, 15, none⟩ = some (.int .i64 53) := hI.out.cell _ (List.mem_cons_self ..) rfl
          have c1 : wr.cell? ⟨W.heap.size, 16, none⟩ = some (.int .i64 0) := hI.out.cell _ (List.mem_cons_self ..) rfl
          have c2 : wr.cell? ⟨W.heap.size, 17, none⟩ = some (.int .i64 0) := hI.out.cell _ (List.mem_cons_self ..) rfl
          have c3 : wr.cell? ⟨W.heap.size, 18, none⟩ = some (.int .i64 0) := hI.out.cell _ (List.mem_cons_self ..) rfl
          have c4 : wr.cell? ⟨W.heap.size, 19, none⟩ = some (.int .i64 0) := hI.out.cell _ (List.mem_cons_self ..) rfl
          have hC := Lib.hid (kE_w3 wr (hT.out.below hI.out.bl))
          go_wp2_with fail
          refine hC.out.mono ?_
          rintro e w8 ⟨rfl, h1⟩
          have T8 := Lib.hid (hI.out.below h1)
          clear h1 hC
          go_wp2_with fail
          go_roundw
          case rel => exact ⟨4, by omega, rfl, Lib.hid (T8.out.alloc _)⟩
          case measure => simp [intOf]
        · obtain ⟨wq1, hwq⟩ : ∃ w : World, w = wr := ⟨_, rfl⟩
          rw [← hwq] at hI ⊢
          clear hwq
          have K1 : KR W [⟨wq1.heap.size, [.int .i64 0, .int .i64 0, .int .i64 0, .int .i64 0, .int .i64 0, .int .i64 (-1), .int .i64 0, .int .i64 0, .int .i64 0, .int .i64 0, .int .i64 54, .int .i64 0, .int .i64 0, .int .i64 0, .int .i64 0, .int .i64 1, .int .i64 16, .int .i64 0, .int .i64 0, .int .i64 0, .int .i64 1, .int .i64 (-1), .int .i64 0, .int .i64 0, .int .i64 0, .int .i64 1, .int .i64 0, .int .i64 0, .int .i64 0, .int .i64 2048, .int .i64 1, .int .i64 0, .int .i64 0, .int .i64 0, .int .i64 (-2049), .int .i64 1, .int .i64 0, .int .i64 1, .int .i64 0, .int .i64 0, .int .i64 3, .int .i64 0, .int .i64 0, .int .i64 0, .int .i64 1, .int .i64 3, .int .i64 0, .int .i64 0, .int .i64 16, .int .i64 0, .int .i64 29, .int .i64 0, .int .i64 0, .int .i64 0, .int .i64 524288, .int .i64 29, .int .i64 0, .int .i64 0, .int .i64 0, .int .i64 (-524289), .int .i64 29, .int .i64 0, .int .i64 1, .int .i64 0, .int .i64 0, .int .i64 31, .int .i64 0, .int .i64 0, .int .i64 1, .int .i64 0, .int .i64 51, .int .i64 1, .int .i64 0, .int .i64 0, .int .i64 0, .int .i64 53, .int .i64 0, .int .i64 0, .int .i64 0, .int .i64 1, .int .i64 52, .int .i64 1, .int .i64 0, .int .i64 0, .int .i64 0]⟩] (wq1.alloc (.cells #[.int .i64 0, .int .i64 0, .int .i64 0, .int .i64 0, .int .i64 0, .int .i64 (-1), .int .i64 0, .int .i64 0, .int .i64 0, .int .i64 0, .int .i64 54, .int .i64 0, .int .i64 0, .int .i64 0, .int .i64 0, .int .i64 1, .int .i64 16, .int .i64 0, .int .i64 0, .int .i64 0, .int .i64 1, .int .i64 (-1), .int .i64 0, .int .i64 0, .int .i64 0, .int .i64 1, .int .i64 0, .int .i64 0, .int .i64 0, .int .i64 2048, .int .i64 1, .int .i64 0, .int .i64 0, .int .i64 0, .int .i64 (-2049), .int .i64 1, .int .i64 0, .int .i64 1, .int .i64 0, .int .i64 0, .int .i64 3, .int .i64 0, .int .i64 0, .int .i64 0, .int .i64 1, .int .i64 3, .int .i64 0, .int .i64 0, .int .i64 16, .int .i64 0, .int .i64 29, .int .i64 0, .int .i64 0, .int .i64 0, .int .i64 524288, .int .i64 29, .int .i64 0, .int .i64 0, .int .i64 0, .int .i64 (-524289), .int .i64 29, .int .i64 0, .int .i64 1, .int .i64 0, .int .i64 0, .int .i64 31, .int .i64 0, .int .i64 0, .int .i64 1, .int .i64 0, .int .i64 51, .int .i64 1, .int .i64 0, .int .i64 0, .int .i64 0, .int .i64 53, .int .i64 0, .int .i64 0, .int .i64 0, .int .i64 1, .int .i64 52, .int .i64 1, .int .i64 0, .int .i64 0, .int .i64 0] 23)) := (hI.out.sub (L' := []) (fun x hx => by cases hx)).push [.int .i64 0, .int .i64 0, .int .i64 0, .int .i64 0, .int .i64 0, .int .i64 (-1), .int .i64 0, .int .i64 0, .int .i64 0, .int .i64 0, .int .i64 54, .int .i64 0, .int .i64 0, .int .i64 0, .int .i64 0, .int .i64 1, .int .i64 16, .int .i64 0, .int .i64 0, .int .i64 0, .int .i64 1, .int .i64 (-1), .int .i64 0, .int .i64 0, .int .i64 0, .int .i64 1, .int .i64 0, .int .i64 0, .int .i64 0, .int .i64 2048, .int .i64 1, .int .i64 0, .int .i64 0, .int .i64 0, .int .i64 (-2049), .int .i64 1, .int .i64 0, .int .i64 1, .int .i64 0, .int .i64 0, .int .i64 3, .int .i64 0, .int .i64 0, .int .i64 0, .int .i64 1, .int .i64 3, .int .i64 0, .int .i64 0, .int .i64 16, .int .i64 0, .int .i64 29, .int .i64 0, .int .i64 0, .int .i64 0, .int .i64 524288, .int .i64 29, .int .i64 0, .int .i64 0, .int .i64 0, .int .i64 (-524289), .int .i64 29, .int .i64 0, .int .i64 1, .int .i64 0, .int .i64 0, .int .i64 31, .int .i64 0, .int .i64 0, .int .i64 1, .int .i64 0, .int .i64 51, .int .i64 1, .int .i64 0, .int .i64 0, .int .i64 0, .int .i64 53, .int .i64 0, .int .i64 0, .int .i64 0, .int .i64 1, .int .i64 52, .int .i64 1, .int .i64 0, .int .i64 0, .int .i64 0] 23
          go_wp2_with fail
          generalize (wq1.alloc (.cells #[.int .i64 0, .int .i64 0, .int .i64 0, .int .i64 0, .int .i64 0, .int .i64 (-1), .int .i64 0, .int .i64 0, .int .i64 0, .int .i64 0, .int .i64 54, .int .i64 0, .int .i64 0, .int .i64 0, .int .i64 0, .int .i64 1, .int .i64 16, .int .i64 0, .int .i64 0, .int .i64 0, .int .i64 1, .int .i64 (-1), .int .i64 0, .int .i64 0, .int .i64 0, .int .i64 1, .int .i64 0, .int .i64 0, .int .i64 0, .int .i64 2048, .int .i64 1, .int .i64 0, .int .i64 0, .int .i64 0, .int .i64 (-2049), .int .i64 1, .int .i64 0, .int .i64 1, .int .i64 0, .int .i64 0, .int .i64 3, .int .i64 0, .int .i64 0, .int .i64 0, .int .i64 1, .int .i64 3, .int .i64 0, .int .i64 0, .int .i64 16, .int .i64 0, .int .i64 29, .int .i64 0, .int .i64 0, .int .i64 0, .int .i64 524288, .int .i64 29, .int .i64 0, .int .i64 0, .int .i64 0, .int .i64 (-524289), .int .i64 29, .int .i64 0, .int .i64 1, .int .i64 0, .int .i64 0, .int .i64 31, .int .i64 0, .int .i64 0, .int .i64 1, .int .i64 0, .int .i64 51, .int .i64 1, .int .i64 0, .int .i64 0, .int .i64 0, .int .i64 53, .int .i64 0, .int .i64 0, .int .i64 0, .int .i64 1, .int .i64 52, .int .i64 1, .int .i64 0, .int .i64 0, .int .i64 0] 23)) = w1 at *
          replace K1 := Lib.hid K1
          go_loopw [7] (fun i wr => ∃ j : Nat, j ≤ 17 ∧ i = .int .i64 j ∧ Hid (KR W [⟨wq1.heap.size, [.int .i64 0, .int .i64 0, .int .i64 0, .int .i64 0, .int .i64 0, .int .i64 (-1), .int .i64 0, .int .i64 0, .int .i64 0, .int .i64 0, .int .i64 54, .int .i64 0, .int .i64 0, .int .i64 0, .int .i64 0, .int .i64 1, .int .i64 16, .int .i64 0, .int .i64 0, .int .i64 0, .int .i64 1, .int .i64 (-1), .int .i64 0, .int .i64 0, .int .i64 0, .int .i64 1, .int .i64 0, .int .i64 0, .int .i64 0, .int .i64 2048, .int .i64 1, .int .i64 0, .int .i64 0, .int .i64 0, .int .i64 (-2049), .int .i64 1, .int .i64 0, .int .i64 1, .int .i64 0, .int .i64 0, .int .i64 3, .int .i64 0, .int .i64 0, .int .i64 0, .int .i64 1, .int .i64 3, .int .i64 0, .int .i64 0, .int .i64 16, .int .i64 0, .int .i64 29, .int .i64 0, .int .i64 0, .int .i64 0, .int .i64 524288, .int .i64 29, .int .i64 0, .int .i64 0, .int .i64 0, .int .i64 (-524289), .int .i64 29, .int .i64 0, .int .i64 1, .int .i64 0, .int .i64 0, .int .i64 31, .int .i64 0, .int .i64 0, .int .i64 1, .int .i64 0, .int .i64 51, .int .i64 1, .int .i64 0, .int .i64 0, .int .i64 0, .int .i64 53, .int .i64 0, .int .i64 0, .int .i64 0, .int .i64 1, .int .i64 52, .int .i64 1, .int .i64 0, .int .i64 0, .int .i64 0]⟩] wr)) (fun i _ => 17 - (intOf i).toNat)
          case atStart => exact ⟨0, by omega, rfl, K1⟩
          case round =>
            obtain ⟨j, hj, rfl, hI⟩ := hrel
            have hj' : j = 0 ∨ j = 1 ∨ j = 2 ∨ j = 3 ∨ j = 4 ∨ j = 5 ∨ j = 6 ∨ j = 7 ∨ j = 8 ∨ j = 9 ∨ j = 10 ∨ j = 11 ∨ j = 12 ∨ j = 13 ∨ j = 14 ∨ j = 15 ∨ j = 16 ∨ j = 17 := by omega
            clear hj K1
            rcases hj' with rfl | rfl | rfl | rfl | rfl | rfl | rfl | rfl | rfl | rfl | rfl | rfl | rfl | rfl | rfl | rfl | rfl | rfl
            · have c0 : wr.cell? ⟨wq1.heap.size, 0, none⟩ = some (.int .i64 0) := hI.out.cell _ (List.mem_cons_self ..) rfl
              have c1 : wr.cell? ⟨wq1.heap.size, 1, none⟩ = some (.int .i64 0) := hI.out.cell _ (List.mem_cons_self ..) rfl
              have c2 : wr.cell? ⟨wq1.heap.size, 2, none⟩ = some (.int .i64 0) := hI.out.cell _ (List.mem_cons_self ..) rfl
              have c3 : wr.cell? ⟨wq1.heap.size, 3, none⟩ = some (.int .i64 0) := hI.out.cell _ (List.mem_cons_self ..) rfl
              have c4 : wr.cell? ⟨wq1.heap.size, 4, none⟩ = some (.int .i64 0) := hI.out.cell _ (List.mem_cons_self ..) rfl
              have hC := Lib.hid (kE_b0 wr (hT.out.below hI.out.bl))
              go_wp2_with fail
              refine hC.out.mono ?_
              rintro e w8 ⟨rfl, h1⟩
              have T8 := Lib.hid (hI.out.below h1)
              clear h1 hC
              go_wp2_with fail
              go_roundw
              case rel => exact ⟨1, by omega, rfl, T8⟩
              case measure => simp [intOf]
            · have c0 : wr.cell? ⟨wq1.heap.size, 5, none⟩ = some (.int .i64 (-1)) := hI.out.cell _ (List.mem_cons_self ..) rfl
              have c1 : wr.cell? ⟨wq1.heap.size, 6, none⟩ = some (.int .i64 0) := hI.out.cell _ (List.mem_cons_self ..) rfl
              have c2 : wr.cell? ⟨wq1.heap.size, 7, none⟩ = some (.int .i64 0) := hI.out.cell _ (List.mem_cons_self ..) rfl
              have c3 : wr.cell? ⟨wq1.heap.size, 8, none⟩ = some (.int .i64 0) := hI.out.cell _ (List.mem_cons_self ..) rfl
              have c4 : wr.cell? ⟨wq1.heap.size, 9, none⟩ = some (.int .i64 0) := hI.out.cell _ (List.mem_cons_self ..) rfl
              have hC := Lib.hid (kE_b1 wr (hT.out.below hI.out.bl))
              go_wp2_with fail
              refine hC.out.mono ?_
              rintro e w8 ⟨rfl, h1⟩
              have T8 := Lib.hid (hI.out.below h1)
              clear h1 hC
              go_wp2_with fail
              go_roundw
              case rel => exact ⟨2, by omega, rfl, T8⟩
              case measure => simp [intOf]
            · have c0 : wr.cell? ⟨wq1.heap.size, 10, none⟩ = some (.int .i64 54) := hI.out.cell _ (List.mem_cons_self ..) rfl
              have c1 : wr.cell? ⟨wq1.heap.size, 11, none⟩ = some (.int .i64 0) := hI.out.cell _ (List.mem_cons_self ..) rfl
              have c2 : wr.cell? ⟨wq1.heap.size, 12, none⟩ = some (.int .i64 0) := hI.out.cell _ (List.mem_cons_self ..) rfl
              have c3 : wr.cell? ⟨wq1.heap.size, 13, none⟩ = some (.int .i64 0) := hI.out.cell _ (List.mem_cons_self ..) rfl
              have c4 : wr.cell? ⟨wq1.heap.size, 14, none⟩ = some (.int .i64 0) := hI.out.cell _ (List.mem_cons_self ..) rfl
              have hC := Lib.hid (kE_b2 wr (hT.out.below hI.out.bl))
              go_wp2_with fail
              refine hC.out.mono ?_
              rintro e w8 ⟨rfl, h1⟩
              have T8 := Lib.hid (hI.out.below h1)
              clear h1 hC
              go_wp2_with fail
              go_roundw
              case rel => exact ⟨3, by omega, rfl, T8⟩
              case measure => simp [intOf]
            · have c0 : wr.cell? ⟨wq1.heap.size, 15, none⟩ = some (.int .i64 1) := hI.out.cell _ (List.mem_cons_self ..) rfl
              have c1 : wr.cell? ⟨wq1.heap.size, 16, none⟩ = some (.int .i64 16) := hI.out.cell _ (List.mem_cons_self ..) rfl
              have c2 : wr.cell? ⟨wq1.heap.size, 17, none⟩ = some (.int .i64 0) := hI.out.cell _ (List.mem_cons_self ..) rfl
              have c3 : wr.cell? ⟨wq1.heap.size, 18, none⟩ = some (.int .i64 0) := hI.out.cell _ (List.mem_cons_self ..) rfl
              have c4 : wr.cell? ⟨wq1.heap.size, 19, none⟩ = some (.int .i64 0) := hI.out.cell _ (List.mem_cons_self ..) rfl
              have hC := Lib.hid (kE_b3 wr (hT.out.below hI.out.bl))
              go_wp2_with fail
              refine hC.out.mono ?_
              rintro e w8 ⟨rfl, h1⟩
              have T8 := Lib.hid (hI.out.below h1)
              clear h1 hC
              go_wp2_with fail
              go_roundw
              case rel => exact ⟨4, by omega, rfl, T8⟩
              case measure => simp [intOf]
            · have c0 : wr.cell? ⟨wq1.heap.size, 20, none⟩ = some (.int .i64 1) := hI.out.cell _ (List.mem_cons_self ..) rfl
              have c1 : wr.cell? ⟨wq1.heap.size, 21, none⟩ = some (.int .i64 (-1)) := hI.out.cell _ (List.mem_cons_self ..) rfl
              have c2 : wr.cell? ⟨wq1.heap.size, 22, none⟩ = some (.int .i64 0) := hI.out.cell _ (List.mem_cons_self ..) rfl
              have c3 : wr.cell? ⟨wq1.heap.size, 23, none⟩ = some (.int .i64 0) := hI.out.cell _ (List.mem_cons_self ..) rfl
              have c4 : wr.cell? ⟨wq1.heap.size, 24, none⟩ = some (.int .i64 0) := hI.out.cell _ (List.mem_cons_self ..) rfl
              have hC := Lib.hid (kE_b4 wr (hT.out.below hI.out.bl))
              go_wp2_with fail
              refine hC.out.mono ?_
              rintro e w8 ⟨rfl, h1⟩
              have T8 := Lib.hid (hI.out.below h1)
              clear h1 hC
              go_wp2_with fail
              go_roundw
              case rel => exact ⟨5, by omega, rfl, T8⟩
              case measure => simp [intOf]
            · have c0 : wr.cell? ⟨wq1.heap.size, 25, none⟩ = some (.int .i64 1) := hI.out.cell _ (List.mem_cons_self ..) rfl
              have c1 : wr.cell? ⟨wq1.heap.size, 26, none⟩ = some (.int .i64 0) := hI.out.cell _ (List.mem_cons_self ..) rfl
              have c2 : wr.cell? ⟨wq1.heap.size, 27, none⟩ = some (.int .i64 0) := hI.out.cell _ (List.mem_cons_self ..) rfl
              have c3 : wr.cell? ⟨wq1.heap.size, 28, none⟩ = some (.int .i64 0) := hI.out.cell _ (List.mem_cons_self ..) rfl
              have c4 : wr.cell? ⟨wq1.heap.size, 29, none⟩ = some (.int .i64 2048) := hI.out.cell _ (List.mem_cons_self ..) rfl
              have hC := Lib.hid (kE_b5 wr (hT.out.below hI.out.bl))
              go_wp2_with fail
              refine hC.out.mono ?_
              rintro e w8 ⟨rfl, h1⟩
              have T8 := Lib.hid (hI.out.below h1)
              clear h1 hC
              go_wp2_with fail
              go_roundw
              case rel => exact ⟨6, by omega, rfl, T8⟩
              case measure => simp [intOf]
            · have c0 : wr.cell? ⟨wq1.heap.size, 30, none⟩ = some (.int .i64 1) := hI.out.cell _ (List.mem_cons_self ..) rfl
              have c1 : wr.cell? ⟨wq1.heap.size, 31, none⟩ = some (.int .i64 0) := hI.out.cell _ (List.mem_cons_self ..) rfl
              have c2 : wr.cell? ⟨wq1.heap.size, 32, none⟩ = some (.int .i64 0) := hI.out.cell _ (List.mem_cons_self ..) rfl
              have c3 : wr.cell? ⟨wq1.heap.size, 33, none⟩ = some (.int .i64 0) := hI.out.cell _ (List.mem_cons_self ..) rfl
              have c4 : wr.cell? ⟨wq1.heap.size, 34, none⟩ = some (.int .i64 (-2049)) := hI.out.cell _ (List.mem_cons_self ..) rfl
              have hC := Lib.hid (kE_b6 wr (hT.out.below hI.out.bl))
              go_wp2_with fail
              refine hC.out.mono ?_
              rintro e w8 ⟨rfl, h1⟩
              have T8 := Lib.hid (hI.out.below h1)
              clear h1 hC
              go_wp2_with fail
              go_roundw
              case rel => exact ⟨7, by omega, rfl, T8⟩
              case measure => simp [intOf]
            · have c0 : wr.cell? ⟨wq1.heap.size, 35, none⟩ = some (.int .i64 1) := hI.out.cell _ (List.mem_cons_self ..) rfl
              have c1 : wr.cell? ⟨wq1.heap.size, 36, none⟩ = some (.int .i64 0) := hI.out.cell _ (List.mem_cons_self ..) rfl
              have c2 : wr.cell? ⟨wq1.heap.size, 37, none⟩ = some (.int .i64 1) := hI.out.cell _ (List.mem_cons_self ..) rfl
              have c3 : wr.cell? ⟨wq1.heap.size, 38, none⟩ = some (.int .i64 0) := hI.out.cell _ (List.mem_cons_self ..) rfl
              have c4 : wr.cell? ⟨wq1.heap.size, 39, none⟩ = some (.int .i64 0) := hI.out.cell _ (List.mem_cons_self ..) rfl
              have hC := Lib.hid (kE_b7 wr (hT.out.below hI.out.bl))
              go_wp2_with fail
              refine hC.out.mono ?_
              rintro e w8 ⟨rfl, h1⟩
              have T8 := Lib.hid (hI.out.below h1)
              clear h1 hC
              go_wp2_with fail
              go_roundw
              case rel => exact ⟨8, by omega, rfl, T8⟩
              case measure => simp [intOf]
            · have c0 : wr.cell? ⟨wq1.heap.size, 40, none⟩ = some (.int .i64 3) := hI.out.cell _ (List.mem_cons_self ..) rfl
              have c1 : wr.cell? ⟨wq1.heap.size, 41, none⟩ = some (.int .i64 0) := hI.out.cell _ (List.mem_cons_self ..) rfl
              have c2 : wr.cell? ⟨wq1.heap.size, 42, none⟩ = some (.int .i64 0) := hI.out.cell _ (List.mem_cons_self ..) rfl
              have c3 : wr.cell? ⟨wq1.heap.size, 43, none⟩ = some (.int .i64 0) := hI.out.cell _ (List.mem_cons_self ..) rfl
              have c4 : wr.cell? ⟨wq1.heap.size, 44, none⟩ = some (.int .i64 1) := hI.out.cell _ (List.mem_cons_self ..) rfl
              have hC := Lib.hid (kE_b8 wr (hT.out.below hI.out.bl))
              go_wp2_with fail
              refine hC.out.mono ?_
              rintro e w8 ⟨rfl, h1⟩
              have T8 := Lib.hid (hI.out.below h1)
              clear h1 hC
              go_wp2_with fail
              go_roundw
              case rel => exact ⟨9, by omega, rfl, T8⟩
              case measure => simp [intOf]
            · have c0 : wr.cell? ⟨wq1.heap.size, 45, none⟩ = some (.int .i64 3) := hI.out.cell _ (List.mem_cons_self ..) rfl
              have c1 : wr.cell? ⟨wq1.heap.size, 46, none⟩ = some (.int .i64 0) := hI.out.cell _ (List.mem_cons_self ..) rfl
              have c2 : wr.cell? ⟨wq1.heap.size, 47, none⟩ = some (.int .i64 0) := hI.out.cell _ (List.mem_cons_self ..) rfl
              have c3 : wr.cell? ⟨wq1.heap.size, 48, none⟩ = some (.int .i64 16) := hI.out.cell _ (List.mem_cons_self ..) rfl
              have c4 : wr.cell? ⟨wq1.heap.size, 49, none⟩ = some (.int .i64 0) := hI.out.cell _ (List.mem_cons_self ..) rfl
              have hC := Lib.hid (kE_b9 wr (hT.out.below hI.out.bl))
              go_wp2_with fail
              refine hC.out.mono ?_
              rintro e w8 ⟨rfl, h1⟩
              have T8 := Lib.hid (hI.out.below h1)
              clear h1 hC
              go_wp2_with fail
              go_roundw
              case rel => exact ⟨10, by omega, rfl, T8⟩
              case measure => simp [intOf]
            · have c0 : wr.cell? ⟨wq1.heap.size, 50, none⟩ = some (.int .i64 29) := hI.out.cell _ (List.mem_cons_self ..) rfl
              have c1 : wr.cell? ⟨wq1.heap.size, 51, none⟩ = some (.int .i64 0) := hI.out.cell _ (List.mem_cons_self ..) rfl
              have c2 : wr.cell? ⟨wq1.heap.size, 52, none⟩ = some (.int .i64 0) := hI.out.cell _ (List.mem_cons_self ..) rfl
              have c3 : wr.cell? ⟨wq1.heap.size, 53, none⟩ = some (.int .i64 0) := hI.out.cell _ (List.mem_cons_self ..) rfl
              have c4 : wr.cell? ⟨wq1.heap.size, 54, none⟩ = some (.int .i64 524288) := hI.out.cell _ (List.mem_cons_self ..) rfl
              have hC := Lib.hid (kE_b10 wr (hT.out.below hI.out.bl))
              go_wp2_with fail
              refine hC.out.mono ?_
              rintro e w8 ⟨rfl, h1⟩
              have T8 := Lib.hid (hI.out.below h1)
              clear h1 hC
              go_wp2_with fail
              go_roundw
              case rel => exact ⟨11, by omega, rfl, T8⟩
              case measure => simp [intOf]
            · have c0 : wr.cell? ⟨wq1.heap.size, 55, none⟩ = some (.int .i64 29) := hI.out.cell _ (List.mem_cons_self ..) rfl
              have c1 : wr.cell? ⟨wq1.heap.size, 56, none⟩ = some (.int .i64 0) := hI.out.cell _ (List.mem_cons_self ..) rfl
              have c2 : wr.cell? ⟨wq1.heap.size, 57, none⟩ = some (.int .i64 0) := hI.out.cell _ (List.mem_cons_self ..) rfl
              have c3 : wr.cell? ⟨wq1.heap.size, 58, none⟩ = some (.int .i64 0) := hI.out.cell _ (List.mem_cons_self ..) rfl
              have c4 : wr.cell? ⟨wq1.heap.size, 59, none⟩ = some (.int .i64 (-524289)) := hI.out.cell _ (List.mem_cons_self ..) rfl
              have hC := Lib.hid (kE_b11 wr (hT.out.below hI.out.bl))
              go_wp2_with fail
              refine hC.out.mono ?_
              rintro e w8 ⟨rfl, h1⟩
              have T8 := Lib.hid (hI.out.below h1)
              clear h1 hC
              go_wp2_with fail
              go_roundw
              case rel => exact ⟨12, by omega, rfl, T8⟩
              case measure => simp [intOf]
            · have c0 : wr.cell? ⟨wq1.heap.size, 60, none⟩ = some (.int .i64 29) := hI.out.cell _ (List.mem_cons_self ..) rfl
              have c1 : wr.cell? ⟨wq1.heap.size, 61, none⟩ = some (.int .i64 0) := hI.out.cell _ (List.mem_cons_self ..) rfl
              have c2 : wr.cell? ⟨wq1.heap.size, 62, none⟩ = some (.int .i64 1) := hI.out.cell _ (List.mem_cons_self ..) rfl
              have c3 : wr.cell? ⟨wq1.heap.size, 63, none⟩ = some (.int .i64 0) := hI.out.cell _ (List.mem_cons_self ..) rfl
              have c4 : wr.cell? ⟨wq1.heap.size, 64, none⟩ = some (.int .i64 0) := hI.out.cell _ (List.mem_cons_self ..) rfl
              have hC := Lib.hid (kE_b12 wr (hT.out.below hI.out.bl))
              go_wp2_with fail
              refine hC.out.mono ?_
              rintro e w8 ⟨rfl, h1⟩
              have T8 := Lib.hid (hI.out.below h1)
              clear h1 hC
              go_wp2_with fail
              go_roundw
              case rel => exact ⟨13, by omega, rfl, T8⟩
              case measure => simp [intOf]
            · have c0 : wr.cell? ⟨wq1.heap.size, 65, none⟩ = some (.int .i64 31) := hI.out.cell _ (List.mem_cons_self ..) rfl
              have c1 : wr.cell? ⟨wq1.heap.size, 66, none⟩ = some (.int .i64 0) := hI.out.cell _ (List.mem_cons_self ..) rfl
              have c2 : wr.cell? ⟨wq1.heap.size, 67, none⟩ = some (.int .i64 0) := hI.out.cell _ (List.mem_cons_self ..) rfl
              have c3 : wr.cell? ⟨wq1.heap.size, 68, none⟩ = some (.int .i64 1) := hI.out.cell _ (List.mem_cons_self ..) rfl
              have c4 : wr.cell? ⟨wq1.heap.size, 69, none⟩ = some (.int .i64 0) := hI.out.cell _ (List.mem_cons_self ..) rfl
              have hC := Lib.hid (kE_b13 wr (hT.out.below hI.out.bl))
              go_wp2_with fail
              refine hC.out.mono ?_
              rintro e w8 ⟨rfl, h1⟩
              have T8 := Lib.hid (hI.out.below h1)
              clear h1 hC
              go_wp2_with fail
              go_roundw
              case rel => exact ⟨14, by omega, rfl, T8⟩
              case measure => simp [intOf]
            · have c0 : wr.cell? ⟨wq1.heap.size, 70, none⟩ = some (.int .i64 51) := hI.out.cell _ (List.mem_cons_self ..) rfl
              have c1 : wr.cell? ⟨wq1.heap.size, 71, none⟩ = some (.int .i64 1) := hI.out.cell _ (List.mem_cons_self ..) rfl
              have c2 : wr.cell? ⟨wq1.heap.size, 72, none⟩ = some (.int .i64 0) := hI.out.cell _ (List.mem_cons_self ..) rfl
              have c3 : wr.cell? ⟨wq1.heap.size, 73, none⟩ = some (.int .i64 0) := hI.out.cell _ (List.mem_cons_self ..) rfl
              have c4 : wr.cell? ⟨wq1.heap.size, 74, none⟩ = some (.int .i64 0) := hI.out.cell _ (List.mem_cons_self ..) rfl
              have hC := Lib.hid (kE_b14 wr (hT.out.below hI.out.bl))
              go_wp2_with fail
              refine hC.out.mono ?_
              rintro e w8 ⟨rfl, h1⟩
              have T8 := Lib.hid (hI.out.below h1)
              clear h1 hC
              go_wp2_with fail
              go_roundw
              case rel => exact ⟨15, by omega, rfl, T8⟩
              case measure => simp [intOf]
            · have c0 : wr.cell? ⟨wq1.heap.size, 75, none⟩ = some (.int .i64 53) := hI.out.cell _ (List.mem_cons_self ..) rfl
              have c1 : wr.cell? ⟨wq1.heap.size, 76, none⟩ = some (.int .i64 0) := hI.out.cell _ (List.mem_cons_self ..) rfl
              have c2 : wr.cell? ⟨wq1.heap.size, 77, none⟩ = some (.int .i64 0) := hI.out.cell _ (List.mem_cons_self ..) rfl
              have c3 : wr.cell? ⟨wq1.heap.size, 78, none⟩ = some (.int .i64 0) := hI.out.cell _ (List.mem_cons_self ..) rfl
              have c4 : wr.cell? ⟨wq1.heap.size, 79, none⟩ = some (.int .i64 1) := hI.out.cell _ (List.mem_cons_self ..) rfl
              have hC := Lib.hid (kE_b15 wr (hT.out.below hI.out.bl))
              go_wp2_with fail
              refine hC.out.mono ?_
              rintro e w8 ⟨rfl, h1⟩
              have T8 := Lib.hid (hI.out.below h1)
              clear h1 hC
              go_wp2_with fail
              go_roundw
              case rel => exact ⟨16, by omega, rfl, T8⟩
              case measure => simp [intOf]
            · have c0 : wr.cell? ⟨wq1.heap.size, 80, none⟩ = some (.int .i64 52) := hI.out.cell _ (List.mem_cons_self ..) rfl
              have c1 : wr.cell? ⟨wq1.heap.size, 81, none⟩ = some (.int .i64 1) := hI.out.cell _ (List.mem_cons_self ..) rfl
              have c2 : wr.cell? ⟨wq1.heap.size, 82, none⟩ = some (.int .i64 0) := hI.out.cell _ (List.mem_cons_self ..) rfl
              have c3 : wr.cell? ⟨wq1.heap.size, 83, none⟩ = some (.int .i64 0) := hI.out.cell _ (List.mem_cons_self ..) rfl
              have c4 : wr.cell? ⟨wq1.heap.size, 84, none⟩ = some (.int .i64 0) := hI.out.cell _ (List.mem_cons_self ..) rfl
              have hC := Lib.hid (kE_b16 wr (hT.out.below hI.out.bl))
              go_wp2_with fail
              refine hC.out.mono ?_
              rintro e w8 ⟨rfl, h1⟩
              have T8 := Lib.hid (hI.out.below h1)
              clear h1 hC
              go_wp2_with fail
              go_roundw
              case rel => exact ⟨17, by omega, rfl, T8⟩
              case measure => simp [intOf]
            · obtain ⟨wq2, hwq⟩ : ∃ w : World, w = wr := ⟨_, rfl⟩
              rw [← hwq] at hI ⊢
              clear hwq
              have K1 : KR W [⟨wq2.heap.size, [.int .u32 0, .int .u32 19988480, .int .u32 19927040, .int .u32 4294967295, .int .u32 51523585, .int .u32 905969664, .int .u32 855638017]⟩] (wq2.alloc (.cells #[.int .u32 0, .int .u32 19988480, .int .u32 19927040, .int .u32 4294967295, .int .u32 51523585, .int .u32 905969664, .int .u32 855638017] 24)) := (hI.out.sub (L' := []) (fun x hx => by cases hx)).push [.int .u32 0, .int .u32 19988480, .int .u32 19927040, .int .u32 4294967295, .int .u32 51523585, .int .u32 905969664, .int .u32 855638017] 24
              go_wp2_with fail
              generalize (wq2.alloc (.cells #[.int .u32 0, .int .u32 19988480, .int .u32 19927040, .int .u32 4294967295, .int .u32 51523585, .int .u32 905969664, .int .u32 855638017] 24)) = w2 at *
              replace K1 := Lib.hid K1
              go_loopw [95] (fun i wr => ∃ j : Nat, j ≤ 7 ∧ i = .int .i64 j ∧ Hid (KR W [⟨wq2.heap.size, [.int .u32 0, .int .u32 19988480, .int .u32 19927040, .int .u32 4294967295, .int .u32 51523585, .int .u32 905969664, .int .u32 855638017]⟩] wr)) (fun i _ => 7 - (intOf i).toNat)
              case atStart => exact ⟨0, by omega, rfl, K1⟩
              case round =>
                obtain ⟨j, hj, rfl, hI⟩ := hrel
                have hj' : j = 0 ∨ j = 1 ∨ j = 2 ∨ j = 3 ∨ j = 4 ∨ j = 5 ∨ j = 6 ∨ j = 7 := by omega
                clear hj K1
                rcases hj' with rfl | rfl | rfl | rfl | rfl | rfl | rfl | rfl
                · have c0 : wr.cell? ⟨wq2.heap.size, 0, none⟩ = some (.int .u32 0) := hI.out.cell _ (List.mem_cons_self ..) rfl
                  have hC := Lib.hid (kD_0 wr (hT.out.below hI.out.bl))
                  go_wp2_with fail
                  refine hC.out.mono ?_
                  rintro e w8 ⟨rfl, h1⟩
                  have T8 := Lib.hid (hI.out.below h1)
                  clear h1 hC
                  go_wp2_with fail
                  go_roundw
                  case rel => exact ⟨1, by omega, rfl, T8⟩
                  case measure => simp [intOf]
                · have c0 : wr.cell? ⟨wq2.heap.size, 1, none⟩ = some (.int .u32 19988480) := hI.out.cell _ (List.mem_cons_self ..) rfl
                  have hC := Lib.hid (kD_1 wr (hT.out.below hI.out.bl))
                  go_wp2_with fail
                  refine hC.out.mono ?_
                  rintro e w8 ⟨rfl, h1⟩
                  have T8 := Lib.hid (hI.out.below h1)
                  clear h1 hC
                  go_wp2_with fail
                  go_roundw
                  case rel => exact ⟨2, by omega, rfl, T8⟩
                  case measure => simp [intOf]
                · have c0 : wr.cell? ⟨wq2.heap.size, 2, none⟩ = some (.int .u32 19927040) := hI.out.cell _ (List.mem_cons_self ..) rfl
                  have hC := Lib.hid (kD_2 wr (hT.out.below hI.out.bl))
                  go_wp2_with fail
                  refine hC.out.mono ?_
                  rintro e w8 ⟨rfl, h1⟩
                  have T8 := Lib.hid (hI.out.below h1)
                  clear h1 hC
                  go_wp2_with fail
                  go_roundw
                  case rel => exact ⟨3, by omega, rfl, T8⟩
                  case measure => simp [intOf]
                · have c0 : wr.cell? ⟨wq2.heap.size, 3, none⟩ = some (.int .u32 4294967295) := hI.out.cell _ (List.mem_cons_self ..) rfl
                  have hC := Lib.hid (kD_3 wr (hT.out.below hI.out.bl))
                  go_wp2_with fail
                  refine hC.out.mono ?_
                  rintro e w8 ⟨rfl, h1⟩
                  have T8 := Lib.hid (hI.out.below h1)
                  clear h1 hC
                  go_wp2_with fail
                  go_roundw
                  case rel => exact ⟨4, by omega, rfl, T8⟩
                  case measure => simp [intOf]
                · have c0 : wr.cell? ⟨wq2.heap.size, 4, none⟩ = some (.int .u32 51523585) := hI.out.cell _ (List.mem_cons_self ..) rfl
                  have hC := Lib.hid (kD_4 wr (hT.out.below hI.out.bl))
                  go_wp2_with fail
                  refine hC.out.mono ?_
                  rintro e w8 ⟨rfl, h1⟩
                  have T8 := Lib.hid (hI.out.below h1)
                  clear h1 hC
                  go_wp2_with fail
                  go_roundw
                  case rel => exact ⟨5, by omega, rfl, T8⟩
                  case measure => simp [intOf]
                · have c0 : wr.cell? ⟨wq2.heap.size, 5, none⟩ = some (.int .u32 905969664) := hI.out.cell _ (List.mem_cons_self ..) rfl
                  have hC := Lib.hid (kD_5 wr (hT.out.below hI.out.bl))
                  go_wp2_with fail
                  refine hC.out.mono ?_
                  rintro e w8 ⟨rfl, h1⟩
                  have T8 := Lib.hid (hI.out.below h1)
                  clear h1 hC
                  go_wp2_with fail
                  go_roundw
                  case rel => exact ⟨6, by omega, rfl, T8⟩
                  case measure => simp [intOf]
                · have c0 : wr.cell? ⟨wq2.heap.size, 6, none⟩ = some (.int .u32 855638017) := hI.out.cell _ (List.mem_cons_self ..) rfl
                  have hC := Lib.hid (kD_6 wr (hT.out.below hI.out.bl))
                  go_wp2_with fail
                  refine hC.out.mono ?_
                  rintro e w8 ⟨rfl, h1⟩
                  have T8 := Lib.hid (hI.out.below h1)
                  clear h1 hC
                  go_wp2_with fail
                  go_roundw
                  case rel => exact ⟨7, by omega, rfl, T8⟩
                  case measure => simp [intOf]
                · have hTz := Lib.hid (hT.out.below hI.out.bl)
                  have hb := Lib.hid hI.out.bl
                  clear hI
                  go_wp2_with fail
                  refine (kF 30 [97, 98] rfl wr hTz.out).mono ?_
                  rintro e w9 ⟨rfl, rfl⟩
                  go_wp2_with fail
                  refine (kF 52 [105] rfl wr hTz.out).mono ?_
                  rintro e w9 ⟨rfl, rfl⟩
                  go_wp2_with fail
                  refine (kF 51 [] rfl wr hTz.out).mono ?_
                  rintro e w9 ⟨rfl, rfl⟩
                  go_wp2_with fail
                  refine (kF 19 [97, 98, 105] rfl wr hTz.out).mono ?_
                  rintro e w9 ⟨rfl, rfl⟩
                  go_wp2_with fail
                  refine (kF 1 [97, 105] rfl wr hTz.out).mono ?_
                  rintro e w9 ⟨rfl, rfl⟩
                  go_wp2_with fail
                  refine (kF 50 [97, 98] rfl wr hTz.out).mono ?_
                  rintro e w9 ⟨rfl, rfl⟩
                  go_wp2_with fail
                  refine (kF 49 [97, 106] rfl wr hTz.out).mono ?_
                  rintro e w9 ⟨rfl, rfl⟩
                  go_wp2_with fail
                  refine (kO [116, 114, 97, 112] 53 (by decide) wr hTz.out).mono ?_
                  rintro e w9 ⟨rfl, rfl⟩
                  go_wp2_with fail
                  refine (kO [84, 114, 97, 112] 0 (by decide) wr hTz.out).mono ?_
                  rintro e w9 ⟨rfl, rfl⟩
                  go_wp2_with fail
                  refine (kO [] 0 (by decide) wr hTz.out).mono ?_
                  rintro e w9 ⟨rfl, rfl⟩
                  go_wp2_with fail
                  refine (kO [98, 97, 100] 0 (by decide) wr hTz.out).mono ?_
                  rintro e w9 ⟨rfl, rfl⟩
                  go_wp2_with fail
                  refine (kF 3 [97, 98, 99] rfl wr hTz.out).mono ?_
                  rintro e w9 ⟨rfl, rfl⟩
                  go_wp2_with fail
                  refine (kF 2 [97, 106] rfl wr hTz.out).mono ?_
                  rintro e w9 ⟨rfl, rfl⟩
                  go_wp2_with fail
                  refine (kF 0 [] rfl wr hTz.out).mono ?_
                  rintro e w9 ⟨rfl, rfl⟩
                  go_wp2_with fail
                  refine (kF 54 [] rfl wr hTz.out).mono ?_
                  rintro e w9 ⟨rfl, rfl⟩
                  go_wp2_with fail
                  refine (kN 0 [] rfl wr hTz.out).mono ?_
                  rintro e w9 ⟨rfl, rfl⟩
                  go_wp2_with fail
                  refine (kN (-1) [] rfl wr hTz.out).mono ?_
                  rintro e w9 ⟨rfl, rfl⟩
                  go_wp2_with fail
                  refine (kN 4611686018427387904 [] (nameAt_out (by decide)) wr hTz.out).mono ?_
                  rintro e w9 ⟨rfl, rfl⟩
                  go_wp2_with fail
                  refine (iworks_any _ hTz.out).mono ?_
                  rintro e w9 ⟨rfl, h9⟩
                  have h9 := Lib.hid (hb.out.trans (h9.mono hb.out.size))
                  go_wp2_with fail
                  go_ret
                  exact ⟨rfl, h9.out⟩
set_option maxRecDepth 100000 in
theorem lifted (os : Os) (started : os.Started) (H : Type) (enc : TypeId × Value → H) :
    ReturnsInHanded {} Tryd.checked os 9 .any (fun w args => (Rows.isaKnownSpec.pre enc Tryd.prog Tryd.f9 [] false w args ∧ laidMetH Tryd.prog Rows.isaKnownRow.laid w) ∧ sizedMet enc Tryd.prog Tryd.f9 (OpenSpec.ofChange Rows.isaKnownSpec) false w args) (Rows.isaKnownSpec.post enc Tryd.prog Tryd.f9 false true false false) := by
  refine returnsInHanded_of_change_and (C := Tryd.checked) (X := fun w _ => laidMetH Tryd.prog Rows.isaKnownRow.laid w) (fun _ _ _ hh h => h.of_heap hh) own started (by kernel_rfl) Tryd.func9
    (ChangeSpec.witness_at (enc := enc) (C := Tryd.checked) (os := os) (X := fun w _ => laidMetH Tryd.prog Rows.isaKnownRow.laid w) false (laidWorld os) #[] 8 rfl (by kernel_rfl) (by kernel_rfl) (by kernel_rfl) (by kernel_rfl) (by kernel_rfl) (laid_met os _)) ?_
  intro W base args ds gs before hval0 hW _ _ hL _
  have hval : ∀ (j : Nat) t v, Tryd.f9.params[j]? = some t → args[j]? = some v → Value.okWide Tryd.prog W .any base t v := hval0
  have hW' := hW
  obtain ⟨p, q, hA0, hV, rfl, hfz, hnd⟩ := hW
  have hA : DataW.TrodAll enc Tryd.prog W 0 (fun _ => true) true Tryd.f9.params.toList args.toList ds p := hA0
  rw [Tryd.params9] at hA hval
  obtain ⟨rfl, rfl, rfl⟩ := trodAll_none hA
  obtain ⟨rfl, rfl⟩ := trodVars_none hV
  clear hA0 hval0
  refine (walk  W (tabs_of_laid hL)).mono fun e W' ⟨he, bel⟩ => ?_
  subst he
  exact ⟨_, rfl, _, _, _, [], _, [], hW', trodAll_mk1 (shut_bool Tryd.underlying4 _), trodAll_mk0, rfl, bel.frame _, fun h => by cases h⟩
theorem over : Rows.IsaKnownSaid :=
  OpenClaim.holds_of_wide 9 Tryd.f9 rfl rfl rfl rfl rfl rfl rfl ⟨rfl, rfl, rfl, rfl, rfl⟩ rfl rfl rfl rfl rfl (by kernel_rfl) Tryd.func9 (by kernel_rfl)
    (of_decide_eq_true (by kernel_rfl)) (by unfold Func.isWrapper; first | (rw [if_pos (by decide +kernel)]; kernel_rfl) | (rw [if_neg (by decide +kernel)]; exact ⟨rfl, rfl⟩))
    (fun os started H enc _ => lifted os started H enc)
/-- The given statement. -/
theorem proved : Rows.IsaKnownCardSaid :=
  Claim7.holds_tied_plain_at .later [] [.data, .data] true (true, "450f401a4c4e925ae382747976bb556dbd206c48d08eb915d92392bd75249c1c") false
    over (fun _ h => by cases h) (by kernel_rfl) (fun _ h => by cases h) isaKnown_row_tie rfl ⟨rfl, rfl⟩ (by kernel_rfl) rfl
    (fun f fn hf hfn => by
      obtain rfl : f = 9 := Option.some.inj ((show Tryd.prog.funcNamed "fallow/fallowlaw07.IsaKnown" = some 9 by kernel_rfl).symm.trans hf) |>.symm
      obtain rfl : fn = Tryd.f9 := (Option.some.inj (Tryd.func9.symm.trans hfn)).symm
      exact ⟨by kernel_rfl, fun j t ht => by
        rw [Tryd.params9] at ht
        simp at ht⟩)
    (by kernel_rfl)
end Go.Proofs.YtmgjnkejdofcjaaDoor.iknown
