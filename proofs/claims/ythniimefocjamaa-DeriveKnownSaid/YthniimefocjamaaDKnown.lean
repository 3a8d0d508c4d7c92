/- Proved: the chapter's examples of derive (DeriveKnown). Closed: no input, no condition. -/
import Derived.Test.YthniimefocjamaaRows
import Derived.Test.YthniimefocjamaaDKc
import Derived.Test.YthniimefocjamaaFlat
import Derived.ProofKit
import Derived.OpenShut
import Derived.ShutString
import Derived.ChangeOld
namespace Go.Proofs.Ythniimefocjamaa.dknown
open Go.ChangeShapes Go.WideShapes Go.ChangeAt Go.RowKit
open Go.ChangeMaps (open_string shut_string)
set_option linter.unusedVariables false

theorem dkEq_4096_1_2048_0_255_0_0_1 (w : World) : (Op.equalIn 10000 25 (.agg #[.int .u32 4096, .int .u8 1, .int .u16 2048, .int .u16 0, .int .u16 255, .int .u16 0, .int .u32 0, .bool true]) (.agg #[.int .u32 4096, .int .u8 1, .int .u16 2048, .int .u16 0, .int .u16 255, .int .u16 0, .int .u32 0, .bool true])).run Try.prog w = .ok true w := (cap_eq 4096 1 2048 0 255 0 0 true 4096 1 2048 0 255 0 0 true w).trans (by simp)
theorem dkEq_4096_0_0_100_255_0_0_1 (w : World) : (Op.equalIn 10000 25 (.agg #[.int .u32 4096, .int .u8 0, .int .u16 0, .int .u16 100, .int .u16 255, .int .u16 0, .int .u32 0, .bool true]) (.agg #[.int .u32 4096, .int .u8 0, .int .u16 0, .int .u16 100, .int .u16 255, .int .u16 0, .int .u32 0, .bool true])).run Try.prog w = .ok true w := (cap_eq 4096 0 0 100 255 0 0 true 4096 0 0 100 255 0 0 true w).trans (by simp)
theorem dkEq_6_0_0_0_0_0_0_0 (w : World) : (Op.equalIn 10000 25 (.agg #[.int .u32 6, .int .u8 0, .int .u16 0, .int .u16 0, .int .u16 0, .int .u16 0, .int .u32 0, .bool false]) (.agg #[.int .u32 6, .int .u8 0, .int .u16 0, .int .u16 0, .int .u16 0, .int .u16 0, .int .u32 0, .bool false])).run Try.prog w = .ok true w := (cap_eq 6 0 0 0 0 0 0 false 6 0 0 0 0 0 0 false w).trans (by simp)

set_option maxRecDepth 100000 in
set_option maxHeartbeats 40000000 in
theorem walk (W : World) : Calls Try.prog 15 #[] W fun e w' => e = .returned (.bool true) ∧ Below W.heap.size W w' := by
  have hk0 := Lib.hid (KR.start (W := W))
  have hfld : ∀ (x0 x1 x2 x3 x4 x5 x6 : Int) (b : Bool) (w : World), (Instr.field 25 (.agg #[.int .u32 x0, .int .u8 x1, .int .u16 x2, .int .u16 x3, .int .u16 x4, .int .u16 x5, .int .u32 x6, .bool b]) 7).run Try.prog w = .ok (.bool b) w := fun _ _ _ _ _ _ _ _ w => by kernel_rfl
  go_enter Try.func15, Try.ntmps15
  go_wp2_with fail
  refine (whole_any _).mono ?_
  rintro ee w1 ⟨rfl, h1⟩
  have hk1 := Lib.hid (hk0.out.below h1)
  clear h1 hk0
  have hk2 : KR W _ (w1.alloc (.cells #[.int .u32 4096, .int .u8 1, .int .u16 2048, .int .u16 0, .int .u16 255, .int .u16 0, .int .u32 0, .bool true] 25)) := hk1.out.push (cv 4096 1 2048 0 255 0 0 true) 25
  replace hk2 := Lib.hid hk2
  clear hk1
  go_upto_region 2 with (fail)
  generalize w1.alloc (.cells #[.int .u32 4096, .int .u8 1, .int .u16 2048, .int .u16 0, .int .u16 255, .int .u16 0, .int .u32 0, .bool true] 25) = v2 at *
  generalize w1.heap.size = b1 at *
  go_wp2_with fail
  refine (dkMake _).mono ?_
  rintro ee w3 ⟨rfl, h1⟩
  have hk3 := Lib.hid (hk2.out.below h1)
  clear h1 hk2
  have hb2 : W.heap.size ≤ w3.heap.size := hk3.out.bl.size
  have hb12 : b1 < w3.heap.size := hk3.out.lt (List.mem_cons_self ..)
  have hk4 : KR W _ (w3.alloc (.cells #[.int .u32 0, .int .u8 0, .int .u16 0, .int .u16 100, .int .u16 96, .int .u16 0, .int .u32 0, .bool true] 25)) := hk3.out.push (cv 0 0 0 100 96 0 0 true) 25
  replace hk4 := Lib.hid hk4
  clear hk3
  go_upto_region 3 with (fail)
  generalize w3.alloc (.cells #[.int .u32 0, .int .u8 0, .int .u16 0, .int .u16 100, .int .u16 96, .int .u16 0, .int .u32 0, .bool true] 25) = v4 at *
  generalize w3.heap.size = b2 at *
  obtain ⟨pu0, pu1, pu2, pu3, pu4, pu5, pu6, pu7⟩ : CapAt v4 b2 0 0 0 100 96 0 0 true := hk4.out.cap (List.mem_cons_self ..)
  go_wp2_with fail
  refine (dk0 _).mono ?_
  rintro ee w5 ⟨rfl, h1⟩
  have hk5 := Lib.hid (hk4.out.below h1)
  clear h1 hk4 pu0 pu1 pu2 pu3 pu4 pu5 pu6 pu7
  obtain ⟨r0, r1, r2, r3, r4, r5, r6, r7⟩ : CapAt w5 b2 0 0 0 100 96 0 0 true := hk5.out.cap (List.mem_cons_self ..)
  have fr := hk5.out.soft (List.mem_cons_self ..)
  have hkq := Lib.hid (hk5.out.whole (cv 7 0 0 100 96 0 0 true) hb2 (by simp; omega) rfl)
  clear hk5 hb2 hb12
  go_upto_region 4 with (fail)
  change Code.wp _ _ _ _ (setRow b2 0 (cv 7 0 0 100 96 0 0 true) w5)
  clear r0 r1 r2 r3 r4 r5 r6 r7 fr
  generalize setRow b2 0 (cv 7 0 0 100 96 0 0 true) w5 = vq at *
  obtain ⟨pu0, pu1, pu2, pu3, pu4, pu5, pu6, pu7⟩ : CapAt vq b2 7 0 0 100 96 0 0 true := hkq.out.cap (List.mem_cons_self ..)
  go_upto_region 6 with (fail)
  clear pu0 pu1 pu2 pu3 pu4 pu5 pu6 pu7
  have hk6 : KR W _ (vq.alloc (.cells #[.int .u32 9000, .int .u32 3072, .int .u32 8192, .int .u32 100000, .int .u32 0] 22)) := hkq.out.push ([.int .u32 9000, .int .u32 3072, .int .u32 8192, .int .u32 100000, .int .u32 0]) 22
  replace hk6 := Lib.hid hk6
  clear hkq
  go_wp2_with fail
  generalize vq.alloc (.cells #[.int .u32 9000, .int .u32 3072, .int .u32 8192, .int .u32 100000, .int .u32 0] 22) = v6 at *
  generalize vq.heap.size = b3 at *
  go_loopw [42] (fun i wr => ∃ j : Nat, j ≤ 5 ∧ i = .int .i64 j ∧ KR W [⟨b3, [.int .u32 9000, .int .u32 3072, .int .u32 8192, .int .u32 100000, .int .u32 0]⟩, ⟨b2, cv 7 0 0 100 96 0 0 true⟩, ⟨b1, cv 4096 1 2048 0 255 0 0 true⟩] wr) (fun i _ => 5 - (intOf i).toNat)
  case atStart => exact ⟨0, by omega, rfl, hk6.out⟩
  case round =>
    obtain ⟨j, hj, rfl, hK⟩ := hrel
    clear hk6
    have : j = 0 ∨ j = 1 ∨ j = 2 ∨ j = 3 ∨ j = 4 ∨ j = 5 := by omega
    rcases this with rfl | rfl | rfl | rfl | rfl | rfl
    · replace hK := Lib.hid hK
      have s0 : wr.cell? ⟨b3, 0, none⟩ = some (.int .u32 9000) := hK.out.cell [.int .u32 9000, .int .u32 3072, .int .u32 8192, .int .u32 100000, .int .u32 0] (List.mem_cons_self ..) rfl
      have s1 : wr.cell? ⟨b3, 1, none⟩ = some (.int .u32 3072) := hK.out.cell [.int .u32 9000, .int .u32 3072, .int .u32 8192, .int .u32 100000, .int .u32 0] (List.mem_cons_self ..) rfl
      have s2 : wr.cell? ⟨b3, 2, none⟩ = some (.int .u32 8192) := hK.out.cell [.int .u32 9000, .int .u32 3072, .int .u32 8192, .int .u32 100000, .int .u32 0] (List.mem_cons_self ..) rfl
      have s3 : wr.cell? ⟨b3, 3, none⟩ = some (.int .u32 100000) := hK.out.cell [.int .u32 9000, .int .u32 3072, .int .u32 8192, .int .u32 100000, .int .u32 0] (List.mem_cons_self ..) rfl
      have s4 : wr.cell? ⟨b3, 4, none⟩ = some (.int .u32 0) := hK.out.cell [.int .u32 9000, .int .u32 3072, .int .u32 8192, .int .u32 100000, .int .u32 0] (List.mem_cons_self ..) rfl
      obtain ⟨pc0, pc1, pc2, pc3, pc4, pc5, pc6, pc7⟩ : CapAt wr b1 4096 1 2048 0 255 0 0 true := hK.out.cap (List.mem_cons_of_mem _ (List.mem_cons_of_mem _ (List.mem_cons_self ..)))
      go_wp2_with fail
      refine (dk1 _).mono ?_
      rintro ee w7 ⟨rfl, h1⟩
      have hk7 := Lib.hid (hK.out.below h1)
      clear h1 hK pc0 pc1 pc2 pc3 pc4 pc5 pc6 pc7
      clear s0 s1 s2 s3 s4
      have hk8 : KR W _ (w7.alloc (.cells #[.int .u32 9000, .int .u8 1, .int .u16 2048, .int .u16 0, .int .u16 255, .int .u16 0, .int .u32 0, .bool true] 25)) := hk7.out.push (cv 9000 1 2048 0 255 0 0 true) 25
      replace hk8 := Lib.hid hk8
      clear hk7
      go_upto_region 10 with (fail)
      generalize w7.alloc (.cells #[.int .u32 9000, .int .u8 1, .int .u16 2048, .int .u16 0, .int .u16 255, .int .u16 0, .int .u32 0, .bool true] 25) = v8 at *
      generalize w7.heap.size = b4 at *
      obtain ⟨pa0, pa1, pa2, pa3, pa4, pa5, pa6, pa7⟩ : CapAt v8 b4 9000 1 2048 0 255 0 0 true := hk8.out.cap (List.mem_cons_self ..)
      go_wp2_with fail
      refine (dk2 _).mono ?_
      rintro ee w9 ⟨rfl, h1⟩
      have hk9 := Lib.hid (hk8.out.below h1)
      clear h1 hk8 pa0 pa1 pa2 pa3 pa4 pa5 pa6 pa7
      obtain ⟨pa0, pa1, pa2, pa3, pa4, pa5, pa6, pa7⟩ : CapAt w9 b4 9000 1 2048 0 255 0 0 true := hk9.out.cap (List.mem_cons_self ..)
      go_wp2_with fail
      have hr := Lib.hid (hk9.out.sub (L' := [⟨b3, [.int .u32 9000, .int .u32 3072, .int .u32 8192, .int .u32 100000, .int .u32 0]⟩, ⟨b2, cv 7 0 0 100 96 0 0 true⟩, ⟨b1, cv 4096 1 2048 0 255 0 0 true⟩]) (fun x hx => List.mem_cons_of_mem _ hx))
      go_roundw
      case rel => exact ⟨0 + 1, by omega, rfl, hr.out⟩
      case measure => simp [intOf]
    · replace hK := Lib.hid hK
      have s0 : wr.cell? ⟨b3, 0, none⟩ = some (.int .u32 9000) := hK.out.cell [.int .u32 9000, .int .u32 3072, .int .u32 8192, .int .u32 100000, .int .u32 0] (List.mem_cons_self ..) rfl
      have s1 : wr.cell? ⟨b3, 1, none⟩ = some (.int .u32 3072) := hK.out.cell [.int .u32 9000, .int .u32 3072, .int .u32 8192, .int .u32 100000, .int .u32 0] (List.mem_cons_self ..) rfl
      have s2 : wr.cell? ⟨b3, 2, none⟩ = some (.int .u32 8192) := hK.out.cell [.int .u32 9000, .int .u32 3072, .int .u32 8192, .int .u32 100000, .int .u32 0] (List.mem_cons_self ..) rfl
      have s3 : wr.cell? ⟨b3, 3, none⟩ = some (.int .u32 100000) := hK.out.cell [.int .u32 9000, .int .u32 3072, .int .u32 8192, .int .u32 100000, .int .u32 0] (List.mem_cons_self ..) rfl
      have s4 : wr.cell? ⟨b3, 4, none⟩ = some (.int .u32 0) := hK.out.cell [.int .u32 9000, .int .u32 3072, .int .u32 8192, .int .u32 100000, .int .u32 0] (List.mem_cons_self ..) rfl
      obtain ⟨pc0, pc1, pc2, pc3, pc4, pc5, pc6, pc7⟩ : CapAt wr b1 4096 1 2048 0 255 0 0 true := hK.out.cap (List.mem_cons_of_mem _ (List.mem_cons_of_mem _ (List.mem_cons_self ..)))
      go_wp2_with fail
      refine (dk3 _).mono ?_
      rintro ee w10 ⟨rfl, h1⟩
      have hk10 := Lib.hid (hK.out.below h1)
      clear h1 hK pc0 pc1 pc2 pc3 pc4 pc5 pc6 pc7
      clear s0 s1 s2 s3 s4
      have hk11 : KR W _ (w10.alloc (.cells #[.int .u32 3072, .int .u8 1, .int .u16 2048, .int .u16 0, .int .u16 255, .int .u16 0, .int .u32 0, .bool true] 25)) := hk10.out.push (cv 3072 1 2048 0 255 0 0 true) 25
      replace hk11 := Lib.hid hk11
      clear hk10
      go_upto_region 10 with (fail)
      generalize w10.alloc (.cells #[.int .u32 3072, .int .u8 1, .int .u16 2048, .int .u16 0, .int .u16 255, .int .u16 0, .int .u32 0, .bool true] 25) = v11 at *
      generalize w10.heap.size = b4 at *
      obtain ⟨pa0, pa1, pa2, pa3, pa4, pa5, pa6, pa7⟩ : CapAt v11 b4 3072 1 2048 0 255 0 0 true := hk11.out.cap (List.mem_cons_self ..)
      go_wp2_with fail
      refine (dk4 _).mono ?_
      rintro ee w12 ⟨rfl, h1⟩
      have hk12 := Lib.hid (hk11.out.below h1)
      clear h1 hk11 pa0 pa1 pa2 pa3 pa4 pa5 pa6 pa7
      obtain ⟨pa0, pa1, pa2, pa3, pa4, pa5, pa6, pa7⟩ : CapAt w12 b4 3072 1 2048 0 255 0 0 true := hk12.out.cap (List.mem_cons_self ..)
      go_wp2_with fail
      have hr := Lib.hid (hk12.out.sub (L' := [⟨b3, [.int .u32 9000, .int .u32 3072, .int .u32 8192, .int .u32 100000, .int .u32 0]⟩, ⟨b2, cv 7 0 0 100 96 0 0 true⟩, ⟨b1, cv 4096 1 2048 0 255 0 0 true⟩]) (fun x hx => List.mem_cons_of_mem _ hx))
      go_roundw
      case rel => exact ⟨1 + 1, by omega, rfl, hr.out⟩
      case measure => simp [intOf]
    · replace hK := Lib.hid hK
      have s0 : wr.cell? ⟨b3, 0, none⟩ = some (.int .u32 9000) := hK.out.cell [.int .u32 9000, .int .u32 3072, .int .u32 8192, .int .u32 100000, .int .u32 0] (List.mem_cons_self ..) rfl
      have s1 : wr.cell? ⟨b3, 1, none⟩ = some (.int .u32 3072) := hK.out.cell [.int .u32 9000, .int .u32 3072, .int .u32 8192, .int .u32 100000, .int .u32 0] (List.mem_cons_self ..) rfl
      have s2 : wr.cell? ⟨b3, 2, none⟩ = some (.int .u32 8192) := hK.out.cell [.int .u32 9000, .int .u32 3072, .int .u32 8192, .int .u32 100000, .int .u32 0] (List.mem_cons_self ..) rfl
      have s3 : wr.cell? ⟨b3, 3, none⟩ = some (.int .u32 100000) := hK.out.cell [.int .u32 9000, .int .u32 3072, .int .u32 8192, .int .u32 100000, .int .u32 0] (List.mem_cons_self ..) rfl
      have s4 : wr.cell? ⟨b3, 4, none⟩ = some (.int .u32 0) := hK.out.cell [.int .u32 9000, .int .u32 3072, .int .u32 8192, .int .u32 100000, .int .u32 0] (List.mem_cons_self ..) rfl
      obtain ⟨pc0, pc1, pc2, pc3, pc4, pc5, pc6, pc7⟩ : CapAt wr b1 4096 1 2048 0 255 0 0 true := hK.out.cap (List.mem_cons_of_mem _ (List.mem_cons_of_mem _ (List.mem_cons_self ..)))
      go_wp2_with fail
      refine (dk5 _).mono ?_
      rintro ee w13 ⟨rfl, h1⟩
      have hk13 := Lib.hid (hK.out.below h1)
      clear h1 hK pc0 pc1 pc2 pc3 pc4 pc5 pc6 pc7
      clear s0 s1 s2 s3 s4
      have hk14 : KR W _ (w13.alloc (.cells #[.int .u32 8192, .int .u8 1, .int .u16 2048, .int .u16 0, .int .u16 255, .int .u16 0, .int .u32 0, .bool true] 25)) := hk13.out.push (cv 8192 1 2048 0 255 0 0 true) 25
      replace hk14 := Lib.hid hk14
      clear hk13
      go_upto_region 10 with (fail)
      generalize w13.alloc (.cells #[.int .u32 8192, .int .u8 1, .int .u16 2048, .int .u16 0, .int .u16 255, .int .u16 0, .int .u32 0, .bool true] 25) = v14 at *
      generalize w13.heap.size = b4 at *
      obtain ⟨pa0, pa1, pa2, pa3, pa4, pa5, pa6, pa7⟩ : CapAt v14 b4 8192 1 2048 0 255 0 0 true := hk14.out.cap (List.mem_cons_self ..)
      go_wp2_with fail
      refine (dk6 _).mono ?_
      rintro ee w15 ⟨rfl, h1⟩
      have hk15 := Lib.hid (hk14.out.below h1)
      clear h1 hk14 pa0 pa1 pa2 pa3 pa4 pa5 pa6 pa7
      obtain ⟨pa0, pa1, pa2, pa3, pa4, pa5, pa6, pa7⟩ : CapAt w15 b4 8192 1 2048 0 255 0 0 true := hk15.out.cap (List.mem_cons_self ..)
      go_wp2_with fail
      have hr := Lib.hid (hk15.out.sub (L' := [⟨b3, [.int .u32 9000, .int .u32 3072, .int .u32 8192, .int .u32 100000, .int .u32 0]⟩, ⟨b2, cv 7 0 0 100 96 0 0 true⟩, ⟨b1, cv 4096 1 2048 0 255 0 0 true⟩]) (fun x hx => List.mem_cons_of_mem _ hx))
      go_roundw
      case rel => exact ⟨2 + 1, by omega, rfl, hr.out⟩
      case measure => simp [intOf]
    · replace hK := Lib.hid hK
      have s0 : wr.cell? ⟨b3, 0, none⟩ = some (.int .u32 9000) := hK.out.cell [.int .u32 9000, .int .u32 3072, .int .u32 8192, .int .u32 100000, .int .u32 0] (List.mem_cons_self ..) rfl
      have s1 : wr.cell? ⟨b3, 1, none⟩ = some (.int .u32 3072) := hK.out.cell [.int .u32 9000, .int .u32 3072, .int .u32 8192, .int .u32 100000, .int .u32 0] (List.mem_cons_self ..) rfl
      have s2 : wr.cell? ⟨b3, 2, none⟩ = some (.int .u32 8192) := hK.out.cell [.int .u32 9000, .int .u32 3072, .int .u32 8192, .int .u32 100000, .int .u32 0] (List.mem_cons_self ..) rfl
      have s3 : wr.cell? ⟨b3, 3, none⟩ = some (.int .u32 100000) := hK.out.cell [.int .u32 9000, .int .u32 3072, .int .u32 8192, .int .u32 100000, .int .u32 0] (List.mem_cons_self ..) rfl
      have s4 : wr.cell? ⟨b3, 4, none⟩ = some (.int .u32 0) := hK.out.cell [.int .u32 9000, .int .u32 3072, .int .u32 8192, .int .u32 100000, .int .u32 0] (List.mem_cons_self ..) rfl
      obtain ⟨pc0, pc1, pc2, pc3, pc4, pc5, pc6, pc7⟩ : CapAt wr b1 4096 1 2048 0 255 0 0 true := hK.out.cap (List.mem_cons_of_mem _ (List.mem_cons_of_mem _ (List.mem_cons_self ..)))
      go_wp2_with fail
      refine (dk7 _).mono ?_
      rintro ee w16 ⟨rfl, h1⟩
      have hk16 := Lib.hid (hK.out.below h1)
      clear h1 hK pc0 pc1 pc2 pc3 pc4 pc5 pc6 pc7
      clear s0 s1 s2 s3 s4
      have hk17 : KR W _ (w16.alloc (.cells #[.int .u32 100000, .int .u8 1, .int .u16 2048, .int .u16 0, .int .u16 255, .int .u16 0, .int .u32 0, .bool false] 25)) := hk16.out.push (cv 100000 1 2048 0 255 0 0 false) 25
      replace hk17 := Lib.hid hk17
      clear hk16
      go_upto_region 10 with (fail)
      generalize w16.alloc (.cells #[.int .u32 100000, .int .u8 1, .int .u16 2048, .int .u16 0, .int .u16 255, .int .u16 0, .int .u32 0, .bool false] 25) = v17 at *
      generalize w16.heap.size = b4 at *
      obtain ⟨pa0, pa1, pa2, pa3, pa4, pa5, pa6, pa7⟩ : CapAt v17 b4 100000 1 2048 0 255 0 0 false := hk17.out.cap (List.mem_cons_self ..)
      go_wp2_with fail
      refine (dk8 _).mono ?_
      rintro ee w18 ⟨rfl, h1⟩
      have hk18 := Lib.hid (hk17.out.below h1)
      clear h1 hk17 pa0 pa1 pa2 pa3 pa4 pa5 pa6 pa7
      obtain ⟨pa0, pa1, pa2, pa3, pa4, pa5, pa6, pa7⟩ : CapAt w18 b4 100000 1 2048 0 255 0 0 false := hk18.out.cap (List.mem_cons_self ..)
      go_wp2_with fail
      have hr := Lib.hid (hk18.out.sub (L' := [⟨b3, [.int .u32 9000, .int .u32 3072, .int .u32 8192, .int .u32 100000, .int .u32 0]⟩, ⟨b2, cv 7 0 0 100 96 0 0 true⟩, ⟨b1, cv 4096 1 2048 0 255 0 0 true⟩]) (fun x hx => List.mem_cons_of_mem _ hx))
      go_roundw
      case rel => exact ⟨3 + 1, by omega, rfl, hr.out⟩
      case measure => simp [intOf]
    · replace hK := Lib.hid hK
      have s0 : wr.cell? ⟨b3, 0, none⟩ = some (.int .u32 9000) := hK.out.cell [.int .u32 9000, .int .u32 3072, .int .u32 8192, .int .u32 100000, .int .u32 0] (List.mem_cons_self ..) rfl
      have s1 : wr.cell? ⟨b3, 1, none⟩ = some (.int .u32 3072) := hK.out.cell [.int .u32 9000, .int .u32 3072, .int .u32 8192, .int .u32 100000, .int .u32 0] (List.mem_cons_self ..) rfl
      have s2 : wr.cell? ⟨b3, 2, none⟩ = some (.int .u32 8192) := hK.out.cell [.int .u32 9000, .int .u32 3072, .int .u32 8192, .int .u32 100000, .int .u32 0] (List.mem_cons_self ..) rfl
      have s3 : wr.cell? ⟨b3, 3, none⟩ = some (.int .u32 100000) := hK.out.cell [.int .u32 9000, .int .u32 3072, .int .u32 8192, .int .u32 100000, .int .u32 0] (List.mem_cons_self ..) rfl
      have s4 : wr.cell? ⟨b3, 4, none⟩ = some (.int .u32 0) := hK.out.cell [.int .u32 9000, .int .u32 3072, .int .u32 8192, .int .u32 100000, .int .u32 0] (List.mem_cons_self ..) rfl
      obtain ⟨pc0, pc1, pc2, pc3, pc4, pc5, pc6, pc7⟩ : CapAt wr b1 4096 1 2048 0 255 0 0 true := hK.out.cap (List.mem_cons_of_mem _ (List.mem_cons_of_mem _ (List.mem_cons_self ..)))
      go_wp2_with fail
      refine (dk9 _).mono ?_
      rintro ee w19 ⟨rfl, h1⟩
      have hk19 := Lib.hid (hK.out.below h1)
      clear h1 hK pc0 pc1 pc2 pc3 pc4 pc5 pc6 pc7
      clear s0 s1 s2 s3 s4
      have hk20 : KR W _ (w19.alloc (.cells #[.int .u32 0, .int .u8 1, .int .u16 2048, .int .u16 0, .int .u16 255, .int .u16 0, .int .u32 0, .bool false] 25)) := hk19.out.push (cv 0 1 2048 0 255 0 0 false) 25
      replace hk20 := Lib.hid hk20
      clear hk19
      go_upto_region 10 with (fail)
      generalize w19.alloc (.cells #[.int .u32 0, .int .u8 1, .int .u16 2048, .int .u16 0, .int .u16 255, .int .u16 0, .int .u32 0, .bool false] 25) = v20 at *
      generalize w19.heap.size = b4 at *
      obtain ⟨pa0, pa1, pa2, pa3, pa4, pa5, pa6, pa7⟩ : CapAt v20 b4 0 1 2048 0 255 0 0 false := hk20.out.cap (List.mem_cons_self ..)
      go_wp2_with fail
      refine (dk10 _).mono ?_
      rintro ee w21 ⟨rfl, h1⟩
      have hk21 := Lib.hid (hk20.out.below h1)
      clear h1 hk20 pa0 pa1 pa2 pa3 pa4 pa5 pa6 pa7
      obtain ⟨pa0, pa1, pa2, pa3, pa4, pa5, pa6, pa7⟩ : CapAt w21 b4 0 1 2048 0 255 0 0 false := hk21.out.cap (List.mem_cons_self ..)
      go_wp2_with fail
      have hr := Lib.hid (hk21.out.sub (L' := [⟨b3, [.int .u32 9000, .int .u32 3072, .int .u32 8192, .int .u32 100000, .int .u32 0]⟩, ⟨b2, cv 7 0 0 100 96 0 0 true⟩, ⟨b1, cv 4096 1 2048 0 255 0 0 true⟩]) (fun x hx => List.mem_cons_of_mem _ hx))
      go_roundw
      case rel => exact ⟨4 + 1, by omega, rfl, hr.out⟩
      case measure => simp [intOf]
    · replace hK := Lib.hid hK
      obtain ⟨pc0, pc1, pc2, pc3, pc4, pc5, pc6, pc7⟩ : CapAt wr b1 4096 1 2048 0 255 0 0 true := hK.out.cap (List.mem_cons_of_mem _ (List.mem_cons_of_mem _ (List.mem_cons_self ..)))
      go_wp2_with fail
      refine (dk11 _).mono ?_
      rintro ee w22 ⟨rfl, h1⟩
      have hk22 := Lib.hid (hK.out.below h1)
      clear h1 hK pc0 pc1 pc2 pc3 pc4 pc5 pc6 pc7
      obtain ⟨pc0, pc1, pc2, pc3, pc4, pc5, pc6, pc7⟩ : CapAt w22 b1 4096 1 2048 0 255 0 0 true := hk22.out.cap (List.mem_cons_of_mem _ (List.mem_cons_of_mem _ (List.mem_cons_self ..)))
      go_wp2_with fail
      refine (dk12 _).mono ?_
      rintro ee w23 ⟨rfl, h1⟩
      have hk23 := Lib.hid (hk22.out.below h1)
      clear h1 hk22 pc0 pc1 pc2 pc3 pc4 pc5 pc6 pc7
      obtain ⟨pc0, pc1, pc2, pc3, pc4, pc5, pc6, pc7⟩ : CapAt w23 b1 4096 1 2048 0 255 0 0 true := hk23.out.cap (List.mem_cons_of_mem _ (List.mem_cons_of_mem _ (List.mem_cons_self ..)))
      go_wp2_with fail
      refine (dk13 _).mono ?_
      rintro ee w24 ⟨rfl, h1⟩
      have hk24 := Lib.hid (hk23.out.below h1)
      clear h1 hk23 pc0 pc1 pc2 pc3 pc4 pc5 pc6 pc7
      obtain ⟨pc0, pc1, pc2, pc3, pc4, pc5, pc6, pc7⟩ : CapAt w24 b1 4096 1 2048 0 255 0 0 true := hk24.out.cap (List.mem_cons_of_mem _ (List.mem_cons_of_mem _ (List.mem_cons_self ..)))
      go_wp2_with fail
      refine (dk11 _).mono ?_
      rintro ee w25 ⟨rfl, h1⟩
      have hk25 := Lib.hid (hk24.out.below h1)
      clear h1 hk24 pc0 pc1 pc2 pc3 pc4 pc5 pc6 pc7
      obtain ⟨pc0, pc1, pc2, pc3, pc4, pc5, pc6, pc7⟩ : CapAt w25 b1 4096 1 2048 0 255 0 0 true := hk25.out.cap (List.mem_cons_of_mem _ (List.mem_cons_of_mem _ (List.mem_cons_self ..)))
      go_wp2_with fail
      refine (dk14 _).mono ?_
      rintro ee w26 ⟨rfl, h1⟩
      have hk26 := Lib.hid (hk25.out.below h1)
      clear h1 hk25 pc0 pc1 pc2 pc3 pc4 pc5 pc6 pc7
      obtain ⟨pc0, pc1, pc2, pc3, pc4, pc5, pc6, pc7⟩ : CapAt w26 b1 4096 1 2048 0 255 0 0 true := hk26.out.cap (List.mem_cons_of_mem _ (List.mem_cons_of_mem _ (List.mem_cons_self ..)))
      go_wp2_with fail
      refine (dk15 _).mono ?_
      rintro ee w27 ⟨rfl, h1⟩
      have hk27 := Lib.hid (hk26.out.below h1)
      clear h1 hk26 pc0 pc1 pc2 pc3 pc4 pc5 pc6 pc7
      have hk28 : KR W _ (w27.alloc (.cells #[.int .u32 4097, .int .u8 1, .int .u16 2048, .int .u16 0, .int .u16 255, .int .u16 0, .int .u32 0, .bool true] 25)) := hk27.out.push (cv 4097 1 2048 0 255 0 0 true) 25
      replace hk28 := Lib.hid hk28
      clear hk27
      go_upto_region 17 with (fail)
      generalize w27.alloc (.cells #[.int .u32 4097, .int .u8 1, .int .u16 2048, .int .u16 0, .int .u16 255, .int .u16 0, .int .u32 0, .bool true] 25) = v28 at *
      generalize w27.heap.size = b4 at *
      obtain ⟨podd0, podd1, podd2, podd3, podd4, podd5, podd6, podd7⟩ : CapAt v28 b4 4097 1 2048 0 255 0 0 true := hk28.out.cap (List.mem_cons_self ..)
      go_wp2_with fail
      refine (dk16 _).mono ?_
      rintro ee w29 ⟨rfl, h1⟩
      have hk29 := Lib.hid (hk28.out.below h1)
      clear h1 hk28 podd0 podd1 podd2 podd3 podd4 podd5 podd6 podd7
      have hk30 : KR W _ (w29.alloc (.cells #[.int .u32 4097, .int .u8 1, .int .u16 2048, .int .u16 0, .int .u16 255, .int .u16 0, .int .u32 0, .bool true] 25)) := hk29.out.push (cv 4097 1 2048 0 255 0 0 true) 25
      replace hk30 := Lib.hid hk30
      clear hk29
      go_upto_region 18 with (fail)
      generalize w29.alloc (.cells #[.int .u32 4097, .int .u8 1, .int .u16 2048, .int .u16 0, .int .u16 255, .int .u16 0, .int .u32 0, .bool true] 25) = v30 at *
      generalize w29.heap.size = b5 at *
      obtain ⟨ps0, ps1, ps2, ps3, ps4, ps5, ps6, ps7⟩ : CapAt v30 b5 4097 1 2048 0 255 0 0 true := hk30.out.cap (List.mem_cons_self ..)
      go_wp2_with fail
      refine (dk17 _).mono ?_
      rintro ee w31 ⟨rfl, h1⟩
      have hk31 := Lib.hid (hk30.out.below h1)
      clear h1 hk30 ps0 ps1 ps2 ps3 ps4 ps5 ps6 ps7
      obtain ⟨ps0, ps1, ps2, ps3, ps4, ps5, ps6, ps7⟩ : CapAt w31 b5 4097 1 2048 0 255 0 0 true := hk31.out.cap (List.mem_cons_self ..)
      obtain ⟨podd0, podd1, podd2, podd3, podd4, podd5, podd6, podd7⟩ : CapAt w31 b4 4097 1 2048 0 255 0 0 true := hk31.out.cap (List.mem_cons_of_mem _ (List.mem_cons_self ..))
      obtain ⟨pc0, pc1, pc2, pc3, pc4, pc5, pc6, pc7⟩ : CapAt w31 b1 4096 1 2048 0 255 0 0 true := hk31.out.cap (List.mem_cons_of_mem _ (List.mem_cons_of_mem _ (List.mem_cons_of_mem _ (List.mem_cons_of_mem _ (List.mem_cons_self ..)))))
      go_wp2_with fail
      refine (dk18 _).mono ?_
      rintro ee w32 ⟨rfl, h1⟩
      have hk32 := Lib.hid (hk31.out.below h1)
      clear h1 hk31 ps0 ps1 ps2 ps3 ps4 ps5 ps6 ps7 podd0 podd1 podd2 podd3 podd4 podd5 podd6 podd7 pc0 pc1 pc2 pc3 pc4 pc5 pc6 pc7
      obtain ⟨pc0, pc1, pc2, pc3, pc4, pc5, pc6, pc7⟩ : CapAt w32 b1 4096 1 2048 0 255 0 0 true := hk32.out.cap (List.mem_cons_of_mem _ (List.mem_cons_of_mem _ (List.mem_cons_of_mem _ (List.mem_cons_of_mem _ (List.mem_cons_self ..)))))
      go_wp2_with fail
      refine (dk19 _).mono ?_
      rintro ee w33 ⟨rfl, h1⟩
      have hk33 := Lib.hid (hk32.out.below h1)
      clear h1 hk32 pc0 pc1 pc2 pc3 pc4 pc5 pc6 pc7
      have hk34 : KR W _ (w33.alloc (.cells #[.int .u32 4097, .int .u8 0, .int .u16 1, .int .u16 3002, .int .u16 1, .int .u16 0, .int .u32 0, .bool true] 25)) := hk33.out.push (cv 4097 0 1 3002 1 0 0 true) 25
      replace hk34 := Lib.hid hk34
      clear hk33
      go_upto_region 22 with (fail)
      generalize w33.alloc (.cells #[.int .u32 4097, .int .u8 0, .int .u16 1, .int .u16 3002, .int .u16 1, .int .u16 0, .int .u32 0, .bool true] 25) = v34 at *
      generalize w33.heap.size = b6 at *
      obtain ⟨pwide0, pwide1, pwide2, pwide3, pwide4, pwide5, pwide6, pwide7⟩ : CapAt v34 b6 4097 0 1 3002 1 0 0 true := hk34.out.cap (List.mem_cons_self ..)
      go_wp2_with fail
      refine (dk20 _).mono ?_
      rintro ee w35 ⟨rfl, h1⟩
      have hk35 := Lib.hid (hk34.out.below h1)
      clear h1 hk34 pwide0 pwide1 pwide2 pwide3 pwide4 pwide5 pwide6 pwide7
      obtain ⟨pwide0, pwide1, pwide2, pwide3, pwide4, pwide5, pwide6, pwide7⟩ : CapAt w35 b6 4097 0 1 3002 1 0 0 true := hk35.out.cap (List.mem_cons_self ..)
      go_wp2_with fail
      refine (dk21 _).mono ?_
      rintro ee w36 ⟨rfl, h1⟩
      have hk36 := Lib.hid (hk35.out.below h1)
      clear h1 hk35 pwide0 pwide1 pwide2 pwide3 pwide4 pwide5 pwide6 pwide7
      obtain ⟨pwide0, pwide1, pwide2, pwide3, pwide4, pwide5, pwide6, pwide7⟩ : CapAt w36 b6 4097 0 1 3002 1 0 0 true := hk36.out.cap (List.mem_cons_self ..)
      go_wp2_with fail
      refine (dk22 _).mono ?_
      rintro ee w37 ⟨rfl, h1⟩
      have hk37 := Lib.hid (hk36.out.below h1)
      clear h1 hk36 pwide0 pwide1 pwide2 pwide3 pwide4 pwide5 pwide6 pwide7
      obtain ⟨pwide0, pwide1, pwide2, pwide3, pwide4, pwide5, pwide6, pwide7⟩ : CapAt w37 b6 4097 0 1 3002 1 0 0 true := hk37.out.cap (List.mem_cons_self ..)
      go_wp2_with fail
      refine (dk23 _).mono ?_
      rintro ee w38 ⟨rfl, h1⟩
      have hk38 := Lib.hid (hk37.out.below h1)
      clear h1 hk37 pwide0 pwide1 pwide2 pwide3 pwide4 pwide5 pwide6 pwide7
      obtain ⟨pc0, pc1, pc2, pc3, pc4, pc5, pc6, pc7⟩ : CapAt w38 b1 4096 1 2048 0 255 0 0 true := hk38.out.cap (List.mem_cons_of_mem _ (List.mem_cons_of_mem _ (List.mem_cons_of_mem _ (List.mem_cons_of_mem _ (List.mem_cons_of_mem _ (List.mem_cons_self ..))))))
      obtain ⟨pu0, pu1, pu2, pu3, pu4, pu5, pu6, pu7⟩ : CapAt w38 b2 7 0 0 100 96 0 0 true := hk38.out.cap (List.mem_cons_of_mem _ (List.mem_cons_of_mem _ (List.mem_cons_of_mem _ (List.mem_cons_of_mem _ (List.mem_cons_self ..)))))
      go_wp2_with fail
      refine (dk24 _).mono ?_
      rintro ee w39 ⟨rfl, h1⟩
      have hk39 := Lib.hid (hk38.out.below h1)
      clear h1 hk38 pc0 pc1 pc2 pc3 pc4 pc5 pc6 pc7 pu0 pu1 pu2 pu3 pu4 pu5 pu6 pu7
      have hk40 : KR W _ (w39.alloc (.cells #[.int .u32 4096, .int .u8 1, .int .u16 2048, .int .u16 0, .int .u16 255, .int .u16 7, .int .u32 0, .bool true] 25)) := hk39.out.push (cv 4096 1 2048 0 255 7 0 true) 25
      replace hk40 := Lib.hid hk40
      clear hk39
      go_upto_region 26 with (fail)
      generalize w39.alloc (.cells #[.int .u32 4096, .int .u8 1, .int .u16 2048, .int .u16 0, .int .u16 255, .int .u16 7, .int .u32 0, .bool true] 25) = v40 at *
      generalize w39.heap.size = b7 at *
      go_wp2_with fail
      obtain ⟨S41, hS0⟩ : ∃ S, S = KR W [⟨b7, cv 4096 1 2048 0 255 7 0 true⟩, ⟨b6, cv 4097 0 1 3002 1 0 0 true⟩, ⟨b5, cv 4097 1 2048 0 255 0 0 true⟩, ⟨b4, cv 4097 1 2048 0 255 0 0 true⟩, ⟨b3, [.int .u32 9000, .int .u32 3072, .int .u32 8192, .int .u32 100000, .int .u32 0]⟩, ⟨b2, cv 7 0 0 100 96 0 0 true⟩, ⟨b1, cv 4096 1 2048 0 255 0 0 true⟩] := ⟨_, rfl⟩
      have hKS : ∀ w, S41 w → KR W [⟨b7, cv 4096 1 2048 0 255 7 0 true⟩, ⟨b6, cv 4097 0 1 3002 1 0 0 true⟩, ⟨b5, cv 4097 1 2048 0 255 0 0 true⟩, ⟨b4, cv 4097 1 2048 0 255 0 0 true⟩, ⟨b3, [.int .u32 9000, .int .u32 3072, .int .u32 8192, .int .u32 100000, .int .u32 0]⟩, ⟨b2, cv 7 0 0 100 96 0 0 true⟩, ⟨b1, cv 4096 1 2048 0 255 0 0 true⟩] w := fun w h => by rw [← hS0]; exact h
      have hSt : ∀ w w', S41 w → Below w.heap.size w w' → S41 w' := fun w w' h k => by rw [hS0] at h ⊢; exact h.below k
      have K : S41 v40 := by rw [hS0]; exact hk40.out
      clear hS0
      have c0 := Lib.hid (cls_bel hSt dk25)
      have c1 := Lib.hid (cls_bel hSt dk26)
      have c2 := Lib.hid (cls_bel hSt dk27)
      have c3 := Lib.hid (cls_bel hSt dk28)
      have c4 := Lib.hid (cls_bel hSt dk29)
      have c5 := Lib.hid (cls_bel hSt dk30)
      have c6 := Lib.hid (cls_bel hSt dk31)
      have c7 := Lib.hid (cls_bel hSt dk32)
      have c8 := Lib.hid (cls_bel hSt dk33)
      have c9 := Lib.hid (cls_bel hSt dk34)
      have c10 := Lib.hid (cls_bel hSt dk35)
      have c11 := Lib.hid (cls_bel hSt dk36)
      have c12 := Lib.hid (cls_bel hSt dk37)
      have c13 := Lib.hid (cls_bel hSt dk38)
      have hEq0 : ∀ w, (Op.equalIn 10000 25 (.agg #[.int .u32 4096, .int .u8 1, .int .u16 2048, .int .u16 0, .int .u16 255, .int .u16 0, .int .u32 0, .bool true]) (.agg #[.int .u32 4096, .int .u8 1, .int .u16 2048, .int .u16 0, .int .u16 255, .int .u16 0, .int .u32 0, .bool true])).run Try.prog w = .ok true w := fun w => by rw [show (Value.agg #[.int .u32 4096, .int .u8 1, .int .u16 2048, .int .u16 0, .int .u16 255, .int .u16 0, .int .u32 0, .bool true]) = .agg #[.int .u32 4096, .int .u8 1, .int .u16 2048, .int .u16 0, .int .u16 255, .int .u16 0, .int .u32 0, .bool true] from rfl]; exact dkEq_4096_1_2048_0_255_0_0_1 w
      obtain ⟨az0, az1, az2, az3, az4, az5, az6, az7⟩ := cls_cap (S := S41) (bx := b7) (fun w h => (hKS w h).cap (List.mem_cons_self ..))
      obtain ⟨au0, au1, au2, au3, au4, au5, au6, au7⟩ := cls_cap (S := S41) (bx := b2) (fun w h => (hKS w h).cap (List.mem_cons_of_mem _ (List.mem_cons_of_mem _ (List.mem_cons_of_mem _ (List.mem_cons_of_mem _ (List.mem_cons_of_mem _ (List.mem_cons_self ..)))))))
      obtain ⟨ac0, ac1, ac2, ac3, ac4, ac5, ac6, ac7⟩ := cls_cap (S := S41) (bx := b1) (fun w h => (hKS w h).cap (List.mem_cons_of_mem _ (List.mem_cons_of_mem _ (List.mem_cons_of_mem _ (List.mem_cons_of_mem _ (List.mem_cons_of_mem _ (List.mem_cons_of_mem _ (List.mem_cons_self ..))))))))
      refine region_cls S41 (by kernel_rfl) (by kernel_rfl) (hSt _ _ K (Below.refl _ _).drew) ?_
      try simp only [List.append_eq, List.cons_append, List.nil_append]
      repeat (first
        | go_big_quiet_skip
        | (go_big_quiet_want
           go_big_quiet_op
           first
           | go_big_quiet_on
           | (apply Exists.intro
              refine ⟨fun y => ?_, ?_⟩
              · first | exact rfl | with_reducible exact c0.out y | with_reducible exact c1.out y | with_reducible exact c2.out y | with_reducible exact c3.out y | with_reducible exact c4.out y | with_reducible exact c5.out y | with_reducible exact c6.out y | with_reducible exact c7.out y | with_reducible exact c8.out y | with_reducible exact c9.out y | with_reducible exact c10.out y | with_reducible exact c11.out y | with_reducible exact c12.out y | with_reducible exact c13.out y
              go_big_quiet_on)))
      refine wpQuiet_nil ?_
      intro y
      have hk41 := Lib.hid (hKS _ y.h)
      clear az0 az1 az2 az3 az4 az5 az6 az7 au0 au1 au2 au3 au4 au5 au6 au7 ac0 ac1 ac2 ac3 ac4 ac5 ac6 ac7 c0 c1 c2 c3 c4 c5 c6 c7 c8 c9 c10 c11 c12 c13 K hk40 hEq0
      generalize y.w = v41 at *
      clear hSt hKS
      go_wp2_with fail
      obtain ⟨S42, hS0⟩ : ∃ S, S = KR W [⟨b7, cv 4096 1 2048 0 255 7 0 true⟩, ⟨b6, cv 4097 0 1 3002 1 0 0 true⟩, ⟨b5, cv 4097 1 2048 0 255 0 0 true⟩, ⟨b4, cv 4097 1 2048 0 255 0 0 true⟩, ⟨b3, [.int .u32 9000, .int .u32 3072, .int .u32 8192, .int .u32 100000, .int .u32 0]⟩, ⟨b2, cv 7 0 0 100 96 0 0 true⟩, ⟨b1, cv 4096 1 2048 0 255 0 0 true⟩] := ⟨_, rfl⟩
      have hKS : ∀ w, S42 w → KR W [⟨b7, cv 4096 1 2048 0 255 7 0 true⟩, ⟨b6, cv 4097 0 1 3002 1 0 0 true⟩, ⟨b5, cv 4097 1 2048 0 255 0 0 true⟩, ⟨b4, cv 4097 1 2048 0 255 0 0 true⟩, ⟨b3, [.int .u32 9000, .int .u32 3072, .int .u32 8192, .int .u32 100000, .int .u32 0]⟩, ⟨b2, cv 7 0 0 100 96 0 0 true⟩, ⟨b1, cv 4096 1 2048 0 255 0 0 true⟩] w := fun w h => by rw [← hS0]; exact h
      have hSt : ∀ w w', S42 w → Below w.heap.size w w' → S42 w' := fun w w' h k => by rw [hS0] at h ⊢; exact h.below k
      have K : S42 v41 := by rw [hS0]; exact hk41.out
      clear hS0
      have c0 := Lib.hid (cls_bel hSt dk39)
      have c1 := Lib.hid (cls_bel hSt dk40)
      have c2 := Lib.hid (cls_bel hSt dk41)
      have c3 := Lib.hid (cls_bel hSt dk42)
      have c4 := Lib.hid (cls_bel hSt dk43)
      have c5 := Lib.hid (cls_bel hSt dk44)
      obtain ⟨az0, az1, az2, az3, az4, az5, az6, az7⟩ := cls_cap (S := S42) (bx := b7) (fun w h => (hKS w h).cap (List.mem_cons_self ..))
      obtain ⟨au0, au1, au2, au3, au4, au5, au6, au7⟩ := cls_cap (S := S42) (bx := b2) (fun w h => (hKS w h).cap (List.mem_cons_of_mem _ (List.mem_cons_of_mem _ (List.mem_cons_of_mem _ (List.mem_cons_of_mem _ (List.mem_cons_of_mem _ (List.mem_cons_self ..)))))))
      obtain ⟨ac0, ac1, ac2, ac3, ac4, ac5, ac6, ac7⟩ := cls_cap (S := S42) (bx := b1) (fun w h => (hKS w h).cap (List.mem_cons_of_mem _ (List.mem_cons_of_mem _ (List.mem_cons_of_mem _ (List.mem_cons_of_mem _ (List.mem_cons_of_mem _ (List.mem_cons_of_mem _ (List.mem_cons_self ..))))))))
      refine region_cls S42 (by kernel_rfl) (by kernel_rfl) (hSt _ _ K (Below.refl _ _).drew) ?_
      try simp only [List.append_eq, List.cons_append, List.nil_append]
      repeat (first
        | go_big_quiet_skip
        | (go_big_quiet_want
           go_big_quiet_op
           first
           | go_big_quiet_on
           | (apply Exists.intro
              refine ⟨fun y => ?_, ?_⟩
              · first | exact rfl | with_reducible exact c0.out y | with_reducible exact c1.out y | with_reducible exact c2.out y | with_reducible exact c3.out y | with_reducible exact c4.out y | with_reducible exact c5.out y
              go_big_quiet_on)))
      refine wpQuiet_nil ?_
      intro y
      have hk42 := Lib.hid (hKS _ y.h)
      clear az0 az1 az2 az3 az4 az5 az6 az7 au0 au1 au2 au3 au4 au5 au6 au7 ac0 ac1 ac2 ac3 ac4 ac5 ac6 ac7 c0 c1 c2 c3 c4 c5 K hk41
      generalize y.w = v42 at *
      clear hSt hKS
      go_upto_region 30 with (fail)
      obtain ⟨pc0, pc1, pc2, pc3, pc4, pc5, pc6, pc7⟩ : CapAt v42 b1 4096 1 2048 0 255 0 0 true := hk42.out.cap (List.mem_cons_of_mem _ (List.mem_cons_of_mem _ (List.mem_cons_of_mem _ (List.mem_cons_of_mem _ (List.mem_cons_of_mem _ (List.mem_cons_of_mem _ (List.mem_cons_self ..)))))))
      go_wp2_with fail
      refine (dk45 _).mono ?_
      rintro ee w43 ⟨rfl, h1⟩
      have hk43 := Lib.hid (hk42.out.below h1)
      clear h1 hk42 pc0 pc1 pc2 pc3 pc4 pc5 pc6 pc7
      have hk44 : KR W _ (w43.alloc (.cells #[.int .u32 4096, .int .u8 0, .int .u16 0, .int .u16 100, .int .u16 255, .int .u16 0, .int .u32 0, .bool true] 25)) := hk43.out.push (cv 4096 0 0 100 255 0 0 true) 25
      replace hk44 := Lib.hid hk44
      clear hk43
      go_upto_region 31 with (fail)
      generalize w43.alloc (.cells #[.int .u32 4096, .int .u8 0, .int .u16 0, .int .u16 100, .int .u16 255, .int .u16 0, .int .u32 0, .bool true] 25) = v44 at *
      generalize w43.heap.size = b8 at *
      obtain ⟨pc0, pc1, pc2, pc3, pc4, pc5, pc6, pc7⟩ : CapAt v44 b1 4096 1 2048 0 255 0 0 true := hk44.out.cap (List.mem_cons_of_mem _ (List.mem_cons_of_mem _ (List.mem_cons_of_mem _ (List.mem_cons_of_mem _ (List.mem_cons_of_mem _ (List.mem_cons_of_mem _ (List.mem_cons_of_mem _ (List.mem_cons_self ..))))))))
      go_wp2_with fail
      refine (dk46 _).mono ?_
      rintro ee w45 ⟨rfl, h1⟩
      have hk45 := Lib.hid (hk44.out.below h1)
      clear h1 hk44 pc0 pc1 pc2 pc3 pc4 pc5 pc6 pc7
      have hk46 : KR W _ (w45.alloc (.cells #[.int .u32 4096, .int .u8 1, .int .u16 2048, .int .u16 0, .int .u16 1, .int .u16 0, .int .u32 0, .bool true] 25)) := hk45.out.push (cv 4096 1 2048 0 1 0 0 true) 25
      replace hk46 := Lib.hid hk46
      clear hk45
      go_upto_region 32 with (fail)
      generalize w45.alloc (.cells #[.int .u32 4096, .int .u8 1, .int .u16 2048, .int .u16 0, .int .u16 1, .int .u16 0, .int .u32 0, .bool true] 25) = v46 at *
      generalize w45.heap.size = b9 at *
      obtain ⟨pz0, pz1, pz2, pz3, pz4, pz5, pz6, pz7⟩ : CapAt v46 b7 4096 1 2048 0 255 7 0 true := hk46.out.cap (List.mem_cons_of_mem _ (List.mem_cons_of_mem _ (List.mem_cons_self ..)))
      go_wp2_with fail
      refine (dk47 _).mono ?_
      rintro ee w47 ⟨rfl, h1⟩
      have hk47 := Lib.hid (hk46.out.below h1)
      clear h1 hk46 pz0 pz1 pz2 pz3 pz4 pz5 pz6 pz7
      have hk48 : KR W _ (w47.alloc (.cells #[.int .u32 4096, .int .u8 1, .int .u16 2048, .int .u16 0, .int .u16 255, .int .u16 7, .int .u32 0, .bool false] 25)) := hk47.out.push (cv 4096 1 2048 0 255 7 0 false) 25
      replace hk48 := Lib.hid hk48
      clear hk47
      go_upto_region 33 with (fail)
      generalize w47.alloc (.cells #[.int .u32 4096, .int .u8 1, .int .u16 2048, .int .u16 0, .int .u16 255, .int .u16 7, .int .u32 0, .bool false] 25) = v48 at *
      generalize w47.heap.size = b10 at *
      go_wp2_with fail
      obtain ⟨S49, hS0⟩ : ∃ S, S = KR W [⟨b10, cv 4096 1 2048 0 255 7 0 false⟩, ⟨b9, cv 4096 1 2048 0 1 0 0 true⟩, ⟨b8, cv 4096 0 0 100 255 0 0 true⟩, ⟨b7, cv 4096 1 2048 0 255 7 0 true⟩, ⟨b6, cv 4097 0 1 3002 1 0 0 true⟩, ⟨b5, cv 4097 1 2048 0 255 0 0 true⟩, ⟨b4, cv 4097 1 2048 0 255 0 0 true⟩, ⟨b3, [.int .u32 9000, .int .u32 3072, .int .u32 8192, .int .u32 100000, .int .u32 0]⟩, ⟨b2, cv 7 0 0 100 96 0 0 true⟩, ⟨b1, cv 4096 1 2048 0 255 0 0 true⟩] := ⟨_, rfl⟩
      have hKS : ∀ w, S49 w → KR W [⟨b10, cv 4096 1 2048 0 255 7 0 false⟩, ⟨b9, cv 4096 1 2048 0 1 0 0 true⟩, ⟨b8, cv 4096 0 0 100 255 0 0 true⟩, ⟨b7, cv 4096 1 2048 0 255 7 0 true⟩, ⟨b6, cv 4097 0 1 3002 1 0 0 true⟩, ⟨b5, cv 4097 1 2048 0 255 0 0 true⟩, ⟨b4, cv 4097 1 2048 0 255 0 0 true⟩, ⟨b3, [.int .u32 9000, .int .u32 3072, .int .u32 8192, .int .u32 100000, .int .u32 0]⟩, ⟨b2, cv 7 0 0 100 96 0 0 true⟩, ⟨b1, cv 4096 1 2048 0 255 0 0 true⟩] w := fun w h => by rw [← hS0]; exact h
      have hSt : ∀ w w', S49 w → Below w.heap.size w w' → S49 w' := fun w w' h k => by rw [hS0] at h ⊢; exact h.below k
      have K : S49 v48 := by rw [hS0]; exact hk48.out
      clear hS0
      have c0 := Lib.hid (cls_bel hSt dk48)
      have c1 := Lib.hid (cls_bel hSt dk49)
      have c2 := Lib.hid (cls_bel hSt dk50)
      have c3 := Lib.hid (cls_bel hSt dk51)
      have c4 := Lib.hid (cls_bel hSt dk52)
      have c5 := Lib.hid (cls_bel hSt dk53)
      have c6 := Lib.hid (cls_bel hSt dk54)
      have c7 := Lib.hid (cls_bel hSt dk55)
      have c8 := Lib.hid (cls_bel hSt dk56)
      have c9 := Lib.hid (cls_bel hSt dk57)
      have c10 := Lib.hid (cls_bel hSt dworks_any)
      have hEq0 : ∀ w, (Op.equalIn 10000 25 (.agg #[.int .u32 4096, .int .u8 0, .int .u16 0, .int .u16 100, .int .u16 255, .int .u16 0, .int .u32 0, .bool true]) (.agg #[.int .u32 4096, .int .u8 0, .int .u16 0, .int .u16 100, .int .u16 255, .int .u16 0, .int .u32 0, .bool true])).run Try.prog w = .ok true w := fun w => by rw [show (Value.agg #[.int .u32 4096, .int .u8 0, .int .u16 0, .int .u16 100, .int .u16 255, .int .u16 0, .int .u32 0, .bool true]) = .agg #[.int .u32 4096, .int .u8 0, .int .u16 0, .int .u16 100, .int .u16 255, .int .u16 0, .int .u32 0, .bool true] from rfl]; exact dkEq_4096_0_0_100_255_0_0_1 w
      have hEq1 : ∀ w, (Op.equalIn 10000 25 (.agg #[.int .u32 6, .int .u8 0, .int .u16 0, .int .u16 0, .int .u16 0, .int .u16 0, .int .u32 0, .bool false]) (.agg #[.int .u32 6, .int .u8 0, .int .u16 0, .int .u16 0, .int .u16 0, .int .u16 0, .int .u32 0, .bool false])).run Try.prog w = .ok true w := fun w => by rw [show (Value.agg #[.int .u32 6, .int .u8 0, .int .u16 0, .int .u16 0, .int .u16 0, .int .u16 0, .int .u32 0, .bool false]) = .agg #[.int .u32 6, .int .u8 0, .int .u16 0, .int .u16 0, .int .u16 0, .int .u16 0, .int .u32 0, .bool false] from rfl]; exact dkEq_6_0_0_0_0_0_0_0 w
      obtain ⟨asmall0, asmall1, asmall2, asmall3, asmall4, asmall5, asmall6, asmall7⟩ := cls_cap (S := S49) (bx := b8) (fun w h => (hKS w h).cap (List.mem_cons_of_mem _ (List.mem_cons_of_mem _ (List.mem_cons_self ..))))
      obtain ⟨ac0, ac1, ac2, ac3, ac4, ac5, ac6, ac7⟩ := cls_cap (S := S49) (bx := b1) (fun w h => (hKS w h).cap (List.mem_cons_of_mem _ (List.mem_cons_of_mem _ (List.mem_cons_of_mem _ (List.mem_cons_of_mem _ (List.mem_cons_of_mem _ (List.mem_cons_of_mem _ (List.mem_cons_of_mem _ (List.mem_cons_of_mem _ (List.mem_cons_of_mem _ (List.mem_cons_self ..)))))))))))
      obtain ⟨abits0, abits1, abits2, abits3, abits4, abits5, abits6, abits7⟩ := cls_cap (S := S49) (bx := b10) (fun w h => (hKS w h).cap (List.mem_cons_self ..))
      obtain ⟨afewer0, afewer1, afewer2, afewer3, afewer4, afewer5, afewer6, afewer7⟩ := cls_cap (S := S49) (bx := b9) (fun w h => (hKS w h).cap (List.mem_cons_of_mem _ (List.mem_cons_self ..)))
      obtain ⟨az0, az1, az2, az3, az4, az5, az6, az7⟩ := cls_cap (S := S49) (bx := b7) (fun w h => (hKS w h).cap (List.mem_cons_of_mem _ (List.mem_cons_of_mem _ (List.mem_cons_of_mem _ (List.mem_cons_self ..)))))
      refine region_cls S49 (by kernel_rfl) (by kernel_rfl) (hSt _ _ K (Below.refl _ _).drew) ?_
      try simp only [List.append_eq, List.cons_append, List.nil_append]
      repeat (first
        | go_big_quiet_skip
        | (go_big_quiet_want
           go_big_quiet_op
           first
           | go_big_quiet_on
           | (apply Exists.intro
              refine ⟨fun y => ?_, ?_⟩
              · first | exact rfl | with_reducible exact c0.out y | with_reducible exact c1.out y | with_reducible exact c2.out y | with_reducible exact c3.out y | with_reducible exact c4.out y | with_reducible exact c5.out y | with_reducible exact c6.out y | with_reducible exact c7.out y | with_reducible exact c8.out y | with_reducible exact c9.out y | with_reducible exact c10.out y
              go_big_quiet_on)))
      refine wpQuiet_nil ?_
      intro y
      have hk49 := Lib.hid (hKS _ y.h)
      clear asmall0 asmall1 asmall2 asmall3 asmall4 asmall5 asmall6 asmall7 ac0 ac1 ac2 ac3 ac4 ac5 ac6 ac7 abits0 abits1 abits2 abits3 abits4 abits5 abits6 abits7 afewer0 afewer1 afewer2 afewer3 afewer4 afewer5 afewer6 afewer7 az0 az1 az2 az3 az4 az5 az6 az7 c0 c1 c2 c3 c4 c5 c6 c7 c8 c9 c10 K hk48 hEq0 hEq1
      generalize y.w = v49 at *
      clear hSt hKS
      have hbl := Lib.hid hk49.out.bl
      go_wp2
      go_ret
      exact ⟨rfl, hbl.out⟩
theorem own : ownKnob Try.prog.godebug = none := by kernel_rfl
theorem laidOut : laidOutB Try.prog = true := by kernel_rfl
set_option maxRecDepth 100000 in
theorem lifted (os : Os) (started : os.Started) (H : Type) (enc : TypeId × Value → H) :
    ReturnsInHanded {} Try.checked os 15 .any (Rows.deriveKnownSpec.pre6 enc Try.prog Try.f15 Rows.deriveKnownRow.domain false) (Rows.deriveKnownSpec.post enc Try.prog Try.f15 false true false false) := by
  refine returnsInHanded_of_change (C := Try.checked) own started (by kernel_rfl) Try.func15
    (ChangeSpec.witness6 (enc := enc) (C := Try.checked) false ⟨#[], #[], []⟩ 8 (by kernel_rfl) (by kernel_rfl) (by kernel_rfl) (by kernel_rfl)) ?_
  intro W base args ds gs before hval0 hW hcnd hsz
  have hval : ∀ (j : Nat) t v, Try.f15.params[j]? = some t → args[j]? = some v → Value.okWide Try.prog W .any base t v := hval0
  have hW' := hW
  obtain ⟨p, q, hA0, hV, rfl, hfz, hnd⟩ := hW
  have hA : DataW.TrodAll enc Try.prog W 0 (fun _ => true) true Try.f15.params.toList args.toList ds p := hA0
  rw [Try.params15] at hA hval
  obtain ⟨rfl, rfl, rfl⟩ := trodAll_none hA
  obtain ⟨rfl, rfl⟩ := trodVars_none hV
  clear hA0 hval0
  refine (walk  W).mono fun e W' ⟨he, bel⟩ => ?_
  subst he
  exact ⟨_, rfl, _, _, _, [], _, [], hW', trodAll_mk1 (shut_bool Try.underlying4 _), trodAll_mk0, rfl, bel.frame _, fun h => by cases h⟩
theorem over : Rows.deriveKnownRow.holds Try.pinned (OpenSpec.ofChange Rows.deriveKnownSpec) :=
  OpenClaim.holds_of_wide 15 Try.f15 rfl rfl rfl rfl rfl rfl rfl ⟨rfl, rfl, rfl, rfl, rfl⟩ rfl rfl rfl rfl rfl (by kernel_rfl) Try.func15 (by kernel_rfl)
    (of_decide_eq_true (by kernel_rfl)) (by unfold Func.isWrapper; first | (rw [if_pos (by decide +kernel)]; kernel_rfl) | (rw [if_neg (by decide +kernel)]; exact ⟨rfl, rfl⟩))
    (fun os started H enc _ => lifted os started H enc)
/-- The given statement. -/
theorem proved : Rows.DeriveKnownSaid := over
end Go.Proofs.Ythniimefocjamaa.dknown
