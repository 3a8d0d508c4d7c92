/- Proved: what was made less by Set or Exact is made valid again of its bits, by what it was made of (DeriveAgain). For every input; no condition. -/
import Derived.Test.YthniimefocjamaaRows
import Derived.Test.YthniimefocjamaaDerY
import Derived.Test.YthniimefocjamaaFlat
import Derived.ProofKit
import Derived.OpenShut
import Derived.ShutString
import Derived.ChangeOld
namespace Go.Proofs.Ythniimefocjamaa.dagain
open Go.ChangeShapes Go.WideShapes Go.ChangeAt Go.RowKit
open Go.ChangeMaps (open_string shut_string)
set_option linter.unusedVariables false

theorem again_ok {c : Cp} {n : Nat} (h : c.fit) {e2 b2 t2 : Nat} {va : Bool} (hv : va = true → c.va = true ∧ c.ty = 0 ∧ hdP c.e c.b c.t c.cu n = true ∧ e2 = bdE c.e c.cu n ∧ b2 = bdB c.b c.cu n ∧ t2 = bdT c.t c.cu n) (ha : va = true) (hs : sndP e2 b2 t2 c.pm c.ty c.rs = true) :
    (c.va && decide (c.ty = 0) && buP e2 b2 t2 c.pm c.ty c.rs (wiP c.pm c.pm (deB e2 b2 t2 c.cu) (deT e2 b2 t2 c.cu) (deB c.e c.b c.t c.cu) (deT c.e c.b c.t c.cu))) = true := by
  obtain ⟨h1, h2, h3, rfl, rfl, rfl⟩ := hv ha
  have hi := set_in h h3 true
  unfold buP
  rw [hs, h1, h2, show wiP c.pm c.pm (deB (bdE c.e c.cu n) (bdB c.b c.cu n) (bdT c.t c.cu n) c.cu) (deT (bdE c.e c.cu n) (bdB c.b c.cu n) (bdT c.t c.cu n) c.cu) (deB c.e c.b c.t c.cu) (deT c.e c.b c.t c.cu) = true from hi]
  rfl

set_option maxHeartbeats 4000000 in
theorem walkN (cu e b t pm ty rs : Nat) (va : Bool) (v : Nat) (l0 : cu < 4294967296) (l1 : e < 256) (l2 : b < 65536) (l3 : t < 65536) (l4 : pm < 65536) (l5 : ty < 65536) (l6 : rs < 4294967296) (lv : v < 4294967296) (W : World) : Calls Try.prog 14 #[.agg #[.int .u32 cu, .int .u8 e, .int .u16 b, .int .u16 t, .int .u16 pm, .int .u16 ty, .int .u32 rs, .bool va], .int .u32 v] W fun e w' => e = .returned (.bool true) ∧ Below W.heap.size W w' := by
  have K0 : KR W [⟨W.heap.size, cv cu e b t pm ty rs va⟩] (W.alloc (.cells #[.int .u32 cu, .int .u8 e, .int .u16 b, .int .u16 t, .int .u16 pm, .int .u16 ty, .int .u32 rs, .bool va] 25)) := (KR.start (W := W)).push (cv cu e b t pm ty rs va) 25
  have hW := Lib.hid (fun w => dworks_any w)
  have hA := fun w => pSet_any cu e b t pm ty rs va v l0 l1 l2 l3 l4 l5 l6 lv w
  have hX := fun w => pExact_any cu e b t pm ty rs va v l0 l1 l2 l3 l4 l5 l6 lv w
  obtain ⟨m1, m2, m3⟩ := Cp.fit.bd (c := Cp.mk cu e b t pm ty rs va) ⟨l0, l1, l2, l3, l4, l5, l6⟩ v
  dsimp only at m1 m2 m3
  have hq1 : (va && decide (ty = 0) && hdP e b t cu v) = true → va = true ∧ ty = 0 ∧ hdP e b t cu v = true ∧ bdE e cu v = bdE e cu v ∧ bdB b cu v = bdB b cu v ∧ bdT t cu v = bdT t cu v := fun h => by
    simp only [Bool.and_eq_true, decide_eq_true_eq] at h
    exact ⟨h.1.1, h.1.2, h.2, rfl, rfl, rfl⟩
  have hq2 : (va && decide (ty = 0) && (hdP e b t cu v && enX cu (cu + v))) = true → va = true ∧ ty = 0 ∧ hdP e b t cu v = true ∧ bdE e cu v = bdE e cu v ∧ bdB b cu v = bdB b cu v ∧ bdT t cu v = bdT t cu v := fun h => by
    simp only [Bool.and_eq_true, decide_eq_true_eq] at h
    exact ⟨h.1.1, h.1.2, h.2.1, rfl, rfl, rfl⟩
  generalize (va && decide (ty = 0) && hdP e b t cu v) = z1 at *
  generalize (va && decide (ty = 0) && (hdP e b t cu v && enX cu (cu + v))) = z2 at *
  obtain ⟨e2, he2⟩ : ∃ x, x = bdE e cu v := ⟨_, rfl⟩
  obtain ⟨b2, hb2⟩ : ∃ x, x = bdB b cu v := ⟨_, rfl⟩
  obtain ⟨t2, ht2⟩ : ∃ x, x = bdT t cu v := ⟨_, rfl⟩
  rw [← he2, ← hb2, ← ht2] at hA hX
  rw [← he2] at m1
  rw [← hb2] at m2
  rw [← ht2] at m3
  replace hq1 : z1 = true → va = true ∧ ty = 0 ∧ hdP e b t cu v = true ∧ e2 = bdE e cu v ∧ b2 = bdB b cu v ∧ t2 = bdT t cu v := fun h => ⟨(hq1 h).1, (hq1 h).2.1, (hq1 h).2.2.1, he2, hb2, ht2⟩
  replace hq2 : z2 = true → va = true ∧ ty = 0 ∧ hdP e b t cu v = true ∧ e2 = bdE e cu v ∧ b2 = bdB b cu v ∧ t2 = bdT t cu v := fun h => ⟨(hq2 h).1, (hq2 h).2.1, (hq2 h).2.2.1, he2, hb2, ht2⟩
  clear he2 hb2 ht2
  replace K0 := Lib.hid K0
  replace hA := Lib.hid hA
  replace hX := Lib.hid hX
  replace hq1 := Lib.hid hq1
  replace hq2 := Lib.hid hq2
  go_enter Try.func14, Try.ntmps14
  go_wp2_with fail
  go_loopw [5] (fun i wr => ∃ j : Nat, j ≤ 2 ∧ i = .int .i64 j ∧ KR W [⟨W.heap.size, cv cu e b t pm ty rs va⟩] wr) (fun i _ => 2 - (intOf i).toNat)
  case atStart => exact ⟨0, by omega, rfl, K0.out⟩
  case round =>
    obtain ⟨j, hj, rfl, hK⟩ := hrel
    clear K0
    have : j = 0 ∨ j = 1 ∨ j = 2 := by omega
    rcases this with rfl | rfl | rfl
    · obtain ⟨p0, p1, p2, p3, p4, p5, p6, p7⟩ : CapAt wr W.heap.size cu e b t pm ty rs va := hK.cap (List.mem_cons_self ..)
      replace hK := Lib.hid hK
      go_wp2_with fail
      refine (hA.out _).mono ?_
      rintro ee w1 ⟨rfl, h1⟩
      have hk : KR W _ (w1.alloc (.cells #[.int .u32 cu, .int .u8 e2, .int .u16 b2, .int .u16 t2, .int .u16 pm, .int .u16 ty, .int .u32 rs, .bool z1] 25)) := (hK.out.below h1).push (cv cu e2 b2 t2 pm ty rs z1) 25
      clear h1 hK p0 p1 p2 p3 p4 p5 p6 p7
      replace hk := Lib.hid hk
      go_upto_region 7 with (fail)
      generalize (w1.alloc (.cells #[.int .u32 cu, .int .u8 e2, .int .u16 b2, .int .u16 t2, .int .u16 pm, .int .u16 ty, .int .u32 rs, .bool z1] 25)) = wv at *
      generalize w1.heap.size = sb at *
      cases z1
      · obtain ⟨p0, p1, p2, p3, p4, p5, p6, p7⟩ : CapAt wv sb cu e2 b2 t2 pm ty rs false := hk.out.cap (List.mem_cons_self ..)
        have hr := Lib.hid (hk.out.sub (L' := [⟨W.heap.size, cv cu e b t pm ty rs va⟩]) (fun x hx => List.mem_cons_of_mem _ hx))
        clear hk
        go_wp2_with fail
        go_roundw
        case rel => exact ⟨0 + 1, by omega, rfl, hr.out⟩
        case measure => simp [intOf]
      · obtain ⟨p0, p1, p2, p3, p4, p5, p6, p7⟩ : CapAt wv sb cu e2 b2 t2 pm ty rs true := hk.out.cap (List.mem_cons_self ..)
        have hN := Lib.hid (fun w => pSound_any cu e2 b2 t2 pm ty rs true l0 m1 m2 m3 l4 l5 l6 w)
        have hv := Lib.hid (hq1.out)
        cases hsn : sndP e2 b2 t2 pm ty rs
        · rw [hsn] at hN
          replace hsn := Lib.hid hsn
          go_wp2_with fail
          refine (hN.out _).mono ?_
          rintro ee w5 ⟨rfl, h1⟩
          have hr := Lib.hid ((hk.out.below h1).sub (L' := [⟨W.heap.size, cv cu e b t pm ty rs va⟩]) (fun x hx => List.mem_cons_of_mem _ hx))
          clear h1 hk hN hv p0 p1 p2 p3 p4 p5 p6 p7
          go_wp2_with fail
          go_roundw
          case rel => exact ⟨0 + 1, by omega, rfl, hr.out⟩
          case measure => simp [intOf]
        · have hag := again_ok (c := Cp.mk cu e b t pm ty rs va) (n := v) ⟨l0, l1, l2, l3, l4, l5, l6⟩ hv.out rfl hsn
          dsimp only at hag
          rw [hsn] at hN
          have hB : ∀ w, Calls Try.prog 39 #[.agg #[.int .u32 cu, .int .u8 e2, .int .u16 b2, .int .u16 t2, .int .u16 pm, .int .u16 ty, .int .u32 rs, .bool false], .agg #[.int .u32 cu, .int .u8 e, .int .u16 b, .int .u16 t, .int .u16 pm, .int .u16 ty, .int .u32 rs, .bool va]] w fun ee w' => ee = .returned (.agg #[.int .u32 cu, .int .u8 e2, .int .u16 b2, .int .u16 t2, .int .u16 pm, .int .u16 ty, .int .u32 rs, .bool true]) ∧ Below w.heap.size w w' := fun w => by
            have := pBuild_any cu e2 b2 t2 pm ty rs false cu e b t pm ty rs va l0 m1 m2 m3 l4 l5 l6 l0 l1 l2 l3 l4 l5 l6 w
            rw [hag] at this
            exact this
          have hCl := fun w => pClear_any cu e2 b2 t2 pm ty rs true w
          have hEq : ∀ w, (Op.equalIn 10000 25 (.agg #[.int .u32 cu, .int .u8 e2, .int .u16 b2, .int .u16 t2, .int .u16 pm, .int .u16 ty, .int .u32 rs, .bool true]) (.agg #[.int .u32 cu, .int .u8 e2, .int .u16 b2, .int .u16 t2, .int .u16 pm, .int .u16 ty, .int .u32 rs, .bool true])).run Try.prog w = .ok true w := fun w => by rw [cap_eq]; simp
          clear hag hsn hv
          go_wp2_with fail
          refine (hN.out _).mono ?_
          rintro ee w5 ⟨rfl, h1⟩
          have K := hk.out.below h1
          clear h1 hk hN p0 p1 p2 p3 p4 p5 p6 p7
          obtain ⟨S, hS0⟩ : ∃ S, S = KR W [⟨sb, cv cu e2 b2 t2 pm ty rs true⟩, ⟨W.heap.size, cv cu e b t pm ty rs va⟩] := ⟨_, rfl⟩
          have hK : ∀ w, S w → KR W [⟨sb, cv cu e2 b2 t2 pm ty rs true⟩, ⟨W.heap.size, cv cu e b t pm ty rs va⟩] w := fun w h => by rw [← hS0]; exact h
          have hSt : ∀ w w', S w → Below w.heap.size w w' → S w' := fun w w' h k => by rw [hS0] at h ⊢; exact h.below k
          replace K : S w5 := by rw [hS0]; exact K
          clear hS0
          have cB := Lib.hid (cls_bel hSt hB)
          have cC := Lib.hid (cls_bel hSt hCl)
          obtain ⟨a0, a1, a2, a3, a4, a5, a6, a7⟩ := cls_cap (S := S) (bx := W.heap.size) (fun w h => (hK w h).cap (List.mem_cons_of_mem _ (List.mem_cons_self ..)))
          obtain ⟨d0, d1, d2, d3, d4, d5, d6, d7⟩ := cls_cap (S := S) (bx := sb) (fun w h => (hK w h).cap (List.mem_cons_self ..))
          clear hB hCl
          replace K := Lib.hid K
          go_wp2_with fail
          refine region_cls S (by kernel_rfl) (by kernel_rfl) (hSt _ _ K.out (Below.refl _ _).drew) ?_
          repeat (first
            | go_big_quiet_skip
            | (go_big_quiet_want
               go_big_quiet_op
               first
               | go_big_quiet_on
               | (apply Exists.intro
                  refine ⟨fun y => ?_, ?_⟩
                  · first | exact rfl | with_reducible exact cB.out y | with_reducible exact cC.out y
                  go_big_quiet_on)))
          refine wpQuiet_nil ?_
          intro y
          have hr := Lib.hid ((hK _ y.h).sub (L' := [⟨W.heap.size, cv cu e b t pm ty rs va⟩]) (fun x hx => List.mem_cons_of_mem _ hx))
          clear a0 a1 a2 a3 a4 a5 a6 a7 d0 d1 d2 d3 d4 d5 d6 d7
          generalize y.w = wy at *
          go_wp2_with fail
          go_roundw
          case rel => exact ⟨0 + 1, by omega, rfl, hr.out⟩
          case measure => simp [intOf]

    · obtain ⟨p0, p1, p2, p3, p4, p5, p6, p7⟩ : CapAt wr W.heap.size cu e b t pm ty rs va := hK.cap (List.mem_cons_self ..)
      replace hK := Lib.hid hK
      go_wp2_with fail
      refine (hA.out _).mono ?_
      rintro ee w1 ⟨rfl, h1⟩
      have hk : KR W _ (w1.alloc (.cells #[.int .u32 cu, .int .u8 e2, .int .u16 b2, .int .u16 t2, .int .u16 pm, .int .u16 ty, .int .u32 rs, .bool z1] 25)) := (hK.out.below h1).push (cv cu e2 b2 t2 pm ty rs z1) 25
      have hne : W.heap.size < w1.heap.size := (hK.out.below h1).lt (List.mem_cons_self ..)
      clear h1 hK p0 p1 p2 p3 p4 p5 p6 p7
      replace hk := Lib.hid hk
      go_upto_region 6 with (fail)
      generalize (w1.alloc (.cells #[.int .u32 cu, .int .u8 e2, .int .u16 b2, .int .u16 t2, .int .u16 pm, .int .u16 ty, .int .u32 rs, .bool z1] 25)) = wv at *
      generalize w1.heap.size = sb at *
      obtain ⟨p0, p1, p2, p3, p4, p5, p6, p7⟩ : CapAt wv W.heap.size cu e b t pm ty rs va := hk.out.cap (List.mem_cons_of_mem _ (List.mem_cons_self ..))
      go_wp2_with fail
      refine (hX.out _).mono ?_
      rintro ee w3 ⟨rfl, h1⟩
      have hk3 := hk.out.below h1
      clear h1 hk p0 p1 p2 p3 p4 p5 p6 p7
      obtain ⟨r0, r1, r2, r3, r4, r5, r6, r7⟩ : CapAt w3 sb cu e2 b2 t2 pm ty rs z1 := hk3.cap (List.mem_cons_self ..)
      have fr := hk3.soft (List.mem_cons_self ..)
      have hk := Lib.hid (hk3.whole (cv cu e2 b2 t2 pm ty rs z2) (by omega) (by simp <;> omega) rfl)
      clear hk3
      go_upto_region 7 with (fail)
      change Code.wp _ _ _ _ (setRow sb 0 (cv cu e2 b2 t2 pm ty rs z2) w3)
      clear r0 r1 r2 r3 r4 r5 r6 r7 fr
      generalize (setRow sb 0 (cv cu e2 b2 t2 pm ty rs z2) w3) = wv at *
      cases z2
      · obtain ⟨p0, p1, p2, p3, p4, p5, p6, p7⟩ : CapAt wv sb cu e2 b2 t2 pm ty rs false := hk.out.cap (List.mem_cons_self ..)
        have hr := Lib.hid (hk.out.sub (L' := [⟨W.heap.size, cv cu e b t pm ty rs va⟩]) (fun x hx => List.mem_cons_of_mem _ hx))
        clear hk
        go_wp2_with fail
        go_roundw
        case rel => exact ⟨1 + 1, by omega, rfl, hr.out⟩
        case measure => simp [intOf]
      · obtain ⟨p0, p1, p2, p3, p4, p5, p6, p7⟩ : CapAt wv sb cu e2 b2 t2 pm ty rs true := hk.out.cap (List.mem_cons_self ..)
        have hN := Lib.hid (fun w => pSound_any cu e2 b2 t2 pm ty rs true l0 m1 m2 m3 l4 l5 l6 w)
        have hv := Lib.hid (hq2.out)
        cases hsn : sndP e2 b2 t2 pm ty rs
        · rw [hsn] at hN
          replace hsn := Lib.hid hsn
          go_wp2_with fail
          refine (hN.out _).mono ?_
          rintro ee w5 ⟨rfl, h1⟩
          have hr := Lib.hid ((hk.out.below h1).sub (L' := [⟨W.heap.size, cv cu e b t pm ty rs va⟩]) (fun x hx => List.mem_cons_of_mem _ hx))
          clear h1 hk hN hv p0 p1 p2 p3 p4 p5 p6 p7
          go_wp2_with fail
          go_roundw
          case rel => exact ⟨1 + 1, by omega, rfl, hr.out⟩
          case measure => simp [intOf]
        · have hag := again_ok (c := Cp.mk cu e b t pm ty rs va) (n := v) ⟨l0, l1, l2, l3, l4, l5, l6⟩ hv.out rfl hsn
          dsimp only at hag
          rw [hsn] at hN
          have hB : ∀ w, Calls Try.prog 39 #[.agg #[.int .u32 cu, .int .u8 e2, .int .u16 b2, .int .u16 t2, .int .u16 pm, .int .u16 ty, .int .u32 rs, .bool false], .agg #[.int .u32 cu, .int .u8 e, .int .u16 b, .int .u16 t, .int .u16 pm, .int .u16 ty, .int .u32 rs, .bool va]] w fun ee w' => ee = .returned (.agg #[.int .u32 cu, .int .u8 e2, .int .u16 b2, .int .u16 t2, .int .u16 pm, .int .u16 ty, .int .u32 rs, .bool true]) ∧ Below w.heap.size w w' := fun w => by
            have := pBuild_any cu e2 b2 t2 pm ty rs false cu e b t pm ty rs va l0 m1 m2 m3 l4 l5 l6 l0 l1 l2 l3 l4 l5 l6 w
            rw [hag] at this
            exact this
          have hCl := fun w => pClear_any cu e2 b2 t2 pm ty rs true w
          have hEq : ∀ w, (Op.equalIn 10000 25 (.agg #[.int .u32 cu, .int .u8 e2, .int .u16 b2, .int .u16 t2, .int .u16 pm, .int .u16 ty, .int .u32 rs, .bool true]) (.agg #[.int .u32 cu, .int .u8 e2, .int .u16 b2, .int .u16 t2, .int .u16 pm, .int .u16 ty, .int .u32 rs, .bool true])).run Try.prog w = .ok true w := fun w => by rw [cap_eq]; simp
          clear hag hsn hv
          go_wp2_with fail
          refine (hN.out _).mono ?_
          rintro ee w5 ⟨rfl, h1⟩
          have K := hk.out.below h1
          clear h1 hk hN p0 p1 p2 p3 p4 p5 p6 p7
          obtain ⟨S, hS0⟩ : ∃ S, S = KR W [⟨sb, cv cu e2 b2 t2 pm ty rs true⟩, ⟨W.heap.size, cv cu e b t pm ty rs va⟩] := ⟨_, rfl⟩
          have hK : ∀ w, S w → KR W [⟨sb, cv cu e2 b2 t2 pm ty rs true⟩, ⟨W.heap.size, cv cu e b t pm ty rs va⟩] w := fun w h => by rw [← hS0]; exact h
          have hSt : ∀ w w', S w → Below w.heap.size w w' → S w' := fun w w' h k => by rw [hS0] at h ⊢; exact h.below k
          replace K : S w5 := by rw [hS0]; exact K
          clear hS0
          have cB := Lib.hid (cls_bel hSt hB)
          have cC := Lib.hid (cls_bel hSt hCl)
          obtain ⟨a0, a1, a2, a3, a4, a5, a6, a7⟩ := cls_cap (S := S) (bx := W.heap.size) (fun w h => (hK w h).cap (List.mem_cons_of_mem _ (List.mem_cons_self ..)))
          obtain ⟨d0, d1, d2, d3, d4, d5, d6, d7⟩ := cls_cap (S := S) (bx := sb) (fun w h => (hK w h).cap (List.mem_cons_self ..))
          clear hB hCl
          replace K := Lib.hid K
          go_wp2_with fail
          refine region_cls S (by kernel_rfl) (by kernel_rfl) (hSt _ _ K.out (Below.refl _ _).drew) ?_
          repeat (first
            | go_big_quiet_skip
            | (go_big_quiet_want
               go_big_quiet_op
               first
               | go_big_quiet_on
               | (apply Exists.intro
                  refine ⟨fun y => ?_, ?_⟩
                  · first | exact rfl | with_reducible exact cB.out y | with_reducible exact cC.out y
                  go_big_quiet_on)))
          refine wpQuiet_nil ?_
          intro y
          have hr := Lib.hid ((hK _ y.h).sub (L' := [⟨W.heap.size, cv cu e b t pm ty rs va⟩]) (fun x hx => List.mem_cons_of_mem _ hx))
          clear a0 a1 a2 a3 a4 a5 a6 a7 d0 d1 d2 d3 d4 d5 d6 d7
          generalize y.w = wy at *
          go_wp2_with fail
          go_roundw
          case rel => exact ⟨1 + 1, by omega, rfl, hr.out⟩
          case measure => simp [intOf]

    · go_wp2_with fail
      refine (hW.out _).mono ?_
      rintro ee w1 ⟨rfl, h1⟩
      have hr := Lib.hid (hK.below h1).bl
      clear h1 hK
      go_wp2_with fail
      go_ret
      exact ⟨rfl, hr.out⟩

theorem walk (cu : Int) (wcu : (Lit.int .u32 cu).wf = true) (e : Int) (we : (Lit.int .u8 e).wf = true) (b : Int) (wb : (Lit.int .u16 b).wf = true) (t : Int) (wt : (Lit.int .u16 t).wf = true) (pm : Int) (wpm : (Lit.int .u16 pm).wf = true) (ty : Int) (wty : (Lit.int .u16 ty).wf = true) (rs : Int) (wrs : (Lit.int .u32 rs).wf = true) (va : Bool) (v : Int) (wv : (Lit.int .u32 v).wf = true) (W : World) : Calls Try.prog 14 #[.agg #[.int .u32 cu, .int .u8 e, .int .u16 b, .int .u16 t, .int .u16 pm, .int .u16 ty, .int .u32 rs, .bool va], .int .u32 v] W fun e w' => e = .returned (.bool true) ∧ Below W.heap.size W w' := by
  have hcu := bounds_u32 wcu
  obtain ⟨cu, rfl⟩ := Int.eq_ofNat_of_zero_le hcu.1
  have he := bounds_u8 we
  obtain ⟨e, rfl⟩ := Int.eq_ofNat_of_zero_le he.1
  have hb := bounds_u16 wb
  obtain ⟨b, rfl⟩ := Int.eq_ofNat_of_zero_le hb.1
  have ht := bounds_u16 wt
  obtain ⟨t, rfl⟩ := Int.eq_ofNat_of_zero_le ht.1
  have hpm := bounds_u16 wpm
  obtain ⟨pm, rfl⟩ := Int.eq_ofNat_of_zero_le hpm.1
  have hty := bounds_u16 wty
  obtain ⟨ty, rfl⟩ := Int.eq_ofNat_of_zero_le hty.1
  have hrs := bounds_u32 wrs
  obtain ⟨rs, rfl⟩ := Int.eq_ofNat_of_zero_le hrs.1
  have hv := bounds_u32 wv
  obtain ⟨v, rfl⟩ := Int.eq_ofNat_of_zero_le hv.1
  exact walkN cu e b t pm ty rs va v (by omega) (by omega) (by omega) (by omega) (by omega) (by omega) (by omega) (by omega) W
theorem own : ownKnob Try.prog.godebug = none := by kernel_rfl
theorem laidOut : laidOutB Try.prog = true := by kernel_rfl
set_option maxRecDepth 100000 in
theorem lifted (os : Os) (started : os.Started) (H : Type) (enc : TypeId × Value → H) :
    ReturnsInHanded {} Try.checked os 14 .any (Rows.deriveAgainSpec.pre6 enc Try.prog Try.f14 Rows.deriveAgainRow.domain false) (Rows.deriveAgainSpec.post enc Try.prog Try.f14 false true false false) := by
  refine returnsInHanded_of_change (C := Try.checked) own started (by kernel_rfl) Try.func14
    (ChangeSpec.witness6 (enc := enc) (C := Try.checked) false ⟨#[], #[.agg #[.int .u32 0, .int .u8 0, .int .u16 0, .int .u16 0, .int .u16 0, .int .u16 0, .int .u32 0, .bool false], .int .u32 0], []⟩ 8 (by kernel_rfl) (by kernel_rfl) (by kernel_rfl) (by kernel_rfl)) ?_
  intro W base args ds gs before hval0 hW hcnd hsz
  have hval : ∀ (j : Nat) t v, Try.f14.params[j]? = some t → args[j]? = some v → Value.okWide Try.prog W .any base t v := hval0
  have hW' := hW
  obtain ⟨p, q, hA0, hV, rfl, hfz, hnd⟩ := hW
  have hA : DataW.TrodAll enc Try.prog W 0 (fun _ => true) true Try.f14.params.toList args.toList ds p := hA0
  rw [Try.params14] at hA hval
  obtain ⟨v0, vs0, d0, ds0, p0, q0, hargs, rfl, rfl, h0, r0⟩ := trodAll_cons hA
  obtain ⟨v1, vs1, d1, ds1, p1, q1, rfl, rfl, rfl, h1, r1⟩ := trodAll_cons r0
  obtain ⟨rfl, rfl, rfl⟩ := trodAll_nil r1
  obtain rfl : args = #[v0, v1] := by cases args; simp_all
  obtain ⟨rfl, rfl⟩ := trodVars_none hV
  have k0 := h0
  have lt0 : ∀ x ∈ p0, x.block < W.heap.size := by obtain ⟨m, hm⟩ := k0; exact DataW.trod_lt m _ _ _ hm
  have k1 := h1
  have lt1 : ∀ x ∈ p1, x.block < W.heap.size := by obtain ⟨m, hm⟩ := k1; exact DataW.trod_lt m _ _ _ hm
  obtain ⟨csca, rfl, hfca⟩ := open_flat (ks := [some .u32, some .u8, some .u16, some .u16, some .u16, some .u16, some .u32, none]) 6 (by kernel_rfl) (.inl ⟨_, Try.underlying25⟩) (hval 0 25 v0 rfl rfl) h0
  obtain ⟨_, _, rfl, ⟨ca0, rfl, wca0⟩, _, _, rfl, ⟨ca1, rfl, wca1⟩, _, _, rfl, ⟨ca2, rfl, wca2⟩, _, _, rfl, ⟨ca3, rfl, wca3⟩, _, _, rfl, ⟨ca4, rfl, wca4⟩, _, _, rfl, ⟨ca5, rfl, wca5⟩, _, _, rfl, ⟨ca6, rfl, wca6⟩, _, _, rfl, ⟨ca7, rfl⟩, rfl⟩ := hfca
  obtain ⟨size, rfl, rfl, rfl, wsize⟩ := open_int Try.underlying22 (hval 1 22 v1 rfl rfl) h1
  clear hA0 hval0
  refine (walk ca0 wca0 ca1 wca1 ca2 wca2 ca3 wca3 ca4 wca4 ca5 wca5 ca6 wca6 ca7 size wsize W).mono fun e W' ⟨he, bel⟩ => ?_
  subst he
  exact ⟨_, rfl, _, _, _, [], _, [], hW', trodAll_mk1 (shut_bool Try.underlying4 _), (trodAll_cons_mk (Below.trod laidOut (by kernel_rfl) (of_decide_eq_true (by kernel_rfl)) k0 bel lt0) (trodAll_cons_mk (Below.trod laidOut (by kernel_rfl) (of_decide_eq_true (by kernel_rfl)) k1 bel lt1) trodAll_mk0)), rfl, bel.frame _, fun h => by cases h⟩
theorem over : Rows.deriveAgainRow.holds Try.pinned (OpenSpec.ofChange Rows.deriveAgainSpec) :=
  OpenClaim.holds_of_wide 14 Try.f14 rfl rfl rfl rfl rfl rfl rfl ⟨rfl, rfl, rfl, rfl, rfl⟩ rfl rfl rfl rfl rfl (by kernel_rfl) Try.func14 (by kernel_rfl)
    (of_decide_eq_true (by kernel_rfl)) (by unfold Func.isWrapper; first | (rw [if_pos (by decide +kernel)]; kernel_rfl) | (rw [if_neg (by decide +kernel)]; exact ⟨rfl, rfl⟩))
    (fun os started H enc _ => lifted os started H enc)
/-- The given statement. -/
theorem proved : Rows.DeriveAgainSaid := over
end Go.Proofs.Ythniimefocjamaa.dagain
