/- Proved: what is made of a region holds it, and just it; its permissions are those that were asked for (CapsMade). For every input; no condition. -/
import Derived.Test.YtikgeombccoahaaRows
import Derived.Test.YtikgeombccoahaaCapW
import Derived.Test.YtikgeombccoahaaFlat
import Derived.Test.YtikgeombccoahaaBndN
import Derived.Deep.RegionHeld3
import Derived.Deep.DeepCutAuto
import Derived.ProofKit
import Derived.OpenShut
import Derived.ShutString
import Derived.ChangeOld
namespace Go.Proofs.Ytikgeombccoahaa.cmade
open Go.ChangeShapes Go.WideShapes Go.ChangeAt Go.RowKit
open Go.ChangeMaps (open_string shut_string)
set_option linter.unusedVariables false

theorem made_few {a n : Nat} (ha : a < 4294967296) (hn : n ≤ 2048) (h : a + n ≤ 4294967296) :
    mkP a n 3 = true ∧ enE a (a + n) = 0 ∧ deB 0 (enB a (a + n)) (enT a (a + n)) a = (a : Int) ∧ deT 0 (enB a (a + n)) (enT a (a + n)) a = ((a + n : Nat) : Int) ∧ enB a (a + n) < 4096 ∧ enT a (a + n) < 4096 := by
  have ex : expo a (a + n) = 0 := expo_few h (by omega)
  have h1 : a ≤ a + n := by omega
  have hd : dn (2 ^ 0) a = a := by simp [dn]
  have hu : up (2 ^ 0) (a + n) = a + n := by simp [up]
  have rB : rdB a (a + n) = a := by rw [rdB_of h1 h, ex, hd]
  have rT : rdT a (a + n) = a + n := by rw [rdT_of h1 h, ex, hu]
  have eE : enE a (a + n) = 0 := by rw [enE_of h1 h, ex]
  have win := within (c := a) h1 h (Nat.le_refl _) h1
  have tl := tells h1 h ha win.1 win.2
  rw [eE, ex, hd, hu] at tl
  refine ⟨?_, eE, tl.1, tl.2, Nat.mod_lt _ (by decide), Nat.mod_lt _ (by decide)⟩
  unfold mkP
  rw [enX_of h1 h, rB, rT]
  simp [h]

set_option maxRecDepth 100000 in
set_option maxHeartbeats 2000000 in
theorem walk (at_ : Int) (wat_ : (Lit.int .u32 at_).wf = true) (sz : Int) (wsz : (Lit.int .u16 sz).wf = true) (ra : Int) (wra : (Lit.int .u32 ra).wf = true) (rz : Int) (wrz : (Lit.int .u32 rz).wf = true) (W : World) :
    Calls Try.prog 10 #[.int .u32 at_, .int .u16 sz, .agg #[.int .u32 ra, .int .u32 rz]] W fun e w' => e = .returned (.bool true) ∧ Below W.heap.size W w' := by
  have hat_ := bounds_u32 wat_
  obtain ⟨at_, rfl⟩ := Int.eq_ofNat_of_zero_le hat_.1
  have lat_ : at_ < 4294967296 := by omega
  clear hat_ wat_
  have hsz := bounds_u16 wsz
  obtain ⟨sz, rfl⟩ := Int.eq_ofNat_of_zero_le hsz.1
  have lsz : sz < 65536 := by omega
  clear hsz wsz
  have hra := bounds_u32 wra
  obtain ⟨ra, rfl⟩ := Int.eq_ofNat_of_zero_le hra.1
  have lra : ra < 4294967296 := by omega
  clear hra wra
  have hrz := bounds_u32 wrz
  obtain ⟨rz, rfl⟩ := Int.eq_ofNat_of_zero_le hrz.1
  have lrz : rz < 4294967296 := by omega
  clear hrz wrz
  have hW := Lib.hid (fun w => works_any w)
  obtain ⟨n, hn⟩ : ∃ n, n = sz % 2049 := ⟨_, rfl⟩
  have hnI : (sz : Int) % 2049 = (n : Int) := by omega
  have n1 : n ≤ 2048 := by omega
  by_cases hbig : at_ + n ≤ 4294967296
  · obtain ⟨k1, k2, k3, k4, k5, k6⟩ := made_few lat_ n1 hbig
    have pM := Lib.hid (fun w => pMake_yes at_ n 3 lat_ (by omega) (by decide) k1 w)
    rw [k2] at pM
    have pR := Lib.hid (fun w => pRange_any at_ 0 (enB at_ (at_ + n)) (enT at_ (at_ + n)) 3 0 0 true lat_ (by decide) (by omega) (by omega) (by decide) (by decide) (by decide) w)
    have pH := Lib.hid (fun w => pHolds_any at_ 0 (enB at_ (at_ + n)) (enT at_ (at_ + n)) 3 0 0 true at_ n lat_ (by decide) (by omega) (by omega) (by decide) (by decide) (by decide) lat_ (by omega) w)
    have pX := Lib.hid (fun w => pMeets_any at_ 0 (enB at_ (at_ + n)) (enT at_ (at_ + n)) 3 0 0 true ra rz lat_ (by decide) (by omega) (by omega) (by decide) (by decide) (by decide) lra lrz w)
    have pS := Lib.hid (fun w => pSound_any at_ 0 (enB at_ (at_ + n)) (enT at_ (at_ + n)) 3 0 0 true lat_ (by decide) (by omega) (by omega) (by decide) (by decide) (by decide) w)
    rw [k3, k4, Int.natCast_add] at pR pH pX
    rw [show hoP at_ ((at_ : Int) + n) at_ n = true from decide_eq_true ⟨Int.le_refl _, Int.le_refl _⟩] at pH
    rw [show sndP 0 (enB at_ (at_ + n)) (enT at_ (at_ + n)) 3 0 0 = true from decide_eq_true ⟨by decide, k5, k6, by decide, by decide, by decide⟩] at pS
    generalize enB at_ (at_ + n) = m at *
    generalize enT at_ (at_ + n) = q at *
    clear k1 k2 k3 k4 k5 k6 hn
    go_enter Try.func10, Try.ntmps10
    go_wp2_with fail
    refine (hW.out _).mono ?_
    rintro ee w1 ⟨rfl, h1⟩
    have r0 : w1.cell? ⟨W.heap.size, 0, none⟩ = some (.int .u32 ra) := (h1.cell (by simp)).trans (by simp [go_sem])
    have r1 : w1.cell? ⟨W.heap.size, 1, none⟩ = some (.int .u32 rz) := (h1.cell (by simp)).trans (by simp [go_sem])
    have s1 : W.heap.size < w1.heap.size := by have := h1.size; simp at this; omega
    have b1 := Lib.hid (((Below.refl W.heap.size W).alloc (Nat.le_refl _) (.cells #[.int .u32 ra, .int .u32 rz] 33)).trans (h1.mono (by simp)))
    clear h1
    go_wp2_with fail
    refine (pM.out _).mono ?_
    rintro ee w2 ⟨rfl, h1⟩
    have r0' : w2.cell? ⟨W.heap.size, 0, none⟩ = some (.int .u32 ra) := (h1.cell (by simp <;> omega)).trans ((World.cell?_alloc_lt _ _ _ s1).trans r0)
    have r1' : w2.cell? ⟨W.heap.size, 1, none⟩ = some (.int .u32 rz) := (h1.cell (by simp <;> omega)).trans ((World.cell?_alloc_lt _ _ _ s1).trans r1)
    have o0 : w2.cell? ⟨w1.heap.size, 0, none⟩ = some (.int .u32 at_) := (h1.cell (by simp)).trans (by simp [go_sem])
    have o1 : w2.cell? ⟨w1.heap.size, 1, none⟩ = some (.int .u32 n) := (h1.cell (by simp)).trans (by simp [go_sem])
    have s2 : w1.heap.size < w2.heap.size := by have := h1.size; simp at this; omega
    have b2 := Lib.hid ((b1.out.alloc b1.out.size (.cells #[.int .u32 at_, .int .u32 n] 33)).trans (h1.mono (by have := b1.out.size; simp; omega)))
    clear h1 b1 r0 r1
    go_wp2_with fail
    refine (pR.out _).mono ?_
    rintro ee w3 ⟨rfl, h1⟩
    have x0 : w3.cell? ⟨W.heap.size, 0, none⟩ = some (.int .u32 ra) := (h1.cell (by simp <;> omega)).trans ((World.cell?_alloc_lt _ _ _ (by show W.heap.size < _; omega)).trans r0')
    have x1 : w3.cell? ⟨W.heap.size, 1, none⟩ = some (.int .u32 rz) := (h1.cell (by simp <;> omega)).trans ((World.cell?_alloc_lt _ _ _ (by show W.heap.size < _; omega)).trans r1')
    have y0 : w3.cell? ⟨w1.heap.size, 0, none⟩ = some (.int .u32 at_) := (h1.cell (by simp <;> omega)).trans ((World.cell?_alloc_lt _ _ _ s2).trans o0)
    have y1 : w3.cell? ⟨w1.heap.size, 1, none⟩ = some (.int .u32 n) := (h1.cell (by simp <;> omega)).trans ((World.cell?_alloc_lt _ _ _ s2).trans o1)
    have c0 : w3.cell? ⟨w2.heap.size, 0, none⟩ = some (.int .u32 at_) := (h1.cell (by simp)).trans (by simp [go_sem])
    have c1 : w3.cell? ⟨w2.heap.size, 1, none⟩ = some (.int .u8 0) := (h1.cell (by simp)).trans (by simp [go_sem])
    have c2 : w3.cell? ⟨w2.heap.size, 2, none⟩ = some (.int .u16 m) := (h1.cell (by simp)).trans (by simp [go_sem])
    have c3 : w3.cell? ⟨w2.heap.size, 3, none⟩ = some (.int .u16 q) := (h1.cell (by simp)).trans (by simp [go_sem])
    have c4 : w3.cell? ⟨w2.heap.size, 4, none⟩ = some (.int .u16 3) := (h1.cell (by simp)).trans (by simp [go_sem])
    have c5 : w3.cell? ⟨w2.heap.size, 5, none⟩ = some (.int .u16 0) := (h1.cell (by simp)).trans (by simp [go_sem])
    have c6 : w3.cell? ⟨w2.heap.size, 6, none⟩ = some (.int .u32 0) := (h1.cell (by simp)).trans (by simp [go_sem])
    have c7 : w3.cell? ⟨w2.heap.size, 7, none⟩ = some (.bool true) := (h1.cell (by simp)).trans (by simp [go_sem])
    have s3 : w2.heap.size < w3.heap.size := by have := h1.size; simp at this; omega
    have b3 := Lib.hid ((b2.out.alloc b2.out.size (.cells #[.int .u32 at_, .int .u8 0, .int .u16 m, .int .u16 q, .int .u16 3, .int .u16 0, .int .u32 0, .bool true] 25)).trans (h1.mono (by have := b2.out.size; simp; omega)))
    clear h1 b2 r0' r1' o0 o1
    go_wp2_with fail
    · have hz : decide ((ra : Int) < ra + rz) = meP at_ ((at_ : Int) + n) ra rz := by unfold meP; rw [decide_eq_decide]; omega
      rw [hz]
      generalize meP at_ ((at_ : Int) + n) ra rz = z at *
      clear hz
      refine (pH.out _).mono ?_
      rintro ee w4 ⟨rfl, h1⟩
      replace x0 := (h1.cell (by show W.heap.size < _; omega)).trans x0
      replace x1 := (h1.cell (by show W.heap.size < _; omega)).trans x1
      replace c0 := (h1.cell (by show w2.heap.size < _; omega)).trans c0
      replace c1 := (h1.cell (by show w2.heap.size < _; omega)).trans c1
      replace c2 := (h1.cell (by show w2.heap.size < _; omega)).trans c2
      replace c3 := (h1.cell (by show w2.heap.size < _; omega)).trans c3
      replace c4 := (h1.cell (by show w2.heap.size < _; omega)).trans c4
      replace c5 := (h1.cell (by show w2.heap.size < _; omega)).trans c5
      replace c6 := (h1.cell (by show w2.heap.size < _; omega)).trans c6
      replace c7 := (h1.cell (by show w2.heap.size < _; omega)).trans c7
      replace s3 : w2.heap.size < w4.heap.size := Nat.lt_of_lt_of_le s3 h1.size
      replace b3 := Lib.hid (b3.out.trans (h1.mono b3.out.size))
      clear h1 y0 y1
      go_wp2_with fail
      refine (pX.out _).mono ?_
      rintro ee w5 ⟨rfl, h1⟩
      replace c0 := (h1.cell (by show w2.heap.size < _; omega)).trans c0
      replace c1 := (h1.cell (by show w2.heap.size < _; omega)).trans c1
      replace c2 := (h1.cell (by show w2.heap.size < _; omega)).trans c2
      replace c3 := (h1.cell (by show w2.heap.size < _; omega)).trans c3
      replace c4 := (h1.cell (by show w2.heap.size < _; omega)).trans c4
      replace c5 := (h1.cell (by show w2.heap.size < _; omega)).trans c5
      replace c6 := (h1.cell (by show w2.heap.size < _; omega)).trans c6
      replace c7 := (h1.cell (by show w2.heap.size < _; omega)).trans c7
      replace b3 := Lib.hid (b3.out.trans (h1.mono b3.out.size))
      clear h1 x0 x1
      go_wp2_with fail
      refine (pS.out _).mono ?_
      rintro ee w6 ⟨rfl, h1⟩
      replace b3 := Lib.hid (b3.out.trans (h1.mono b3.out.size))
      clear h1
      go_wp2
      go_ret
      exact ⟨rfl, b3.out⟩
    · have hz : decide ((ra : Int) < at_ + n) = meP at_ ((at_ : Int) + n) ra rz := by unfold meP; rw [decide_eq_decide]; omega
      rw [hz]
      generalize meP at_ ((at_ : Int) + n) ra rz = z at *
      clear hz
      refine (pH.out _).mono ?_
      rintro ee w4 ⟨rfl, h1⟩
      replace x0 := (h1.cell (by show W.heap.size < _; omega)).trans x0
      replace x1 := (h1.cell (by show W.heap.size < _; omega)).trans x1
      replace c0 := (h1.cell (by show w2.heap.size < _; omega)).trans c0
      replace c1 := (h1.cell (by show w2.heap.size < _; omega)).trans c1
      replace c2 := (h1.cell (by show w2.heap.size < _; omega)).trans c2
      replace c3 := (h1.cell (by show w2.heap.size < _; omega)).trans c3
      replace c4 := (h1.cell (by show w2.heap.size < _; omega)).trans c4
      replace c5 := (h1.cell (by show w2.heap.size < _; omega)).trans c5
      replace c6 := (h1.cell (by show w2.heap.size < _; omega)).trans c6
      replace c7 := (h1.cell (by show w2.heap.size < _; omega)).trans c7
      replace s3 : w2.heap.size < w4.heap.size := Nat.lt_of_lt_of_le s3 h1.size
      replace b3 := Lib.hid (b3.out.trans (h1.mono b3.out.size))
      clear h1 y0 y1
      go_wp2_with fail
      refine (pX.out _).mono ?_
      rintro ee w5 ⟨rfl, h1⟩
      replace c0 := (h1.cell (by show w2.heap.size < _; omega)).trans c0
      replace c1 := (h1.cell (by show w2.heap.size < _; omega)).trans c1
      replace c2 := (h1.cell (by show w2.heap.size < _; omega)).trans c2
      replace c3 := (h1.cell (by show w2.heap.size < _; omega)).trans c3
      replace c4 := (h1.cell (by show w2.heap.size < _; omega)).trans c4
      replace c5 := (h1.cell (by show w2.heap.size < _; omega)).trans c5
      replace c6 := (h1.cell (by show w2.heap.size < _; omega)).trans c6
      replace c7 := (h1.cell (by show w2.heap.size < _; omega)).trans c7
      replace b3 := Lib.hid (b3.out.trans (h1.mono b3.out.size))
      clear h1 x0 x1
      go_wp2_with fail
      refine (pS.out _).mono ?_
      rintro ee w6 ⟨rfl, h1⟩
      replace b3 := Lib.hid (b3.out.trans (h1.mono b3.out.size))
      clear h1
      go_wp2
      go_ret
      exact ⟨rfl, b3.out⟩
    · have hz : decide ((at_ : Int) < ra + rz) = meP at_ ((at_ : Int) + n) ra rz := by unfold meP; rw [decide_eq_decide]; omega
      rw [hz]
      generalize meP at_ ((at_ : Int) + n) ra rz = z at *
      clear hz
      refine (pH.out _).mono ?_
      rintro ee w4 ⟨rfl, h1⟩
      replace x0 := (h1.cell (by show W.heap.size < _; omega)).trans x0
      replace x1 := (h1.cell (by show W.heap.size < _; omega)).trans x1
      replace c0 := (h1.cell (by show w2.heap.size < _; omega)).trans c0
      replace c1 := (h1.cell (by show w2.heap.size < _; omega)).trans c1
      replace c2 := (h1.cell (by show w2.heap.size < _; omega)).trans c2
      replace c3 := (h1.cell (by show w2.heap.size < _; omega)).trans c3
      replace c4 := (h1.cell (by show w2.heap.size < _; omega)).trans c4
      replace c5 := (h1.cell (by show w2.heap.size < _; omega)).trans c5
      replace c6 := (h1.cell (by show w2.heap.size < _; omega)).trans c6
      replace c7 := (h1.cell (by show w2.heap.size < _; omega)).trans c7
      replace s3 : w2.heap.size < w4.heap.size := Nat.lt_of_lt_of_le s3 h1.size
      replace b3 := Lib.hid (b3.out.trans (h1.mono b3.out.size))
      clear h1 y0 y1
      go_wp2_with fail
      refine (pX.out _).mono ?_
      rintro ee w5 ⟨rfl, h1⟩
      replace c0 := (h1.cell (by show w2.heap.size < _; omega)).trans c0
      replace c1 := (h1.cell (by show w2.heap.size < _; omega)).trans c1
      replace c2 := (h1.cell (by show w2.heap.size < _; omega)).trans c2
      replace c3 := (h1.cell (by show w2.heap.size < _; omega)).trans c3
      replace c4 := (h1.cell (by show w2.heap.size < _; omega)).trans c4
      replace c5 := (h1.cell (by show w2.heap.size < _; omega)).trans c5
      replace c6 := (h1.cell (by show w2.heap.size < _; omega)).trans c6
      replace c7 := (h1.cell (by show w2.heap.size < _; omega)).trans c7
      replace b3 := Lib.hid (b3.out.trans (h1.mono b3.out.size))
      clear h1 x0 x1
      go_wp2_with fail
      refine (pS.out _).mono ?_
      rintro ee w6 ⟨rfl, h1⟩
      replace b3 := Lib.hid (b3.out.trans (h1.mono b3.out.size))
      clear h1
      go_wp2
      go_ret
      exact ⟨rfl, b3.out⟩
    · have hz : decide ((at_ : Int) < at_ + n) = meP at_ ((at_ : Int) + n) ra rz := by unfold meP; rw [decide_eq_decide]; omega
      rw [hz]
      generalize meP at_ ((at_ : Int) + n) ra rz = z at *
      clear hz
      refine (pH.out _).mono ?_
      rintro ee w4 ⟨rfl, h1⟩
      replace x0 := (h1.cell (by show W.heap.size < _; omega)).trans x0
      replace x1 := (h1.cell (by show W.heap.size < _; omega)).trans x1
      replace c0 := (h1.cell (by show w2.heap.size < _; omega)).trans c0
      replace c1 := (h1.cell (by show w2.heap.size < _; omega)).trans c1
      replace c2 := (h1.cell (by show w2.heap.size < _; omega)).trans c2
      replace c3 := (h1.cell (by show w2.heap.size < _; omega)).trans c3
      replace c4 := (h1.cell (by show w2.heap.size < _; omega)).trans c4
      replace c5 := (h1.cell (by show w2.heap.size < _; omega)).trans c5
      replace c6 := (h1.cell (by show w2.heap.size < _; omega)).trans c6
      replace c7 := (h1.cell (by show w2.heap.size < _; omega)).trans c7
      replace s3 : w2.heap.size < w4.heap.size := Nat.lt_of_lt_of_le s3 h1.size
      replace b3 := Lib.hid (b3.out.trans (h1.mono b3.out.size))
      clear h1 y0 y1
      go_wp2_with fail
      refine (pX.out _).mono ?_
      rintro ee w5 ⟨rfl, h1⟩
      replace c0 := (h1.cell (by show w2.heap.size < _; omega)).trans c0
      replace c1 := (h1.cell (by show w2.heap.size < _; omega)).trans c1
      replace c2 := (h1.cell (by show w2.heap.size < _; omega)).trans c2
      replace c3 := (h1.cell (by show w2.heap.size < _; omega)).trans c3
      replace c4 := (h1.cell (by show w2.heap.size < _; omega)).trans c4
      replace c5 := (h1.cell (by show w2.heap.size < _; omega)).trans c5
      replace c6 := (h1.cell (by show w2.heap.size < _; omega)).trans c6
      replace c7 := (h1.cell (by show w2.heap.size < _; omega)).trans c7
      replace b3 := Lib.hid (b3.out.trans (h1.mono b3.out.size))
      clear h1 x0 x1
      go_wp2_with fail
      refine (pS.out _).mono ?_
      rintro ee w6 ⟨rfl, h1⟩
      replace b3 := Lib.hid (b3.out.trans (h1.mono b3.out.size))
      clear h1
      go_wp2
      go_ret
      exact ⟨rfl, b3.out⟩
  · have k1 : mkP at_ n 3 = false := by
      unfold mkP
      rw [decide_eq_false (by omega), Bool.false_and]
    have pM := Lib.hid (fun w => pMake_no at_ n 3 lat_ (by omega) (by decide) k1 w)
    have hb : (4294967296 : Int) < at_ + n := by omega
    clear k1 hn hbig
    go_enter Try.func10, Try.ntmps10
    go_wp2_with fail
    refine (hW.out _).mono ?_
    rintro ee w1 ⟨rfl, h1⟩
    have b1 := Lib.hid (((Below.refl W.heap.size W).alloc (Nat.le_refl _) (.cells #[.int .u32 ra, .int .u32 rz] 33)).trans (h1.mono (by simp)))
    clear h1
    go_wp2_with fail
    refine (pM.out _).mono ?_
    rintro ee w2 ⟨rfl, h1⟩
    have b2 := Lib.hid ((b1.out.alloc b1.out.size (.cells #[.int .u32 at_, .int .u32 n] 33)).trans (h1.mono (by have := b1.out.size; simp; omega)))
    clear h1
    go_wp2
    go_ret
    exact ⟨rfl, b2.out.alloc b2.out.size _⟩
theorem own : ownKnob Try.prog.godebug = none := by kernel_rfl
theorem laidOut : laidOutB Try.prog = true := by kernel_rfl
set_option maxRecDepth 100000 in
theorem lifted (os : Os) (started : os.Started) (H : Type) (enc : TypeId × Value → H) :
    ReturnsInHanded {} Try.checked os 10 .any (Rows.capsMadeSpec.pre6 enc Try.prog Try.f10 Rows.capsMadeRow.domain false) (Rows.capsMadeSpec.post enc Try.prog Try.f10 false true false false) := by
  refine returnsInHanded_of_change (C := Try.checked) own started (by kernel_rfl) Try.func10
    (ChangeSpec.witness6 (enc := enc) (C := Try.checked) false ⟨#[], #[.int .u32 0, .int .u16 0, .agg #[.int .u32 0, .int .u32 0]], []⟩ 8 (by kernel_rfl) (by kernel_rfl) (by kernel_rfl) (by kernel_rfl)) ?_
  intro W base args ds gs before hval0 hW hcnd hsz
  have hval : ∀ (j : Nat) t v, Try.f10.params[j]? = some t → args[j]? = some v → Value.okWide Try.prog W .any base t v := hval0
  have hW' := hW
  obtain ⟨p, q, hA0, hV, rfl, hfz, hnd⟩ := hW
  have hA : DataW.TrodAll enc Try.prog W 0 (fun _ => true) true Try.f10.params.toList args.toList ds p := hA0
  rw [Try.params10] at hA hval
  obtain ⟨v0, vs0, d0, ds0, p0, q0, hargs, rfl, rfl, h0, r0⟩ := trodAll_cons hA
  obtain ⟨v1, vs1, d1, ds1, p1, q1, rfl, rfl, rfl, h1, r1⟩ := trodAll_cons r0
  obtain ⟨v2, vs2, d2, ds2, p2, q2, rfl, rfl, rfl, h2, r2⟩ := trodAll_cons r1
  obtain ⟨rfl, rfl, rfl⟩ := trodAll_nil r2
  obtain rfl : args = #[v0, v1, v2] := by cases args; simp_all
  obtain ⟨rfl, rfl⟩ := trodVars_none hV
  have k0 := h0
  have lt0 : ∀ x ∈ p0, x.block < W.heap.size := by obtain ⟨m, hm⟩ := k0; exact DataW.trod_lt m _ _ _ hm
  have k1 := h1
  have lt1 : ∀ x ∈ p1, x.block < W.heap.size := by obtain ⟨m, hm⟩ := k1; exact DataW.trod_lt m _ _ _ hm
  have k2 := h2
  have lt2 : ∀ x ∈ p2, x.block < W.heap.size := by obtain ⟨m, hm⟩ := k2; exact DataW.trod_lt m _ _ _ hm
  obtain ⟨at_, rfl, rfl, rfl, wat_⟩ := open_int Try.underlying22 (hval 0 22 v0 rfl rfl) h0
  obtain ⟨size, rfl, rfl, rfl, wsize⟩ := open_int Try.underlying23 (hval 1 23 v1 rfl rfl) h1
  obtain ⟨csrg, rfl, hfrg⟩ := open_flat (ks := [some .u32, some .u32]) 6 (by kernel_rfl) (.inl ⟨_, Try.underlying33⟩) (hval 2 33 v2 rfl rfl) h2
  obtain ⟨_, _, rfl, ⟨rg0, rfl, wrg0⟩, _, _, rfl, ⟨rg1, rfl, wrg1⟩, rfl⟩ := hfrg
  clear hA0 hval0
  refine (walk at_ wat_ size wsize rg0 wrg0 rg1 wrg1 W).mono fun e W' ⟨he, bel⟩ => ?_
  subst he
  exact ⟨_, rfl, _, _, _, [], _, [], hW', trodAll_mk1 (shut_bool Try.underlying4 _), (trodAll_cons_mk (Below.trod laidOut (by kernel_rfl) (of_decide_eq_true (by kernel_rfl)) k0 bel lt0) (trodAll_cons_mk (Below.trod laidOut (by kernel_rfl) (of_decide_eq_true (by kernel_rfl)) k1 bel lt1) (trodAll_cons_mk (Below.trod laidOut (by kernel_rfl) (of_decide_eq_true (by kernel_rfl)) k2 bel lt2) trodAll_mk0))), rfl, bel.frame _, fun h => by cases h⟩
theorem over : Rows.capsMadeRow.holds Try.pinned (OpenSpec.ofChange Rows.capsMadeSpec) :=
  OpenClaim.holds_of_wide 10 Try.f10 rfl rfl rfl rfl rfl rfl rfl ⟨rfl, rfl, rfl, rfl, rfl⟩ rfl rfl rfl rfl rfl (by kernel_rfl) Try.func10 (by kernel_rfl)
    (of_decide_eq_true (by kernel_rfl)) (by unfold Func.isWrapper; first | (rw [if_pos (by decide +kernel)]; kernel_rfl) | (rw [if_neg (by decide +kernel)]; exact ⟨rfl, rfl⟩))
    (fun os started H enc _ => lifted os started H enc)
/-- The given statement. -/
theorem proved : Rows.CapsMadeSaid := over
end Go.Proofs.Ytikgeombccoahaa.cmade
