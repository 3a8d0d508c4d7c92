/- Proved: the chapter's examples of layer asm (the card of AsmKnown, a closed statement); the listed variables are tied to the program's text. -/
import Derived.Test.YtdkggahkfheocaaGreatDoorAsFh
import Derived.Test.YtdkggahkfheocaaGreatDoorAsKn
import Derived.Test.YtdkggahkfheocaaGreatDoorAsTp
import Derived.Test.YtdkggahkfheocaaGreatDoorTie
import Derived.Test.YtdkggahkfheocaaGreatDoorCards
import Derived.SevenTiedAt
import Derived.ProofKit
import Derived.OpenShut
import Derived.ChangeOld
namespace Go.Proofs.YtdkggahkfheocaaGreatDoor.sknown
open Go.ChangeShapes Go.WideShapes Go.ChangeAt Go.RowKit Go.Lib
set_option linter.unusedVariables false
set_option linter.unusedSimpArgs false
set_option maxRecDepth 100000

set_option maxHeartbeats 8000000 in
theorem walk (W : World) (hT : T8 W) (hE : HE W) : Calls Tryz.prog 9 #[] W fun e w' => e = .returned (.bool true) ∧ Below W.heap.size W w' := by
  have hT' := Lib.hid hT
  have hE' := Lib.hid hE
  have hund : undef = Value.tuple #[] := rfl
  have hLn := Lib.hid (fun (x : List UInt8) (hx : x ∈ knL) (w : World) (h : T8 w) => show Calls Tryz.prog 15 #[.string ⟨x.toArray⟩] w fun e w' => e = .returned (.tuple #[.int .u32 0, .int .i64 4]) ∧ Below w.heap.size w w' from by
    have hl := line_any x w h (by have := (kn_line x hx).2; omega)
    rw [(kn_line x hx).1] at hl
    exact hl)
  obtain ⟨t1, ht1, ht1', rA1⟩ : ∃ t1 : List UInt8, 32768 < t1.length ∧ t1.length ≤ 40000 ∧ ∀ w, Calls Tryz.prog 23 #[.string ⟨#[10]⟩, .int .i64 32769] w fun e w' => e = .returned (.string ⟨t1.toArray⟩) ∧ Below w.heap.size w w' :=
    ⟨repeatL [10] 32769, by rw [repeat_len]; decide, by rw [repeat_len]; decide, fun w => Tryz.strings_Repeat ⟨#[10]⟩ 32769 w (by decide) (by simp [ByteArray.size])⟩
  obtain ⟨t2, ht2, ht2', rA2⟩ : ∃ t2 : List UInt8, asmL t2 = .error (3, 4096) ∧ t2.length ≤ 40000 ∧ ∀ w, Calls Tryz.prog 23 #[.string ⟨#[114, 101, 116, 10]⟩, .int .i64 4097] w fun e w' => e = .returned (.string ⟨t2.toArray⟩) ∧ Below w.heap.size w w' :=
    ⟨retsL (4096 + 1), asm_over 4096 rfl, by rw [rets_len]; decide, fun w => by
      have h := Tryz.strings_Repeat ⟨#[114, 101, 116, 10]⟩ 4097 w (by decide) (by simp [ByteArray.size])
      rw [show Lib.repeatL (⟨#[114, 101, 116, 10]⟩ : ByteArray).data.toList 4097 = retsL (4096 + 1) from rep_rets 4097 [114, 101, 116, 10]] at h
      exact h⟩
  obtain ⟨t3, ws3, ht3, hw3, ht3', rA3⟩ : ∃ (t3 : List UInt8) (ws3 : List Int), asmL t3 = .ok ws3 ∧ ws3.length = 4096 ∧ t3.length ≤ 40000 ∧ ∀ w, Calls Tryz.prog 23 #[.string ⟨#[114, 101, 116, 10]⟩, .int .i64 4096] w fun e w' => e = .returned (.string ⟨t3.toArray⟩) ∧ Below w.heap.size w w' :=
    ⟨retsL 4096, List.replicate 4096 retW, asm_rets 4096 (by decide), List.length_replicate .., by rw [rets_len]; decide, fun w => by
      have h := Tryz.strings_Repeat ⟨#[114, 101, 116, 10]⟩ 4096 w (by decide) (by simp [ByteArray.size])
      rw [show Lib.repeatL (⟨#[114, 101, 116, 10]⟩ : ByteArray).data.toList 4096 = retsL 4096 from rep_rets 4096 [114, 101, 116, 10]] at h
      exact h⟩
  have qr1 := Lib.hid (fun w h => asm_err t1 3 0 (asm_long t1 ht1) (by omega) w h)
  have qr2 := Lib.hid (fun w h => asm_err t2 3 4096 ht2 (by omega) w h)
  have qr3 := fun w h => asm_good t3 ws3 ht3 (by omega) w h
  rw [hw3] at qr3
  replace qr3 := Lib.hid qr3
  replace rA1 := Lib.hid rA1
  replace rA2 := Lib.hid rA2
  replace rA3 := Lib.hid rA3
  clear ht1 ht1' ht2 ht2' ht3 ht3' hw3 hT hE
  have q0 := Lib.hid (fun w h => asm_err [98, 101, 113, 32, 99, 48, 32, 99, 48, 32, 111, 110] 9 0 kn1 (by decide) w h)
  have q1 := Lib.hid (fun w h => asm_err [97, 58, 10, 97, 58] 11 1 kn2 (by decide) w h)
  have q2 := Lib.hid (fun w h => asm_err [98] 4 0 kn3 (by decide) w h)
  have q3 := Lib.hid (fun w h => asm_good [] [] kn4 (by decide) w h)
  have q7 := Lib.hid (fun w h => asm_err [108, 105, 32, 99, 49, 32, 120, 10] 4 0 kn5 (by decide) w h)
  have q8 := Lib.hid (fun w h => asm_err [57, 97, 58] 4 0 kn6 (by decide) w h)
  have q9 := Lib.hid (fun w h => asm_good [119, 111, 114, 100, 32, 53] [5] kn7 (by decide) w h)
  have q10 := Lib.hid (fun w h => asm_err [108, 105, 32, 99, 49, 32, 48, 55] 4 0 kn8 (by decide) w h)
  have q11 := Lib.hid (fun w h => asm_err [109, 111, 118, 101, 32, 99, 48, 49, 32, 99, 50] 4 0 kn9 (by decide) w h)
  have K0 := (KR.start (W := W)).push (knL.map strV) 9
  obtain ⟨w0, hw0⟩ : ∃ w0, w0 = W.alloc (.cells #[.string ⟨#[108, 105, 32, 32, 99, 51, 32, 45, 55]⟩, .string ⟨#[108, 105, 32, 99, 49, 54, 32, 48]⟩, .string ⟨#[108, 105, 32, 99, 51, 32, 45, 48, 55]⟩, .string ⟨#[119, 111, 114, 100, 32, 48, 49]⟩, .string ⟨#[]⟩, .string ⟨#[32, 114, 101, 116]⟩, .string ⟨#[114, 101, 116, 32]⟩, .string ⟨#[108, 105, 32, 99, 51]⟩, .string ⟨#[108, 105, 32, 99, 51, 32, 50, 48, 52, 56]⟩, .string ⟨#[108, 105, 32, 99, 51, 32, 45, 48]⟩, .string ⟨#[98, 101, 113, 32, 99, 48, 32, 99, 48, 32, 111, 110]⟩, .string ⟨#[119, 111, 114, 100, 32, 52, 50, 57, 52, 57, 54, 55, 50, 57, 54]⟩, .string ⟨#[97, 100, 100, 32, 99, 49, 32, 99, 50, 32, 99, 51, 32, 99, 52]⟩, .string ⟨#[76, 105, 32, 99, 51, 32, 49]⟩, .string ⟨#[119, 111, 114, 100, 32, 49, 57, 57, 50, 50, 57, 52, 52]⟩] 9) := ⟨_, rfl⟩
  replace K0 : KR W [⟨W.heap.size, knL.map strV⟩] w0 := by rw [hw0]; exact K0
  obtain ⟨gb, hgb⟩ : ∃ gb, gb = W.heap.size := ⟨_, rfl⟩
  rw [← hgb] at K0
  replace K0 := Lib.hid K0
  replace hw0 := Lib.hid hw0
  go_enter Tryz.func9, Tryz.ntmps9
  go_wp2_with fail
  rw [← hw0.out, ← hgb]
  clear hw0 hgb
  go_loopw [1, 2, 3, 4, 31] (fun v1 v2 v3 v4 i wr => ∃ k : Nat, k ≤ 15 ∧ i = .int .i64 k ∧ Hid (KR W [⟨gb, knL.map strV⟩] wr)) (fun _ _ _ _ i _ => 15 - (RowKit.intOf i).toNat)
  case atStart => exact ⟨0, by omega, rfl, K0⟩
  case round =>
    obtain ⟨k, hk, rfl, HK⟩ := hrel
    by_cases hlt : k < 15
    · have hlt2 : k < knL.length := hlt
      obtain ⟨x, hx⟩ : ∃ x, x = knL[k] := ⟨_, rfl⟩
      have hm : x ∈ knL := by rw [hx]; exact List.getElem_mem hlt2
      have c0 : wr.cell? ⟨gb, k, none⟩ = some (.string ⟨x.toArray⟩) := HK.out.cell _ (List.mem_cons_self ..) (by rw [List.getElem?_map, List.getElem?_eq_getElem hlt2, ← hx]; rfl)
      have h1 := Lib.hid (hLn.out x hm wr (hT'.out.below HK.out.bl))
      have hki : (k : Int) < 15 := by omega
      have hkl := Lib.hid (And.intro hk hlt)
      clear hx hm hlt2 hk
      go_wp2_with fail
      refine h1.out.mono ?_
      rintro e w1 ⟨rfl, k1⟩
      have HK1 := Lib.hid (HK.out.below k1)
      clear h1 k1 c0
      go_wp2
      go_roundw
      case rel => (repeat apply Exists.intro); exact ⟨⟨k + 1, by have := hkl.out; omega, by go_num, HK1⟩, rfl⟩
      case measure => have := hkl.out; simp [RowKit.intOf]; omega
    · have hk15 : k = 15 := by omega
      subst hk15
      have hb := Lib.hid HK.out.bl
      clear HK hLn K0 hlt hk
      go_wp2_with fail
      refine (q0.out _ (hT'.out.below hb.out)).mono ?_
      rintro e u1d ⟨g0, rfl, f0, kk⟩
      replace f0 := Lib.hid f0
      have hbu1d := Lib.hid (hb.out.trans (kk.mono hb.out.size))
      replace hb := hbu1d
      clear hbu1d
      clear kk
      clear q0
      go_wp2_with fail
      refine (q1.out _ (hT'.out.below hb.out)).mono ?_
      rintro e u2d ⟨g1, rfl, f1, kk⟩
      replace f1 := Lib.hid f1
      have hbu2d := Lib.hid (hb.out.trans (kk.mono hb.out.size))
      replace hb := hbu2d
      clear hbu2d
      replace f0 := Lib.hid (f0.out.below kk)
      clear kk
      clear q1
      go_wp2_with fail
      refine (q2.out _ (hT'.out.below hb.out)).mono ?_
      rintro e u3d ⟨g2, rfl, f2, kk⟩
      replace f2 := Lib.hid f2
      have hbu3d := Lib.hid (hb.out.trans (kk.mono hb.out.size))
      replace hb := hbu3d
      clear hbu3d
      replace f0 := Lib.hid (f0.out.below kk)
      replace f1 := Lib.hid (f1.out.below kk)
      clear kk
      clear q2
      go_wp2_with fail
      refine (q3.out _ (hT'.out.below hb.out)).mono ?_
      rintro e u4d ⟨A3, cap3, rfl, -, kk⟩
      have hbu4d := Lib.hid (hb.out.trans (kk.mono hb.out.size))
      replace hb := hbu4d
      clear hbu4d
      replace f0 := Lib.hid (f0.out.below kk)
      replace f1 := Lib.hid (f1.out.below kk)
      replace f2 := Lib.hid (f2.out.below kk)
      clear kk
      clear q3
      go_wp2_with fail
      refine (rA1.out _).mono ?_
      rintro e u5d ⟨rfl, kk⟩
      have hbu5d := Lib.hid (hb.out.trans (kk.mono hb.out.size))
      replace hb := hbu5d
      clear hbu5d
      replace f0 := Lib.hid (f0.out.below kk)
      replace f1 := Lib.hid (f1.out.below kk)
      replace f2 := Lib.hid (f2.out.below kk)
      clear kk
      go_wp2_with fail
      refine (qr1.out _ (hT'.out.below hb.out)).mono ?_
      rintro e u6d ⟨g4, rfl, f4, kk⟩
      replace f4 := Lib.hid f4
      have hbu6d := Lib.hid (hb.out.trans (kk.mono hb.out.size))
      replace hb := hbu6d
      clear hbu6d
      replace f0 := Lib.hid (f0.out.below kk)
      replace f1 := Lib.hid (f1.out.below kk)
      replace f2 := Lib.hid (f2.out.below kk)
      clear kk
      clear qr1
      go_wp2_with fail
      refine (rA2.out _).mono ?_
      rintro e u7d ⟨rfl, kk⟩
      have hbu7d := Lib.hid (hb.out.trans (kk.mono hb.out.size))
      replace hb := hbu7d
      clear hbu7d
      replace f0 := Lib.hid (f0.out.below kk)
      replace f1 := Lib.hid (f1.out.below kk)
      replace f2 := Lib.hid (f2.out.below kk)
      replace f4 := Lib.hid (f4.out.below kk)
      clear kk
      go_wp2_with fail
      refine (qr2.out _ (hT'.out.below hb.out)).mono ?_
      rintro e u8d ⟨g5, rfl, f5, kk⟩
      replace f5 := Lib.hid f5
      have hbu8d := Lib.hid (hb.out.trans (kk.mono hb.out.size))
      replace hb := hbu8d
      clear hbu8d
      replace f0 := Lib.hid (f0.out.below kk)
      replace f1 := Lib.hid (f1.out.below kk)
      replace f2 := Lib.hid (f2.out.below kk)
      replace f4 := Lib.hid (f4.out.below kk)
      clear kk
      clear qr2
      go_wp2_with fail
      refine (rA3.out _).mono ?_
      rintro e u9d ⟨rfl, kk⟩
      have hbu9d := Lib.hid (hb.out.trans (kk.mono hb.out.size))
      replace hb := hbu9d
      clear hbu9d
      replace f0 := Lib.hid (f0.out.below kk)
      replace f1 := Lib.hid (f1.out.below kk)
      replace f2 := Lib.hid (f2.out.below kk)
      replace f4 := Lib.hid (f4.out.below kk)
      replace f5 := Lib.hid (f5.out.below kk)
      clear kk
      go_wp2_with fail
      refine (qr3.out _ (hT'.out.below hb.out)).mono ?_
      rintro e u10d ⟨A6, cap6, rfl, -, kk⟩
      have hbu10d := Lib.hid (hb.out.trans (kk.mono hb.out.size))
      replace hb := hbu10d
      clear hbu10d
      replace f0 := Lib.hid (f0.out.below kk)
      replace f1 := Lib.hid (f1.out.below kk)
      replace f2 := Lib.hid (f2.out.below kk)
      replace f4 := Lib.hid (f4.out.below kk)
      replace f5 := Lib.hid (f5.out.below kk)
      clear kk
      clear qr3
      go_wp2_with fail
      refine (q7.out _ (hT'.out.below hb.out)).mono ?_
      rintro e u11d ⟨g7, rfl, f7, kk⟩
      replace f7 := Lib.hid f7
      have hbu11d := Lib.hid (hb.out.trans (kk.mono hb.out.size))
      replace hb := hbu11d
      clear hbu11d
      replace f0 := Lib.hid (f0.out.below kk)
      replace f1 := Lib.hid (f1.out.below kk)
      replace f2 := Lib.hid (f2.out.below kk)
      replace f4 := Lib.hid (f4.out.below kk)
      replace f5 := Lib.hid (f5.out.below kk)
      clear kk
      clear q7
      go_wp2_with fail
      refine (q8.out _ (hT'.out.below hb.out)).mono ?_
      rintro e u12d ⟨g8, rfl, f8, kk⟩
      replace f8 := Lib.hid f8
      have hbu12d := Lib.hid (hb.out.trans (kk.mono hb.out.size))
      replace hb := hbu12d
      clear hbu12d
      replace f0 := Lib.hid (f0.out.below kk)
      replace f1 := Lib.hid (f1.out.below kk)
      replace f2 := Lib.hid (f2.out.below kk)
      replace f4 := Lib.hid (f4.out.below kk)
      replace f5 := Lib.hid (f5.out.below kk)
      replace f7 := Lib.hid (f7.out.below kk)
      clear kk
      clear q8
      go_wp2_with fail
      refine (q9.out _ (hT'.out.below hb.out)).mono ?_
      rintro e u13d ⟨A9, cap9, rfl, a5, kk⟩
      replace a5 := Lib.hid a5
      have hbu13d := Lib.hid (hb.out.trans (kk.mono hb.out.size))
      replace hb := hbu13d
      clear hbu13d
      replace f0 := Lib.hid (f0.out.below kk)
      replace f1 := Lib.hid (f1.out.below kk)
      replace f2 := Lib.hid (f2.out.below kk)
      replace f4 := Lib.hid (f4.out.below kk)
      replace f5 := Lib.hid (f5.out.below kk)
      replace f7 := Lib.hid (f7.out.below kk)
      replace f8 := Lib.hid (f8.out.below kk)
      clear kk
      clear q9
      go_wp2_with fail
      refine (q10.out _ (hT'.out.below hb.out)).mono ?_
      rintro e u14d ⟨g10, rfl, f10, kk⟩
      replace f10 := Lib.hid f10
      have hbu14d := Lib.hid (hb.out.trans (kk.mono hb.out.size))
      replace hb := hbu14d
      clear hbu14d
      replace f0 := Lib.hid (f0.out.below kk)
      replace f1 := Lib.hid (f1.out.below kk)
      replace f2 := Lib.hid (f2.out.below kk)
      replace f4 := Lib.hid (f4.out.below kk)
      replace f5 := Lib.hid (f5.out.below kk)
      replace f7 := Lib.hid (f7.out.below kk)
      replace f8 := Lib.hid (f8.out.below kk)
      replace a5 := Lib.hid ((a5.out.below kk).more kk.size)
      clear kk
      clear q10
      go_wp2_with fail
      refine (q11.out _ (hT'.out.below hb.out)).mono ?_
      rintro e u15d ⟨g11, rfl, f11, kk⟩
      replace f11 := Lib.hid f11
      have hbu15d := Lib.hid (hb.out.trans (kk.mono hb.out.size))
      replace hb := hbu15d
      clear hbu15d
      replace f0 := Lib.hid (f0.out.below kk)
      replace f1 := Lib.hid (f1.out.below kk)
      replace f2 := Lib.hid (f2.out.below kk)
      replace f4 := Lib.hid (f4.out.below kk)
      replace f5 := Lib.hid (f5.out.below kk)
      replace f7 := Lib.hid (f7.out.below kk)
      replace f8 := Lib.hid (f8.out.below kk)
      replace f10 := Lib.hid (f10.out.below kk)
      replace a5 := Lib.hid ((a5.out.below kk).more kk.size)
      clear kk
      clear q11
      have qw := Lib.hid (works_any _ (hT'.out.below hb.out))
      go_wp2_with fail
      refine qw.out.mono ?_
      rintro e u16d ⟨rfl, kk⟩
      have hbu16d := Lib.hid (hb.out.trans (kk.mono hb.out.size))
      replace hb := hbu16d
      clear hbu16d
      replace f0 := Lib.hid (f0.out.below kk)
      replace f1 := Lib.hid (f1.out.below kk)
      replace f2 := Lib.hid (f2.out.below kk)
      replace f4 := Lib.hid (f4.out.below kk)
      replace f5 := Lib.hid (f5.out.below kk)
      replace f7 := Lib.hid (f7.out.below kk)
      replace f8 := Lib.hid (f8.out.below kk)
      replace f10 := Lib.hid (f10.out.below kk)
      replace f11 := Lib.hid (f11.out.below kk)
      replace a5 := Lib.hid ((a5.out.below kk).more kk.size)
      clear kk
      clear qw
      have hal := (Below.refl u16d.heap.size u16d).alloc (Nat.le_refl _) (.cells #[.int .i64 9, .int .i64 0] 54)
      have ht := told_fault 9 0 g0 u16d.heap.size (u16d.alloc (.cells #[.int .i64 9, .int .i64 0] 54)) ((hE'.out.below hT'.out hb.out).below (hT'.out.below hb.out) hal) (f0.out.below hal).2.1 (f0.out.below hal).2.2 (by simp) (by simp)
      replace ht := Lib.hid ht
      replace hal := Lib.hid hal
      go_wp2_with fail
      refine ht.out.mono ?_
      rintro e u17d ⟨rfl, kk1⟩
      have kk := hal.out.trans (kk1.mono hal.out.size)
      clear kk1 hal ht
      have hbu17d := Lib.hid (hb.out.trans (kk.mono hb.out.size))
      replace hb := hbu17d
      clear hbu17d
      replace f0 := Lib.hid (f0.out.below kk)
      replace f1 := Lib.hid (f1.out.below kk)
      replace f2 := Lib.hid (f2.out.below kk)
      replace f4 := Lib.hid (f4.out.below kk)
      replace f5 := Lib.hid (f5.out.below kk)
      replace f7 := Lib.hid (f7.out.below kk)
      replace f8 := Lib.hid (f8.out.below kk)
      replace f10 := Lib.hid (f10.out.below kk)
      replace f11 := Lib.hid (f11.out.below kk)
      replace a5 := Lib.hid ((a5.out.below kk).more kk.size)
      clear kk
      have hal := (Below.refl u17d.heap.size u17d).alloc (Nat.le_refl _) (.cells #[.int .i64 11, .int .i64 1] 54)
      have ht := told_fault 11 1 g1 u17d.heap.size (u17d.alloc (.cells #[.int .i64 11, .int .i64 1] 54)) ((hE'.out.below hT'.out hb.out).below (hT'.out.below hb.out) hal) (f1.out.below hal).2.1 (f1.out.below hal).2.2 (by simp) (by simp)
      replace ht := Lib.hid ht
      replace hal := Lib.hid hal
      go_wp2_with fail
      refine ht.out.mono ?_
      rintro e u18d ⟨rfl, kk1⟩
      have kk := hal.out.trans (kk1.mono hal.out.size)
      clear kk1 hal ht
      have hbu18d := Lib.hid (hb.out.trans (kk.mono hb.out.size))
      replace hb := hbu18d
      clear hbu18d
      replace f0 := Lib.hid (f0.out.below kk)
      replace f1 := Lib.hid (f1.out.below kk)
      replace f2 := Lib.hid (f2.out.below kk)
      replace f4 := Lib.hid (f4.out.below kk)
      replace f5 := Lib.hid (f5.out.below kk)
      replace f7 := Lib.hid (f7.out.below kk)
      replace f8 := Lib.hid (f8.out.below kk)
      replace f10 := Lib.hid (f10.out.below kk)
      replace f11 := Lib.hid (f11.out.below kk)
      replace a5 := Lib.hid ((a5.out.below kk).more kk.size)
      clear kk
      have hal := (Below.refl u18d.heap.size u18d).alloc (Nat.le_refl _) (.cells #[.int .i64 4, .int .i64 0] 54)
      have ht := told_fault 4 0 g2 u18d.heap.size (u18d.alloc (.cells #[.int .i64 4, .int .i64 0] 54)) ((hE'.out.below hT'.out hb.out).below (hT'.out.below hb.out) hal) (f2.out.below hal).2.1 (f2.out.below hal).2.2 (by simp) (by simp)
      replace ht := Lib.hid ht
      replace hal := Lib.hid hal
      go_wp2_with fail
      refine ht.out.mono ?_
      rintro e u19d ⟨rfl, kk1⟩
      have kk := hal.out.trans (kk1.mono hal.out.size)
      clear kk1 hal ht
      have hbu19d := Lib.hid (hb.out.trans (kk.mono hb.out.size))
      replace hb := hbu19d
      clear hbu19d
      replace f0 := Lib.hid (f0.out.below kk)
      replace f1 := Lib.hid (f1.out.below kk)
      replace f2 := Lib.hid (f2.out.below kk)
      replace f4 := Lib.hid (f4.out.below kk)
      replace f5 := Lib.hid (f5.out.below kk)
      replace f7 := Lib.hid (f7.out.below kk)
      replace f8 := Lib.hid (f8.out.below kk)
      replace f10 := Lib.hid (f10.out.below kk)
      replace f11 := Lib.hid (f11.out.below kk)
      replace a5 := Lib.hid ((a5.out.below kk).more kk.size)
      clear kk
      have hal := (Below.refl u19d.heap.size u19d).alloc (Nat.le_refl _) (.cells #[.int .i64 3, .int .i64 0] 54)
      have ht := told_fault 3 0 g4 u19d.heap.size (u19d.alloc (.cells #[.int .i64 3, .int .i64 0] 54)) ((hE'.out.below hT'.out hb.out).below (hT'.out.below hb.out) hal) (f4.out.below hal).2.1 (f4.out.below hal).2.2 (by simp) (by simp)
      replace ht := Lib.hid ht
      replace hal := Lib.hid hal
      go_wp2_with fail
      refine ht.out.mono ?_
      rintro e u20d ⟨rfl, kk1⟩
      have kk := hal.out.trans (kk1.mono hal.out.size)
      clear kk1 hal ht
      have hbu20d := Lib.hid (hb.out.trans (kk.mono hb.out.size))
      replace hb := hbu20d
      clear hbu20d
      replace f0 := Lib.hid (f0.out.below kk)
      replace f1 := Lib.hid (f1.out.below kk)
      replace f2 := Lib.hid (f2.out.below kk)
      replace f4 := Lib.hid (f4.out.below kk)
      replace f5 := Lib.hid (f5.out.below kk)
      replace f7 := Lib.hid (f7.out.below kk)
      replace f8 := Lib.hid (f8.out.below kk)
      replace f10 := Lib.hid (f10.out.below kk)
      replace f11 := Lib.hid (f11.out.below kk)
      replace a5 := Lib.hid ((a5.out.below kk).more kk.size)
      clear kk
      have hal := (Below.refl u20d.heap.size u20d).alloc (Nat.le_refl _) (.cells #[.int .i64 3, .int .i64 4096] 54)
      have ht := told_fault 3 4096 g5 u20d.heap.size (u20d.alloc (.cells #[.int .i64 3, .int .i64 4096] 54)) ((hE'.out.below hT'.out hb.out).below (hT'.out.below hb.out) hal) (f5.out.below hal).2.1 (f5.out.below hal).2.2 (by simp) (by simp)
      replace ht := Lib.hid ht
      replace hal := Lib.hid hal
      go_wp2_with fail
      refine ht.out.mono ?_
      rintro e u21d ⟨rfl, kk1⟩
      have kk := hal.out.trans (kk1.mono hal.out.size)
      clear kk1 hal ht
      have hbu21d := Lib.hid (hb.out.trans (kk.mono hb.out.size))
      replace hb := hbu21d
      clear hbu21d
      replace f0 := Lib.hid (f0.out.below kk)
      replace f1 := Lib.hid (f1.out.below kk)
      replace f2 := Lib.hid (f2.out.below kk)
      replace f4 := Lib.hid (f4.out.below kk)
      replace f5 := Lib.hid (f5.out.below kk)
      replace f7 := Lib.hid (f7.out.below kk)
      replace f8 := Lib.hid (f8.out.below kk)
      replace f10 := Lib.hid (f10.out.below kk)
      replace f11 := Lib.hid (f11.out.below kk)
      replace a5 := Lib.hid ((a5.out.below kk).more kk.size)
      clear kk
      have hal := (Below.refl u21d.heap.size u21d).alloc (Nat.le_refl _) (.cells #[.int .i64 4, .int .i64 0] 54)
      have ht := told_fault 4 0 g7 u21d.heap.size (u21d.alloc (.cells #[.int .i64 4, .int .i64 0] 54)) ((hE'.out.below hT'.out hb.out).below (hT'.out.below hb.out) hal) (f7.out.below hal).2.1 (f7.out.below hal).2.2 (by simp) (by simp)
      replace ht := Lib.hid ht
      replace hal := Lib.hid hal
      go_wp2_with fail
      refine ht.out.mono ?_
      rintro e u22d ⟨rfl, kk1⟩
      have kk := hal.out.trans (kk1.mono hal.out.size)
      clear kk1 hal ht
      have hbu22d := Lib.hid (hb.out.trans (kk.mono hb.out.size))
      replace hb := hbu22d
      clear hbu22d
      replace f0 := Lib.hid (f0.out.below kk)
      replace f1 := Lib.hid (f1.out.below kk)
      replace f2 := Lib.hid (f2.out.below kk)
      replace f4 := Lib.hid (f4.out.below kk)
      replace f5 := Lib.hid (f5.out.below kk)
      replace f7 := Lib.hid (f7.out.below kk)
      replace f8 := Lib.hid (f8.out.below kk)
      replace f10 := Lib.hid (f10.out.below kk)
      replace f11 := Lib.hid (f11.out.below kk)
      replace a5 := Lib.hid ((a5.out.below kk).more kk.size)
      clear kk
      have hal := (Below.refl u22d.heap.size u22d).alloc (Nat.le_refl _) (.cells #[.int .i64 4, .int .i64 0] 54)
      have ht := told_fault 4 0 g8 u22d.heap.size (u22d.alloc (.cells #[.int .i64 4, .int .i64 0] 54)) ((hE'.out.below hT'.out hb.out).below (hT'.out.below hb.out) hal) (f8.out.below hal).2.1 (f8.out.below hal).2.2 (by simp) (by simp)
      replace ht := Lib.hid ht
      replace hal := Lib.hid hal
      go_wp2_with fail
      refine ht.out.mono ?_
      rintro e u23d ⟨rfl, kk1⟩
      have kk := hal.out.trans (kk1.mono hal.out.size)
      clear kk1 hal ht
      have hbu23d := Lib.hid (hb.out.trans (kk.mono hb.out.size))
      replace hb := hbu23d
      clear hbu23d
      replace f0 := Lib.hid (f0.out.below kk)
      replace f1 := Lib.hid (f1.out.below kk)
      replace f2 := Lib.hid (f2.out.below kk)
      replace f4 := Lib.hid (f4.out.below kk)
      replace f5 := Lib.hid (f5.out.below kk)
      replace f7 := Lib.hid (f7.out.below kk)
      replace f8 := Lib.hid (f8.out.below kk)
      replace f10 := Lib.hid (f10.out.below kk)
      replace f11 := Lib.hid (f11.out.below kk)
      replace a5 := Lib.hid ((a5.out.below kk).more kk.size)
      clear kk
      have hal := (Below.refl u23d.heap.size u23d).alloc (Nat.le_refl _) (.cells #[.int .u32 5] 24)
      have hwl : WL (u23d.alloc (.cells #[.int .u32 5] 24)) (u23d.alloc (.cells #[.int .u32 5] 24)).heap.size (some ⟨u23d.heap.size, 0, none⟩) [5] := fun _ => ⟨u23d.heap.size, 0, rfl, by simp, fun j u hu => by
        match j, hu with
        | 0, hu => simp at hu; subst hu; simp⟩
      have ht := words_same [5] A9 (some ⟨u23d.heap.size, 0, none⟩) cap9 1 (u23d.alloc (.cells #[.int .u32 5] 24)) ((a5.out.below hal).more hal.size) hwl (by decide)
      replace ht := Lib.hid ht
      replace hal := Lib.hid hal
      clear hwl
      go_wp2_with fail
      refine ht.out.mono ?_
      rintro e u24d ⟨rfl, kk1⟩
      have kk := hal.out.trans (kk1.mono hal.out.size)
      clear kk1 hal ht
      have hbu24d := Lib.hid (hb.out.trans (kk.mono hb.out.size))
      replace hb := hbu24d
      clear hbu24d
      replace f0 := Lib.hid (f0.out.below kk)
      replace f1 := Lib.hid (f1.out.below kk)
      replace f2 := Lib.hid (f2.out.below kk)
      replace f4 := Lib.hid (f4.out.below kk)
      replace f5 := Lib.hid (f5.out.below kk)
      replace f7 := Lib.hid (f7.out.below kk)
      replace f8 := Lib.hid (f8.out.below kk)
      replace f10 := Lib.hid (f10.out.below kk)
      replace f11 := Lib.hid (f11.out.below kk)
      replace a5 := Lib.hid ((a5.out.below kk).more kk.size)
      clear kk
      have hal := (Below.refl u24d.heap.size u24d).alloc (Nat.le_refl _) (.cells #[.int .i64 4, .int .i64 0] 54)
      have ht := told_fault 4 0 g10 u24d.heap.size (u24d.alloc (.cells #[.int .i64 4, .int .i64 0] 54)) ((hE'.out.below hT'.out hb.out).below (hT'.out.below hb.out) hal) (f10.out.below hal).2.1 (f10.out.below hal).2.2 (by simp) (by simp)
      replace ht := Lib.hid ht
      replace hal := Lib.hid hal
      go_wp2_with fail
      refine ht.out.mono ?_
      rintro e u25d ⟨rfl, kk1⟩
      have kk := hal.out.trans (kk1.mono hal.out.size)
      clear kk1 hal ht
      have hbu25d := Lib.hid (hb.out.trans (kk.mono hb.out.size))
      replace hb := hbu25d
      clear hbu25d
      replace f0 := Lib.hid (f0.out.below kk)
      replace f1 := Lib.hid (f1.out.below kk)
      replace f2 := Lib.hid (f2.out.below kk)
      replace f4 := Lib.hid (f4.out.below kk)
      replace f5 := Lib.hid (f5.out.below kk)
      replace f7 := Lib.hid (f7.out.below kk)
      replace f8 := Lib.hid (f8.out.below kk)
      replace f10 := Lib.hid (f10.out.below kk)
      replace f11 := Lib.hid (f11.out.below kk)
      replace a5 := Lib.hid ((a5.out.below kk).more kk.size)
      clear kk
      have hal := (Below.refl u25d.heap.size u25d).alloc (Nat.le_refl _) (.cells #[.int .i64 4, .int .i64 0] 54)
      have ht := told_fault 4 0 g11 u25d.heap.size (u25d.alloc (.cells #[.int .i64 4, .int .i64 0] 54)) ((hE'.out.below hT'.out hb.out).below (hT'.out.below hb.out) hal) (f11.out.below hal).2.1 (f11.out.below hal).2.2 (by simp) (by simp)
      replace ht := Lib.hid ht
      replace hal := Lib.hid hal
      go_wp2_with fail
      refine ht.out.mono ?_
      rintro e u26d ⟨rfl, kk1⟩
      have kk := hal.out.trans (kk1.mono hal.out.size)
      clear kk1 hal ht
      have hbu26d := Lib.hid (hb.out.trans (kk.mono hb.out.size))
      replace hb := hbu26d
      clear hbu26d
      replace f0 := Lib.hid (f0.out.below kk)
      replace f1 := Lib.hid (f1.out.below kk)
      replace f2 := Lib.hid (f2.out.below kk)
      replace f4 := Lib.hid (f4.out.below kk)
      replace f5 := Lib.hid (f5.out.below kk)
      replace f7 := Lib.hid (f7.out.below kk)
      replace f8 := Lib.hid (f8.out.below kk)
      replace f10 := Lib.hid (f10.out.below kk)
      replace f11 := Lib.hid (f11.out.below kk)
      replace a5 := Lib.hid ((a5.out.below kk).more kk.size)
      clear kk
      go_wp2_with fail
      go_ret
      exact ⟨rfl, hb.out⟩

theorem lifted (os : Os) (started : os.Started) (H : Type) (enc : TypeId × Value → H) :
    ReturnsInHanded {} Tryz.checked os 9 .any (fun w args => (Rows.asmKnownSpec.pre enc Tryz.prog Tryz.f9 [] false w args ∧ laidMetH Tryz.prog Rows.asmKnownRow.laid w) ∧ sizedMet enc Tryz.prog Tryz.f9 (OpenSpec.ofChange Rows.asmKnownSpec) false w args) (Rows.asmKnownSpec.post enc Tryz.prog Tryz.f9 false true false false) := by
  refine change_and_shaped (C := Tryz.checked) (X := fun w _ => laidMetH Tryz.prog Rows.asmKnownRow.laid w) (fun _ _ _ hh h => h.of_heap hh) own started (by kernel_rfl) Tryz.func9
    (ChangeSpec.witness_at (enc := enc) (C := Tryz.checked) (os := os) (X := fun w _ => laidMetH Tryz.prog Rows.asmKnownRow.laid w) false (laidWorldH os) #[] 8 rfl (by kernel_rfl) (by kernel_rfl) (by kernel_rfl) (by kernel_rfl) (by kernel_rfl) (laid_metH os _)) ?_
  intro W base args ds gs before hval0 hW _ hsz hL hsh
  have hW' := hW
  obtain ⟨p, q, hA0, hV, rfl, hfz, hnd⟩ := hW
  have hA : DataW.TrodAll enc Tryz.prog W 0 (fun _ => true) true Tryz.f9.params.toList args.toList ds p := hA0
  rw [Tryz.params9] at hA
  obtain ⟨rfl, rfl, rfl⟩ := trodAll_none hA
  obtain ⟨rfl, rfl⟩ := trodVars_none hV
  have hP := parts_of_laidH hL hsh
  refine (walk W hP.1 hP.2).mono fun e W' ⟨he, bel⟩ => ?_
  subst he
  exact ⟨_, rfl, _, _, _, [], _, [], hW', trodAll_mk1 (shut_bool Tryz.underlying4 _), trodAll_mk0, rfl, bel.frame _, fun h => by cases h⟩
theorem over : Rows.AsmKnownSaid :=
  OpenClaim.holds_of_wide 9 Tryz.f9 rfl rfl rfl rfl rfl rfl rfl ⟨rfl, rfl, rfl, rfl, rfl⟩ rfl rfl rfl rfl rfl (by kernel_rfl) Tryz.func9 (by kernel_rfl)
    (of_decide_eq_true (by kernel_rfl)) (by unfold Func.isWrapper; first | (rw [if_pos (by decide +kernel)]; kernel_rfl) | (rw [if_neg (by decide +kernel)]; exact ⟨rfl, rfl⟩))
    (fun os started H enc _ => lifted os started H enc)
/-- The given statement. -/
theorem proved : Rows.AsmKnownCardSaid :=
  Claim7.holds_tied_plain_at .later [] _ _ _ _
    over (fun _ h => by cases h) (by kernel_rfl) (fun _ h => by cases h) asmKnown_row_tie rfl ⟨rfl, rfl⟩ (by kernel_rfl) rfl
    (fun f fn hf hfn => by
      obtain rfl : f = 9 := Option.some.inj ((show Tryz.prog.funcNamed "fallow/fallowlaw08.AsmKnown" = some 9 by kernel_rfl).symm.trans hf) |>.symm
      obtain rfl : fn = Tryz.f9 := (Option.some.inj (Tryz.func9.symm.trans hfn)).symm
      exact ⟨by kernel_rfl, fun j t ht => by
        rw [Tryz.params9] at ht
        simp at ht⟩)
    (by kernel_rfl)
end Go.Proofs.YtdkggahkfheocaaGreatDoor.sknown
