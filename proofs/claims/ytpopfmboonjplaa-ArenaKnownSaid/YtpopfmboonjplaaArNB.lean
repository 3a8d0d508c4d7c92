/- Contracts of layer arena at an arena that is none, and at one that New did not make: LoadCap, StoreCap, Zero, Tagged, Copy. No statement is proved here. -/
import Derived.Test.YtpopfmboonjplaaArN
namespace Go.Proofs.Ytpopfmboonjplaa
open Go.RowKit
set_option linter.unusedVariables false
section
variable {P : Value} {w : World}
theorem ncopy (H : Emp P w) : Calls Try.prog 17 #[P] w fun e w' => e = .returned (.pointer none) ∧ Below w.heap.size w w' := by
  have hO := Lib.hid (own_emp H)
  clear H
  go_enter Try.func17, Try.ntmps17
  go_wp2_with fail
  refine hO.out.mono ?_
  rintro e w2 ⟨rfl, hb⟩
  have hE := Lib.hid (hb.alloc hb.size (.cells #[.pointer none, .slice none 0 0] 69))
  clear hb
  go_wp2
  go_ret
  exact ⟨rfl, hE.out⟩
theorem tlen_nil (w : World) : Calls Try.prog 59 #[.pointer none] w fun e w' => e = .returned (.int .i64 0) ∧ w = w' := by
  go_enter Try.func59, Try.ntmps59
  go_wp2
  go_ret
  exact ⟨rfl, rfl⟩
theorem ntagged (H : Emp P w) : Calls Try.prog 26 #[P, .int .i64 0] w fun e w' => e = .returned (.slice none 0 0) ∧ Below w.heap.size w w' := by
  have hO := Lib.hid (own_emp H)
  clear H
  go_enter Try.func26, Try.ntmps26
  go_wp2_with fail
  refine hO.out.mono ?_
  rintro e w2 ⟨rfl, hb⟩
  have hE := Lib.hid (hb.alloc hb.size (.cells #[.pointer none, .slice none 0 0] 69))
  clear hb
  go_wp2_with fail
  refine (tlen_nil _).mono ?_
  rintro e w' ⟨rfl, rfl⟩
  go_wp2
  go_ret
  exact ⟨rfl, hE.out⟩
theorem nlcap (H : Emp P w) : Calls Try.prog 27 #[P, .int .u32 0] w fun e w' => e = .returned (.tuple #[cap0, .bool false]) ∧ Below w.heap.size w w' := by
  have hO := Lib.hid (fun o => own_emp (H.below ((Below.refl _ w).alloc (Nat.le_refl _) o)))
  have hT := Lib.hid (fun S w => there_none S 0 16 w)
  have K0 := Lib.hid ((KR.start (W := w)).push (cv 0 0 0 0 0 0 0 false) 25)
  have hfin : ∀ w4, KR w [⟨w.heap.size, cv 0 0 0 0 0 0 0 false⟩] w4 → KR w [⟨w.heap.size, cv 0 0 0 0 0 0 0 false⟩] (setRow w.heap.size 0 (cv 0 0 0 0 0 0 0 false) w4) := fun w4 h => h.whole (cv 0 0 0 0 0 0 0 false) (Nat.le_refl _) (fun x hx => by cases hx) rfl
  replace hfin := Lib.hid hfin
  clear H
  go_enter Try.func27, Try.ntmps27
  go_wp2_with fail
  refine (hO.out _).mono ?_
  rintro e w2 ⟨rfl, hb⟩
  have K1 := Lib.hid ((K0.out.below hb).alloc (.cells #[.pointer none, .slice none 0 0] 69))
  clear hb
  go_wp2_with fail
  refine (hT.out _ _).mono ?_
  rintro e w4 ⟨rfl, hb⟩
  have K2 := Lib.hid (K1.out.below hb)
  clear hb
  obtain ⟨r0, r1, r2, r3, r4, r5, r6, r7, fr⟩ := K2.out.cells8 (g := w.heap.size) (cu := 0) (e := 0) (b := 0) (t := 0) (pm := 0) (ty := 0) (rs := 0) (va := false) (by simp)
  go_wp2_with fail
  have hf := Lib.hid (hfin.out _ K2.out)
  change bodyPost _ _ _ _ _ (setRow w.heap.size 0 (cv 0 0 0 0 0 0 0 false) w4)
  clear r0 r1 r2 r3 r4 r5 r6 r7 fr
  generalize setRow w.heap.size 0 (cv 0 0 0 0 0 0 0 false) w4 = w5 at *
  obtain ⟨z0, z1, z2, z3, z4, z5, z6, z7⟩ := hf.out.cap (g := w.heap.size) (List.mem_cons_self ..)
  exact bodyPost_ret (v := .tuple #[cap0, .bool false]) (by simp [results, Try.results27, go_sem, z0, z1, z2, z3, z4, z5, z6, z7, cap0]) rfl ⟨rfl, hf.out.bl⟩
set_option maxHeartbeats 2000000 in
theorem nzero (H : Emp P w) : Calls Try.prog 30 #[P, .agg #[.int .u32 0, .int .u32 0]] w fun e w' => e = .returned (.bool false) ∧ Below w.heap.size w w' := by
  have hO := Lib.hid (fun o => own_emp (H.below ((Below.refl _ w).alloc (Nat.le_refl _) o)))
  have hT := Lib.hid (show ∀ w, Calls Try.prog 61 #[.agg #[.pointer none, .slice none 0 0], .int .u32 0, .int .i64 0] w fun e w' => e = .returned (.bool false) ∧ Below w.heap.size w w' from fun w => there_none (.slice none 0 0) 0 0 w)
  have K0 := Lib.hid ((KR.start (W := w)).push [.int .u32 0, .int .u32 0] 31)
  clear H
  go_enter Try.func30, Try.ntmps30
  go_wp2_with fail
  refine (hO.out _).mono ?_
  rintro e w2 ⟨rfl, hb⟩
  have K1 := Lib.hid ((K0.out.below hb).push [.pointer none, .slice none 0 0] 69)
  clear hb
  go_wp2_with fail
  generalize (w2.alloc (.cells #[.pointer none, .slice none 0 0] 69)) = w3 at *
  obtain ⟨S, hS0⟩ : ∃ S, S = KR w [⟨w2.heap.size, [.pointer none, .slice none 0 0]⟩, ⟨w.heap.size, [.int .u32 0, .int .u32 0]⟩] := ⟨_, rfl⟩
  have hK : ∀ w', S w' → KR w [⟨w2.heap.size, [.pointer none, .slice none 0 0]⟩, ⟨w.heap.size, [.int .u32 0, .int .u32 0]⟩] w' := fun w' h => by rw [← hS0]; exact h
  have hS : ∀ w1 w', S w1 → Below w1.heap.size w1 w' → S w' := fun w1 w' h k => by rw [hS0] at h ⊢; exact h.below k
  have K2 := Lib.hid (show S w3 by rw [hS0]; exact K1.out)
  clear hS0
  have cT := Lib.hid (cls_bel hS hT.out)
  have b0 : ∀ y : Wd S, y.w.cell? ⟨w2.heap.size, 0, none⟩ = some (.pointer none) := fun y => (hK _ y.h).cell (g := w2.heap.size) [.pointer none, .slice none 0 0] (by simp) rfl
  have b1 : ∀ y : Wd S, y.w.cell? ⟨w2.heap.size, 1, none⟩ = some (.slice none 0 0) := fun y => (hK _ y.h).cell (g := w2.heap.size) [.pointer none, .slice none 0 0] (by simp) rfl
  have b2 : ∀ y : Wd S, y.w.cell? ⟨w.heap.size, 0, none⟩ = some (.int .u32 0) := fun y => (hK _ y.h).cell (g := w.heap.size) [.int .u32 0, .int .u32 0] (by simp) rfl
  have b3 : ∀ y : Wd S, y.w.cell? ⟨w.heap.size, 1, none⟩ = some (.int .u32 0) := fun y => (hK _ y.h).cell (g := w.heap.size) [.int .u32 0, .int .u32 0] (by simp) rfl
  have hund : undef = Value.tuple #[] := rfl
  refine region_cls S (by kernel_rfl) (by kernel_rfl) (hS _ _ K2.out (Below.refl _ _).drew) ?_
  repeat (first
    | go_big_quiet_skip
    | (go_big_quiet_want
       go_big_quiet_op
       first
       | go_big_quiet_on
       | (apply Exists.intro
          refine ⟨fun y => ?_, ?_⟩
          · first | exact rfl | with_reducible exact cT.out y
          go_big_quiet_on)))
  refine wpQuiet_nil ?_
  intro y
  have hk := Lib.hid (hK _ y.h).bl
  go_wp2
  go_ret
  exact ⟨rfl, hk.out⟩
set_option maxRecDepth 100000 in
set_option maxHeartbeats 4000000 in
theorem nscap (H : Emp P w) (cu e b t pm ty rs : Nat) (va : Bool) (l0 : cu < 4294967296) (l1 : e < 256) (l2 : b < 65536) (l3 : t < 65536) (l4 : pm < 65536) (l5 : ty < 65536) (l6 : rs < 4294967296) : Calls Try.prog 18 #[P, .int .u32 0, .agg #[.int .u32 cu, .int .u8 e, .int .u16 b, .int .u16 t, .int .u16 pm, .int .u16 ty, .int .u32 rs, .bool va]] w fun ee w' => ee = .returned (.bool false) ∧ Below w.heap.size w w' := by
  have hO := Lib.hid (fun o => own_emp (H.below ((Below.refl _ w).alloc (Nat.le_refl _) o)))
  have hBy := Lib.hid (fun w => pBytes_any cu e b t pm ty rs va l0 l1 l2 l3 l4 l5 l6 w)
  have hL := Lib.hid (show ∀ k cp (A : Option Addr) w, Calls Try.prog 45 #[.agg #[.pointer none, .slice none 0 0], .int .u32 0, .slice A k cp] w fun e w' => e = .returned (.bool false) ∧ Below w.heap.size w w' from fun k cp A w => lay_none (.pointer none) (.slice none 0 0) 0 k cp A w rfl)
  have K0 := Lib.hid ((KR.start (W := w)).push (cv cu e b t pm ty rs va) 25)
  generalize bytesC cu e b t pm ty rs = s at *
  have hconv : ∀ w, (convert 9 28 (.string ⟨s.toArray⟩)).run Try.prog w = .ok (.slice (some ⟨w.heap.size, 0, none⟩) s.length (grownCap w s.length 0 5)) (Lib.bytesWorld w 5 ⟨s.toArray⟩) := fun w => Lib.run_convert_string_bytes w _ _ _ _ Try.underlying9 Try.underlying28 Try.underlying5
  clear H
  go_enter Try.func18, Try.ntmps18
  go_wp2_with fail
  refine (hO.out _).mono ?_
  rintro ee w2 ⟨rfl, hb⟩
  have K1 := Lib.hid ((K0.out.below hb).push [.pointer none, .slice none 0 0] 69)
  clear hb
  have tr : ∀ w', (w'.cell? ⟨w.heap.size, 0, none⟩ = some (.int .u32 cu) ∧ w'.cell? ⟨w.heap.size, 1, none⟩ = some (.int .u8 e) ∧ w'.cell? ⟨w.heap.size, 2, none⟩ = some (.int .u16 b) ∧ w'.cell? ⟨w.heap.size, 3, none⟩ = some (.int .u16 t) ∧ w'.cell? ⟨w.heap.size, 4, none⟩ = some (.int .u16 pm) ∧ w'.cell? ⟨w.heap.size, 5, none⟩ = some (.int .u16 ty) ∧ w'.cell? ⟨w.heap.size, 6, none⟩ = some (.int .u32 rs) ∧ w'.cell? ⟨w.heap.size, 7, none⟩ = some (.bool va) ∧ w'.cell? ⟨w2.heap.size, 0, none⟩ = some (.pointer none) ∧ w'.cell? ⟨w2.heap.size, 1, none⟩ = some (.slice none 0 0) ∧ KR w [⟨w2.heap.size, [.pointer none, .slice none 0 0]⟩, ⟨w.heap.size, cv cu e b t pm ty rs va⟩] w') → KR w [⟨w2.heap.size, [.pointer none, .slice none 0 0]⟩, ⟨w.heap.size, cv cu e b t pm ty rs va⟩] w' := fun w' h => h.2.2.2.2.2.2.2.2.2.2
  have all : ∀ w', KR w [⟨w2.heap.size, [.pointer none, .slice none 0 0]⟩, ⟨w.heap.size, cv cu e b t pm ty rs va⟩] w' → w'.cell? ⟨w.heap.size, 0, none⟩ = some (.int .u32 cu) ∧ w'.cell? ⟨w.heap.size, 1, none⟩ = some (.int .u8 e) ∧ w'.cell? ⟨w.heap.size, 2, none⟩ = some (.int .u16 b) ∧ w'.cell? ⟨w.heap.size, 3, none⟩ = some (.int .u16 t) ∧ w'.cell? ⟨w.heap.size, 4, none⟩ = some (.int .u16 pm) ∧ w'.cell? ⟨w.heap.size, 5, none⟩ = some (.int .u16 ty) ∧ w'.cell? ⟨w.heap.size, 6, none⟩ = some (.int .u32 rs) ∧ w'.cell? ⟨w.heap.size, 7, none⟩ = some (.bool va) ∧ w'.cell? ⟨w2.heap.size, 0, none⟩ = some (.pointer none) ∧ w'.cell? ⟨w2.heap.size, 1, none⟩ = some (.slice none 0 0) ∧ KR w [⟨w2.heap.size, [.pointer none, .slice none 0 0]⟩, ⟨w.heap.size, cv cu e b t pm ty rs va⟩] w' := fun w' h => by
    have p0 : CapAt w' w.heap.size cu e b t pm ty rs va := h.cap (by simp)
    exact ⟨p0.q0, p0.q1, p0.q2, p0.q3, p0.q4, p0.q5, p0.q6, p0.q7, h.cell (g := w2.heap.size) [.pointer none, .slice none 0 0] (by simp) rfl, h.cell (g := w2.heap.size) [.pointer none, .slice none 0 0] (by simp) rfl, h⟩
  replace tr := Lib.hid tr
  replace all := Lib.hid all
  go_wp2_with fail
  generalize (w2.alloc (.cells #[.pointer none, .slice none 0 0] 69)) = w3 at *
  have j0 := all.out _ K1.out.drew
  go_region_held (fun w' => w'.cell? ⟨w.heap.size, 0, none⟩ = some (.int .u32 cu) ∧ w'.cell? ⟨w.heap.size, 1, none⟩ = some (.int .u8 e) ∧ w'.cell? ⟨w.heap.size, 2, none⟩ = some (.int .u16 b) ∧ w'.cell? ⟨w.heap.size, 3, none⟩ = some (.int .u16 t) ∧ w'.cell? ⟨w.heap.size, 4, none⟩ = some (.int .u16 pm) ∧ w'.cell? ⟨w.heap.size, 5, none⟩ = some (.int .u16 ty) ∧ w'.cell? ⟨w.heap.size, 6, none⟩ = some (.int .u32 rs) ∧ w'.cell? ⟨w.heap.size, 7, none⟩ = some (.bool va) ∧ w'.cell? ⟨w2.heap.size, 0, none⟩ = some (.pointer none) ∧ w'.cell? ⟨w2.heap.size, 1, none⟩ = some (.slice none 0 0) ∧ KR w [⟨w2.heap.size, [.pointer none, .slice none 0 0]⟩, ⟨w.heap.size, cv cu e b t pm ty rs va⟩] w')
    (first | with_reducible exact j0 | with_reducible exact j1 | with_reducible exact j2 | with_reducible exact j3)
    (first
      | (go_at_call 13; ((with_reducible refine (hBy.out _).mono ?_); rintro ee X ⟨rfl, g1⟩; have j1 := all.out _ ((tr.out _ j0).below g1); have j2 := all.out _ ((tr.out _ j1).below (bw_below X 5 ⟨s.toArray⟩)); clear g1))
      | (go_at_call 45; ((with_reducible refine (hL.out _ _ _ _).mono ?_); rintro ee Y ⟨rfl, g1⟩; have j3 := all.out _ ((tr.out _ j2).below g1); clear g1)))
  have hR := Lib.hid (tr.out _ (by assumption)).bl
  clear j0 j1 j2 j3
  go_wp2
  go_ret
  exact ⟨rfl, hR.out⟩
end
end Go.Proofs.Ytpopfmboonjplaa
