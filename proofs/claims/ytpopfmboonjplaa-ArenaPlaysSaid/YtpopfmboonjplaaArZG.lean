/- Contract of the last kind of the laws' own 'step'. No statement is proved here.; Contract of the laws' own 'step': all kinds. No statement is proved here. -/
import Derived.Test.YtpopfmboonjplaaArZ
namespace Go.Proofs.Ytpopfmboonjplaa
open Go.RowKit
set_option linter.unusedVariables false
section
variable {B a mb wb bb c r rb tb n g : Nat} {f : Nat → Bool} {l : List UInt8} {w : World}
theorem two_cap (at_ : Nat) (la : at_ < 4294967296) {n g : Nat} {f : Nat → Bool} {l : List UInt8} : ∃ (c1 c2 c3 c4 c5 c6 c7 : Nat) (c8 y : Bool), (∀ a mb wb bb c w, ArAt w a mb wb bb c n g f l → Calls Try.prog 27 #[.pointer (some ⟨a, 0, none⟩), .int .u32 at_] w fun e w' => e = .returned (.tuple #[.agg #[.int .u32 c1, .int .u8 c2, .int .u16 c3, .int .u16 c4, .int .u16 c5, .int .u16 c6, .int .u32 c7, .bool c8], .bool y]) ∧ Below w.heap.size w w') ∧
    (∀ r rb tb w, RfAt w r rb tb n g f l → Calls Try.prog 55 #[.pointer (some ⟨r, 0, none⟩), .int .u32 at_] w fun e w' => e = .returned (.tuple #[.agg #[.int .u32 c1, .int .u8 c2, .int .u16 c3, .int .u16 c4, .int .u16 c5, .int .u16 c6, .int .u32 c7, .bool c8], .bool y]) ∧ Below w.heap.size w w') := by
  rcases h : grn n at_ with _ | _
  · exact ⟨0, 0, 0, 0, 0, 0, 0, false, false, fun a mb wb bb c w H => alcap_no H at_ la h, fun r rb tb w H => rlcap_no H at_ la h⟩
  · exact ⟨_, _, _, _, _, _, _, _, true, fun a mb wb bb c w H => alcap_yes H at_ la h, fun r rb tb w H => rlcap_yes H at_ la h⟩
theorem two_read (at_ : Nat) (la : at_ < 4294967296) (k : Int) (hk : -9223372036854775808 ≤ k ∧ k < 9223372036854775808) {n g : Nat} {f : Nat → Bool} {l : List UInt8} : ∃ (z : List UInt8) (y : Bool), (∀ a mb wb bb c w, ArAt w a mb wb bb c n g f l → Calls Try.prog 28 #[.pointer (some ⟨a, 0, none⟩), .int .u32 at_, .int .i64 k] w fun e w' => e = .returned (.tuple #[.string ⟨z.toArray⟩, .bool y]) ∧ Below w.heap.size w w') ∧
    (∀ r rb tb w, RfAt w r rb tb n g f l → Calls Try.prog 56 #[.pointer (some ⟨r, 0, none⟩), .int .u32 at_, .int .i64 k] w fun e w' => e = .returned (.tuple #[.string ⟨z.toArray⟩, .bool y]) ∧ Below w.heap.size w w') := by
  rcases h : thr n at_ k with _ | _
  · exact ⟨[], false, fun a mb wb bb c w H => aread_no H at_ k la hk h, fun r rb tb w H => rread_no H at_ k la hk h⟩
  · have h2 : 0 ≤ k ∧ (at_ : Int) + k ≤ n := by
      have := h
      simp [thr] at this
      omega
    obtain ⟨k', rfl⟩ := Int.eq_ofNat_of_zero_le h2.1
    exact ⟨_, true, fun a mb wb bb c w H => aread_yes H at_ k' la (by omega), fun r rb tb w H => rread_yes H at_ k' la (by omega)⟩
set_option maxRecDepth 100000 in
set_option maxHeartbeats 4000000 in
theorem step_5 (H : Two B a mb wb bb c r rb tb n g f l w) (kd wd : Int) (at_ v cu e b t pm ty rs : Nat) (va : Bool) (s : List UInt8) (hk : -9223372036854775808 ≤ kd ∧ kd < 9223372036854775808) (hm : Int.tmod (Int.tmod kd 7 + 7) 7 = 5) (hw : -9223372036854775808 ≤ wd ∧ wd < 9223372036854775808) (la : at_ < 4294967296) (lv : v < 4294967296) (l0 : cu < 4294967296) (l1 : e < 256) (l2 : b < 65536) (l3 : t < 65536) (l4 : pm < 65536) (l5 : ty < 65536) (l6 : rs < 4294967296) (ls : s.length < 9223372036854775808) :
    Calls Try.prog 20 #[.pointer (some ⟨a, 0, none⟩), .pointer (some ⟨r, 0, none⟩), .agg #[.int .i64 kd, .int .u32 at_, .int .i64 wd, .int .u32 v, .int .u32 cu, .int .u8 e, .int .u16 b, .int .u16 t, .int .u16 pm, .int .u16 ty, .int .u32 rs, .bool va, .string ⟨s.toArray⟩]] w fun e w' => e = .returned (.bool true) ∧ ∃ f' l', Two B a mb wb bb c r rb tb n g f' l' w' ∧ Below B w w' := by
  have K0 := Lib.hid ((RS.nil w).push [.int .i64 kd, .int .u32 at_, .int .i64 wd, .int .u32 v, .int .u32 cu, .int .u8 e, .int .u16 b, .int .u16 t, .int .u16 pm, .int .u16 ty, .int .u32 rs, .bool va, .string ⟨s.toArray⟩] 53)
  have H0 := Lib.hid (H.below ((Below.refl _ w).alloc (Nat.le_refl _) (.cells #[.int .i64 kd, .int .u32 at_, .int .i64 wd, .int .u32 v, .int .u32 cu, .int .u8 e, .int .u16 b, .int .u16 t, .int .u16 pm, .int .u16 ty, .int .u32 rs, .bool va, .string ⟨s.toArray⟩] 53)))
  have hb0 := Lib.hid ((Below.refl B w).alloc H.l1.2.2.2.2 (.cells #[.int .i64 kd, .int .u32 at_, .int .i64 wd, .int .u32 v, .int .u32 cu, .int .u8 e, .int .u16 b, .int .u16 t, .int .u16 pm, .int .u16 ty, .int .u32 rs, .bool va, .string ⟨s.toArray⟩] 53))
  have hX := Lib.hid (show wb < w.heap.size ∧ bb < w.heap.size ∧ rb < w.heap.size ∧ tb < w.heap.size from ⟨H.ar.m.lw, H.ar.lb, H.rf.lb, H.rf.lt⟩)
  obtain ⟨t1, ht1⟩ : ∃ t1, t1 = Int.tmod kd 7 := ⟨_, rfl⟩
  have hr1 : -7 < t1 ∧ t1 < 7 := by rw [ht1]; exact ⟨Int.lt_tmod_of_pos kd (by decide), Int.tmod_lt_of_pos kd (by decide)⟩
  rw [← ht1] at hm
  have t3 : IntKind.i64.wrap t1 = t1 := by rw [IntKind.wrap_i64]; omega
  have t4 : IntKind.i64.wrap (t1 + 7) = t1 + 7 := by rw [IntKind.wrap_i64]; omega
  have t5 : kd.tmod 7 = t1 := ht1.symm
  have e7 : (t1 + 7).tmod 7 = (t1 + 7) % 7 := Int.tmod_eq_emod_of_nonneg (by omega)
  have t6 : (t1 + 7) % 7 = 5 := by rw [← e7]; exact hm
  have tr1 := hr1.1
  have tr2 := hr1.2
  clear H hm hr1 ht1 hk e7
  go_enter Try.func20, Try.ntmps20
  go_upto_region 1 with (fail)
  generalize (w.alloc (.cells #[.int .i64 kd, .int .u32 at_, .int .i64 wd, .int .u32 v, .int .u32 cu, .int .u8 e, .int .u16 b, .int .u16 t, .int .u16 pm, .int .u16 ty, .int .u32 rs, .bool va, .string ⟨s.toArray⟩] 53)) = w1 at *
  have p0 := K0.out.cell (g := w.heap.size) (j := 0) (u := .int .i64 kd) [.int .i64 kd, .int .u32 at_, .int .i64 wd, .int .u32 v, .int .u32 cu, .int .u8 e, .int .u16 b, .int .u16 t, .int .u16 pm, .int .u16 ty, .int .u32 rs, .bool va, .string ⟨s.toArray⟩] (by simp) rfl
  obtain ⟨c1, c2, c3, c4, c5, c6, c7, c8, yc, hA1, hR1⟩ := two_cap at_ la (n := n) (g := g) (f := f) (l := l)
  obtain ⟨zs, yz, hA2, hR2⟩ := two_read at_ la wd hw (n := n) (g := g) (f := f) (l := l)
  have hEq : ∀ w, (Op.equalIn 10000 25 (.agg #[.int .u32 c1, .int .u8 c2, .int .u16 c3, .int .u16 c4, .int .u16 c5, .int .u16 c6, .int .u32 c7, .bool c8]) (.agg #[.int .u32 c1, .int .u8 c2, .int .u16 c3, .int .u16 c4, .int .u16 c5, .int .u16 c6, .int .u32 c7, .bool c8])).run Try.prog w = .ok true w := fun w => by rw [cap_eq]; simp
  have p1 : (w1).cell? ⟨w.heap.size, 1, none⟩ = _ := K0.out.cell (g := w.heap.size) (j := 1) (u := .int .u32 at_) [.int .i64 kd, .int .u32 at_, .int .i64 wd, .int .u32 v, .int .u32 cu, .int .u8 e, .int .u16 b, .int .u16 t, .int .u16 pm, .int .u16 ty, .int .u32 rs, .bool va, .string ⟨s.toArray⟩] (by simp) rfl
  have p2 : (w1).cell? ⟨w.heap.size, 2, none⟩ = _ := K0.out.cell (g := w.heap.size) (j := 2) (u := .int .i64 wd) [.int .i64 kd, .int .u32 at_, .int .i64 wd, .int .u32 v, .int .u32 cu, .int .u8 e, .int .u16 b, .int .u16 t, .int .u16 pm, .int .u16 ty, .int .u32 rs, .bool va, .string ⟨s.toArray⟩] (by simp) rfl
  have k1 := aload_any H0.out.ar at_ wd la
  go_wp2_with fail
  refine k1.mono ?_
  rintro e1 w2 ⟨rfl, q⟩
  have hb1 := Lib.hid (hb0.out.trans (q.mono H0.out.l1.2.2.2.2))
  have H1 := Lib.hid (H0.out.below q)
  have K1 := Lib.hid (K0.out.below q)
  clear q k1 p0 p1 p2
  have p1 : (w2).cell? ⟨w.heap.size, 1, none⟩ = _ := K1.out.cell (g := w.heap.size) (j := 1) (u := .int .u32 at_) [.int .i64 kd, .int .u32 at_, .int .i64 wd, .int .u32 v, .int .u32 cu, .int .u8 e, .int .u16 b, .int .u16 t, .int .u16 pm, .int .u16 ty, .int .u32 rs, .bool va, .string ⟨s.toArray⟩] (by simp) rfl
  have p2 : (w2).cell? ⟨w.heap.size, 2, none⟩ = _ := K1.out.cell (g := w.heap.size) (j := 2) (u := .int .i64 wd) [.int .i64 kd, .int .u32 at_, .int .i64 wd, .int .u32 v, .int .u32 cu, .int .u8 e, .int .u16 b, .int .u16 t, .int .u16 pm, .int .u16 ty, .int .u32 rs, .bool va, .string ⟨s.toArray⟩] (by simp) rfl
  have k1 := rload_any H1.out.rf at_ wd la hw
  go_wp2_with fail
  refine k1.mono ?_
  rintro e2 w3 ⟨rfl, q⟩
  have hb2 := Lib.hid (hb1.out.trans (q.mono H1.out.l1.2.2.2.2))
  have H2 := Lib.hid (H1.out.below q)
  have K2 := Lib.hid (K1.out.below q)
  clear q k1 p1 p2
  have p1 : (w3).cell? ⟨w.heap.size, 1, none⟩ = _ := K2.out.cell (g := w.heap.size) (j := 1) (u := .int .u32 at_) [.int .i64 kd, .int .u32 at_, .int .i64 wd, .int .u32 v, .int .u32 cu, .int .u8 e, .int .u16 b, .int .u16 t, .int .u16 pm, .int .u16 ty, .int .u32 rs, .bool va, .string ⟨s.toArray⟩] (by simp) rfl
  have p2 : (w3).cell? ⟨w.heap.size, 2, none⟩ = _ := K2.out.cell (g := w.heap.size) (j := 2) (u := .int .i64 wd) [.int .i64 kd, .int .u32 at_, .int .i64 wd, .int .u32 v, .int .u32 cu, .int .u8 e, .int .u16 b, .int .u16 t, .int .u16 pm, .int .u16 ty, .int .u32 rs, .bool va, .string ⟨s.toArray⟩] (by simp) rfl
  have k1 := hA1 _ _ _ _ _ _ H2.out.ar
  go_wp2_with fail
  refine k1.mono ?_
  rintro e3 w4 ⟨rfl, q⟩
  have hb3 := Lib.hid (hb2.out.trans (q.mono H2.out.l1.2.2.2.2))
  have H3 := Lib.hid (H2.out.below q)
  have K3 := Lib.hid (K2.out.below q)
  clear q k1 p1 p2
  have hb3 := Lib.hid (hb3.out.alloc H3.out.l1.2.2.2.2 (.cells #[.int .u32 c1, .int .u8 c2, .int .u16 c3, .int .u16 c4, .int .u16 c5, .int .u16 c6, .int .u32 c7, .bool c8] 25))
  have H3 := Lib.hid (H3.out.below ((Below.refl _ _).alloc (Nat.le_refl _) (.cells #[.int .u32 c1, .int .u8 c2, .int .u16 c3, .int .u16 c4, .int .u16 c5, .int .u16 c6, .int .u32 c7, .bool c8] 25)))
  have K3 := Lib.hid (K3.out.push [.int .u32 c1, .int .u8 c2, .int .u16 c3, .int .u16 c4, .int .u16 c5, .int .u16 c6, .int .u32 c7, .bool c8] 25)
  have p1 : (w4.alloc (.cells #[.int .u32 c1, .int .u8 c2, .int .u16 c3, .int .u16 c4, .int .u16 c5, .int .u16 c6, .int .u32 c7, .bool c8] 25)).cell? ⟨w.heap.size, 1, none⟩ = _ := K3.out.cell (g := w.heap.size) (j := 1) (u := .int .u32 at_) [.int .i64 kd, .int .u32 at_, .int .i64 wd, .int .u32 v, .int .u32 cu, .int .u8 e, .int .u16 b, .int .u16 t, .int .u16 pm, .int .u16 ty, .int .u32 rs, .bool va, .string ⟨s.toArray⟩] (by simp) rfl
  have p2 : (w4.alloc (.cells #[.int .u32 c1, .int .u8 c2, .int .u16 c3, .int .u16 c4, .int .u16 c5, .int .u16 c6, .int .u32 c7, .bool c8] 25)).cell? ⟨w.heap.size, 2, none⟩ = _ := K3.out.cell (g := w.heap.size) (j := 2) (u := .int .i64 wd) [.int .i64 kd, .int .u32 at_, .int .i64 wd, .int .u32 v, .int .u32 cu, .int .u8 e, .int .u16 b, .int .u16 t, .int .u16 pm, .int .u16 ty, .int .u32 rs, .bool va, .string ⟨s.toArray⟩] (by simp) rfl
  have k1 := hR1 _ _ _ _ H3.out.rf
  go_wp2_with fail
  refine k1.mono ?_
  rintro e4 w5 ⟨rfl, q⟩
  have hb4 := Lib.hid (hb3.out.trans (q.mono H3.out.l1.2.2.2.2))
  have H4 := Lib.hid (H3.out.below q)
  have K4 := Lib.hid (K3.out.below q)
  clear q k1 p1 p2
  have hb4 := Lib.hid (hb4.out.alloc H4.out.l1.2.2.2.2 (.cells #[.int .u32 c1, .int .u8 c2, .int .u16 c3, .int .u16 c4, .int .u16 c5, .int .u16 c6, .int .u32 c7, .bool c8] 25))
  have H4 := Lib.hid (H4.out.below ((Below.refl _ _).alloc (Nat.le_refl _) (.cells #[.int .u32 c1, .int .u8 c2, .int .u16 c3, .int .u16 c4, .int .u16 c5, .int .u16 c6, .int .u32 c7, .bool c8] 25)))
  have K4 := Lib.hid (K4.out.push [.int .u32 c1, .int .u8 c2, .int .u16 c3, .int .u16 c4, .int .u16 c5, .int .u16 c6, .int .u32 c7, .bool c8] 25)
  have p1 : (w5.alloc (.cells #[.int .u32 c1, .int .u8 c2, .int .u16 c3, .int .u16 c4, .int .u16 c5, .int .u16 c6, .int .u32 c7, .bool c8] 25)).cell? ⟨w.heap.size, 1, none⟩ = _ := K4.out.cell (g := w.heap.size) (j := 1) (u := .int .u32 at_) [.int .i64 kd, .int .u32 at_, .int .i64 wd, .int .u32 v, .int .u32 cu, .int .u8 e, .int .u16 b, .int .u16 t, .int .u16 pm, .int .u16 ty, .int .u32 rs, .bool va, .string ⟨s.toArray⟩] (by simp) rfl
  have p2 : (w5.alloc (.cells #[.int .u32 c1, .int .u8 c2, .int .u16 c3, .int .u16 c4, .int .u16 c5, .int .u16 c6, .int .u32 c7, .bool c8] 25)).cell? ⟨w.heap.size, 2, none⟩ = _ := K4.out.cell (g := w.heap.size) (j := 2) (u := .int .i64 wd) [.int .i64 kd, .int .u32 at_, .int .i64 wd, .int .u32 v, .int .u32 cu, .int .u8 e, .int .u16 b, .int .u16 t, .int .u16 pm, .int .u16 ty, .int .u32 rs, .bool va, .string ⟨s.toArray⟩] (by simp) rfl
  have k1 := hA2 _ _ _ _ _ _ H4.out.ar
  go_wp2_with fail
  refine k1.mono ?_
  rintro e5 w6 ⟨rfl, q⟩
  have hb5 := Lib.hid (hb4.out.trans (q.mono H4.out.l1.2.2.2.2))
  have H5 := Lib.hid (H4.out.below q)
  have K5 := Lib.hid (K4.out.below q)
  clear q k1 p1 p2
  have p1 : (w6).cell? ⟨w.heap.size, 1, none⟩ = _ := K5.out.cell (g := w.heap.size) (j := 1) (u := .int .u32 at_) [.int .i64 kd, .int .u32 at_, .int .i64 wd, .int .u32 v, .int .u32 cu, .int .u8 e, .int .u16 b, .int .u16 t, .int .u16 pm, .int .u16 ty, .int .u32 rs, .bool va, .string ⟨s.toArray⟩] (by simp) rfl
  have p2 : (w6).cell? ⟨w.heap.size, 2, none⟩ = _ := K5.out.cell (g := w.heap.size) (j := 2) (u := .int .i64 wd) [.int .i64 kd, .int .u32 at_, .int .i64 wd, .int .u32 v, .int .u32 cu, .int .u8 e, .int .u16 b, .int .u16 t, .int .u16 pm, .int .u16 ty, .int .u32 rs, .bool va, .string ⟨s.toArray⟩] (by simp) rfl
  have k1 := hR2 _ _ _ _ H5.out.rf
  go_wp2_with fail
  refine k1.mono ?_
  rintro e6 w7 ⟨rfl, q⟩
  have hb6 := Lib.hid (hb5.out.trans (q.mono H5.out.l1.2.2.2.2))
  have H6 := Lib.hid (H5.out.below q)
  have K6 := Lib.hid (K5.out.below q)
  clear q k1 p1 p2
  have uw40 := K6.out.cell (g := w4.heap.size) (j := 0) (u := .int .u32 c1) [.int .u32 c1, .int .u8 c2, .int .u16 c3, .int .u16 c4, .int .u16 c5, .int .u16 c6, .int .u32 c7, .bool c8] (by simp) rfl
  have uw41 := K6.out.cell (g := w4.heap.size) (j := 1) (u := .int .u8 c2) [.int .u32 c1, .int .u8 c2, .int .u16 c3, .int .u16 c4, .int .u16 c5, .int .u16 c6, .int .u32 c7, .bool c8] (by simp) rfl
  have uw42 := K6.out.cell (g := w4.heap.size) (j := 2) (u := .int .u16 c3) [.int .u32 c1, .int .u8 c2, .int .u16 c3, .int .u16 c4, .int .u16 c5, .int .u16 c6, .int .u32 c7, .bool c8] (by simp) rfl
  have uw43 := K6.out.cell (g := w4.heap.size) (j := 3) (u := .int .u16 c4) [.int .u32 c1, .int .u8 c2, .int .u16 c3, .int .u16 c4, .int .u16 c5, .int .u16 c6, .int .u32 c7, .bool c8] (by simp) rfl
  have uw44 := K6.out.cell (g := w4.heap.size) (j := 4) (u := .int .u16 c5) [.int .u32 c1, .int .u8 c2, .int .u16 c3, .int .u16 c4, .int .u16 c5, .int .u16 c6, .int .u32 c7, .bool c8] (by simp) rfl
  have uw45 := K6.out.cell (g := w4.heap.size) (j := 5) (u := .int .u16 c6) [.int .u32 c1, .int .u8 c2, .int .u16 c3, .int .u16 c4, .int .u16 c5, .int .u16 c6, .int .u32 c7, .bool c8] (by simp) rfl
  have uw46 := K6.out.cell (g := w4.heap.size) (j := 6) (u := .int .u32 c7) [.int .u32 c1, .int .u8 c2, .int .u16 c3, .int .u16 c4, .int .u16 c5, .int .u16 c6, .int .u32 c7, .bool c8] (by simp) rfl
  have uw47 := K6.out.cell (g := w4.heap.size) (j := 7) (u := .bool c8) [.int .u32 c1, .int .u8 c2, .int .u16 c3, .int .u16 c4, .int .u16 c5, .int .u16 c6, .int .u32 c7, .bool c8] (by simp) rfl
  have uw50 := K6.out.cell (g := w5.heap.size) (j := 0) (u := .int .u32 c1) [.int .u32 c1, .int .u8 c2, .int .u16 c3, .int .u16 c4, .int .u16 c5, .int .u16 c6, .int .u32 c7, .bool c8] (by simp) rfl
  have uw51 := K6.out.cell (g := w5.heap.size) (j := 1) (u := .int .u8 c2) [.int .u32 c1, .int .u8 c2, .int .u16 c3, .int .u16 c4, .int .u16 c5, .int .u16 c6, .int .u32 c7, .bool c8] (by simp) rfl
  have uw52 := K6.out.cell (g := w5.heap.size) (j := 2) (u := .int .u16 c3) [.int .u32 c1, .int .u8 c2, .int .u16 c3, .int .u16 c4, .int .u16 c5, .int .u16 c6, .int .u32 c7, .bool c8] (by simp) rfl
  have uw53 := K6.out.cell (g := w5.heap.size) (j := 3) (u := .int .u16 c4) [.int .u32 c1, .int .u8 c2, .int .u16 c3, .int .u16 c4, .int .u16 c5, .int .u16 c6, .int .u32 c7, .bool c8] (by simp) rfl
  have uw54 := K6.out.cell (g := w5.heap.size) (j := 4) (u := .int .u16 c5) [.int .u32 c1, .int .u8 c2, .int .u16 c3, .int .u16 c4, .int .u16 c5, .int .u16 c6, .int .u32 c7, .bool c8] (by simp) rfl
  have uw55 := K6.out.cell (g := w5.heap.size) (j := 5) (u := .int .u16 c6) [.int .u32 c1, .int .u8 c2, .int .u16 c3, .int .u16 c4, .int .u16 c5, .int .u16 c6, .int .u32 c7, .bool c8] (by simp) rfl
  have uw56 := K6.out.cell (g := w5.heap.size) (j := 6) (u := .int .u32 c7) [.int .u32 c1, .int .u8 c2, .int .u16 c3, .int .u16 c4, .int .u16 c5, .int .u16 c6, .int .u32 c7, .bool c8] (by simp) rfl
  have uw57 := K6.out.cell (g := w5.heap.size) (j := 7) (u := .bool c8) [.int .u32 c1, .int .u8 c2, .int .u16 c3, .int .u16 c4, .int .u16 c5, .int .u16 c6, .int .u32 c7, .bool c8] (by simp) rfl
  go_wp2
  go_ret
  exact ⟨ret_bool (by simp), _, _, H6.out, hb6.out⟩
end
end Go.Proofs.Ytpopfmboonjplaa
namespace Go.Proofs.Ytpopfmboonjplaa
open Go.RowKit
set_option linter.unusedVariables false
section
variable {B a mb wb bb c r rb tb n g : Nat} {f : Nat → Bool} {l : List UInt8} {w : World}
theorem step_any (H : Two B a mb wb bb c r rb tb n g f l w) (kd wd : Int) (at_ v cu e b t pm ty rs : Nat) (va : Bool) (s : List UInt8) (hk : -9223372036854775808 ≤ kd ∧ kd < 9223372036854775808) (hm : Int.tmod (Int.tmod kd 7 + 7) 7 ≠ 6) (hw : -9223372036854775808 ≤ wd ∧ wd < 9223372036854775808) (la : at_ < 4294967296) (lv : v < 4294967296) (l0 : cu < 4294967296) (l1 : e < 256) (l2 : b < 65536) (l3 : t < 65536) (l4 : pm < 65536) (l5 : ty < 65536) (l6 : rs < 4294967296) (ls : s.length < 9223372036854775808) :
    Calls Try.prog 20 #[.pointer (some ⟨a, 0, none⟩), .pointer (some ⟨r, 0, none⟩), .agg #[.int .i64 kd, .int .u32 at_, .int .i64 wd, .int .u32 v, .int .u32 cu, .int .u8 e, .int .u16 b, .int .u16 t, .int .u16 pm, .int .u16 ty, .int .u32 rs, .bool va, .string ⟨s.toArray⟩]] w fun e w' => e = .returned (.bool true) ∧ ∃ f' l', Two B a mb wb bb c r rb tb n g f' l' w' ∧ Below B w w' := by
  have h0 := Int.lt_tmod_of_pos kd (show (0 : Int) < 7 by decide)
  have h1 := Int.tmod_nonneg 7 (show (0 : Int) ≤ Int.tmod kd 7 + 7 by omega)
  have h2 := Int.tmod_lt_of_pos (Int.tmod kd 7 + 7) (show (0 : Int) < 7 by decide)
  have h3 : Int.tmod (Int.tmod kd 7 + 7) 7 = 0 ∨ Int.tmod (Int.tmod kd 7 + 7) 7 = 1 ∨ Int.tmod (Int.tmod kd 7 + 7) 7 = 2 ∨ Int.tmod (Int.tmod kd 7 + 7) 7 = 3 ∨ Int.tmod (Int.tmod kd 7 + 7) 7 = 4 ∨ Int.tmod (Int.tmod kd 7 + 7) 7 = 5 := by omega
  clear h0 h1 h2 hm
  rcases h3 with h | h | h | h | h | h
  · exact step_0 H kd wd at_ v cu e b t pm ty rs va s hk h hw la lv l0 l1 l2 l3 l4 l5 l6 ls
  · exact step_1 H kd wd at_ v cu e b t pm ty rs va s hk h hw la lv l0 l1 l2 l3 l4 l5 l6 ls
  · exact step_2 H kd wd at_ v cu e b t pm ty rs va s hk h hw la lv l0 l1 l2 l3 l4 l5 l6 ls
  · exact step_3 H kd wd at_ v cu e b t pm ty rs va s hk h hw la lv l0 l1 l2 l3 l4 l5 l6 ls
  · exact step_4 H kd wd at_ v cu e b t pm ty rs va s hk h hw la lv l0 l1 l2 l3 l4 l5 l6 ls
  · exact step_5 H kd wd at_ v cu e b t pm ty rs va s hk h hw la lv l0 l1 l2 l3 l4 l5 l6 ls
end
end Go.Proofs.Ytpopfmboonjplaa
