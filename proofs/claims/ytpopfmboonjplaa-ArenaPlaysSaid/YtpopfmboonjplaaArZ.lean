/- Contract of the laws' own 'step': one step of both arenas. No statement is proved here. -/
import Derived.Test.YtpopfmboonjplaaArY
import Derived.Deep.RegionHeld
namespace Go.Proofs.Ytpopfmboonjplaa
open Go.RowKit
set_option linter.unusedVariables false
/-- Both arenas, with the same tags and bytes; their blocks lie from B on. -/
structure Two (B a mb wb bb c r rb tb n g : Nat) (f : Nat → Bool) (l : List UInt8) (w : World) : Prop where
  ar : ArAt w a mb wb bb c n g f l
  rf : RfAt w r rb tb n g f l
  d1 : r ≠ wb ∧ rb ≠ wb ∧ tb ≠ wb
  d2 : r ≠ bb ∧ rb ≠ bb ∧ tb ≠ bb
  d3 : a ≠ rb ∧ mb ≠ rb ∧ wb ≠ rb ∧ bb ≠ rb
  d4 : a ≠ tb ∧ mb ≠ tb ∧ wb ≠ tb ∧ bb ≠ tb
  l1 : B ≤ wb ∧ B ≤ bb ∧ B ≤ rb ∧ B ≤ tb ∧ B ≤ w.heap.size
section
variable {B a mb wb bb c r rb tb n g : Nat} {f f' : Nat → Bool} {l l' : List UInt8} {w w' w2 : World}
theorem Two.below (h : Two B a mb wb bb c r rb tb n g f l w) (k : Below w.heap.size w w') : Two B a mb wb bb c r rb tb n g f l w' :=
  ⟨h.ar.below k, h.rf.below k, h.d1, h.d2, h.d3, h.d4, by have := h.l1; have := k.size; omega⟩
/-- A call on the one, then the same on the other. -/
theorem Two.both (h : Two B a mb wb bb c r rb tb n g f l w) (k1 : ArAt w' a mb wb bb c n g f' l' ∧ Of2 w.heap.size wb bb w w') (k2 : RfAt w2 r rb tb n g f' l' ∧ Of2 w'.heap.size rb tb w' w2) : Two B a mb wb bb c r rb tb n g f' l' w2 ∧ Below B w w2 :=
  ⟨⟨k1.1.of2 k2.2 h.d3 h.d4, k2.1, h.d1, h.d2, h.d3, h.d4, by have := h.l1; have := k1.2.size; have := k2.2.size; omega⟩,
    (k1.2.below h.l1.2.2.2.2 h.l1.1 h.l1.2.1).trans (k2.2.below (by have := h.l1; have := k1.2.size; omega) h.l1.2.2.1 h.l1.2.2.2.1)⟩
theorem Two.mid (h : Two B a mb wb bb c r rb tb n g f l w) (k : Of2 w.heap.size wb bb w w') : RfAt w' r rb tb n g f l := h.rf.of2 k h.d1 h.d2
end
section
variable {B a mb wb bb c r rb tb n g : Nat} {f : Nat → Bool} {l : List UInt8} {w : World}
set_option maxRecDepth 100000 in
set_option maxHeartbeats 4000000 in
theorem step_0 (H : Two B a mb wb bb c r rb tb n g f l w) (kd wd : Int) (at_ v cu e b t pm ty rs : Nat) (va : Bool) (s : List UInt8) (hk : -9223372036854775808 ≤ kd ∧ kd < 9223372036854775808) (hm : Int.tmod (Int.tmod kd 7 + 7) 7 = 0) (hw : -9223372036854775808 ≤ wd ∧ wd < 9223372036854775808) (la : at_ < 4294967296) (lv : v < 4294967296) (l0 : cu < 4294967296) (l1 : e < 256) (l2 : b < 65536) (l3 : t < 65536) (l4 : pm < 65536) (l5 : ty < 65536) (l6 : rs < 4294967296) (ls : s.length < 9223372036854775808) :
    Calls Try.prog 20 #[.pointer (some ⟨a, 0, none⟩), .pointer (some ⟨r, 0, none⟩), .agg #[.int .i64 kd, .int .u32 at_, .int .i64 wd, .int .u32 v, .int .u32 cu, .int .u8 e, .int .u16 b, .int .u16 t, .int .u16 pm, .int .u16 ty, .int .u32 rs, .bool va, .string ⟨s.toArray⟩]] w fun e w' => e = .returned (.bool true) ∧ ∃ f' l', Two B a mb wb bb c r rb tb n g f' l' w' ∧ Below B w w' := by
  have K0 := Lib.hid ((RS.nil w).push [.int .i64 kd, .int .u32 at_, .int .i64 wd, .int .u32 v, .int .u32 cu, .int .u8 e, .int .u16 b, .int .u16 t, .int .u16 pm, .int .u16 ty, .int .u32 rs, .bool va, .string ⟨s.toArray⟩] 53)
  have H0 := Lib.hid (H.below ((Below.refl _ w).alloc (Nat.le_refl _) (.cells #[.int .i64 kd, .int .u32 at_, .int .i64 wd, .int .u32 v, .int .u32 cu, .int .u8 e, .int .u16 b, .int .u16 t, .int .u16 pm, .int .u16 ty, .int .u32 rs, .bool va, .string ⟨s.toArray⟩] 53)))
  have hb0 := Lib.hid ((Below.refl B w).alloc H.l1.2.2.2.2 (.cells #[.int .i64 kd, .int .u32 at_, .int .i64 wd, .int .u32 v, .int .u32 cu, .int .u8 e, .int .u16 b, .int .u16 t, .int .u16 pm, .int .u16 ty, .int .u32 rs, .bool va, .string ⟨s.toArray⟩] 53))
  have hX := Lib.hid (show wb < w.heap.size ∧ bb < w.heap.size ∧ rb < w.heap.size ∧ tb < w.heap.size from ⟨H.ar.m.lw, H.ar.lb, H.rf.lb, H.rf.lt⟩)
  obtain ⟨t1, ht1⟩ : ∃ t1, t1 = Int.tmod kd 7 := ⟨_, rfl⟩
  have hr1 : -7 < t1 ∧ t1 < 7 := by rw [ht1]; exact ⟨Int.lt_tmod_of_pos kd (by decide), Int.tmod_lt_of_pos kd (by decide)⟩
  rw [← ht1] at hm
  have t3 : IntKind.i64.wrap t1 = t1 := by rw [IntKind.wrap_i64]; omega
  have t4 : IntKind.i64.wrap (t1 + 7) = t1 + 7 := by rw [IntKind.wrap_i64]; omega
  have t5 : kd.tmod 7 = t1 := ht1.symm
  have e7 : (t1 + 7).tmod 7 = (t1 + 7) % 7 := Int.tmod_eq_emod_of_nonneg (by omega)
  have t6 : (t1 + 7) % 7 = 0 := by rw [← e7]; exact hm
  have tr1 := hr1.1
  have tr2 := hr1.2
  clear H hm hr1 ht1 hk e7
  go_enter Try.func20, Try.ntmps20
  go_upto_region 1 with (fail)
  generalize (w.alloc (.cells #[.int .i64 kd, .int .u32 at_, .int .i64 wd, .int .u32 v, .int .u32 cu, .int .u8 e, .int .u16 b, .int .u16 t, .int .u16 pm, .int .u16 ty, .int .u32 rs, .bool va, .string ⟨s.toArray⟩] 53)) = w1 at *
  have p0 := K0.out.cell (g := w.heap.size) (j := 0) (u := .int .i64 kd) [.int .i64 kd, .int .u32 at_, .int .i64 wd, .int .u32 v, .int .u32 cu, .int .u8 e, .int .u16 b, .int .u16 t, .int .u16 pm, .int .u16 ty, .int .u32 rs, .bool va, .string ⟨s.toArray⟩] (by simp) rfl
  go_wp2_with fail
  clear p0
  have tr : ∀ w', (w'.cell? ⟨w.heap.size, 1, none⟩ = some (.int .u32 at_) ∧ w'.cell? ⟨w.heap.size, 2, none⟩ = some (.int .i64 wd) ∧ w'.cell? ⟨w.heap.size, 3, none⟩ = some (.int .u32 v) ∧ RS [⟨w.heap.size, [.int .i64 kd, .int .u32 at_, .int .i64 wd, .int .u32 v, .int .u32 cu, .int .u8 e, .int .u16 b, .int .u16 t, .int .u16 pm, .int .u16 ty, .int .u32 rs, .bool va, .string ⟨s.toArray⟩]⟩] w') → RS [⟨w.heap.size, [.int .i64 kd, .int .u32 at_, .int .i64 wd, .int .u32 v, .int .u32 cu, .int .u8 e, .int .u16 b, .int .u16 t, .int .u16 pm, .int .u16 ty, .int .u32 rs, .bool va, .string ⟨s.toArray⟩]⟩] w' := fun w' h => h.2.2.2
  have all : ∀ w', RS [⟨w.heap.size, [.int .i64 kd, .int .u32 at_, .int .i64 wd, .int .u32 v, .int .u32 cu, .int .u8 e, .int .u16 b, .int .u16 t, .int .u16 pm, .int .u16 ty, .int .u32 rs, .bool va, .string ⟨s.toArray⟩]⟩] w' → w'.cell? ⟨w.heap.size, 1, none⟩ = some (.int .u32 at_) ∧ w'.cell? ⟨w.heap.size, 2, none⟩ = some (.int .i64 wd) ∧ w'.cell? ⟨w.heap.size, 3, none⟩ = some (.int .u32 v) ∧ RS [⟨w.heap.size, [.int .i64 kd, .int .u32 at_, .int .i64 wd, .int .u32 v, .int .u32 cu, .int .u8 e, .int .u16 b, .int .u16 t, .int .u16 pm, .int .u16 ty, .int .u32 rs, .bool va, .string ⟨s.toArray⟩]⟩] w' := fun w' h => ⟨h.cell (g := w.heap.size) [.int .i64 kd, .int .u32 at_, .int .i64 wd, .int .u32 v, .int .u32 cu, .int .u8 e, .int .u16 b, .int .u16 t, .int .u16 pm, .int .u16 ty, .int .u32 rs, .bool va, .string ⟨s.toArray⟩] (by simp) rfl, h.cell (g := w.heap.size) [.int .i64 kd, .int .u32 at_, .int .i64 wd, .int .u32 v, .int .u32 cu, .int .u8 e, .int .u16 b, .int .u16 t, .int .u16 pm, .int .u16 ty, .int .u32 rs, .bool va, .string ⟨s.toArray⟩] (by simp) rfl, h.cell (g := w.heap.size) [.int .i64 kd, .int .u32 at_, .int .i64 wd, .int .u32 v, .int .u32 cu, .int .u8 e, .int .u16 b, .int .u16 t, .int .u16 pm, .int .u16 ty, .int .u32 rs, .bool va, .string ⟨s.toArray⟩] (by simp) rfl, h⟩
  have j0 := all _ K0.out.drew
  have A0 := Lib.hid H0.out.ar.drew
  have R0 := Lib.hid H0.out.rf.drew
  have T0 := Lib.hid (H0.out.below (Below.refl _ w1).drew)
  have hne1 := Lib.hid (fun (x : Rw) (hx : x ∈ [⟨w.heap.size, [.int .i64 kd, .int .u32 at_, .int .i64 wd, .int .u32 v, .int .u32 cu, .int .u8 e, .int .u16 b, .int .u16 t, .int .u16 pm, .int .u16 ty, .int .u32 rs, .bool va, .string ⟨s.toArray⟩]⟩]) => (show x.g ≠ wb ∧ x.g ≠ bb by
    have := hX.out
    simp at hx
    subst hx
    simp
    omega))
  have hne2 := Lib.hid (fun (x : Rw) (hx : x ∈ [⟨w.heap.size, [.int .i64 kd, .int .u32 at_, .int .i64 wd, .int .u32 v, .int .u32 cu, .int .u8 e, .int .u16 b, .int .u16 t, .int .u16 pm, .int .u16 ty, .int .u32 rs, .bool va, .string ⟨s.toArray⟩]⟩]) => (show x.g ≠ rb ∧ x.g ≠ tb by
    have := hX.out
    simp at hx
    subst hx
    simp
    omega))
  have hbb := Lib.hid (fun w3 (k : Below B w1.drew w3) => (show Below B w w3 from hb0.out.trans (below_undrew k)))
  replace tr := Lib.hid tr
  replace all := Lib.hid all
  go_region_held (fun w' => w'.cell? ⟨w.heap.size, 1, none⟩ = some (.int .u32 at_) ∧ w'.cell? ⟨w.heap.size, 2, none⟩ = some (.int .i64 wd) ∧ w'.cell? ⟨w.heap.size, 3, none⟩ = some (.int .u32 v) ∧ RS [⟨w.heap.size, [.int .i64 kd, .int .u32 at_, .int .i64 wd, .int .u32 v, .int .u32 cu, .int .u8 e, .int .u16 b, .int .u16 t, .int .u16 pm, .int .u16 ty, .int .u32 rs, .bool va, .string ⟨s.toArray⟩]⟩] w')
    (first | with_reducible exact j0 | with_reducible exact j1 | with_reducible exact j2)
    (first
      | (go_at_call 19; ((with_reducible refine (astore_any A0.out wd v at_ la lv).mono ?_); rintro ee X ⟨rfl, g1, g2⟩; have j1 := all.out _ ((tr.out _ j0).of2 g2 hne1.out); have R1 := Lib.hid (T0.out.mid g2); have G1 := Lib.hid (And.intro g1 g2); clear g1 g2))
      | (go_at_call 49; ((with_reducible refine (rstore_any R1.out wd v at_ la lv).mono ?_); rintro ee Y ⟨rfl, g1, g2⟩; have j2 := all.out _ ((tr.out _ j1).of2 g2 hne2.out); have E2 := Lib.hid (T0.out.both G1.out ⟨g1, g2⟩); clear g1 g2)))
  clear j0 j1 j2
  go_wp2
  go_ret
  exact ⟨ret_bool (by simp), _, _, E2.out.1, hbb.out _ E2.out.2⟩

set_option maxRecDepth 100000 in
set_option maxHeartbeats 4000000 in
theorem step_1 (H : Two B a mb wb bb c r rb tb n g f l w) (kd wd : Int) (at_ v cu e b t pm ty rs : Nat) (va : Bool) (s : List UInt8) (hk : -9223372036854775808 ≤ kd ∧ kd < 9223372036854775808) (hm : Int.tmod (Int.tmod kd 7 + 7) 7 = 1) (hw : -9223372036854775808 ≤ wd ∧ wd < 9223372036854775808) (la : at_ < 4294967296) (lv : v < 4294967296) (l0 : cu < 4294967296) (l1 : e < 256) (l2 : b < 65536) (l3 : t < 65536) (l4 : pm < 65536) (l5 : ty < 65536) (l6 : rs < 4294967296) (ls : s.length < 9223372036854775808) :
    Calls Try.prog 20 #[.pointer (some ⟨a, 0, none⟩), .pointer (some ⟨r, 0, none⟩), .agg #[.int .i64 kd, .int .u32 at_, .int .i64 wd, .int .u32 v, .int .u32 cu, .int .u8 e, .int .u16 b, .int .u16 t, .int .u16 pm, .int .u16 ty, .int .u32 rs, .bool va, .string ⟨s.toArray⟩]] w fun e w' => e = .returned (.bool true) ∧ ∃ f' l', Two B a mb wb bb c r rb tb n g f' l' w' ∧ Below B w w' := by
  have K0 := Lib.hid ((RS.nil w).push [.int .i64 kd, .int .u32 at_, .int .i64 wd, .int .u32 v, .int .u32 cu, .int .u8 e, .int .u16 b, .int .u16 t, .int .u16 pm, .int .u16 ty, .int .u32 rs, .bool va, .string ⟨s.toArray⟩] 53)
  have H0 := Lib.hid (H.below ((Below.refl _ w).alloc (Nat.le_refl _) (.cells #[.int .i64 kd, .int .u32 at_, .int .i64 wd, .int .u32 v, .int .u32 cu, .int .u8 e, .int .u16 b, .int .u16 t, .int .u16 pm, .int .u16 ty, .int .u32 rs, .bool va, .string ⟨s.toArray⟩] 53)))
  have hb0 := Lib.hid ((Below.refl B w).alloc H.l1.2.2.2.2 (.cells #[.int .i64 kd, .int .u32 at_, .int .i64 wd, .int .u32 v, .int .u32 cu, .int .u8 e, .int .u16 b, .int .u16 t, .int .u16 pm, .int .u16 ty, .int .u32 rs, .bool va, .string ⟨s.toArray⟩] 53))
  have hX := Lib.hid (show wb < w.heap.size ∧ bb < w.heap.size ∧ rb < w.heap.size ∧ tb < w.heap.size from ⟨H.ar.m.lw, H.ar.lb, H.rf.lb, H.rf.lt⟩)
  obtain ⟨t1, ht1⟩ : ∃ t1, t1 = Int.tmod kd 7 := ⟨_, rfl⟩
  have hr1 : -7 < t1 ∧ t1 < 7 := by rw [ht1]; exact ⟨Int.lt_tmod_of_pos kd (by decide), Int.tmod_lt_of_pos kd (by decide)⟩
  rw [← ht1] at hm
  have t3 : IntKind.i64.wrap t1 = t1 := by rw [IntKind.wrap_i64]; omega
  have t4 : IntKind.i64.wrap (t1 + 7) = t1 + 7 := by rw [IntKind.wrap_i64]; omega
  have t5 : kd.tmod 7 = t1 := ht1.symm
  have e7 : (t1 + 7).tmod 7 = (t1 + 7) % 7 := Int.tmod_eq_emod_of_nonneg (by omega)
  have t6 : (t1 + 7) % 7 = 1 := by rw [← e7]; exact hm
  have tr1 := hr1.1
  have tr2 := hr1.2
  clear H hm hr1 ht1 hk e7
  go_enter Try.func20, Try.ntmps20
  go_upto_region 1 with (fail)
  generalize (w.alloc (.cells #[.int .i64 kd, .int .u32 at_, .int .i64 wd, .int .u32 v, .int .u32 cu, .int .u8 e, .int .u16 b, .int .u16 t, .int .u16 pm, .int .u16 ty, .int .u32 rs, .bool va, .string ⟨s.toArray⟩] 53)) = w1 at *
  have p0 := K0.out.cell (g := w.heap.size) (j := 0) (u := .int .i64 kd) [.int .i64 kd, .int .u32 at_, .int .i64 wd, .int .u32 v, .int .u32 cu, .int .u8 e, .int .u16 b, .int .u16 t, .int .u16 pm, .int .u16 ty, .int .u32 rs, .bool va, .string ⟨s.toArray⟩] (by simp) rfl
  go_wp2_with fail
  clear p0
  have tr : ∀ w', (w'.cell? ⟨w.heap.size, 1, none⟩ = some (.int .u32 at_) ∧ w'.cell? ⟨w.heap.size, 4, none⟩ = some (.int .u32 cu) ∧ w'.cell? ⟨w.heap.size, 5, none⟩ = some (.int .u8 e) ∧ w'.cell? ⟨w.heap.size, 6, none⟩ = some (.int .u16 b) ∧ w'.cell? ⟨w.heap.size, 7, none⟩ = some (.int .u16 t) ∧ w'.cell? ⟨w.heap.size, 8, none⟩ = some (.int .u16 pm) ∧ w'.cell? ⟨w.heap.size, 9, none⟩ = some (.int .u16 ty) ∧ w'.cell? ⟨w.heap.size, 10, none⟩ = some (.int .u32 rs) ∧ w'.cell? ⟨w.heap.size, 11, none⟩ = some (.bool va) ∧ RS [⟨w.heap.size, [.int .i64 kd, .int .u32 at_, .int .i64 wd, .int .u32 v, .int .u32 cu, .int .u8 e, .int .u16 b, .int .u16 t, .int .u16 pm, .int .u16 ty, .int .u32 rs, .bool va, .string ⟨s.toArray⟩]⟩] w') → RS [⟨w.heap.size, [.int .i64 kd, .int .u32 at_, .int .i64 wd, .int .u32 v, .int .u32 cu, .int .u8 e, .int .u16 b, .int .u16 t, .int .u16 pm, .int .u16 ty, .int .u32 rs, .bool va, .string ⟨s.toArray⟩]⟩] w' := fun w' h => h.2.2.2.2.2.2.2.2.2
  have all : ∀ w', RS [⟨w.heap.size, [.int .i64 kd, .int .u32 at_, .int .i64 wd, .int .u32 v, .int .u32 cu, .int .u8 e, .int .u16 b, .int .u16 t, .int .u16 pm, .int .u16 ty, .int .u32 rs, .bool va, .string ⟨s.toArray⟩]⟩] w' → w'.cell? ⟨w.heap.size, 1, none⟩ = some (.int .u32 at_) ∧ w'.cell? ⟨w.heap.size, 4, none⟩ = some (.int .u32 cu) ∧ w'.cell? ⟨w.heap.size, 5, none⟩ = some (.int .u8 e) ∧ w'.cell? ⟨w.heap.size, 6, none⟩ = some (.int .u16 b) ∧ w'.cell? ⟨w.heap.size, 7, none⟩ = some (.int .u16 t) ∧ w'.cell? ⟨w.heap.size, 8, none⟩ = some (.int .u16 pm) ∧ w'.cell? ⟨w.heap.size, 9, none⟩ = some (.int .u16 ty) ∧ w'.cell? ⟨w.heap.size, 10, none⟩ = some (.int .u32 rs) ∧ w'.cell? ⟨w.heap.size, 11, none⟩ = some (.bool va) ∧ RS [⟨w.heap.size, [.int .i64 kd, .int .u32 at_, .int .i64 wd, .int .u32 v, .int .u32 cu, .int .u8 e, .int .u16 b, .int .u16 t, .int .u16 pm, .int .u16 ty, .int .u32 rs, .bool va, .string ⟨s.toArray⟩]⟩] w' := fun w' h => ⟨h.cell (g := w.heap.size) [.int .i64 kd, .int .u32 at_, .int .i64 wd, .int .u32 v, .int .u32 cu, .int .u8 e, .int .u16 b, .int .u16 t, .int .u16 pm, .int .u16 ty, .int .u32 rs, .bool va, .string ⟨s.toArray⟩] (by simp) rfl, h.cell (g := w.heap.size) [.int .i64 kd, .int .u32 at_, .int .i64 wd, .int .u32 v, .int .u32 cu, .int .u8 e, .int .u16 b, .int .u16 t, .int .u16 pm, .int .u16 ty, .int .u32 rs, .bool va, .string ⟨s.toArray⟩] (by simp) rfl, h.cell (g := w.heap.size) [.int .i64 kd, .int .u32 at_, .int .i64 wd, .int .u32 v, .int .u32 cu, .int .u8 e, .int .u16 b, .int .u16 t, .int .u16 pm, .int .u16 ty, .int .u32 rs, .bool va, .string ⟨s.toArray⟩] (by simp) rfl, h.cell (g := w.heap.size) [.int .i64 kd, .int .u32 at_, .int .i64 wd, .int .u32 v, .int .u32 cu, .int .u8 e, .int .u16 b, .int .u16 t, .int .u16 pm, .int .u16 ty, .int .u32 rs, .bool va, .string ⟨s.toArray⟩] (by simp) rfl, h.cell (g := w.heap.size) [.int .i64 kd, .int .u32 at_, .int .i64 wd, .int .u32 v, .int .u32 cu, .int .u8 e, .int .u16 b, .int .u16 t, .int .u16 pm, .int .u16 ty, .int .u32 rs, .bool va, .string ⟨s.toArray⟩] (by simp) rfl, h.cell (g := w.heap.size) [.int .i64 kd, .int .u32 at_, .int .i64 wd, .int .u32 v, .int .u32 cu, .int .u8 e, .int .u16 b, .int .u16 t, .int .u16 pm, .int .u16 ty, .int .u32 rs, .bool va, .string ⟨s.toArray⟩] (by simp) rfl, h.cell (g := w.heap.size) [.int .i64 kd, .int .u32 at_, .int .i64 wd, .int .u32 v, .int .u32 cu, .int .u8 e, .int .u16 b, .int .u16 t, .int .u16 pm, .int .u16 ty, .int .u32 rs, .bool va, .string ⟨s.toArray⟩] (by simp) rfl, h.cell (g := w.heap.size) [.int .i64 kd, .int .u32 at_, .int .i64 wd, .int .u32 v, .int .u32 cu, .int .u8 e, .int .u16 b, .int .u16 t, .int .u16 pm, .int .u16 ty, .int .u32 rs, .bool va, .string ⟨s.toArray⟩] (by simp) rfl, h.cell (g := w.heap.size) [.int .i64 kd, .int .u32 at_, .int .i64 wd, .int .u32 v, .int .u32 cu, .int .u8 e, .int .u16 b, .int .u16 t, .int .u16 pm, .int .u16 ty, .int .u32 rs, .bool va, .string ⟨s.toArray⟩] (by simp) rfl, h⟩
  have j0 := all _ K0.out.drew
  have A0 := Lib.hid H0.out.ar.drew
  have R0 := Lib.hid H0.out.rf.drew
  have T0 := Lib.hid (H0.out.below (Below.refl _ w1).drew)
  have hne1 := Lib.hid (fun (x : Rw) (hx : x ∈ [⟨w.heap.size, [.int .i64 kd, .int .u32 at_, .int .i64 wd, .int .u32 v, .int .u32 cu, .int .u8 e, .int .u16 b, .int .u16 t, .int .u16 pm, .int .u16 ty, .int .u32 rs, .bool va, .string ⟨s.toArray⟩]⟩]) => (show x.g ≠ wb ∧ x.g ≠ bb by
    have := hX.out
    simp at hx
    subst hx
    simp
    omega))
  have hne2 := Lib.hid (fun (x : Rw) (hx : x ∈ [⟨w.heap.size, [.int .i64 kd, .int .u32 at_, .int .i64 wd, .int .u32 v, .int .u32 cu, .int .u8 e, .int .u16 b, .int .u16 t, .int .u16 pm, .int .u16 ty, .int .u32 rs, .bool va, .string ⟨s.toArray⟩]⟩]) => (show x.g ≠ rb ∧ x.g ≠ tb by
    have := hX.out
    simp at hx
    subst hx
    simp
    omega))
  have hbb := Lib.hid (fun w3 (k : Below B w1.drew w3) => (show Below B w w3 from hb0.out.trans (below_undrew k)))
  replace tr := Lib.hid tr
  replace all := Lib.hid all
  go_region_held (fun w' => w'.cell? ⟨w.heap.size, 1, none⟩ = some (.int .u32 at_) ∧ w'.cell? ⟨w.heap.size, 4, none⟩ = some (.int .u32 cu) ∧ w'.cell? ⟨w.heap.size, 5, none⟩ = some (.int .u8 e) ∧ w'.cell? ⟨w.heap.size, 6, none⟩ = some (.int .u16 b) ∧ w'.cell? ⟨w.heap.size, 7, none⟩ = some (.int .u16 t) ∧ w'.cell? ⟨w.heap.size, 8, none⟩ = some (.int .u16 pm) ∧ w'.cell? ⟨w.heap.size, 9, none⟩ = some (.int .u16 ty) ∧ w'.cell? ⟨w.heap.size, 10, none⟩ = some (.int .u32 rs) ∧ w'.cell? ⟨w.heap.size, 11, none⟩ = some (.bool va) ∧ RS [⟨w.heap.size, [.int .i64 kd, .int .u32 at_, .int .i64 wd, .int .u32 v, .int .u32 cu, .int .u8 e, .int .u16 b, .int .u16 t, .int .u16 pm, .int .u16 ty, .int .u32 rs, .bool va, .string ⟨s.toArray⟩]⟩] w')
    (first | with_reducible exact j0 | with_reducible exact j1 | with_reducible exact j2)
    (first
      | (go_at_call 18; ((with_reducible refine (ascap_any A0.out cu e b t pm ty rs va at_ l0 l1 l2 l3 l4 l5 l6 la).mono ?_); rintro ee X ⟨rfl, g1, g2⟩; have j1 := all.out _ ((tr.out _ j0).of2 g2 hne1.out); have R1 := Lib.hid (T0.out.mid g2); have G1 := Lib.hid (And.intro g1 g2); clear g1 g2))
      | (go_at_call 50; ((with_reducible refine (rscap_any R1.out cu e b t pm ty rs va at_ l0 l1 l2 l3 l4 l5 l6 la).mono ?_); rintro ee Y ⟨rfl, g1, g2⟩; have j2 := all.out _ ((tr.out _ j1).of2 g2 hne2.out); have E2 := Lib.hid (T0.out.both G1.out ⟨g1, g2⟩); clear g1 g2)))
  clear j0 j1 j2
  go_wp2
  go_ret
  exact ⟨ret_bool (by simp), _, _, E2.out.1, hbb.out _ E2.out.2⟩

set_option maxRecDepth 100000 in
set_option maxHeartbeats 4000000 in
theorem step_2 (H : Two B a mb wb bb c r rb tb n g f l w) (kd wd : Int) (at_ v cu e b t pm ty rs : Nat) (va : Bool) (s : List UInt8) (hk : -9223372036854775808 ≤ kd ∧ kd < 9223372036854775808) (hm : Int.tmod (Int.tmod kd 7 + 7) 7 = 2) (hw : -9223372036854775808 ≤ wd ∧ wd < 9223372036854775808) (la : at_ < 4294967296) (lv : v < 4294967296) (l0 : cu < 4294967296) (l1 : e < 256) (l2 : b < 65536) (l3 : t < 65536) (l4 : pm < 65536) (l5 : ty < 65536) (l6 : rs < 4294967296) (ls : s.length < 9223372036854775808) :
    Calls Try.prog 20 #[.pointer (some ⟨a, 0, none⟩), .pointer (some ⟨r, 0, none⟩), .agg #[.int .i64 kd, .int .u32 at_, .int .i64 wd, .int .u32 v, .int .u32 cu, .int .u8 e, .int .u16 b, .int .u16 t, .int .u16 pm, .int .u16 ty, .int .u32 rs, .bool va, .string ⟨s.toArray⟩]] w fun e w' => e = .returned (.bool true) ∧ ∃ f' l', Two B a mb wb bb c r rb tb n g f' l' w' ∧ Below B w w' := by
  have K0 := Lib.hid ((RS.nil w).push [.int .i64 kd, .int .u32 at_, .int .i64 wd, .int .u32 v, .int .u32 cu, .int .u8 e, .int .u16 b, .int .u16 t, .int .u16 pm, .int .u16 ty, .int .u32 rs, .bool va, .string ⟨s.toArray⟩] 53)
  have H0 := Lib.hid (H.below ((Below.refl _ w).alloc (Nat.le_refl _) (.cells #[.int .i64 kd, .int .u32 at_, .int .i64 wd, .int .u32 v, .int .u32 cu, .int .u8 e, .int .u16 b, .int .u16 t, .int .u16 pm, .int .u16 ty, .int .u32 rs, .bool va, .string ⟨s.toArray⟩] 53)))
  have hb0 := Lib.hid ((Below.refl B w).alloc H.l1.2.2.2.2 (.cells #[.int .i64 kd, .int .u32 at_, .int .i64 wd, .int .u32 v, .int .u32 cu, .int .u8 e, .int .u16 b, .int .u16 t, .int .u16 pm, .int .u16 ty, .int .u32 rs, .bool va, .string ⟨s.toArray⟩] 53))
  have hX := Lib.hid (show wb < w.heap.size ∧ bb < w.heap.size ∧ rb < w.heap.size ∧ tb < w.heap.size from ⟨H.ar.m.lw, H.ar.lb, H.rf.lb, H.rf.lt⟩)
  obtain ⟨t1, ht1⟩ : ∃ t1, t1 = Int.tmod kd 7 := ⟨_, rfl⟩
  have hr1 : -7 < t1 ∧ t1 < 7 := by rw [ht1]; exact ⟨Int.lt_tmod_of_pos kd (by decide), Int.tmod_lt_of_pos kd (by decide)⟩
  rw [← ht1] at hm
  have t3 : IntKind.i64.wrap t1 = t1 := by rw [IntKind.wrap_i64]; omega
  have t4 : IntKind.i64.wrap (t1 + 7) = t1 + 7 := by rw [IntKind.wrap_i64]; omega
  have t5 : kd.tmod 7 = t1 := ht1.symm
  have e7 : (t1 + 7).tmod 7 = (t1 + 7) % 7 := Int.tmod_eq_emod_of_nonneg (by omega)
  have t6 : (t1 + 7) % 7 = 2 := by rw [← e7]; exact hm
  have tr1 := hr1.1
  have tr2 := hr1.2
  clear H hm hr1 ht1 hk e7
  go_enter Try.func20, Try.ntmps20
  go_upto_region 1 with (fail)
  generalize (w.alloc (.cells #[.int .i64 kd, .int .u32 at_, .int .i64 wd, .int .u32 v, .int .u32 cu, .int .u8 e, .int .u16 b, .int .u16 t, .int .u16 pm, .int .u16 ty, .int .u32 rs, .bool va, .string ⟨s.toArray⟩] 53)) = w1 at *
  have p0 := K0.out.cell (g := w.heap.size) (j := 0) (u := .int .i64 kd) [.int .i64 kd, .int .u32 at_, .int .i64 wd, .int .u32 v, .int .u32 cu, .int .u8 e, .int .u16 b, .int .u16 t, .int .u16 pm, .int .u16 ty, .int .u32 rs, .bool va, .string ⟨s.toArray⟩] (by simp) rfl
  have p12 := K0.out.cell (g := w.heap.size) (j := 12) (u := .string ⟨s.toArray⟩) [.int .i64 kd, .int .u32 at_, .int .i64 wd, .int .u32 v, .int .u32 cu, .int .u8 e, .int .u16 b, .int .u16 t, .int .u16 pm, .int .u16 ty, .int .u32 rs, .bool va, .string ⟨s.toArray⟩] (by simp) rfl
  go_upto_region 7 with (fail)
  clear t6
  generalize (t1 + 7) % 7 = q7
  clear p0
  go_cut [7] (fun s' w' => ∃ z : List UInt8, s' = .string ⟨z.toArray⟩ ∧ z.length ≤ 500 ∧ w' = w1)
  case first =>
    go_wp2_with fail
    · go_meet
      obtain ⟨l, hl, hq⟩ := cut_str ⟨s.toArray⟩ 500
      exact ⟨l, by rw [← hl], by omega, by first | rfl | trivial⟩
    · go_meet
      obtain ⟨l, hl, hq⟩ := cut_str ⟨s.toArray⟩ s.length
      exact ⟨l, by rw [← hl], by omega, by first | rfl | trivial⟩
  case rest =>
    obtain ⟨z, rfl, hz, hwc⟩ := hcut
    have hwc := hwc.symm
    subst hwc
    clear p12
    have lz : z.length < 9223372036854775808 := by omega
    clear hz
    go_wp2_with fail
    have tr : ∀ w', (w'.cell? ⟨w.heap.size, 1, none⟩ = some (.int .u32 at_) ∧ RS [⟨w.heap.size, [.int .i64 kd, .int .u32 at_, .int .i64 wd, .int .u32 v, .int .u32 cu, .int .u8 e, .int .u16 b, .int .u16 t, .int .u16 pm, .int .u16 ty, .int .u32 rs, .bool va, .string ⟨s.toArray⟩]⟩] w') → RS [⟨w.heap.size, [.int .i64 kd, .int .u32 at_, .int .i64 wd, .int .u32 v, .int .u32 cu, .int .u8 e, .int .u16 b, .int .u16 t, .int .u16 pm, .int .u16 ty, .int .u32 rs, .bool va, .string ⟨s.toArray⟩]⟩] w' := fun w' h => h.2
    have all : ∀ w', RS [⟨w.heap.size, [.int .i64 kd, .int .u32 at_, .int .i64 wd, .int .u32 v, .int .u32 cu, .int .u8 e, .int .u16 b, .int .u16 t, .int .u16 pm, .int .u16 ty, .int .u32 rs, .bool va, .string ⟨s.toArray⟩]⟩] w' → w'.cell? ⟨w.heap.size, 1, none⟩ = some (.int .u32 at_) ∧ RS [⟨w.heap.size, [.int .i64 kd, .int .u32 at_, .int .i64 wd, .int .u32 v, .int .u32 cu, .int .u8 e, .int .u16 b, .int .u16 t, .int .u16 pm, .int .u16 ty, .int .u32 rs, .bool va, .string ⟨s.toArray⟩]⟩] w' := fun w' h => ⟨h.cell (g := w.heap.size) [.int .i64 kd, .int .u32 at_, .int .i64 wd, .int .u32 v, .int .u32 cu, .int .u8 e, .int .u16 b, .int .u16 t, .int .u16 pm, .int .u16 ty, .int .u32 rs, .bool va, .string ⟨s.toArray⟩] (by simp) rfl, h⟩
    have j0 := all _ K0.out.drew
    have A0 := Lib.hid H0.out.ar.drew
    have R0 := Lib.hid H0.out.rf.drew
    have T0 := Lib.hid (H0.out.below (Below.refl _ w1).drew)
    have hne1 := Lib.hid (fun (x : Rw) (hx : x ∈ [⟨w.heap.size, [.int .i64 kd, .int .u32 at_, .int .i64 wd, .int .u32 v, .int .u32 cu, .int .u8 e, .int .u16 b, .int .u16 t, .int .u16 pm, .int .u16 ty, .int .u32 rs, .bool va, .string ⟨s.toArray⟩]⟩]) => (show x.g ≠ wb ∧ x.g ≠ bb by
      have := hX.out
      simp at hx
      subst hx
      simp
      omega))
    have hne2 := Lib.hid (fun (x : Rw) (hx : x ∈ [⟨w.heap.size, [.int .i64 kd, .int .u32 at_, .int .i64 wd, .int .u32 v, .int .u32 cu, .int .u8 e, .int .u16 b, .int .u16 t, .int .u16 pm, .int .u16 ty, .int .u32 rs, .bool va, .string ⟨s.toArray⟩]⟩]) => (show x.g ≠ rb ∧ x.g ≠ tb by
      have := hX.out
      simp at hx
      subst hx
      simp
      omega))
    have hbb := Lib.hid (fun w3 (k : Below B w1.drew w3) => (show Below B w w3 from hb0.out.trans (below_undrew k)))
    replace tr := Lib.hid tr
    replace all := Lib.hid all
    go_region_held (fun w' => w'.cell? ⟨w.heap.size, 1, none⟩ = some (.int .u32 at_) ∧ RS [⟨w.heap.size, [.int .i64 kd, .int .u32 at_, .int .i64 wd, .int .u32 v, .int .u32 cu, .int .u8 e, .int .u16 b, .int .u16 t, .int .u16 pm, .int .u16 ty, .int .u32 rs, .bool va, .string ⟨s.toArray⟩]⟩] w')
      (first | with_reducible exact j0 | with_reducible exact j1 | with_reducible exact j2)
      (first
        | (go_at_call 25; ((with_reducible refine (awrite_any A0.out z at_ la lz).mono ?_); rintro ee X ⟨rfl, g1, g2⟩; have j1 := all.out _ ((tr.out _ j0).of2 g2 hne1.out); have R1 := Lib.hid (T0.out.mid g2); have G1 := Lib.hid (And.intro g1 g2); clear g1 g2))
        | (go_at_call 51; ((with_reducible refine (rwrite_any R1.out at_ z la lz).mono ?_); rintro ee Y ⟨rfl, g1, g2⟩; have j2 := all.out _ ((tr.out _ j1).of2 g2 hne2.out); have E2 := Lib.hid (T0.out.both G1.out ⟨g1, g2⟩); clear g1 g2)))
    clear j0 j1 j2
    go_wp2
    go_ret
    exact ⟨ret_bool (by simp), _, _, E2.out.1, hbb.out _ E2.out.2⟩

set_option maxRecDepth 100000 in
set_option maxHeartbeats 4000000 in
theorem step_3 (H : Two B a mb wb bb c r rb tb n g f l w) (kd wd : Int) (at_ v cu e b t pm ty rs : Nat) (va : Bool) (s : List UInt8) (hk : -9223372036854775808 ≤ kd ∧ kd < 9223372036854775808) (hm : Int.tmod (Int.tmod kd 7 + 7) 7 = 3) (hw : -9223372036854775808 ≤ wd ∧ wd < 9223372036854775808) (la : at_ < 4294967296) (lv : v < 4294967296) (l0 : cu < 4294967296) (l1 : e < 256) (l2 : b < 65536) (l3 : t < 65536) (l4 : pm < 65536) (l5 : ty < 65536) (l6 : rs < 4294967296) (ls : s.length < 9223372036854775808) :
    Calls Try.prog 20 #[.pointer (some ⟨a, 0, none⟩), .pointer (some ⟨r, 0, none⟩), .agg #[.int .i64 kd, .int .u32 at_, .int .i64 wd, .int .u32 v, .int .u32 cu, .int .u8 e, .int .u16 b, .int .u16 t, .int .u16 pm, .int .u16 ty, .int .u32 rs, .bool va, .string ⟨s.toArray⟩]] w fun e w' => e = .returned (.bool true) ∧ ∃ f' l', Two B a mb wb bb c r rb tb n g f' l' w' ∧ Below B w w' := by
  have K0 := Lib.hid ((RS.nil w).push [.int .i64 kd, .int .u32 at_, .int .i64 wd, .int .u32 v, .int .u32 cu, .int .u8 e, .int .u16 b, .int .u16 t, .int .u16 pm, .int .u16 ty, .int .u32 rs, .bool va, .string ⟨s.toArray⟩] 53)
  have H0 := Lib.hid (H.below ((Below.refl _ w).alloc (Nat.le_refl _) (.cells #[.int .i64 kd, .int .u32 at_, .int .i64 wd, .int .u32 v, .int .u32 cu, .int .u8 e, .int .u16 b, .int .u16 t, .int .u16 pm, .int .u16 ty, .int .u32 rs, .bool va, .string ⟨s.toArray⟩] 53)))
  have hb0 := Lib.hid ((Below.refl B w).alloc H.l1.2.2.2.2 (.cells #[.int .i64 kd, .int .u32 at_, .int .i64 wd, .int .u32 v, .int .u32 cu, .int .u8 e, .int .u16 b, .int .u16 t, .int .u16 pm, .int .u16 ty, .int .u32 rs, .bool va, .string ⟨s.toArray⟩] 53))
  have hX := Lib.hid (show wb < w.heap.size ∧ bb < w.heap.size ∧ rb < w.heap.size ∧ tb < w.heap.size from ⟨H.ar.m.lw, H.ar.lb, H.rf.lb, H.rf.lt⟩)
  obtain ⟨t1, ht1⟩ : ∃ t1, t1 = Int.tmod kd 7 := ⟨_, rfl⟩
  have hr1 : -7 < t1 ∧ t1 < 7 := by rw [ht1]; exact ⟨Int.lt_tmod_of_pos kd (by decide), Int.tmod_lt_of_pos kd (by decide)⟩
  rw [← ht1] at hm
  have t3 : IntKind.i64.wrap t1 = t1 := by rw [IntKind.wrap_i64]; omega
  have t4 : IntKind.i64.wrap (t1 + 7) = t1 + 7 := by rw [IntKind.wrap_i64]; omega
  have t5 : kd.tmod 7 = t1 := ht1.symm
  have e7 : (t1 + 7).tmod 7 = (t1 + 7) % 7 := Int.tmod_eq_emod_of_nonneg (by omega)
  have t6 : (t1 + 7) % 7 = 3 := by rw [← e7]; exact hm
  have tr1 := hr1.1
  have tr2 := hr1.2
  clear H hm hr1 ht1 hk e7
  go_enter Try.func20, Try.ntmps20
  go_upto_region 1 with (fail)
  generalize (w.alloc (.cells #[.int .i64 kd, .int .u32 at_, .int .i64 wd, .int .u32 v, .int .u32 cu, .int .u8 e, .int .u16 b, .int .u16 t, .int .u16 pm, .int .u16 ty, .int .u32 rs, .bool va, .string ⟨s.toArray⟩] 53)) = w1 at *
  have p0 := K0.out.cell (g := w.heap.size) (j := 0) (u := .int .i64 kd) [.int .i64 kd, .int .u32 at_, .int .i64 wd, .int .u32 v, .int .u32 cu, .int .u8 e, .int .u16 b, .int .u16 t, .int .u16 pm, .int .u16 ty, .int .u32 rs, .bool va, .string ⟨s.toArray⟩] (by simp) rfl
  go_wp2_with fail
  clear p0
  have tr : ∀ w', (w'.cell? ⟨w.heap.size, 1, none⟩ = some (.int .u32 at_) ∧ w'.cell? ⟨w.heap.size, 3, none⟩ = some (.int .u32 v) ∧ RS [⟨w.heap.size, [.int .i64 kd, .int .u32 at_, .int .i64 wd, .int .u32 v, .int .u32 cu, .int .u8 e, .int .u16 b, .int .u16 t, .int .u16 pm, .int .u16 ty, .int .u32 rs, .bool va, .string ⟨s.toArray⟩]⟩] w') → RS [⟨w.heap.size, [.int .i64 kd, .int .u32 at_, .int .i64 wd, .int .u32 v, .int .u32 cu, .int .u8 e, .int .u16 b, .int .u16 t, .int .u16 pm, .int .u16 ty, .int .u32 rs, .bool va, .string ⟨s.toArray⟩]⟩] w' := fun w' h => h.2.2
  have all : ∀ w', RS [⟨w.heap.size, [.int .i64 kd, .int .u32 at_, .int .i64 wd, .int .u32 v, .int .u32 cu, .int .u8 e, .int .u16 b, .int .u16 t, .int .u16 pm, .int .u16 ty, .int .u32 rs, .bool va, .string ⟨s.toArray⟩]⟩] w' → w'.cell? ⟨w.heap.size, 1, none⟩ = some (.int .u32 at_) ∧ w'.cell? ⟨w.heap.size, 3, none⟩ = some (.int .u32 v) ∧ RS [⟨w.heap.size, [.int .i64 kd, .int .u32 at_, .int .i64 wd, .int .u32 v, .int .u32 cu, .int .u8 e, .int .u16 b, .int .u16 t, .int .u16 pm, .int .u16 ty, .int .u32 rs, .bool va, .string ⟨s.toArray⟩]⟩] w' := fun w' h => ⟨h.cell (g := w.heap.size) [.int .i64 kd, .int .u32 at_, .int .i64 wd, .int .u32 v, .int .u32 cu, .int .u8 e, .int .u16 b, .int .u16 t, .int .u16 pm, .int .u16 ty, .int .u32 rs, .bool va, .string ⟨s.toArray⟩] (by simp) rfl, h.cell (g := w.heap.size) [.int .i64 kd, .int .u32 at_, .int .i64 wd, .int .u32 v, .int .u32 cu, .int .u8 e, .int .u16 b, .int .u16 t, .int .u16 pm, .int .u16 ty, .int .u32 rs, .bool va, .string ⟨s.toArray⟩] (by simp) rfl, h⟩
  have j0 := all _ K0.out.drew
  have A0 := Lib.hid H0.out.ar.drew
  have R0 := Lib.hid H0.out.rf.drew
  have T0 := Lib.hid (H0.out.below (Below.refl _ w1).drew)
  have hne1 := Lib.hid (fun (x : Rw) (hx : x ∈ [⟨w.heap.size, [.int .i64 kd, .int .u32 at_, .int .i64 wd, .int .u32 v, .int .u32 cu, .int .u8 e, .int .u16 b, .int .u16 t, .int .u16 pm, .int .u16 ty, .int .u32 rs, .bool va, .string ⟨s.toArray⟩]⟩]) => (show x.g ≠ wb ∧ x.g ≠ bb by
    have := hX.out
    simp at hx
    subst hx
    simp
    omega))
  have hne2 := Lib.hid (fun (x : Rw) (hx : x ∈ [⟨w.heap.size, [.int .i64 kd, .int .u32 at_, .int .i64 wd, .int .u32 v, .int .u32 cu, .int .u8 e, .int .u16 b, .int .u16 t, .int .u16 pm, .int .u16 ty, .int .u32 rs, .bool va, .string ⟨s.toArray⟩]⟩]) => (show x.g ≠ rb ∧ x.g ≠ tb by
    have := hX.out
    simp at hx
    subst hx
    simp
    omega))
  have hbb := Lib.hid (fun w3 (k : Below B w1.drew w3) => (show Below B w w3 from hb0.out.trans (below_undrew k)))
  replace tr := Lib.hid tr
  replace all := Lib.hid all
  go_region_held (fun w' => w'.cell? ⟨w.heap.size, 1, none⟩ = some (.int .u32 at_) ∧ w'.cell? ⟨w.heap.size, 3, none⟩ = some (.int .u32 v) ∧ RS [⟨w.heap.size, [.int .i64 kd, .int .u32 at_, .int .i64 wd, .int .u32 v, .int .u32 cu, .int .u8 e, .int .u16 b, .int .u16 t, .int .u16 pm, .int .u16 ty, .int .u32 rs, .bool va, .string ⟨s.toArray⟩]⟩] w')
    (first | with_reducible exact j0 | with_reducible exact j1 | with_reducible exact j2)
    (first
      | (go_at_call 30; ((with_reducible refine (azero_any A0.out at_ v la lv).mono ?_); rintro ee X ⟨rfl, g1, g2⟩; have j1 := all.out _ ((tr.out _ j0).of2 g2 hne1.out); have R1 := Lib.hid (T0.out.mid g2); have G1 := Lib.hid (And.intro g1 g2); clear g1 g2))
      | (go_at_call 52; ((with_reducible refine (rzero_any R1.out at_ v la lv).mono ?_); rintro ee Y ⟨rfl, g1, g2⟩; have j2 := all.out _ ((tr.out _ j1).of2 g2 hne2.out); have E2 := Lib.hid (T0.out.both G1.out ⟨g1, g2⟩); clear g1 g2)))
  clear j0 j1 j2
  go_wp2
  go_ret
  exact ⟨ret_bool (by simp), _, _, E2.out.1, hbb.out _ E2.out.2⟩

set_option maxRecDepth 100000 in
set_option maxHeartbeats 4000000 in
theorem step_4 (H : Two B a mb wb bb c r rb tb n g f l w) (kd wd : Int) (at_ v cu e b t pm ty rs : Nat) (va : Bool) (s : List UInt8) (hk : -9223372036854775808 ≤ kd ∧ kd < 9223372036854775808) (hm : Int.tmod (Int.tmod kd 7 + 7) 7 = 4) (hw : -9223372036854775808 ≤ wd ∧ wd < 9223372036854775808) (la : at_ < 4294967296) (lv : v < 4294967296) (l0 : cu < 4294967296) (l1 : e < 256) (l2 : b < 65536) (l3 : t < 65536) (l4 : pm < 65536) (l5 : ty < 65536) (l6 : rs < 4294967296) (ls : s.length < 9223372036854775808) :
    Calls Try.prog 20 #[.pointer (some ⟨a, 0, none⟩), .pointer (some ⟨r, 0, none⟩), .agg #[.int .i64 kd, .int .u32 at_, .int .i64 wd, .int .u32 v, .int .u32 cu, .int .u8 e, .int .u16 b, .int .u16 t, .int .u16 pm, .int .u16 ty, .int .u32 rs, .bool va, .string ⟨s.toArray⟩]] w fun e w' => e = .returned (.bool true) ∧ ∃ f' l', Two B a mb wb bb c r rb tb n g f' l' w' ∧ Below B w w' := by
  have K0 := Lib.hid ((RS.nil w).push [.int .i64 kd, .int .u32 at_, .int .i64 wd, .int .u32 v, .int .u32 cu, .int .u8 e, .int .u16 b, .int .u16 t, .int .u16 pm, .int .u16 ty, .int .u32 rs, .bool va, .string ⟨s.toArray⟩] 53)
  have H0 := Lib.hid (H.below ((Below.refl _ w).alloc (Nat.le_refl _) (.cells #[.int .i64 kd, .int .u32 at_, .int .i64 wd, .int .u32 v, .int .u32 cu, .int .u8 e, .int .u16 b, .int .u16 t, .int .u16 pm, .int .u16 ty, .int .u32 rs, .bool va, .string ⟨s.toArray⟩] 53)))
  have hb0 := Lib.hid ((Below.refl B w).alloc H.l1.2.2.2.2 (.cells #[.int .i64 kd, .int .u32 at_, .int .i64 wd, .int .u32 v, .int .u32 cu, .int .u8 e, .int .u16 b, .int .u16 t, .int .u16 pm, .int .u16 ty, .int .u32 rs, .bool va, .string ⟨s.toArray⟩] 53))
  have hX := Lib.hid (show wb < w.heap.size ∧ bb < w.heap.size ∧ rb < w.heap.size ∧ tb < w.heap.size from ⟨H.ar.m.lw, H.ar.lb, H.rf.lb, H.rf.lt⟩)
  obtain ⟨t1, ht1⟩ : ∃ t1, t1 = Int.tmod kd 7 := ⟨_, rfl⟩
  have hr1 : -7 < t1 ∧ t1 < 7 := by rw [ht1]; exact ⟨Int.lt_tmod_of_pos kd (by decide), Int.tmod_lt_of_pos kd (by decide)⟩
  rw [← ht1] at hm
  have t3 : IntKind.i64.wrap t1 = t1 := by rw [IntKind.wrap_i64]; omega
  have t4 : IntKind.i64.wrap (t1 + 7) = t1 + 7 := by rw [IntKind.wrap_i64]; omega
  have t5 : kd.tmod 7 = t1 := ht1.symm
  have e7 : (t1 + 7).tmod 7 = (t1 + 7) % 7 := Int.tmod_eq_emod_of_nonneg (by omega)
  have t6 : (t1 + 7) % 7 = 4 := by rw [← e7]; exact hm
  have tr1 := hr1.1
  have tr2 := hr1.2
  clear H hm hr1 ht1 hk e7
  go_enter Try.func20, Try.ntmps20
  go_upto_region 1 with (fail)
  generalize (w.alloc (.cells #[.int .i64 kd, .int .u32 at_, .int .i64 wd, .int .u32 v, .int .u32 cu, .int .u8 e, .int .u16 b, .int .u16 t, .int .u16 pm, .int .u16 ty, .int .u32 rs, .bool va, .string ⟨s.toArray⟩] 53)) = w1 at *
  have p0 := K0.out.cell (g := w.heap.size) (j := 0) (u := .int .i64 kd) [.int .i64 kd, .int .u32 at_, .int .i64 wd, .int .u32 v, .int .u32 cu, .int .u8 e, .int .u16 b, .int .u16 t, .int .u16 pm, .int .u16 ty, .int .u32 rs, .bool va, .string ⟨s.toArray⟩] (by simp) rfl
  go_wp2_with fail
  clear p0
  have tr : ∀ w', (w'.cell? ⟨w.heap.size, 1, none⟩ = some (.int .u32 at_) ∧ RS [⟨w.heap.size, [.int .i64 kd, .int .u32 at_, .int .i64 wd, .int .u32 v, .int .u32 cu, .int .u8 e, .int .u16 b, .int .u16 t, .int .u16 pm, .int .u16 ty, .int .u32 rs, .bool va, .string ⟨s.toArray⟩]⟩] w') → RS [⟨w.heap.size, [.int .i64 kd, .int .u32 at_, .int .i64 wd, .int .u32 v, .int .u32 cu, .int .u8 e, .int .u16 b, .int .u16 t, .int .u16 pm, .int .u16 ty, .int .u32 rs, .bool va, .string ⟨s.toArray⟩]⟩] w' := fun w' h => h.2
  have all : ∀ w', RS [⟨w.heap.size, [.int .i64 kd, .int .u32 at_, .int .i64 wd, .int .u32 v, .int .u32 cu, .int .u8 e, .int .u16 b, .int .u16 t, .int .u16 pm, .int .u16 ty, .int .u32 rs, .bool va, .string ⟨s.toArray⟩]⟩] w' → w'.cell? ⟨w.heap.size, 1, none⟩ = some (.int .u32 at_) ∧ RS [⟨w.heap.size, [.int .i64 kd, .int .u32 at_, .int .i64 wd, .int .u32 v, .int .u32 cu, .int .u8 e, .int .u16 b, .int .u16 t, .int .u16 pm, .int .u16 ty, .int .u32 rs, .bool va, .string ⟨s.toArray⟩]⟩] w' := fun w' h => ⟨h.cell (g := w.heap.size) [.int .i64 kd, .int .u32 at_, .int .i64 wd, .int .u32 v, .int .u32 cu, .int .u8 e, .int .u16 b, .int .u16 t, .int .u16 pm, .int .u16 ty, .int .u32 rs, .bool va, .string ⟨s.toArray⟩] (by simp) rfl, h⟩
  have j0 := all _ K0.out.drew
  have A0 := Lib.hid H0.out.ar.drew
  have R0 := Lib.hid H0.out.rf.drew
  have T0 := Lib.hid (H0.out.below (Below.refl _ w1).drew)
  have hne1 := Lib.hid (fun (x : Rw) (hx : x ∈ [⟨w.heap.size, [.int .i64 kd, .int .u32 at_, .int .i64 wd, .int .u32 v, .int .u32 cu, .int .u8 e, .int .u16 b, .int .u16 t, .int .u16 pm, .int .u16 ty, .int .u32 rs, .bool va, .string ⟨s.toArray⟩]⟩]) => (show x.g ≠ wb ∧ x.g ≠ bb by
    have := hX.out
    simp at hx
    subst hx
    simp
    omega))
  have hne2 := Lib.hid (fun (x : Rw) (hx : x ∈ [⟨w.heap.size, [.int .i64 kd, .int .u32 at_, .int .i64 wd, .int .u32 v, .int .u32 cu, .int .u8 e, .int .u16 b, .int .u16 t, .int .u16 pm, .int .u16 ty, .int .u32 rs, .bool va, .string ⟨s.toArray⟩]⟩]) => (show x.g ≠ rb ∧ x.g ≠ tb by
    have := hX.out
    simp at hx
    subst hx
    simp
    omega))
  have hbb := Lib.hid (fun w3 (k : Below B w1.drew w3) => (show Below B w w3 from hb0.out.trans (below_undrew k)))
  replace tr := Lib.hid tr
  replace all := Lib.hid all
  go_region_held (fun w' => w'.cell? ⟨w.heap.size, 1, none⟩ = some (.int .u32 at_) ∧ RS [⟨w.heap.size, [.int .i64 kd, .int .u32 at_, .int .i64 wd, .int .u32 v, .int .u32 cu, .int .u8 e, .int .u16 b, .int .u16 t, .int .u16 pm, .int .u16 ty, .int .u32 rs, .bool va, .string ⟨s.toArray⟩]⟩] w')
    (first | with_reducible exact j0 | with_reducible exact j1 | with_reducible exact j2)
    (first
      | (go_at_call 24; ((with_reducible refine (auntag_any A0.out at_ la).mono ?_); rintro ee X ⟨rfl, g1, g2⟩; have j1 := all.out _ ((tr.out _ j0).of2 g2 hne1.out); have R1 := Lib.hid (T0.out.mid g2); have G1 := Lib.hid (And.intro g1 g2); clear g1 g2))
      | (go_at_call 53; ((with_reducible refine (runtag_any R1.out A0.out.m.off at_ la).mono ?_); rintro ee Y ⟨rfl, g1, g2⟩; have j2 := all.out _ ((tr.out _ j1).of2 g2 hne2.out); have E2 := Lib.hid (T0.out.both G1.out ⟨g1, g2⟩); clear g1 g2)))
  clear j0 j1 j2
  go_wp2
  go_ret
  exact ⟨ret_bool (by simp), _, _, E2.out.1, hbb.out _ E2.out.2⟩
end
end Go.Proofs.Ytpopfmboonjplaa
