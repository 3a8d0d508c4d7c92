/- Proved: the chapter's examples of arena, and arenas that are none (ArenaKnown). Closed: no input, no condition. -/
import Derived.Test.YtpopfmboonjplaaRows
import Derived.Test.YtpopfmboonjplaaArNE
import Derived.ProofKit
import Derived.OpenShut
import Derived.ShutString
import Derived.ChangeOld
namespace Go.Proofs.Ytpopfmboonjplaa.aknown
open Go.ChangeShapes Go.WideShapes Go.ChangeAt Go.RowKit
open Go.ChangeMaps (open_string shut_string)
set_option linter.unusedVariables false

/-- An empty list that a call hands back: some slice of length 0. -/
theorem list_nil' {w w' : World} {e : Ending} (k : ListPost w [] e w') : ∃ (A : Option Addr) (c' : Nat), e = .returned (.slice A 0 c') := by
  rcases list_nil k with rfl | ⟨q', c', rfl⟩
  · exact ⟨none, 0, rfl⟩
  · exact ⟨_, _, rfl⟩
set_option maxRecDepth 100000 in
set_option maxHeartbeats 20000000 in
theorem walk (W : World) : Calls Try.prog 5 #[] W fun e W' => e = .returned (.bool true) ∧ Below W.heap.size W W' := by
  have h15 : Calls Try.prog 14 #[.int .i64 15] W fun e w' => e = .returned (.tuple #[.pointer none, .int .i64 2]) ∧ W = w' := anew_no 15 W (by decide)
  have h1025 : Calls Try.prog 14 #[.int .i64 1025] W fun e w' => e = .returned (.tuple #[.pointer none, .int .i64 3]) ∧ W = w' := anew_long 1025 W (by decide)
  have M := Lib.hid (made_any W)
  replace h15 := Lib.hid h15
  replace h1025 := Lib.hid h1025
  have hund : undef = Value.tuple #[] := rfl
  go_enter Try.func5, Try.ntmps5
  go_wp2_with fail
  refine h15.out.mono ?_
  rintro e w1 ⟨rfl, rfl⟩
  go_wp2_with fail
  refine h1025.out.mono ?_
  rintro e w1 ⟨rfl, rfl⟩
  go_wp2_with fail
  refine M.out.mono ?_
  rintro e W1 ⟨a, rfl, mb, wb, bb, c, h, hb, x1, x2, x3, x4⟩
  have N := Lib.hid (And.intro hb (And.intro x3 x4))
  have Z := Lib.hid (St.first (n := 4096) h)
  clear h hb x1 x2 x3 x4 h15 h1025 M
  go_wp2_with fail
  refine (make64 _).mono ?_
  rintro e W2 ⟨rfl, k⟩
  replace Z := Lib.hid ((Z.out.below k).push [.int .u32 256, .int .u8 0, .int .u16 256, .int .u16 320, .int .u16 3, .int .u16 0, .int .u32 0, .bool true] 25)
  clear k
  unfold c64
  go_upto_region 5 with (fail)
  generalize (W2.alloc (.cells #[.int .u32 256, .int .u8 0, .int .u16 256, .int .u16 320, .int .u16 3, .int .u16 0, .int .u32 0, .bool true] 25)) = W3 at *
  obtain ⟨q0, q1, q2, q3, q4, q5, q6, q7⟩ := Z.out.rs.cap (g := W2.heap.size) (cu := 256) (e := 0) (b := 256) (t := 320) (pm := 3) (ty := 0) (rs := 0) (va := true) (by simp [cv])
  go_wp2_with fail
  refine (k_sc32 Z.out.ar).mono ?_
  rintro e V3 ⟨rfl, k⟩
  replace Z := Lib.hid (Z.out.nxt k)
  clear k
  clear q0 q1 q2 q3 q4 q5 q6 q7
  go_wp2_with fail
  refine (k_un Z.out.ar).mono ?_
  rintro e V4 ⟨rfl, k⟩
  replace Z := Lib.hid (Z.out.nxt k)
  clear k
  go_wp2_with fail
  refine (k_un2 Z.out.ar).mono ?_
  rintro e V5 ⟨rfl, k⟩
  replace Z := Lib.hid (Z.out.nxt k)
  clear k
  obtain ⟨q0, q1, q2, q3, q4, q5, q6, q7⟩ := Z.out.rs.cap (g := W2.heap.size) (cu := 256) (e := 0) (b := 256) (t := 320) (pm := 3) (ty := 0) (rs := 0) (va := true) (by simp [cv])
  go_wp2_with fail
  refine (k_sc32 Z.out.ar).mono ?_
  rintro e V6 ⟨rfl, k⟩
  replace Z := Lib.hid (Z.out.nxt k)
  clear k
  clear q0 q1 q2 q3 q4 q5 q6 q7
  go_wp2_with fail
  refine (k_w2 Z.out.ar).mono ?_
  rintro e V7 ⟨rfl, k⟩
  replace Z := Lib.hid (Z.out.nxt k)
  clear k
  go_wp2_with fail
  refine (s6 Z.out.ar).mono ?_
  intro e L1 k
  obtain ⟨q, c', rfl, Zn⟩ := Z.out.list k (by decide)
  replace Z := Lib.hid (Zn.sub (L' := [⟨W2.heap.size, [.int .u32 256, .int .u8 0, .int .u16 256, .int .u16 320, .int .u16 3, .int .u16 0, .int .u32 0, .bool true]⟩]) (by simp))
  clear k Zn
  go_wp2_with fail
  refine (k_w3 Z.out.ar).mono ?_
  rintro e V8 ⟨rfl, k⟩
  replace Z := Lib.hid (Z.out.nxt k)
  clear k
  go_wp2_with fail
  refine (s9 Z.out.ar).mono ?_
  intro e L2 k
  have kb := (show Below _ _ L2 from by obtain ⟨_, _, _, b⟩ := k; exact b)
  replace Z := Lib.hid (Z.out.below kb)
  obtain ⟨vl, hvl⟩ : ∃ v, v = e := ⟨_, rfl⟩
  have hl := list_nil' k
  clear k kb vl hvl
  obtain ⟨A0, c0, rfl⟩ := hl
  obtain ⟨q0, q1, q2, q3, q4, q5, q6, q7⟩ := Z.out.rs.cap (g := W2.heap.size) (cu := 256) (e := 0) (b := 256) (t := 320) (pm := 3) (ty := 0) (rs := 0) (va := true) (by simp [cv])
  go_wp2_with fail
  refine (k_sc32 Z.out.ar).mono ?_
  rintro e V9 ⟨rfl, k⟩
  replace Z := Lib.hid (Z.out.nxt k)
  clear k
  clear q0 q1 q2 q3 q4 q5 q6 q7
  obtain ⟨q0, q1, q2, q3, q4, q5, q6, q7⟩ := Z.out.rs.cap (g := W2.heap.size) (cu := 256) (e := 0) (b := 256) (t := 320) (pm := 3) (ty := 0) (rs := 0) (va := true) (by simp [cv])
  go_wp2_with fail
  clear q0 q1 q2 q3 q4 q5 q6 q7
  have Zy := Lib.hid (Z.out.push [.int .u32 256, .int .u8 0, .int .u16 256, .int .u16 320, .int .u16 256, .int .u16 0, .int .u32 0, .bool true] 25)
  refine (k_sc48 Zy.out.ar).mono ?_
  rintro e U1 ⟨rfl, k⟩
  replace Z := Lib.hid ((Zy.out.nxt k).sub (L' := [⟨W2.heap.size, [.int .u32 256, .int .u8 0, .int .u16 256, .int .u16 320, .int .u16 3, .int .u16 0, .int .u32 0, .bool true]⟩]) (by intro x hx; simp at hx; subst hx; simp))
  clear k Zy
  go_wp2_with fail
  refine (k_lc40 Z.out.ar).mono ?_
  rintro e U2 ⟨rfl, k⟩
  replace Z := Lib.hid (Z.out.below k)
  clear k
  unfold cap0
  replace Z := Lib.hid (Z.out.below ((Below.refl _ U2).alloc (Nat.le_refl _) (.cells #[.int .u32 0, .int .u8 0, .int .u16 0, .int .u16 0, .int .u16 0, .int .u16 0, .int .u32 0, .bool false] 25)))
  go_upto_region 17 with (fail)
  generalize (U2.alloc (.cells #[.int .u32 0, .int .u8 0, .int .u16 0, .int .u16 0, .int .u16 0, .int .u16 0, .int .u32 0, .bool false] 25)) = U3 at *
  go_wp2_with fail
  refine (k_r1 Z.out.ar).mono ?_
  rintro e R0 ⟨rfl, k⟩
  replace Z := Lib.hid (Z.out.below k)
  clear k
  go_wp2_with fail
  refine (k_r2 Z.out.ar).mono ?_
  rintro e R1 ⟨rfl, k⟩
  replace Z := Lib.hid (Z.out.below k)
  clear k
  go_wp2_with fail
  refine (k_r3 Z.out.ar).mono ?_
  rintro e R2 ⟨rfl, k⟩
  replace Z := Lib.hid (Z.out.below k)
  clear k
  replace Z := Lib.hid (Z.out.push [.pointer none, .slice none 0 0] 71)
  obtain ⟨em, hem⟩ : ∃ em, em = R2.heap.size := ⟨_, rfl⟩
  go_upto_region 22 with (fail)
  rw [← hem] at Z ⊢
  generalize (R2.alloc (.cells #[.pointer none, .slice none 0 0] 71)) = R3 at *
  clear hem
  go_wp2_with fail
  refine (kn_load (.inl rfl)).mono ?_
  rintro e R4 ⟨rfl, k⟩
  replace Z := Lib.hid (Z.out.below k)
  clear k
  go_wp2_with fail
  refine (nlcap (.inr ⟨em, rfl, (Z.out.rs _ (show (⟨em, [.pointer none, .slice none 0 0]⟩ : Rw) ∈ _ by simp)).1, Z.out.rs.cell (g := em) [.pointer none, .slice none 0 0] (by simp) rfl, Z.out.rs.cell (g := em) [.pointer none, .slice none 0 0] (by simp) rfl⟩)).mono ?_
  rintro e R5 ⟨rfl, k⟩
  replace Z := Lib.hid (Z.out.below k)
  clear k
  unfold cap0
  replace Z := Lib.hid (Z.out.below ((Below.refl _ R5).alloc (Nat.le_refl _) (.cells #[.int .u32 0, .int .u8 0, .int .u16 0, .int .u16 0, .int .u16 0, .int .u16 0, .int .u32 0, .bool false] 25)))
  go_upto_region 24 with (fail)
  generalize (R5.alloc (.cells #[.int .u32 0, .int .u8 0, .int .u16 0, .int .u16 0, .int .u16 0, .int .u16 0, .int .u32 0, .bool false] 25)) = R6 at *
  go_wp2_with fail
  refine (kn_read (.inl rfl)).mono ?_
  rintro e R7 ⟨rfl, k⟩
  replace Z := Lib.hid (Z.out.below k)
  clear k
  go_wp2_with fail
  refine (awW R7).mono ?_
  rintro e R8 ⟨rfl, k⟩
  replace Z := Lib.hid (Z.out.below k)
  clear k
  go_wp2_with fail
  refine (s6 Z.out.ar).mono ?_
  intro e L3 k
  obtain ⟨q3, c3, rfl, Zn⟩ := Z.out.list k (by decide)
  replace Z := Lib.hid (Zn.sub (L' := [⟨em, [.pointer none, .slice none 0 0]⟩, ⟨W2.heap.size, [.int .u32 256, .int .u8 0, .int .u16 256, .int .u16 320, .int .u16 3, .int .u16 0, .int .u32 0, .bool true]⟩]) (by intro x hx; simp at hx; rcases hx with rfl | rfl <;> simp))
  clear k Zn
  go_wp2_with fail
  refine (nsize (.inl rfl)).mono ?_
  rintro e T1 ⟨rfl, k⟩
  replace Z := Lib.hid (Z.out.below k)
  clear k
  go_wp2_with fail
  refine (kn_store (.inr ⟨em, rfl, (Z.out.rs _ (show (⟨em, [.pointer none, .slice none 0 0]⟩ : Rw) ∈ _ by simp)).1, Z.out.rs.cell (g := em) [.pointer none, .slice none 0 0] (by simp) rfl, Z.out.rs.cell (g := em) [.pointer none, .slice none 0 0] (by simp) rfl⟩)).mono ?_
  rintro e T2 ⟨rfl, k⟩
  replace Z := Lib.hid (Z.out.below k)
  clear k
  obtain ⟨q0, q1, q2, q3, q4, q5, q6, q7⟩ := Z.out.rs.cap (g := W2.heap.size) (cu := 256) (e := 0) (b := 256) (t := 320) (pm := 3) (ty := 0) (rs := 0) (va := true) (by simp [cv])
  go_wp2_with fail
  refine (kn_scap (.inl rfl)).mono ?_
  rintro e T3 ⟨rfl, k⟩
  replace Z := Lib.hid (Z.out.below k)
  clear k
  clear q0 q1 q2 q3 q4 q5 q6 q7
  go_wp2_with fail
  refine (kn_write (.inr ⟨em, rfl, (Z.out.rs _ (show (⟨em, [.pointer none, .slice none 0 0]⟩ : Rw) ∈ _ by simp)).1, Z.out.rs.cell (g := em) [.pointer none, .slice none 0 0] (by simp) rfl, Z.out.rs.cell (g := em) [.pointer none, .slice none 0 0] (by simp) rfl⟩)).mono ?_
  rintro e T4 ⟨rfl, k⟩
  replace Z := Lib.hid (Z.out.below k)
  clear k
  go_wp2_with fail
  refine (nzero (.inl rfl)).mono ?_
  rintro e T5 ⟨rfl, k⟩
  replace Z := Lib.hid (Z.out.below k)
  clear k
  go_wp2_with fail
  refine (ntagged (.inr ⟨em, rfl, (Z.out.rs _ (show (⟨em, [.pointer none, .slice none 0 0]⟩ : Rw) ∈ _ by simp)).1, Z.out.rs.cell (g := em) [.pointer none, .slice none 0 0] (by simp) rfl, Z.out.rs.cell (g := em) [.pointer none, .slice none 0 0] (by simp) rfl⟩)).mono ?_
  rintro e T6 ⟨rfl, k⟩
  replace Z := Lib.hid (Z.out.below k)
  clear k
  go_wp2_with fail
  refine (nuntag (.inl rfl)).mono ?_
  rintro e T7 ⟨rfl, k⟩
  replace Z := Lib.hid (Z.out.below k)
  clear k
  go_wp2_with fail
  refine (ncopy (.inl rfl)).mono ?_
  rintro e T8 ⟨rfl, k⟩
  replace Z := Lib.hid (Z.out.below k)
  clear k
  go_wp2_with fail
  refine (ncopy (.inr ⟨em, rfl, (Z.out.rs _ (show (⟨em, [.pointer none, .slice none 0 0]⟩ : Rw) ∈ _ by simp)).1, Z.out.rs.cell (g := em) [.pointer none, .slice none 0 0] (by simp) rfl, Z.out.rs.cell (g := em) [.pointer none, .slice none 0 0] (by simp) rfl⟩)).mono ?_
  rintro e T9 ⟨rfl, k⟩
  replace Z := Lib.hid (Z.out.below k)
  clear k
  have hB := Lib.hid (N.out.1.trans (Z.out.of.below N.out.1.size N.out.2.1 N.out.2.2))
  clear Z
  go_wp2
  go_ret
  exact ⟨rfl, hB.out⟩

theorem own : ownKnob Try.prog.godebug = none := by kernel_rfl
theorem laidOut : laidOutB Try.prog = true := by kernel_rfl
set_option maxRecDepth 100000 in
theorem lifted (os : Os) (started : os.Started) (H : Type) (enc : TypeId × Value → H) :
    ReturnsInHanded {} Try.checked os 5 .any (Rows.arenaKnownSpec.pre6 enc Try.prog Try.f5 Rows.arenaKnownRow.domain false) (Rows.arenaKnownSpec.post enc Try.prog Try.f5 false true false false) := by
  refine returnsInHanded_of_change (C := Try.checked) own started (by kernel_rfl) Try.func5
    (ChangeSpec.witness6 (enc := enc) (C := Try.checked) false ⟨#[], #[], []⟩ 8 (by kernel_rfl) (by kernel_rfl) (by kernel_rfl) (by kernel_rfl)) ?_
  intro W base args ds gs before hval0 hW hcnd hsz
  have hval : ∀ (j : Nat) t v, Try.f5.params[j]? = some t → args[j]? = some v → Value.okWide Try.prog W .any base t v := hval0
  have hW' := hW
  obtain ⟨p, q, hA0, hV, rfl, hfz, hnd⟩ := hW
  have hA : DataW.TrodAll enc Try.prog W 0 (fun _ => true) true Try.f5.params.toList args.toList ds p := hA0
  rw [Try.params5] at hA hval
  obtain ⟨rfl, rfl, rfl⟩ := trodAll_none hA
  obtain ⟨rfl, rfl⟩ := trodVars_none hV
  clear hA0 hval0
  refine (walk  W).mono fun e W' ⟨he, bel⟩ => ?_
  subst he
  exact ⟨_, rfl, _, _, _, [], _, [], hW', trodAll_mk1 (shut_bool Try.underlying4 _), trodAll_mk0, rfl, bel.frame _, fun h => by cases h⟩
theorem over : Rows.arenaKnownRow.holds Try.pinned (OpenSpec.ofChange Rows.arenaKnownSpec) :=
  OpenClaim.holds_of_wide 5 Try.f5 rfl rfl rfl rfl rfl rfl rfl ⟨rfl, rfl, rfl, rfl, rfl⟩ rfl rfl rfl rfl rfl (by kernel_rfl) Try.func5 (by kernel_rfl)
    (of_decide_eq_true (by kernel_rfl)) (by unfold Func.isWrapper; first | (rw [if_pos (by decide +kernel)]; kernel_rfl) | (rw [if_neg (by decide +kernel)]; exact ⟨rfl, rfl⟩))
    (fun os started H enc _ => lifted os started H enc)
/-- The given statement. -/
theorem proved : Rows.ArenaKnownSaid := over
end Go.Proofs.Ytpopfmboonjplaa.aknown
