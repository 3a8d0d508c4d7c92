/- Proved: the capability of a region is the one that the document says (CapsMakes). For every input; no condition. -/
import Derived.Test.YtikgeombccoahaaRows
import Derived.Test.YtikgeombccoahaaCapW
import Derived.Test.YtikgeombccoahaaFlat
import Derived.Deep.RegionHeld3
import Derived.Deep.DeepCutAuto
import Derived.ProofKit
import Derived.OpenShut
import Derived.ShutString
import Derived.ChangeOld
namespace Go.Proofs.Ytikgeombccoahaa.cmakes
open Go.ChangeShapes Go.WideShapes Go.ChangeAt Go.RowKit
open Go.ChangeMaps (open_string shut_string)
set_option linter.unusedVariables false

theorem walk (at_ : Int) (wat_ : (Lit.int .u32 at_).wf = true) (sz : Int) (wsz : (Lit.int .u32 sz).wf = true) (pm : Int) (wpm : (Lit.int .u16 pm).wf = true) (W : World) :
    Calls Try.prog 6 #[.agg #[.int .u32 at_, .int .u32 sz], .int .u16 pm] W fun e w' => e = .returned (.bool true) ∧ Below W.heap.size W w' := by
  have hat_ := bounds_u32 wat_
  obtain ⟨at_, rfl⟩ := Int.eq_ofNat_of_zero_le hat_.1
  have lat_ : at_ < 4294967296 := by omega
  clear hat_ wat_
  have hsz := bounds_u32 wsz
  obtain ⟨sz, rfl⟩ := Int.eq_ofNat_of_zero_le hsz.1
  have lsz : sz < 4294967296 := by omega
  clear hsz wsz
  have hpm := bounds_u16 wpm
  obtain ⟨pm, rfl⟩ := Int.eq_ofNat_of_zero_le hpm.1
  have lpm : pm < 65536 := by omega
  clear hpm wpm
  have hW := Lib.hid (fun w => works_any w)
  cases hm : mkP at_ sz pm
  · have pM := Lib.hid (fun w => pMake_no at_ sz pm lat_ lsz lpm hm w)
    have rM := Lib.hid (fun w => rMake_no at_ sz pm w lat_ lsz hm)
    go_enter Try.func6, Try.ntmps6
    go_wp2_with fail
    refine (pM.out _).mono ?_
    rintro ee w1 ⟨rfl, h1⟩
    have q0 : w1.cell? ⟨W.heap.size, 0, none⟩ = some (.int .u32 at_) := (h1.cell (by simp)).trans (by simp [go_sem])
    have q1 : w1.cell? ⟨W.heap.size, 1, none⟩ = some (.int .u32 sz) := (h1.cell (by simp)).trans (by simp [go_sem])
    have hs : W.heap.size < w1.heap.size := by have := h1.size; simp at this; omega
    have b1 := Lib.hid (((Below.refl W.heap.size W).alloc (Nat.le_refl _) (.cells #[.int .u32 at_, .int .u32 sz] 33)).trans (h1.mono (by simp)))
    clear h1
    go_wp2_with fail
    refine (rM.out _).mono ?_
    rintro ee w2 ⟨rfl, h1⟩
    have hs2 : w1.heap.size < w2.heap.size := by have := h1.size; simp at this; omega
    have c0 : w2.cell? ⟨w1.heap.size, 0, none⟩ = some (.int .u32 0) := (h1.cell (by simp)).trans (by simp [go_sem])
    have c1 : w2.cell? ⟨w1.heap.size, 1, none⟩ = some (.int .u8 0) := (h1.cell (by simp)).trans (by simp [go_sem])
    have c2 : w2.cell? ⟨w1.heap.size, 2, none⟩ = some (.int .u16 0) := (h1.cell (by simp)).trans (by simp [go_sem])
    have c3 : w2.cell? ⟨w1.heap.size, 3, none⟩ = some (.int .u16 0) := (h1.cell (by simp)).trans (by simp [go_sem])
    have c4 : w2.cell? ⟨w1.heap.size, 4, none⟩ = some (.int .u16 0) := (h1.cell (by simp)).trans (by simp [go_sem])
    have c5 : w2.cell? ⟨w1.heap.size, 5, none⟩ = some (.int .u16 0) := (h1.cell (by simp)).trans (by simp [go_sem])
    have c6 : w2.cell? ⟨w1.heap.size, 6, none⟩ = some (.int .u32 0) := (h1.cell (by simp)).trans (by simp [go_sem])
    have c7 : w2.cell? ⟨w1.heap.size, 7, none⟩ = some (.bool false) := (h1.cell (by simp)).trans (by simp [go_sem])
    have b2 := Lib.hid ((b1.out.alloc b1.out.size (.cells #[.int .u32 0, .int .u8 0, .int .u16 0, .int .u16 0, .int .u16 0, .int .u16 0, .int .u32 0, .bool false] 25)).trans (h1.mono (by have := b1.out.size; simp; omega)))
    clear h1 q0 q1
    go_wp2_with fail
    refine (hW.out _).mono ?_
    rintro ee w3 ⟨rfl, h1⟩
    have b3 := b2.out.alloc b2.out.size (.cells #[.int .u32 0, .int .u8 0, .int .u16 0, .int .u16 0, .int .u16 0, .int .u16 0, .int .u32 0, .bool false] 25)
    replace b3 := Lib.hid (b3.trans (h1.mono (by have := b2.out.size; simp; omega)))
    clear h1
    go_wp2
    go_ret
    exact ⟨rfl, b3.out⟩
  · have pM := Lib.hid (fun w => pMake_yes at_ sz pm lat_ lsz lpm hm w)
    have rM := Lib.hid (fun w => rMake_yes at_ sz pm w lat_ lsz hm)
    generalize enE at_ (at_ + sz) = x at *
    generalize enB at_ (at_ + sz) = y at *
    generalize enT at_ (at_ + sz) = z at *
    replace hm := Lib.hid hm
    go_enter Try.func6, Try.ntmps6
    go_wp2_with fail
    refine (pM.out _).mono ?_
    rintro ee w1 ⟨rfl, h1⟩
    have q0 : w1.cell? ⟨W.heap.size, 0, none⟩ = some (.int .u32 at_) := (h1.cell (by simp)).trans (by simp [go_sem])
    have q1 : w1.cell? ⟨W.heap.size, 1, none⟩ = some (.int .u32 sz) := (h1.cell (by simp)).trans (by simp [go_sem])
    have hs : W.heap.size < w1.heap.size := by have := h1.size; simp at this; omega
    have b1 := Lib.hid (((Below.refl W.heap.size W).alloc (Nat.le_refl _) (.cells #[.int .u32 at_, .int .u32 sz] 33)).trans (h1.mono (by simp)))
    clear h1
    go_wp2_with fail
    refine (rM.out _).mono ?_
    rintro ee w2 ⟨rfl, h1⟩
    have hs2 : w1.heap.size < w2.heap.size := by have := h1.size; simp at this; omega
    have c0 : w2.cell? ⟨w1.heap.size, 0, none⟩ = some (.int .u32 at_) := (h1.cell (by simp)).trans (by simp [go_sem])
    have c1 : w2.cell? ⟨w1.heap.size, 1, none⟩ = some (.int .u8 x) := (h1.cell (by simp)).trans (by simp [go_sem])
    have c2 : w2.cell? ⟨w1.heap.size, 2, none⟩ = some (.int .u16 y) := (h1.cell (by simp)).trans (by simp [go_sem])
    have c3 : w2.cell? ⟨w1.heap.size, 3, none⟩ = some (.int .u16 z) := (h1.cell (by simp)).trans (by simp [go_sem])
    have c4 : w2.cell? ⟨w1.heap.size, 4, none⟩ = some (.int .u16 pm) := (h1.cell (by simp)).trans (by simp [go_sem])
    have c5 : w2.cell? ⟨w1.heap.size, 5, none⟩ = some (.int .u16 0) := (h1.cell (by simp)).trans (by simp [go_sem])
    have c6 : w2.cell? ⟨w1.heap.size, 6, none⟩ = some (.int .u32 0) := (h1.cell (by simp)).trans (by simp [go_sem])
    have c7 : w2.cell? ⟨w1.heap.size, 7, none⟩ = some (.bool true) := (h1.cell (by simp)).trans (by simp [go_sem])
    have b2 := Lib.hid ((b1.out.alloc b1.out.size (.cells #[.int .u32 at_, .int .u8 x, .int .u16 y, .int .u16 z, .int .u16 pm, .int .u16 0, .int .u32 0, .bool true] 25)).trans (h1.mono (by have := b1.out.size; simp; omega)))
    clear h1 q0 q1
    go_wp2_with fail
    refine (hW.out _).mono ?_
    rintro ee w3 ⟨rfl, h1⟩
    have b3 := b2.out.alloc b2.out.size (.cells #[.int .u32 at_, .int .u8 x, .int .u16 y, .int .u16 z, .int .u16 pm, .int .u16 0, .int .u32 0, .bool true] 25)
    replace b3 := Lib.hid (b3.trans (h1.mono (by have := b2.out.size; simp; omega)))
    clear h1
    go_wp2
    go_ret
    exact ⟨rfl, b3.out⟩
theorem own : ownKnob Try.prog.godebug = none := by kernel_rfl
theorem laidOut : laidOutB Try.prog = true := by kernel_rfl
set_option maxRecDepth 100000 in
theorem lifted (os : Os) (started : os.Started) (H : Type) (enc : TypeId × Value → H) :
    ReturnsInHanded {} Try.checked os 6 .any (Rows.capsMakesSpec.pre6 enc Try.prog Try.f6 Rows.capsMakesRow.domain false) (Rows.capsMakesSpec.post enc Try.prog Try.f6 false true false false) := by
  refine returnsInHanded_of_change (C := Try.checked) own started (by kernel_rfl) Try.func6
    (ChangeSpec.witness6 (enc := enc) (C := Try.checked) false ⟨#[], #[.agg #[.int .u32 0, .int .u32 0], .int .u16 0], []⟩ 8 (by kernel_rfl) (by kernel_rfl) (by kernel_rfl) (by kernel_rfl)) ?_
  intro W base args ds gs before hval0 hW hcnd hsz
  have hval : ∀ (j : Nat) t v, Try.f6.params[j]? = some t → args[j]? = some v → Value.okWide Try.prog W .any base t v := hval0
  have hW' := hW
  obtain ⟨p, q, hA0, hV, rfl, hfz, hnd⟩ := hW
  have hA : DataW.TrodAll enc Try.prog W 0 (fun _ => true) true Try.f6.params.toList args.toList ds p := hA0
  rw [Try.params6] at hA hval
  obtain ⟨v0, vs0, d0, ds0, p0, q0, hargs, rfl, rfl, h0, r0⟩ := trodAll_cons hA
  obtain ⟨v1, vs1, d1, ds1, p1, q1, rfl, rfl, rfl, h1, r1⟩ := trodAll_cons r0
  obtain ⟨rfl, rfl, rfl⟩ := trodAll_nil r1
  obtain rfl : args = #[v0, v1] := by cases args; simp_all
  obtain ⟨rfl, rfl⟩ := trodVars_none hV
  have k0 := h0
  have lt0 : ∀ x ∈ p0, x.block < W.heap.size := by obtain ⟨m, hm⟩ := k0; exact DataW.trod_lt m _ _ _ hm
  have k1 := h1
  have lt1 : ∀ x ∈ p1, x.block < W.heap.size := by obtain ⟨m, hm⟩ := k1; exact DataW.trod_lt m _ _ _ hm
  obtain ⟨csrg, rfl, hfrg⟩ := open_flat (ks := [some .u32, some .u32]) 6 (by kernel_rfl) (.inl ⟨_, Try.underlying33⟩) (hval 0 33 v0 rfl rfl) h0
  obtain ⟨_, _, rfl, ⟨rg0, rfl, wrg0⟩, _, _, rfl, ⟨rg1, rfl, wrg1⟩, rfl⟩ := hfrg
  obtain ⟨perms, rfl, rfl, rfl, wperms⟩ := open_int Try.underlying23 (hval 1 23 v1 rfl rfl) h1
  clear hA0 hval0
  refine (walk rg0 wrg0 rg1 wrg1 perms wperms W).mono fun e W' ⟨he, bel⟩ => ?_
  subst he
  exact ⟨_, rfl, _, _, _, [], _, [], hW', trodAll_mk1 (shut_bool Try.underlying4 _), (trodAll_cons_mk (Below.trod laidOut (by kernel_rfl) (of_decide_eq_true (by kernel_rfl)) k0 bel lt0) (trodAll_cons_mk (Below.trod laidOut (by kernel_rfl) (of_decide_eq_true (by kernel_rfl)) k1 bel lt1) trodAll_mk0)), rfl, bel.frame _, fun h => by cases h⟩
theorem over : Rows.capsMakesRow.holds Try.pinned (OpenSpec.ofChange Rows.capsMakesSpec) :=
  OpenClaim.holds_of_wide 6 Try.f6 rfl rfl rfl rfl rfl rfl rfl ⟨rfl, rfl, rfl, rfl, rfl⟩ rfl rfl rfl rfl rfl (by kernel_rfl) Try.func6 (by kernel_rfl)
    (of_decide_eq_true (by kernel_rfl)) (by unfold Func.isWrapper; first | (rw [if_pos (by decide +kernel)]; kernel_rfl) | (rw [if_neg (by decide +kernel)]; exact ⟨rfl, rfl⟩))
    (fun os started H enc _ => lifted os started H enc)
/-- The given statement. -/
theorem proved : Rows.CapsMakesSaid := over
end Go.Proofs.Ytikgeombccoahaa.cmakes
