/- Contracts of the document's arena: Untag, Tagged, Zero. No statement is proved here.; Contracts of the document's arena: Zero. No statement is proved here.; Contracts of the document's arena: LoadCap, StoreCap. No statement is proved here.; Contracts of the document's arena: StoreCap. No statement is proved here.; Contracts of the document's arena: New. No statement is proved here. -/
import Derived.Test.YtpopfmboonjplaaArZD
import Derived.Deep.RegionHeld
import Derived.Deep.RegionWith
namespace Go.Proofs.Ytpopfmboonjplaa
open Go.RowKit
set_option linter.unusedVariables false
section
variable {r rb tb n g : Nat} {f : Nat → Bool} {l : List UInt8} {w : World}
set_option maxRecDepth 100000 in
set_option maxHeartbeats 1000000 in
theorem runtag_any (H : RfAt w r rb tb n g f l) (hoff : ∀ k, g ≤ k → f k = false) (at_ : Nat) (la : at_ < 4294967296) :
    Calls Try.prog 53 #[.pointer (some ⟨r, 0, none⟩), .int .u32 at_] w (Rxt r rb tb n g (utF f at_) l w (.bool (decide (at_ % 16 = 0) && f (at_ / 16)))) := by
  have q1 := H.q1
  have hH := Lib.hid H
  have hg := H.hi
  by_cases h0 : at_ % 16 = 0
  · have i0 : (at_ : Int) % 16 = 0 := by omega
    obtain ⟨p, hp⟩ : ∃ p, p = at_ / 16 := ⟨_, rfl⟩
    have ep : (at_ : Int) / 16 = (p : Int) := by omega
    rcases Nat.lt_or_ge p g with hlt | hlt
    · have jp : (p : Int) < g := by omega
      obtain ⟨c0, c1⟩ := H.tg p hlt
      rcases hv : f p with _ | _
      · rw [hv] at c0
        have hE := Lib.hid (H.ext (f' := utF f at_) (l' := l) (fun i hi => by
          unfold utF
          rw [← hp]
          by_cases e : i = p
          · rw [e, hv]; rfl
          · simp [e]) rfl)
        have hr := Lib.hid (show (decide (at_ % 16 = 0) && f (at_ / 16)) = false from by rw [← hp, hv, Bool.and_false])
        clear H h0 hp hv
        go_enter Try.func53, Try.ntmps53
        go_wp2
        go_ret
        exact ⟨ret_bool hr.out.symm, hE.out, Of2.refl _ _ _ _⟩
      · rw [hv] at c0
        have hE := Lib.hid ((H.tag hlt false).ext (f' := utF f at_) (l' := l) (fun i hi => by
          unfold utF upd
          rw [← hp, decide_eq_true h0]
          by_cases e : i = p
          · simp [e]
          · simp [e]) rfl)
        have hO := Lib.hid ((Of2.refl w.heap.size rb tb w).setCell (p := ⟨tb, p, none⟩) (.inr (.inr rfl)) (.bool false))
        have hr := Lib.hid (show (decide (at_ % 16 = 0) && f (at_ / 16)) = true from by rw [← hp, hv, decide_eq_true h0]; rfl)
        clear H h0 hp hv
        go_enter Try.func53, Try.ntmps53
        go_wp2
        go_ret
        exact ⟨ret_bool hr.out.symm, hE.out, hO.out⟩
    · have jp : (g : Int) ≤ p := by omega
      have hfp := hoff p hlt
      have hE := Lib.hid (H.ext (f' := utF f at_) (l' := l) (fun i hi => by
          unfold utF
          rw [← hp]
          have e : ¬ i = p := by omega
          simp [e]) rfl)
      have hr := Lib.hid (show (decide (at_ % 16 = 0) && f (at_ / 16)) = false from by rw [← hp, hfp, Bool.and_false])
      clear H h0 hp hfp hlt
      go_enter Try.func53, Try.ntmps53
      go_wp2
      go_ret
      exact ⟨ret_bool hr.out.symm, hE.out, Of2.refl _ _ _ _⟩
  · have i0 : ¬ (at_ : Int) % 16 = 0 := by omega
    have hE := Lib.hid (H.ext (f' := utF f at_) (l' := l) (fun j hj => by simp [utF, h0]) rfl)
    have hr := Lib.hid (show (decide (at_ % 16 = 0) && f (at_ / 16)) = false from by rw [decide_eq_false h0, Bool.false_and])
    clear H h0
    go_enter Try.func53, Try.ntmps53
    go_wp2
    go_ret
    exact ⟨ret_bool hr.out.symm, hE.out, Of2.refl _ _ _ _⟩
set_option maxRecDepth 100000 in
set_option maxHeartbeats 1000000 in
theorem rtag_any (H : RfAt w r rb tb n g f l) (p : Int) (hp : -9223372036854775808 ≤ p ∧ p < 9223372036854775808) : Calls Try.prog 57 #[.pointer (some ⟨r, 0, none⟩), .int .i64 p] w (ListPost w (tgP f g p)) := by
  obtain ⟨i0, hi, hz0, hz1, hz2⟩ := info_parts info32
  have hH := Lib.hid H
  have hg := H.hi
  clear H
  go_enter Try.func57, Try.ntmps57
  go_wp2_with fail
  go_loopw [5, 6] (fun b i wr => ∃ j : Nat, j ≤ g ∧ i = .int .i64 j ∧ wr.ownsRow w.heap.size 22 1 b (tgl (fun i => f i && decide (((i / 16 : Nat) : Int) = p)) 0 j).length ((tgl (fun i => f i && decide (((i / 16 : Nat) : Int) = p)) 0 j).map u32v) ∧ Below w.heap.size w wr) (fun _ i _ => g - (intOf i).toNat)
  case atStart => exact ⟨0, by omega, rfl, World.ownsRow_nil _ _ _ _, Below.refl _ _⟩
  case round =>
    obtain ⟨j, hj, rfl, hown2, hbl⟩ := hrel
    have hL := Lib.hid hbl
    have hOw := Lib.hid hown2
    have R := hH.out.below hbl
    have q1 := R.q1
    have jg : (j : Int) ≤ g := by omega
    by_cases hlt : j < g
    · have jlt : (j : Int) < g := by omega
      have c0 := (R.tg j hlt).1
      have hstep : tgl (fun i => f i && decide (((i / 16 : Nat) : Int) = p)) 0 (j + 1) = tgl (fun i => f i && decide (((i / 16 : Nat) : Int) = p)) 0 j ++ (if f j && decide (((j / 16 : Nat) : Int) = p) then [16 * j] else []) := by
        rw [tgl, Nat.zero_add]
      have hlen := Lib.hid (tgl_len (fun i => f i && decide (((i / 16 : Nat) : Int) = p)) 0 j)
      generalize tgl (fun i => f i && decide (((i / 16 : Nat) : Int) = p)) 0 j = L at *
      clear R hown2 hbl
      by_cases hv : f j = true ∧ (j : Int) / 16 = p
      · rw [hv.1, decide_eq_true (show ((j / 16 : Nat) : Int) = p by omega)] at hstep
        rw [hv.1] at c0
        have hv2 := hv.2
        have hE := Lib.hid (show tgl (fun i => f i && decide (((i / 16 : Nat) : Int) = p)) 0 (j + 1) = L ++ [16 * j] from hstep)
        have s3 : IntKind.i64.wrap (16 * (j : Int)) = 16 * (j : Int) := by rw [IntKind.wrap_i64]; omega
        have s4 : IntKind.u32.wrap (16 * (j : Int)) = 16 * (j : Int) := by rw [IntKind.wrap_u32]; omega
        clear hv hstep
        go_wp2_with (at_builtin; refine wpList_append_own _ rfl _ _ 62 rfl w.heap.size 22 i0 (.int .u32 0) 1 4 Try.underlying62 hi hz0 hz1 hz2 rfl (by decide) _ _ _ rfl (hOw.out.alloc _) ⟨wr.heap.size, 0, none⟩ 1 1 [.int .u32 (16 * (j : Int))] rfl rfl ?c1 ?c2 ?c3 ?c4 ?c5 ?_)
        case c1 =>
          intro i u hu
          match i, hu with
          | 0, hu => simp at hu; subst hu; simp [Addr.add]
        case c2 => intro u hu; simp at hu; subst hu; rfl
        case c3 => have := hlen.out; unfold maxLen; omega
        case c4 => have := hlen.out; omega
        case c5 => have := hL.out.size; simp; omega
        · intro v' w7 hown' hgrow _
          have hlo := hOw.out.lt
          have hL1 : Below w.heap.size w w7 := below_own (hL.out.alloc hL.out.size _) hgrow (fun q hq => (hlo q hq).1) (by have := hL.out.size; simp; omega)
          have hO1 : w7.ownsRow w.heap.size 22 1 v' (tgl (fun i => f i && decide (((i / 16 : Nat) : Int) = p)) 0 (j + 1)).length ((tgl (fun i => f i && decide (((i / 16 : Nat) : Int) = p)) 0 (j + 1)).map u32v) := by
            rw [hE.out, List.map_append, List.length_append]
            have e1 : List.map u32v [16 * j] = [.int .u32 (16 * (j : Int))] := by
              simp only [List.map_cons, List.map_nil, u32v]
              rw [show ((16 * j : Nat) : Int) = 16 * (j : Int) from by omega]
            rw [e1]; exact hown'
          replace hL1 := Lib.hid hL1
          replace hO1 := Lib.hid hO1
          clear hown' hgrow hlo
          go_wp2
          go_roundw
          case rel => exact ⟨j + 1, by omega, by go_num, hO1.out, hL1.out⟩
          case measure => simp [intOf]; omega
      · have hE := Lib.hid (show tgl (fun i => f i && decide (((i / 16 : Nat) : Int) = p)) 0 (j + 1) = L from by
          rw [hstep, if_neg, List.append_nil]
          simp
          intro h1 h2
          exact hv ⟨h1, by omega⟩)
        clear hstep
        rcases hf : f j with _ | _
        · rw [hf] at c0
          clear hf hv
          go_wp2
          go_roundw
          case rel => exact ⟨j + 1, by omega, by go_num, by rw [hE.out]; exact hOw.out, hL.out⟩
          case measure => simp [intOf]; omega
        · rw [hf] at c0
          have hv2 : ¬ (j : Int) / 16 = p := fun h => hv ⟨hf, h⟩
          clear hf hv
          go_wp2
          go_roundw
          case rel => exact ⟨j + 1, by omega, by go_num, by rw [hE.out]; exact hOw.out, hL.out⟩
          case measure => simp [intOf]; omega
    · obtain rfl : j = g := by omega
      clear R hown2 hbl
      go_wp2_with fail
      go_ret
      exact ⟨_, rfl, hOw.out, hL.out⟩
end
end Go.Proofs.Ytpopfmboonjplaa
namespace Go.Proofs.Ytpopfmboonjplaa
open Go.RowKit
set_option linter.unusedVariables false
section
variable {r rb tb n g : Nat} {f : Nat → Bool} {l : List UInt8} {w : World}
set_option maxRecDepth 100000 in
set_option maxHeartbeats 4000000 in
theorem rzero_any (H : RfAt w r rb tb n g f l) (at_ sz : Nat) (la : at_ < 4294967296) (lz : sz < 4294967296) :
    Calls Try.prog 52 #[.pointer (some ⟨r, 0, none⟩), .agg #[.int .u32 at_, .int .u32 sz]] w (Rxt r rb tb n g (stF n f at_ sz) (stL n l at_ (List.replicate sz 0)) w (.bool (thr n at_ sz))) := by
  have hH := Lib.hid H
  have hn := H.ln
  have K0 := (KR.start (W := w)).push [.int .u32 at_, .int .u32 sz] 31
  have hmk : ∀ w, (Instr.makeSlice 28 (.int .i64 sz) (.int .i64 sz)).run Try.prog w = .ok (.slice (some ⟨w.heap.size, 0, none⟩) sz sz) (w.alloc (.cells (madeCells #[.int .u8 0] sz) 5)) := fun w =>
    run_make_row' 28 5 (.int .u8 0) 1 Try.underlying28 info_u8 rfl .i64 .i64 sz (by omega) (by omega) w
  have hcv : ∀ w : World, (convert 28 9 (.slice (some ⟨w.heap.size, 0, none⟩) sz sz)).run Try.prog (w.alloc (.cells (madeCells #[.int .u8 0] sz) 5)) = .ok (.string ⟨(List.replicate sz (0 : UInt8)).toArray⟩) (w.alloc (.cells (madeCells #[.int .u8 0] sz) 5)) := fun w => by
    have := run_convert_bytes_back (P := Try.prog) (w.alloc (.cells (madeCells #[.int .u8 0] sz) 5)) 28 9 5 ⟨w.heap.size, 0, none⟩ sz (List.replicate sz (0 : UInt8)) Try.underlying28 Try.underlying5 Try.underlying9 (fun j hj => by
      have hj' : j < sz := by simpa using hj
      rw [Addr.add_lit]
      simp [madeCells, hj', Nat.mod_one])
    rwa [List.length_replicate] at this
  have hwr : IntKind.i64.wrap (sz : Int) = sz := by rw [IntKind.wrap_i64]; omega
  obtain ⟨S, hS0⟩ : ∃ S, S = fun w' => KR w [⟨w.heap.size, [.int .u32 at_, .int .u32 sz]⟩] w' ∧ RfAt w' r rb tb n g f l := ⟨_, rfl⟩
  have hK : ∀ w', S w' → KR w [⟨w.heap.size, [.int .u32 at_, .int .u32 sz]⟩] w' ∧ RfAt w' r rb tb n g f l := fun w' h => by rw [hS0] at h; exact h
  have hS : ∀ w1 w', S w1 → Below w1.heap.size w1 w' → S w' := fun w1 w' h k => by rw [hS0] at h ⊢; exact ⟨h.1.below k, h.2.below k⟩
  have K2 := Lib.hid (show S (w.alloc (.cells #[.int .u32 at_, .int .u32 sz] 31)) by rw [hS0]; exact ⟨K0, H.below ((Below.refl _ w).alloc (Nat.le_refl _) _)⟩)
  clear hS0 K0 H
  have b0 : ∀ y : Wd S, y.w.cell? ⟨w.heap.size, 0, none⟩ = some (.int .u32 at_) := fun y => (hK _ y.h).1.cell (g := w.heap.size) [.int .u32 at_, .int .u32 sz] (by simp) rfl
  have b1 : ∀ y : Wd S, y.w.cell? ⟨w.heap.size, 1, none⟩ = some (.int .u32 sz) := fun y => (hK _ y.h).1.cell (g := w.heap.size) [.int .u32 at_, .int .u32 sz] (by simp) rfl
  have b2 : ∀ y : Wd S, y.w.cell? ⟨r, 0, none⟩ = some (.slice (some ⟨rb, 0, none⟩) n n) := fun y => (hK _ y.h).2.q0
  have hund : undef = Value.tuple #[] := rfl
  replace hcv := Lib.hid hcv
  replace hmk := Lib.hid hmk
  go_enter Try.func52, Try.ntmps52
  go_wp2_with fail
  generalize (w.alloc (.cells #[.int .u32 at_, .int .u32 sz] 31)) = w3 at *
  refine region_cls S (by kernel_rfl) (by kernel_rfl) (hS _ _ K2.out (Below.refl _ _).drew) ?_
  repeat (first
    | go_big_quiet_skip
    | (go_big_quiet_want
       go_big_quiet_op
       first
       | go_big_quiet_on
       | (apply Exists.intro
          refine ⟨fun y => ?_, ?_⟩
          · first | exact rfl
          go_big_quiet_on)))
  refine wpQuiet_nil ?_
  intro y
  have Ky := Lib.hid (hK _ y.h)
  generalize y.w = wy at *
  clear b0 b1 b2 K2 hS hK
  rcases Nat.lt_or_ge n sz with hgt | hle
  · have jg : (n : Int) < sz := by omega
    have hE := Lib.hid (show Rxt r rb tb n g (stF n f at_ sz) (stL n l at_ (List.replicate sz 0)) w (.bool (thr n at_ sz)) (.returned (.bool false)) wy from by
      have ht : thr n at_ sz = false := by simp [thr]; omega
      refine ⟨by rw [ht], Ky.out.2.ext (fun k hk => ?_) ?_, Of2.of_below Ky.out.1.bl⟩
      · unfold stF; rw [ht, if_neg (by decide)]
      · unfold stL; rw [List.length_replicate, ht, if_neg (by decide)])
    clear Ky hgt
    go_wp2
    go_ret
    exact hE.out
  · have jl : (sz : Int) ≤ n := by omega
    have all : ∀ w', RS [⟨w.heap.size, [.int .u32 at_, .int .u32 sz]⟩] w' → w'.cell? ⟨w.heap.size, 0, none⟩ = some (.int .u32 at_) ∧ w'.cell? ⟨w.heap.size, 1, none⟩ = some (.int .u32 sz) ∧ RS [⟨w.heap.size, [.int .u32 at_, .int .u32 sz]⟩] w' := fun w' h => ⟨h.cell (g := w.heap.size) [.int .u32 at_, .int .u32 sz] (by simp) rfl, h.cell (g := w.heap.size) [.int .u32 at_, .int .u32 sz] (by simp) rfl, h⟩
    have hm5 := hmk.out wy.drew
    have hc5 : (convert 28 9 (.slice (some ⟨wy.heap.size, 0, none⟩) sz sz)).run Try.prog ((wy.alloc (.cells (madeCells #[.int .u8 0] sz) 5)).drew) = .ok (.string ⟨(List.replicate sz (0 : UInt8)).toArray⟩) ((wy.alloc (.cells (madeCells #[.int .u8 0] sz) 5)).drew) := hcv.out wy.drew
    have j0 := all _ Ky.out.1.drew.al
    have j1 := all ((wy.alloc (.cells (madeCells #[.int .u8 0] sz) 5)).drew) (Ky.out.1.alloc (.cells (madeCells #[.int .u8 0] sz) 5)).drew.al
    have all' := Lib.hid all
    have tr := Lib.hid (show ∀ w', (w'.cell? ⟨w.heap.size, 0, none⟩ = some (.int .u32 at_) ∧ w'.cell? ⟨w.heap.size, 1, none⟩ = some (.int .u32 sz) ∧ RS [⟨w.heap.size, [.int .u32 at_, .int .u32 sz]⟩] w') → RS [⟨w.heap.size, [.int .u32 at_, .int .u32 sz]⟩] w' from fun w' h => h.2.2)
    have hne := Lib.hid (fun (x : Rw) (hx : x ∈ [⟨w.heap.size, [.int .u32 at_, .int .u32 sz]⟩]) => (show x.g ≠ rb ∧ x.g ≠ tb by
      have h1 := hH.out.lb
      have h2 := hH.out.lt
      simp at hx
      subst hx
      simp
      omega))
    have hW := Lib.hid (rwrite_any (Ky.out.2.below ((Below.refl _ wy).alloc (Nat.le_refl _) (.cells (madeCells #[.int .u8 0] sz) 5))).drew at_ (List.replicate sz (0 : UInt8)) la (by simp; omega))
    rw [List.length_replicate] at hW
    have hB := Lib.hid (Ky.out.1.alloc (.cells (madeCells #[.int .u8 0] sz) 5)).drew.bl
    have hsz5 : wy.drew.heap.size = wy.heap.size := rfl
    rw [hsz5] at hm5
    obtain ⟨zs, hzs⟩ : ∃ zs, zs = List.replicate sz (0 : UInt8) := ⟨_, rfl⟩
    rw [← hzs] at hc5 hW
    have hz' := Lib.hid hzs
    clear hle all hsz5 hzs
    go_wp2_with fail
    go_region_held (fun w' => w'.cell? ⟨w.heap.size, 0, none⟩ = some (.int .u32 at_) ∧ w'.cell? ⟨w.heap.size, 1, none⟩ = some (.int .u32 sz) ∧ RS [⟨w.heap.size, [.int .u32 at_, .int .u32 sz]⟩] w')
      (first | with_reducible exact j0 | with_reducible exact j1 | with_reducible exact j2)
      (first
        | (go_at_call 51; ((with_reducible refine hW.out.mono ?_); rintro ee Y ⟨rfl, g1, g2⟩; have j2 := all'.out _ ((tr.out _ j1).of2 g2 hne.out); have A2 := Lib.hid (And.intro g1 ((Of2.of_below (x := rb) (y := tb) hB.out).step g2)); clear g1 g2)))
    clear j0 j1 j2
    go_wp2
    go_ret
    have hx := A2.out
    rw [hz'.out] at hx
    exact ⟨rfl, hx⟩
end
end Go.Proofs.Ytpopfmboonjplaa
namespace Go.Proofs.Ytpopfmboonjplaa
open Go.RowKit
set_option linter.unusedVariables false
section
variable {r rb tb n g : Nat} {f : Nat → Bool} {l : List UInt8} {w : World}
set_option maxRecDepth 100000 in
set_option maxHeartbeats 1000000 in
theorem rlcap_no (H : RfAt w r rb tb n g f l) (at_ : Nat) (la : at_ < 4294967296) (h0 : grn n at_ = false) :
    Calls Try.prog 55 #[.pointer (some ⟨r, 0, none⟩), .int .u32 at_] w fun e w' => e = .returned (.tuple #[cap0, .bool false]) ∧ Below w.heap.size w w' := by
  have K0 := Lib.hid ((KR.start (W := w)).push (cv 0 0 0 0 0 0 0 false) 25)
  have hT := Lib.hid (rthere_any (H.below ((Below.refl _ w).alloc (Nat.le_refl _) (.cells #[.int .u32 0, .int .u8 0, .int .u16 0, .int .u16 0, .int .u16 0, .int .u16 0, .int .u32 0, .bool false] 25))) at_ 16 la (by omega))
  have hfin := Lib.hid (fun w4 (h : KR w [⟨w.heap.size, cv 0 0 0 0 0 0 0 false⟩] w4) => (show KR w [⟨w.heap.size, cv 0 0 0 0 0 0 0 false⟩] (setRow w.heap.size 0 (cv 0 0 0 0 0 0 0 false) w4) from h.whole (cv 0 0 0 0 0 0 0 false) (Nat.le_refl _) (fun x hx => by cases hx) rfl))
  by_cases h1 : at_ % 16 = 0
  · have ht : thr n at_ 16 = false := by simpa [grn, h1] using h0
    rw [ht] at hT
    have i0 : (at_ : Int) % 16 = 0 := by omega
    clear H h0 h1 ht
    go_enter Try.func55, Try.ntmps55
    go_wp2_with fail
    refine hT.out.mono ?_
    rintro e w2 ⟨rfl, rfl⟩
    have K1 := Lib.hid (show KR w [⟨w.heap.size, cv 0 0 0 0 0 0 0 false⟩] (w.alloc (.cells #[.int .u32 0, .int .u8 0, .int .u16 0, .int .u16 0, .int .u16 0, .int .u16 0, .int .u32 0, .bool false] 25)) from K0.out)
    generalize (w.alloc (.cells #[.int .u32 0, .int .u8 0, .int .u16 0, .int .u16 0, .int .u16 0, .int .u16 0, .int .u32 0, .bool false] 25)) = w4 at *
    obtain ⟨r0, r1, r2, r3, r4, r5, r6, r7, fr⟩ := K1.out.cells8 (g := w.heap.size) (cu := 0) (e := 0) (b := 0) (t := 0) (pm := 0) (ty := 0) (rs := 0) (va := false) (by simp)
    go_wp2_with fail
    have hf := Lib.hid (hfin.out _ K1.out)
    change bodyPost _ _ _ _ _ (setRow w.heap.size 0 (cv 0 0 0 0 0 0 0 false) w4)
    clear r0 r1 r2 r3 r4 r5 r6 r7 fr
    generalize setRow w.heap.size 0 (cv 0 0 0 0 0 0 0 false) w4 = w5 at *
    obtain ⟨z0, z1, z2, z3, z4, z5, z6, z7⟩ := hf.out.cap (g := w.heap.size) (List.mem_cons_self ..)
    exact bodyPost_ret (v := .tuple #[cap0, .bool false]) (by simp [results, Try.results55, go_sem, z0, z1, z2, z3, z4, z5, z6, z7, cap0]) rfl ⟨rfl, hf.out.bl⟩
  · have i0 : ¬ (at_ : Int) % 16 = 0 := by omega
    clear H h0 h1
    go_enter Try.func55, Try.ntmps55
    go_upto_region 1 with (fail)
    have K1 := Lib.hid (show KR w [⟨w.heap.size, cv 0 0 0 0 0 0 0 false⟩] (w.alloc (.cells #[.int .u32 0, .int .u8 0, .int .u16 0, .int .u16 0, .int .u16 0, .int .u16 0, .int .u32 0, .bool false] 25)) from K0.out)
    generalize (w.alloc (.cells #[.int .u32 0, .int .u8 0, .int .u16 0, .int .u16 0, .int .u16 0, .int .u16 0, .int .u32 0, .bool false] 25)) = w4 at *
    obtain ⟨r0, r1, r2, r3, r4, r5, r6, r7, fr⟩ := K1.out.cells8 (g := w.heap.size) (cu := 0) (e := 0) (b := 0) (t := 0) (pm := 0) (ty := 0) (rs := 0) (va := false) (by simp)
    go_wp2_with fail
    have hf := Lib.hid (hfin.out _ K1.out)
    change bodyPost _ _ _ _ _ (setRow w.heap.size 0 (cv 0 0 0 0 0 0 0 false) w4)
    clear r0 r1 r2 r3 r4 r5 r6 r7 fr
    generalize setRow w.heap.size 0 (cv 0 0 0 0 0 0 0 false) w4 = w5 at *
    obtain ⟨z0, z1, z2, z3, z4, z5, z6, z7⟩ := hf.out.cap (g := w.heap.size) (List.mem_cons_self ..)
    exact bodyPost_ret (v := .tuple #[cap0, .bool false]) (by simp [results, Try.results55, go_sem, z0, z1, z2, z3, z4, z5, z6, z7, cap0]) rfl ⟨rfl, hf.out.bl⟩
set_option maxRecDepth 100000 in
set_option maxHeartbeats 4000000 in
theorem rlcap_yes (H : RfAt w r rb tb n g f l) (at_ : Nat) (la : at_ < 4294967296) (h0 : grn n at_ = true) :
    Calls Try.prog 55 #[.pointer (some ⟨r, 0, none⟩), .int .u32 at_] w fun e w' => e = .returned (.tuple #[capV ((l.drop at_).take 16) (f (at_ / 16)), .bool true]) ∧ Below w.heap.size w w' := by
  have h1 : at_ % 16 = 0 ∧ at_ + 16 ≤ n := by
    simp only [grn, Bool.and_eq_true, decide_eq_true_eq] at h0
    exact ⟨h0.1, (thr_iff (k := 16)).1 h0.2⟩
  have hn := H.ln
  have K0 := (KR.start (W := w)).push (cv 0 0 0 0 0 0 0 false) 25
  have H1 := H.below ((Below.refl _ w).alloc (Nat.le_refl _) (.cells #[.int .u32 0, .int .u8 0, .int .u16 0, .int .u16 0, .int .u16 0, .int .u16 0, .int .u32 0, .bool false] 25))
  have hT := Lib.hid (rthere_any H1 at_ 16 la (by omega))
  rw [show thr n at_ 16 = true from (thr_iff (k := 16)).2 h1.2] at hT
  have i0 : (at_ : Int) % 16 = 0 := by omega
  have i1 : (at_ : Int) + 16 ≤ n := by omega
  have hlen : ((l.drop at_).take 16).length = 16 := by have := H.len; simp; omega
  have hconv : ∀ (w' : World), RfAt w' r rb tb n g f l → ∀ cp, (convert 28 9 (.slice (some ⟨rb, at_, none⟩) 16 cp)).run Try.prog w' = .ok (.string ⟨((l.drop at_).take 16).toArray⟩) w' := fun w' h' cp => by
    have := run_convert_bytes_back (P := Try.prog) w' 28 9 5 ⟨rb, at_, none⟩ cp ((l.drop at_).take 16) Try.underlying28 Try.underlying5 Try.underlying9 (fun j hj => by
      rw [Addr.add_lit]
      rw [hlen] at hj
      refine (h'.by_ (at_ + j) _ ?_).trans rfl
      rw [List.getElem_take, List.getElem_drop]
      exact List.getElem?_eq_getElem _)
    rwa [hlen] at this
  obtain ⟨p, hp⟩ : ∃ p, p = at_ / 16 := ⟨_, rfl⟩
  have ep : (at_ : Int) / 16 = (p : Int) := by omega
  have hpg : p < g := by have := H.hn; omega
  have jp : (p : Int) < g := by omega
  rw [← hp]
  have hOf := fun v w' => rOf_yes ((l.drop at_).take 16) v w' hlen
  have hV : ∀ v, capV ((l.drop at_).take 16) v = capV ((l.drop at_).take 16) v := fun _ => rfl
  conv at hV => intro v; rhs; unfold capV
  generalize hs : (l.drop at_).take 16 = s at *
  generalize hz : sndP (nm s 4 1) (nm s 5 2) (nm s 7 2) (nm s 9 2) (nm s 11 2) (nm s 13 3) = z at *
  have hfv : ∀ (w' : World), RfAt w' r rb tb n g f l → w'.cell? ⟨tb, p, none⟩ = some (.bool (f p)) := fun w' h' => (h'.tg p hpg).1
  generalize f p = fv at *
  have hV' := Lib.hid (hV fv)
  clear hs hz hV hp h0 h1
  generalize nm s 0 4 = m0 at *
  generalize nm s 4 1 = m1 at *
  generalize nm s 5 2 = m2 at *
  generalize nm s 7 2 = m3 at *
  generalize nm s 9 2 = m4 at *
  generalize nm s 11 2 = m5 at *
  generalize nm s 13 3 = m6 at *
  obtain ⟨S, hS0⟩ : ∃ S, S = fun w' => KR w [⟨w.heap.size, cv 0 0 0 0 0 0 0 false⟩] w' ∧ RfAt w' r rb tb n g f l := ⟨_, rfl⟩
  have hK : ∀ w', S w' → KR w [⟨w.heap.size, cv 0 0 0 0 0 0 0 false⟩] w' ∧ RfAt w' r rb tb n g f l := fun w' h => by rw [hS0] at h; exact h
  have hS : ∀ w1 w', S w1 → Below w1.heap.size w1 w' → S w' := fun w1 w' h k => by rw [hS0] at h ⊢; exact ⟨h.1.below k, h.2.below k⟩
  have K2 := Lib.hid (show S (w.alloc (.cells #[.int .u32 0, .int .u8 0, .int .u16 0, .int .u16 0, .int .u16 0, .int .u16 0, .int .u32 0, .bool false] 25)) by rw [hS0]; exact ⟨K0, H1⟩)
  clear hS0 K0 H1 H
  have b0 : ∀ y : Wd S, y.w.cell? ⟨r, 0, none⟩ = some (.slice (some ⟨rb, 0, none⟩) n n) := fun y => (hK _ y.h).2.q0
  have b1 : ∀ y : Wd S, y.w.cell? ⟨r, 1, none⟩ = some (.slice (some ⟨tb, 0, none⟩) g g) := fun y => (hK _ y.h).2.q1
  have b2 : ∀ y : Wd S, y.w.cell? ⟨tb, p, none⟩ = some (.bool fv) := fun y => hfv _ (hK _ y.h).2
  have b3 : ∀ (y : Wd S) cp, (convert 28 9 (.slice (some ⟨rb, at_, none⟩) 16 cp)).run Try.prog y.w = .ok (.string ⟨s.toArray⟩) y.w := fun y cp => hconv _ (hK _ y.h).2 cp
  have cF := Lib.hid (cls_bel hS (fun w => hOf fv w))
  have hfin := Lib.hid (fun w' (h : KR w [⟨w.heap.size, cv 0 0 0 0 0 0 0 false⟩] w') => (show KR w [⟨w.heap.size, [.int .u32 m0, .int .u8 m1, .int .u16 m2, .int .u16 m3, .int .u16 m4, .int .u16 m5, .int .u32 m6, .bool (fv && z)]⟩] _ from h.whole [.int .u32 m0, .int .u8 m1, .int .u16 m2, .int .u16 m3, .int .u16 m4, .int .u16 m5, .int .u32 m6, .bool (fv && z)] (Nat.le_refl _) (fun x hx => by cases hx) rfl))
  have hund : undef = Value.tuple #[] := rfl
  have e3 : IntKind.u32.wrap ((at_ : Int) + 16) = (at_ : Int) + 16 := by rw [IntKind.wrap_u32]; omega
  have e4 : ((at_ : Int) + 16).toNat = at_ + 16 := by omega
  have e5 : at_ + 16 - at_ = 16 := by omega
  have e6 : 0 ≤ (at_ : Int) + 16 := by omega
  have e7 : (at_ : Int) < n := by omega
  clear hOf hconv hfv
  go_enter Try.func55, Try.ntmps55
  go_wp2_with fail
  refine hT.out.mono ?_
  rintro e w2 ⟨rfl, rfl⟩
  generalize (w.alloc (.cells #[.int .u32 0, .int .u8 0, .int .u16 0, .int .u16 0, .int .u16 0, .int .u16 0, .int .u32 0, .bool false] 25)) = w4 at *
  go_wp2_with fail
  refine region_cls_tail S 20 (by kernel_rfl) (by kernel_rfl) (hS _ _ K2.out (Below.refl _ _).drew) ?_
  simp only [List.take_succ_cons, List.take_zero, List.drop_succ_cons, List.drop_zero]
  repeat (first
    | go_big_quiet_skip
    | (go_big_quiet_want
       go_big_quiet_op
       first
       | go_big_quiet_on
       | (apply Exists.intro
          refine ⟨fun y => ?_, ?_⟩
          · first | exact rfl | with_reducible exact cF.out y
          go_big_quiet_on)))
  refine wpQuiet_nil ?_
  intro y
  have hk := Lib.hid (hK _ y.h)
  generalize y.w = wy at *
  clear b0 b1 b2 b3
  obtain ⟨r0, r1, r2, r3, r4, r5, r6, r7, fr⟩ := hk.out.1.cells8 (g := w.heap.size) (cu := 0) (e := 0) (b := 0) (t := 0) (pm := 0) (ty := 0) (rs := 0) (va := false) (by simp)
  have hf := Lib.hid (hfin.out _ hk.out.1)
  go_wp2_with fail
  change bodyPost _ _ _ _ _ (setRow w.heap.size 0 [.int .u32 m0, .int .u8 m1, .int .u16 m2, .int .u16 m3, .int .u16 m4, .int .u16 m5, .int .u32 m6, .bool (fv && z)] wy)
  clear r0 r1 r2 r3 r4 r5 r6 r7 fr
  generalize setRow w.heap.size 0 [.int .u32 m0, .int .u8 m1, .int .u16 m2, .int .u16 m3, .int .u16 m4, .int .u16 m5, .int .u32 m6, .bool (fv && z)] wy = w5 at *
  obtain ⟨z0, z1, z2, z3, z4, z5, z6, z7⟩ := hf.out.cap (g := w.heap.size) (cu := m0) (e := m1) (b := m2) (t := m3) (pm := m4) (ty := m5) (rs := m6) (va := fv && z) (List.mem_cons_self ..)
  refine bodyPost_ret (v := .tuple #[.agg #[.int .u32 m0, .int .u8 m1, .int .u16 m2, .int .u16 m3, .int .u16 m4, .int .u16 m5, .int .u32 m6, .bool (fv && z)], .bool true]) (by simp [results, Try.results55, go_sem, z0, z1, z2, z3, z4, z5, z6, z7]) rfl ⟨?_, hf.out.bl⟩
  rw [hV'.out]
end
end Go.Proofs.Ytpopfmboonjplaa
namespace Go.Proofs.Ytpopfmboonjplaa
open Go.RowKit
set_option linter.unusedVariables false
section
variable {r rb tb n g : Nat} {f : Nat → Bool} {l : List UInt8} {w : World}
set_option maxRecDepth 100000 in
theorem rscap_no (H : RfAt w r rb tb n g f l) (cu e b t pm ty rs : Nat) (va : Bool) (at_ : Nat) (l0 : cu < 4294967296) (l1 : e < 256) (l2 : b < 65536) (l3 : t < 65536) (l4 : pm < 65536) (l5 : ty < 65536) (l6 : rs < 4294967296) (la : at_ < 4294967296) (h0 : grn n at_ = false) :
    Calls Try.prog 50 #[.pointer (some ⟨r, 0, none⟩), .int .u32 at_, .agg #[.int .u32 cu, .int .u8 e, .int .u16 b, .int .u16 t, .int .u16 pm, .int .u16 ty, .int .u32 rs, .bool va]] w fun e w' => e = .returned (.bool false) ∧ Below w.heap.size w w' := by
  have hb := Lib.hid ((Below.refl w.heap.size w).alloc (Nat.le_refl _) (.cells #[.int .u32 cu, .int .u8 e, .int .u16 b, .int .u16 t, .int .u16 pm, .int .u16 ty, .int .u32 rs, .bool va] 25))
  have hT := Lib.hid (rthere_any (H.below ((Below.refl _ w).alloc (Nat.le_refl _) (.cells #[.int .u32 cu, .int .u8 e, .int .u16 b, .int .u16 t, .int .u16 pm, .int .u16 ty, .int .u32 rs, .bool va] 25))) at_ 16 la (by omega))
  by_cases h1 : at_ % 16 = 0
  · have ht : thr n at_ 16 = false := by simpa [grn, h1] using h0
    rw [ht] at hT
    have i0 : (at_ : Int) % 16 = 0 := by omega
    clear H h0 h1 ht
    go_enter Try.func50, Try.ntmps50
    go_wp2_with fail
    refine hT.out.mono ?_
    rintro ee w2 ⟨rfl, rfl⟩
    go_wp2
    go_ret
    exact ⟨rfl, hb.out⟩
  · have i0 : ¬ (at_ : Int) % 16 = 0 := by omega
    clear H h0 h1
    go_enter Try.func50, Try.ntmps50
    go_wp2
    go_ret
    exact ⟨rfl, hb.out⟩
set_option maxRecDepth 100000 in
set_option maxHeartbeats 4000000 in
theorem rscap_yes (H : RfAt w r rb tb n g f l) (cu e b t pm ty rs : Nat) (va : Bool) (at_ : Nat) (l0 : cu < 4294967296) (l1 : e < 256) (l2 : b < 65536) (l3 : t < 65536) (l4 : pm < 65536) (l5 : ty < 65536) (l6 : rs < 4294967296) (la : at_ < 4294967296) (h0 : grn n at_ = true) :
    Calls Try.prog 50 #[.pointer (some ⟨r, 0, none⟩), .int .u32 at_, .agg #[.int .u32 cu, .int .u8 e, .int .u16 b, .int .u16 t, .int .u16 pm, .int .u16 ty, .int .u32 rs, .bool va]] w (Rxt r rb tb n g (upd (clr f at_ 16) (at_ / 16) (va && sndP e b t pm ty rs)) (ovr l at_ (bytesC cu e b t pm ty rs)) w (.bool true)) := by
  have h1 : at_ % 16 = 0 ∧ at_ + 16 ≤ n := by
    simp only [grn, Bool.and_eq_true, decide_eq_true_eq] at h0
    exact ⟨h0.1, (thr_iff (k := 16)).1 h0.2⟩
  have hn := H.ln
  have hH := Lib.hid H
  have hb := Lib.hid ((Below.refl w.heap.size w).alloc (Nat.le_refl _) (.cells #[.int .u32 cu, .int .u8 e, .int .u16 b, .int .u16 t, .int .u16 pm, .int .u16 ty, .int .u32 rs, .bool va] 25))
  have H1 := H.below ((Below.refl _ w).alloc (Nat.le_refl _) (.cells #[.int .u32 cu, .int .u8 e, .int .u16 b, .int .u16 t, .int .u16 pm, .int .u16 ty, .int .u32 rs, .bool va] 25))
  have hT := Lib.hid (rthere_any H1 at_ 16 la (by omega))
  rw [show thr n at_ 16 = true from (thr_iff (k := 16)).2 h1.2] at hT
  have K0 := Lib.hid (show RS [⟨w.heap.size, cv cu e b t pm ty rs va⟩] (w.alloc (.cells #[.int .u32 cu, .int .u8 e, .int .u16 b, .int .u16 t, .int .u16 pm, .int .u16 ty, .int .u32 rs, .bool va] 25)) from (RS.nil w).push (cv cu e b t pm ty rs va) 25)
  have i0 : (at_ : Int) % 16 = 0 := by omega
  have hBy := Lib.hid (fun w => rBytes_any cu e b t pm ty rs va w l0 l1 l2 l3 l4 l5 l6)
  have hSn := Lib.hid (fun w => rSound_any cu e b t pm ty rs va w)
  have hl := bytesC_length cu e b t pm ty rs
  generalize bytesC cu e b t pm ty rs = s at *
  obtain ⟨p, hp⟩ : ∃ p, p = at_ / 16 := ⟨_, rfl⟩
  have ep : (at_ : Int) / 16 = (p : Int) := by omega
  have hpg : p < g := by have := H.hn; omega
  have jp : (p : Int) < g := by omega
  rw [← hp]
  have hl' := Lib.hid hl
  have h1' := Lib.hid h1
  have H1' := Lib.hid H1
  clear H H1 h0 h1 hl hp
  go_enter Try.func50, Try.ntmps50
  go_wp2_with fail
  refine hT.out.mono ?_
  rintro ee w2 ⟨rfl, rfl⟩
  generalize (w.alloc (.cells #[.int .u32 cu, .int .u8 e, .int .u16 b, .int .u16 t, .int .u16 pm, .int .u16 ty, .int .u32 rs, .bool va] 25)) = w3 at *
  obtain ⟨a0, a1, a2, a3, a4, a5, a6, a7⟩ := K0.out.cap (g := w.heap.size) (cu := cu) (e := e) (b := b) (t := t) (pm := pm) (ty := ty) (rs := rs) (va := va) (by simp)
  go_wp2_with fail
  refine (hBy.out _).mono ?_
  rintro ee w4 ⟨rfl, k⟩
  have K1 := Lib.hid (K0.out.below k)
  have H2 := Lib.hid (H1'.out.below k)
  have B2 := Lib.hid (hb.out.trans (k.mono hb.out.size))
  clear k a0 a1 a2 a3 a4 a5 a6 a7
  go_wp2_with fail
  refine (rwrite_yes H2.out at_ s la (by rw [hl'.out]; exact h1'.out.2)).mono ?_
  rintro ee w5 ⟨rfl, k1, k2⟩
  rw [hl'.out] at k1
  have K2 := K1.out.of2 k2 (fun x hx => by
    have h1 := hH.out.lb
    have h2 := hH.out.lt
    simp at hx
    subst hx
    simp
    omega)
  obtain ⟨S, hS0⟩ : ∃ S, S = fun w' => RS [⟨w.heap.size, cv cu e b t pm ty rs va⟩] w' ∧ RfAt w' r rb tb n g (clr f at_ 16) (ovr l at_ s) ∧ Of2 w.heap.size rb tb w w' := ⟨_, rfl⟩
  have hK : ∀ w', S w' → RS [⟨w.heap.size, cv cu e b t pm ty rs va⟩] w' ∧ RfAt w' r rb tb n g (clr f at_ 16) (ovr l at_ s) ∧ Of2 w.heap.size rb tb w w' := fun w' h => by rw [hS0] at h; exact h
  have hS : ∀ w1 w', S w1 → Below w1.heap.size w1 w' → S w' := fun w1 w' h k => by
    rw [hS0] at h ⊢
    exact ⟨h.1.below k, h.2.1.below k, h.2.2.trans (Of2.of_below (k.mono h.2.2.size))⟩
  have KS := Lib.hid (show S w5 by rw [hS0]; exact ⟨K2, k1, (Of2.of_below B2.out).step k2⟩)
  have cS := Lib.hid (cls_bel hS hSn.out)
  obtain ⟨a0, a1, a2, a3, a4, a5, a6, a7⟩ := cls_cap (S := S) (bx := w.heap.size) (fun w h => (hK w h).1.cap (show (⟨_, cv cu e b t pm ty rs va⟩ : Rw) ∈ _ by simp))
  have b1 : ∀ y : Wd S, y.w.cell? ⟨r, 1, none⟩ = some (.slice (some ⟨tb, 0, none⟩) g g) := fun y => (hK _ y.h).2.1.q1
  have hund : undef = Value.tuple #[] := rfl
  clear k1 k2 K2 hS0 hSn
  go_wp2_with fail
  cases va
  all_goals
    refine region_cls_tail S 13 (by kernel_rfl) (by kernel_rfl) (hS _ _ KS.out (Below.refl _ _).drew) ?_
    simp only [List.take_succ_cons, List.take_zero, List.drop_succ_cons, List.drop_zero]
    repeat (first
      | go_big_quiet_skip
      | (go_big_quiet_want
         go_big_quiet_op
         first
         | go_big_quiet_on
         | (apply Exists.intro
            refine ⟨fun y => ?_, ?_⟩
            · first | exact rfl | with_reducible exact cS.out y
            go_big_quiet_on)))
    refine wpQuiet_nil ?_
    intro y
    have hk := Lib.hid (hK _ y.h)
    generalize y.w = wy at *
    clear a0 a1 a2 a3 a4 a5 a6 a7 b1
    obtain ⟨c0, c1⟩ := hk.out.2.1.tg p hpg
    have hE := Lib.hid (fun z => And.intro (hk.out.2.1.tag hpg z) (hk.out.2.2.setCell (p := ⟨tb, p, none⟩) (.inr (.inr rfl)) (.bool z)))
    go_wp2
    go_ret
    exact ⟨rfl, (hE.out _).1, (hE.out _).2⟩
theorem rscap_any (H : RfAt w r rb tb n g f l) (cu e b t pm ty rs : Nat) (va : Bool) (at_ : Nat) (l0 : cu < 4294967296) (l1 : e < 256) (l2 : b < 65536) (l3 : t < 65536) (l4 : pm < 65536) (l5 : ty < 65536) (l6 : rs < 4294967296) (la : at_ < 4294967296) :
    Calls Try.prog 50 #[.pointer (some ⟨r, 0, none⟩), .int .u32 at_, .agg #[.int .u32 cu, .int .u8 e, .int .u16 b, .int .u16 t, .int .u16 pm, .int .u16 ty, .int .u32 rs, .bool va]] w (Rxt r rb tb n g (scF n f at_ (va && sndP e b t pm ty rs)) (scL n l at_ (bytesC cu e b t pm ty rs)) w (.bool (grn n at_))) := by
  rcases hg : grn n at_ with _ | _
  · refine (rscap_no H cu e b t pm ty rs va at_ l0 l1 l2 l3 l4 l5 l6 la hg).mono fun ee w' k => ?_
    have := rxt_below H k
    simpa [scF, scL, hg] using this
  · refine (rscap_yes H cu e b t pm ty rs va at_ l0 l1 l2 l3 l4 l5 l6 la hg).mono fun ee w' k => ?_
    simpa [scF, scL, hg] using k
end
end Go.Proofs.Ytpopfmboonjplaa
namespace Go.Proofs.Ytpopfmboonjplaa
open Go.RowKit
set_option linter.unusedVariables false

theorem rnew_no (p : Int) (w : World) (h : p < 16) : Calls Try.prog 15 #[.int .i64 p] w fun e w' => e = .returned (.tuple #[.pointer none, .int .i64 2]) ∧ w = w' := by
  go_enter Try.func15, Try.ntmps15
  go_wp2
  go_ret2
  exact ⟨rfl, rfl⟩
theorem rnew_long (p : Int) (w : World) (h : 1024 < p) : Calls Try.prog 15 #[.int .i64 p] w fun e w' => e = .returned (.tuple #[.pointer none, .int .i64 3]) ∧ w = w' := by
  have h' : ¬ p < 16 := by omega
  go_enter Try.func15, Try.ntmps15
  go_wp2
  go_ret2
  exact ⟨rfl, rfl⟩
theorem info_bool : (Try.prog.info? 4).map (fun i => (i.zero, i.size, i.bytes)) = some (some (.bool false), 1, 1) := by kernel_rfl
/-- The document's arena has been made: its blocks are new. -/
def RMade (w : World) (g : Nat) (f : Nat → Bool) (l : List UInt8) (r : Nat) (w' : World) : Prop :=
  ∃ rb tb, RfAt w' r rb tb (16 * g) g f l ∧ Below w.heap.size w w' ∧ w.heap.size ≤ r ∧ w.heap.size ≤ rb ∧ w.heap.size ≤ tb
theorem RMade.drew {w w' : World} {g r : Nat} {f : Nat → Bool} {l : List UInt8} (h : RMade w g f l r w') : RMade w g f l r w'.drew := by
  obtain ⟨rb, tb, h1, h2, h3⟩ := h
  exact ⟨rb, tb, h1.drew, h2.drew, h3⟩
theorem made_b (w : World) (n j : Nat) (hj : j < n) : (w.alloc (.cells (madeCells #[.int .u8 0] n) 5)).cell? ⟨w.heap.size, j, none⟩ = some (.int .u8 0) := by simp [madeCells, hj, Nat.mod_one]
theorem made_t (w : World) (n j : Nat) (hj : j < n) : (w.alloc (.cells (madeCells #[.bool false] n) 4)).cell? ⟨w.heap.size, j, none⟩ = some (.bool false) := by simp [madeCells, hj, Nat.mod_one]
theorem RfAt.made {V : World} {rb tb g : Nat} (hb : ∀ j, j < 16 * g → V.cell? ⟨rb, j, none⟩ = some (.int .u8 0) ∧ V.frozen? ⟨rb, j, none⟩ = false) (ht : ∀ j, j < g → V.cell? ⟨tb, j, none⟩ = some (.bool false) ∧ V.frozen? ⟨tb, j, none⟩ = false)
    (lo : 256 ≤ g) (hi : g ≤ 16384) (n3 : rb ≠ tb) (lb : rb < V.heap.size) (lt : tb < V.heap.size) (T : TypeId) :
    RfAt (V.alloc (.cells #[.slice (some ⟨rb, 0, none⟩) (16 * g) (16 * g), .slice (some ⟨tb, 0, none⟩) g g] T)) V.heap.size rb tb (16 * g) g (fun _ => false) (List.replicate (16 * g) 0) := by
  refine ⟨by simp, by simp, fun j u hu => ?_, fun j hj => ?_, fun j hj => ⟨?_, ?_⟩, by simp, rfl, lo, hi, by omega, by omega, n3, by simp, by simp; omega, by simp; omega⟩
  · have hj : j < 16 * g := by simpa using (List.getElem?_eq_some_iff.1 hu).1
    have hu0 : u = 0 := by simpa [List.getElem?_replicate, hj] using hu.symm
    subst hu0
    exact (World.cell?_alloc_lt _ _ _ (by exact lb)).trans ((hb j hj).1)
  · exact (((Below.refl _ V).alloc (Nat.le_refl _) _).frozen (p := ⟨rb, j, none⟩) lb).trans (hb j hj).2
  · exact (World.cell?_alloc_lt _ _ _ (by exact lt)).trans (ht j hj).1
  · exact (((Below.refl _ V).alloc (Nat.le_refl _) _).frozen (p := ⟨tb, j, none⟩) lt).trans (ht j hj).2
set_option maxRecDepth 100000 in
set_option maxHeartbeats 1000000 in
theorem rnew_yes (p : Nat) (w : World) (h1 : 16 ≤ p) (h2 : p ≤ 1024) : Calls Try.prog 15 #[.int .i64 p] w fun e w' => ∃ r, e = .returned (.tuple #[.pointer (some ⟨r, 0, none⟩), .int .i64 0]) ∧ RMade w (16 * p) (fun _ => false) (List.replicate (256 * p) 0) r w' := by
  have hmk : ∀ w, (Instr.makeSlice 28 (.int .i64 ((p : Int) * 256)) (.int .i64 ((p : Int) * 256))).run Try.prog w = .ok (.slice (some ⟨w.heap.size, 0, none⟩) (256 * p) (256 * p)) (w.alloc (.cells (madeCells #[.int .u8 0] (256 * p)) 5)) := fun w => by
    have e : (p : Int) * 256 = ((256 * p : Nat) : Int) := by omega
    rw [e]
    exact run_make_row' 28 5 (.int .u8 0) 1 Try.underlying28 info_u8 rfl .i64 .i64 (256 * p) (by omega) (by omega) w
  have hmk2 : ∀ w, (Instr.makeSlice 49 (.int .i64 ((p : Int) * 256 / 16)) (.int .i64 ((p : Int) * 256 / 16))).run Try.prog w = .ok (.slice (some ⟨w.heap.size, 0, none⟩) (16 * p) (16 * p)) (w.alloc (.cells (madeCells #[.bool false] (16 * p)) 4)) := fun w => by
    have e : (p : Int) * 256 / 16 = ((16 * p : Nat) : Int) := by omega
    rw [e]
    exact run_make_row' 49 4 (.bool false) 1 Try.underlying49 info_bool rfl .i64 .i64 (16 * p) (by omega) (by omega) w
  have i1 : ¬ (p : Int) < 16 := by omega
  have i2 : ¬ (p : Int) > 1024 := by omega
  have i4 : IntKind.i64.wrap ((p : Int) * 256) = (p : Int) * 256 := by rw [IntKind.wrap_i64]; omega
  have i5 : IntKind.i64.wrap ((p : Int) * 256 / 16) = (p : Int) * 256 / 16 := by rw [IntKind.wrap_i64]; omega
  have i6 : ((p : Int) * 256).tdiv 16 = (p : Int) * 256 / 16 := Int.tdiv_eq_ediv_of_nonneg (by omega)
  have hfin : ∀ V rb tb T, (∀ j, j < 256 * p → V.cell? ⟨rb, j, none⟩ = some (.int .u8 0) ∧ V.frozen? ⟨rb, j, none⟩ = false) → (∀ j, j < 16 * p → V.cell? ⟨tb, j, none⟩ = some (.bool false) ∧ V.frozen? ⟨tb, j, none⟩ = false) → rb ≠ tb → rb < V.heap.size → tb < V.heap.size → Below w.heap.size w V → w.heap.size ≤ rb → w.heap.size ≤ tb →
      RMade w (16 * p) (fun _ => false) (List.replicate (256 * p) 0) V.heap.size (V.alloc (.cells #[.slice (some ⟨rb, 0, none⟩) (256 * p) (256 * p), .slice (some ⟨tb, 0, none⟩) (16 * p) (16 * p)] T)) := fun V rb tb T hb ht n3 lb lt hbl x1 x2 => by
    have e : 256 * p = 16 * (16 * p) := by omega
    rw [e] at hb ⊢
    exact ⟨rb, tb, RfAt.made hb ht (by omega) (by omega) n3 lb lt T, hbl.alloc hbl.size _, hbl.size, x1, x2⟩
  have hA := Lib.hid (hfin ((w.alloc (.cells (madeCells #[.int .u8 0] (256 * p)) 5)).alloc (.cells (madeCells #[.bool false] (16 * p)) 4)) w.heap.size (w.heap.size + 1) 51
    (fun j hj => ⟨(World.cell?_alloc_lt _ _ _ (by simp)).trans (made_b w _ j hj), (((Below.refl _ _).alloc (Nat.le_refl _) _).frozen (p := ⟨w.heap.size, j, none⟩) (by simp)).trans (by simp)⟩)
    (fun j hj => by have := made_t (w.alloc (.cells (madeCells #[.int .u8 0] (256 * p)) 5)) (16 * p) j hj; rw [World.size_alloc] at this; exact ⟨this, by rw [World.frozen?_alloc_at (hn := by simp)]⟩) (by omega) (by simp; omega) (by simp)
    (((Below.refl _ w).alloc (Nat.le_refl _) _).alloc (by simp) _) (by omega) (by omega))
  have hB := Lib.hid (hfin ((w.alloc (.cells (madeCells #[.bool false] (16 * p)) 4)).alloc (.cells (madeCells #[.int .u8 0] (256 * p)) 5)) (w.heap.size + 1) w.heap.size 51
    (fun j hj => by have := made_b (w.alloc (.cells (madeCells #[.bool false] (16 * p)) 4)) (256 * p) j hj; rw [World.size_alloc] at this; exact ⟨this, by rw [World.frozen?_alloc_at (hn := by simp)]⟩)
    (fun j hj => ⟨(World.cell?_alloc_lt _ _ _ (by simp)).trans (made_t w _ j hj), (((Below.refl _ _).alloc (Nat.le_refl _) _).frozen (p := ⟨w.heap.size, j, none⟩) (by simp)).trans (by simp)⟩) (by omega) (by simp) (by simp; omega)
    (((Below.refl _ w).alloc (Nat.le_refl _) _).alloc (by simp) _) (by omega) (by omega))
  clear h1 h2 hfin
  go_enter Try.func15, Try.ntmps15
  go_wp2_with fail
  go_region_with (fail)
  · go_wp2
    go_ret2
    exact ⟨_, rfl, by have := hA.out; simp only [World.size_alloc] at this; exact this.drew⟩
  · go_wp2
    go_ret2
    exact ⟨_, rfl, by have := hB.out; simp only [World.size_alloc] at this; exact this.drew⟩
end Go.Proofs.Ytpopfmboonjplaa
