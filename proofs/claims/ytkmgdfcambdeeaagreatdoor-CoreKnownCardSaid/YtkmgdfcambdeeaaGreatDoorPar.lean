/- Contracts of the document's arena: Untag, Tagged, Zero. No statement is proved here.; Contracts of the document's arena: Zero. No statement is proved here.; Contracts of the document's arena: LoadCap, StoreCap. No statement is proved here.; Contracts of the document's arena: StoreCap. No statement is proved here.; Contracts of the document's arena: New. No statement is proved here. -/
import Derived.Deep.RegionHeld
import Derived.Deep.RegionWith
import Derived.Test.YtkmgdfcambdeeaaGreatDoorPaq
namespace Go.Proofs.YtkmgdfcambdeeaaGreatDoor
open Go.RowKit
set_option linter.unusedVariables false
section
variable {r rb tb n g : Nat} {f : Nat → Bool} {l : List UInt8} {w : World}
end
end Go.Proofs.YtkmgdfcambdeeaaGreatDoor
namespace Go.Proofs.YtkmgdfcambdeeaaGreatDoor
open Go.RowKit
set_option linter.unusedVariables false
section
variable {r rb tb n g : Nat} {f : Nat → Bool} {l : List UInt8} {w : World}
end
end Go.Proofs.YtkmgdfcambdeeaaGreatDoor
namespace Go.Proofs.YtkmgdfcambdeeaaGreatDoor
open Go.RowKit
set_option linter.unusedVariables false
section
variable {r rb tb n g : Nat} {f : Nat → Bool} {l : List UInt8} {w : World}
end
end Go.Proofs.YtkmgdfcambdeeaaGreatDoor
namespace Go.Proofs.YtkmgdfcambdeeaaGreatDoor
open Go.RowKit
set_option linter.unusedVariables false
section
variable {r rb tb n g : Nat} {f : Nat → Bool} {l : List UInt8} {w : World}
set_option maxRecDepth 100000 in
theorem rscap_no (H : RfAt w r rb tb n g f l) (cu e b t pm ty rs : Nat) (va : Bool) (at_ : Nat) (l0 : cu < 4294967296) (l1 : e < 256) (l2 : b < 65536) (l3 : t < 65536) (l4 : pm < 65536) (l5 : ty < 65536) (l6 : rs < 4294967296) (la : at_ < 4294967296) (h0 : grn n at_ = false) :
    Calls Tryz.prog 33 #[.pointer (some ⟨r, 0, none⟩), .int .u32 at_, .agg #[.int .u32 cu, .int .u8 e, .int .u16 b, .int .u16 t, .int .u16 pm, .int .u16 ty, .int .u32 rs, .bool va]] w fun e w' => e = .returned (.bool false) ∧ Below w.heap.size w w' := by
  have hb := Lib.hid ((Below.refl w.heap.size w).alloc (Nat.le_refl _) (.cells #[.int .u32 cu, .int .u8 e, .int .u16 b, .int .u16 t, .int .u16 pm, .int .u16 ty, .int .u32 rs, .bool va] 25))
  have hT := Lib.hid (rthere_any (H.below ((Below.refl _ w).alloc (Nat.le_refl _) (.cells #[.int .u32 cu, .int .u8 e, .int .u16 b, .int .u16 t, .int .u16 pm, .int .u16 ty, .int .u32 rs, .bool va] 25))) at_ 16 la (by omega))
  by_cases h1 : at_ % 16 = 0
  · have ht : thr n at_ 16 = false := by simpa [grn, h1] using h0
    rw [ht] at hT
    have i0 : (at_ : Int) % 16 = 0 := by omega
    clear H h0 h1 ht
    go_enter Tryz.func33, Tryz.ntmps33
    go_wp2_with fail
    refine hT.out.mono ?_
    rintro ee w2 ⟨rfl, rfl⟩
    go_wp2
    go_ret
    exact ⟨rfl, hb.out⟩
  · have i0 : ¬ (at_ : Int) % 16 = 0 := by omega
    clear H h0 h1
    go_enter Tryz.func33, Tryz.ntmps33
    go_wp2
    go_ret
    exact ⟨rfl, hb.out⟩
set_option maxRecDepth 100000 in
set_option maxHeartbeats 4000000 in
theorem rscap_yes (H : RfAt w r rb tb n g f l) (cu e b t pm ty rs : Nat) (va : Bool) (at_ : Nat) (l0 : cu < 4294967296) (l1 : e < 256) (l2 : b < 65536) (l3 : t < 65536) (l4 : pm < 65536) (l5 : ty < 65536) (l6 : rs < 4294967296) (la : at_ < 4294967296) (h0 : grn n at_ = true) :
    Calls Tryz.prog 33 #[.pointer (some ⟨r, 0, none⟩), .int .u32 at_, .agg #[.int .u32 cu, .int .u8 e, .int .u16 b, .int .u16 t, .int .u16 pm, .int .u16 ty, .int .u32 rs, .bool va]] w (Rxt r rb tb n g (upd (clr f at_ 16) (at_ / 16) (va && sndP e b t pm ty rs)) (ovr l at_ (bytesC cu e b t pm ty rs)) w (.bool true)) := by
  have h1 : at_ % 16 = 0 ∧ at_ + 16 ≤ n := by
    simp only [grn, Bool.and_eq_true, decide_eq_true_eq] at h0
    exact ⟨h0.1, (thr_iff (k := 16)).1 h0.2⟩
  have hn := H.ln
  have hH := Lib.hid H
  have hb := Lib.hid ((Below.refl w.heap.size w).alloc (Nat.le_refl _) (.cells #[.int .u32 cu, .int .u8 e, .int .u16 b, .int .u16 t, .int .u16 pm, .int .u16 ty, .int .u32 rs, .bool va] 25))
  have H1 := H.below ((Below.refl _ w).alloc (Nat.le_refl _) (.cells #[.int .u32 cu, .int .u8 e, .int .u16 b, .int .u16 t, .int .u16 pm, .int .u16 ty, .int .u32 rs, .bool va] 25))
  have hT := Lib.hid (rthere_any H1 at_ 16 la (by omega))
  rw [show thr n at_ 16 = true from (thr_iff (k := 16)).2 h1.2] at hT
  have K0 := Lib.hid (show RS [⟨w.heap.size, cv cu e b t pm ty rs va⟩] (w.alloc (.cells #[.int .u32 cu, .int .u8 e, .int .u16 b, .int .u16 t, .int .u16 pm, .int .u16 ty, .int .u32 rs, .bool va] 25)) from (RS.nil w).push (cv cu e b t pm ty rs va) 25)
  have i0 : (at_ : Int) % 16 = 0 := by omega
  have hBy := Lib.hid (fun w => rBytes_any cu e b t pm ty rs va w l0 l1 l2 l3 l4 l5 l6)
  have hSn := Lib.hid (fun w => rSound_any cu e b t pm ty rs va w)
  have hl := bytesC_length cu e b t pm ty rs
  generalize bytesC cu e b t pm ty rs = s at *
  obtain ⟨p, hp⟩ : ∃ p, p = at_ / 16 := ⟨_, rfl⟩
  have ep : (at_ : Int) / 16 = (p : Int) := by omega
  have hpg : p < g := by have := H.hn; omega
  have jp : (p : Int) < g := by omega
  rw [← hp]
  have hl' := Lib.hid hl
  have h1' := Lib.hid h1
  have H1' := Lib.hid H1
  clear H H1 h0 h1 hl hp
  go_enter Tryz.func33, Tryz.ntmps33
  go_wp2_with fail
  refine hT.out.mono ?_
  rintro ee w2 ⟨rfl, rfl⟩
  generalize (w.alloc (.cells #[.int .u32 cu, .int .u8 e, .int .u16 b, .int .u16 t, .int .u16 pm, .int .u16 ty, .int .u32 rs, .bool va] 25)) = w3 at *
  obtain ⟨a0, a1, a2, a3, a4, a5, a6, a7⟩ := K0.out.cap (g := w.heap.size) (cu := cu) (e := e) (b := b) (t := t) (pm := pm) (ty := ty) (rs := rs) (va := va) (by simp)
  go_wp2_with fail
  refine (hBy.out _).mono ?_
  rintro ee w4 ⟨rfl, k⟩
  have K1 := Lib.hid (K0.out.below k)
  have H2 := Lib.hid (H1'.out.below k)
  have B2 := Lib.hid (hb.out.trans (k.mono hb.out.size))
  clear k a0 a1 a2 a3 a4 a5 a6 a7
  go_wp2_with fail
  refine (rwrite_yes H2.out at_ s la (by rw [hl'.out]; exact h1'.out.2)).mono ?_
  rintro ee w5 ⟨rfl, k1, k2⟩
  rw [hl'.out] at k1
  have K2 := K1.out.of2 k2 (fun x hx => by
    have h1 := hH.out.lb
    have h2 := hH.out.lt
    simp at hx
    subst hx
    simp
    omega)
  obtain ⟨S, hS0⟩ : ∃ S, S = fun w' => RS [⟨w.heap.size, cv cu e b t pm ty rs va⟩] w' ∧ RfAt w' r rb tb n g (clr f at_ 16) (ovr l at_ s) ∧ Of2 w.heap.size rb tb w w' := ⟨_, rfl⟩
  have hK : ∀ w', S w' → RS [⟨w.heap.size, cv cu e b t pm ty rs va⟩] w' ∧ RfAt w' r rb tb n g (clr f at_ 16) (ovr l at_ s) ∧ Of2 w.heap.size rb tb w w' := fun w' h => by rw [hS0] at h; exact h
  have hS : ∀ w1 w', S w1 → Below w1.heap.size w1 w' → S w' := fun w1 w' h k => by
    rw [hS0] at h ⊢
    exact ⟨h.1.below k, h.2.1.below k, h.2.2.trans (Of2.of_below (k.mono h.2.2.size))⟩
  have KS := Lib.hid (show S w5 by rw [hS0]; exact ⟨K2, k1, (Of2.of_below B2.out).step k2⟩)
  have cS := Lib.hid (cls_bel hS hSn.out)
  obtain ⟨a0, a1, a2, a3, a4, a5, a6, a7⟩ := cls_cap (S := S) (bx := w.heap.size) (fun w h => (hK w h).1.cap (show (⟨_, cv cu e b t pm ty rs va⟩ : Rw) ∈ _ by simp))
  have b1 : ∀ y : Wd S, y.w.cell? ⟨r, 1, none⟩ = some (.slice (some ⟨tb, 0, none⟩) g g) := fun y => (hK _ y.h).2.1.q1
  have hund : undef = Value.tuple #[] := rfl
  clear k1 k2 K2 hS0 hSn
  go_wp2_with fail
  cases va
  all_goals
    refine region_cls_tail S 13 (by kernel_rfl) (by kernel_rfl) (hS _ _ KS.out (Below.refl _ _).drew) ?_
    simp only [List.take_succ_cons, List.take_zero, List.drop_succ_cons, List.drop_zero]
    repeat (first
      | go_big_quiet_skip
      | (go_big_quiet_want
         go_big_quiet_op
         first
         | go_big_quiet_on
         | (apply Exists.intro
            refine ⟨fun y => ?_, ?_⟩
            · first | exact rfl | with_reducible exact cS.out y
            go_big_quiet_on)))
    refine wpQuiet_nil ?_
    intro y
    have hk := Lib.hid (hK _ y.h)
    generalize y.w = wy at *
    clear a0 a1 a2 a3 a4 a5 a6 a7 b1
    obtain ⟨c0, c1⟩ := hk.out.2.1.tg p hpg
    have hE := Lib.hid (fun z => And.intro (hk.out.2.1.tag hpg z) (hk.out.2.2.setCell (p := ⟨tb, p, none⟩) (.inr (.inr rfl)) (.bool z)))
    go_wp2
    go_ret
    exact ⟨rfl, (hE.out _).1, (hE.out _).2⟩
theorem rscap_any (H : RfAt w r rb tb n g f l) (cu e b t pm ty rs : Nat) (va : Bool) (at_ : Nat) (l0 : cu < 4294967296) (l1 : e < 256) (l2 : b < 65536) (l3 : t < 65536) (l4 : pm < 65536) (l5 : ty < 65536) (l6 : rs < 4294967296) (la : at_ < 4294967296) :
    Calls Tryz.prog 33 #[.pointer (some ⟨r, 0, none⟩), .int .u32 at_, .agg #[.int .u32 cu, .int .u8 e, .int .u16 b, .int .u16 t, .int .u16 pm, .int .u16 ty, .int .u32 rs, .bool va]] w (Rxt r rb tb n g (scF n f at_ (va && sndP e b t pm ty rs)) (scL n l at_ (bytesC cu e b t pm ty rs)) w (.bool (grn n at_))) := by
  rcases hg : grn n at_ with _ | _
  · refine (rscap_no H cu e b t pm ty rs va at_ l0 l1 l2 l3 l4 l5 l6 la hg).mono fun ee w' k => ?_
    have := rxt_below H k
    simpa [scF, scL, hg] using this
  · refine (rscap_yes H cu e b t pm ty rs va at_ l0 l1 l2 l3 l4 l5 l6 la hg).mono fun ee w' k => ?_
    simpa [scF, scL, hg] using k
end
end Go.Proofs.YtkmgdfcambdeeaaGreatDoor
namespace Go.Proofs.YtkmgdfcambdeeaaGreatDoor
open Go.RowKit
set_option linter.unusedVariables false

theorem info_bool : (Tryz.prog.info? 4).map (fun i => (i.zero, i.size, i.bytes)) = some (some (.bool false), 1, 1) := by kernel_rfl
/-- The document's arena has been made: its blocks are new. -/
def RMade (w : World) (g : Nat) (f : Nat → Bool) (l : List UInt8) (r : Nat) (w' : World) : Prop :=
  ∃ rb tb, RfAt w' r rb tb (16 * g) g f l ∧ Below w.heap.size w w' ∧ w.heap.size ≤ r ∧ w.heap.size ≤ rb ∧ w.heap.size ≤ tb
theorem RMade.drew {w w' : World} {g r : Nat} {f : Nat → Bool} {l : List UInt8} (h : RMade w g f l r w') : RMade w g f l r w'.drew := by
  obtain ⟨rb, tb, h1, h2, h3⟩ := h
  exact ⟨rb, tb, h1.drew, h2.drew, h3⟩
theorem made_b (w : World) (n j : Nat) (hj : j < n) : (w.alloc (.cells (madeCells #[.int .u8 0] n) 5)).cell? ⟨w.heap.size, j, none⟩ = some (.int .u8 0) := by simp [madeCells, hj, Nat.mod_one]
theorem made_t (w : World) (n j : Nat) (hj : j < n) : (w.alloc (.cells (madeCells #[.bool false] n) 4)).cell? ⟨w.heap.size, j, none⟩ = some (.bool false) := by simp [madeCells, hj, Nat.mod_one]
theorem RfAt.made {V : World} {rb tb g : Nat} (hb : ∀ j, j < 16 * g → V.cell? ⟨rb, j, none⟩ = some (.int .u8 0) ∧ V.frozen? ⟨rb, j, none⟩ = false) (ht : ∀ j, j < g → V.cell? ⟨tb, j, none⟩ = some (.bool false) ∧ V.frozen? ⟨tb, j, none⟩ = false)
    (lo : 256 ≤ g) (hi : g ≤ 16384) (n3 : rb ≠ tb) (lb : rb < V.heap.size) (lt : tb < V.heap.size) (T : TypeId) :
    RfAt (V.alloc (.cells #[.slice (some ⟨rb, 0, none⟩) (16 * g) (16 * g), .slice (some ⟨tb, 0, none⟩) g g] T)) V.heap.size rb tb (16 * g) g (fun _ => false) (List.replicate (16 * g) 0) := by
  refine ⟨by simp, by simp, fun j u hu => ?_, fun j hj => ?_, fun j hj => ⟨?_, ?_⟩, by simp, rfl, lo, hi, by omega, by omega, n3, by simp, by simp; omega, by simp; omega⟩
  · have hj : j < 16 * g := by simpa using (List.getElem?_eq_some_iff.1 hu).1
    have hu0 : u = 0 := by simpa [List.getElem?_replicate, hj] using hu.symm
    subst hu0
    exact (World.cell?_alloc_lt _ _ _ (by exact lb)).trans ((hb j hj).1)
  · exact (((Below.refl _ V).alloc (Nat.le_refl _) _).frozen (p := ⟨rb, j, none⟩) lb).trans (hb j hj).2
  · exact (World.cell?_alloc_lt _ _ _ (by exact lt)).trans (ht j hj).1
  · exact (((Below.refl _ V).alloc (Nat.le_refl _) _).frozen (p := ⟨tb, j, none⟩) lt).trans (ht j hj).2
set_option maxRecDepth 100000 in
set_option maxHeartbeats 1000000 in
theorem rnew_yes (p : Nat) (w : World) (h1 : 16 ≤ p) (h2 : p ≤ 1024) : Calls Tryz.prog 29 #[.int .i64 p] w fun e w' => ∃ r, e = .returned (.tuple #[.pointer (some ⟨r, 0, none⟩), .int .i64 0]) ∧ RMade w (16 * p) (fun _ => false) (List.replicate (256 * p) 0) r w' := by
  have hmk : ∀ w, (Instr.makeSlice 97 (.int .i64 ((p : Int) * 256)) (.int .i64 ((p : Int) * 256))).run Tryz.prog w = .ok (.slice (some ⟨w.heap.size, 0, none⟩) (256 * p) (256 * p)) (w.alloc (.cells (madeCells #[.int .u8 0] (256 * p)) 5)) := fun w => by
    have e : (p : Int) * 256 = ((256 * p : Nat) : Int) := by omega
    rw [e]
    exact run_make_row' 97 5 (.int .u8 0) 1 Tryz.underlying97 info_u8 rfl .i64 .i64 (256 * p) (by omega) (by omega) w
  have hmk2 : ∀ w, (Instr.makeSlice 98 (.int .i64 ((p : Int) * 256 / 16)) (.int .i64 ((p : Int) * 256 / 16))).run Tryz.prog w = .ok (.slice (some ⟨w.heap.size, 0, none⟩) (16 * p) (16 * p)) (w.alloc (.cells (madeCells #[.bool false] (16 * p)) 4)) := fun w => by
    have e : (p : Int) * 256 / 16 = ((16 * p : Nat) : Int) := by omega
    rw [e]
    exact run_make_row' 98 4 (.bool false) 1 Tryz.underlying98 info_bool rfl .i64 .i64 (16 * p) (by omega) (by omega) w
  have i1 : ¬ (p : Int) < 16 := by omega
  have i2 : ¬ (p : Int) > 1024 := by omega
  have i4 : IntKind.i64.wrap ((p : Int) * 256) = (p : Int) * 256 := by rw [IntKind.wrap_i64]; omega
  have i5 : IntKind.i64.wrap ((p : Int) * 256 / 16) = (p : Int) * 256 / 16 := by rw [IntKind.wrap_i64]; omega
  have i6 : ((p : Int) * 256).tdiv 16 = (p : Int) * 256 / 16 := Int.tdiv_eq_ediv_of_nonneg (by omega)
  have hfin : ∀ V rb tb T, (∀ j, j < 256 * p → V.cell? ⟨rb, j, none⟩ = some (.int .u8 0) ∧ V.frozen? ⟨rb, j, none⟩ = false) → (∀ j, j < 16 * p → V.cell? ⟨tb, j, none⟩ = some (.bool false) ∧ V.frozen? ⟨tb, j, none⟩ = false) → rb ≠ tb → rb < V.heap.size → tb < V.heap.size → Below w.heap.size w V → w.heap.size ≤ rb → w.heap.size ≤ tb →
      RMade w (16 * p) (fun _ => false) (List.replicate (256 * p) 0) V.heap.size (V.alloc (.cells #[.slice (some ⟨rb, 0, none⟩) (256 * p) (256 * p), .slice (some ⟨tb, 0, none⟩) (16 * p) (16 * p)] T)) := fun V rb tb T hb ht n3 lb lt hbl x1 x2 => by
    have e : 256 * p = 16 * (16 * p) := by omega
    rw [e] at hb ⊢
    exact ⟨rb, tb, RfAt.made hb ht (by omega) (by omega) n3 lb lt T, hbl.alloc hbl.size _, hbl.size, x1, x2⟩
  have hA := Lib.hid (hfin ((w.alloc (.cells (madeCells #[.int .u8 0] (256 * p)) 5)).alloc (.cells (madeCells #[.bool false] (16 * p)) 4)) w.heap.size (w.heap.size + 1) 100
    (fun j hj => ⟨(World.cell?_alloc_lt _ _ _ (by simp)).trans (made_b w _ j hj), (((Below.refl _ _).alloc (Nat.le_refl _) _).frozen (p := ⟨w.heap.size, j, none⟩) (by simp)).trans (by simp)⟩)
    (fun j hj => by have := made_t (w.alloc (.cells (madeCells #[.int .u8 0] (256 * p)) 5)) (16 * p) j hj; rw [World.size_alloc] at this; exact ⟨this, by rw [World.frozen?_alloc_at (hn := by simp)]⟩) (by omega) (by simp; omega) (by simp)
    (((Below.refl _ w).alloc (Nat.le_refl _) _).alloc (by simp) _) (by omega) (by omega))
  have hB := Lib.hid (hfin ((w.alloc (.cells (madeCells #[.bool false] (16 * p)) 4)).alloc (.cells (madeCells #[.int .u8 0] (256 * p)) 5)) (w.heap.size + 1) w.heap.size 100
    (fun j hj => by have := made_b (w.alloc (.cells (madeCells #[.bool false] (16 * p)) 4)) (256 * p) j hj; rw [World.size_alloc] at this; exact ⟨this, by rw [World.frozen?_alloc_at (hn := by simp)]⟩)
    (fun j hj => ⟨(World.cell?_alloc_lt _ _ _ (by simp)).trans (made_t w _ j hj), (((Below.refl _ _).alloc (Nat.le_refl _) _).frozen (p := ⟨w.heap.size, j, none⟩) (by simp)).trans (by simp)⟩) (by omega) (by simp) (by simp; omega)
    (((Below.refl _ w).alloc (Nat.le_refl _) _).alloc (by simp) _) (by omega) (by omega))
  clear h1 h2 hfin
  go_enter Tryz.func29, Tryz.ntmps29
  go_wp2_with fail
  go_region_with (fail)
  · go_wp2
    go_ret2
    exact ⟨_, rfl, by have := hA.out; simp only [World.size_alloc] at this; exact this.drew⟩
  · go_wp2
    go_ret2
    exact ⟨_, rfl, by have := hB.out; simp only [World.size_alloc] at this; exact this.drew⟩
end Go.Proofs.YtkmgdfcambdeeaaGreatDoor
