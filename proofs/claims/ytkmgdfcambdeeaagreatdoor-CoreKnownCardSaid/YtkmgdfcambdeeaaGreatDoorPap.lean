/- Contracts of layer arena: Untag, StoreCap. No statement is proved here.; Contracts of layer arena: StoreCap whole, LoadCap. No statement is proved here.; Contracts of layer arena: Zero. No statement is proved here. -/
import Derived.Deep.RegionHeld3
import Derived.Deep.RegionHeld
import Derived.Test.YtkmgdfcambdeeaaGreatDoorPak
namespace Go.Proofs.YtkmgdfcambdeeaaGreatDoor
open Go.RowKit
set_option linter.unusedVariables false

/-- Boxes as rows of cells, wherever they lie. -/
def RS (L : List Rw) (w : World) : Prop := ∀ x, x ∈ L → x.at w
section
variable {L : List Rw} {w w' : World}
theorem RS.nil (w : World) : RS [] w := fun x h => by cases h
theorem RS.below (h : RS L w) (k : Below w.heap.size w w') : RS L w' := fun x hx => Rw.below (h x hx) k
theorem RS.drew (h : RS L w) : RS L w.drew := h
theorem RS.push (h : RS L w) (vs : List Value) (ty : TypeId) : RS (⟨w.heap.size, vs⟩ :: L) (w.alloc (.cells vs.toArray ty)) := fun x hx => by
  rcases List.mem_cons.1 hx with rfl | hx
  · exact Rw.new w vs ty
  · exact Rw.below (h x hx) ((Below.refl _ _).alloc (Nat.le_refl _) _)
theorem RS.of2 {a b : Nat} (h : RS L w) (k : Of2 w.heap.size a b w w') (hn : ∀ x, x ∈ L → x.g ≠ a ∧ x.g ≠ b) : RS L w' := fun x hx => by
  obtain ⟨h1, h2, h3⟩ := h x hx
  have hb := k.block x.g h1 (hn x hx).1 (hn x hx).2
  exact ⟨Nat.lt_of_lt_of_le h1 k.size, fun j => (World.frozen?_of_block (a := ⟨x.g, j, none⟩) hb).trans (h2 j), fun j u hu => (World.cell?_of_block (a := ⟨x.g, j, none⟩) hb).trans (h3 j u hu)⟩
theorem RS.cell (h : RS L w) {g j : Nat} {u : Value} (vs : List Value) (hx : (⟨g, vs⟩ : Rw) ∈ L) (hu : vs[j]? = some u) : w.cell? ⟨g, j, none⟩ = some u := (h _ hx).2.2 j u hu
theorem RS.cap (h : RS L w) {g : Nat} {cu e b t pm ty rs : Nat} {va : Bool} (hx : (⟨g, cv cu e b t pm ty rs va⟩ : Rw) ∈ L) : CapAt w g cu e b t pm ty rs va :=
  ⟨h.cell _ hx rfl, h.cell _ hx rfl, h.cell _ hx rfl, h.cell _ hx rfl, h.cell _ hx rfl, h.cell _ hx rfl, h.cell _ hx rfl, h.cell _ hx rfl⟩
end

/-- Is at_ a granule's address, and is it there? -/
def grn (n at_ : Nat) : Bool := decide (at_ % 16 = 0) && thr n at_ 16
def scF (n : Nat) (f : Nat → Bool) (at_ : Nat) (z : Bool) : Nat → Bool := if grn n at_ then upd (clr f at_ 16) (at_ / 16) z else f
def scL (n : Nat) (l : List UInt8) (at_ : Nat) (s : List UInt8) : List UInt8 := if grn n at_ then ovr l at_ s else l

section
variable {a mb wb bb c n g : Nat} {f : Nat → Bool} {l : List UInt8} {w : World}
set_option maxRecDepth 100000 in
theorem ascap_no (H : ArAt w a mb wb bb c n g f l) (cu e b t pm ty rs : Nat) (va : Bool) (at_ : Nat) (l0 : cu < 4294967296) (l1 : e < 256) (l2 : b < 65536) (l3 : t < 65536) (l4 : pm < 65536) (l5 : ty < 65536) (l6 : rs < 4294967296) (la : at_ < 4294967296) (h0 : ¬ at_ % 16 = 0) :
    Calls Tryz.prog 32 #[.pointer (some ⟨a, 0, none⟩), .int .u32 at_, .agg #[.int .u32 cu, .int .u8 e, .int .u16 b, .int .u16 t, .int .u16 pm, .int .u16 ty, .int .u32 rs, .bool va]] w fun e w' => e = .returned (.bool false) ∧ Below w.heap.size w w' := by
  have hO := Lib.hid (fun o => aown (H.alloc o))
  have hb0 := Lib.hid ((Below.refl w.heap.size w).alloc (Nat.le_refl _) (.cells #[.int .u32 cu, .int .u8 e, .int .u16 b, .int .u16 t, .int .u16 pm, .int .u16 ty, .int .u32 rs, .bool va] 25))
  have hsz : (w.alloc (.cells #[.int .u32 cu, .int .u8 e, .int .u16 b, .int .u16 t, .int .u16 pm, .int .u16 ty, .int .u32 rs, .bool va] 25)).heap.size = w.heap.size + 1 := by simp
  have i0 : ¬ (at_ : Int) % 16 = 0 := by omega
  have i1 : (at_ : Int).tmod 16 = (at_ : Int) % 16 := Int.tmod_eq_emod_of_nonneg (by omega)
  have i2 : IntKind.u32.wrap ((at_ : Int) % 16) = (at_ : Int) % 16 := by rw [IntKind.wrap_u32]; omega
  have i3 : ((at_ : Int) % 16 != 0) = true := by simp; omega
  have hund : undef = Value.tuple #[] := rfl
  clear H h0
  go_enter Tryz.func32, Tryz.ntmps32
  go_wp2_with fail
  refine (hO.out _).mono ?_
  rintro ee w2 ⟨rfl, hb⟩
  have hb2 := Lib.hid ((hb0.out.trans (hb.mono (by omega))).alloc (by have := hb.size; omega) (.cells #[.pointer (some ⟨mb, 0, none⟩), .slice (some ⟨bb, 0, none⟩) n c] 113))
  clear hb hsz
  go_wp2_with fail
  generalize (w2.alloc (.cells #[.pointer (some ⟨mb, 0, none⟩), .slice (some ⟨bb, 0, none⟩) n c] 113)) = w3 at *
  refine region_cls (Below w.heap.size w) (by kernel_rfl) (by kernel_rfl) hb2.out.drew ?_
  repeat (first
    | go_big_quiet_skip
    | (go_big_quiet_want
       go_big_quiet_op
       first
       | go_big_quiet_on
       | (apply Exists.intro
          refine ⟨fun y => ?_, ?_⟩
          · first | exact rfl
          go_big_quiet_on)))
  refine wpQuiet_nil ?_
  intro y
  have hk := Lib.hid y.h
  go_wp2
  go_ret
  exact ⟨rfl, hk.out⟩
set_option maxRecDepth 100000 in
set_option maxHeartbeats 4000000 in
theorem ascap_yes (H : ArAt w a mb wb bb c n g f l) (cu e b t pm ty rs : Nat) (va : Bool) (at_ : Nat) (l0 : cu < 4294967296) (l1 : e < 256) (l2 : b < 65536) (l3 : t < 65536) (l4 : pm < 65536) (l5 : ty < 65536) (l6 : rs < 4294967296) (la : at_ < 4294967296) (h0 : at_ % 16 = 0) :
    Calls Tryz.prog 32 #[.pointer (some ⟨a, 0, none⟩), .int .u32 at_, .agg #[.int .u32 cu, .int .u8 e, .int .u16 b, .int .u16 t, .int .u16 pm, .int .u16 ty, .int .u32 rs, .bool va]] w (Nxt a mb wb bb c n g (scF n f at_ (va && sndP e b t pm ty rs)) (scL n l at_ (bytesC cu e b t pm ty rs)) w (.bool (thr n at_ 16))) := by
  have hO := Lib.hid (fun o => aown (H.alloc o))
  have hH := Lib.hid H
  have hBy := Lib.hid (fun w => pBytes_any cu e b t pm ty rs va l0 l1 l2 l3 l4 l5 l6 w)
  have hSn := Lib.hid (fun w => pSound_any cu e b t pm ty rs va l0 l1 l2 l3 l4 l5 l6 w)
  have hb0 := Lib.hid ((Below.refl w.heap.size w).alloc (Nat.le_refl _) (.cells #[.int .u32 cu, .int .u8 e, .int .u16 b, .int .u16 t, .int .u16 pm, .int .u16 ty, .int .u32 rs, .bool va] 25))
  have hsz : (w.alloc (.cells #[.int .u32 cu, .int .u8 e, .int .u16 b, .int .u16 t, .int .u16 pm, .int .u16 ty, .int .u32 rs, .bool va] 25)).heap.size = w.heap.size + 1 := by simp
  have K0 := Lib.hid ((RS.nil w).push (cv cu e b t pm ty rs va) 25)
  have i0 : (at_ : Int) % 16 = 0 := by omega
  have i1 : (at_ : Int).tmod 16 = (at_ : Int) % 16 := Int.tmod_eq_emod_of_nonneg (by omega)
  have i3 : ((at_ : Int) % 16 != 0) = false := by simp; omega
  have hl := bytesC_length cu e b t pm ty rs
  generalize bytesC cu e b t pm ty rs = s at *
  have hconv : ∀ w, (convert 9 97 (.string ⟨s.toArray⟩)).run Tryz.prog w = .ok (.slice (some ⟨w.heap.size, 0, none⟩) s.length (grownCap w s.length 0 5)) (Lib.bytesWorld w 5 ⟨s.toArray⟩) := fun w => Lib.run_convert_string_bytes w _ _ _ _ Tryz.underlying9 Tryz.underlying97 Tryz.underlying5
  have h0' := Lib.hid h0
  have hl' := Lib.hid hl
  clear H h0 hl
  go_enter Tryz.func32, Tryz.ntmps32
  go_wp2_with fail
  refine (hO.out _).mono ?_
  rintro ee w2 ⟨rfl, hb⟩
  have K1 := Lib.hid ((K0.out.below hb).push [.pointer (some ⟨mb, 0, none⟩), .slice (some ⟨bb, 0, none⟩) n c] 113)
  have hb2 := Lib.hid ((hb0.out.trans (hb.mono (by omega))).alloc (by have := hb.size; omega) (.cells #[.pointer (some ⟨mb, 0, none⟩), .slice (some ⟨bb, 0, none⟩) n c] 113))
  have hsz2 := Lib.hid (show w.heap.size < w2.heap.size by have := hb.size; omega)
  clear hb hsz
  have tr : ∀ w', (w'.cell? ⟨w.heap.size, 0, none⟩ = some (.int .u32 cu) ∧ w'.cell? ⟨w.heap.size, 1, none⟩ = some (.int .u8 e) ∧ w'.cell? ⟨w.heap.size, 2, none⟩ = some (.int .u16 b) ∧ w'.cell? ⟨w.heap.size, 3, none⟩ = some (.int .u16 t) ∧ w'.cell? ⟨w.heap.size, 4, none⟩ = some (.int .u16 pm) ∧ w'.cell? ⟨w.heap.size, 5, none⟩ = some (.int .u16 ty) ∧ w'.cell? ⟨w.heap.size, 6, none⟩ = some (.int .u32 rs) ∧ w'.cell? ⟨w.heap.size, 7, none⟩ = some (.bool va) ∧ w'.cell? ⟨w2.heap.size, 0, none⟩ = some (.pointer (some ⟨mb, 0, none⟩)) ∧ w'.cell? ⟨w2.heap.size, 1, none⟩ = some (.slice (some ⟨bb, 0, none⟩) n c) ∧ RS [⟨w2.heap.size, [.pointer (some ⟨mb, 0, none⟩), .slice (some ⟨bb, 0, none⟩) n c]⟩, ⟨w.heap.size, cv cu e b t pm ty rs va⟩] w') → RS [⟨w2.heap.size, [.pointer (some ⟨mb, 0, none⟩), .slice (some ⟨bb, 0, none⟩) n c]⟩, ⟨w.heap.size, cv cu e b t pm ty rs va⟩] w' := fun w' h => h.2.2.2.2.2.2.2.2.2.2
  have all : ∀ w', RS [⟨w2.heap.size, [.pointer (some ⟨mb, 0, none⟩), .slice (some ⟨bb, 0, none⟩) n c]⟩, ⟨w.heap.size, cv cu e b t pm ty rs va⟩] w' → w'.cell? ⟨w.heap.size, 0, none⟩ = some (.int .u32 cu) ∧ w'.cell? ⟨w.heap.size, 1, none⟩ = some (.int .u8 e) ∧ w'.cell? ⟨w.heap.size, 2, none⟩ = some (.int .u16 b) ∧ w'.cell? ⟨w.heap.size, 3, none⟩ = some (.int .u16 t) ∧ w'.cell? ⟨w.heap.size, 4, none⟩ = some (.int .u16 pm) ∧ w'.cell? ⟨w.heap.size, 5, none⟩ = some (.int .u16 ty) ∧ w'.cell? ⟨w.heap.size, 6, none⟩ = some (.int .u32 rs) ∧ w'.cell? ⟨w.heap.size, 7, none⟩ = some (.bool va) ∧ w'.cell? ⟨w2.heap.size, 0, none⟩ = some (.pointer (some ⟨mb, 0, none⟩)) ∧ w'.cell? ⟨w2.heap.size, 1, none⟩ = some (.slice (some ⟨bb, 0, none⟩) n c) ∧ RS [⟨w2.heap.size, [.pointer (some ⟨mb, 0, none⟩), .slice (some ⟨bb, 0, none⟩) n c]⟩, ⟨w.heap.size, cv cu e b t pm ty rs va⟩] w' := fun w' h => by
    have p0 : CapAt w' w.heap.size cu e b t pm ty rs va := h.cap (by simp)
    exact ⟨p0.q0, p0.q1, p0.q2, p0.q3, p0.q4, p0.q5, p0.q6, p0.q7, h.cell (g := w2.heap.size) [.pointer (some ⟨mb, 0, none⟩), .slice (some ⟨bb, 0, none⟩) n c] (by simp) rfl, h.cell (g := w2.heap.size) [.pointer (some ⟨mb, 0, none⟩), .slice (some ⟨bb, 0, none⟩) n c] (by simp) rfl, h⟩
  replace tr := Lib.hid tr
  replace all := Lib.hid all
  go_wp2_with fail
  generalize (w2.alloc (.cells #[.pointer (some ⟨mb, 0, none⟩), .slice (some ⟨bb, 0, none⟩) n c] 113)) = w3 at *
  have j0 := all.out _ K1.out.drew
  have A0 := Lib.hid ((hH.out.below hb2.out).drew)
  have B0 := Lib.hid hb2.out.drew
  have hne := Lib.hid (fun (x : Rw) (hx : x ∈ [⟨w2.heap.size, [.pointer (some ⟨mb, 0, none⟩), .slice (some ⟨bb, 0, none⟩) n c]⟩, ⟨w.heap.size, cv cu e b t pm ty rs va⟩]) => (show x.g ≠ wb ∧ x.g ≠ bb by
    have h1 := hH.out.lb
    have h2 := hH.out.m.lw
    have h3 := hsz2.out
    simp at hx
    rcases hx with rfl | rfl <;> simp <;> omega))
  go_region_held (fun w' => w'.cell? ⟨w.heap.size, 0, none⟩ = some (.int .u32 cu) ∧ w'.cell? ⟨w.heap.size, 1, none⟩ = some (.int .u8 e) ∧ w'.cell? ⟨w.heap.size, 2, none⟩ = some (.int .u16 b) ∧ w'.cell? ⟨w.heap.size, 3, none⟩ = some (.int .u16 t) ∧ w'.cell? ⟨w.heap.size, 4, none⟩ = some (.int .u16 pm) ∧ w'.cell? ⟨w.heap.size, 5, none⟩ = some (.int .u16 ty) ∧ w'.cell? ⟨w.heap.size, 6, none⟩ = some (.int .u32 rs) ∧ w'.cell? ⟨w.heap.size, 7, none⟩ = some (.bool va) ∧ w'.cell? ⟨w2.heap.size, 0, none⟩ = some (.pointer (some ⟨mb, 0, none⟩)) ∧ w'.cell? ⟨w2.heap.size, 1, none⟩ = some (.slice (some ⟨bb, 0, none⟩) n c) ∧ RS [⟨w2.heap.size, [.pointer (some ⟨mb, 0, none⟩), .slice (some ⟨bb, 0, none⟩) n c]⟩, ⟨w.heap.size, cv cu e b t pm ty rs va⟩] w')
    (first | with_reducible exact j0 | with_reducible exact j1 | with_reducible exact j2 | with_reducible exact j3)
    (first
      | (go_at_call 73; ((with_reducible refine (hBy.out _).mono ?_); rintro ee X ⟨rfl, g1⟩; have j1 := all.out _ ((tr.out _ j0).below g1); have j2 := all.out _ ((tr.out _ j1).below (bw_below X 5 ⟨s.toArray⟩)); have A1 := Lib.hid ((A0.out.below g1).below (bw_below X 5 ⟨s.toArray⟩)); have B1 := Lib.hid ((B0.out.trans (g1.mono (by exact B0.out.size))).trans ((bw_below X 5 ⟨s.toArray⟩).mono (by have := B0.out.size; have := g1.size; omega))); have C1 := Lib.hid (fun j u hu => bw_cell X 5 s j u hu); clear g1))
      | (go_at_call 70; ((with_reducible refine (alay_any A1.out s _ _ at_ la (by rw [hl'.out]; omega) C1.out).mono ?_); rintro ee Y ⟨rfl, g1, g2⟩; have j3 := all.out _ ((tr.out _ j2).of2 g2 hne.out); have A2 := Lib.hid g1; have B2 := Lib.hid ((Of2.of_below (x := wb) (y := bb) B1.out).step g2); clear g1 g2)))
  have e16 : thr n at_ ((s.length : Nat) : Int) = thr n at_ 16 := by rw [hl'.out]; rfl
  have hR := Lib.hid (tr.out _ (by assumption))
  rw [e16]
  clear j0 j1 j2 j3
  rcases ht : thr n at_ 16 with _ | _
  · have ht' := Lib.hid ht
    have hE := Lib.hid (show Nxt a mb wb bb c n g (scF n f at_ (va && sndP e b t pm ty rs)) (scL n l at_ s) w (.bool false) (.returned (.bool false)) Y from
      ⟨rfl, A2.out.ext (fun j => by simp only [stF, scF, grn, e16, ht]; simp) (by simp only [stL, scL, grn, e16, ht]; simp), B2.out⟩)
    clear ht A2 B2 e16
    go_wp2
    go_ret
    first | exact hE.out | (rw [ht'.out]; exact hE.out)
  · have A3 : ArAt Y a mb wb bb c n g (clr f at_ 16) (ovr l at_ s) := A2.out.ext (fun j => by unfold stF; rw [e16, ht, if_pos rfl, hl'.out]) (by unfold stL; rw [e16, ht, if_pos rfl])
    obtain ⟨S, hS0⟩ : ∃ S, S = fun w' => RS [⟨w2.heap.size, [.pointer (some ⟨mb, 0, none⟩), .slice (some ⟨bb, 0, none⟩) n c]⟩, ⟨w.heap.size, cv cu e b t pm ty rs va⟩] w' ∧ ArAt w' a mb wb bb c n g (clr f at_ 16) (ovr l at_ s) ∧ Of2 w.heap.size wb bb w w' := ⟨_, rfl⟩
    have hK : ∀ w', S w' → RS [⟨w2.heap.size, [.pointer (some ⟨mb, 0, none⟩), .slice (some ⟨bb, 0, none⟩) n c]⟩, ⟨w.heap.size, cv cu e b t pm ty rs va⟩] w' ∧ ArAt w' a mb wb bb c n g (clr f at_ 16) (ovr l at_ s) ∧ Of2 w.heap.size wb bb w w' := fun w' h => by rw [hS0] at h; exact h
    have hS : ∀ w1 w', S w1 → Below w1.heap.size w1 w' → S w' := fun w1 w' h k => by
      rw [hS0] at h ⊢
      exact ⟨h.1.below k, h.2.1.below k, h.2.2.trans (Of2.of_below (k.mono h.2.2.size))⟩
    have K2 : S Y := by rw [hS0]; exact ⟨hR.out, A3, B2.out⟩
    have ht' := Lib.hid ht
    have cG := Lib.hid (cls_bel hS (fun w => (granule_any at_ w la).mono fun _ _ k => ⟨k.1, k.2 ▸ Below.refl _ _⟩))
    have cS := Lib.hid (cls_bel hS hSn.out)
    obtain ⟨a0, a1, a2, a3, a4, a5, a6, a7⟩ := cls_cap (S := S) (bx := w.heap.size) (fun w h => (hK w h).1.cap (show (⟨_, cv cu e b t pm ty rs va⟩ : Rw) ∈ _ by simp))
    have b0 : ∀ y : Wd S, y.w.cell? ⟨w2.heap.size, 0, none⟩ = some (.pointer (some ⟨mb, 0, none⟩)) := fun y => (hK _ y.h).1.cell (g := w2.heap.size) [.pointer (some ⟨mb, 0, none⟩), .slice (some ⟨bb, 0, none⟩) n c] (by simp) rfl
    have hPut := Lib.hid (fun (v : Bool) (y : Wd S) => (tput_any mb wb g (clr f at_ 16) (at_ / 16) v y.w (hK _ y.h).2.1.m (by have := (hK _ y.h).2.1.hn; have := (thr_iff (k := 16)).1 ht'.out; omega)).mono fun _ w' k => (show _ ∧ ArAt w' a mb wb bb c n g (upd (clr f at_ 16) (at_ / 16) v) (ovr l at_ s) ∧ Of2 w.heap.size wb bb w w' from ⟨k.1, (hK _ y.h).2.1.map k.2.1 k.2.2, (hK _ y.h).2.2.step (Of2.of_off k.2.2)⟩))
    have hE1 := Lib.hid (show ∀ z, scF n f at_ z = upd (clr f at_ 16) (at_ / 16) z from fun z => by simp only [scF, grn, ht'.out, h0'.out]; simp)
    have hE2 := Lib.hid (show scL n l at_ s = ovr l at_ s from by simp only [scL, grn, ht'.out, h0'.out]; simp)
    replace K2 := Lib.hid K2
    have hund : undef = Value.tuple #[] := rfl
    clear ht e16 A2 B2 A3 hR tr all hne A0 A1 B0 B1 C1 hS0
    go_wp2_with fail
    cases va
    all_goals
      refine region_cls_tail S 10 (by kernel_rfl) (by kernel_rfl) (hS _ _ K2.out (Below.refl _ _).drew) ?_
      simp only [List.take_succ_cons, List.take_zero, List.drop_succ_cons, List.drop_zero]
      repeat (first
        | go_big_quiet_skip
        | (go_big_quiet_want
           go_big_quiet_op
           first
           | go_big_quiet_on
           | (apply Exists.intro
              refine ⟨fun y => ?_, ?_⟩
              · first | exact rfl | with_reducible exact cG.out y | with_reducible exact cS.out y
              go_big_quiet_on)))
      refine wpQuiet_nil ?_
      intro y
      have hk := Lib.hid (hK _ y.h)
      clear a0 a1 a2 a3 a4 a5 a6 a7 b0
      go_wp2_with fail
      refine (hPut.out _ y).mono ?_
      rintro e w5 ⟨rfl, g1, g2⟩
      have hE := Lib.hid (And.intro g1 g2)
      clear g1 g2
      go_wp2
      go_ret
      have hx := hE.out
      rw [← hE1.out, ← hE2.out] at hx
      exact ⟨ret_bool ht'.out.symm, hx⟩
end
end Go.Proofs.YtkmgdfcambdeeaaGreatDoor
namespace Go.Proofs.YtkmgdfcambdeeaaGreatDoor
open Go.RowKit
set_option linter.unusedVariables false

/-- The capability of 16 bytes. -/
def capV (s : List UInt8) (v : Bool) : Value := .agg #[.int .u32 (nm s 0 4), .int .u8 (nm s 4 1), .int .u16 (nm s 5 2), .int .u16 (nm s 7 2), .int .u16 (nm s 9 2), .int .u16 (nm s 11 2), .int .u32 (nm s 13 3), .bool (v && sndP (nm s 4 1) (nm s 5 2) (nm s 7 2) (nm s 9 2) (nm s 11 2) (nm s 13 3))]
theorem KR.cells8 {W : World} {L : List Rw} {w : World} (h : KR W L w) {g cu e b t pm ty rs : Nat} {va : Bool} (hx : (⟨g, cv cu e b t pm ty rs va⟩ : Rw) ∈ L) : w.cell? ⟨g, 0, none⟩ = some (.int .u32 cu) ∧ w.cell? ⟨g, 1, none⟩ = some (.int .u8 e) ∧ w.cell? ⟨g, 2, none⟩ = some (.int .u16 b) ∧ w.cell? ⟨g, 3, none⟩ = some (.int .u16 t) ∧ w.cell? ⟨g, 4, none⟩ = some (.int .u16 pm) ∧ w.cell? ⟨g, 5, none⟩ = some (.int .u16 ty) ∧ w.cell? ⟨g, 6, none⟩ = some (.int .u32 rs) ∧ w.cell? ⟨g, 7, none⟩ = some (.bool va) ∧ ∀ j, w.frozen? ⟨g, j, none⟩ = false := by
  have p := h.cap hx
  exact ⟨p.q0, p.q1, p.q2, p.q3, p.q4, p.q5, p.q6, p.q7, fun j => h.soft hx j⟩
section
variable {a mb wb bb c n g : Nat} {f : Nat → Bool} {l : List UInt8} {w : World}
theorem ascap_any (H : ArAt w a mb wb bb c n g f l) (cu e b t pm ty rs : Nat) (va : Bool) (at_ : Nat) (l0 : cu < 4294967296) (l1 : e < 256) (l2 : b < 65536) (l3 : t < 65536) (l4 : pm < 65536) (l5 : ty < 65536) (l6 : rs < 4294967296) (la : at_ < 4294967296) :
    Calls Tryz.prog 32 #[.pointer (some ⟨a, 0, none⟩), .int .u32 at_, .agg #[.int .u32 cu, .int .u8 e, .int .u16 b, .int .u16 t, .int .u16 pm, .int .u16 ty, .int .u32 rs, .bool va]] w (Nxt a mb wb bb c n g (scF n f at_ (va && sndP e b t pm ty rs)) (scL n l at_ (bytesC cu e b t pm ty rs)) w (.bool (grn n at_))) := by
  by_cases h0 : at_ % 16 = 0
  · have := ascap_yes H cu e b t pm ty rs va at_ l0 l1 l2 l3 l4 l5 l6 la h0
    have eg : grn n at_ = thr n at_ 16 := by simp [grn, h0]
    rw [eg]
    exact this
  · have eg : grn n at_ = false := by simp [grn, h0]
    refine (ascap_no H cu e b t pm ty rs va at_ l0 l1 l2 l3 l4 l5 l6 la h0).mono fun ee w' k => ?_
    rw [eg]
    have := nxt_below H k
    simpa [scF, scL, eg] using this
set_option maxRecDepth 100000 in
set_option maxHeartbeats 4000000 in
theorem alcap_yes (H : ArAt w a mb wb bb c n g f l) (at_ : Nat) (la : at_ < 4294967296) (h0 : grn n at_ = true) :
    Calls Tryz.prog 62 #[.pointer (some ⟨a, 0, none⟩), .int .u32 at_] w fun e w' => e = .returned (.tuple #[capV ((l.drop at_).take 16) (f (at_ / 16)), .bool true]) ∧ Below w.heap.size w w' := by
  have hO := Lib.hid (fun o => aown (H.alloc o))
  have h1 : at_ % 16 = 0 ∧ at_ + 16 ≤ n := by
    simp only [grn, Bool.and_eq_true, decide_eq_true_eq] at h0
    exact ⟨h0.1, (thr_iff (k := 16)).1 h0.2⟩
  have hT := Lib.hid (fun w => there_any ⟨mb, 0, none⟩ (some ⟨bb, 0, none⟩) n c at_ 16 w H.ln la (by omega))
  rw [show thr n at_ 16 = true from (thr_iff (k := 16)).2 h1.2] at hT
  have K0 := Lib.hid ((KR.start (W := w)).push (cv 0 0 0 0 0 0 0 false) 25)
  have i0 : (at_ : Int) % 16 = 0 := by omega
  have hlen : ((l.drop at_).take 16).length = 16 := by have := H.len; simp; omega
  have hCut : ∀ (w' : World) (H' : ArAt w' a mb wb bb c n g f l), Calls Tryz.prog 66 #[.agg #[.pointer (some ⟨mb, 0, none⟩), .slice (some ⟨bb, 0, none⟩) n c], .int .u32 at_, .int .i64 16] w' fun e w'' => e = .returned (.string ⟨((l.drop at_).take 16).toArray⟩) ∧ Below w'.heap.size w' w'' := fun (w' : World) (H' : ArAt w' a mb wb bb c n g f l) => cut_pos (.pointer (some ⟨mb, 0, none⟩)) bb c n at_ 16 l w' H.len H.caps.1 h1.2 H.ln (by omega) (fun j u hu => H'.cell hu) H'.lb
  have hGet : ∀ (w' : World) (H' : ArAt w' a mb wb bb c n g f l), Calls Tryz.prog 111 #[.pointer (some ⟨mb, 0, none⟩), .int .i64 ((at_ : Int) / 16)] w' fun e w'' => e = .returned (.bool (f (at_ / 16))) ∧ ∃ k, w'.drewN k = w'' := fun w' H' => by
    have := get_yes mb wb g f (at_ / 16) w' H'.m (by have := H.hn; omega)
    rw [show ((at_ / 16 : Nat) : Int) = (at_ : Int) / 16 from by omega] at this
    exact this
  have hOf := fun v w' => pOf_yes ((l.drop at_).take 16) v hlen w'
  have hV : ∀ v, capV ((l.drop at_).take 16) v = capV ((l.drop at_).take 16) v := fun _ => rfl
  conv at hV => intro v; rhs; unfold capV
  generalize hs : (l.drop at_).take 16 = s at *
  generalize hz : sndP (nm s 4 1) (nm s 5 2) (nm s 7 2) (nm s 9 2) (nm s 11 2) (nm s 13 3) = z at *
  generalize f (at_ / 16) = fv at *
  have hV' := Lib.hid (hV fv)
  have hH := Lib.hid H
  clear hs hz hV
  generalize nm s 0 4 = m0 at *
  generalize nm s 4 1 = m1 at *
  generalize nm s 5 2 = m2 at *
  generalize nm s 7 2 = m3 at *
  generalize nm s 9 2 = m4 at *
  generalize nm s 11 2 = m5 at *
  generalize nm s 13 3 = m6 at *
  clear H h0 hO
  have hO := Lib.hid (fun o => aown (hH.out.alloc o))
  go_enter Tryz.func62, Tryz.ntmps62
  go_wp2_with fail
  refine (hO.out _).mono ?_
  rintro e w2 ⟨rfl, hb⟩
  have K1 := Lib.hid ((K0.out.below hb).push [.pointer (some ⟨mb, 0, none⟩), .slice (some ⟨bb, 0, none⟩) n c] 113)
  have A1 := Lib.hid (hH.out.below (K0.out.below hb).bl)
  clear hb
  go_wp2_with fail
  have A2 := Lib.hid (A1.out.alloc (.cells #[.pointer (some ⟨mb, 0, none⟩), .slice (some ⟨bb, 0, none⟩) n c] 113))
  generalize (w2.alloc (.cells #[.pointer (some ⟨mb, 0, none⟩), .slice (some ⟨bb, 0, none⟩) n c] 113)) = w3 at *
  refine (hT.out _).mono ?_
  rintro e w4 ⟨rfl, hb⟩
  obtain ⟨S, hS0⟩ : ∃ S, S = fun w' => KR w [⟨w2.heap.size, [.pointer (some ⟨mb, 0, none⟩), .slice (some ⟨bb, 0, none⟩) n c]⟩, ⟨w.heap.size, cv 0 0 0 0 0 0 0 false⟩] w' ∧ ArAt w' a mb wb bb c n g f l := ⟨_, rfl⟩
  have hK : ∀ w', S w' → KR w [⟨w2.heap.size, [.pointer (some ⟨mb, 0, none⟩), .slice (some ⟨bb, 0, none⟩) n c]⟩, ⟨w.heap.size, cv 0 0 0 0 0 0 0 false⟩] w' ∧ ArAt w' a mb wb bb c n g f l := fun w' h => by rw [hS0] at h; exact h
  have hS : ∀ w1 w', S w1 → Below w1.heap.size w1 w' → S w' := fun w1 w' h k => by
    rw [hS0] at h ⊢
    exact ⟨h.1.below k, h.2.below k⟩
  have K2 := Lib.hid (show S w4 by rw [hS0]; exact ⟨K1.out.below hb, A2.out.below hb⟩)
  clear hb hS0
  have cC := Lib.hid (fun y : Wd S => cls_call (S := S) (fun w' h => (hCut w' (hK w' h).2).mono fun _ _ k => ⟨k.1, hS _ _ h k.2⟩) y)
  have cG := Lib.hid (cls_bel hS (fun w => (granule_int at_ w (by omega) (by omega)).mono fun _ _ k => ⟨k.1, k.2 ▸ Below.refl _ _⟩))
  have cT := Lib.hid (fun y : Wd S => cls_call (S := S) (fun w' h => (hGet w' (hK w' h).2).mono fun _ _ k => ⟨k.1, hS _ _ h (by obtain ⟨q, hq⟩ := k.2; exact hq ▸ below_drewN (Below.refl _ _) q)⟩) y)
  have cF := Lib.hid (cls_bel hS (fun w => hOf fv w))
  have b0 : ∀ y : Wd S, y.w.cell? ⟨w2.heap.size, 0, none⟩ = some (.pointer (some ⟨mb, 0, none⟩)) := fun y => (hK _ y.h).1.cell (g := w2.heap.size) [.pointer (some ⟨mb, 0, none⟩), .slice (some ⟨bb, 0, none⟩) n c] (by simp) rfl
  have b1 : ∀ y : Wd S, y.w.cell? ⟨w2.heap.size, 1, none⟩ = some (.slice (some ⟨bb, 0, none⟩) n c) := fun y => (hK _ y.h).1.cell (g := w2.heap.size) [.pointer (some ⟨mb, 0, none⟩), .slice (some ⟨bb, 0, none⟩) n c] (by simp) rfl
  have hne : w2.heap.size ≠ w.heap.size := by
    intro e
    have h1 := A1.out.la
    have h2 := K1.out.lt (g := w2.heap.size) (vs := [.pointer (some ⟨mb, 0, none⟩), .slice (some ⟨bb, 0, none⟩) n c]) (by simp)
    have h3 := K1.out.cell (g := w2.heap.size) (j := 0) (u := .pointer (some ⟨mb, 0, none⟩)) [.pointer (some ⟨mb, 0, none⟩), .slice (some ⟨bb, 0, none⟩) n c] (by simp) rfl
    have h4 := K1.out.cell (g := w.heap.size) (j := 0) (u := .int .u32 0) (cv 0 0 0 0 0 0 0 false) (by simp) rfl
    rw [e] at h3
    rw [h3] at h4
    cases h4
  have hfin := Lib.hid (fun w' (h : KR w [⟨w2.heap.size, [.pointer (some ⟨mb, 0, none⟩), .slice (some ⟨bb, 0, none⟩) n c]⟩, ⟨w.heap.size, cv 0 0 0 0 0 0 0 false⟩] w') => (h.sub (L' := [⟨w.heap.size, cv 0 0 0 0 0 0 0 false⟩]) (fun x hx => List.mem_cons_of_mem _ hx)).whole [.int .u32 m0, .int .u8 m1, .int .u16 m2, .int .u16 m3, .int .u16 m4, .int .u16 m5, .int .u32 m6, .bool (fv && z)] (Nat.le_refl _) (fun x hx => by cases hx) rfl)
  have hund : undef = Value.tuple #[] := rfl
  clear hne hCut hGet hOf
  go_wp2_with fail
  refine region_cls_tail S 11 (by kernel_rfl) (by kernel_rfl) (hS _ _ K2.out (Below.refl _ _).drew) ?_
  simp only [List.take_succ_cons, List.take_zero, List.drop_succ_cons, List.drop_zero]
  repeat (first
    | go_big_quiet_skip
    | (go_big_quiet_want
       go_big_quiet_op
       first
       | go_big_quiet_on
       | (apply Exists.intro
          refine ⟨fun y => ?_, ?_⟩
          · first | exact rfl | with_reducible exact cC.out y | with_reducible exact cG.out y | with_reducible exact cT.out y | with_reducible exact cF.out y
          go_big_quiet_on)))
  refine wpQuiet_nil ?_
  intro y
  have hk := Lib.hid (hK _ y.h)
  generalize y.w = wy at *
  clear b0 b1
  obtain ⟨r0, r1, r2, r3, r4, r5, r6, r7, fr⟩ := hk.out.1.cells8 (g := w.heap.size) (cu := 0) (e := 0) (b := 0) (t := 0) (pm := 0) (ty := 0) (rs := 0) (va := false) (by simp)
  have hf := Lib.hid (hfin.out _ hk.out.1)
  go_wp2_with fail
  change bodyPost _ _ _ _ _ (setRow w.heap.size 0 [.int .u32 m0, .int .u8 m1, .int .u16 m2, .int .u16 m3, .int .u16 m4, .int .u16 m5, .int .u32 m6, .bool (fv && z)] wy)
  clear r0 r1 r2 r3 r4 r5 r6 r7 fr
  generalize setRow w.heap.size 0 [.int .u32 m0, .int .u8 m1, .int .u16 m2, .int .u16 m3, .int .u16 m4, .int .u16 m5, .int .u32 m6, .bool (fv && z)] wy = w5 at *
  obtain ⟨z0, z1, z2, z3, z4, z5, z6, z7⟩ := hf.out.cap (g := w.heap.size) (cu := m0) (e := m1) (b := m2) (t := m3) (pm := m4) (ty := m5) (rs := m6) (va := fv && z) (List.mem_cons_self ..)
  refine bodyPost_ret (v := .tuple #[.agg #[.int .u32 m0, .int .u8 m1, .int .u16 m2, .int .u16 m3, .int .u16 m4, .int .u16 m5, .int .u32 m6, .bool (fv && z)], .bool true]) (by simp [results, Tryz.results62, go_sem, z0, z1, z2, z3, z4, z5, z6, z7]) rfl ⟨?_, hf.out.bl⟩
  rw [hV'.out]
end
end Go.Proofs.YtkmgdfcambdeeaaGreatDoor
namespace Go.Proofs.YtkmgdfcambdeeaaGreatDoor
open Go.RowKit
set_option linter.unusedVariables false
section
variable {a mb wb bb c n g : Nat} {f : Nat → Bool} {l : List UInt8} {w : World}
end
end Go.Proofs.YtkmgdfcambdeeaaGreatDoor
