/- Contracts of layer arena: Zero. No statement is proved here. -/
import Derived.Test.YtdidnipmbedbjaaArE
import Derived.Deep.RegionHeld
namespace Go.Proofs.Ytdidnipmbedbjaa
open Go.RowKit
set_option linter.unusedVariables false
section
variable {a mb wb bb c n g : Nat} {f : Nat → Bool} {l : List UInt8} {w : World}
set_option maxRecDepth 100000 in
set_option maxHeartbeats 2000000 in
theorem azero_no (H : ArAt w a mb wb bb c n g f l) (at_ sz : Nat) (la : at_ < 4294967296) (lz : sz < 4294967296) (ht : thr n at_ sz = false) :
    Calls Try.prog 33 #[.pointer (some ⟨a, 0, none⟩), .agg #[.int .u32 at_, .int .u32 sz]] w fun e w' => e = .returned (.bool false) ∧ Below w.heap.size w w' := by
  have hO := Lib.hid (fun o => aown (H.alloc o))
  have hT := Lib.hid (fun w => there_any ⟨mb, 0, none⟩ (some ⟨bb, 0, none⟩) n c at_ sz w H.ln la (by omega))
  rw [ht] at hT
  have K0 := Lib.hid ((KR.start (W := w)).push [.int .u32 at_, .int .u32 sz] 31)
  clear H ht
  go_enter Try.func33, Try.ntmps33
  go_wp2_with fail
  refine (hO.out _).mono ?_
  rintro e w2 ⟨rfl, hb⟩
  have K1 := Lib.hid ((K0.out.below hb).push [.pointer (some ⟨mb, 0, none⟩), .slice (some ⟨bb, 0, none⟩) n c] 81)
  clear hb
  go_wp2_with fail
  generalize (w2.alloc (.cells #[.pointer (some ⟨mb, 0, none⟩), .slice (some ⟨bb, 0, none⟩) n c] 81)) = w3 at *
  obtain ⟨S, hS0⟩ : ∃ S, S = KR w [⟨w2.heap.size, [.pointer (some ⟨mb, 0, none⟩), .slice (some ⟨bb, 0, none⟩) n c]⟩, ⟨w.heap.size, [.int .u32 at_, .int .u32 sz]⟩] := ⟨_, rfl⟩
  have hK : ∀ w', S w' → KR w [⟨w2.heap.size, [.pointer (some ⟨mb, 0, none⟩), .slice (some ⟨bb, 0, none⟩) n c]⟩, ⟨w.heap.size, [.int .u32 at_, .int .u32 sz]⟩] w' := fun w' h => by rw [← hS0]; exact h
  have hS : ∀ w1 w', S w1 → Below w1.heap.size w1 w' → S w' := fun w1 w' h k => by rw [hS0] at h ⊢; exact h.below k
  have K2 := Lib.hid (show S w3 by rw [hS0]; exact K1.out)
  clear hS0
  have cT := Lib.hid (cls_bel hS hT.out)
  have b0 : ∀ y : Wd S, y.w.cell? ⟨w2.heap.size, 0, none⟩ = some (.pointer (some ⟨mb, 0, none⟩)) := fun y => (hK _ y.h).cell (g := w2.heap.size) [.pointer (some ⟨mb, 0, none⟩), .slice (some ⟨bb, 0, none⟩) n c] (by simp) rfl
  have b1 : ∀ y : Wd S, y.w.cell? ⟨w2.heap.size, 1, none⟩ = some (.slice (some ⟨bb, 0, none⟩) n c) := fun y => (hK _ y.h).cell (g := w2.heap.size) [.pointer (some ⟨mb, 0, none⟩), .slice (some ⟨bb, 0, none⟩) n c] (by simp) rfl
  have b2 : ∀ y : Wd S, y.w.cell? ⟨w.heap.size, 0, none⟩ = some (.int .u32 at_) := fun y => (hK _ y.h).cell (g := w.heap.size) [.int .u32 at_, .int .u32 sz] (by simp) rfl
  have b3 : ∀ y : Wd S, y.w.cell? ⟨w.heap.size, 1, none⟩ = some (.int .u32 sz) := fun y => (hK _ y.h).cell (g := w.heap.size) [.int .u32 at_, .int .u32 sz] (by simp) rfl
  have hund : undef = Value.tuple #[] := rfl
  refine region_cls S (by kernel_rfl) (by kernel_rfl) (hS _ _ K2.out (Below.refl _ _).drew) ?_
  repeat (first
    | go_big_quiet_skip
    | (go_big_quiet_want
       go_big_quiet_op
       first
       | go_big_quiet_on
       | (apply Exists.intro
          refine ⟨fun y => ?_, ?_⟩
          · first | exact rfl | with_reducible exact cT.out y
          go_big_quiet_on)))
  refine wpQuiet_nil ?_
  intro y
  have hk := Lib.hid (hK _ y.h).bl
  go_wp2
  go_ret
  exact ⟨rfl, hk.out⟩
set_option maxRecDepth 100000 in
set_option maxHeartbeats 4000000 in
theorem azero_yes (H : ArAt w a mb wb bb c n g f l) (at_ sz : Nat) (la : at_ < 4294967296) (lz : sz < 4294967296) (ht : at_ + sz ≤ n) :
    Calls Try.prog 33 #[.pointer (some ⟨a, 0, none⟩), .agg #[.int .u32 at_, .int .u32 sz]] w (Nxt a mb wb bb c n g (stF n f at_ sz) (stL n l at_ (List.replicate sz 0)) w (.bool true)) := by
  have hO := Lib.hid (fun o => aown (H.alloc o))
  have hT := Lib.hid (fun w => there_any ⟨mb, 0, none⟩ (some ⟨bb, 0, none⟩) n c at_ sz w H.ln la (by omega))
  have e1 := thr_iff.2 ht
  rw [e1] at hT
  have hmk : ∀ w, (Instr.makeSlice 28 (.int .u32 sz) (.int .u32 sz)).run Try.prog w = .ok (.slice (some ⟨w.heap.size, 0, none⟩) sz sz) (w.alloc (.cells (madeCells #[.int .u8 0] sz) 5)) := fun w =>
    run_make_row' 28 5 (.int .u8 0) 1 Try.underlying28 info_u8 rfl .u32 .u32 sz (by have := H.ln; omega) (by have := H.ln; omega) w
  have hcell : ∀ (w : World) j u, (List.replicate sz (0 : UInt8))[j]? = some u → (w.alloc (.cells (madeCells #[.int .u8 0] sz) 5)).cell? ⟨w.heap.size, j, none⟩ = some (vb u) := fun w j u hu => by
    have hj : j < sz := by simpa using (List.getElem?_eq_some_iff.1 hu).1
    have hu0 : u = 0 := by simpa [List.getElem?_replicate, hj] using hu.symm
    subst hu0
    simp [madeCells, hj, Nat.mod_one, vb]
  have hLay : ∀ w1, ArAt w1 a mb wb bb c n g f l → ∀ sb cp, (∀ j u, (List.replicate sz (0 : UInt8))[j]? = some u → w1.cell? ⟨sb, j, none⟩ = some (vb u)) →
      Calls Try.prog 48 #[.agg #[.pointer (some ⟨mb, 0, none⟩), .slice (some ⟨bb, 0, none⟩) n c], .int .u32 at_, .slice (some ⟨sb, 0, none⟩) sz cp] w1 (Nxt a mb wb bb c n g (stF n f at_ sz) (stL n l at_ (List.replicate sz 0)) w1 (.bool true)) := fun w1 h sb cp hs => by
    have := alay_any h (List.replicate sz (0 : UInt8)) sb cp at_ la (by simp; omega) hs
    rw [List.length_replicate, e1] at this
    exact this
  have hH := Lib.hid H
  have K0 := Lib.hid ((RS.nil w).push [.int .u32 at_, .int .u32 sz] 31)
  have hb0 := Lib.hid ((Below.refl w.heap.size w).alloc (Nat.le_refl _) (.cells #[.int .u32 at_, .int .u32 sz] 31))
  have hsz : (w.alloc (.cells #[.int .u32 at_, .int .u32 sz] 31)).heap.size = w.heap.size + 1 := by simp
  have hwr : IntKind.i64.wrap (sz : Int) = sz := by rw [IntKind.wrap_i64]; omega
  replace hcell := Lib.hid hcell
  replace hLay := Lib.hid hLay
  clear H ht e1
  go_enter Try.func33, Try.ntmps33
  go_wp2_with fail
  refine (hO.out _).mono ?_
  rintro e w2 ⟨rfl, hb⟩
  have K1 := Lib.hid ((K0.out.below hb).push [.pointer (some ⟨mb, 0, none⟩), .slice (some ⟨bb, 0, none⟩) n c] 81)
  have hb2 := Lib.hid ((hb0.out.trans (hb.mono (by omega))).alloc (by have := hb.size; omega) (.cells #[.pointer (some ⟨mb, 0, none⟩), .slice (some ⟨bb, 0, none⟩) n c] 81))
  have hsz2 := Lib.hid (show w.heap.size < w2.heap.size by have := hb.size; omega)
  clear hb hsz
  have tr : ∀ w', (w'.cell? ⟨w.heap.size, 0, none⟩ = some (.int .u32 at_) ∧ w'.cell? ⟨w.heap.size, 1, none⟩ = some (.int .u32 sz) ∧ w'.cell? ⟨w2.heap.size, 0, none⟩ = some (.pointer (some ⟨mb, 0, none⟩)) ∧ w'.cell? ⟨w2.heap.size, 1, none⟩ = some (.slice (some ⟨bb, 0, none⟩) n c) ∧ RS [⟨w2.heap.size, [.pointer (some ⟨mb, 0, none⟩), .slice (some ⟨bb, 0, none⟩) n c]⟩, ⟨w.heap.size, [.int .u32 at_, .int .u32 sz]⟩] w') → RS [⟨w2.heap.size, [.pointer (some ⟨mb, 0, none⟩), .slice (some ⟨bb, 0, none⟩) n c]⟩, ⟨w.heap.size, [.int .u32 at_, .int .u32 sz]⟩] w' := fun w' h => h.2.2.2.2
  have all : ∀ w', RS [⟨w2.heap.size, [.pointer (some ⟨mb, 0, none⟩), .slice (some ⟨bb, 0, none⟩) n c]⟩, ⟨w.heap.size, [.int .u32 at_, .int .u32 sz]⟩] w' → w'.cell? ⟨w.heap.size, 0, none⟩ = some (.int .u32 at_) ∧ w'.cell? ⟨w.heap.size, 1, none⟩ = some (.int .u32 sz) ∧ w'.cell? ⟨w2.heap.size, 0, none⟩ = some (.pointer (some ⟨mb, 0, none⟩)) ∧ w'.cell? ⟨w2.heap.size, 1, none⟩ = some (.slice (some ⟨bb, 0, none⟩) n c) ∧ RS [⟨w2.heap.size, [.pointer (some ⟨mb, 0, none⟩), .slice (some ⟨bb, 0, none⟩) n c]⟩, ⟨w.heap.size, [.int .u32 at_, .int .u32 sz]⟩] w' := fun w' h =>
    ⟨h.cell (g := w.heap.size) [.int .u32 at_, .int .u32 sz] (by simp) rfl, h.cell (g := w.heap.size) [.int .u32 at_, .int .u32 sz] (by simp) rfl, h.cell (g := w2.heap.size) [.pointer (some ⟨mb, 0, none⟩), .slice (some ⟨bb, 0, none⟩) n c] (by simp) rfl, h.cell (g := w2.heap.size) [.pointer (some ⟨mb, 0, none⟩), .slice (some ⟨bb, 0, none⟩) n c] (by simp) rfl, h⟩
  replace tr := Lib.hid tr
  replace all := Lib.hid all
  go_wp2_with fail
  generalize (w2.alloc (.cells #[.pointer (some ⟨mb, 0, none⟩), .slice (some ⟨bb, 0, none⟩) n c] 81)) = w3 at *
  have j0 := all.out _ K1.out.drew
  have A0 := Lib.hid ((hH.out.below hb2.out).drew)
  have B0 := Lib.hid hb2.out.drew
  have hne := Lib.hid (fun (x : Rw) (hx : x ∈ [⟨w2.heap.size, [.pointer (some ⟨mb, 0, none⟩), .slice (some ⟨bb, 0, none⟩) n c]⟩, ⟨w.heap.size, [.int .u32 at_, .int .u32 sz]⟩]) => (show x.g ≠ wb ∧ x.g ≠ bb by
    have h1 := hH.out.lb
    have h2 := hH.out.m.lw
    have h3 := hsz2.out
    simp at hx
    rcases hx with rfl | rfl <;> simp <;> omega))
  go_region_held (fun w' => w'.cell? ⟨w.heap.size, 0, none⟩ = some (.int .u32 at_) ∧ w'.cell? ⟨w.heap.size, 1, none⟩ = some (.int .u32 sz) ∧ w'.cell? ⟨w2.heap.size, 0, none⟩ = some (.pointer (some ⟨mb, 0, none⟩)) ∧ w'.cell? ⟨w2.heap.size, 1, none⟩ = some (.slice (some ⟨bb, 0, none⟩) n c) ∧ RS [⟨w2.heap.size, [.pointer (some ⟨mb, 0, none⟩), .slice (some ⟨bb, 0, none⟩) n c]⟩, ⟨w.heap.size, [.int .u32 at_, .int .u32 sz]⟩] w')
    (first | with_reducible exact j0 | with_reducible exact j1 | with_reducible exact j2 | with_reducible exact j3)
    (first
      | (go_at_call 63; ((with_reducible refine (hT.out _).mono ?_); rintro ee X ⟨rfl, g1⟩; have j1 := all.out _ ((tr.out _ j0).below g1); have j2 := all.out _ ((tr.out _ j1).below ((Below.refl _ X).alloc (Nat.le_refl _) (.cells (madeCells #[.int .u8 0] sz) 5))); have A1 := Lib.hid ((A0.out.below g1).alloc (.cells (madeCells #[.int .u8 0] sz) 5)); have B1 := Lib.hid ((B0.out.trans (g1.mono (by exact B0.out.size))).alloc (by have := B0.out.size; have := g1.size; omega) (.cells (madeCells #[.int .u8 0] sz) 5)); have C1 := Lib.hid (hcell.out X); clear g1))
      | (go_at_call 48; ((with_reducible refine (hLay.out _ A1.out _ _ C1.out).mono ?_); rintro ee Y ⟨rfl, g1, g2⟩; have j3 := all.out _ ((tr.out _ j2).of2 g2 hne.out); have A2 := Lib.hid g1; have B2 := Lib.hid ((Of2.of_below (x := wb) (y := bb) B1.out).step g2); clear g1 g2)))
  clear j0 j1 j2 j3
  go_wp2
  go_ret
  exact ⟨rfl, A2.out, B2.out⟩
theorem azero_any (H : ArAt w a mb wb bb c n g f l) (at_ sz : Nat) (la : at_ < 4294967296) (lz : sz < 4294967296) :
    Calls Try.prog 33 #[.pointer (some ⟨a, 0, none⟩), .agg #[.int .u32 at_, .int .u32 sz]] w (Nxt a mb wb bb c n g (stF n f at_ sz) (stL n l at_ (List.replicate sz 0)) w (.bool (thr n at_ sz))) := by
  rcases ht : thr n at_ sz with _ | _
  · refine (azero_no H at_ sz la lz ht).mono fun e w' k => ?_
    have := nxt_below H k
    simpa [stF, stL, ht] using this
  · exact azero_yes H at_ sz la lz (thr_iff.1 ht)
end
end Go.Proofs.Ytdidnipmbedbjaa
