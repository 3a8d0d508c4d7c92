/- Contracts of layer arena: StoreCap whole, LoadCap. No statement is proved here. -/
import Derived.Test.YtdidnipmbedbjaaArD
namespace Go.Proofs.Ytdidnipmbedbjaa
open Go.RowKit
set_option linter.unusedVariables false

/-- The capability of 16 bytes. -/
def capV (s : List UInt8) (v : Bool) : Value := .agg #[.int .u32 (nm s 0 4), .int .u8 (nm s 4 1), .int .u16 (nm s 5 2), .int .u16 (nm s 7 2), .int .u16 (nm s 9 2), .int .u16 (nm s 11 2), .int .u32 (nm s 13 3), .bool (v && sndP (nm s 4 1) (nm s 5 2) (nm s 7 2) (nm s 9 2) (nm s 11 2) (nm s 13 3))]
def cap0 : Value := .agg #[.int .u32 0, .int .u8 0, .int .u16 0, .int .u16 0, .int .u16 0, .int .u16 0, .int .u32 0, .bool false]
theorem KR.cells8 {W : World} {L : List Rw} {w : World} (h : KR W L w) {g cu e b t pm ty rs : Nat} {va : Bool} (hx : (⟨g, cv cu e b t pm ty rs va⟩ : Rw) ∈ L) : w.cell? ⟨g, 0, none⟩ = some (.int .u32 cu) ∧ w.cell? ⟨g, 1, none⟩ = some (.int .u8 e) ∧ w.cell? ⟨g, 2, none⟩ = some (.int .u16 b) ∧ w.cell? ⟨g, 3, none⟩ = some (.int .u16 t) ∧ w.cell? ⟨g, 4, none⟩ = some (.int .u16 pm) ∧ w.cell? ⟨g, 5, none⟩ = some (.int .u16 ty) ∧ w.cell? ⟨g, 6, none⟩ = some (.int .u32 rs) ∧ w.cell? ⟨g, 7, none⟩ = some (.bool va) ∧ ∀ j, w.frozen? ⟨g, j, none⟩ = false := by
  have p := h.cap hx
  exact ⟨p.q0, p.q1, p.q2, p.q3, p.q4, p.q5, p.q6, p.q7, fun j => h.soft hx j⟩
section
variable {a mb wb bb c n g : Nat} {f : Nat → Bool} {l : List UInt8} {w : World}
theorem ascap_any (H : ArAt w a mb wb bb c n g f l) (cu e b t pm ty rs : Nat) (va : Bool) (at_ : Nat) (l0 : cu < 4294967296) (l1 : e < 256) (l2 : b < 65536) (l3 : t < 65536) (l4 : pm < 65536) (l5 : ty < 65536) (l6 : rs < 4294967296) (la : at_ < 4294967296) :
    Calls Try.prog 21 #[.pointer (some ⟨a, 0, none⟩), .int .u32 at_, .agg #[.int .u32 cu, .int .u8 e, .int .u16 b, .int .u16 t, .int .u16 pm, .int .u16 ty, .int .u32 rs, .bool va]] w (Nxt a mb wb bb c n g (scF n f at_ (va && sndP e b t pm ty rs)) (scL n l at_ (bytesC cu e b t pm ty rs)) w (.bool (grn n at_))) := by
  by_cases h0 : at_ % 16 = 0
  · have := ascap_yes H cu e b t pm ty rs va at_ l0 l1 l2 l3 l4 l5 l6 la h0
    have eg : grn n at_ = thr n at_ 16 := by simp [grn, h0]
    rw [eg]
    exact this
  · have eg : grn n at_ = false := by simp [grn, h0]
    refine (ascap_no H cu e b t pm ty rs va at_ l0 l1 l2 l3 l4 l5 l6 la h0).mono fun ee w' k => ?_
    rw [eg]
    have := nxt_below H k
    simpa [scF, scL, eg] using this
set_option maxRecDepth 100000 in
set_option maxHeartbeats 1000000 in
theorem alcap_no (H : ArAt w a mb wb bb c n g f l) (at_ : Nat) (la : at_ < 4294967296) (h0 : grn n at_ = false) :
    Calls Try.prog 29 #[.pointer (some ⟨a, 0, none⟩), .int .u32 at_] w fun e w' => e = .returned (.tuple #[cap0, .bool false]) ∧ Below w.heap.size w w' := by
  have hO := Lib.hid (fun o => aown (H.alloc o))
  have hT := Lib.hid (fun w => there_any ⟨mb, 0, none⟩ (some ⟨bb, 0, none⟩) n c at_ 16 w H.ln la (by omega))
  have K0 := Lib.hid ((KR.start (W := w)).push (cv 0 0 0 0 0 0 0 false) 25)
  have hfin : ∀ w4, KR w [⟨w.heap.size, cv 0 0 0 0 0 0 0 false⟩] w4 → KR w [⟨w.heap.size, cv 0 0 0 0 0 0 0 false⟩] (setRow w.heap.size 0 (cv 0 0 0 0 0 0 0 false) w4) := fun w4 h => h.whole (cv 0 0 0 0 0 0 0 false) (Nat.le_refl _) (fun x hx => by cases hx) rfl
  replace hfin := Lib.hid hfin
  by_cases h1 : at_ % 16 = 0
  · have ht : thr n at_ 16 = false := by simpa [grn, h1] using h0
    rw [ht] at hT
    have i0 : (at_ : Int) % 16 = 0 := by omega
    clear H h0 h1 ht
    go_enter Try.func29, Try.ntmps29
    go_wp2_with fail
    refine (hO.out _).mono ?_
    rintro e w2 ⟨rfl, hb⟩
    have K1 := Lib.hid ((K0.out.below hb).alloc (.cells #[.pointer (some ⟨mb, 0, none⟩), .slice (some ⟨bb, 0, none⟩) n c] 81))
    clear hb
    go_wp2_with fail
    refine (hT.out _).mono ?_
    rintro e w4 ⟨rfl, hb⟩
    have K2 := Lib.hid (K1.out.below hb)
    clear hb
    obtain ⟨r0, r1, r2, r3, r4, r5, r6, r7, fr⟩ := K2.out.cells8 (g := w.heap.size) (cu := 0) (e := 0) (b := 0) (t := 0) (pm := 0) (ty := 0) (rs := 0) (va := false) (by simp)
    go_wp2_with fail
    have hf := Lib.hid (hfin.out _ K2.out)
    change bodyPost _ _ _ _ _ (setRow w.heap.size 0 (cv 0 0 0 0 0 0 0 false) w4)
    clear r0 r1 r2 r3 r4 r5 r6 r7 fr
    generalize setRow w.heap.size 0 (cv 0 0 0 0 0 0 0 false) w4 = w5 at *
    obtain ⟨z0, z1, z2, z3, z4, z5, z6, z7⟩ := hf.out.cap (g := w.heap.size) (List.mem_cons_self ..)
    exact bodyPost_ret (v := .tuple #[cap0, .bool false]) (by simp [results, Try.results29, go_sem, z0, z1, z2, z3, z4, z5, z6, z7, cap0]) rfl ⟨rfl, hf.out.bl⟩
  · have i0 : ¬ (at_ : Int) % 16 = 0 := by omega
    clear H h0 h1
    go_enter Try.func29, Try.ntmps29
    go_wp2_with fail
    refine (hO.out _).mono ?_
    rintro e w2 ⟨rfl, hb⟩
    have K1 := Lib.hid ((K0.out.below hb).alloc (.cells #[.pointer (some ⟨mb, 0, none⟩), .slice (some ⟨bb, 0, none⟩) n c] 81))
    clear hb
    go_upto_region 2 with (fail)
    generalize (w2.alloc (.cells #[.pointer (some ⟨mb, 0, none⟩), .slice (some ⟨bb, 0, none⟩) n c] 81)) = w4 at *
    obtain ⟨r0, r1, r2, r3, r4, r5, r6, r7, fr⟩ := K1.out.cells8 (g := w.heap.size) (cu := 0) (e := 0) (b := 0) (t := 0) (pm := 0) (ty := 0) (rs := 0) (va := false) (by simp)
    go_wp2_with fail
    have hf := Lib.hid (hfin.out _ K1.out)
    change bodyPost _ _ _ _ _ (setRow w.heap.size 0 (cv 0 0 0 0 0 0 0 false) w4)
    clear r0 r1 r2 r3 r4 r5 r6 r7 fr
    generalize setRow w.heap.size 0 (cv 0 0 0 0 0 0 0 false) w4 = w5 at *
    obtain ⟨z0, z1, z2, z3, z4, z5, z6, z7⟩ := hf.out.cap (g := w.heap.size) (List.mem_cons_self ..)
    exact bodyPost_ret (v := .tuple #[cap0, .bool false]) (by simp [results, Try.results29, go_sem, z0, z1, z2, z3, z4, z5, z6, z7, cap0]) rfl ⟨rfl, hf.out.bl⟩
set_option maxRecDepth 100000 in
set_option maxHeartbeats 4000000 in
theorem alcap_yes (H : ArAt w a mb wb bb c n g f l) (at_ : Nat) (la : at_ < 4294967296) (h0 : grn n at_ = true) :
    Calls Try.prog 29 #[.pointer (some ⟨a, 0, none⟩), .int .u32 at_] w fun e w' => e = .returned (.tuple #[capV ((l.drop at_).take 16) (f (at_ / 16)), .bool true]) ∧ Below w.heap.size w w' := by
  have hO := Lib.hid (fun o => aown (H.alloc o))
  have h1 : at_ % 16 = 0 ∧ at_ + 16 ≤ n := by
    simp only [grn, Bool.and_eq_true, decide_eq_true_eq] at h0
    exact ⟨h0.1, (thr_iff (k := 16)).1 h0.2⟩
  have hT := Lib.hid (fun w => there_any ⟨mb, 0, none⟩ (some ⟨bb, 0, none⟩) n c at_ 16 w H.ln la (by omega))
  rw [show thr n at_ 16 = true from (thr_iff (k := 16)).2 h1.2] at hT
  have K0 := Lib.hid ((KR.start (W := w)).push (cv 0 0 0 0 0 0 0 false) 25)
  have i0 : (at_ : Int) % 16 = 0 := by omega
  have hlen : ((l.drop at_).take 16).length = 16 := by have := H.len; simp; omega
  have hCut : ∀ (w' : World) (H' : ArAt w' a mb wb bb c n g f l), Calls Try.prog 64 #[.agg #[.pointer (some ⟨mb, 0, none⟩), .slice (some ⟨bb, 0, none⟩) n c], .int .u32 at_, .int .i64 16] w' fun e w'' => e = .returned (.string ⟨((l.drop at_).take 16).toArray⟩) ∧ Below w'.heap.size w' w'' := fun (w' : World) (H' : ArAt w' a mb wb bb c n g f l) => cut_pos (.pointer (some ⟨mb, 0, none⟩)) bb c n at_ 16 l w' H.len H.caps.1 h1.2 H.ln (by omega) (fun j u hu => H'.cell hu) H'.lb
  have hGet : ∀ (w' : World) (H' : ArAt w' a mb wb bb c n g f l), Calls Try.prog 62 #[.pointer (some ⟨mb, 0, none⟩), .int .i64 ((at_ : Int) / 16)] w' fun e w'' => e = .returned (.bool (f (at_ / 16))) ∧ ∃ k, w'.drewN k = w'' := fun w' H' => by
    have := get_yes mb wb g f (at_ / 16) w' H'.m (by have := H.hn; omega)
    rw [show ((at_ / 16 : Nat) : Int) = (at_ : Int) / 16 from by omega] at this
    exact this
  have hOf := fun v w' => pOf_yes ((l.drop at_).take 16) v hlen w'
  have hV : ∀ v, capV ((l.drop at_).take 16) v = capV ((l.drop at_).take 16) v := fun _ => rfl
  conv at hV => intro v; rhs; unfold capV
  generalize hs : (l.drop at_).take 16 = s at *
  generalize hz : sndP (nm s 4 1) (nm s 5 2) (nm s 7 2) (nm s 9 2) (nm s 11 2) (nm s 13 3) = z at *
  generalize f (at_ / 16) = fv at *
  have hV' := Lib.hid (hV fv)
  have hH := Lib.hid H
  clear hs hz hV
  generalize nm s 0 4 = m0 at *
  generalize nm s 4 1 = m1 at *
  generalize nm s 5 2 = m2 at *
  generalize nm s 7 2 = m3 at *
  generalize nm s 9 2 = m4 at *
  generalize nm s 11 2 = m5 at *
  generalize nm s 13 3 = m6 at *
  clear H h0 hO
  have hO := Lib.hid (fun o => aown (hH.out.alloc o))
  go_enter Try.func29, Try.ntmps29
  go_wp2_with fail
  refine (hO.out _).mono ?_
  rintro e w2 ⟨rfl, hb⟩
  have K1 := Lib.hid ((K0.out.below hb).push [.pointer (some ⟨mb, 0, none⟩), .slice (some ⟨bb, 0, none⟩) n c] 81)
  have A1 := Lib.hid (hH.out.below (K0.out.below hb).bl)
  clear hb
  go_wp2_with fail
  have A2 := Lib.hid (A1.out.alloc (.cells #[.pointer (some ⟨mb, 0, none⟩), .slice (some ⟨bb, 0, none⟩) n c] 81))
  generalize (w2.alloc (.cells #[.pointer (some ⟨mb, 0, none⟩), .slice (some ⟨bb, 0, none⟩) n c] 81)) = w3 at *
  refine (hT.out _).mono ?_
  rintro e w4 ⟨rfl, hb⟩
  obtain ⟨S, hS0⟩ : ∃ S, S = fun w' => KR w [⟨w2.heap.size, [.pointer (some ⟨mb, 0, none⟩), .slice (some ⟨bb, 0, none⟩) n c]⟩, ⟨w.heap.size, cv 0 0 0 0 0 0 0 false⟩] w' ∧ ArAt w' a mb wb bb c n g f l := ⟨_, rfl⟩
  have hK : ∀ w', S w' → KR w [⟨w2.heap.size, [.pointer (some ⟨mb, 0, none⟩), .slice (some ⟨bb, 0, none⟩) n c]⟩, ⟨w.heap.size, cv 0 0 0 0 0 0 0 false⟩] w' ∧ ArAt w' a mb wb bb c n g f l := fun w' h => by rw [hS0] at h; exact h
  have hS : ∀ w1 w', S w1 → Below w1.heap.size w1 w' → S w' := fun w1 w' h k => by
    rw [hS0] at h ⊢
    exact ⟨h.1.below k, h.2.below k⟩
  have K2 := Lib.hid (show S w4 by rw [hS0]; exact ⟨K1.out.below hb, A2.out.below hb⟩)
  clear hb hS0
  have cC := Lib.hid (fun y : Wd S => cls_call (S := S) (fun w' h => (hCut w' (hK w' h).2).mono fun _ _ k => ⟨k.1, hS _ _ h k.2⟩) y)
  have cG := Lib.hid (cls_bel hS (fun w => (granule_int at_ w (by omega) (by omega)).mono fun _ _ k => ⟨k.1, k.2 ▸ Below.refl _ _⟩))
  have cT := Lib.hid (fun y : Wd S => cls_call (S := S) (fun w' h => (hGet w' (hK w' h).2).mono fun _ _ k => ⟨k.1, hS _ _ h (by obtain ⟨q, hq⟩ := k.2; exact hq ▸ below_drewN (Below.refl _ _) q)⟩) y)
  have cF := Lib.hid (cls_bel hS (fun w => hOf fv w))
  have b0 : ∀ y : Wd S, y.w.cell? ⟨w2.heap.size, 0, none⟩ = some (.pointer (some ⟨mb, 0, none⟩)) := fun y => (hK _ y.h).1.cell (g := w2.heap.size) [.pointer (some ⟨mb, 0, none⟩), .slice (some ⟨bb, 0, none⟩) n c] (by simp) rfl
  have b1 : ∀ y : Wd S, y.w.cell? ⟨w2.heap.size, 1, none⟩ = some (.slice (some ⟨bb, 0, none⟩) n c) := fun y => (hK _ y.h).1.cell (g := w2.heap.size) [.pointer (some ⟨mb, 0, none⟩), .slice (some ⟨bb, 0, none⟩) n c] (by simp) rfl
  have hne : w2.heap.size ≠ w.heap.size := by
    intro e
    have h1 := A1.out.la
    have h2 := K1.out.lt (g := w2.heap.size) (vs := [.pointer (some ⟨mb, 0, none⟩), .slice (some ⟨bb, 0, none⟩) n c]) (by simp)
    have h3 := K1.out.cell (g := w2.heap.size) (j := 0) (u := .pointer (some ⟨mb, 0, none⟩)) [.pointer (some ⟨mb, 0, none⟩), .slice (some ⟨bb, 0, none⟩) n c] (by simp) rfl
    have h4 := K1.out.cell (g := w.heap.size) (j := 0) (u := .int .u32 0) (cv 0 0 0 0 0 0 0 false) (by simp) rfl
    rw [e] at h3
    rw [h3] at h4
    cases h4
  have hfin := Lib.hid (fun w' (h : KR w [⟨w2.heap.size, [.pointer (some ⟨mb, 0, none⟩), .slice (some ⟨bb, 0, none⟩) n c]⟩, ⟨w.heap.size, cv 0 0 0 0 0 0 0 false⟩] w') => (h.sub (L' := [⟨w.heap.size, cv 0 0 0 0 0 0 0 false⟩]) (fun x hx => List.mem_cons_of_mem _ hx)).whole [.int .u32 m0, .int .u8 m1, .int .u16 m2, .int .u16 m3, .int .u16 m4, .int .u16 m5, .int .u32 m6, .bool (fv && z)] (Nat.le_refl _) (fun x hx => by cases hx) rfl)
  have hund : undef = Value.tuple #[] := rfl
  clear hne hCut hGet hOf
  go_wp2_with fail
  refine region_cls_tail S 11 (by kernel_rfl) (by kernel_rfl) (hS _ _ K2.out (Below.refl _ _).drew) ?_
  simp only [List.take_succ_cons, List.take_zero, List.drop_succ_cons, List.drop_zero]
  repeat (first
    | go_big_quiet_skip
    | (go_big_quiet_want
       go_big_quiet_op
       first
       | go_big_quiet_on
       | (apply Exists.intro
          refine ⟨fun y => ?_, ?_⟩
          · first | exact rfl | with_reducible exact cC.out y | with_reducible exact cG.out y | with_reducible exact cT.out y | with_reducible exact cF.out y
          go_big_quiet_on)))
  refine wpQuiet_nil ?_
  intro y
  have hk := Lib.hid (hK _ y.h)
  generalize y.w = wy at *
  clear b0 b1
  obtain ⟨r0, r1, r2, r3, r4, r5, r6, r7, fr⟩ := hk.out.1.cells8 (g := w.heap.size) (cu := 0) (e := 0) (b := 0) (t := 0) (pm := 0) (ty := 0) (rs := 0) (va := false) (by simp)
  have hf := Lib.hid (hfin.out _ hk.out.1)
  go_wp2_with fail
  change bodyPost _ _ _ _ _ (setRow w.heap.size 0 [.int .u32 m0, .int .u8 m1, .int .u16 m2, .int .u16 m3, .int .u16 m4, .int .u16 m5, .int .u32 m6, .bool (fv && z)] wy)
  clear r0 r1 r2 r3 r4 r5 r6 r7 fr
  generalize setRow w.heap.size 0 [.int .u32 m0, .int .u8 m1, .int .u16 m2, .int .u16 m3, .int .u16 m4, .int .u16 m5, .int .u32 m6, .bool (fv && z)] wy = w5 at *
  obtain ⟨z0, z1, z2, z3, z4, z5, z6, z7⟩ := hf.out.cap (g := w.heap.size) (cu := m0) (e := m1) (b := m2) (t := m3) (pm := m4) (ty := m5) (rs := m6) (va := fv && z) (List.mem_cons_self ..)
  refine bodyPost_ret (v := .tuple #[.agg #[.int .u32 m0, .int .u8 m1, .int .u16 m2, .int .u16 m3, .int .u16 m4, .int .u16 m5, .int .u32 m6, .bool (fv && z)], .bool true]) (by simp [results, Try.results29, go_sem, z0, z1, z2, z3, z4, z5, z6, z7]) rfl ⟨?_, hf.out.bl⟩
  rw [hV'.out]
end
end Go.Proofs.Ytdidnipmbedbjaa
