/- The document's answers for layer slots: Whole. No statement is proved here. -/
import Derived.Test.YtkkjjdnlfdempaaDoorSlU
namespace Go.Proofs.YtkkjjdnlfdempaaDoor
set_option maxRecDepth 100000
open Go.RowKit Go.Shelf
set_option linter.unusedVariables false
theorem cnt_eq {h : Nat → Bool} : ∀ {n : Nat}, cnt h n = n → ∀ s, s < n → h s = true
  | 0, _, s, hs => by omega
  | n + 1, e, s, hs => by
    have e1 : cnt h n + (h n).toNat = n + 1 := e
    have h1 := cnt_le h n
    rcases hv : h n with _ | _
    · rw [hv] at e1; simp at e1; omega
    · rw [hv] at e1
      simp at e1
      by_cases hs2 : s = n
      · rw [hs2]; exact hv
      · exact cnt_eq e1 s (by omega)
theorem cnt_true {h : Nat → Bool} : ∀ {n : Nat}, (∀ s, s < n → h s = true) → cnt h n = n
  | 0, _ => rfl
  | n + 1, e => by
    have e1 : cnt h (n + 1) = cnt h n + (h n).toNat := rfl
    rw [e1, cnt_true (fun s hs => e s (by omega)), e n (by omega)]
    rfl
section
variable {W w w' : World} {b per : Nat} {g : Nat → Bool} {f : Nat → Nat → Bool} {v : Value} {l : List Pg}
theorem whole_cnt (hk : Ok per g f) {k : Nat} (hk1 : k < 1024) (hg : g k = true) : okW per g f (k : Int) = decide (cnt (f k) per = per) := by
  unfold okW isW inP
  rw [Int.toNat_natCast, hg, decide_eq_true (Int.natCast_nonneg k), decide_eq_true (show (k : Int) < 1024 by omega)]
  simp only [Bool.true_and]
  refine decide_eq_decide.2 ⟨fun e => ?_, fun e => ?_⟩
  · exact cnt_true fun s hs => by rw [w16_eq e s (by have := hk.2.1; omega)]; simp [full, hs]
  · refine w16_congr fun s _ => ?_
    by_cases hs : s < per
    · rw [cnt_eq e s hs]; simp [full, hs]
    · rcases hv : f k s with _ | _
      · simp [full, hs]
      · exact absurd (hk.1 k s hv).2 hs
set_option maxHeartbeats 4000000 in
theorem rWhole (H : RefAt w b v per g f l) (hk : Ok per g f) (p : Int) : Calls Tryd.prog 22 #[.agg #[.int .i64 per, v], .int .i64 p] w fun e w' => e = .returned (.bool (okW per g f p)) ∧ Below w.heap.size w w' := by
  obtain ⟨A, cap, hv, hcap, hmx, hA1, hA2⟩ := H.form
  have hll : l.length ≤ 1024 := by rw [H.len]; exact cnt_le g 1024
  have hl2 : (l.length : Int) ≤ 1024 := by omega
  have hp16 := hk.2.1
  obtain ⟨w1, hw1⟩ : ∃ w1, w1 = w.alloc (.cells #[.int .i64 per, .slice A l.length cap] 27) := ⟨_, rfl⟩
  have hb1 : Below w.heap.size w w1 := by rw [hw1]; exact (Below.refl _ _).alloc (Nat.le_refl _) _
  have c0 : w1.cell? ⟨w.heap.size, 0, none⟩ = some (.int .i64 (per : Int)) := by rw [hw1]; simp
  have c1 : w1.cell? ⟨w.heap.size, 1, none⟩ = some (.slice A l.length cap) := by rw [hw1]; simp
  have hsz : w.heap.size < w1.heap.size := by rw [hw1]; simp
  have hF0 := rfind (H.grow hb1) p
  rw [hv] at hF0
  have hFd := Lib.hid hF0
  obtain ⟨S, hS0⟩ : ∃ S, S = fun w2 => RefAt w2 b v per g f l ∧ w2.cell? ⟨w.heap.size, 0, none⟩ = some (.int .i64 (per : Int)) ∧ w2.cell? ⟨w.heap.size, 1, none⟩ = some (.slice A l.length cap) ∧ w.heap.size < w2.heap.size ∧ Below w.heap.size w w2 := ⟨_, rfl⟩
  have hS : ∀ w w', S w → Below w.heap.size w w' → S w' := fun w3 w4 h k => by
    rw [hS0] at h ⊢
    obtain ⟨h1, h2, h3, h4, h5⟩ := h
    exact ⟨h1.grow k, (k.cell (p := ⟨w.heap.size, 0, none⟩) h4).trans h2, (k.cell (p := ⟨w.heap.size, 1, none⟩) h4).trans h3, Nat.lt_of_lt_of_le h4 k.size, h5.trans (k.mono h5.size)⟩
  have hK : ∀ w1, S w1 → RefAt w1 b v per g f l ∧ w1.cell? ⟨w.heap.size, 0, none⟩ = some (.int .i64 (per : Int)) ∧ w1.cell? ⟨w.heap.size, 1, none⟩ = some (.slice A l.length cap) ∧ w.heap.size < w1.heap.size ∧ Below w.heap.size w w1 := fun w h => by rw [hS0] at h; exact h
  have K1 := Lib.hid (show S w1 from by rw [hS0]; exact ⟨H.grow hb1, c0, c1, hsz, hb1⟩)
  have HS := Lib.hid hS
  have HK := Lib.hid hK
  have hv' := Lib.hid hv
  rw [hv]
  have hk' := Lib.hid hk
  clear H hv hA1 hA2 hmx hF0 hb1 hS hK hS0
  go_enter Tryd.func22, Tryd.ntmps22
  go_upto_region 1 with (fail)
  rw [← hw1]
  replace hw1 := Lib.hid hw1
  go_wp2_with fail
  refine hFd.out.mono ?_
  rintro e w2 ⟨rfl, hb2⟩
  have K2 := Lib.hid (HS.out _ _ K1.out hb2)
  clear hFd hb2 c0 c1
  rcases hI : isP g p with _ | _
  · have ho : okW per g f p = false := by
      unfold okW isW
      unfold isP at hI
      rcases h1 : inP p with _ | _
      · rfl
      · rw [h1] at hI
        rw [show g p.toNat = false from by simpa using hI]
        rfl
    replace hI := Lib.hid hI
    replace ho := Lib.hid ho
    go_wp2_with fail
    refine region_cls S (by kernel_rfl) (by kernel_rfl) (HS.out _ _ K2.out (Below.refl _ _).drew) ?_
    repeat (first
      | go_big_quiet_skip
      | (go_big_quiet_want
         go_big_quiet_op
         first
         | go_big_quiet_on
         | (apply Exists.intro
            refine ⟨fun y => ?_, ?_⟩
            · exact rfl
            go_big_quiet_on)))
    refine wpQuiet_nil ?_
    intro y
    have hy := Lib.hid (HK.out _ y.h).2.2.2.2
    go_wp2
    go_ret
    refine ⟨?_, hy.out⟩
    rw [ho.out]
    rfl
  · obtain ⟨k, rfl, hk1, hk2⟩ := isP_at hI
    obtain ⟨x, hx, hxp⟩ := find_page (HK.out _ K2.out).1 hk1 hk2
    have hwc := Lib.hid (whole_cnt hk'.out hk1 hk2)
    have hrl : rk g (k : Int) < l.length := (List.getElem?_eq_some_iff.1 hx).1
    obtain ⟨R, hR⟩ : ∃ R, R = rk g (k : Int) := ⟨_, rfl⟩
    rw [← hR] at hrl hx ⊢
    have hrl2 : (R : Int) < (l.length : Int) := by omega
    clear hR
    obtain ⟨q, rfl⟩ : ∃ q, A = some ⟨q, 0, none⟩ := by
      obtain ⟨q, cap', e1, _⟩ := (HK.out _ K2.out).1.at hx
      rw [hv'.out] at e1
      exact ⟨q, by simpa using (Value.slice.inj e1).1⟩
    have a0 : ∀ y : Wd S, y.w.cell? ⟨w.heap.size, 0, none⟩ = some (.int .i64 (per : Int)) := fun y => (HK.out _ y.h).2.1
    have a1 : ∀ y : Wd S, y.w.cell? ⟨w.heap.size, 1, none⟩ = some (.slice (some ⟨q, 0, none⟩) l.length cap) := fun y => (HK.out _ y.h).2.2.1
    have a2 : ∀ y : Wd S, y.w.cell? ⟨q, R * 2, none⟩ = some (.int .i64 (x.p : Int)) ∧ y.w.cell? ⟨q, R * 2 + 1, none⟩ = some (.slice (some ⟨x.h, 0, none⟩) per x.c) := fun y => by
      obtain ⟨q', cap', e1, _, cq, cq2⟩ := (HK.out _ y.h).1.at hx
      rw [hv'.out] at e1
      obtain rfl : q = q' := by simpa using (Value.slice.inj e1).1
      exact ⟨cq, cq2⟩
    have a3 : ∀ y : Wd S, y.w.cell? ⟨q, R * 2, none⟩ = some (.int .i64 (x.p : Int)) := fun y => (a2 y).1
    have a4 : ∀ y : Wd S, y.w.cell? ⟨q, R * 2 + 1, none⟩ = some (.slice (some ⟨x.h, 0, none⟩) per x.c) := fun y => (a2 y).2
    have cF := Lib.hid (cls_call (S := S) (fun w3 hw => by
      have hr := (HK.out _ hw).1.rows x (List.mem_of_getElem? hx)
      exact (rfreeP x.p x.h per x.c (f x.p) hp16 (fun s hs => hr.1.cs s hs) (fun _ => hr.1.lt) hr.2.1).mono fun e w' h => (show e = .returned (.int .i64 (cnt (f x.p) per : Nat)) ∧ S w' from ⟨h.1, HS.out _ _ hw h.2⟩)))
    rw [hxp] at cF
    simp only [hxp] at a3
    obtain ⟨T, hT⟩ : ∃ T, T = cnt (f k) per := ⟨_, rfl⟩
    rw [← hT] at cF
    have hT' := Lib.hid hT
    clear a2 hT hx
    replace hI := Lib.hid hI
    replace hxp := Lib.hid hxp
    go_wp2_with fail
    refine region_cls S (by kernel_rfl) (by kernel_rfl) (HS.out _ _ K2.out (Below.refl _ _).drew) ?_
    repeat (first
      | go_big_quiet_skip
      | (go_big_quiet_want
         go_big_quiet_op
         first
         | go_big_quiet_on
         | (apply Exists.intro
            refine ⟨fun y => ?_, ?_⟩
            · first | exact rfl | with_reducible exact cF.out y
            go_big_quiet_on)))
    refine wpQuiet_nil ?_
    intro y
    have hy := Lib.hid (HK.out _ y.h).2.2.2.2
    go_wp2
    go_ret
    refine ⟨?_, hy.out⟩
    rw [hwc.out, ← hT'.out]
    show Ending.returned (.bool ((T : Int) == (per : Int))) = _
    congr 2
    rw [Bool.eq_iff_iff]
    simp
    omega
end
end Go.Proofs.YtkkjjdnlfdempaaDoor
