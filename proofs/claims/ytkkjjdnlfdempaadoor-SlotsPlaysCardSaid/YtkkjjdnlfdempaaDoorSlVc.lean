/- The document's answers for layer slots: Add, onto no list; Add that adds nothing. No statement is proved here. -/
import Derived.Test.YtkkjjdnlfdempaaDoorSlVb
namespace Go.Proofs.YtkkjjdnlfdempaaDoor
set_option maxRecDepth 100000
open Go.RowKit Go.Shelf
set_option linter.unusedVariables false
section
variable {W w w' : World} {b per : Nat} {g : Nat → Bool} {f : Nat → Nat → Bool} {v : Value} {l : List Pg}
set_option maxHeartbeats 4000000 in
theorem rAdd_nil (H : RefAt w b v per g f l) (hb : b < w.heap.size) (hk : Ok per g f) {k : Nat} (hk1 : k < 1024) (hg : g k = false) (hv : v = .slice none 0 0) (hl0 : l = []) :
    Calls Tryd.prog 11 #[.agg #[.int .i64 per, v], .int .i64 k] w (RefPost w b per v l (upd g k true) (updP f k (full per)) (two true)) := by
  subst hv
  subst hl0
  obtain ⟨j0, hj, hy0, hy1, hy2⟩ := info_parts infoPage
  have hp16 := hk.2.1
  have hS := BB.start w per (.slice none 0 0)
  obtain ⟨D, hD⟩ : ∃ D, D = RefPost w b per (.slice none 0 0) [] (upd g k true) (updP f k (full per)) (two true) := ⟨_, rfl⟩
  rw [← hD]
  obtain ⟨w1, hw1⟩ : ∃ w1, w1 = (w.alloc (.cells #[.int .i64 per, .slice none 0 0] 27)).alloc (.cells #[.int .i64 0, .slice none 0 0] 27) := ⟨_, rfl⟩
  rw [← hw1] at hS
  obtain ⟨R, hR⟩ : ∃ R, R = rk g (k : Int) := ⟨_, rfl⟩
  have hRc : R = cnt g k := by rw [hR]; unfold rk; rw [clp_in hk1]
  have hR0 : R = 0 := by have h1 := H.len; have h2 := cnt_mono g (show k ≤ 1024 by omega); simp at h1; omega
  have hFd := Lib.hid ((rfind (H.grow hS.bl) (k : Int)).mono fun e w' h => (show e = .returned (.tuple #[.int .i64 R, .bool false]) ∧ BB w per 0 (.slice none 0 0) w.heap.size w' from
    ⟨by rw [h.1, ← hR]; rw [show isP g (k : Int) = false from by unfold isP; rw [Int.toNat_natCast, hg, Bool.and_false]], hS.grow h.2⟩))
  have c0 := hS.b0
  have c1 := hS.b1
  have HH := Lib.hid H
  have hk' := Lib.hid hk
  replace hD := Lib.hid hD
  have hk2 : decide ((k : Int) < 0) = false := decide_eq_false (by omega)
  have hk3 : decide (1024 ≤ (k : Int)) = false := decide_eq_false (by omega)
  have hk4 : decide (1024 ≤ k) = false := decide_eq_false (by omega)
  rw [hR0] at hFd hRc
  replace hRc := Lib.hid hRc
  clear H hS hR hR0
  go_enter Tryd.func11, Tryd.ntmps11
  go_upto_region 1 with (fail)
  rw [← hw1]
  replace hw1 := Lib.hid hw1
  go_wp2_with fail
  refine hFd.out.mono ?_
  rintro e w2 ⟨rfl, B2⟩
  have c0 := B2.b0
  have c1 := B2.b1
  have B2 := Lib.hid B2
  have H2 := Lib.hid (HH.out.grow B2.out.bl)
  clear hFd
  go_upto_region 6 with (at_builtin; refine wpList_append_more rfl _ _ 25 rfl w2.heap.size 71 j0 (.agg #[.int .i64 0, .slice none 0 0]) 2 32 Tryd.underlying25 hj hy0 hy1 hy2 rfl (by decide) _ _ _ rfl (World.ownsRow_nil _ _ _ _) none 0 0 [] rfl rfl (fun h => absurd h (by decide)) (by simp) (by unfold maxLen; omega) (by omega) (Nat.le_refl _) ?_; intro v1 w3 ho1 hg1; rw [Nat.zero_add, List.nil_append] at ho1)
  have B3 := Lib.hid (B2.out.grow hg1)
  have c0 := B3.out.b0
  have H3 := Lib.hid (H2.out.grow hg1)
  have o3 := Lib.hid ho1
  have b23 := Lib.hid hg1
  clear ho1 hg1
  have hAl := Lib.hid (rall per ⟨hk'.out.2.2, hk'.out.2.1⟩ w3)
  go_wp2_with fail
  refine hAl.out.mono ?_
  rintro e w4 ⟨qn, cn, rfl, on, hg4⟩
  obtain ⟨_, _, en, n1, n2, n3, n4⟩ := own_form on (by have := hk'.out.2.2; omega)
  obtain ⟨rfl, rfl⟩ : qn = _ ∧ cn = _ := by simpa using en
  have B4 := Lib.hid (B3.out.grow hg4)
  have H4 := Lib.hid (H3.out.grow hg4)
  have o4 := Lib.hid (show w4.ownsRow w2.heap.size 71 2 v1 0 [] from ownsRow_heap o3.out fun r hr => hg4.block r (o3.out.lt r hr).2)
  have b24 := Lib.hid (b23.out.trans (hg4.mono b23.out.size))
  have s34 : w2.heap.size ≤ w4.heap.size := b24.out.size
  have hNn := Lib.hid (And.intro on (And.intro n1 n2))
  have hnew : ∀ j u, [Value.int .i64 (k : Int), .slice (some ⟨qn, 0, none⟩) per cn][j]? = some u → (w4.alloc (.cells #[.int .i64 (k : Int), .slice (some ⟨qn, 0, none⟩) per cn] 71)).cell? ((⟨w4.heap.size, 0, none⟩ : Addr).add j) = some u := fun j u hu => by
    have e : (⟨w4.heap.size, 0, none⟩ : Addr).add j = ⟨w4.heap.size, j, none⟩ := by unfold Addr.add; split <;> simp_all
    rw [e, World.cell?_alloc_at (hn := rfl)]
    simpa using hu
  clear en on n1 n2 hg4 hAl
  go_upto_region 7 with (at_builtin; refine wpList_append_grow rfl _ _ 25 rfl w2.heap.size 71 j0 (.agg #[.int .i64 0, .slice none 0 0]) 2 32 Tryd.underlying25 hj hy0 hy1 hy2 rfl (by decide) _ _ _ rfl (o4.out.alloc _) (some ⟨w4.heap.size, 0, none⟩) 1 1 [.int .i64 (k : Int), .slice (some ⟨qn, 0, none⟩) per cn] rfl rfl (fun _ => ⟨_, rfl, hnew⟩) (by simp [Value.oneCell']) (by unfold maxLen; omega) (by omega) (by simp; omega) ?_; intro v2 w5 ho5 hg5 hG5)
  have b25 := Lib.hid ((b24.out.alloc b24.out.size (.cells #[.int .i64 (k : Int), .slice (some ⟨qn, 0, none⟩) per cn] 71)).trans hg5)
  have g5 : (w4.alloc (.cells #[.int .i64 (k : Int), .slice (some ⟨qn, 0, none⟩) per cn] 71)).grownBy w5 v1.ownBlock := hG5
  have n5 := Lib.hid ((hNn.out.1.alloc (.cells #[.int .i64 (k : Int), .slice (some ⟨qn, 0, none⟩) per cn] 71)).kept g5 (own_ne (hNn.out.1.alloc (.cells #[.int .i64 (k : Int), .slice (some ⟨qn, 0, none⟩) per cn] 71)) (o4.out.alloc (.cells #[.int .i64 (k : Int), .slice (some ⟨qn, 0, none⟩) per cn] 71)) (by decide)))
  have o5 := Lib.hid ho5
  have c1 := (B2.out.grow b25.out).b1
  clear ho5 hg5 hG5 g5 hnew c0
  have fin := Lib.hid (show ∀ v3 w6, w6.ownsRow w2.heap.size 71 2 v3 1 (pcs per [⟨k, qn, cn⟩]) → Below w2.heap.size w5 w6 → w5.grownBy w6 v2.ownBlock → ∃ A3 c3, v3 = .slice A3 1 c3 ∧ BB w per 0 (.slice none 0 0) w.heap.size w6 ∧
      D (.returned (.tuple #[.agg #[.int .i64 (per : Int), v3], .bool true])) (bk w.heap.size (.int .i64 (per : Int)) v3 w6) from fun v3 w6 ho hgB hG => by
    obtain ⟨q3, c3, rfl, y1, y2, y3, y4⟩ := own_form ho (by omega)
    have b26 := b25.out.trans hgB
    have n6 := n5.out.kept hG (own_ne n5.out o5.out (by decide))
    have B6 := B2.out.grow b26
    have H6 := H2.out.grow b26
    obtain ⟨_, p2, p3⟩ := B6.out (.int .i64 (per : Int)) (.slice (some ⟨q3, 0, none⟩) 1 c3)
    refine ⟨_, _, rfl, B6, ?_⟩
    rw [hD.out]
    have hlt1 := B2.out.lt.2
    have hqn : qn < w6.heap.size := by
      have := World.ownsRow.cellAt n6 0 (by have := hk'.out.2.2; omega)
      rw [List.getElem?_eq_getElem (by have := n6.1; have := hk'.out.2.2; omega)] at this
      exact lt_of_cell' this
    have hqn2 := hNn.out.2.1
    have mem : ∀ y, y ∈ [(⟨k, qn, cn⟩ : Pg)] → y = ⟨k, qn, cn⟩ := fun y hy => by simpa using hy
    refine ⟨_, [⟨k, qn, cn⟩], rfl, ⟨?_, ?_, ?_, ?_⟩, p2, fun c hc hl hv0 => ⟨fun r hr => ?_, fun y hy => ?_⟩⟩
    · exact ownsRow_zero (ownsRow_heap ho fun r hr => by
        have : r = q3 := by simpa [Value.ownBlock] using hr.symm
        subst this
        exact p3.block _ y2 (by omega))
    · have h0 := HH.out.ps
      simp only [List.map_nil] at h0
      rw [setL_add hg 1024 hk1, ← hRc.out, ← h0]
      rfl
    · intro y hy
      obtain rfl := mem y hy
      · refine ⟨⟨fun t ht => ?_, Nat.lt_of_lt_of_le hqn p3.size, by show qn ≠ b; have := b23.out.size; have := B2.out.bl.size; omega⟩, n3, n4⟩
        rw [p3.cell (p := ⟨qn, t, none⟩) hqn (by show qn ≠ _; have := b23.out.size; omega), World.ownsRow.cellAt n6 t (by omega), updP_same]
        simp [ht, full]
    · intro r hr
      have : r = q3 := by simpa [Value.ownBlock] using hr.symm
      subst this
      exact ⟨by have := B2.out.bl.size; omega, Nat.lt_of_lt_of_le y2 p3.size⟩
    · have : r = q3 := by simpa [Value.ownBlock] using hr.symm
      have := B2.out.bl.size
      omega
    · obtain rfl := mem y hy
      show qn ≠ c
      have := b23.out.size
      have := B2.out.bl.size
      omega)
  go_upto_region 8 with (at_builtin; refine wpList_append_grow rfl _ _ 25 rfl w2.heap.size 71 j0 (.agg #[.int .i64 0, .slice none 0 0]) 2 32 Tryd.underlying25 hj hy0 hy1 hy2 rfl (by decide) _ _ _ rfl o5.out none 0 0 [] rfl rfl (fun h => absurd h (by decide)) (by simp) (by unfold maxLen; omega) (by omega) b25.out.size ?_; intro v3 w6 ho6 hg6 hG6)
  · obtain ⟨A3, c3, rfl, B6, hf⟩ := fin.out v3 w6 (by rw [List.append_nil] at ho6; exact ho6) hg6 hG6
    have c0 := B6.b0
    have r0 := B6.r0.1
    have r1 := B6.r1.1
    have s0 := B6.r0.2
    have s1 := B6.r1.2
    have l1 := Lib.hid ((B6.out (.int .i64 (per : Int)) (.slice A3 1 c3)).1)
    have hf := Lib.hid hf
    clear ho6 hg6 hG6 B6 c1
    go_wp2
    exact bodyPost_ret (v := .tuple #[.agg #[.int .i64 (per : Int), .slice A3 1 c3], .bool true]) (res_two Tryd.results11 rfl rfl l1.out) rfl hf.out
set_option maxHeartbeats 2000000 in
theorem rAdd_no (H : RefAt w b v per g f l) (p : Int) (hp : mayAdd g p = false) : Calls Tryd.prog 11 #[.agg #[.int .i64 per, v], .int .i64 p] w (RefPost w b per v l g f (two false)) := by
  obtain ⟨A, cap, hv, hcap, hmx, hA1, hA2⟩ := H.form
  have hll : l.length ≤ 1024 := by rw [H.len]; exact cnt_le g 1024
  have hl2 : (l.length : Int) ≤ 1024 := by omega
  have hS := BB.start w per v
  obtain ⟨D, hD⟩ : ∃ D, D = RefPost w b per v l g f (two false) := ⟨_, rfl⟩
  rw [← hD]
  rw [hv] at hS ⊢
  obtain ⟨w1, hw1⟩ : ∃ w1, w1 = (w.alloc (.cells #[.int .i64 per, .slice A l.length cap] 27)).alloc (.cells #[.int .i64 0, .slice none 0 0] 27) := ⟨_, rfl⟩
  rw [← hw1] at hS
  have hF0 := rfind (H.grow hS.bl) p
  rw [hv] at hF0
  have hFd := Lib.hid (hF0.mono fun e w' h => (show e = .returned (.tuple #[.int .i64 (rk g p), .bool (isP g p)]) ∧ BB w per 0 (.slice A l.length cap) w.heap.size w' from ⟨h.1, hS.grow h.2⟩))
  have c0 := hS.b0
  have c1 := hS.b1
  have HH := Lib.hid H
  have hv' := Lib.hid hv
  replace hD := Lib.hid hD
  clear H hv hA1 hA2 hmx hS hF0
  go_enter Tryd.func11, Tryd.ntmps11
  go_upto_region 1 with (fail)
  rw [← hw1]
  replace hw1 := Lib.hid hw1
  go_wp2_with fail
  refine hFd.out.mono ?_
  rintro e w2 ⟨rfl, B2⟩
  have c0 := B2.b0
  have c1 := B2.b1
  have r0 := B2.r0.1
  have r1 := B2.r1.1
  have s0 := B2.r0.2
  have s1 := B2.r1.2
  have B2 := Lib.hid B2
  clear hFd
  have hno := Lib.hid (show D (.returned (.tuple #[.agg #[.int .i64 (per : Int), .slice A l.length cap], .bool false])) (bk w.heap.size (.int .i64 (per : Int)) (.slice A l.length cap) w2) from by
    rw [hD.out]
    obtain ⟨_, o2, o3⟩ := B2.out.out (.int .i64 (per : Int)) (.slice A l.length cap)
    have hR := HH.out.old (q := w.heap.size + 1) (by omega) B2.out.bl o3
    rw [hv'.out] at hR
    exact ⟨_, l, rfl, hR, o2, fun c hc hl hv0 => ⟨fun r hr => hv0 r (by rw [hv'.out]; exact hr), hl⟩⟩)
  have hld := Lib.hid ((B2.out.out (.int .i64 (per : Int)) (.slice A l.length cap)).1)
  rcases inP_cases p with ⟨e, h⟩ | ⟨k, rfl, hk, e⟩
  · rcases h with h | h
    · generalize isP g p = I
      go_wp2
      exact bodyPost_ret (v := .tuple #[.agg #[.int .i64 (per : Int), .slice A l.length cap], .bool false]) (res_two Tryd.results11 rfl rfl hld.out) rfl hno.out
    · have h2 : ¬ p < 0 := by omega
      generalize isP g p = I
      go_wp2
      exact bodyPost_ret (v := .tuple #[.agg #[.int .i64 (per : Int), .slice A l.length cap], .bool false]) (res_two Tryd.results11 rfl rfl hld.out) rfl hno.out
  · have hI : isP g (k : Int) = true := by
      unfold isP
      unfold mayAdd at hp
      unfold inP at e
      rw [e] at hp
      unfold inP
      rw [e]
      simpa using hp
    rw [hI]
    have h1 : decide ((k : Int) < 0) = false := decide_eq_false (by omega)
    have h2 : decide (1024 ≤ (k : Int)) = false := decide_eq_false (by omega)
    have h3 : decide (1024 ≤ k) = false := decide_eq_false (by omega)
    clear hI hp e
    go_wp2
    exact bodyPost_ret (v := .tuple #[.agg #[.int .i64 (per : Int), .slice A l.length cap], .bool false]) (res_two Tryd.results11 rfl rfl hld.out) rfl hno.out
end
end Go.Proofs.YtkkjjdnlfdempaaDoor
