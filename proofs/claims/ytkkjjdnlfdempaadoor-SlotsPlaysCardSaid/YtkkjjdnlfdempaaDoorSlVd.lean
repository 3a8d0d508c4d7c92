/- The document's answers for layer slots: Add whole; Drop. No statement is proved here. -/
import Derived.Test.YtkkjjdnlfdempaaDoorSlVc
namespace Go.Proofs.YtkkjjdnlfdempaaDoor
set_option maxRecDepth 100000
open Go.RowKit Go.Shelf
set_option linter.unusedVariables false
section
variable {W w w' : World} {b per : Nat} {g : Nat → Bool} {f : Nat → Nat → Bool} {v : Value} {l : List Pg}
theorem rAdd_yes (H : RefAt w b v per g f l) (hb : b < w.heap.size) (hk : Ok per g f) {k : Nat} (hk1 : k < 1024) (hg : g k = false) :
    Calls Tryd.prog 11 #[.agg #[.int .i64 per, v], .int .i64 k] w (RefPost w b per v l (upd g k true) (updP f k (full per)) (two true)) := by
  rcases H.own.2 with ⟨e1, e2⟩ | ⟨q, cap, cur, e, _, _, hle, hm, _⟩
  · exact rAdd_nil H hb hk hk1 hg e1 (List.eq_nil_of_length_eq_zero e2)
  · exact rAdd_some H hb hk hk1 hg e hle hm
theorem own_shape {B : Nat} {e : TypeId} {size n : Nat} {xs : List Value} (h : w.ownsRow B e size v n xs) : ∃ A c, v = .slice A n c := by
  rcases h.2 with ⟨e1, e0⟩ | ⟨q, cap, cur, hv, _⟩
  · exact ⟨none, 0, by rw [e0]; exact e1⟩
  · exact ⟨_, cap, hv⟩
set_option maxHeartbeats 4000000 in
theorem rDrop_yes (H : RefAt w b v per g f l) (hb : b < w.heap.size) (hk : Ok per g f) {k : Nat} (hk1 : k < 1024) (hg : g k = true) (ho : okW per g f (k : Int) = true) :
    Calls Tryd.prog 17 #[.agg #[.int .i64 per, v], .int .i64 k] w (RefPost w b per v l (upd g k false) (updP f k (fun _ => false)) (two true)) := by
  obtain ⟨x, hx, hxp⟩ := find_page H hk1 hg
  obtain ⟨q, cap, hv, hcap, _, _⟩ := H.at hx
  have hmx : cap ≤ maxLen := by
    obtain ⟨A, c, e, _, h2, _⟩ := H.form
    rw [hv] at e
    rw [(Value.slice.inj e).2.2]
    exact h2
  subst hv
  obtain ⟨j0, hj, hy0, hy1, hy2⟩ := info_parts infoPage
  have hll : l.length ≤ 1024 := by rw [H.len]; exact cnt_le g 1024
  have hl2 : (l.length : Int) ≤ 1024 := by omega
  have hp16 := hk.2.1
  have hS := BB.start w per (.slice (some ⟨q, 0, none⟩) l.length cap)
  obtain ⟨D, hD⟩ : ∃ D, D = RefPost w b per (.slice (some ⟨q, 0, none⟩) l.length cap) l (upd g k false) (updP f k (fun _ => false)) (two true) := ⟨_, rfl⟩
  rw [← hD]
  obtain ⟨w1, hw1⟩ : ∃ w1, w1 = (w.alloc (.cells #[.int .i64 per, .slice (some ⟨q, 0, none⟩) l.length cap] 27)).alloc (.cells #[.int .i64 0, .slice none 0 0] 27) := ⟨_, rfl⟩
  rw [← hw1] at hS
  have hRl : rk g (k : Int) < l.length := (List.getElem?_eq_some_iff.1 hx).1
  obtain ⟨R, hR⟩ : ∃ R, R = rk g (k : Int) := ⟨_, rfl⟩
  have hRc : R = cnt g k := by rw [hR]; unfold rk; rw [clp_in hk1]
  rw [← hR] at hRl
  have hRl2 : (R : Int) < (l.length : Int) := by omega
  have hRl3 : (R : Int) < (cap : Int) := by omega
  have hWh := Lib.hid ((rWhole (H.grow hS.bl) hk (k : Int)).mono fun e w' h => (show e = .returned (.bool true) ∧ BB w per 0 (.slice (some ⟨q, 0, none⟩) l.length cap) w.heap.size w' from
    ⟨by rw [h.1, ho], hS.grow h.2⟩))
  have hFd := Lib.hid (show ∀ w2, BB w per 0 (.slice (some ⟨q, 0, none⟩) l.length cap) w.heap.size w2 → Calls Tryd.prog 29 #[.agg #[.int .i64 per, .slice (some ⟨q, 0, none⟩) l.length cap], .int .i64 k] w2 (fun e w' => e = .returned (.tuple #[.int .i64 R, .bool true]) ∧ BB w per 0 (.slice (some ⟨q, 0, none⟩) l.length cap) w.heap.size w') from
    fun w2 hS2 => (rfind (H.grow hS2.bl) (k : Int)).mono fun e w' h => ⟨by rw [h.1, ← hR]; rw [show isP g (k : Int) = true from by unfold isP inP; rw [Int.toNat_natCast, hg, decide_eq_true (Int.natCast_nonneg k), decide_eq_true (show (k : Int) < 1024 by omega)]; rfl], hS2.grow h.2⟩)
  have c0 := hS.b0
  have c1 := hS.b1
  have HH := Lib.hid H
  have hk' := Lib.hid hk
  replace hD := Lib.hid hD
  replace hRc := Lib.hid hRc
  have hg' := Lib.hid hg
  clear H hS hR hx ho hg
  go_enter Tryd.func17, Tryd.ntmps17
  go_upto_region 1 with (fail)
  rw [← hw1]
  replace hw1 := Lib.hid hw1
  go_wp2_with fail
  refine hWh.out.mono ?_
  rintro e w2 ⟨rfl, B2⟩
  have c0 := B2.b0
  have c1 := B2.b1
  have hF2 := Lib.hid (hFd.out _ B2)
  clear hWh hFd B2
  go_wp2_with fail
  refine hF2.out.mono ?_
  rintro e w2 ⟨rfl, B2⟩
  have c0 := B2.b0
  have c1 := B2.b1
  have B2 := Lib.hid B2
  have H2 := Lib.hid (HH.out.grow B2.out.bl)
  have hfr := H2.out.front R
  clear hF2
  go_upto_region 6 with (at_builtin; refine wpList_append_more rfl _ _ 25 rfl w2.heap.size 71 j0 (.agg #[.int .i64 0, .slice none 0 0]) 2 32 Tryd.underlying25 hj hy0 hy1 hy2 rfl (by decide) _ _ _ rfl (World.ownsRow_nil _ _ _ _) (some ⟨q, 0, none⟩) R cap (pcs per (l.take R)) rfl (take_len l (Nat.le_of_lt hRl)) (fun _ => ⟨_, rfl, hfr⟩) (pcs_one per _) (by unfold maxLen; omega) (by omega) (Nat.le_refl _) ?_; intro v1 w3 ho1 hg1; rw [Nat.zero_add, List.nil_append] at ho1)
  have B3 := Lib.hid (B2.out.grow hg1)
  have c0 := B3.out.b0
  have c1 := B3.out.b1
  have H3 := Lib.hid (H2.out.grow hg1)
  have o3 := Lib.hid ho1
  have b23 := Lib.hid hg1
  have hbk := H3.out.back (R + 1)
  clear hfr ho1 hg1
  obtain ⟨N, hN⟩ : ∃ N, N = R + (l.length - (R + 1)) := ⟨_, rfl⟩
  replace hN := Lib.hid hN
  have fin := Lib.hid (show ∀ v3 w6, w6.ownsRow w2.heap.size 71 2 v3 N (pcs per (l.take R ++ l.drop (R + 1))) → Below w2.heap.size w3 w6 → ∃ A3 c3, v3 = .slice A3 N c3 ∧ BB w per 0 (.slice (some ⟨q, 0, none⟩) l.length cap) w.heap.size w6 ∧
      D (.returned (.tuple #[.agg #[.int .i64 (per : Int), v3], .bool true])) (bk w.heap.size (.int .i64 (per : Int)) v3 w6) from fun v3 w6 ho hgB => by
    have hlt := fun r hr => (ho.lt (v := v3) r hr)
    obtain ⟨A3, c3, e3⟩ := own_shape ho
    have b26 := b23.out.trans hgB
    have B6 := B2.out.grow b26
    have H6 := H2.out.grow b26
    obtain ⟨_, p2, p3⟩ := B6.out (.int .i64 (per : Int)) v3
    refine ⟨_, _, e3, B6, ?_⟩
    rw [hD.out]
    have hlt1 := B2.out.lt.2
    have hlen : (l.take R ++ l.drop (R + 1)).length = N := by rw [hN.out, List.length_append, List.length_take, List.length_drop, Nat.min_eq_left (Nat.le_of_lt hRl)]
    have hsz := B2.out.bl.size
    have mem : ∀ (i : Nat) (y : Pg), (l.take R ++ l.drop (R + 1))[i]? = some y → ∃ j, j ≠ R ∧ l[j]? = some y := fun i y hy => by
      rcases Nat.lt_or_ge i R with h | h
      · rw [List.getElem?_append_left (by rw [List.length_take]; omega), List.getElem?_take_of_lt h] at hy
        exact ⟨i, by omega, hy⟩
      · rw [List.getElem?_append_right (by rw [List.length_take]; omega), List.getElem?_drop, List.length_take, Nat.min_eq_left (Nat.le_of_lt hRl)] at hy
        exact ⟨_, by omega, hy⟩
    refine ⟨_, l.take R ++ l.drop (R + 1), rfl, ⟨?_, ?_, ?_, ?_⟩, p2, fun c hc hl hv0 => ⟨fun r hr => ?_, fun y hy => ?_⟩⟩
    · rw [hlen]
      exact ownsRow_zero (ownsRow_heap ho fun r hr => p3.block _ (hlt r hr).2 (by have := (hlt r hr).1; omega))
    · rw [List.map_append, List.map_take, List.map_drop, HH.out.ps, setL_drop hg'.out 1024 hk1, ← hRc.out]
    · intro y hy
      obtain ⟨i, hi⟩ := List.mem_iff_getElem?.1 hy
      obtain ⟨j, hjR, hj⟩ := mem i y hi
      have hr := HH.out.rows y (List.mem_of_getElem? hj)
      have hpg := HH.out.page hj
      have hne : y.p ≠ k := fun e => by rw [e] at hpg; have := hRc.out; omega
      refine ⟨⟨fun t ht => ?_, Nat.lt_of_lt_of_le hr.1.lt p2.size, hr.1.ne⟩, hr.2⟩
      rw [updP_ne _ _ hne]
      exact (p2.cell (p := ⟨y.h, t, none⟩) hr.1.lt).trans (hr.1.cs t ht)
    · intro r hr
      exact ⟨by have := (hlt r hr).1; omega, Nat.lt_of_lt_of_le (hlt r hr).2 p3.size⟩
    · have := (hlt r hr).1
      omega
    · obtain ⟨i, hi⟩ := List.mem_iff_getElem?.1 hy
      obtain ⟨j, _, hj⟩ := mem i y hi
      exact hl y (List.mem_of_getElem? hj))
  have s1 : IntKind.i64.wrap ((R : Int) + 1) = ((R + 1 : Nat) : Int) := by rw [IntKind.wrap_i64]; omega
  rcases Nat.lt_or_ge (R + 1) cap with hlt | hge
  · have x1 : (((R + 1 : Nat) : Nat) : Int) < (cap : Int) := by omega
    have x2 : cap - (R + 1) ≠ 0 := by omega
    have x3 : ¬ cap = R + 1 := by omega
    have x4 : ¬ cap ≤ R + 1 := by omega
    have x5 : (cap - (R + 1) == 0) = false := by simp; omega
    have x6 : ((R + 1 : Nat) : Int) ≤ (l.length : Int) := by omega
    have x7 : ((R + 1 : Nat) : Int) ≤ (cap : Int) := by omega
    go_upto_region 7 with (at_builtin; refine wpList_append_more rfl _ _ 25 rfl w2.heap.size 71 j0 (.agg #[.int .i64 0, .slice none 0 0]) 2 32 Tryd.underlying25 hj hy0 hy1 hy2 rfl (by decide) _ _ _ rfl o3.out (some ⟨q, (R + 1) * 2, none⟩) (l.length - (R + 1)) (cap - (R + 1)) (pcs per (l.drop (R + 1))) rfl (drop_len l (R + 1)) (fun _ => ⟨_, rfl, hbk⟩) (pcs_one per _) (by unfold maxLen; omega) (by omega) b23.out.size ?_; intro v3 w6 ho6 hg6)
    obtain ⟨A3, c3, rfl, B6, hf⟩ := fin.out v3 w6 (by rw [hN.out, pcs_append]; exact ho6) hg6
    have c0 := B6.b0
    have r0 := B6.r0.1
    have r1 := B6.r1.1
    have s0 := B6.r0.2
    have s1 := B6.r1.2
    have l1 := Lib.hid ((B6.out (.int .i64 (per : Int)) (.slice A3 N c3)).1)
    have hf := Lib.hid hf
    clear ho6 hg6 B6 c1 hbk
    go_wp2
    exact bodyPost_ret (v := .tuple #[.agg #[.int .i64 (per : Int), .slice A3 N c3], .bool true]) (res_two Tryd.results17 rfl rfl l1.out) rfl hf.out
  · have hRn : R + 1 = l.length := by omega
    have hdr : l.drop (R + 1) = [] := List.drop_eq_nil_of_le (by omega)
    obtain rfl : cap = R + 1 := by omega
    have x6 : ((R + 1 : Nat) : Int) ≤ (l.length : Int) := by omega
    go_upto_region 7 with (at_builtin; refine wpList_append_more rfl _ _ 25 rfl w2.heap.size 71 j0 (.agg #[.int .i64 0, .slice none 0 0]) 2 32 Tryd.underlying25 hj hy0 hy1 hy2 rfl (by decide) _ _ _ rfl o3.out (some ⟨q, 0, none⟩) 0 0 [] rfl rfl (fun h => absurd h (by decide)) (by simp) (by unfold maxLen; omega) (by omega) b23.out.size ?_; intro v3 w6 ho6 hg6)
    obtain ⟨A3, c3, rfl, B6, hf⟩ := fin.out v3 w6 (by rw [show N = R + 0 by rw [hN.out]; omega, hdr, pcs_append]; exact ho6) hg6
    have c0 := B6.b0
    have r0 := B6.r0.1
    have r1 := B6.r1.1
    have s0 := B6.r0.2
    have s1 := B6.r1.2
    have l1 := Lib.hid ((B6.out (.int .i64 (per : Int)) (.slice A3 N c3)).1)
    have hf := Lib.hid hf
    clear ho6 hg6 B6 c1 hbk
    go_wp2
    exact bodyPost_ret (v := .tuple #[.agg #[.int .i64 (per : Int), .slice A3 N c3], .bool true]) (res_two Tryd.results17 rfl rfl l1.out) rfl hf.out
set_option maxHeartbeats 2000000 in
theorem rDrop_no (H : RefAt w b v per g f l) (hk : Ok per g f) (p : Int) (hp : okW per g f p = false) : Calls Tryd.prog 17 #[.agg #[.int .i64 per, v], .int .i64 p] w (RefPost w b per v l g f (two false)) := by
  obtain ⟨A, cap, hv, hcap, hmx, hA1, hA2⟩ := H.form
  have hll : l.length ≤ 1024 := by rw [H.len]; exact cnt_le g 1024
  have hl2 : (l.length : Int) ≤ 1024 := by omega
  have hS := BB.start w per v
  obtain ⟨D, hD⟩ : ∃ D, D = RefPost w b per v l g f (two false) := ⟨_, rfl⟩
  rw [← hD]
  rw [hv] at hS ⊢
  obtain ⟨w1, hw1⟩ : ∃ w1, w1 = (w.alloc (.cells #[.int .i64 per, .slice A l.length cap] 27)).alloc (.cells #[.int .i64 0, .slice none 0 0] 27) := ⟨_, rfl⟩
  rw [← hw1] at hS
  have hF0 := rWhole (H.grow hS.bl) hk p
  rw [hv, hp] at hF0
  have hFd := Lib.hid (hF0.mono fun e w' h => (show e = .returned (.bool false) ∧ BB w per 0 (.slice A l.length cap) w.heap.size w' from ⟨h.1, hS.grow h.2⟩))
  have c0 := hS.b0
  have c1 := hS.b1
  have HH := Lib.hid H
  have hv' := Lib.hid hv
  replace hD := Lib.hid hD
  clear H hv hA1 hA2 hmx hS hF0
  go_enter Tryd.func17, Tryd.ntmps17
  go_upto_region 1 with (fail)
  rw [← hw1]
  replace hw1 := Lib.hid hw1
  go_wp2_with fail
  refine hFd.out.mono ?_
  rintro e w2 ⟨rfl, B2⟩
  have c0 := B2.b0
  have c1 := B2.b1
  have r0 := B2.r0.1
  have r1 := B2.r1.1
  have s0 := B2.r0.2
  have s1 := B2.r1.2
  have B2 := Lib.hid B2
  clear hFd
  have hno := Lib.hid (show D (.returned (.tuple #[.agg #[.int .i64 (per : Int), .slice A l.length cap], .bool false])) (bk w.heap.size (.int .i64 (per : Int)) (.slice A l.length cap) w2) from by
    rw [hD.out]
    obtain ⟨_, o2, o3⟩ := B2.out.out (.int .i64 (per : Int)) (.slice A l.length cap)
    have hR := HH.out.old (q := w.heap.size + 1) (by omega) B2.out.bl o3
    rw [hv'.out] at hR
    exact ⟨_, l, rfl, hR, o2, fun c hc hl hv0 => ⟨fun r hr => hv0 r (by rw [hv'.out]; exact hr), hl⟩⟩)
  have hld := Lib.hid ((B2.out.out (.int .i64 (per : Int)) (.slice A l.length cap)).1)
  go_wp2
  exact bodyPost_ret (v := .tuple #[.agg #[.int .i64 (per : Int), .slice A l.length cap], .bool false]) (res_two Tryd.results17 rfl rfl hld.out) rfl hno.out
end
end Go.Proofs.YtkkjjdnlfdempaaDoor
