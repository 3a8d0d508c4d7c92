/- The document's answers for layer slots: Add. No statement is proved here. -/
import Derived.Test.YtkkjjdnlfdempaaDoorSlVa
namespace Go.Proofs.YtkkjjdnlfdempaaDoor
set_option maxRecDepth 100000
open Go.RowKit Go.Shelf
set_option linter.unusedVariables false
theorem setL_congr {f g : Nat → Bool} {n : Nat} (h : ∀ j, j < n → f j = g j) : setL f n = setL g n := List.filter_congr fun x hx => h x (List.mem_range.1 hx)
theorem setL_add {g : Nat → Bool} {k : Nat} (hg : g k = false) : ∀ n, k < n → setL (upd g k true) n = (setL g n).take (cnt g k) ++ k :: (setL g n).drop (cnt g k)
  | 0, h => by omega
  | n + 1, h => by
    by_cases e : k = n
    · subst e
      have h1 : setL g (k + 1) = setL g k := setL_skip (by omega) (fun j h1 h2 => (show j = k by omega) ▸ hg)
      have h2 : cnt g k = (setL g k).length := (setL_length g k).symm
      rw [setL_snoc (upd_same g k true), h1, h2, List.take_length, List.drop_length, setL_congr (fun j hj => upd_ne g true (show j ≠ k by omega))]
    · have ih := setL_add hg n (by omega)
      have hle : cnt g k ≤ (setL g n).length := by rw [setL_length]; exact cnt_mono g (by omega)
      rcases hv : g n with _ | _
      · rw [setL_skip (f := upd g k true) (a := n) (b := n + 1) (by omega) (fun j h1 h2 => by rw [show j = n by omega, upd_ne g true (fun e' => e e'.symm)]; exact hv),
          setL_skip (f := g) (a := n) (b := n + 1) (by omega) (fun j h1 h2 => (show j = n by omega) ▸ hv)]
        exact ih
      · rw [setL_snoc (f := upd g k true) (by rw [upd_ne g true (fun e' => e e'.symm)]; exact hv), setL_snoc hv, ih, List.take_append_of_le_length hle, List.drop_append_of_le_length hle]
        simp
theorem setL_drop {g : Nat → Bool} {k : Nat} (hg : g k = true) : ∀ n, k < n → setL (upd g k false) n = (setL g n).take (cnt g k) ++ (setL g n).drop (cnt g k + 1)
  | 0, h => by omega
  | n + 1, h => by
    by_cases e : k = n
    · subst e
      have h2 : cnt g k = (setL g k).length := (setL_length g k).symm
      rw [setL_skip (f := upd g k false) (a := k) (b := k + 1) (by omega) (fun j h1 h2 => by rw [show j = k by omega, upd_same]), setL_snoc hg, h2,
        setL_congr (fun j hj => upd_ne g false (show j ≠ k by omega))]
      simp
    · have ih := setL_drop hg n (by omega)
      have hle : cnt g k + 1 ≤ (setL g n).length := by rw [setL_length]; exact cnt_step hg (by omega)
      rcases hv : g n with _ | _
      · rw [setL_skip (f := upd g k false) (a := n) (b := n + 1) (by omega) (fun j h1 h2 => by rw [show j = n by omega, upd_ne g false (fun e' => e e'.symm)]; exact hv),
          setL_skip (f := g) (a := n) (b := n + 1) (by omega) (fun j h1 h2 => (show j = n by omega) ▸ hv)]
        exact ih
      · rw [setL_snoc (f := upd g k false) (by rw [upd_ne g false (fun e' => e e'.symm)]; exact hv), setL_snoc hv, ih, List.take_append_of_le_length (by omega), List.drop_append_of_le_length hle]
        simp
section
variable {W w w' : World} {b per : Nat} {g : Nat → Bool} {f : Nat → Nat → Bool} {v : Value} {l : List Pg}
/-- The cells of a list's first pages, and of those behind. -/
theorem RefAt.src {q cap : Nat} (H : RefAt w b (.slice (some ⟨q, 0, none⟩) l.length cap) per g f l) : ∀ j u, (pcs per l)[j]? = some u → w.cell? ⟨q, j, none⟩ = some u := fun j u hu => by
  have hj := (List.getElem?_eq_some_iff.1 hu).1
  rw [pcs_length] at hj
  rw [World.ownsRow.cellAt H.own j hj, hu]
theorem RefAt.front {q cap : Nat} (H : RefAt w b (.slice (some ⟨q, 0, none⟩) l.length cap) per g f l) (k : Nat) : ∀ j u, (pcs per (l.take k))[j]? = some u → w.cell? ((⟨q, 0, none⟩ : Addr).add j) = some u := fun j u hu => by
  have e : (⟨q, 0, none⟩ : Addr).add j = ⟨q, j, none⟩ := by unfold Addr.add; split <;> simp_all
  rw [e]
  exact H.src j u (pcs_take per l k j u hu)
theorem RefAt.back {q cap : Nat} (H : RefAt w b (.slice (some ⟨q, 0, none⟩) l.length cap) per g f l) (k : Nat) : ∀ j u, (pcs per (l.drop k))[j]? = some u → w.cell? ((⟨q, k * 2, none⟩ : Addr).add j) = some u := fun j u hu => by
  have e : (⟨q, k * 2, none⟩ : Addr).add j = ⟨q, k * 2 + j, none⟩ := by unfold Addr.add; split <;> simp_all
  rw [e]
  rw [pcs_drop] at hu
  exact H.src _ u hu
/-- What is appended: numbers of cells. -/
theorem take_len (l : List Pg) {k : Nat} (hk : k ≤ l.length) : (pcs per (l.take k)).length = k * 2 := by rw [pcs_length, List.length_take, Nat.min_eq_left hk]
theorem drop_len (l : List Pg) (k : Nat) : (pcs per (l.drop k)).length = (l.length - k) * 2 := by rw [pcs_length, List.length_drop]
set_option maxHeartbeats 4000000 in
theorem rAdd_some (H : RefAt w b v per g f l) (hb : b < w.heap.size) (hk : Ok per g f) {k q cap : Nat} (hk1 : k < 1024) (hg : g k = false) (hv : v = .slice (some ⟨q, 0, none⟩) l.length cap) (hcap : l.length ≤ cap) (hmx : cap ≤ maxLen) :
    Calls Tryd.prog 11 #[.agg #[.int .i64 per, v], .int .i64 k] w (RefPost w b per v l (upd g k true) (updP f k (full per)) (two true)) := by
  subst hv
  obtain ⟨j0, hj, hy0, hy1, hy2⟩ := info_parts infoPage
  have hll : l.length ≤ 1024 := by rw [H.len]; exact cnt_le g 1024
  have hl2 : (l.length : Int) ≤ 1024 := by omega
  have hp16 := hk.2.1
  have hS := BB.start w per (.slice (some ⟨q, 0, none⟩) l.length cap)
  obtain ⟨D, hD⟩ : ∃ D, D = RefPost w b per (.slice (some ⟨q, 0, none⟩) l.length cap) l (upd g k true) (updP f k (full per)) (two true) := ⟨_, rfl⟩
  rw [← hD]
  obtain ⟨w1, hw1⟩ : ∃ w1, w1 = (w.alloc (.cells #[.int .i64 per, .slice (some ⟨q, 0, none⟩) l.length cap] 27)).alloc (.cells #[.int .i64 0, .slice none 0 0] 27) := ⟨_, rfl⟩
  rw [← hw1] at hS
  obtain ⟨R, hR⟩ : ∃ R, R = rk g (k : Int) := ⟨_, rfl⟩
  have hRc : R = cnt g k := by rw [hR]; unfold rk; rw [clp_in hk1]
  have hRl : R ≤ l.length := by rw [hRc, H.len]; exact cnt_mono g (by omega)
  have hRl2 : (R : Int) ≤ (l.length : Int) := by omega
  have hRl3 : (R : Int) ≤ (cap : Int) := by omega
  have hFd := Lib.hid ((rfind (H.grow hS.bl) (k : Int)).mono fun e w' h => (show e = .returned (.tuple #[.int .i64 R, .bool false]) ∧ BB w per 0 (.slice (some ⟨q, 0, none⟩) l.length cap) w.heap.size w' from
    ⟨by rw [h.1, ← hR]; rw [show isP g (k : Int) = false from by unfold isP; rw [Int.toNat_natCast, hg, Bool.and_false]], hS.grow h.2⟩))
  have c0 := hS.b0
  have c1 := hS.b1
  have HH := Lib.hid H
  have hk' := Lib.hid hk
  replace hD := Lib.hid hD
  have hk2 : decide ((k : Int) < 0) = false := decide_eq_false (by omega)
  have hk3 : decide (1024 ≤ (k : Int)) = false := decide_eq_false (by omega)
  have hk4 : decide (1024 ≤ k) = false := decide_eq_false (by omega)
  replace hRc := Lib.hid hRc
  clear H hS hR
  go_enter Tryd.func11, Tryd.ntmps11
  go_upto_region 1 with (fail)
  rw [← hw1]
  replace hw1 := Lib.hid hw1
  go_wp2_with fail
  refine hFd.out.mono ?_
  rintro e w2 ⟨rfl, B2⟩
  have c0 := B2.b0
  have c1 := B2.b1
  have B2 := Lib.hid B2
  have H2 := Lib.hid (HH.out.grow B2.out.bl)
  have hfr := H2.out.front R
  clear hFd
  go_upto_region 6 with (at_builtin; refine wpList_append_more rfl _ _ 25 rfl w2.heap.size 71 j0 (.agg #[.int .i64 0, .slice none 0 0]) 2 32 Tryd.underlying25 hj hy0 hy1 hy2 rfl (by decide) _ _ _ rfl (World.ownsRow_nil _ _ _ _) (some ⟨q, 0, none⟩) R cap (pcs per (l.take R)) rfl (take_len l hRl) (fun _ => ⟨_, rfl, hfr⟩) (pcs_one per _) (by unfold maxLen; omega) (by omega) (Nat.le_refl _) ?_; intro v1 w3 ho1 hg1; rw [Nat.zero_add, List.nil_append] at ho1)
  have B3 := Lib.hid (B2.out.grow hg1)
  have c0 := B3.out.b0
  have H3 := Lib.hid (H2.out.grow hg1)
  have o3 := Lib.hid ho1
  have b23 := Lib.hid hg1
  clear hfr ho1 hg1
  have hAl := Lib.hid (rall per ⟨hk'.out.2.2, hk'.out.2.1⟩ w3)
  go_wp2_with fail
  refine hAl.out.mono ?_
  rintro e w4 ⟨qn, cn, rfl, on, hg4⟩
  obtain ⟨_, _, en, n1, n2, n3, n4⟩ := own_form on (by have := hk'.out.2.2; omega)
  obtain ⟨rfl, rfl⟩ : qn = _ ∧ cn = _ := by simpa using en
  have B4 := Lib.hid (B3.out.grow hg4)
  have H4 := Lib.hid (H3.out.grow hg4)
  have o4 := Lib.hid (show w4.ownsRow w2.heap.size 71 2 v1 R (pcs per (l.take R)) from ownsRow_heap o3.out fun r hr => hg4.block r (o3.out.lt r hr).2)
  have b24 := Lib.hid (b23.out.trans (hg4.mono b23.out.size))
  have s34 : w2.heap.size ≤ w4.heap.size := b24.out.size
  have hNn := Lib.hid (And.intro on (And.intro n1 n2))
  have hnew : ∀ j u, [Value.int .i64 (k : Int), .slice (some ⟨qn, 0, none⟩) per cn][j]? = some u → (w4.alloc (.cells #[.int .i64 (k : Int), .slice (some ⟨qn, 0, none⟩) per cn] 71)).cell? ((⟨w4.heap.size, 0, none⟩ : Addr).add j) = some u := fun j u hu => by
    have e : (⟨w4.heap.size, 0, none⟩ : Addr).add j = ⟨w4.heap.size, j, none⟩ := by unfold Addr.add; split <;> simp_all
    rw [e, World.cell?_alloc_at (hn := rfl)]
    simpa using hu
  clear en on n1 n2 hg4 hAl
  go_upto_region 7 with (at_builtin; refine wpList_append_grow rfl _ _ 25 rfl w2.heap.size 71 j0 (.agg #[.int .i64 0, .slice none 0 0]) 2 32 Tryd.underlying25 hj hy0 hy1 hy2 rfl (by decide) _ _ _ rfl (o4.out.alloc _) (some ⟨w4.heap.size, 0, none⟩) 1 1 [.int .i64 (k : Int), .slice (some ⟨qn, 0, none⟩) per cn] rfl rfl (fun _ => ⟨_, rfl, hnew⟩) (by simp [Value.oneCell']) (by unfold maxLen; omega) (by omega) (by simp; omega) ?_; intro v2 w5 ho5 hg5 hG5)
  have b25 := Lib.hid ((b24.out.alloc b24.out.size (.cells #[.int .i64 (k : Int), .slice (some ⟨qn, 0, none⟩) per cn] 71)).trans hg5)
  have g5 : (w4.alloc (.cells #[.int .i64 (k : Int), .slice (some ⟨qn, 0, none⟩) per cn] 71)).grownBy w5 v1.ownBlock := hG5
  have n5 := Lib.hid ((hNn.out.1.alloc (.cells #[.int .i64 (k : Int), .slice (some ⟨qn, 0, none⟩) per cn] 71)).kept g5 (own_ne (hNn.out.1.alloc (.cells #[.int .i64 (k : Int), .slice (some ⟨qn, 0, none⟩) per cn] 71)) (o4.out.alloc (.cells #[.int .i64 (k : Int), .slice (some ⟨qn, 0, none⟩) per cn] 71)) (by decide)))
  have o5 := Lib.hid ho5
  have c1 := (B2.out.grow b25.out).b1
  have hbk := (H2.out.grow b25.out).back R
  have hR5 : (R : Int) ≤ (cap : Int) := by omega
  clear ho5 hg5 hG5 g5 hnew c0
  have fin := Lib.hid (show ∀ v3 w6, w6.ownsRow w2.heap.size 71 2 v3 (l.length + 1) (pcs per (l.take R ++ ⟨k, qn, cn⟩ :: l.drop R)) → Below w2.heap.size w5 w6 → w5.grownBy w6 v2.ownBlock → ∃ A3 c3, v3 = .slice A3 (l.length + 1) c3 ∧ BB w per 0 (.slice (some ⟨q, 0, none⟩) l.length cap) w.heap.size w6 ∧
      D (.returned (.tuple #[.agg #[.int .i64 (per : Int), v3], .bool true])) (bk w.heap.size (.int .i64 (per : Int)) v3 w6) from fun v3 w6 ho hgB hG => by
    obtain ⟨q3, c3, rfl, y1, y2, y3, y4⟩ := own_form ho (by omega)
    have b26 := b25.out.trans hgB
    have n6 := n5.out.kept hG (own_ne n5.out o5.out (by decide))
    have B6 := B2.out.grow b26
    have H6 := H2.out.grow b26
    obtain ⟨_, p2, p3⟩ := B6.out (.int .i64 (per : Int)) (.slice (some ⟨q3, 0, none⟩) (l.length + 1) c3)
    refine ⟨_, _, rfl, B6, ?_⟩
    rw [hD.out]
    have hlt1 := B2.out.lt.2
    have hlen : (l.take R ++ (⟨k, qn, cn⟩ : Pg) :: l.drop R).length = l.length + 1 := by rw [List.length_append, List.length_cons, List.length_take, List.length_drop, Nat.min_eq_left hRl]; omega
    have hqn : qn < w6.heap.size := by
      have := World.ownsRow.cellAt n6 0 (by have := hk'.out.2.2; omega)
      rw [List.getElem?_eq_getElem (by have := n6.1; have := hk'.out.2.2; omega)] at this
      exact lt_of_cell' this
    have hqn2 := hNn.out.2.1
    have mem : ∀ y, y ∈ l.take R ++ (⟨k, qn, cn⟩ : Pg) :: l.drop R → y = ⟨k, qn, cn⟩ ∨ y ∈ l := fun y hy => by
      rcases List.mem_append.1 hy with h | h
      · exact .inr (List.mem_of_mem_take h)
      · rcases List.mem_cons.1 h with h | h
        · exact .inl h
        · exact .inr (List.mem_of_mem_drop h)
    refine ⟨_, l.take R ++ ⟨k, qn, cn⟩ :: l.drop R, rfl, ⟨?_, ?_, ?_, ?_⟩, p2, fun c hc hl hv0 => ⟨fun r hr => ?_, fun y hy => ?_⟩⟩
    · rw [hlen]
      exact ownsRow_zero (ownsRow_heap ho fun r hr => by
        have : r = q3 := by simpa [Value.ownBlock] using hr.symm
        subst this
        exact p3.block _ y2 (by omega))
    · rw [List.map_append, List.map_cons, List.map_take, List.map_drop, HH.out.ps, setL_add hg 1024 hk1, ← hRc.out]
    · intro y hy
      rcases mem y hy with rfl | hyl
      · refine ⟨⟨fun t ht => ?_, Nat.lt_of_lt_of_le hqn p3.size, by show qn ≠ b; have := b23.out.size; have := B2.out.bl.size; omega⟩, n3, n4⟩
        rw [p3.cell (p := ⟨qn, t, none⟩) hqn (by show qn ≠ _; have := b23.out.size; omega), World.ownsRow.cellAt n6 t (by omega), updP_same]
        simp [ht, full]
      · have hr := HH.out.rows y hyl
        have hpg : g y.p = true := by
          obtain ⟨j, hj⟩ := List.mem_iff_getElem?.1 hyl
          exact (HH.out.page hj).1
        have hne : y.p ≠ k := fun e => by rw [e, hg] at hpg; cases hpg
        refine ⟨⟨fun t ht => ?_, Nat.lt_of_lt_of_le hr.1.lt p2.size, hr.1.ne⟩, hr.2⟩
        rw [updP_ne _ _ hne]
        exact (p2.cell (p := ⟨y.h, t, none⟩) hr.1.lt).trans (hr.1.cs t ht)
    · intro r hr
      have : r = q3 := by simpa [Value.ownBlock] using hr.symm
      subst this
      exact ⟨by have := B2.out.bl.size; omega, Nat.lt_of_lt_of_le y2 p3.size⟩
    · have : r = q3 := by simpa [Value.ownBlock] using hr.symm
      have := B2.out.bl.size
      omega
    · rcases mem y hy with rfl | hyl
      · show qn ≠ c
        have := b23.out.size
        have := B2.out.bl.size
        omega
      · exact hl y hyl)
  rcases Nat.lt_or_ge R cap with hlt | hge
  · have x1 : (R : Int) < (cap : Int) := by omega
    have x2 : cap - R ≠ 0 := by omega
    have x3 : ¬ cap = R := by omega
    have x4 : ¬ cap ≤ R := by omega
    have x5 : (cap - R == 0) = false := by simp; omega
    go_upto_region 8 with (at_builtin; refine wpList_append_grow rfl _ _ 25 rfl w2.heap.size 71 j0 (.agg #[.int .i64 0, .slice none 0 0]) 2 32 Tryd.underlying25 hj hy0 hy1 hy2 rfl (by decide) _ _ _ rfl o5.out (some ⟨q, R * 2, none⟩) (l.length - R) (cap - R) (pcs per (l.drop R)) rfl (drop_len l R) (fun _ => ⟨_, rfl, hbk⟩) (pcs_one per _) (by unfold maxLen; omega) (by omega) b25.out.size ?_; intro v3 w6 ho6 hg6 hG6)
    obtain ⟨A3, c3, rfl, B6, hf⟩ := fin.out v3 w6 (by rw [show l.length + 1 = R + 1 + (l.length - R) by omega, pcs_append]; rw [List.append_assoc] at ho6; exact ho6) hg6 hG6
    have c0 := B6.b0
    have r0 := B6.r0.1
    have r1 := B6.r1.1
    have s0 := B6.r0.2
    have s1 := B6.r1.2
    have l1 := Lib.hid ((B6.out (.int .i64 (per : Int)) (.slice A3 (l.length + 1) c3)).1)
    have hf := Lib.hid hf
    clear ho6 hg6 hG6 B6 c1 hbk
    go_wp2
    exact bodyPost_ret (v := .tuple #[.agg #[.int .i64 (per : Int), .slice A3 (l.length + 1) c3], .bool true]) (res_two Tryd.results11 rfl rfl l1.out) rfl hf.out
  · have hRn : R = l.length := by omega
    have hdr : l.drop R = [] := List.drop_eq_nil_of_le (by omega)
    obtain rfl : cap = R := by omega
    go_upto_region 8 with (at_builtin; refine wpList_append_grow rfl _ _ 25 rfl w2.heap.size 71 j0 (.agg #[.int .i64 0, .slice none 0 0]) 2 32 Tryd.underlying25 hj hy0 hy1 hy2 rfl (by decide) _ _ _ rfl o5.out (some ⟨q, 0, none⟩) (0) (0) ([]) rfl (rfl) (fun h => absurd h (by decide)) (by simp) (by unfold maxLen; omega) (by omega) b25.out.size ?_; intro v3 w6 ho6 hg6 hG6)
    obtain ⟨A3, c3, rfl, B6, hf⟩ := fin.out v3 w6 (by rw [show l.length + 1 = cap + 1 + 0 by omega, hdr, pcs_append]; rw [List.append_nil] at ho6; exact ho6) hg6 hG6
    have c0 := B6.b0
    have r0 := B6.r0.1
    have r1 := B6.r1.1
    have s0 := B6.r0.2
    have s1 := B6.r1.2
    have l1 := Lib.hid ((B6.out (.int .i64 (per : Int)) (.slice A3 (l.length + 1) c3)).1)
    have hf := Lib.hid hf
    clear ho6 hg6 hG6 B6 c1 hbk
    go_wp2
    exact bodyPost_ret (v := .tuple #[.agg #[.int .i64 (per : Int), .slice A3 (l.length + 1) c3], .bool true]) (res_two Tryd.results11 rfl rfl l1.out) rfl hf.out
end
end Go.Proofs.YtkkjjdnlfdempaaDoor
