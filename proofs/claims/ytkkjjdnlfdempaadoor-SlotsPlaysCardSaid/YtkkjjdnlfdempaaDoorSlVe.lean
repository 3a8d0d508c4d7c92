/- The document's answers for layer slots: Take. No statement is proved here. -/
import Derived.Test.YtkkjjdnlfdempaaDoorSlVd
import Derived.Test.YtkkjjdnlfdempaaDoorSlG
namespace Go.Proofs.YtkkjjdnlfdempaaDoor
set_option maxRecDepth 100000
open Go.RowKit Go.Shelf
set_option linter.unusedVariables false
theorem res_four {P : Program} {fn : Func} {p u u2 u3 : Tmp} {ty : TypeId} (h : fn.results = #[.cell p ty, .tmp u, .tmp u2, .tmp u3]) {tmps : Array Value} {w : World} {g : Nat} {v x x2 x3 : Value} (hp : tmps.getD p undef = .pointer (some ⟨g, 0, none⟩))
    (hu : tmps.getD u undef = x) (hu2 : tmps.getD u2 undef = x2) (hu3 : tmps.getD u3 undef = x3) (hl : (loadVar ty ⟨g, 0, none⟩).run P w = .ok v w) : (results fn tmps).run P w = .ok (.tuple #[v, x, x2, x3]) w := by
  subst hu hu2 hu3
  have hp' : tmps[p]?.getD undef = .pointer (some ⟨g, 0, none⟩) := by simpa using hp
  simp [results, h, asAddr, hp', hl]
section
variable {W w w' : World} {b per : Nat} {g : Nat → Bool} {f : Nat → Nat → Bool} {v : Value} {l : List Pg}
/-- A book, a page, a slot and a truth. -/
def four (p s : Nat) (x : Bool) (v : Value) : Ending := .returned (.tuple #[v, .int .i64 (p : Int), .int .i64 (s : Int), .bool x])
def RTake (w : World) (b per : Nat) (v : Value) (l : List Pg) (g : Nat → Bool) (f : Nat → Nat → Bool) (e : Ending) (w' : World) : Prop :=
  ((∀ p s, f p s = false) ∧ RefPost w b per v l g f (four 0 0 false) e w') ∨ ∃ p s, Least f p s ∧ RefPost w b per v l g (upd2 f p s false) (four p s true) e w'
/-- Of the first k pages no slot is free. -/
def NoP (f : Nat → Nat → Bool) (l : List Pg) (k : Nat) : Prop := ∀ i x, i < k → l[i]? = some x → ∀ s, f x.p s = false
theorem NoP.all (H : RefAt w b v per g f l) (hk : Ok per g f) (hgl : ∀ p, g p = true → p < 1024) (h : NoP f l l.length) : ∀ p s, f p s = false := fun p s => by
  rcases hv : f p s with _ | _
  · rfl
  · have hg := (hk.1 p s hv).1
    have hp : p < 1024 := hgl p hg
    obtain ⟨x, hx, hxp⟩ := find_page H hp hg
    have := h _ x (List.getElem?_eq_some_iff.1 hx).1 hx s
    rw [hxp, hv] at this
    cases this
theorem NoP.least (H : RefAt w b v per g f l) (hk : Ok per g f) {k s : Nat} {x : Pg} (h : NoP f l k) (hx : l[k]? = some x) (hs : f x.p s = true) (hl : ∀ t, t < s → f x.p t = false) : Least f x.p s :=
  ⟨hs, fun q t hq => by
    rcases hv : f q t with _ | _
    · rfl
    · have hg := (hk.1 q t hv).1
      obtain ⟨h1, h2, h3⟩ := H.page hx
      obtain ⟨y, hy, hyp⟩ := find_page H (show q < 1024 by omega) hg
      have e : rk g (q : Int) = cnt g q := by unfold rk; rw [clp_in (by omega)]
      have hlt : cnt g q < k := by have := cnt_step hg hq; omega
      rw [e] at hy
      have := h _ y hlt hy t
      rw [hyp, hv] at this
      exact absurd this (by decide), hl⟩
theorem NoP.step {k : Nat} {x : Pg} (h : NoP f l k) (hx : l[k]? = some x) (hk : Ok per g f) (hl : ∀ t, t < per → f x.p t = false) : NoP f l (k + 1) := fun i y hi hy s => by
  by_cases e : i = k
  · subst e
    rw [hx] at hy
    obtain rfl := Option.some.inj hy
    rcases hv : f x.p s with _ | _
    · rfl
    · have := hl s (hk.1 _ _ hv).2
      rw [hv] at this
      cases this
  · exact h i y (by omega) hy s
set_option maxHeartbeats 4000000 in
theorem rTake (H : RefAt w b v per g f l) (hb : b < w.heap.size) (hk : Ok per g f) (hgl : ∀ p, g p = true → p < 1024) : Calls Tryd.prog 13 #[.agg #[.int .i64 per, v]] w (RTake w b per v l g f) := by
  obtain ⟨A, cap, hv, hcap, hmx, hA1, hA2⟩ := H.form
  have hll : l.length ≤ 1024 := by rw [H.len]; exact cnt_le g 1024
  have hl2 : (l.length : Int) ≤ 1024 := by omega
  have hp16 := hk.2.1
  have hS := BB.start w per v
  obtain ⟨D, hD⟩ : ∃ D, D = RTake w b per v l g f := ⟨_, rfl⟩
  rw [← hD]
  rw [hv] at hS ⊢
  obtain ⟨w1, hw1⟩ : ∃ w1, w1 = (w.alloc (.cells #[.int .i64 per, .slice A l.length cap] 27)).alloc (.cells #[.int .i64 0, .slice none 0 0] 27) := ⟨_, rfl⟩
  rw [← hw1] at hS
  have c0 := hS.b0
  have c1 := hS.b1
  have r0 := hS.r0.1
  have r1 := hS.r1.1
  have s0 := hS.r0.2
  have s1 := hS.r1.2
  have HH := Lib.hid H
  have B1 := Lib.hid hS
  have hv' := Lib.hid hv
  have hk' := Lib.hid hk
  have hgl' := Lib.hid hgl
  have hb' := Lib.hid hb
  replace hD := Lib.hid hD
  clear H hv hA1 hA2 hmx hS hgl hb
  go_enter Tryd.func13, Tryd.ntmps13
  go_upto_region 1 with (fail)
  rw [← hw1]
  replace hw1 := Lib.hid hw1
  go_wp2_with fail
  go_loop [6] (fun i => ∃ k : Nat, k ≤ l.length ∧ i = .int .i64 k ∧ NoP f l k) (fun i => l.length - (intOf i).toNat)
  case atStart => exact ⟨0, by omega, rfl, fun i x hi => by omega⟩
  case round =>
    obtain ⟨k, hkl, rfl, hN⟩ := hrel
    have hk3 : (k : Int) ≤ 1024 := by omega
    replace hN := Lib.hid hN
    by_cases hlt : k < l.length
    · have jl : (k : Int) < (l.length : Int) := by omega
      obtain ⟨x, hx⟩ : ∃ x, l[k]? = some x := ⟨_, List.getElem?_eq_getElem hlt⟩
      have H1 := HH.out.grow B1.out.bl
      obtain ⟨q, cap', e1, _, cq, cq2⟩ := H1.at hx
      obtain ⟨rfl, rfl⟩ : A = some ⟨q, 0, none⟩ ∧ cap = cap' := by rw [hv'.out] at e1; simpa using e1
      have hrow := Lib.hid (H1.rows x (List.mem_of_getElem? hx))
      have hx' := Lib.hid hx
      clear e1 H1 hx
      go_wp2_with fail
      go_loop [7] (fun i => ∃ j : Nat, j ≤ per ∧ i = .int .i64 j ∧ ∀ t, t < j → f x.p t = false) (fun i => per - (intOf i).toNat)
      case atStart => exact ⟨0, by omega, rfl, fun t ht => by omega⟩
      case round =>
        obtain ⟨j, hjp, rfl, hJ⟩ := hrel
        have hj3 : (j : Int) ≤ 16 := by omega
        replace hJ := Lib.hid hJ
        by_cases hjl : j < per
        · have jj : (j : Int) < (per : Int) := by omega
          have ct := hrow.out.1.cs j hjl
          cases hft : f x.p j
          · rw [hft] at ct
            replace hft := Lib.hid hft
            go_wp2_with fail
            go_round
            case rel => exact ⟨j + 1, by omega, by go_num, fun t ht => (by
              by_cases e : t = j
              · rw [e]; exact hft.out
              · exact hJ.out t (by omega))⟩
            case measure => simp [intOf]; omega
          · rw [hft] at ct
            have hL := Lib.hid (hN.out.least HH.out hk'.out hx'.out hft hJ.out)
            have B1d := B1.out.grow (Below.refl w1.heap.size w1).drew
            have hW := Lib.hid ((rwith (HH.out.grow B1d.bl) (by have := B1d.bl.size; have := hb'.out; omega) hk'.out hx'.out hjl false).mono fun e w' h => (show ∃ A2 n2 c2 l2, e = .returned (.agg #[.int .i64 (per : Int), .slice A2 n2 c2]) ∧ RefAt w' b (.slice A2 n2 c2) per g (upd2 f x.p j false) l2 ∧
                BB w per 0 (.slice (some ⟨q, 0, none⟩) l.length cap) w.heap.size w' ∧ (w'.cell? ⟨q, k * 2, none⟩ = some (.int .i64 (x.p : Int))) ∧
                ∀ c, c < w1.heap.size → (∀ x ∈ l, x.h ≠ c) → (∀ r, v.ownBlock = some r → r ≠ c) → (∀ r, (Value.slice A2 n2 c2).ownBlock = some r → r ≠ c) ∧ ∀ y ∈ l2, y.h ≠ c from by
              obtain ⟨v2, l2, e1, e2, e3, e4⟩ := h
              obtain ⟨A2, c2, e5, _⟩ := e2.form
              subst e5
              obtain ⟨q', cap', e6, _, cq', _⟩ := (HH.out.grow (B1d.grow e3).bl).at hx'.out
              rw [hv'.out] at e6
              obtain rfl : q = q' := by simpa using (Value.slice.inj e6).1
              exact ⟨A2, _, c2, l2, e1, e2, B1d.grow e3, cq', e4⟩))
            rw [hv'.out] at hW
            have hq1 : q < w.heap.size := (HH.out.ne q (by rw [hv'.out]; rfl)).2
            have n1 : ¬ q = w.heap.size + 1 := by omega
            have n2 : ¬ w.heap.size + 1 = q := by omega
            clear B1d hft
            go_wp2_with fail
            go_region_with (go_at_call 34; refine hW.out.mono ?_; rintro e w3 ⟨A2, n2, c2, l2, rfl, H3, B3, cq3, hfr⟩; have c0 := B3.b0; have c1 := B3.b1; have r0 := B3.r0.1; have r1 := B3.r1.1; have s0 := B3.r0.2; have s1 := B3.r1.2; have K3 := Lib.hid (And.intro H3 (And.intro B3 hfr)); clear H3 B3 hfr)
            all_goals (
              obtain ⟨H3, B3, hfr⟩ := K3.out
              obtain ⟨l1, o2, o3⟩ := B3.out (.int .i64 (per : Int)) (.slice A2 n2 c2)
              have hf := Lib.hid (show D (.returned (.tuple #[.agg #[.int .i64 (per : Int), .slice A2 n2 c2], .int .i64 (x.p : Int), .int .i64 (j : Int), .bool true])) (bk w.heap.size (.int .i64 (per : Int)) (.slice A2 n2 c2) w3) from by
                rw [hD.out]
                obtain ⟨g1, g2⟩ := hfr (w.heap.size + 1) B1.out.lt.2 (fun y hy => by have := (HH.out.rows y hy).1.lt; omega) (fun r hr => by have := (HH.out.ne r (by rw [hv'.out]; exact hr)).2; omega)
                refine .inr ⟨x.p, j, hL.out, .slice A2 n2 c2, l2, rfl, H3.far o3 g1 g2, o2, fun c hc hl hv0 => ?_⟩
                exact hfr c (by have := B1.out.bl.size; omega) hl (by rw [hv'.out] at hv0; exact hv0))
              replace l1 := Lib.hid l1
              clear H3 B3 hfr o2 o3
              go_wp2
              exact bodyPost_ret (v := .tuple #[.agg #[.int .i64 (per : Int), .slice A2 n2 c2], .int .i64 (x.p : Int), .int .i64 (j : Int), .bool true]) (res_four Tryd.results13 rfl rfl rfl rfl l1.out) rfl hf.out)
        · have hjp2 : j = per := by omega
          have jj : ¬ (j : Int) < (per : Int) := by omega
          have hN2 := Lib.hid (hN.out.step hx'.out hk'.out (hjp2 ▸ hJ.out))
          clear hjp2 hjl
          go_wp2_with fail
          go_round
          case rel => exact ⟨k + 1, by omega, by go_num, hN2.out⟩
          case measure => simp [intOf]; omega
    · have jl : ¬ (k : Int) < (l.length : Int) := by omega
      have hz := Lib.hid (NoP.all HH.out hk'.out hgl'.out ((show k = l.length by omega) ▸ hN.out))
      have hno := Lib.hid (show D (.returned (.tuple #[.agg #[.int .i64 (per : Int), .slice A l.length cap], .int .i64 0, .int .i64 0, .bool false])) (bk w.heap.size (.int .i64 (per : Int)) (.slice A l.length cap) w1) from by
        rw [hD.out]
        obtain ⟨_, o2, o3⟩ := B1.out.out (.int .i64 (per : Int)) (.slice A l.length cap)
        have hR := HH.out.old (q := w.heap.size + 1) (by omega) B1.out.bl o3
        rw [hv'.out] at hR
        exact .inl ⟨hz.out, _, l, rfl, hR, o2, fun c hc hl hv0 => ⟨fun r hr => hv0 r (by rw [hv'.out]; exact hr), hl⟩⟩)
      have hld := Lib.hid ((B1.out.out (.int .i64 (per : Int)) (.slice A l.length cap)).1)
      clear hlt
      go_wp2
      exact bodyPost_ret (v := .tuple #[.agg #[.int .i64 (per : Int), .slice A l.length cap], .int .i64 0, .int .i64 0, .bool false]) (res_four Tryd.results13 rfl rfl rfl rfl hld.out) rfl hno.out
end
end Go.Proofs.YtkkjjdnlfdempaaDoor
