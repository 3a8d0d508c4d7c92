/- The document's answers for layer slots: New, Put, Whole. No statement is proved here. -/
import Derived.Test.YtkkjjdnlfdempaaDoorSlT
namespace Go.Proofs.YtkkjjdnlfdempaaDoor
set_option maxRecDepth 100000
open Go.RowKit Go.Shelf
set_option linter.unusedVariables false
section
variable {W w w' : World} {b per : Nat} {g : Nat → Bool} {f : Nat → Nat → Bool} {v : Value} {l : List Pg}
/-- A book and a truth. -/
def two (x : Bool) (v : Value) : Ending := .returned (.tuple #[v, .bool x])
theorem RefAt.empty (w : World) (b per : Nat) : RefAt w b (.slice none 0 0) per gN fN [] :=
  ⟨World.ownsRow_nil _ _ _ _, by simp [setL, gN], fun x hx => (by cases hx), fun q hq => (by cases hq)⟩
theorem rNew_no (n : Int) (w : World) (h : n < 1 ∨ 16 < n) : Calls Tryd.prog 8 #[.int .i64 n] w fun e w' => e = two false (.agg #[.int .i64 0, .slice none 0 0]) ∧ Below w.heap.size w w' := by
  have hB : Below w.heap.size w (w.alloc (.cells #[.int .i64 0, .slice none 0 0] 27)) := (Below.refl _ _).alloc (Nat.le_refl _) _
  rcases h with h | h
  · go_enter Tryd.func8, Tryd.ntmps8
    go_wp2
    exact bodyPost_ret (v := .tuple #[.agg #[.int .i64 0, .slice none 0 0], .bool false]) (res_two Tryd.results8 rfl rfl (load_book (by simp) (by simp))) rfl ⟨rfl, hB⟩
  · have h' : ¬ n < 1 := by omega
    go_enter Tryd.func8, Tryd.ntmps8
    go_wp2
    exact bodyPost_ret (v := .tuple #[.agg #[.int .i64 0, .slice none 0 0], .bool false]) (res_two Tryd.results8 rfl rfl (load_book (by simp) (by simp))) rfl ⟨rfl, hB⟩
theorem rNew_yes (n : Nat) (b : Nat) (w : World) (h : 1 ≤ n ∧ n ≤ 16) : Calls Tryd.prog 8 #[.int .i64 n] w fun e w' => e = two true (.agg #[.int .i64 n, .slice none 0 0]) ∧ Below w.heap.size w w' := by
  have h1 : ¬ (n : Int) < 1 := by omega
  have h2 : ¬ 16 < (n : Int) := by omega
  have hB : Below w.heap.size w (w.alloc (.cells #[.int .i64 (n : Int), .slice none 0 0] 27)) := (Below.refl _ _).alloc (Nat.le_refl _) _
  go_enter Tryd.func8, Tryd.ntmps8
  go_wp2
  exact bodyPost_ret (v := .tuple #[.agg #[.int .i64 n, .slice none 0 0], .bool true]) (res_two Tryd.results8 rfl rfl (load_book (by simp) (by simp))) rfl ⟨rfl, hB⟩
/-- A page that is in the book stands where it should. -/
theorem find_page (H : RefAt w b v per g f l) {k : Nat} (hk : k < 1024) (hg : g k = true) : ∃ x, l[rk g (k : Int)]? = some x ∧ x.p = k := by
  have h1 := cnt_step hg hk
  have e : rk g (k : Int) = cnt g k := by unfold rk; rw [clp_in hk]
  rw [e]
  have hl := H.len
  obtain ⟨x, hx⟩ : ∃ x, l[cnt g k]? = some x := ⟨_, List.getElem?_eq_getElem (by omega)⟩
  refine ⟨x, hx, ?_⟩
  obtain ⟨h2, h3, h4⟩ := H.page hx
  rcases Nat.lt_trichotomy x.p k with h | h | h
  · have := cnt_step h2 h; omega
  · exact h
  · have := cnt_step hg h; omega
/-- The book that came in, in its box; and the box for the one that goes out. -/
structure BB (w : World) (per A0 : Nat) (v : Value) (q : Nat) (w1 : World) : Prop where
  b0 : w1.cell? ⟨q, 0, none⟩ = some (.int .i64 (per : Int))
  b1 : w1.cell? ⟨q, 1, none⟩ = some v
  r0 : w1.cell? ⟨q + 1, 0, none⟩ = some (.int .i64 0) ∧ w1.frozen? ⟨q + 1, 0, none⟩ = false
  r1 : w1.cell? ⟨q + 1, 1, none⟩ = some (.slice none 0 0) ∧ w1.frozen? ⟨q + 1, 1, none⟩ = false
  bl : Below w.heap.size w w1
  lt : w.heap.size ≤ q ∧ q + 1 < w1.heap.size
theorem BB.start (w : World) (per : Nat) (v : Value) : BB w per 0 v w.heap.size ((w.alloc (.cells #[.int .i64 per, v] 27)).alloc (.cells #[.int .i64 0, .slice none 0 0] 27)) := by
  have k1 : Below w.heap.size w (w.alloc (.cells #[.int .i64 per, v] 27)) := (Below.refl _ _).alloc (Nat.le_refl _) _
  have hs : (w.alloc (.cells #[.int .i64 per, v] 27)).heap.size = w.heap.size + 1 := by simp
  have c0 : (w.alloc (.cells #[.int .i64 per, v] 27)).cell? ⟨w.heap.size, 0, none⟩ = some (.int .i64 (per : Int)) := by simp
  have c1 : (w.alloc (.cells #[.int .i64 per, v] 27)).cell? ⟨w.heap.size, 1, none⟩ = some v := by simp
  generalize (w.alloc (.cells #[.int .i64 per, v] 27)) = w1 at *
  have k2 : Below w1.heap.size w1 (w1.alloc (.cells #[.int .i64 0, .slice none 0 0] 27)) := (Below.refl _ _).alloc (Nat.le_refl _) _
  refine ⟨(k2.cell (p := ⟨w.heap.size, 0, none⟩) (by show w.heap.size < _; omega)).trans c0, (k2.cell (p := ⟨w.heap.size, 1, none⟩) (by show w.heap.size < _; omega)).trans c1, ?_, ?_, k1.trans (k2.mono (by omega)), Nat.le_refl _, by simp [hs]⟩
  · rw [← hs]; exact ⟨by simp, by simp⟩
  · rw [← hs]; exact ⟨by simp, by simp⟩
theorem BB.grow {q : Nat} {w1 w2 : World} (H : BB w per 0 v q w1) (k : Below w1.heap.size w1 w2) : BB w per 0 v q w2 :=
  ⟨(k.cell (p := ⟨q, 0, none⟩) (by have := H.lt; show q < _; omega)).trans H.b0, (k.cell (p := ⟨q, 1, none⟩) (by have := H.lt; show q < _; omega)).trans H.b1,
    ⟨(k.cell (p := ⟨q + 1, 0, none⟩) H.lt.2).trans H.r0.1, (k.frozen (p := ⟨q + 1, 0, none⟩) H.lt.2).trans H.r0.2⟩, ⟨(k.cell (p := ⟨q + 1, 1, none⟩) H.lt.2).trans H.r1.1, (k.frozen (p := ⟨q + 1, 1, none⟩) H.lt.2).trans H.r1.2⟩,
    H.bl.trans (k.mono H.bl.size), H.lt.1, Nat.lt_of_lt_of_le H.lt.2 k.size⟩
/-- The book that goes out is laid. -/
def bk (q : Nat) (u x : Value) (w : World) : World := (w.setCell ⟨q + 1, 0, none⟩ u).setCell ⟨q + 1, 1, none⟩ x
theorem BB.out {q : Nat} {w1 : World} (H : BB w per 0 v q w1) (u x : Value) : (loadVar 27 ⟨q + 1, 0, none⟩).run Tryd.prog (bk q u x w1) = .ok (.agg #[u, x]) (bk q u x w1) ∧ Below w.heap.size w (bk q u x w1) ∧ Off w1.heap.size (q + 1) w1 (bk q u x w1) :=
  ⟨book_laid H.r0.1 H.r1.1 u x, (H.bl.setCell (p := ⟨q + 1, 0, none⟩) (by have := H.lt; show w.heap.size ≤ q + 1; omega) u).setCell (p := ⟨q + 1, 1, none⟩) (by have := H.lt; show w.heap.size ≤ q + 1; omega) x,
    ((Off.refl _ _ _).setCell (p := ⟨q + 1, 0, none⟩) (.inr rfl) u).setCell (p := ⟨q + 1, 1, none⟩) (.inr rfl) x⟩
/-- The document's book, where none of it lies in block q. -/
theorem RefAt.far {q : Nat} {w1 w2 : World} (H : RefAt w1 b v per g f l) (o : Off w1.heap.size q w1 w2) (hv : ∀ r, v.ownBlock = some r → r ≠ q) (hr : ∀ x ∈ l, x.h ≠ q) : RefAt w2 b v per g f l :=
  ⟨ownsRow_heap H.own fun r h => o.block r (H.ne r h).2 (hv r h), H.ps, fun x hx => ⟨⟨fun s hs => (o.cell (p := ⟨x.h, s, none⟩) (H.rows x hx).1.lt (hr x hx)).trans ((H.rows x hx).1.cs s hs), Nat.lt_of_lt_of_le (H.rows x hx).1.lt o.size, (H.rows x hx).1.ne⟩, (H.rows x hx).2⟩,
    fun r h => ⟨(H.ne r h).1, Nat.lt_of_lt_of_le (H.ne r h).2 o.size⟩⟩
/-- What is older than q does not lie in it. -/
theorem RefAt.old {q : Nat} {w1 w2 : World} (H : RefAt w b v per g f l) (hq : w.heap.size ≤ q) (k : Below w.heap.size w w1) (o : Off w1.heap.size q w1 w2) : RefAt w2 b v per g f l :=
  (H.grow k).far o (fun r h => by have := (H.ne r h).2; omega) (fun x hx => by have := (H.rows x hx).1.lt; omega)
set_option maxHeartbeats 4000000 in
theorem rPut (H : RefAt w b v per g f l) (hb : b < w.heap.size) (hk : Ok per g f) (p s : Int) : Calls Tryd.prog 15 #[.agg #[.int .i64 per, v], .int .i64 p, .int .i64 s] w
    (RefPost w b per v l g (if okPut per g f p s then upd2 f p.toNat s.toNat true else f) (two (okPut per g f p s))) := by
  obtain ⟨A, cap, hv, hcap, hmx, hA1, hA2⟩ := H.form
  have hll : l.length ≤ 1024 := by rw [H.len]; exact cnt_le g 1024
  have hl2 : (l.length : Int) ≤ 1024 := by omega
  have hp16 := hk.2.1
  have hS := BB.start w per v
  obtain ⟨D, hD⟩ : ∃ D, D = RefPost w b per v l g (if okPut per g f p s then upd2 f p.toNat s.toNat true else f) (two (okPut per g f p s)) := ⟨_, rfl⟩
  rw [← hD]
  rw [hv] at hS ⊢
  obtain ⟨w1, hw1⟩ : ∃ w1, w1 = (w.alloc (.cells #[.int .i64 per, .slice A l.length cap] 27)).alloc (.cells #[.int .i64 0, .slice none 0 0] 27) := ⟨_, rfl⟩
  rw [← hw1] at hS
  have hF0 := rfind (H.grow hS.bl) p
  rw [hv] at hF0
  have hFd := Lib.hid (hF0.mono fun e w' h => (show e = .returned (.tuple #[.int .i64 (rk g p), .bool (isP g p)]) ∧ BB w per 0 (.slice A l.length cap) w.heap.size w' from ⟨h.1, hS.grow h.2⟩))
  have c0 := hS.b0
  have c1 := hS.b1
  have HH := Lib.hid H
  have hv' := Lib.hid hv
  have hk' := Lib.hid hk
  replace hD := Lib.hid hD
  clear H hv hA1 hA2 hmx hS hF0
  go_enter Tryd.func15, Tryd.ntmps15
  go_upto_region 1 with (fail)
  rw [← hw1]
  replace hw1 := Lib.hid hw1
  go_wp2_with fail
  refine hFd.out.mono ?_
  rintro e w2 ⟨rfl, B2⟩
  have c0 := B2.b0
  have c1 := B2.b1
  have r0 := B2.r0.1
  have r1 := B2.r1.1
  have s0 := B2.r0.2
  have s1 := B2.r1.2
  have B2 := Lib.hid B2
  clear hFd
  -- what is left where nothing is put
  have hno := Lib.hid (show okPut per g f p s = false → D (.returned (.tuple #[.agg #[.int .i64 (per : Int), .slice A l.length cap], .bool false])) (bk w.heap.size (.int .i64 (per : Int)) (.slice A l.length cap) w2) from fun h => by
    rw [hD.out, h]
    obtain ⟨_, o2, o3⟩ := B2.out.out (.int .i64 (per : Int)) (.slice A l.length cap)
    have hR := HH.out.old (q := w.heap.size + 1) (by omega) B2.out.bl o3
    rw [hv'.out] at hR
    exact ⟨_, l, rfl, hR, o2, fun c hc hl hv0 => ⟨fun r hr => hv0 r (by rw [hv'.out]; exact hr), hl⟩⟩)
  have hld := Lib.hid ((B2.out.out (.int .i64 (per : Int)) (.slice A l.length cap)).1)
  rcases hI : isP g p with _ | _
  · have ho : okPut per g f p s = false := by
      unfold okPut mayPut
      unfold isP at hI
      rcases h1 : inP p with _ | _
      · rfl
      · rw [h1] at hI
        rw [show g p.toNat = false from by simpa using hI]
        rfl
    replace hI := Lib.hid hI
    go_wp2
    exact bodyPost_ret (v := .tuple #[.agg #[.int .i64 (per : Int), .slice A l.length cap], .bool false]) (res_two Tryd.results15 rfl rfl hld.out) rfl (hno.out ho)
  · obtain ⟨k, rfl, hk1, hk2⟩ := isP_at hI
    obtain ⟨x, hx, hxp⟩ := find_page HH.out hk1 hk2
    have hok : okPut per g f (k : Int) s = (decide (0 ≤ s) && decide (s < (per : Int)) && !f k s.toNat) := by
      unfold okPut mayPut inP
      rw [Int.toNat_natCast, hk2, decide_eq_true (Int.natCast_nonneg k), decide_eq_true (show (k : Int) < 1024 by omega)]
      rfl
    replace hI := Lib.hid hI
    rcases Int.lt_or_le s 0 with h0 | h0
    · have ho : okPut per g f (k : Int) s = false := by rw [hok, decide_eq_false (by omega : ¬ 0 ≤ s)]; rfl
      clear hok hx
      go_wp2
      exact bodyPost_ret (v := .tuple #[.agg #[.int .i64 (per : Int), .slice A l.length cap], .bool false]) (res_two Tryd.results15 rfl rfl hld.out) rfl (hno.out ho)
    · rcases Int.lt_or_le s (per : Int) with h1 | h1
      · obtain ⟨t, rfl⟩ : ∃ t : Nat, s = (t : Int) := ⟨s.toNat, by omega⟩
        have H2 := HH.out.grow B2.out.bl
        obtain ⟨q, cap', e1, _, cq, cq2⟩ := H2.at hx
        obtain ⟨rfl, rfl⟩ : A = some ⟨q, 0, none⟩ ∧ cap = cap' := by rw [hv'.out] at e1; simpa using e1
        have hr := H2.rows x (List.mem_of_getElem? hx)
        have ct := hr.1.cs t (by omega)
        rw [hxp] at ct
        have hrl : rk g (k : Int) < l.length := (List.getElem?_eq_some_iff.1 hx).1
        obtain ⟨R, hR⟩ : ∃ R, R = rk g (k : Int) := ⟨_, rfl⟩
        rw [← hR] at cq2 hrl hx ⊢
        have hrl2 : (R : Int) < (l.length : Int) := by omega
        have hR' := Lib.hid hR
        clear hR
        have x3 : decide ((t : Int) < 0) = false := decide_eq_false (by omega)
        have x4 : decide (per ≤ t) = false := decide_eq_false (by omega)
        have x0 : ¬ (t : Int) < 0 := by omega
        have x1 : ¬ (per : Int) ≤ (t : Int) := by omega
        have x2 : ¬ per ≤ t := by omega
        rw [decide_eq_true h0, decide_eq_true h1, Int.toNat_natCast] at hok
        cases hft : f k t
        · have ho : okPut per g f (k : Int) (t : Int) = true := by rw [hok, hft]; rfl
          have hW := rwith H2 (by have := B2.out.bl.size; omega) hk'.out hx (show t < per by omega) true
          rw [hv'.out, hxp] at hW
          have hW := Lib.hid (hW.mono fun e w' h => (show ∃ v2 l2, e = .returned (.agg #[.int .i64 (per : Int), v2]) ∧ RefAt w' b v2 per g (upd2 f k t true) l2 ∧ BB w per 0 (.slice (some ⟨q, 0, none⟩) l.length cap) w.heap.size w' ∧
              ∀ c, c < w2.heap.size → (∀ x ∈ l, x.h ≠ c) → (∀ r, v.ownBlock = some r → r ≠ c) → (∀ r, v2.ownBlock = some r → r ≠ c) ∧ ∀ y ∈ l2, y.h ≠ c from by
            obtain ⟨v2, l2, e1, e2, e3, e4⟩ := h
            exact ⟨v2, l2, e1, e2, B2.out.grow e3, by rw [hv'.out]; exact e4⟩))
          rw [hft] at ct
          clear hok hr H2 e1 cq
          go_wp2_with fail
          refine hW.out.mono ?_
          rintro e w3 ⟨v2, l2, rfl, H3, B3, f1⟩
          have c0 := B3.b0
          have r0 := B3.r0.1
          have r1 := B3.r1.1
          have s0 := B3.r0.2
          have s1 := B3.r1.2
          have f3 := Lib.hid (show ∃ A3 c3, v2 = .slice A3 l2.length c3 from by obtain ⟨A3, c3, e, _⟩ := H3.form; exact ⟨A3, c3, e⟩)
          have B3 := Lib.hid B3
          have H3 := Lib.hid H3
          have hfr := Lib.hid f1
          clear f1 hW ct cq2 c1
          obtain ⟨A3, c3, e3⟩ := f3.out
          have e3' := Lib.hid e3
          rw [e3]
          clear e3
          go_wp2
          obtain ⟨l1, o2, o3⟩ := B3.out.out (.int .i64 (per : Int)) (.slice A3 l2.length c3)
          refine bodyPost_ret (v := .tuple #[.agg #[.int .i64 (per : Int), .slice A3 l2.length c3], .bool true]) (res_two Tryd.results15 rfl rfl l1) rfl ?_
          rw [hD.out, ho]
          simp only [if_true]
          obtain ⟨g1, g2⟩ := hfr.out (w.heap.size + 1) B2.out.lt.2 (fun y hy => by have := (HH.out.rows y hy).1.lt; omega) (fun r hr => by have := (HH.out.ne r hr).2; omega)
          refine ⟨.slice A3 l2.length c3, l2, rfl, ?_, o2, fun c hc hl hv0 => ?_⟩
          · have := H3.out.far o3 g1 g2
            rw [e3'.out] at this
            exact this
          · have := hfr.out c (by have := B2.out.bl.size; omega) hl hv0
            rw [e3'.out] at this
            exact this
        · have ho : okPut per g f (k : Int) (t : Int) = false := by rw [hok, hft]; rfl
          rw [hft] at ct
          clear hok hr H2 e1 cq
          go_wp2
          exact bodyPost_ret (v := .tuple #[.agg #[.int .i64 (per : Int), .slice (some ⟨q, 0, none⟩) l.length cap], .bool false]) (res_two Tryd.results15 rfl rfl hld.out) rfl (hno.out ho)
      · have ho : okPut per g f (k : Int) s = false := by rw [hok, decide_eq_false (by omega : ¬ s < (per : Int))]; simp
        have x0 : ¬ s < 0 := by omega
        clear hok hx
        go_wp2
        exact bodyPost_ret (v := .tuple #[.agg #[.int .i64 (per : Int), .slice A l.length cap], .bool false]) (res_two Tryd.results15 rfl rfl hld.out) rfl (hno.out ho)
end
end Go.Proofs.YtkkjjdnlfdempaaDoor
