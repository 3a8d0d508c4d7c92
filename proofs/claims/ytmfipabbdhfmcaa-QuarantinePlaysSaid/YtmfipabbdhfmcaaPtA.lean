/- Contracts of layer paint: New, Has, Count, Copy; what a change asks of a granule. No statement is proved here. -/
import Derived.Test.YtmfipabbdhfmcaaTagG
import Derived.Test.YtmfipabbdhfmcaaTagP
import Derived.Test.YtmfipabbdhfmcaaCls
import Derived.Test.YtmfipabbdhfmcaaStr
import Derived.WalkMore
import Derived.Deep.Cut
import Derived.OpenShut
namespace Go.Proofs.Ytmfipabbdhfmcaa
set_option maxRecDepth 100000
open Go.RowKit Go.Shelf
set_option linter.unusedVariables false

/-- At block p stands a paint of n granules, its map at block b; f tells which are painted. -/
structure PtAt (W : World) (p b wb n : Nat) (f : Nat → Bool) : Prop where
  c0 : W.cell? ⟨p, 0, none⟩ = some (.pointer (some ⟨b, 0, none⟩))
  m : MapAt W b wb n f
  ne : p ≠ wb
  lp : p < W.heap.size
section
variable {W W' : World} {p b wb n B : Nat} {f g : Nat → Bool}
theorem PtAt.below (h : PtAt W p b wb n f) (hb : Below B W W') (h0 : p < B) (h1 : b < B) (h2 : wb < B) : PtAt W' p b wb n f :=
  ⟨(hb.cell h0).trans h.c0, h.m.below hb h1 h2, h.ne, Nat.lt_of_lt_of_le h.lp hb.size⟩
theorem PtAt.grow (h : PtAt W p b wb n f) (hb : Below W.heap.size W W') : PtAt W' p b wb n f := h.below hb h.lp h.m.lb h.m.lw
theorem PtAt.next (h : PtAt W p b wb n f) (o : Off W.heap.size wb W W') (m : MapAt W' b wb n g) : PtAt W' p b wb n g :=
  ⟨(o.cell h.lp h.ne).trans h.c0, m, h.ne, Nat.lt_of_lt_of_le h.lp o.size⟩
theorem PtAt.congr (h : PtAt W p b wb n f) (e : ∀ k, f k = g k) : PtAt W p b wb n g := ⟨h.c0, h.m.congr e, h.ne, h.lp⟩
end
theorem bel_drewN {B : Nat} {a c : World} (h : Below B a c) : ∀ m : Nat, Below B a (c.drewN m) := fun m => ⟨h.os, h.tape, h.output, h.size, h.block⟩
section
variable {W' : World} {p b wb n : Nat} {f : Nat → Bool} {w : World}
theorem ptmade (H : PtAt w p b wb n f) : Calls Try.prog 45 #[.pointer (some ⟨p, 0, none⟩)] w fun e w' => e = .returned (.bool true) ∧ Below w.heap.size w w' := by
  have c0 := H.c0
  clear H
  go_enter Try.func45, Try.ntmps45
  go_wp2
  go_ret
  exact ⟨rfl, Below.refl _ _⟩
theorem ptmade_nil (w : World) : Calls Try.prog 45 #[.pointer none] w fun e w' => e = .returned (.bool false) ∧ Below w.heap.size w w' := by
  go_enter Try.func45, Try.ntmps45
  go_wp2
  go_ret
  exact ⟨rfl, Below.refl _ _⟩
/-- A place looked at: nothing turns. -/
theorem tget (H : MapAt w b wb n f) (k : Nat) : Calls Try.prog 46 #[.pointer (some ⟨b, 0, none⟩), .int .i64 k] w fun e w' => e = .returned (.bool (f k)) ∧ Below w.heap.size w w' := by
  by_cases hk : k < n
  · exact (get_yes b wb n f k w H hk).mono fun e w' h => ⟨h.1, h.2.elim fun m hm => hm ▸ bel_drewN (Below.refl _ _) m⟩
  · rw [H.off k (by omega)]
    exact (get_no b wb n f k w H (by omega)).mono fun e w' h => ⟨h.1, h.2.elim fun m hm => hm ▸ bel_drewN (Below.refl _ _) m⟩
/-- Is a region granules, one at least? -/
def wholeB (a s : Nat) : Bool := decide (a % 16 = 0 ∧ s % 16 = 0 ∧ 0 < s)
theorem whole_any (a s : Nat) (w : World) : Calls Try.prog 59 #[.agg #[.int .u32 a, .int .u32 s]] w fun e w' => e = .returned (.bool (wholeB a s)) ∧ Below w.heap.size w w' := by
  have hb := Lib.hid ((Below.refl w.heap.size w).alloc (Nat.le_refl _) (.cells #[.int .u32 a, .int .u32 s] 33))
  obtain ⟨v, hv⟩ : ∃ v, v = wholeB a s := ⟨_, rfl⟩
  rw [← hv]
  unfold wholeB at hv
  have hv' := Lib.hid hv
  clear hv
  go_enter Try.func59, Try.ntmps59
  by_cases h1 : a % 16 = 0
  · have e1 : (a : Int) % 16 = 0 := by omega
    by_cases h2 : s % 16 = 0
    · have e2 : (s : Int) % 16 = 0 := by omega
      by_cases h3 : 0 < s
      · have e3 : (0 : Int) < s := by omega
        go_wp2
        go_ret
        exact ⟨by rw [hv'.out, decide_eq_true (show _ from ⟨h1, h2, h3⟩)]; rfl, hb.out⟩
      · obtain rfl : s = 0 := by omega
        go_wp2
        go_ret
        exact ⟨by rw [hv'.out, decide_eq_false (fun k => h3 k.2.2)]; rfl, hb.out⟩
    · have e2 : ¬ (s : Int) % 16 = 0 := by omega
      go_wp2
      go_ret
      exact ⟨by rw [hv'.out, decide_eq_false (fun k => h2 k.2.1)]; rfl, hb.out⟩
  · have e1 : ¬ (a : Int) % 16 = 0 := by omega
    go_wp2
    go_ret
    exact ⟨by rw [hv'.out, decide_eq_false (fun k => h1 k.1)]; rfl, hb.out⟩
theorem there_any (H : MapAt w b wb n f) (k : Nat) : Calls Try.prog 61 #[.agg #[.pointer (some ⟨b, 0, none⟩)], .int .i64 k] w fun e w' => e = .returned (.bool (decide (k < n))) ∧ Below w.heap.size w w' := by
  have hb : Below w.heap.size w (w.alloc (.cells #[.pointer (some ⟨b, 0, none⟩)] 77)) := (Below.refl _ _).alloc (Nat.le_refl _) _
  have hc : (w.alloc (.cells #[.pointer (some ⟨b, 0, none⟩)] 77)).cell? ⟨w.heap.size, 0, none⟩ = some (.pointer (some ⟨b, 0, none⟩)) := by simp
  obtain ⟨w1, hw1⟩ : ∃ w1, w1 = w.alloc (.cells #[.pointer (some ⟨b, 0, none⟩)] 77) := ⟨_, rfl⟩
  rw [← hw1] at hb hc
  have hL := Lib.hid (len_any b wb n f w1 (H.below hb H.lb H.lw))
  have hb' := Lib.hid hb
  have hw1' := Lib.hid hw1
  obtain ⟨v, hv⟩ : ∃ v, v = decide (k < n) := ⟨_, rfl⟩
  rw [← hv]
  have hv' := Lib.hid hv
  clear hv H hb hw1
  by_cases h : k < n
  · have h1 : (k : Int) < n := by omega
    go_enter Try.func61, Try.ntmps61
    go_upto_region 1 with (fail)
    rw [← hw1'.out]
    go_wp2_with fail
    refine hL.out.mono ?_
    rintro e w2 ⟨rfl, rfl⟩
    go_wp2_with fail
    go_ret
    exact ⟨by rw [hv'.out, decide_eq_true h]; rfl, hb'.out⟩
  · have h1 : ¬ (k : Int) < n := by omega
    go_enter Try.func61, Try.ntmps61
    go_upto_region 1 with (fail)
    rw [← hw1'.out]
    go_wp2_with fail
    refine hL.out.mono ?_
    rintro e w2 ⟨rfl, rfl⟩
    go_wp2_with fail
    go_ret
    exact ⟨by rw [hv'.out, decide_eq_false h]; rfl, hb'.out⟩
/-- The boxes of the closure that asks whether a granule is otherwise. -/
structure OtAt (W : World) (x y b : Nat) (to : Bool) : Prop where
  oc : W.cell? ⟨x, 0, none⟩ = some (.pointer (some ⟨b, 0, none⟩))
  od : W.cell? ⟨y, 0, none⟩ = some (.bool to)
  lc : x < W.heap.size
  ld : y < W.heap.size
theorem OtAt.grow {W : World} {c d : Nat} {to : Bool} (H : OtAt W c d b to) (hb : Below W.heap.size W W') : OtAt W' c d b to :=
  ⟨(hb.cell (p := ⟨c, 0, none⟩) H.lc).trans H.oc, (hb.cell (p := ⟨d, 0, none⟩) H.ld).trans H.od, Nat.lt_of_lt_of_le H.lc hb.size, Nat.lt_of_lt_of_le H.ld hb.size⟩
set_option maxHeartbeats 4000000 in
theorem other_any {c d : Nat} {to : Bool} (H : MapAt w b wb n f) (O : OtAt w c d b to) (k : Nat) : Calls Try.prog 58 #[.int .i64 k, .pointer (some ⟨c, 0, none⟩), .pointer (some ⟨d, 0, none⟩)] w fun e w' => e = .returned (.bool (f k != to)) ∧ Below w.heap.size w w' := by
  have c0 := O.oc
  have c1 := O.od
  have hl := O.ld
  have hG := Lib.hid (show Calls Try.prog 46 #[.pointer (some ⟨b, 0, none⟩), .int .i64 k] w.drew fun e w' => e = .returned (.bool (f k)) ∧ Below w.heap.size w w' ∧ w'.cell? ⟨d, 0, none⟩ = some (.bool to) from by
    refine (tget H.drew k).mono fun e w' h => ?_
    have h2 : Below w.heap.size w w' := (Below.refl w.heap.size w).drew.trans h.2
    exact ⟨h.1, h2, (h2.cell (p := ⟨d, 0, none⟩) hl).trans c1⟩)
  clear hl
  obtain ⟨v, hv⟩ : ∃ v, v = f k := ⟨_, rfl⟩
  rw [← hv] at hG ⊢
  clear hv H O
  go_enter Try.func58, Try.ntmps58
  cases v <;> cases to
  all_goals
    go_wp2_with fail
    go_region_with (go_at_call 46; refine hG.out.mono ?_; rintro e w3 ⟨rfl, k1, k2⟩; have hk := Lib.hid k1; clear k1)
    all_goals
      go_wp2
      go_ret
      exact ⟨rfl, hk.out⟩
/-- The box of the iterator holds a region. -/
structure RgAt (W : World) (c a s : Nat) : Prop where
  c0 : W.cell? ⟨c, 0, none⟩ = some (.int .u32 a)
  c1 : W.cell? ⟨c, 1, none⟩ = some (.int .u32 s)
  l : c < W.heap.size
theorem RgAt.grow {W : World} {c a s : Nat} (H : RgAt W c a s) (hb : Below W.heap.size W W') : RgAt W' c a s :=
  ⟨(hb.cell (p := ⟨c, 0, none⟩) H.l).trans H.c0, (hb.cell (p := ⟨c, 1, none⟩) H.l).trans H.c1, Nat.lt_of_lt_of_le H.l hb.size⟩
theorem of_any (b a s : Nat) (w : World) : Calls Try.prog 62 #[.agg #[.pointer (some ⟨b, 0, none⟩)], .agg #[.int .u32 a, .int .u32 s]] w fun e w' =>
    e = .returned (.func (.func 67) #[] #[.pointer (some ⟨w.heap.size + 1, 0, none⟩)]) ∧ RgAt w' (w.heap.size + 1) a s ∧ Below w.heap.size w w' ∧ w.heap.size + 2 = w'.heap.size := by
  obtain ⟨w1, hw1⟩ : ∃ w1, w1 = w.alloc (.cells #[.pointer (some ⟨b, 0, none⟩)] 77) := ⟨_, rfl⟩
  have hs1 : w1.heap.size = w.heap.size + 1 := by rw [hw1]; simp
  have hb1 : Below w.heap.size w w1 := by rw [hw1]; exact (Below.refl _ _).alloc (Nat.le_refl _) _
  have hb := Lib.hid (hb1.alloc hb1.size (.cells #[.int .u32 a, .int .u32 s] 33))
  have hR := Lib.hid (show RgAt (w1.alloc (.cells #[.int .u32 a, .int .u32 s] 33)) (w.heap.size + 1) a s from by rw [← hs1]; exact ⟨by simp, by simp, by simp⟩)
  have hz := Lib.hid (show w.heap.size + 2 = (w1.alloc (.cells #[.int .u32 a, .int .u32 s] 33)).heap.size from by simp [hs1])
  rw [hw1] at hR hb hz
  clear hw1 hs1 hb1
  go_enter Try.func62, Try.ntmps62
  go_wp2
  go_ret
  exact ⟨rfl, hR.out, hb.out, hz.out⟩
/-! ### What others call -/
theorem ptnew_no (n : Int) (w : World) (h : n < 0 ∨ 262144 < n ∨ n % 16 ≠ 0) : Calls Try.prog 33 #[.int .i64 n] w fun e w' => e = .returned (.pointer none) ∧ Below w.heap.size w w' := by
  rcases Int.lt_or_le n 0 with h1 | h1
  · go_enter Try.func33, Try.ntmps33
    go_wp2
    go_ret
    exact ⟨rfl, Below.refl _ _⟩
  · rcases Int.lt_or_le 262144 n with h2 | h2
    · have h3 : ¬ n < 0 := by omega
      go_enter Try.func33, Try.ntmps33
      go_wp2
      go_ret
      exact ⟨rfl, Below.refl _ _⟩
    · have h3 : ¬ n < 0 := by omega
      have h4 : ¬ 262144 < n := by omega
      have h5 : ¬ n % 16 = 0 := by omega
      go_enter Try.func33, Try.ntmps33
      go_wp2
      go_ret
      exact ⟨rfl, Below.refl _ _⟩
theorem ptnew_yes (n : Nat) (w : World) (h : n ≤ 16384) : Calls Try.prog 33 #[.int .i64 (16 * n : Nat)] w fun e w' => ∃ p b wb, e = .returned (.pointer (some ⟨p, 0, none⟩)) ∧ PtAt w' p b wb n (fun _ => false) ∧ w.heap.size ≤ p ∧ w.heap.size ≤ b ∧ w.heap.size ≤ wb ∧ Below w.heap.size w w' := by
  obtain ⟨z, hz⟩ : ∃ z, z = 16 * n := ⟨_, rfl⟩
  have h1 : ¬ (z : Int) < 0 := by omega
  have h2 : ¬ 262144 < (z : Int) := by omega
  have h3 : (z : Int) % 16 = 0 := by omega
  have h4 : (z : Int) / 16 = n := by omega
  rw [← hz]
  have hN := Lib.hid (new_yes n w (by omega))
  clear hz h
  go_enter Try.func33, Try.ntmps33
  go_wp2_with fail
  refine hN.out.mono ?_
  rintro e w1 ⟨rfl, m, k1, k2⟩
  have hP := Lib.hid (show PtAt (w1.alloc (.cells #[.pointer (some ⟨w.heap.size + 1, 0, none⟩)] 79)) w1.heap.size (w.heap.size + 1) w.heap.size n (fun _ => false) from
    ⟨by simp, m.alloc _, by omega, by simp⟩)
  have hB := Lib.hid (k1.alloc k1.size (.cells #[.pointer (some ⟨w.heap.size + 1, 0, none⟩)] 79))
  have hl := Lib.hid k2
  clear m k1 k2 hN
  go_wp2_with fail
  go_ret
  exact ⟨_, _, _, rfl, hP.out, by have := hl.out; omega, by omega, Nat.le_refl _, hB.out⟩
theorem pthas (H : PtAt w p b wb n f) (a : Nat) (ha : a < 4294967296) : Calls Try.prog 19 #[.pointer (some ⟨p, 0, none⟩), .int .u32 a] w fun e w' => e = .returned (.bool (f (a / 16))) ∧ Below w.heap.size w w' := by
  obtain ⟨q, hq⟩ : ∃ q, q = a / 16 := ⟨_, rfl⟩
  have e1 : (a : Int) / 16 = q := by omega
  have hqb : q < 268435456 := by omega
  rw [← hq]
  have hM := Lib.hid (ptmade H)
  have H' := Lib.hid H
  clear hq H
  go_enter Try.func19, Try.ntmps19
  go_wp2_with fail
  refine hM.out.mono ?_
  rintro e w1 ⟨rfl, k1⟩
  have H1 := H'.out.grow k1
  have c0 := H1.c0
  have hG := Lib.hid (tget H1.m q)
  have hk := Lib.hid k1
  clear H1 k1
  go_wp2_with fail
  refine hG.out.mono ?_
  rintro e w2 ⟨rfl, k2⟩
  have hk2 := Lib.hid (hk.out.trans (k2.mono hk.out.size))
  clear k2
  go_wp2_with fail
  go_ret
  exact ⟨rfl, hk2.out⟩
theorem pthas_nil (a : Int) (w : World) : Calls Try.prog 19 #[.pointer none, .int .u32 a] w fun e w' => e = .returned (.bool false) ∧ Below w.heap.size w w' := by
  go_enter Try.func19, Try.ntmps19
  go_wp2_with fail
  refine (ptmade_nil _).mono ?_
  rintro e w1 ⟨rfl, k1⟩
  have hk := Lib.hid k1
  clear k1
  go_wp2_with fail
  go_ret
  exact ⟨rfl, hk.out⟩
theorem ptcopy (H : PtAt w p b wb n f) : Calls Try.prog 41 #[.pointer (some ⟨p, 0, none⟩)] w fun e w' => ∃ q c wc, e = .returned (.pointer (some ⟨q, 0, none⟩)) ∧ PtAt w' q c wc n f ∧ w.heap.size ≤ q ∧ w.heap.size ≤ c ∧ w.heap.size ≤ wc ∧ Below w.heap.size w w' := by
  have hM := Lib.hid (ptmade H)
  have H' := Lib.hid H
  clear H
  go_enter Try.func41, Try.ntmps41
  go_wp2_with fail
  refine hM.out.mono ?_
  rintro e w1 ⟨rfl, k1⟩
  have H1 := H'.out.grow k1
  have c0 := H1.c0
  have hG := Lib.hid (copy_any b wb n f w1 H1.m)
  have hk := Lib.hid k1
  clear H1 k1
  go_wp2_with fail
  refine hG.out.mono ?_
  rintro e w2 ⟨rfl, m, k2, k3⟩
  have hP := Lib.hid (show PtAt (w2.alloc (.cells #[.pointer (some ⟨w1.heap.size + 1, 0, none⟩)] 79)) w2.heap.size (w1.heap.size + 1) w1.heap.size n f from
    ⟨by simp, m.alloc _, by omega, by simp⟩)
  have hB := Lib.hid ((hk.out.trans (k2.mono hk.out.size)).alloc (by have := hk.out.size; omega) (.cells #[.pointer (some ⟨w1.heap.size + 1, 0, none⟩)] 79))
  have hl := Lib.hid (show w.heap.size ≤ w1.heap.size ∧ w1.heap.size + 2 = w2.heap.size from ⟨hk.out.size, k3⟩)
  clear m k2 k3 hG
  go_wp2_with fail
  go_ret
  exact ⟨_, _, _, rfl, hP.out, by have := hl.out; omega, by have := hl.out; omega, hl.out.1, hB.out⟩
theorem ptcopy_nil (w : World) : Calls Try.prog 41 #[.pointer none] w fun e w' => e = .returned (.pointer none) ∧ Below w.heap.size w w' := by
  go_enter Try.func41, Try.ntmps41
  go_wp2_with fail
  refine (ptmade_nil _).mono ?_
  rintro e w1 ⟨rfl, k1⟩
  have hk := Lib.hid k1
  clear k1
  go_wp2_with fail
  go_ret
  exact ⟨rfl, hk.out⟩
end
end Go.Proofs.Ytmfipabbdhfmcaa
