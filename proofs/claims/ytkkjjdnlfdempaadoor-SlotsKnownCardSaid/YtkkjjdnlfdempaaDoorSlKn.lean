/- Proved: the chapter's examples (SlotsKnown). Closed; the library's table is as its own text lays it (the card ties that). -/
import Derived.Test.YtkkjjdnlfdempaaDoorSlV
import Derived.Test.YtkkjjdnlfdempaaDoorSlN
import Derived.Test.YtkkjjdnlfdempaaDoorSlZ
import Derived.Test.YtkkjjdnlfdempaaDoorTie
import Derived.Test.YtkkjjdnlfdempaaDoorCards
import Derived.SevenTiedAt
import Derived.ProofKit
import Derived.OpenShut
import Derived.ChangeOld
import Derived.Deep.LoopGhost
namespace Go.Proofs.YtkkjjdnlfdempaaDoor.sknown
open Go.ChangeShapes Go.WideShapes Go.ChangeAt Go.RowKit Go.Shelf
set_option linter.unusedVariables false
set_option maxRecDepth 100000
def gL (l : List Nat) : Nat → Bool := fun p => decide (p ∈ l)
def fL (l : List (Nat × Nat)) : Nat → Nat → Bool := fun p s => decide ((p, s) ∈ l)
section
variable {W w w' : World} {b p s : Nat} {a a' : List Nat} {l l' : List (Nat × Nat)}
theorem gL_add (h : a' = p :: a) : upd (gL a) p true = gL a' := by
  subst h
  funext q
  unfold upd gL
  by_cases e : q = p <;> simp [e]
theorem gL_drop (h : a' = a.filter (fun x => decide (x ≠ p))) : upd (gL a) p false = gL a' := by
  subst h
  funext q
  unfold upd gL
  by_cases e : q = p <;> simp [e]
theorem fL_add (h : l' = (p, 0) :: (p, 1) :: l.filter (fun x => decide (x.1 ≠ p))) : updP (fL l) p (full 2) = fL l' := by
  subst h
  funext q t
  unfold updP fL full
  by_cases e : q = p
  · subst e
    simp
    rw [Bool.eq_iff_iff]
    simp
    omega
  · simp [e]
theorem fL_drop (h : l' = l.filter (fun x => decide (x.1 ≠ p))) : updP (fL l) p (fun _ => false) = fL l' := by
  subst h
  funext q t
  unfold updP fL
  by_cases e : q = p <;> simp [e]
theorem fL_put (h : l' = (p, s) :: l) : upd2 (fL l) p s true = fL l' := by
  subst h
  funext q t
  unfold upd2 upd fL
  by_cases e : q = p
  · subst e
    by_cases e2 : t = s <;> simp [e2]
  · simp [e]
theorem fL_take (h : l' = l.filter (fun x => decide (x ≠ (p, s)))) : upd2 (fL l) p s false = fL l' := by
  subst h
  funext q t
  unfold upd2 upd fL
  by_cases e : q = p
  · subst e
    by_cases e2 : t = s <;> simp [e2]
  · simp [e]
theorem fL_least (h : (p, s) ∈ l ∧ ∀ x ∈ l, p < x.1 ∨ (p = x.1 ∧ s ≤ x.2)) : Least (fL l) p s := by
  refine ⟨by simp [fL, h.1], fun q t hq => ?_, fun t ht => ?_⟩
  · unfold fL
    refine decide_eq_false fun hm => ?_
    have := h.2 _ hm
    simp only at this
    omega
  · unfold fL
    refine decide_eq_false fun hm => ?_
    have := h.2 _ hm
    simp only at this
    omega
theorem kadd (S : SK W b 2 (gL a) (fL l) w) (h : mayAdd (gL a) (p : Int) = true) (ha : a' = p :: a) (hl : l' = (p, 0) :: (p, 1) :: l.filter (fun x => decide (x.1 ≠ p))) :
    Calls Tryd.prog 10 #[.pointer (some ⟨b, 0, none⟩), .int .i64 p] w fun e w' => e = .returned (.bool true) ∧ SK W b 2 (gL a') (fL l') w' :=
  (add_yes S.k p h).mono fun e w' k => by have := S.next k; rw [gL_add ha, fL_add hl] at this; exact this
theorem kadd_no (S : SK W b 2 (gL a) (fL l) w) (x : Int) (h : mayAdd (gL a) x = false) :
    Calls Tryd.prog 10 #[.pointer (some ⟨b, 0, none⟩), .int .i64 x] w fun e w' => e = .returned (.bool false) ∧ SK W b 2 (gL a) (fL l) w' := (add_no S.k x h).mono fun e w' k => S.next k
theorem kput (S : SK W b 2 (gL a) (fL l) w) (h : okPut 2 (gL a) (fL l) (p : Int) (s : Int) = true) (hl : l' = (p, s) :: l) :
    Calls Tryd.prog 14 #[.pointer (some ⟨b, 0, none⟩), .int .i64 p, .int .i64 s] w fun e w' => e = .returned (.bool true) ∧ SK W b 2 (gL a) (fL l') w' :=
  (put_yes S.k p s h).mono fun e w' k => by have := S.next k; rw [fL_put hl] at this; exact this
theorem kput_no (S : SK W b 2 (gL a) (fL l) w) (x y : Int) (h : okPut 2 (gL a) (fL l) x y = false) :
    Calls Tryd.prog 14 #[.pointer (some ⟨b, 0, none⟩), .int .i64 x, .int .i64 y] w fun e w' => e = .returned (.bool false) ∧ SK W b 2 (gL a) (fL l) w' := (put_no S.k x y h).mono fun e w' k => S.next k
theorem kdrop (S : SK W b 2 (gL a) (fL l) w) (h : okW 2 (gL a) (fL l) (p : Int) = true) (ha : a' = a.filter (fun x => decide (x ≠ p))) (hl : l' = l.filter (fun x => decide (x.1 ≠ p))) :
    Calls Tryd.prog 16 #[.pointer (some ⟨b, 0, none⟩), .int .i64 p] w fun e w' => e = .returned (.bool true) ∧ SK W b 2 (gL a') (fL l') w' :=
  (drop_yes S.k p h).mono fun e w' k => by have := S.next k; rw [gL_drop ha, fL_drop hl] at this; exact this
theorem kdrop_no (S : SK W b 2 (gL a) (fL l) w) (x : Int) (h : okW 2 (gL a) (fL l) x = false) :
    Calls Tryd.prog 16 #[.pointer (some ⟨b, 0, none⟩), .int .i64 x] w fun e w' => e = .returned (.bool false) ∧ SK W b 2 (gL a) (fL l) w' := (drop_no S.k x h).mono fun e w' k => S.next k
theorem kwhole (S : SK W b 2 (gL a) (fL l) w) (x : Int) {v : Bool} (h : okW 2 (gL a) (fL l) x = v) :
    Calls Tryd.prog 21 #[.pointer (some ⟨b, 0, none⟩), .int .i64 x] w fun e w' => e = .returned (.bool v) ∧ SK W b 2 (gL a) (fL l) w' := (whole_yes S.k x h).mono fun e w' k => S.next k
theorem kfree (S : SK W b 2 (gL a) (fL l) w) {n : Nat} (h : tot (fL l) 1024 = n) :
    Calls Tryd.prog 19 #[.pointer (some ⟨b, 0, none⟩)] w fun e w' => e = .returned (.int .i64 (n : Int)) ∧ SK W b 2 (gL a) (fL l) w' := (free_yes S.k h).mono fun e w' k => S.next k
theorem ktake (S : SK W b 2 (gL a) (fL l) w) (hT : TabAt 0 Lib.deBruijn32tab W) (h : (p, s) ∈ l ∧ ∀ x ∈ l, p < x.1 ∨ (p = x.1 ∧ s ≤ x.2)) (hl : l' = l.filter (fun x => decide (x ≠ (p, s)))) :
    Calls Tryd.prog 12 #[.pointer (some ⟨b, 0, none⟩)] w fun e w' => e = .returned (.tuple #[.int .i64 (p : Int), .int .i64 (s : Int), .bool true]) ∧ SK W b 2 (gL a) (fL l') w' :=
  (take_yes S.k (tab_grow hT S.bl) (fL_least h)).mono fun e w' k => by have := S.next k; rw [fL_take hl] at this; exact this
theorem ktake_no (S : SK W b 2 (gL a) (fL []) w) (hT : TabAt 0 Lib.deBruijn32tab W) :
    Calls Tryd.prog 12 #[.pointer (some ⟨b, 0, none⟩)] w fun e w' => e = .returned (.tuple #[.int .i64 0, .int .i64 0, .bool false]) ∧ SK W b 2 (gL a) (fL []) w' :=
  (take_no S.k (tab_grow hT S.bl) (fun p s => by simp [fL])).mono fun e w' k => S.next k
/-- Two books, and a list of pages. -/
structure KN (W : World) (b c q : Nat) (a a2 : List Nat) (l l2 : List (Nat × Nat)) (w : World) : Prop where
  kk : SK W b 2 (gL a) (fL l) w
  kc : SK W c 2 (gL a2) (fL l2) w
  kq : w.cell? ⟨q, 0, none⟩ = some (.int .i64 3)
  kd : b ≠ c ∧ q ≠ c ∧ q < w.heap.size
theorem KN.grow {c q : Nat} {a2 : List Nat} {l2 : List (Nat × Nat)} (S : KN W b c q a a2 l l2 w) (k : Below w.heap.size w w') : KN W b c q a a2 l l2 w' :=
  ⟨S.kk.grow k, S.kc.grow k, (k.cell (p := ⟨q, 0, none⟩) S.kd.2.2).trans S.kq, S.kd.1, S.kd.2.1, Nat.lt_of_lt_of_le S.kd.2.2 k.size⟩
theorem knew (W : World) : Calls Tryd.prog 7 #[.int .i64 2] W fun e w' => ∃ b, e = .returned (.pointer (some ⟨b, 0, none⟩)) ∧ SK W b 2 (gL []) (fL []) w' :=
  (new_yes 2 W (by decide)).mono fun e w' h => by
    obtain ⟨b, he, S⟩ := SK.fresh h
    refine ⟨b, he, ?_⟩
    rw [show gL [] = fun _ => false from funext fun p => by simp [gL], show fL [] = fun _ _ => false from funext fun p => funext fun s => by simp [fL]]
    exact S
end
set_option maxHeartbeats 16000000 in
theorem walk (W : World) (hT : TabAt 0 Lib.deBruijn32tab W) : Calls Tryd.prog 6 #[] W fun e w' => e = .returned (.bool true) ∧ Below W.heap.size W w' := by
  have hT' := Lib.hid hT
  have hN0 := Lib.hid (fun w => new_no 0 w (by decide))
  have hN1 := Lib.hid (fun w => new_no 17 w (by decide))
  have hN2 := Lib.hid (fun w => new_no (-1) w (by decide))
  have hN3 := Lib.hid (fun w => new_yes 16 w (by decide))
  have hN4 := Lib.hid (fun w => knew w)
  clear hT
  go_enter Tryd.func6, Tryd.ntmps6
  go_wp2_with fail
  refine (hN0.out _).mono ?_
  rintro e w1 ⟨rfl, rfl⟩
  go_wp2_with fail
  refine (hN1.out _).mono ?_
  rintro e w1 ⟨rfl, rfl⟩
  go_wp2_with fail
  refine (hN2.out _).mono ?_
  rintro e w1 ⟨rfl, rfl⟩
  go_wp2_with fail
  refine (hN3.out _).mono ?_
  rintro e w1 ⟨b0, rfl, _, _, hb0⟩
  have B0 := Lib.hid hb0
  clear hb0 hN0 hN1 hN2 hN3
  go_wp2_with fail
  refine (hN4.out w1).mono ?_
  rintro e w2 ⟨b, rfl, S⟩
  have S0 := Lib.hid (show SK W b 2 (gL []) (fL []) w2 from ⟨S.k, B0.out.trans (S.bl.mono B0.out.size), Nat.le_trans B0.out.size S.hb⟩)
  clear S hN4 B0
  go_wp2_with fail
  have hC := Lib.hid (ktake_no S0.out hT'.out)
  refine hC.out.mono ?_
  rintro e w10 ⟨rfl, S⟩
  have S1 := Lib.hid S
  clear S S0 hC
  go_wp2_with fail
  have hC := Lib.hid (kfree (n := 0) S1.out (by decide +kernel))
  refine hC.out.mono ?_
  rintro e w11 ⟨rfl, S⟩
  have S2 := Lib.hid S
  clear S S1 hC
  go_wp2_with fail
  have hC := Lib.hid (kadd (p := 5) (a' := [5]) (l' := [(5, 0), (5, 1)]) S2.out (by decide) (by decide) (by decide))
  refine hC.out.mono ?_
  rintro e w12 ⟨rfl, S⟩
  have S3 := Lib.hid S
  clear S S2 hC
  go_wp2_with fail
  have hC := Lib.hid (kadd_no S3.out (5) (by decide))
  refine hC.out.mono ?_
  rintro e w13 ⟨rfl, S⟩
  have S4 := Lib.hid S
  clear S S3 hC
  go_wp2_with fail
  have hC := Lib.hid (kadd (p := 3) (a' := [3, 5]) (l' := [(3, 0), (3, 1), (5, 0), (5, 1)]) S4.out (by decide) (by decide) (by decide))
  refine hC.out.mono ?_
  rintro e w14 ⟨rfl, S⟩
  have S5 := Lib.hid S
  clear S S4 hC
  go_wp2_with fail
  have hC := Lib.hid (kadd_no S5.out (1024) (by decide))
  refine hC.out.mono ?_
  rintro e w15 ⟨rfl, S⟩
  have S6 := Lib.hid S
  clear S S5 hC
  go_wp2_with fail
  have hC := Lib.hid (kadd_no S6.out (-1) (by decide))
  refine hC.out.mono ?_
  rintro e w16 ⟨rfl, S⟩
  have S7 := Lib.hid S
  clear S S6 hC
  go_wp2_with fail
  have hC := Lib.hid (kfree (n := 4) S7.out (by decide +kernel))
  refine hC.out.mono ?_
  rintro e w17 ⟨rfl, S⟩
  have S8 := Lib.hid S
  clear S S7 hC
  go_wp2_with fail
  go_loopw [5] (fun i wr => ∃ k : Nat, i = .int .i64 k ∧ ((k = 0 ∧ SK W b 2 (gL [3, 5]) (fL [(3, 0), (3, 1), (5, 0), (5, 1)]) wr) ∨ (k = 1 ∧ SK W b 2 (gL [3, 5]) (fL [(3, 1), (5, 0), (5, 1)]) wr) ∨ (k = 2 ∧ SK W b 2 (gL [3, 5]) (fL [(5, 0), (5, 1)]) wr) ∨ (k = 3 ∧ SK W b 2 (gL [3, 5]) (fL [(5, 1)]) wr))) (fun i _ => 3 - (intOf i).toNat)
  case atStart => exact ⟨0, rfl, .inl ⟨rfl, S8.out⟩⟩
  case round =>
    clear S8
    obtain ⟨k, rfl, ⟨rfl, HS⟩ | ⟨rfl, HS⟩ | ⟨rfl, HS⟩ | ⟨rfl, HS⟩⟩ := hrel
    · have hC := Lib.hid (ktake (p := 3) (s := 0) (l' := [(3, 1), (5, 0), (5, 1)]) HS hT'.out (by decide) (by decide))
      clear HS
      go_wp2_with fail
      refine hC.out.mono ?_
      rintro e w5 ⟨rfl, S⟩
      clear hC
      have H2 := Lib.hid (S.grow ((((Below.refl _ _).alloc (Nat.le_refl _) (.cells #[.int .i64 3, .int .i64 3, .int .i64 5] 3))).alloc (by simp) (.cells #[.int .i64 0, .int .i64 1, .int .i64 0] 3)))
      clear S
      go_wp2_with fail
      go_roundw
      case rel => exact ⟨1, rfl, .inr (.inl ⟨rfl, H2.out⟩)⟩
      case measure => decide
    · have hC := Lib.hid (ktake (p := 3) (s := 1) (l' := [(5, 0), (5, 1)]) HS hT'.out (by decide) (by decide))
      clear HS
      go_wp2_with fail
      refine hC.out.mono ?_
      rintro e w5 ⟨rfl, S⟩
      clear hC
      have H2 := Lib.hid (S.grow ((((Below.refl _ _).alloc (Nat.le_refl _) (.cells #[.int .i64 3, .int .i64 3, .int .i64 5] 3))).alloc (by simp) (.cells #[.int .i64 0, .int .i64 1, .int .i64 0] 3)))
      clear S
      go_wp2_with fail
      go_roundw
      case rel => exact ⟨2, rfl, .inr (.inr (.inl ⟨rfl, H2.out⟩))⟩
      case measure => decide
    · have hC := Lib.hid (ktake (p := 5) (s := 0) (l' := [(5, 1)]) HS hT'.out (by decide) (by decide))
      clear HS
      go_wp2_with fail
      refine hC.out.mono ?_
      rintro e w5 ⟨rfl, S⟩
      clear hC
      have H2 := Lib.hid (S.grow ((((Below.refl _ _).alloc (Nat.le_refl _) (.cells #[.int .i64 3, .int .i64 3, .int .i64 5] 3))).alloc (by simp) (.cells #[.int .i64 0, .int .i64 1, .int .i64 0] 3)))
      clear S
      go_wp2_with fail
      go_roundw
      case rel => exact ⟨3, rfl, .inr (.inr (.inr ⟨rfl, H2.out⟩))⟩
      case measure => decide
    · have S8 := Lib.hid HS
      clear HS
      go_wp2_with fail
      have hC := Lib.hid (kfree (n := 1) S8.out (by decide +kernel))
      refine hC.out.mono ?_
      rintro e w18 ⟨rfl, S⟩
      have S9 := Lib.hid S
      clear S S8 hC
      go_wp2_with fail
      have hC := Lib.hid (kput (p := 3) (s := 1) (l' := [(3, 1), (5, 1)]) S9.out (by decide) (by decide))
      refine hC.out.mono ?_
      rintro e w19 ⟨rfl, S⟩
      have S10 := Lib.hid S
      clear S S9 hC
      go_wp2_with fail
      have hC := Lib.hid (kput_no S10.out (3) (1) (by decide))
      refine hC.out.mono ?_
      rintro e w20 ⟨rfl, S⟩
      have S11 := Lib.hid S
      clear S S10 hC
      go_wp2_with fail
      have hC := Lib.hid (kput_no S11.out (4) (0) (by decide))
      refine hC.out.mono ?_
      rintro e w21 ⟨rfl, S⟩
      have S12 := Lib.hid S
      clear S S11 hC
      go_wp2_with fail
      have hC := Lib.hid (kput_no S12.out (5) (2) (by decide))
      refine hC.out.mono ?_
      rintro e w22 ⟨rfl, S⟩
      have S13 := Lib.hid S
      clear S S12 hC
      go_wp2_with fail
      have hC := Lib.hid (kput_no S13.out (5) (-1) (by decide))
      refine hC.out.mono ?_
      rintro e w23 ⟨rfl, S⟩
      have S14 := Lib.hid S
      clear S S13 hC
      go_wp2_with fail
      have hC := Lib.hid (kput_no S14.out (-1) (0) (by decide))
      refine hC.out.mono ?_
      rintro e w24 ⟨rfl, S⟩
      have S15 := Lib.hid S
      clear S S14 hC
      go_wp2_with fail
      have hC := Lib.hid (kwhole (v := false) S15.out (3) (by decide))
      refine hC.out.mono ?_
      rintro e w25 ⟨rfl, S⟩
      have S16 := Lib.hid S
      clear S S15 hC
      go_wp2_with fail
      have hC := Lib.hid (kwhole (v := false) S16.out (99999) (by decide))
      refine hC.out.mono ?_
      rintro e w26 ⟨rfl, S⟩
      have S17 := Lib.hid S
      clear S S16 hC
      go_wp2_with fail
      have hC := Lib.hid (ktake (p := 3) (s := 1) (l' := [(5, 1)]) S17.out hT'.out (by decide) (by decide))
      refine hC.out.mono ?_
      rintro e w27 ⟨rfl, S⟩
      have S18 := Lib.hid S
      clear S S17 hC
      go_wp2_with fail
      have hC := Lib.hid (kput (p := 5) (s := 0) (l' := [(5, 0), (5, 1)]) S18.out (by decide) (by decide))
      refine hC.out.mono ?_
      rintro e w28 ⟨rfl, S⟩
      have S19 := Lib.hid S
      clear S S18 hC
      go_wp2_with fail
      have hC := Lib.hid (kdrop (p := 5) (a' := [3]) (l' := []) S19.out (by decide) (by decide) (by decide))
      refine hC.out.mono ?_
      rintro e w29 ⟨rfl, S⟩
      have S20 := Lib.hid S
      clear S S19 hC
      go_wp2_with fail
      have hC := Lib.hid (kdrop_no S20.out (3) (by decide))
      refine hC.out.mono ?_
      rintro e w30 ⟨rfl, S⟩
      have S21 := Lib.hid S
      clear S S20 hC
      go_wp2_with fail
      have hC := Lib.hid (kdrop_no S21.out (5) (by decide))
      refine hC.out.mono ?_
      rintro e w31 ⟨rfl, S⟩
      have S22 := Lib.hid S
      clear S S21 hC
      go_wp2_with fail
      have hC := Lib.hid (kdrop_no S22.out (-1) (by decide))
      refine hC.out.mono ?_
      rintro e w32 ⟨rfl, S⟩
      have S23 := Lib.hid S
      clear S S22 hC
      go_wp2_with fail
      refine (copy S23.out.k).mono ?_
      rintro e w60 ⟨c, rfl, k1, k2, k3⟩
      have E1 := Lib.hid (And.intro (S23.out.grow k3) (show SK W c 2 (gL [3]) (fL []) w60 from ⟨k1, S23.out.bl.trans (k3.mono S23.out.bl.size), Nat.le_trans S23.out.bl.size k2⟩))
      have E2 := Lib.hid (show b ≠ c from by have := S23.out.k.lb; omega)
      clear k1 k2 k3 S23
      go_wp2_with fail
      refine (pages_any E1.out.1.k).mono ?_
      intro e w61 h
      rw [show setL (gL [3]) 1024 = [3] from by decide +kernel] at h
      obtain ⟨v, rfl, o, hB⟩ := h
      have o' := o
      rcases o.2 with ⟨_, e0⟩ | ⟨q, cap, cur, rfl, h1, h2, h3⟩
      · exact absurd e0 (by decide)
      have KN1 := Lib.hid (show KN W b c q [3] [3] [] [] w61 from ⟨E1.out.1.grow hB, E1.out.2.grow hB, World.ownsRow.cellAt o' 0 (by decide), E2.out, by have := E1.out.2.k.lb; omega, (Array.getElem?_eq_some_iff.1 h2).1⟩)
      clear o o' h1 h2 h3 hB E1 E2
      go_wp2_with fail
      refine (ntake w61).mono ?_
      rintro e w62 ⟨rfl, hb⟩
      have KN2 := Lib.hid (KN1.out.grow hb)
      clear hb KN1
      go_wp2_with fail
      refine (add_yes KN2.out.kc.k 7 (by decide)).mono ?_
      intro e w63 hx
      obtain ⟨rfl, hx1⟩ := KN2.out.kc.next hx
      have KN3 := Lib.hid (show KN W b c q [3] (7 :: [3]) [] ((7, 0) :: (7, 1) :: []) w63 from
        ⟨⟨KN2.out.kk.k.off hx.2.2 KN2.out.kd.1, KN2.out.kk.bl.trans (hx.2.2.below KN2.out.kk.bl.size KN2.out.kc.hb), KN2.out.kk.hb⟩, by rw [gL_add (a' := 7 :: [3]) (by decide), fL_add (l' := (7, 0) :: (7, 1) :: []) (by decide)] at hx1; exact hx1,
          (hx.2.2.cell (p := ⟨q, 0, none⟩) KN2.out.kd.2.2 KN2.out.kd.2.1).trans KN2.out.kq, KN2.out.kd.1, KN2.out.kd.2.1, Nat.lt_of_lt_of_le KN2.out.kd.2.2 hx.2.2.size⟩)
      have cq := KN3.out.kq
      clear hx hx1 KN2
      go_wp2_with fail
      refine (pages_any KN3.out.kk.k).mono ?_
      intro e w64 h
      rw [show setL (gL [3]) 1024 = [3] from by decide +kernel] at h
      obtain ⟨A, cc, rfl, _, hB⟩ := h.lst KN3.out.kk.k.lb
      have KN4 := Lib.hid (KN3.out.grow hB)
      clear h hB KN3 cq
      go_wp2_with fail
      refine (nadd 1 _).mono ?_
      rintro e w65 ⟨rfl, hb⟩
      have KN5 := Lib.hid (KN4.out.grow hb)
      clear hb KN4
      go_wp2_with fail
      refine (nput 1 0 _).mono ?_
      rintro e w66 ⟨rfl, hb⟩
      have KN6 := Lib.hid (KN5.out.grow hb)
      clear hb KN5
      go_wp2_with fail
      refine (ndrop 1 _).mono ?_
      rintro e w67 ⟨rfl, hb⟩
      have KN7 := Lib.hid (KN6.out.grow hb)
      clear hb KN6
      go_wp2_with fail
      refine (nwhole 1 _).mono ?_
      rintro e w68 ⟨rfl, hb⟩
      have KN8 := Lib.hid (KN7.out.grow hb)
      clear hb KN7
      go_wp2_with fail
      refine (nfree _).mono ?_
      rintro e w69 ⟨rfl, hb⟩
      have KN9 := Lib.hid (KN8.out.grow hb)
      clear hb KN8
      go_wp2_with fail
      refine (npages _).mono ?_
      rintro e w70 ⟨rfl, hb⟩
      have KN10 := Lib.hid (KN9.out.grow hb)
      clear hb KN9
      go_wp2_with fail
      refine (ncopy _).mono ?_
      rintro e w80 ⟨rfl, rfl⟩
      go_wp2_with fail
      refine (works_any _ (tab_grow hT'.out KN10.out.kk.bl)).mono ?_
      rintro e w81 ⟨rfl, hb⟩
      have hb' := Lib.hid (KN10.out.kk.bl.trans (hb.mono KN10.out.kk.bl.size))
      clear hb
      go_wp2
      go_ret
      exact ⟨rfl, hb'.out⟩
set_option maxRecDepth 100000 in
theorem lifted (os : Os) (started : os.Started) (H : Type) (enc : TypeId × Value → H) :
    ReturnsInHanded {} Tryd.checked os 6 .any (fun w args => (Rows.slotsKnownSpec.pre enc Tryd.prog Tryd.f6 [] false w args ∧ laidMetH Tryd.prog Rows.slotsKnownRow.laid w) ∧ sizedMet enc Tryd.prog Tryd.f6 (OpenSpec.ofChange Rows.slotsKnownSpec) false w args) (Rows.slotsKnownSpec.post enc Tryd.prog Tryd.f6 false true false false) := by
  refine returnsInHanded_of_change_and (C := Tryd.checked) (X := fun w _ => laidMetH Tryd.prog Rows.slotsKnownRow.laid w) (fun _ _ _ hh h => h.of_heap hh) own started (by kernel_rfl) Tryd.func6
    (ChangeSpec.witness_at (enc := enc) (C := Tryd.checked) (os := os) (X := fun w _ => laidMetH Tryd.prog Rows.slotsKnownRow.laid w) false (laidWorld os) #[] 8 rfl (by kernel_rfl) (by kernel_rfl) (by kernel_rfl) (by kernel_rfl) (by kernel_rfl) (laid_met os _)) ?_
  intro W base args ds gs before hval0 hW _ _ hL _
  have hval : ∀ (j : Nat) t v, Tryd.f6.params[j]? = some t → args[j]? = some v → Value.okWide Tryd.prog W .any base t v := hval0
  have hW' := hW
  obtain ⟨p, q, hA0, hV, rfl, hfz, hnd⟩ := hW
  have hA : DataW.TrodAll enc Tryd.prog W 0 (fun _ => true) true Tryd.f6.params.toList args.toList ds p := hA0
  rw [Tryd.params6] at hA hval
  obtain ⟨rfl, rfl, rfl⟩ := trodAll_none hA
  obtain ⟨rfl, rfl⟩ := trodVars_none hV
  clear hA0 hval0
  refine (walk  W (tabs_of_laid hL)).mono fun e W' ⟨he, bel⟩ => ?_
  subst he
  exact ⟨_, rfl, _, _, _, [], _, [], hW', trodAll_mk1 (shut_bool Tryd.underlying4 _), trodAll_mk0, rfl, bel.frame _, fun h => by cases h⟩
theorem over : Rows.SlotsKnownSaid :=
  OpenClaim.holds_of_wide 6 Tryd.f6 rfl rfl rfl rfl rfl rfl rfl ⟨rfl, rfl, rfl, rfl, rfl⟩ rfl rfl rfl rfl rfl (by kernel_rfl) Tryd.func6 (by kernel_rfl)
    (of_decide_eq_true (by kernel_rfl)) (by unfold Func.isWrapper; first | (rw [if_pos (by decide +kernel)]; kernel_rfl) | (rw [if_neg (by decide +kernel)]; exact ⟨rfl, rfl⟩))
    (fun os started H enc _ => lifted os started H enc)
/-- The given statement. -/
theorem proved : Rows.SlotsKnownCardSaid :=
  Claim7.holds_tied_plain_at .later [] [.data] true (true, "fbfa39f87344ef7d9078c9c525e3ce029ec122fbba40f77485a2ad5596f726c3") false
    over (fun _ h => by cases h) (by kernel_rfl) (fun _ h => by cases h) slotsKnown_row_tie rfl ⟨rfl, rfl⟩ (by kernel_rfl) rfl
    (fun f fn hf hfn => by
      obtain rfl : f = 6 := Option.some.inj ((show Tryd.prog.funcNamed "fallow/fallowlaw13.SlotsKnown" = some 6 by kernel_rfl).symm.trans hf) |>.symm
      obtain rfl : fn = Tryd.f6 := (Option.some.inj (Tryd.func6.symm.trans hfn)).symm
      exact ⟨by kernel_rfl, fun j t ht => by
        rw [Tryd.params6] at ht
        simp at ht⟩)
    (by kernel_rfl)
end Go.Proofs.YtkkjjdnlfdempaaDoor.sknown
