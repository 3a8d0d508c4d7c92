/- Contracts of layer slots: a book of one's own; works. No statement is proved here. -/
import Derived.Test.YtkkjjdnlfdempaaDoorSlH
namespace Go.Proofs.YtkkjjdnlfdempaaDoor
set_option maxRecDepth 100000
open Go.RowKit Go.Shelf
set_option linter.unusedVariables false
theorem Least.one {f : Nat → Nat → Bool} {p s p' s' : Nat} (h : Least f p s) (k : Least f p' s') : p = p' ∧ s = s' := by
  have e : p = p' := by
    rcases Nat.lt_trichotomy p p' with h1 | h1 | h1
    · have := k.pg p s h1; rw [h.is] at this; cases this
    · exact h1
    · have := h.pg p' s' h1; rw [k.is] at this; cases this
  subst e
  refine ⟨rfl, ?_⟩
  rcases Nat.lt_trichotomy s s' with h1 | h1 | h1
  · have := k.sl s h1; rw [h.is] at this; cases this
  · exact h1
  · have := h.sl s' h1; rw [k.is] at this; cases this
section
variable {W W' w w' : World} {b per c d n p s : Nat} {g g' : Nat → Bool} {f f' : Nat → Nat → Bool} {v : Value} {e : Ending}
theorem TakePost.some (h : Least f p s) (k : TakePost b per g f w e w') : BNext b per g (upd2 f p s false) w (.tuple #[.int .i64 (p : Int), .int .i64 (s : Int), .bool true]) e w' := by
  rcases k with ⟨h0, _⟩ | ⟨p', s', h1, k⟩
  · have := h0 p s; rw [h.is] at this; cases this
  · obtain ⟨rfl, rfl⟩ := h.one h1
    exact k
theorem TakePost.none (h : ∀ p s, f p s = false) (k : TakePost b per g f w e w') : e = .returned (.tuple #[.int .i64 0, .int .i64 0, .bool false]) ∧ Below w.heap.size w w' := by
  rcases k with ⟨_, h1⟩ | ⟨p', s', h1, _⟩
  · exact h1
  · have := h1.is; rw [h] at this; cases this
/-- A book of one's own. -/
structure SK (W : World) (b per : Nat) (g : Nat → Bool) (f : Nat → Nat → Bool) (w : World) : Prop where
  k : BookAt w b per g f
  bl : Below W.heap.size W w
  hb : W.heap.size ≤ b
theorem SK.fresh (h : Fresh per g f W e w') : ∃ b, e = .returned (.pointer (some ⟨b, 0, none⟩)) ∧ SK W b per g f w' := by
  obtain ⟨b, rfl, k, hb, bl⟩ := h
  exact ⟨b, rfl, k, bl, hb⟩
theorem SK.grow (S : SK W b per g f w) (k : Below w.heap.size w w') : SK W b per g f w' := ⟨S.k.grow k, S.bl.trans (k.mono S.bl.size), S.hb⟩
theorem SK.drew (S : SK W b per g f w) : SK W b per g f w.drew := S.grow (Below.refl _ _).drew
theorem SK.next (S : SK W b per g f w) (h : BNext b per g' f' w v e w') : e = .returned v ∧ SK W b per g' f' w' :=
  ⟨h.1, h.2.1, S.bl.trans (h.2.2.below S.bl.size S.hb), S.hb⟩
theorem add_yes (H : BookAt w b per g f) (p : Nat) (h : mayAdd g p = true) : Calls Tryd.prog 10 #[.pointer (some ⟨b, 0, none⟩), .int .i64 p] w (BNext b per (upd g p true) (updP f p (full per)) w (.bool true)) := by
  have := add_any H p
  rw [h] at this
  exact this
theorem add_no (H : BookAt w b per g f) (p : Int) (h : mayAdd g p = false) : Calls Tryd.prog 10 #[.pointer (some ⟨b, 0, none⟩), .int .i64 p] w (BNext b per g f w (.bool false)) := by
  have := add_any H p
  rw [h] at this
  exact this
theorem put_yes (H : BookAt w b per g f) (p s : Nat) (h : okPut per g f p s = true) : Calls Tryd.prog 14 #[.pointer (some ⟨b, 0, none⟩), .int .i64 p, .int .i64 s] w (BNext b per g (upd2 f p s true) w (.bool true)) := by
  have := put_any H p s
  rw [h] at this
  exact this
theorem put_no (H : BookAt w b per g f) (p s : Int) (h : okPut per g f p s = false) : Calls Tryd.prog 14 #[.pointer (some ⟨b, 0, none⟩), .int .i64 p, .int .i64 s] w (BNext b per g f w (.bool false)) := by
  have := put_any H p s
  rw [h] at this
  exact this
theorem drop_yes (H : BookAt w b per g f) (p : Nat) (h : okW per g f p = true) : Calls Tryd.prog 16 #[.pointer (some ⟨b, 0, none⟩), .int .i64 p] w (BNext b per (upd g p false) (updP f p (fun _ => false)) w (.bool true)) := by
  have := drop_any H p
  unfold okW at h
  rw [h] at this
  exact this
theorem drop_no (H : BookAt w b per g f) (p : Int) (h : okW per g f p = false) : Calls Tryd.prog 16 #[.pointer (some ⟨b, 0, none⟩), .int .i64 p] w (BNext b per g f w (.bool false)) := by
  have := drop_any H p
  unfold okW at h
  rw [h] at this
  exact this
theorem whole_yes (H : BookAt w b per g f) (p : Int) {x : Bool} (h : okW per g f p = x) : Calls Tryd.prog 21 #[.pointer (some ⟨b, 0, none⟩), .int .i64 p] w (BNext b per g f w (.bool x)) :=
  (whole H p).mono fun e w' k => by subst h; exact BNext.of_below H k.1 k.2
theorem free_yes (H : BookAt w b per g f) {n : Nat} (h : tot f 1024 = n) : Calls Tryd.prog 19 #[.pointer (some ⟨b, 0, none⟩)] w (BNext b per g f w (.int .i64 (n : Int))) :=
  (free_any H).mono fun e w' k => by subst h; exact BNext.of_below H k.1 k.2
theorem take_yes (H : BookAt w b per g f) (hT : TabAt 0 Lib.deBruijn32tab w) (h : Least f p s) : Calls Tryd.prog 12 #[.pointer (some ⟨b, 0, none⟩)] w (BNext b per g (upd2 f p s false) w (.tuple #[.int .i64 (p : Int), .int .i64 (s : Int), .bool true])) :=
  (take_any H hT).mono fun e w' k => k.some h
theorem take_no (H : BookAt w b per g f) (hT : TabAt 0 Lib.deBruijn32tab w) (h : ∀ p s, f p s = false) : Calls Tryd.prog 12 #[.pointer (some ⟨b, 0, none⟩)] w (BNext b per g f w (.tuple #[.int .i64 0, .int .i64 0, .bool false])) :=
  (take_any H hT).mono fun e w' k => BNext.of_below H (k.none h).1 (k.none h).2
def gN : Nat → Bool := fun _ => false
def fN : Nat → Nat → Bool := fun _ _ => false
theorem upd2_lt {q t : Nat} {x : Bool} (h : p ≠ q) : upd2 f p s x q t = f q t := by unfold upd2; rw [if_neg (fun e => h e.symm)]
set_option maxHeartbeats 2000000 in
theorem works_any (W : World) (hT : TabAt 0 Lib.deBruijn32tab W) : Calls Tryd.prog 9 #[] W fun e w' => e = .returned (.bool true) ∧ Below W.heap.size W w' := by
  obtain ⟨g1, hg1⟩ : ∃ g, g = upd gN 5 true := ⟨_, rfl⟩
  obtain ⟨f1, hf1⟩ : ∃ f, f = updP fN 5 (full 2) := ⟨_, rfl⟩
  obtain ⟨f2, hf2⟩ : ∃ f, f = upd2 f1 5 0 false := ⟨_, rfl⟩
  obtain ⟨f3, hf3⟩ : ∃ f, f = upd2 f2 5 1 false := ⟨_, rfl⟩
  obtain ⟨f4, hf4⟩ : ∃ f, f = upd2 f3 5 0 true := ⟨_, rfl⟩
  have off1 : ∀ q, q ≠ 5 → ∀ t, f1 q t = false := fun q h t => by rw [hf1, updP_ne _ _ h]; rfl
  have off2 : ∀ q, q ≠ 5 → ∀ t, f2 q t = false := fun q h t => by rw [hf2, upd2_lt (fun e => h e.symm), off1 q h]
  have l1 : Least f1 5 0 := ⟨by rw [hf1]; rfl, fun q t h => off1 q (by omega) t, fun t h => by omega⟩
  have l2 : Least f2 5 1 := ⟨by rw [hf2, hf1]; rfl, fun q t h => off2 q (by omega) t, fun t h => by
    have ht : t = 0 := by omega
    rw [ht, hf2]; rfl⟩
  have n3 : ∀ p s, f3 p s = false := fun p s => by
    by_cases hp : p = 5
    · subst hp
      rw [hf3, hf2, hf1]
      unfold upd2 updP
      simp only [if_true]
      unfold upd full
      by_cases h1 : s = 1
      · simp [h1]
      · by_cases h0 : s = 0
        · simp [h0]
        · simp [h1, h0]; omega
    · rw [hf3, upd2_lt (fun e => hp e.symm), off2 p hp]
  have a1 : mayAdd gN 5 = true := by decide
  have p1 : okPut 2 g1 f3 5 0 = true := by
    show (inP 5 && mayPut (g1 5) (f3 5) 2 0) = true
    rw [show mayPut (g1 5) (f3 5) 2 0 = (g1 5 && true && true && !f3 5 0) from rfl, n3, hg1]
    decide
  have t4 : tot f4 1024 = 1 := by rw [hf4, hf3, hf2, hf1]; decide +kernel
  have hNew := Lib.hid (new_yes 2 W (by decide))
  have K := Lib.hid (And.intro hT (And.intro l1 (And.intro l2 (And.intro n3 (And.intro a1 (And.intro p1 t4))))))
  clear hT l1 l2 n3 a1 p1 t4 off1 off2
  obtain ⟨a0, hb0⟩ : ∃ a : Nat, a = 0 := ⟨0, rfl⟩
  go_enter Tryd.func9, Tryd.ntmps9
  go_wp2_with fail
  refine hNew.out.mono ?_
  intro e w1 h
  obtain ⟨b, rfl, S1⟩ := SK.fresh h
  have S1 := Lib.hid S1
  have hA := Lib.hid (add_yes S1.out.k 5 K.out.2.2.2.2.1)
  clear h hNew
  go_wp2_with fail
  refine hA.out.mono ?_
  intro e w2 h
  obtain ⟨rfl, S2⟩ := S1.out.next h
  have S2 := Lib.hid (show SK W b 2 g1 f1 w2 from by rw [hg1, hf1]; exact S2)
  have hA2 := Lib.hid (take_yes S2.out.k (tab_grow K.out.1 S2.out.bl) K.out.2.1)
  clear h hA S1
  go_wp2_with fail
  refine hA2.out.mono ?_
  intro e w3 h
  obtain ⟨rfl, S3⟩ := S2.out.next h
  have S3 := Lib.hid (show SK W b 2 g1 f2 w3 from by rw [hf2]; exact S3)
  have hA3 := Lib.hid (take_yes S3.out.k (tab_grow K.out.1 S3.out.bl) K.out.2.2.1)
  clear h hA2 S2
  go_wp2_with fail
  refine hA3.out.mono ?_
  intro e w4 h
  obtain ⟨rfl, S4⟩ := S3.out.next h
  have S4 := Lib.hid (show SK W b 2 g1 f3 w4 from by rw [hf3]; exact S4)
  have hA4 := Lib.hid (take_no S4.out.k (tab_grow K.out.1 S4.out.bl) K.out.2.2.2.1)
  clear h hA3 S3
  go_wp2_with fail
  refine hA4.out.mono ?_
  intro e w5 h
  obtain ⟨rfl, S5⟩ := S4.out.next h
  have S5 := Lib.hid S5
  have hA5 := Lib.hid (put_yes S5.out.k 5 0 K.out.2.2.2.2.2.1)
  clear h hA4 S4
  go_wp2_with fail
  refine hA5.out.mono ?_
  intro e w6 h
  obtain ⟨rfl, S6⟩ := S5.out.next h
  have S6 := Lib.hid (show SK W b 2 g1 f4 w6 from by rw [hf4]; exact S6)
  have hA6 := Lib.hid (free_yes S6.out.k K.out.2.2.2.2.2.2)
  clear h hA5 S5
  go_wp2_with fail
  refine hA6.out.mono ?_
  intro e w7 h
  obtain ⟨rfl, S7⟩ := S6.out.next h
  have S7 := Lib.hid S7
  clear h hA6 S6
  go_wp2
  go_ret
  exact ⟨rfl, S7.out.bl⟩
end
end Go.Proofs.YtkkjjdnlfdempaaDoor
