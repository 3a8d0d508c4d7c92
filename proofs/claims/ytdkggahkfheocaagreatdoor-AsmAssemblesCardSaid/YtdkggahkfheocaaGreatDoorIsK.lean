/- Words for an instruction by value and in a box. Plain lemmas; no statement is proved here. -/
import Derived.Test.YtdkggahkfheocaaGreatDoorIsA
namespace Go.Proofs.YtdkggahkfheocaaGreatDoor
open Go.RowKit
set_option linter.unusedVariables false

/-- An instruction by value, and in a row of cells. -/
def iv (i : Ins) : Value := .agg #[.int .i64 i.op, .int .i64 i.a, .int .i64 i.b, .int .i64 i.c, .int .i64 i.m]
def ir (op a b c m : Int) : List Value := [.int .i64 op, .int .i64 a, .int .i64 b, .int .i64 c, .int .i64 m]
theorem KR.set5 {W w : World} {L : List Rw} {g : Nat} {v0 v1 v2 v3 v4 : Value} (h : KR W (⟨g, [v0, v1, v2, v3, v4]⟩ :: L) w) (hg : W.heap.size ≤ g) (hn : ∀ x, x ∈ L → x.g ≠ g) (u0 u1 u2 u3 u4 : Value) :
    KR W (⟨g, [u0, u1, u2, u3, u4]⟩ :: L) (((((w.setCell ⟨g, 0, none⟩ u0).setCell ⟨g, 1, none⟩ u1).setCell ⟨g, 2, none⟩ u2).setCell ⟨g, 3, none⟩ u3).setCell ⟨g, 4, none⟩ u4) :=
  ((((h.set hg hn 0 u0 (by simp)).set hg hn 1 u1 (by simp)).set hg hn 2 u2 (by simp)).set hg hn 3 u3 (by simp)).set hg hn 4 u4 (by simp)
theorem KR.cells5 {W w : World} {L : List Rw} {g : Nat} {v0 v1 v2 v3 v4 : Value} (h : KR W L w) (hx : (⟨g, [v0, v1, v2, v3, v4]⟩ : Rw) ∈ L) :
    w.cell? ⟨g, 0, none⟩ = some v0 ∧ w.cell? ⟨g, 1, none⟩ = some v1 ∧ w.cell? ⟨g, 2, none⟩ = some v2 ∧ w.cell? ⟨g, 3, none⟩ = some v3 ∧ w.cell? ⟨g, 4, none⟩ = some v4 ∧ ∀ j, w.frozen? ⟨g, j, none⟩ = false :=
  ⟨h.cell _ hx rfl, h.cell _ hx rfl, h.cell _ hx rfl, h.cell _ hx rfl, h.cell _ hx rfl, h.soft hx⟩
def DecPost (W : World) (x : Int) (e : Ending) (w' : World) : Prop := e = .returned (iv (decW x)) ∧ Below W.heap.size W w'
theorem DecPost.mk {W w' : World} {x : Int} {i : Ins} {e : Ending} (h : i = decW x) (he : e = .returned (iv i)) (k : Below W.heap.size W w') : DecPost W x e w' := ⟨by rw [he, h], k⟩
theorem dec_no {x : Int} {i : Ins} (hr : rdW x = i) (h : mayB i = false) : Ins.zero = decW x := by
  unfold decW; rw [hr, if_neg (fun k => by rw [h] at k; cases k.1)]
theorem dec_un {x : Int} {i : Ins} (hr : rdW x = i) (h : encW i ≠ x) : Ins.zero = decW x := by
  unfold decW; rw [hr, if_neg (fun k => h k.2)]
theorem dec_yes {x : Int} {i : Ins} (hr : rdW x = i) (h : mayB i = true) (he : encW i = x) : i = decW x := by
  unfold decW; rw [hr, if_pos ⟨h, he⟩]
/-- What a call leaves that tells a word and a number. -/
def EncPost (W : World) (i : Ins) (e : Ending) (w' : World) : Prop := e = .returned (.tuple #[.int .u32 (if mayB i then encW i else 0), .int .i64 (if mayB i then 0 else 2)]) ∧ Below W.heap.size W w'
theorem EncPost.yes {W w' : World} {i : Ins} {x : Int} {e : Ending} (h : mayB i = true) (hx : x = encW i) (he : e = .returned (.tuple #[.int .u32 x, .int .i64 0])) (k : Below W.heap.size W w') : EncPost W i e w' := by
  subst he hx
  unfold EncPost
  rw [h]
  exact ⟨rfl, k⟩
theorem EncPost.no {W w' : World} {i : Ins} {e : Ending} (h : mayB i = false) (he : e = .returned (.tuple #[.int .u32 0, .int .i64 2])) (k : Below W.heap.size W w') : EncPost W i e w' := by
  subst he
  unfold EncPost
  rw [h]
  exact ⟨rfl, k⟩
theorem EncPost.at_yes {W w' : World} {i : Ins} {e : Ending} (h : EncPost W i e w') (hm : mayB i = true) : e = .returned (.tuple #[.int .u32 (encW i), .int .i64 0]) ∧ Below W.heap.size W w' := by
  unfold EncPost at h
  rw [hm] at h
  exact h
theorem EncPost.at_no {W w' : World} {i : Ins} {e : Ending} (h : EncPost W i e w') (hm : mayB i = false) : e = .returned (.tuple #[.int .u32 0, .int .i64 2]) ∧ Below W.heap.size W w' := by
  unfold EncPost at h
  rw [hm] at h
  exact h
theorem ret_word {a b n : Int} (h : a = b) : Ending.returned (.tuple #[.int .u32 a, .int .i64 n]) = .returned (.tuple #[.int .u32 b, .int .i64 n]) := by rw [h]
end Go.Proofs.YtdkggahkfheocaaGreatDoor
