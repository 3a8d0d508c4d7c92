/- Contracts of layer pages: own, there, find. No statement is proved here. -/
import Derived.Test.YtbabblnpjophdaaTagG
import Derived.Test.YtbabblnpjophdaaTagP
import Derived.Test.YtbabblnpjophdaaPgM
import Derived.WalkMore
namespace Go.Proofs.Ytbabblnpjophdaa
set_option maxRecDepth 100000
open Go.RowKit
set_option linter.unusedVariables false

/-- At block p stands a pool of n pages, its map at block b; f tells which are free. -/
structure PoolAt (W : World) (p b wb n : Nat) (f : Nat → Bool) : Prop where
  c0 : W.cell? ⟨p, 0, none⟩ = some (.pointer (some ⟨b, 0, none⟩))
  m : MapAt W b wb n f
  ne : p ≠ wb
  lp : p < W.heap.size
  le : n ≤ 1024
section
variable {W W' : World} {p b wb n B : Nat} {f g : Nat → Bool}
theorem PoolAt.below (h : PoolAt W p b wb n f) (hb : Below B W W') (h0 : p < B) (h1 : b < B) (h2 : wb < B) : PoolAt W' p b wb n f :=
  ⟨(hb.cell h0).trans h.c0, h.m.below hb h1 h2, h.ne, Nat.lt_of_lt_of_le h.lp hb.size, h.le⟩
theorem PoolAt.grow (h : PoolAt W p b wb n f) (hb : Below W.heap.size W W') : PoolAt W' p b wb n f := h.below hb h.lp h.m.lb h.m.lw
theorem PoolAt.drewN (h : PoolAt W p b wb n f) (k : Nat) : PoolAt (W.drewN k) p b wb n f := ⟨h.c0, h.m.drewN k, h.ne, h.lp, h.le⟩
theorem PoolAt.drew (h : PoolAt W p b wb n f) : PoolAt W.drew p b wb n f := ⟨h.c0, h.m.drew, h.ne, h.lp, h.le⟩
theorem PoolAt.next (h : PoolAt W p b wb n f) (o : Off W.heap.size wb W W') (m : MapAt W' b wb n g) : PoolAt W' p b wb n g :=
  ⟨(o.cell h.lp h.ne).trans h.c0, m, h.ne, Nat.lt_of_lt_of_le h.lp o.size, h.le⟩
theorem PoolAt.congr (h : PoolAt W p b wb n f) (e : ∀ k, f k = g k) : PoolAt W p b wb n g := ⟨h.c0, h.m.congr e, h.ne, h.lp, h.le⟩
end
/-- A call on a pool has answered v; the pool is as g tells; nothing else has turned. -/
def PNext (p b wb n : Nat) (g : Nat → Bool) (w : World) (v : Value) (e : Ending) (W' : World) : Prop :=
  e = .returned v ∧ PoolAt W' p b wb n g ∧ Off w.heap.size wb w W'

section
variable {p b wb n : Nat} {f : Nat → Bool} {w : World}
theorem pown (H : PoolAt w p b wb n f) : Calls Try.prog 21 #[.pointer (some ⟨p, 0, none⟩)] w fun e w' => e = .returned (.agg #[.pointer (some ⟨b, 0, none⟩)]) ∧ Below w.heap.size w w' := by
  have c0 := H.c0
  have lp := H.lp
  have hb := fun o => Lib.hid ((Below.refl w.heap.size w).alloc (Nat.le_refl _) o)
  clear H
  go_enter Try.func21, Try.ntmps21
  go_wp2
  exact bodyPost_ret (v := .agg #[.pointer (some ⟨b, 0, none⟩)]) (by simp [results, Try.results21, go_sem]) rfl ⟨rfl, (hb _).out⟩
theorem pown_nil (w : World) : Calls Try.prog 21 #[.pointer none] w fun e w' => e = .returned (.agg #[.pointer none]) ∧ Below w.heap.size w w' := by
  have hb := fun o => Lib.hid ((Below.refl w.heap.size w).alloc (Nat.le_refl _) o)
  go_enter Try.func21, Try.ntmps21
  go_wp2
  exact bodyPost_ret (v := .agg #[.pointer none]) (by simp [results, Try.results21, go_sem]) rfl ⟨rfl, (hb _).out⟩
/-- A place looked at: nothing turns. -/
theorem get_r (H : MapAt w b wb n f) (a : Int) : Calls Try.prog 30 #[.pointer (some ⟨b, 0, none⟩), .int .i64 a] w fun e w' => e = .returned (.bool (decide (0 ≤ a) && f a.toNat)) ∧ Below w.heap.size w w' := by
  by_cases h0 : 0 ≤ a
  · obtain ⟨k, rfl⟩ := Int.eq_ofNat_of_zero_le h0
    have e : (decide (0 ≤ (k : Int)) && f (k : Int).toNat) = f k := by simp
    rw [e]
    by_cases hk : k < n
    · exact (get_yes b wb n f k w H hk).mono fun e w' h => ⟨h.1, h.2.elim fun m hm => hm ▸ below_drewN (Below.refl _ _) m⟩
    · rw [H.off k (by omega)]
      exact (get_no b wb n f k w H (by omega)).mono fun e w' h => ⟨h.1, h.2.elim fun m hm => hm ▸ below_drewN (Below.refl _ _) m⟩
  · rw [decide_eq_false h0, Bool.false_and]
    exact (get_no b wb n f a w H (by omega)).mono fun e w' h => ⟨h.1, h.2.elim fun m hm => hm ▸ below_drewN (Below.refl _ _) m⟩
theorem get_n (H : MapAt w b wb n f) (k : Nat) : Calls Try.prog 30 #[.pointer (some ⟨b, 0, none⟩), .int .i64 k] w fun e w' => e = .returned (.bool (f k)) ∧ Below w.heap.size w w' := by
  have := get_r H k
  simpa using this
/-- Are so many pages from a on there? -/
def ptr (n : Nat) (a run : Int) : Bool := decide (0 ≤ a) && (decide (1 ≤ run) && decide (a ≤ n - run))
theorem pthere (H : MapAt w b wb n f) (a run : Int) (l1 : run ≤ 9223372036854775807) : Calls Try.prog 24 #[.agg #[.pointer (some ⟨b, 0, none⟩)], .int .i64 a, .int .i64 run] w fun e w' => e = .returned (.bool (ptr n a run)) ∧ Below w.heap.size w w' := by
  have hL := Lib.hid (fun w' (h : Below w.heap.size w w') => len_any b wb n f w' (H.below h H.lb H.lw))
  have ln := H.le
  have lb := H.lb
  have hb := fun o => Lib.hid ((Below.refl w.heap.size w).alloc (Nat.le_refl _) o)
  clear H
  by_cases h0 : 0 ≤ a
  · by_cases h1 : 1 ≤ run
    · have hT := Lib.hid (show ptr n a run = decide (a ≤ n - run) by simp [ptr, h0, h1])
      go_enter Try.func24, Try.ntmps24
      go_wp2_with fail
      refine (hL.out _ (hb _).out).mono ?_
      rintro e w' ⟨rfl, rfl⟩
      go_wp2
      go_ret
      exact ⟨ret_bool hT.out.symm, (hb _).out⟩
    · have hT := Lib.hid (show ptr n a run = false by simp [ptr, h1])
      have h1' : run < 1 := by omega
      clear hL
      go_enter Try.func24, Try.ntmps24
      go_wp2
      go_ret
      exact ⟨ret_bool hT.out.symm, (hb _).out⟩
  · have hT := Lib.hid (show ptr n a run = false by simp [ptr, h0])
    have h0' : a < 0 := by omega
    clear hL
    go_enter Try.func24, Try.ntmps24
    go_wp2
    go_ret
    exact ⟨ret_bool hT.out.symm, (hb _).out⟩
end
end Go.Proofs.Ytbabblnpjophdaa
