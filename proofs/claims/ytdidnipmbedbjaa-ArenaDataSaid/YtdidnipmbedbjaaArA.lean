/- Contracts of layer arena: own, granule, there, cut, lay. No statement is proved here. -/
import Derived.Test.YtdidnipmbedbjaaArM
import Derived.StillTailTactics
import Derived.Deep.RegionHeld3
namespace Go.Proofs.Ytdidnipmbedbjaa
open Go.RowKit
set_option linter.unusedVariables false

theorem own_any (a : Nat) (p A : Option Addr) (n c : Nat) (w : World) (h0 : w.cell? ⟨a, 0, none⟩ = some (.pointer p)) (h1 : w.cell? ⟨a, 1, none⟩ = some (.slice A n c)) (ha : a < w.heap.size) :
    Calls Try.prog 45 #[.pointer (some ⟨a, 0, none⟩)] w fun e w' => e = .returned (.agg #[.pointer p, .slice A n c]) ∧ Below w.heap.size w w' := by
  have hb := fun o => Lib.hid ((Below.refl w.heap.size w).alloc (Nat.le_refl _) o)
  go_enter Try.func45, Try.ntmps45
  go_wp2
  exact bodyPost_ret (v := .agg #[.pointer p, .slice A n c]) (by simp [results, Try.results45, go_sem]) rfl ⟨rfl, (hb _).out⟩
theorem own_nil (w : World) : Calls Try.prog 45 #[.pointer none] w fun e w' => e = .returned (.agg #[.pointer none, .slice none 0 0]) ∧ Below w.heap.size w w' := by
  have hb := fun o => Lib.hid ((Below.refl w.heap.size w).alloc (Nat.le_refl _) o)
  go_enter Try.func45, Try.ntmps45
  go_wp2
  exact bodyPost_ret (v := .agg #[.pointer none, .slice none 0 0]) (by simp [results, Try.results45, go_sem]) rfl ⟨rfl, (hb _).out⟩
theorem granule_any (v : Nat) (w : World) (lv : v < 4294967296) : Calls Try.prog 50 #[.int .u32 v] w fun e w' => e = .returned (.int .i64 (v / 16 : Nat)) ∧ w = w' := by
  go_enter Try.func50, Try.ntmps50
  go_wp2
  go_ret
  exact ⟨ret_int (by simp), rfl⟩
theorem granule_int (v : Int) (w : World) (h0 : 0 ≤ v) (lv : v < 4294967296) : Calls Try.prog 50 #[.int .u32 v] w fun e w' => e = .returned (.int .i64 (v / 16)) ∧ w = w' := by
  obtain ⟨v, rfl⟩ := Int.eq_ofNat_of_zero_le h0
  exact (granule_any v w (by omega)).mono fun e w' h => ⟨h.1.trans (ret_int (by simp)), h.2⟩
theorem there_none (S : Value) (at_ : Nat) (k : Int) (w : World) : Calls Try.prog 63 #[.agg #[.pointer none, S], .int .u32 at_, .int .i64 k] w fun e w' => e = .returned (.bool false) ∧ Below w.heap.size w w' := by
  have hb := fun o => Lib.hid ((Below.refl w.heap.size w).alloc (Nat.le_refl _) o)
  go_enter Try.func63, Try.ntmps63
  go_wp2
  go_ret
  exact ⟨rfl, (hb _).out⟩
/-- Are k bytes from at_ on there, in n? -/
def thr (n at_ : Nat) (k : Int) : Bool := decide (0 ≤ k) && decide ((at_ : Int) + k ≤ n)
theorem there_any (mb : Addr) (A : Option Addr) (n c at_ : Nat) (k : Int) (w : World) (ln : n ≤ 262144) (la : at_ < 4294967296) (hk : -9223372036854775808 ≤ k ∧ k < 9223372036854775808) :
    Calls Try.prog 63 #[.agg #[.pointer (some mb), .slice A n c], .int .u32 at_, .int .i64 k] w fun e w' => e = .returned (.bool (thr n at_ k)) ∧ Below w.heap.size w w' := by
  have hb := fun o => Lib.hid ((Below.refl w.heap.size w).alloc (Nat.le_refl _) o)
  obtain ⟨h1, h2⟩ := hk
  by_cases h0 : 0 ≤ k
  · have hs : IntKind.u64.wrap ((at_ : Int) + k) = (at_ : Int) + k := by rw [IntKind.wrap_u64]; omega
    have hk : IntKind.u64.wrap k = k := by rw [IntKind.wrap_u64]; omega
    have hT := Lib.hid (show thr n at_ k = decide ((at_ : Int) + k ≤ n) by simp [thr, h0])
    go_enter Try.func63, Try.ntmps63
    go_wp2
    go_ret
    refine ⟨ret_bool ?_, (hb _).out⟩
    rw [hT.out]
  · have hT := Lib.hid (show thr n at_ k = false by simp [thr, h0])
    go_enter Try.func63, Try.ntmps63
    go_wp2
    go_ret
    refine ⟨ret_bool ?_, (hb _).out⟩
    rw [hT.out]
set_option maxRecDepth 100000 in
theorem cut_pos (P : Value) (bb c n at_ k : Nat) (l : List UInt8) (w : World) (hl : l.length = n) (hc : n ≤ c) (h : at_ + k ≤ n) (ln : n ≤ 262144) (h0 : 0 < k) (hcell : ∀ j u, l[j]? = some u → w.cell? ⟨bb, j, none⟩ = some (vb u)) (hbb : bb < w.heap.size) :
    Calls Try.prog 64 #[.agg #[P, .slice (some ⟨bb, 0, none⟩) n c], .int .u32 at_, .int .i64 k] w fun e w' => e = .returned (.string ⟨((l.drop at_).take k).toArray⟩) ∧ Below w.heap.size w w' := by
  obtain ⟨w1, hw1⟩ : ∃ w1, w1 = w.alloc (.cells #[P, .slice (some ⟨bb, 0, none⟩) n c] 81) := ⟨_, rfl⟩
  have hb : Below w.heap.size w w1 := by rw [hw1]; exact (Below.refl _ w).alloc (Nat.le_refl _) _
  have hB := Lib.hid hb
  have hconv : (convert 28 9 (.slice (some ⟨bb, at_, none⟩) k (c - at_))).run Try.prog w1 = .ok (.string ⟨((l.drop at_).take k).toArray⟩) w1 := by
    have hlen : ((l.drop at_).take k).length = k := by simp; omega
    have := run_convert_bytes_back (P := Try.prog) w1 28 9 5 ⟨bb, at_, none⟩ (c - at_) ((l.drop at_).take k) Try.underlying28 Try.underlying5 Try.underlying9 (fun j hj => by
      rw [Addr.add_lit]
      rw [hb.cell (p := ⟨bb, at_ + j, none⟩) hbb]
      rw [hlen] at hj
      refine (hcell (at_ + j) _ ?_).trans rfl
      rw [List.getElem_take, List.getElem_drop]
      exact List.getElem?_eq_getElem _)
    rwa [hlen] at this
  rw [hw1] at hconv hB
  have i1 : (at_ : Int) < c := by omega
  have i2 : (k : Int) ≤ (c : Int) - at_ := by omega
  clear hw1 hb hcell
  go_enter Try.func64, Try.ntmps64
  go_wp2
  go_ret
  exact ⟨rfl, hB.out⟩
set_option maxRecDepth 100000 in
theorem cut_nil (P : Value) (bb c n at_ : Nat) (w : World) (hc : n ≤ c) (h : at_ ≤ n) (ln : n ≤ 262144) :
    Calls Try.prog 64 #[.agg #[P, .slice (some ⟨bb, 0, none⟩) n c], .int .u32 at_, .int .i64 0] w fun e w' => e = .returned (.string ⟨#[]⟩) ∧ Below w.heap.size w w' := by
  obtain ⟨w1, hw1⟩ : ∃ w1, w1 = w.alloc (.cells #[P, .slice (some ⟨bb, 0, none⟩) n c] 81) := ⟨_, rfl⟩
  have hb : Below w.heap.size w w1 := by rw [hw1]; exact (Below.refl _ w).alloc (Nat.le_refl _) _
  have hB := Lib.hid hb
  have hconv : ∀ off cp, (convert 28 9 (.slice (some ⟨bb, off, none⟩) 0 cp)).run Try.prog w1 = .ok (.string ⟨#[]⟩) w1 := fun off cp =>
    run_convert_bytes_back (P := Try.prog) w1 28 9 5 ⟨bb, off, none⟩ cp [] Try.underlying28 Try.underlying5 Try.underlying9 (fun j hj => absurd hj (by simp))
  rw [hw1] at hB hconv
  clear hw1 hb
  by_cases he : at_ = c
  · subst he
    obtain rfl : n = at_ := by omega
    have h1 := hconv 0 0
    clear hconv
    go_enter Try.func64, Try.ntmps64
    go_wp2
    go_ret
    exact ⟨rfl, hB.out⟩
  · have h1 := hconv at_ (c - at_)
    have i1 : (at_ : Int) < c := by omega
    clear hconv
    go_enter Try.func64, Try.ntmps64
    go_wp2
    go_ret
    exact ⟨rfl, hB.out⟩
end Go.Proofs.Ytdidnipmbedbjaa
