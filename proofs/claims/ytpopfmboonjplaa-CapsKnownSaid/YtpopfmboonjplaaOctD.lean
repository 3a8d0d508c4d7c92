/- Contracts of Set, and of the document's Set. -/
import Derived.Test.YtpopfmboonjplaaOctC
import Derived.Deep.RegionHeld3
import Derived.Deep.RegionWith
namespace Go.Proofs.Ytpopfmboonjplaa
open Go.RowKit
set_option linter.unusedVariables false

theorem set_no (A : Option Addr) (n cap : Nat) (at_ k : Int) (v : Nat) (w : World) (hn : n ≤ 1000000000) (ha : at_ < 9223372036854775808) (h : inB n at_ k = false) :
    Calls Try.prog 72 #[.slice A n cap, .int .i64 at_, .int .i64 k, .int .u32 v] w fun e w' => e = .returned (.bool false) ∧ w = w' := by
  have hf := field_no A n cap at_ k w hn ha h
  have hl := lay_0 none 0 v w
  clear h
  go_enter Try.func72, Try.ntmps72
  go_wp2_with (first | (go_at_call 83; refine hf.mono ?_; rintro e w' ⟨rfl, rfl⟩) | (go_at_call 75; refine hl.mono ?_; rintro e w' ⟨rfl, rfl⟩))
  go_ret
  exact ⟨rfl, rfl⟩
theorem set_yes (b off n cap : Nat) (at_ k : Nat) (v : Nat) (w : World) (hn : n ≤ 1000000000) (hcap : n ≤ cap) (h : isW (k : Int) = true) (hb : at_ + k ≤ n) (hv : v < 4294967296)
    (hc : ∀ j, j < n → ∃ x, w.cell? ⟨b, off + j, none⟩ = some x) (hf : ∀ j, j < n → w.frozen? ⟨b, off + j, none⟩ = false) :
    Calls Try.prog 72 #[.slice (some ⟨b, off, none⟩) n cap, .int .i64 at_, .int .i64 k, .int .u32 v] w fun e w' => e = .returned (.bool true) ∧ layW w b (off + at_) (leB k v) = w' := by
  have hfi := field_yes b off n cap at_ k w hn hcap h hb
  have hl := Lib.hid (lay_any b (off + at_) k k v w h hv (fun j hj => by rw [Nat.add_assoc]; exact hc _ (by omega)) (fun j hj => by rw [Nat.add_assoc]; exact hf _ (by omega)))
  clear h hc hf
  go_enter Try.func72, Try.ntmps72
  go_wp2_with (first | (go_at_call 83; refine hfi.mono ?_; rintro e w' ⟨rfl, rfl⟩) | (go_at_call 75; refine hl.out.mono ?_; rintro e w' ⟨rfl, rfl⟩))
  go_ret
  exact ⟨rfl, rfl⟩

/-- The bytes behind Set. -/
def setB (l : List UInt8) (at_ k : Int) (v : Nat) : List UInt8 := if inB l.length at_ k then l.take at_.toNat ++ leB k.toNat v ++ l.drop (at_.toNat + k.toNat) else l
theorem setB_length (l : List UInt8) (at_ k : Int) (v : Nat) : (setB l at_ k v).length = l.length := by
  unfold setB
  split
  · rename_i h
    obtain ⟨hk, h0, h1⟩ := inB_yes h
    have := isW_cases hk
    simp [leB_length]; omega
  · rfl

/-- The block's cells from a place on are these bytes, none of them frozen. -/
def Has (w : World) (b off : Nat) (l : List UInt8) : Prop := ∀ j u, l[j]? = some u → w.cell? ⟨b, off + j, none⟩ = some (.int .u8 (u.toNat : Int)) ∧ w.frozen? ⟨b, off + j, none⟩ = false
def Only (b : Nat) (w w' : World) : Prop := ∀ q : Addr, q.block ≠ b → w'.cell? q = w.cell? q ∧ w'.frozen? q = w.frozen? q
theorem set_any (b off : Nat) (l tail : List UInt8) (cap : Nat) (at_ k : Int) (v : Nat) (w : World) (hn : l.length ≤ 1000000000) (hcap : l.length ≤ cap) (ha : at_ < 9223372036854775808) (hv : v < 4294967296) (h : Has w b off (l ++ tail)) :
    Calls Try.prog 72 #[.slice (some ⟨b, off, none⟩) l.length cap, .int .i64 at_, .int .i64 k, .int .u32 v] w fun e w' => e = .returned (.bool (inB l.length at_ k)) ∧ Has w' b off (setB l at_ k v ++ tail) ∧ Only b w w' ∧ Below b w w' := by
  unfold setB
  rcases hi : inB l.length at_ k with _ | _
  · refine (set_no (some ⟨b, off, none⟩) l.length cap at_ k v w hn ha hi).mono fun e w' ⟨h1, h2⟩ => ?_
    subst h2
    exact ⟨h1, h, fun _ _ => ⟨rfl, rfl⟩, Below.refl _ _⟩
  · obtain ⟨hk, h0, h1⟩ := inB_yes hi
    have hw := isW_cases hk
    obtain ⟨a, rfl⟩ := Int.eq_ofNat_of_zero_le h0
    obtain ⟨k, rfl⟩ := Int.eq_ofNat_of_zero_le (show 0 ≤ k by omega)
    have hb : a + k ≤ l.length := by omega
    have hget : ∀ j, j < l.length → ∃ u, (l ++ tail)[j]? = some u := fun j hj => ⟨(l ++ tail)[j]'(by simp; omega), List.getElem?_eq_getElem _⟩
    have hlen : (leB k v).length = k := leB_length k v
    refine (set_yes b off l.length cap a k v w hn hcap hk hb hv (fun j hj => by obtain ⟨u, hu⟩ := hget j hj; exact ⟨_, (h j u hu).1⟩) (fun j hj => by obtain ⟨u, hu⟩ := hget j hj; exact (h j u hu).2)).mono fun e w' ⟨h1, h2⟩ => ?_
    subst h2
    refine ⟨h1, fun j u hu => ⟨?_, ?_⟩, fun q hq => ⟨layW_off _ _ _ _ _ (fun e => absurd e hq), layW_frozen _ _ _ _ _⟩, layW_below (Nat.le_refl _) _ _ (Below.refl _ _)⟩
    · simp only [if_pos, Int.toNat_natCast] at hu
      by_cases h1 : a ≤ j ∧ j < a + k
      · have hu' : (leB k v)[j - a]? = some u := by
          rw [List.append_assoc, List.append_assoc, List.getElem?_append_right (by simp; omega), List.getElem?_append_left (by simp; omega)] at hu
          rw [← hu]; congr 1; simp; omega
        have := layW_at b (leB k v) (off + a) w (fun i hi => by obtain ⟨u, hu⟩ := hget (a + i) (by omega); exact ⟨_, by rw [Nat.add_assoc]; exact (h _ u hu).1⟩) (j - a) u hu'
        rw [← this]; congr 2; omega
      · rw [layW_off _ _ _ _ _ (fun _ _ => by simp; omega)]
        refine (h j u ?_).1
        rw [← hu]
        by_cases h2 : j < a
        · rw [List.append_assoc, List.append_assoc, List.getElem?_append_left (l₁ := l.take a) (by simp; omega), List.getElem?_append_left (by omega), List.getElem?_take, if_pos h2]
        · by_cases h3 : j < l.length
          · rw [List.getElem?_append_left h3, List.append_assoc, List.append_assoc, List.getElem?_append_right (by simp; omega), List.getElem?_append_right (by simp; omega), List.getElem?_append_left (by simp; omega), List.getElem?_drop]
            congr 1; simp; omega
          · rw [List.getElem?_append_right (by omega), List.append_assoc, List.append_assoc, List.getElem?_append_right (by simp; omega), List.getElem?_append_right (by simp; omega), List.getElem?_append_right (by simp; omega)]
            congr 1; simp; omega
    · rw [layW_frozen]
      have hj : j < (l ++ tail).length := by
        have := (List.getElem?_eq_some_iff.1 hu).1
        simp [hlen] at this
        simp; omega
      exact (h j _ (List.getElem?_eq_getElem hj)).2
theorem Has.drew {w : World} {b off : Nat} {l : List UInt8} (h : Has w b off l) : Has w.drew b off l := h
theorem Has.drewN {w : World} {b off : Nat} {l : List UInt8} (h : Has w b off l) (n : Nat) : Has (w.drewN n) b off l := h
theorem bw_has (w : World) (e : TypeId) (l : List UInt8) : Has (Lib.bytesWorld w e ⟨l.toArray⟩) w.heap.size 0 l := fun j u hu => by
  rw [Nat.zero_add]
  exact ⟨bw_cell w e l j u hu, bw_free w e l j (List.getElem?_eq_some_iff.1 hu).1⟩
theorem Has.below {w w' : World} {b off B : Nat} {l : List UInt8} (h : Has w b off l) (hb : Below B w w') (hB : b < B) : Has w' b off l := fun j u hu => by
  have := h j u hu
  exact ⟨(hb.cell (p := ⟨b, off + j, none⟩) hB).trans this.1, (hb.frozen (p := ⟨b, off + j, none⟩) hB).trans this.2⟩
theorem has_conv {w : World} {b : Nat} {l : List UInt8} (cap : Nat) (h : Has w b 0 l) :
    (convert 28 9 (.slice (some ⟨b, 0, none⟩) l.length cap)).run Try.prog w = .ok (.string ⟨l.toArray⟩) w :=
  run_convert_bytes_back (P := Try.prog) w 28 9 5 ⟨b, 0, none⟩ cap l Try.underlying28 Try.underlying5 Try.underlying9 (fun j hj => by
    rw [Addr.add_lit]
    exact (h j _ (List.getElem?_eq_getElem hj)).1)
end Go.Proofs.Ytpopfmboonjplaa
