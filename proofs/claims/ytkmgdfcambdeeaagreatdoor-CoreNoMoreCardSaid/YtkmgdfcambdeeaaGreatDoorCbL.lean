/- A list that the program made, as a row; what an instruction leaves, said of lists (layer core's laws). Plain lemmas; no statement is proved here. -/
import Derived.Test.YtkmgdfcambdeeaaGreatDoorCbS
import Derived.Test.YtkmgdfcambdeeaaGreatDoorCbH
import Derived.Test.YtkmgdfcambdeeaaGreatDoorCbF
import Derived.Deep.MidRow
import Derived.BigQuiet
namespace Go.Proofs.YtkmgdfcambdeeaaGreatDoor
open Go.RowKit
set_option linter.unusedVariables false
theorem Bo.list {W w w' : World} {a mb wb bb c r rb tb : Nat} {f fr : Nat → Bool} {l lr : List UInt8} {L : List Rw} (h : Bo W a mb wb bb c r rb tb f l fr lr L w) {g0 : Nat} {v0 : List Value} (h0 : (⟨g0, v0⟩ : Rw) ∈ L) {M : List Cp} {v : Value} {ty : TypeId}
    (ho : w'.ownsRow w.heap.size ty 8 v M.length (fC M)) (k : Below w.heap.size w w') :
    ∃ A cap q, v = .slice A M.length cap ∧ (0 < M.length → A = some ⟨q, 0, none⟩) ∧ Bo W a mb wb bb c r rb tb f l fr lr (⟨q, fC M⟩ :: L) w' := by
  have hb := h.below k
  rcases ho.2 with ⟨rfl, hM⟩ | ⟨g, cap, cur, rfl, hg, hh, hn, hc, hs, ht⟩
  · obtain rfl : M = [] := List.eq_nil_of_length_eq_zero hM
    refine ⟨none, 0, g0, rfl, fun k => absurd k (by simp), ⟨hb.ar, hb.rf, h.d1, h.d2, h.d3, h.d4, h.lo, hb.bl, fun x hx => ?_, fun x hx => ?_⟩⟩
    · rcases List.mem_cons.1 hx with rfl | hx
      · have k := hb.rs _ h0
        exact ⟨k.1, k.2.1, fun j u hu => by simp [fC] at hu⟩
      · exact hb.rs x hx
    · rcases List.mem_cons.1 hx with rfl | hx
      · exact hb.ne ⟨g0, v0⟩ h0
      · exact hb.ne x hx
  · refine ⟨some ⟨g, 0, none⟩, cap, g, rfl, fun _ => rfl, ⟨hb.ar, hb.rf, h.d1, h.d2, h.d3, h.d4, h.lo, hb.bl, fun x hx => ?_, fun x hx => ?_⟩⟩
    · rcases List.mem_cons.1 hx with rfl | hx
      · refine ⟨(Array.getElem?_eq_some_iff.1 hh).1, fun j => ?_, fun j u hu => ?_⟩
        · simp [World.frozen?, hh]
        · have := ho.cells (g := g) rfl j u hu
          rwa [Addr.add_mid, Nat.zero_add] at this
      · exact hb.rs x hx
    · rcases List.mem_cons.1 hx with rfl | hx
      · have k1 := h.ar.la
        have k2 := h.ar.lb
        have k3 := h.ar.m.lb
        have k4 := h.ar.m.lw
        have k5 := h.rf.la
        have k6 := h.rf.lb
        have k7 := h.rf.lt
        have k8 := h.bl.size
        show W.heap.size ≤ g ∧ g ≠ a ∧ g ≠ mb ∧ g ≠ wb ∧ g ≠ bb ∧ g ≠ r ∧ g ≠ rb ∧ g ≠ tb
        omega
      · exact hb.ne x hx
theorem helM_in {f : Nat → Bool} {l : List UInt8} {y : Nat} (h : f y = true) (hy : y < 256) : ldC l f (16 * y) ∈ helM f l 256 :=
  List.mem_map.2 ⟨16 * y, by have := tgl_in (f := f) (a := 0) (j := y) (k := 256) (by simpa using h) hy; simpa using this, rfl⟩
theorem helM_of {f : Nat → Bool} {l : List UInt8} {c : Cp} (h : c ∈ helM f l 256) : ∃ y, y < 256 ∧ f y = true ∧ c = ldC l f (16 * y) := by
  obtain ⟨x, hx, rfl⟩ := List.mem_map.1 h
  obtain ⟨j, hj, rfl, hf⟩ := tgl_at hx
  exact ⟨j, hj, by simpa using hf, by simp⟩
theorem helM_fit {f : Nat → Bool} {l : List UInt8} {c : Cp} (h : c ∈ helM f l 256) : c.fit := by
  obtain ⟨y, _, _, rfl⟩ := helM_of h
  exact ldC_fit _ _ _
theorem nm_reg {F : List Cp} (hF : Fit F) {i : Ins} {f : Nat → Bool} {l : List UInt8} (h : doT F i 4096 = 0) (k : Nat) (hk : k < 16) (hv : (reg (doF F i 4096 f l) k).va = true) :
    reg (doF F i 4096 f l) k = reg F k ∨ (From F (reg (doF F i 4096 f l) k) ∨ reg (doF F i 4096 f l) k ∈ helM f l 256) := by
  rcases doF_from hF h k (by omega) hv with h1 | h1 | ⟨_, y, h2, h3, h4⟩
  · exact .inl h1.2
  · exact .inr (.inl h1)
  · refine .inr (.inr ?_)
    rw [h4]
    exact helM_in h3 (by omega)
theorem nm_pc {F : List Cp} (hF : Fit F) {i : Ins} {f : Nat → Bool} {l : List UInt8} (h : doT F i 4096 = 0) (hv : (reg (doF F i 4096 f l) 16).va = true) : From F (reg (doF F i 4096 f l) 16) := by
  rcases doF_from hF h 16 (by omega) hv with h1 | h1 | h1
  · omega
  · exact h1
  · omega
theorem nm_mem {F : List Cp} (hF : Fit F) {i : Ins} {f : Nat → Bool} {l : List UInt8} (hl : l.length = 4096) (h : doT F i 4096 = 0) (c : Cp) (hc : c ∈ helM (doG F i 4096 f) (doL F i 4096 l) 256) : From F c ∨ c ∈ helM f l 256 := by
  obtain ⟨y, hy, hg, rfl⟩ := helM_of hc
  rcases doG_from hF hl h (y := y) (by omega) hg with h1 | ⟨h1, h2⟩
  · exact .inl h1
  · rw [h2]
    exact .inr (helM_in h1 hy)
end Go.Proofs.YtkmgdfcambdeeaaGreatDoor
