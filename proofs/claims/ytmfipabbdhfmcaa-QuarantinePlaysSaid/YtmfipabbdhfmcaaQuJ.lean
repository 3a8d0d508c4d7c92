/- Contracts of layer quarantine: slices.Insert of one region, whatever the row. No statement is proved here. -/
import Derived.Test.YtmfipabbdhfmcaaQuI
namespace Go.Proofs.Ytmfipabbdhfmcaa.Qu
set_option maxRecDepth 100000
open Go.RowKit Go.Shelf
set_option linter.unusedVariables false
section
variable {w w' : World} {base q : Nat} {L M : List Rg} {v lv : Value} {r : Rg}
theorem put_grow {c0 A R D : List Value} {a n : Nat} (hA : c0.take a = A) (hAl : A.length = a) (hR : R.length = 2) (hD : a + 2 + D.length = n) (hc : n ≤ c0.length) :
    (((c0.take a ++ R ++ c0.drop (a + 2)).take (a + 2) ++ D ++ (c0.take a ++ R ++ c0.drop (a + 2)).drop (a + 2 + D.length))).take n = A ++ R ++ D := by
  rw [hA]
  have h1 : (A ++ R ++ c0.drop (a + 2)).take (a + 2) = A ++ R := by
    rw [List.take_append_of_le_length (by rw [List.length_append]; omega), List.take_of_length_le (by rw [List.length_append]; omega)]
  rw [h1, List.take_append_of_le_length (by simp only [List.length_append]; omega), List.take_of_length_le (by simp only [List.length_append]; omega)]
set_option maxHeartbeats 8000000 in
/-- Ahead of others, and there is no room. -/
theorem ins_mid_grow {g cap k : Nat} (hown : w.ownsRow base 33 2 (.slice (some ⟨g, 0, none⟩) L.length cap) L.length (L.flatMap rgC)) (H : OneAt w q r) (hroom : cap < L.length + 1) (hk : k < L.length) (hl : L.length ≤ 20000) (hb : base ≤ w.heap.size) :
    Calls Try.prog 52 #[.slice (some ⟨g, 0, none⟩) L.length cap, .int .i64 (k : Int), .slice (some ⟨q, 0, none⟩) 1 1] w (InsPost base (.slice (some ⟨g, 0, none⟩) L.length cap) (L.take k ++ r :: L.drop k) w) := by
  obtain ⟨i0, hi, hz0, hz1, hz2⟩ := info_parts infoRg
  have hsz : (Try.prog.info? 33).map (·.size) = some 2 := by rw [hi]; simp [hz1]
  obtain ⟨cur, hbg, hg, hnc, hcm, hcs, htk⟩ := own_some hown
  have hgs : g < w.heap.size := (Array.getElem?_eq_some_iff.1 hg).1
  have hqs := H.lt
  have hTl : (L.take k).length = k := by rw [List.length_take]; omega
  have hold : (Builtin.firstCells i0.size k (.slice (some ⟨g, 0, none⟩) k cap)).run Try.prog w.drew = .ok ((L.take k).flatMap rgC).toArray w.drew := by
    rw [hz1]
    refine run_firstCells_some w.drew 2 k ⟨g, 0, none⟩ k cap _ (by rw [rgC_len, hTl]) (fun j u hj => ?_)
    rw [← rgC_take, List.getElem?_take] at hj
    split at hj
    · exact hown.cells rfl j u hj
    · cases hj
  have hkk : (L.length : Int) + 1 - (k : Int) = ((L.length + 1 - k : Nat) : Int) := by omega
  have hik : k + (L.length + 1 - k) = L.length + 1 := by omega
  obtain ⟨G, hG⟩ : ∃ G, G = grownCap w (L.length + 1) cap 33 := ⟨_, rfl⟩
  have hG1 : L.length + 1 ≤ G := by rw [hG]; exact grownCap_ge w _ _ _
  have hG2 : G ≤ maxLen := by rw [hG]; exact grownCap_le_maxLen w _ _ _ (by unfold maxLen; omega)
  obtain ⟨ROW, hROW⟩ : ∃ ROW : Array Value, ROW = ((L.take k).flatMap rgC).toArray ++ Builtin.zeroCells (Value.agg #[.int .u32 0, .int .u32 0]).cells (L.length + 1 - k) ++ Builtin.zeroCells (Value.agg #[.int .u32 0, .int .u32 0]).cells (G - (L.length + 1)) := ⟨_, rfl⟩
  have hRs : ROW.size = G * 2 := by
    rw [hROW, Array.size_append, Array.size_append, zc_len, zc_len, List.size_toArray, rgC_len, hTl]
    omega
  obtain ⟨W1, hW1⟩ : ∃ W1, W1 = w.drew.alloc (.cells ROW 33) := ⟨_, rfl⟩
  have hrz : ∀ ty, (Builtin.append_ #[65, 3] ty #[.slice (some ⟨g, 0, none⟩) k cap, .int .i64 ((L.length : Int) + 1 - (k : Int))]).run Try.prog w = .ok (.slice (some ⟨w.heap.size, 0, none⟩) (L.length + 1) G) W1 := fun ty => by
    have h := Lib.run_append_grow_zeros (P := Try.prog) w 65 3 ty 33 i0 _ .i64 .i64 Try.underlying65 Try.underlying3 hi hz0 (some ⟨g, 0, none⟩) k cap ((L.take k).flatMap rgC) hold (L.length + 1 - k) (by omega) (by omega) (by omega) (by omega) (by rw [hz2]; omega) (by rw [hz2, hik]; exact growslice_fits hroom (by omega))
    rw [hik, ← hG, ← hROW, ← hW1] at h
    rw [hkk]
    exact h
  have hN : W1.heap[w.heap.size]? = some (.cells ROW 33 (0, 0)) := by rw [hW1]; exact heap_alloc_new w.drew _
  have gW1 : w.grownBy W1 none := by rw [hW1]; exact gb_new w _ _
  have H1 : OneAt W1 q r := ⟨(gW1.block q hqs (by simp)).trans H.b⟩
  have hg1 : W1.heap[g]? = some (.cells cur 33 (0, 0)) := (gW1.block g hgs (by simp)).trans hg
  have hN' : W1.drew.heap[w.heap.size]? = some (.cells ROW 33 (0, 0)) := hN
  have hsrc2 : ∀ (W : World), W.heap[q]? = some (.cells #[.int .u32 (r.1 : Int), .int .u32 (r.2 : Int)] 33 (0, 0)) → ∀ j u, (rgC r)[j]? = some u → W.cell? ((⟨q, 0, none⟩ : Addr).add j) = some u := fun W h => OneAt.src ⟨h⟩
  have hcpA := fun ty dc => run_copy_two Try.prog W1 65 25 ty 33 w.heap.size (k * 2) (L.length + 1 - k) dc ⟨q, 0, none⟩ 1 1 1 ROW 33 (rgC r)
    Try.underlying65 hsz hN (by simp only [Nat.min_def]; split <;> omega) rfl H1.src (by show _ + 2 ≤ _; rw [hRs]; omega) (by intro u hu; exact rgC_one [r] u (by simpa using hu))
  obtain ⟨cur1, hc1⟩ : ∃ cur1 : List Value, cur1 = ROW.toList.take (k * 2) ++ rgC r ++ ROW.toList.drop (k * 2 + (rgC r).length) := ⟨_, rfl⟩
  rw [← hc1] at hcpA
  obtain ⟨W2, hW2⟩ : ∃ W2, W2 = W1.setRow w.heap.size cur1.toArray := ⟨_, rfl⟩
  rw [← hW2] at hcpA
  have hl1 : cur1.length = G * 2 := by
    rw [hc1]
    simp only [List.length_append, List.length_take, List.length_drop, Array.length_toList, hRs]
    show min _ _ + 2 + (_ - (_ + 2)) = _
    omega
  have hN2 : W2.heap[w.heap.size]? = some (.cells cur1.toArray 33 (0, 0)) := by rw [hW2]; exact setRow_heap W1 _ ROW _ 33 _ hN
  have hg2 : W2.heap[g]? = some (.cells cur 33 (0, 0)) := by rw [hW2]; exact (setRow_other W1 _ g _ (by omega)).trans hg1
  have own2 : W2.drew.ownsRow base 33 2 (.slice (some ⟨g, 0, none⟩) L.length cap) L.length (L.flatMap rgC) := own_keep hown fun g' hg' => by
    cases hg'
    exact (show W2.drew.heap[g]? = _ from hg2).trans hg.symm
  have hD : ((L.flatMap rgC).drop (k * 2)).length = (L.length - k) * 2 := by rw [List.length_drop, rgC_len, Nat.sub_mul]
  have hcpB := fun ty dc sc => run_copy_two Try.prog W2.drew 65 65 ty 33 w.heap.size ((k + 1) * 2) (L.length - k) dc ⟨g, k * 2, none⟩ (L.length - k) sc (L.length - k) cur1.toArray 33 ((L.flatMap rgC).drop (k * 2))
    Try.underlying65 hsz hN2 (by simp only [Nat.min_def]; split <;> omega) hD
    (fun j u hj => by
      rw [List.getElem?_drop] at hj
      have := own2.cells (g := g) rfl _ u hj
      rw [Addr.add_lit] at this ⊢
      rw [Nat.zero_add] at this
      exact this)
    (by rw [hD, List.size_toArray, hl1]; omega) (fun u hu => rgC_one L u (List.mem_of_mem_drop hu))
  have hLl : (L.take k ++ r :: L.drop k).length = L.length + 1 := by simp; omega
  obtain ⟨W3, hW3⟩ : ∃ W3, W3 = W2.drew.setRow w.heap.size (cur1.toArray.toList.take ((k + 1) * 2) ++ (L.flatMap rgC).drop (k * 2) ++ cur1.toArray.toList.drop ((k + 1) * 2 + ((L.flatMap rgC).drop (k * 2)).length)).toArray := ⟨_, rfl⟩
  rw [← hW3] at hcpB
  have hE := Lib.hid (show InsPost base (.slice (some ⟨g, 0, none⟩) L.length cap) (L.take k ++ r :: L.drop k) w (.returned (.slice (some ⟨w.heap.size, 0, none⟩) (L.length + 1) G)) W3 from by
    refine ⟨_, rfl, ⟨by rw [rgC_len], .inr ⟨w.heap.size, G, _, by rw [hLl], hb, by rw [hW3]; exact setRow_heap W2.drew _ _ _ 33 _ hN2, by rw [hLl]; exact hG1, hG2, ?_, ?_⟩⟩, ?_, fun k hk => .inr (by cases hk; exact Nat.le_refl _)⟩
    · simp only [List.size_toArray, List.length_append, List.length_take, List.length_drop, hl1, rgC_len]
      omega
    · rw [hLl]
      have hA : ROW.toList.take (k * 2) = (L.take k).flatMap rgC := by
        rw [hROW, Array.toList_append, Array.toList_append, List.append_assoc]
        exact List.take_left' (by rw [rgC_len, hTl])
      have := put_grow (c0 := ROW.toList) (A := (L.take k).flatMap rgC) (R := rgC r) (D := (L.flatMap rgC).drop (k * 2)) (a := k * 2) (n := (L.length + 1) * 2) hA (by rw [rgC_len, hTl]) rfl (by rw [hD]; omega) (by have := Array.length_toList (xs := ROW); omega)
      rw [show ROW.toList.take (k * 2) ++ rgC r ++ ROW.toList.drop (k * 2 + 2) = cur1 from hc1.symm, ← show (k + 1) * 2 = k * 2 + 2 by omega] at this
      rw [show cur1.toArray.toList = cur1 from rfl]
      rw [this, rgC_drop, List.flatMap_append, List.flatMap_cons, List.append_assoc]
    · refine ⟨?_, ?_, ?_, ?_, fun j hj hr => ?_⟩
      · rw [hW3, hW2, hW1]; rfl
      · rw [hW3, hW2, hW1]; rfl
      · rw [hW3, hW2, hW1]; rfl
      · rw [hW3, hW2, setRow_size]; show _ ≤ (W1.setRow _ _).heap.size; rw [setRow_size]; exact gW1.size
      · rw [hW3]
        refine (setRow_other W2.drew _ j _ (by omega)).trans ?_
        show W2.heap[j]? = _
        rw [hW2]
        exact (setRow_other W1 _ j _ (by omega)).trans (gW1.block j hj (by simp)))
  generalize InsPost base (.slice (some ⟨g, 0, none⟩) L.length cap) (L.take k ++ r :: L.drop k) w = F at *
  have hcap : cap ≤ 9223372036854775807 := by have := hcm; unfold maxLen at this; omega
  have hG63 : G ≤ 9223372036854775807 := by have := hG2; unfold maxLen at this; omega
  obtain ⟨N, hNN⟩ : ∃ N, N = w.heap.size := ⟨_, rfl⟩
  rw [← hNN] at hE hrz hcpA hcpB
  have hlb : L.length ≤ 20000 := hl
  clear hW1 hW2 hW3 htk hcs hg hg1 hown H H1 hcm hc1 hl1 hLl hD hi hz0 hz1 hz2 hsz hsrc2 hN hN' hN2 own2 hg2 gW1 hRs hROW hold hkk hik hG hG2 hTl hNN hgs hqs hl
  have hz3 : (cap : Int) < (L.length : Int) + 1 := by omega
  have hw1 : IntKind.i64.wrap ((k : Int) + 1) = (k : Int) + 1 := by rw [IntKind.wrap_i64]; omega
  have hkn : ¬ (k : Int) = L.length := by omega
  have hkn2 : ¬ k = L.length := by omega
  generalize L.length = n at *
  have hb1 : (0 : Int) ≤ (k : Int) + 1 := by omega
  have hin : k ≤ n := by omega
  have htn : ((k : Int) + 1).toNat = k + 1 := by rw [show (k : Int) + 1 = ((k + 1 : Nat) : Int) from rfl]; exact Int.toNat_natCast _
  have hb3 : (k : Int) ≤ (n : Int) := by omega
  have hb4 : ¬ (cap = k) := by omega
  have hGi : ¬ (G = k) := by omega
  have hGim : ¬ (G = k + 1) := by omega
  have mixed : Try.prog.follows .mixedOrders = true := by kernel_rfl
  have hE' := Lib.hid hE
  go_enter Try.func52, Try.ntmps52
  go_wp2_with (first
    | (at_builtin; refine Lib.wpList_append_run _ rfl _ _ _ _ rfl _ _ rfl rfl _ _ (hrz _) ?_)
    | (at_builtin; refine wpList_copy_runI _ rfl _ _ 65 25 rfl _ _ rfl rfl (hcpA _ _) ?_))
  go_region_law_o (refine step_copy_runI rfl _ _ 65 65 rfl _ _ (by simp [Act.eval, Act.put]) (by simp [Act.eval, Act.put]) (hcpB _ _ _) ?_)
  go_wp2
  exact hE.out
end
end Go.Proofs.Ytmfipabbdhfmcaa.Qu
