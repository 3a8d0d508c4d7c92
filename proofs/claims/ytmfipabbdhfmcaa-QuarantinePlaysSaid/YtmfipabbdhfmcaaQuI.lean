/- Contracts of layer quarantine: slices.Insert of one region. No statement is proved here. -/
import Derived.Test.YtmfipabbdhfmcaaQuR
import Derived.Shelf.Spec.SlicesInsert
import Derived.Deep.DeepCutAuto
namespace Go.Proofs.Ytmfipabbdhfmcaa.Qu
set_option maxRecDepth 100000
open Go.RowKit Go.Shelf
set_option linter.unusedVariables false
theorem run_append_room_two (P : Program) (w : World) (t tx ty e : TypeId) (i : TypeInfo) (ht : P.underlying t = some (.slice e)) (hi : P.info? e = some i) (hsz : i.size = 2) (g n cap : Nat) (cur : Array Value) (T : TypeId)
    (hg : w.heap[g]? = some (.cells cur T (0, 0))) (x : Value) (m : Nat) (news : List Value) (hs : Src P i.size tx x m news w) (hroom : n + m ≤ cap) (hfit : n * 2 + news.length ≤ cur.size) :
    (Builtin.append_ #[t, tx] ty #[.slice (some ⟨g, 0, none⟩) n cap, x]).run P w = .ok (.slice (some ⟨g, 0, none⟩) (n + m) cap) (w.setRow g (cur.toList.take (n * 2) ++ news ++ cur.toList.drop (n * 2 + news.length)).toArray) := by
  have hst := run_storeCells_at P g (n * 2) T news 0 cur w hg (by simpa using hfit) hs.one
  simp only [Nat.add_zero] at hst
  have hc := hs.cells
  rw [hsz] at hc
  rcases hs.kind with ⟨e', hk⟩ | hk <;> simp [Builtin.append_, run_underlying ht, run_underlying hk, sizeOf, typeInfo, hi, hs.len, hroom, hc, hsz, Addr.add_lit, hst]
section
variable {w w' : World} {base q : Nat} {L M : List Rg} {v lv : Value} {r : Rg}
/-- The block that a call lays its one region in. -/
structure OneAt (w : World) (q : Nat) (r : Rg) : Prop where
  b : w.heap[q]? = some (.cells #[.int .u32 (r.1 : Int), .int .u32 (r.2 : Int)] 33 (0, 0))
theorem OneAt.src (H : OneAt w q r) : ∀ j u, (rgC r)[j]? = some u → w.cell? ((⟨q, 0, none⟩ : Addr).add j) = some u := by
  intro j u hu
  rw [Addr.add_lit]
  match j, hu with
  | 0, hu => simp [rgC] at hu; subst hu; simp [World.cell?, H.b]
  | 1, hu => simp [rgC] at hu; subst hu; simp [World.cell?, H.b]
theorem OneAt.lt (H : OneAt w q r) : q < w.heap.size := (Array.getElem?_eq_some_iff.1 H.b).1
theorem rg_src (H : OneAt w q r) : Src Try.prog 2 25 (.slice (some ⟨q, 0, none⟩) 1 1) 1 (rgC r) w :=
  Src.ofSlice w Try.underlying25 ⟨q, 0, none⟩ 1 1 (rgC r) rfl H.src (by intro u hu; exact rgC_one [r] u (by simpa using hu))
theorem gb_row (w : World) (g : Nat) (cs : Array Value) : w.grownBy (w.setRow g cs) (some g) := ⟨rfl, rfl, rfl, by simp, fun k _ hk => setRow_other w g k _ (fun e => hk (by simp [e]))⟩
set_option maxHeartbeats 4000000 in
/-- At the end, and there is room. -/
theorem ins_end_room {g cap : Nat} (hown : w.ownsRow base 33 2 (.slice (some ⟨g, 0, none⟩) L.length cap) L.length (L.flatMap rgC)) (H : OneAt w q r) (hroom : L.length + 1 ≤ cap) :
    Calls Try.prog 52 #[.slice (some ⟨g, 0, none⟩) L.length cap, .int .i64 (L.length : Int), .slice (some ⟨q, 0, none⟩) 1 1] w (InsPost base (.slice (some ⟨g, 0, none⟩) L.length cap) (L ++ [r]) w) := by
  obtain ⟨i0, hi, hz0, hz1, hz2⟩ := info_parts infoRg
  obtain ⟨cur, hb, hg, hnc, hcm, hcs, htk⟩ := own_some hown
  have hr := fun ty => run_append_room_two Try.prog w 65 25 ty 33 i0 Try.underlying65 hi hz1 g L.length cap cur 33 hg (.slice (some ⟨q, 0, none⟩) 1 1) 1 (rgC r) (by rw [hz1]; exact rg_src H) hroom (by show _ + 2 ≤ _; omega)
  have hE := Lib.hid (show InsPost base (.slice (some ⟨g, 0, none⟩) L.length cap) (L ++ [r]) w (.returned (.slice (some ⟨g, 0, none⟩) (L.length + 1) cap)) (w.setRow g (cur.toList.take (L.length * 2) ++ rgC r ++ cur.toList.drop (L.length * 2 + (rgC r).length)).toArray) from by
    refine ⟨_, rfl, ⟨?_, .inr ⟨g, cap, _, ?_, hb, setRow_heap w g cur _ 33 _ hg, ?_, hcm, ?_, ?_⟩⟩, gb_row _ _ _, fun k hk => .inl hk⟩
    · rw [rgC_len]
    · rw [List.length_append]; rfl
    · rw [List.length_append]; exact hroom
    · simp only [List.size_toArray, List.length_append, List.length_take, List.length_drop, Array.length_toList, hcs]
      show min _ _ + 2 + (_ - (_ + 2)) = _
      omega
    · rw [htk, List.length_append, List.flatMap_append, show ([r] : List Rg).flatMap rgC = rgC r by simp, show (L.length + [r].length) * 2 = (L.flatMap rgC ++ rgC r).length by rw [List.length_append, rgC_len]; show _ = _ + 2; simp only [List.length_cons, List.length_nil]; omega]
      exact List.take_left)
  obtain ⟨W1, hW1⟩ : ∃ W1, W1 = w.setRow g (cur.toList.take (L.length * 2) ++ rgC r ++ cur.toList.drop (L.length * 2 + (rgC r).length)).toArray := ⟨_, rfl⟩
  rw [← hW1] at hE
  have hr' := Lib.hid (fun ty => (hr ty).trans (by rw [← hW1]))
  generalize InsPost base (.slice (some ⟨g, 0, none⟩) L.length cap) (L ++ [r]) w = F at *
  have hlen : L.length ≤ 9223372036854775806 := by have := hcm; unfold maxLen at this; omega
  have hcap : cap ≤ 9223372036854775807 := by have := hcm; unfold maxLen at this; omega
  clear hr hW1 htk hcs hg hown H hcm
  generalize L.length = n at *
  go_enter Try.func52, Try.ntmps52
  go_wp2_with (at_builtin; refine Lib.wpList_append_run _ rfl _ _ 65 25 rfl _ _ rfl rfl _ _ (hr'.out _) ?_)
  exact hE.out
theorem zc_len (k : Nat) : (Builtin.zeroCells (Value.agg #[.int .u32 0, .int .u32 0]).cells k).size = k * 2 := by simp [Builtin.zeroCells, Value.cells]
theorem gb_new (w : World) (o : Obj) (row : Option Nat) : w.grownBy (w.drew.alloc o) row := ⟨rfl, rfl, rfl, by simp, fun k hk _ => by
  show ((w.drew.alloc o).heap)[k]? = _
  exact Below.heap_alloc w.drew o k hk⟩
/-- A row laid anew. -/
theorem row_new (w : World) (M : List Rg) (G : Nat) (rest : Array Value) (hG : M.length ≤ G) (hm : G ≤ maxLen) (hr : rest.size = (G - M.length) * 2) (hb : base ≤ w.heap.size) :
    (w.drew.alloc (.cells ((M.flatMap rgC).toArray ++ rest) 33)).ownsRow base 33 2 (.slice (some ⟨w.heap.size, 0, none⟩) M.length G) M.length (M.flatMap rgC) := by
  refine ⟨rgC_len M, .inr ⟨w.heap.size, G, _, rfl, hb, heap_alloc_new w.drew _, hG, hm, ?_, ?_⟩⟩
  · rw [Array.size_append, List.size_toArray, rgC_len, hr, Nat.sub_mul]
    have := Nat.mul_le_mul_right 2 hG
    omega
  · rw [Array.toList_append, ← rgC_len M]
    exact List.take_left
set_option maxHeartbeats 4000000 in
/-- At the end, and there is no room. -/
theorem ins_end_grow {A : Option Addr} {cap : Nat} (hown : w.ownsRow base 33 2 (.slice A L.length cap) L.length (L.flatMap rgC)) (H : OneAt w q r) (hroom : cap < L.length + 1) (hl : L.length ≤ 20000) (hb : base ≤ w.heap.size) :
    Calls Try.prog 52 #[.slice A L.length cap, .int .i64 (L.length : Int), .slice (some ⟨q, 0, none⟩) 1 1] w (InsPost base (.slice A L.length cap) (L ++ [r]) w) := by
  obtain ⟨i0, hi, hz0, hz1, hz2⟩ := info_parts infoRg
  have hle : (L ++ [r]).length = L.length + 1 := by simp
  have hf : (L ++ [r]).flatMap rgC = L.flatMap rgC ++ rgC r := by simp
  have hold : (Builtin.firstCells i0.size L.length (.slice A L.length cap)).run Try.prog w.drew = .ok (L.flatMap rgC).toArray w.drew := by
    rw [hz1]
    cases A with
    | none =>
      rcases hown.2 with ⟨e, h0⟩ | ⟨g, cap', cur, e, _⟩
      · have : L = [] := List.length_eq_zero_iff.1 h0
        subst this
        exact run_firstCells_none w.drew 2 0 0 cap
      · cases e
    | some a =>
      refine run_firstCells_some w.drew 2 L.length a L.length cap (L.flatMap rgC) (rgC_len L) (fun j u hj => ?_)
      rcases hown.2 with ⟨e, h0⟩ | ⟨g, cap', cur, e, _⟩
      · cases e
      · cases e
        exact hown.cells rfl j u hj
  have hr := fun ty => run_append_grow_src (P := Try.prog) w 65 25 ty 33 i0 _ Try.underlying65 hi hz0 A L.length cap (L.flatMap rgC) hold (.slice (some ⟨q, 0, none⟩) 1 1) 1 (rgC r) (by rw [hz1]; exact rg_src H) hroom (by omega) (by rw [hz2]; exact growslice_fits hroom (by omega))
  obtain ⟨G, hG⟩ : ∃ G, G = grownCap w (L.length + 1) cap 33 := ⟨_, rfl⟩
  have hG1 : (L ++ [r]).length ≤ G := by rw [hle, hG]; exact grownCap_ge w _ _ _
  have hG2 : G ≤ maxLen := by rw [hG]; exact grownCap_le_maxLen w _ _ _ (by unfold maxLen; omega)
  rw [← hG, ← hf] at hr
  have hE := Lib.hid (show InsPost base (.slice A L.length cap) (L ++ [r]) w (.returned (.slice (some ⟨w.heap.size, 0, none⟩) (L.length + 1) G)) (w.drew.alloc (.cells (((L ++ [r]).flatMap rgC).toArray ++ Builtin.zeroCells (Value.agg #[.int .u32 0, .int .u32 0]).cells (G - (L.length + 1))) 33)) from by
    refine ⟨_, rfl, ?_, gb_new _ _ _, fun k hk => .inr (by cases hk; exact Nat.le_refl _)⟩
    rw [← hle]
    exact row_new w (L ++ [r]) G _ hG1 hG2 (zc_len _) hb)
  obtain ⟨W1, hW1⟩ : ∃ W1, W1 = w.drew.alloc (.cells (((L ++ [r]).flatMap rgC).toArray ++ Builtin.zeroCells (Value.agg #[.int .u32 0, .int .u32 0]).cells (G - (L.length + 1))) 33) := ⟨_, rfl⟩
  rw [← hW1] at hE
  have hr' := Lib.hid (fun ty => (hr ty).trans (by rw [← hW1]))
  generalize InsPost base (.slice A L.length cap) (L ++ [r]) w = F at *
  have hA : (∃ g, A = some ⟨g, 0, none⟩) ∨ (A = none ∧ L.length = 0 ∧ cap = 0) := by
    rcases hown.2 with ⟨e, h0⟩ | ⟨g, cap', cur, e, _⟩
    · injection e with e1 e2 e3
      exact .inr ⟨e1, h0, e3⟩
    · cases e; exact .inl ⟨_, rfl⟩
  have hnc : L.length ≤ cap := by
    rcases hown.2 with ⟨e, h0⟩ | ⟨g, cap', cur, e, _, _, h, _⟩
    · omega
    · cases e; exact h
  have hcap : cap ≤ 9223372036854775807 := by omega
  clear hr hW1 hown H hold hf hle hG1 hG2 hG hi hz0 hz1 hz2
  generalize L.length = n at *
  rcases hA with ⟨g, rfl⟩ | ⟨rfl, rfl, rfl⟩
  · go_enter Try.func52, Try.ntmps52
    go_wp2_with (at_builtin; refine Lib.wpList_append_run _ rfl _ _ 65 25 rfl _ _ rfl rfl _ _ (hr'.out _) ?_)
    exact hE.out
  · go_enter Try.func52, Try.ntmps52
    go_wp2_with (at_builtin; refine Lib.wpList_append_run _ rfl _ _ 65 25 rfl _ _ rfl rfl _ _ (hr'.out _) ?_)
    exact hE.out
/-- One region put into a row, its cells. -/
theorem put_two {cur xs R rest0 : List Value} {n a : Nat} (hR : R.length = 2) (hx : cur.take n = xs) (hxl : xs.length = n) (ha : a ≤ n) (hc : n + 2 ≤ cur.length) :
    ((((cur.take (a + 2) ++ xs.drop a ++ cur.drop (a + 2 + (xs.drop a).length)).take a ++ R ++ (cur.take (a + 2) ++ xs.drop a ++ cur.drop (a + 2 + (xs.drop a).length)).drop (a + 2))).take (n + 2)) = xs.take a ++ R ++ xs.drop a := by
  have h1 : (cur.take (a + 2) ++ xs.drop a ++ cur.drop (a + 2 + (xs.drop a).length)).take a = xs.take a := by
    rw [List.append_assoc, List.take_append_of_le_length (by rw [List.length_take]; omega), List.take_take, Nat.min_eq_left (by omega), ← hx, List.take_take, Nat.min_eq_left ha]
  have h2 : (cur.take (a + 2) ++ xs.drop a ++ cur.drop (a + 2 + (xs.drop a).length)).drop (a + 2) = xs.drop a ++ cur.drop (a + 2 + (xs.drop a).length) := by
    rw [List.append_assoc]
    exact List.drop_left' (by rw [List.length_take]; omega)
  rw [h1, h2, ← List.append_assoc, List.take_append_of_le_length (by simp; omega), List.take_of_length_le (by simp; omega)]
set_option maxHeartbeats 8000000 in
/-- Ahead of others, and there is room. -/
theorem ins_mid_room {g cap k : Nat} (hown : w.ownsRow base 33 2 (.slice (some ⟨g, 0, none⟩) L.length cap) L.length (L.flatMap rgC)) (H : OneAt w q r) (hq : q ≠ g) (hroom : L.length + 1 ≤ cap) (hk : k < L.length) :
    Calls Try.prog 52 #[.slice (some ⟨g, 0, none⟩) L.length cap, .int .i64 (k : Int), .slice (some ⟨q, 0, none⟩) 1 1] w (InsPost base (.slice (some ⟨g, 0, none⟩) L.length cap) (L.take k ++ r :: L.drop k) w) := by
  obtain ⟨i0, hi, hz0, hz1, hz2⟩ := info_parts infoRg
  have hsz : (Try.prog.info? 33).map (·.size) = some 2 := by rw [hi]; simp [hz1]
  obtain ⟨cur, hb, hg, hnc, hcm, hcs, htk⟩ := own_some hown
  have hD : ((L.flatMap rgC).drop (k * 2)).length = (L.length - k) * 2 := by rw [List.length_drop, rgC_len, Nat.sub_mul]
  have hcp1 := fun ty dc sc => run_copy_two Try.prog w.drew 65 65 ty 33 g ((k + 1) * 2) (L.length - k) dc ⟨g, k * 2, none⟩ (L.length + 1 - k) sc (L.length - k) cur 33 ((L.flatMap rgC).drop (k * 2))
    Try.underlying65 hsz hg (by simp only [Nat.min_def]; split <;> omega) hD
    (fun j u hj => by
      rw [List.getElem?_drop] at hj
      have := hown.cells (g := g) rfl _ u hj
      rw [Addr.add_lit] at this ⊢
      rw [Nat.zero_add] at this
      exact this)
    (by rw [hD, hcs]; omega) (fun u hu => rgC_one L u (List.mem_of_mem_drop hu))
  obtain ⟨cur1, hc1⟩ : ∃ cur1 : List Value, cur1 = cur.toList.take ((k + 1) * 2) ++ (L.flatMap rgC).drop (k * 2) ++ cur.toList.drop ((k + 1) * 2 + ((L.flatMap rgC).drop (k * 2)).length) := ⟨_, rfl⟩
  rw [← hc1] at hcp1
  obtain ⟨W1, hW1⟩ : ∃ W1, W1 = w.drew.setRow g cur1.toArray := ⟨_, rfl⟩
  rw [← hW1] at hcp1
  have hg1 : W1.heap[g]? = some (.cells cur1.toArray 33 (0, 0)) := by rw [hW1]; exact setRow_heap w.drew g cur _ 33 _ hg
  have hl1 : cur1.length = cap * 2 := by
    rw [hc1]
    simp only [List.length_append, List.length_take, List.length_drop, Array.length_toList, hcs, rgC_len]
    omega
  have H1 : OneAt W1 q r := ⟨by rw [hW1]; exact (setRow_other w.drew g q _ hq).trans H.b⟩
  have hcp2 := fun ty dc => run_copy_two Try.prog W1 65 25 ty 33 g (k * 2) (L.length + 1 - k) dc ⟨q, 0, none⟩ 1 1 1 cur1.toArray 33 (rgC r)
    Try.underlying65 hsz hg1 (by simp only [Nat.min_def]; split <;> omega) rfl H1.src (by show _ + 2 ≤ _; rw [List.size_toArray, hl1]; omega) (by intro u hu; exact rgC_one [r] u (by simpa using hu))
  have hLl : (L.take k ++ r :: L.drop k).length = L.length + 1 := by simp; omega
  have hE := Lib.hid (show InsPost base (.slice (some ⟨g, 0, none⟩) L.length cap) (L.take k ++ r :: L.drop k) w (.returned (.slice (some ⟨g, 0, none⟩) (L.length + 1) cap)) (W1.setRow g (cur1.toArray.toList.take (k * 2) ++ rgC r ++ cur1.toArray.toList.drop (k * 2 + (rgC r).length)).toArray) from by
    refine ⟨_, rfl, ⟨by rw [rgC_len], .inr ⟨g, cap, _, by rw [hLl], hb, setRow_heap W1 g _ _ 33 _ hg1, by rw [hLl]; exact hroom, hcm, ?_, ?_⟩⟩, ?_, fun k hk => .inl hk⟩
    · simp only [List.size_toArray, List.length_append, List.length_take, List.length_drop, hl1]
      show min _ _ + 2 + (_ - (_ + 2)) = _
      omega
    · rw [hLl, Nat.add_mul, Nat.one_mul]
      have := put_two (cur := cur.toList) (xs := L.flatMap rgC) (R := rgC r) (rest0 := []) (n := L.length * 2) (a := k * 2) rfl htk (rgC_len L) (by omega) (by have := Array.length_toList (xs := cur); omega)
      rw [Nat.add_mul, Nat.one_mul] at hc1
      rw [← hc1] at this
      show (cur1.take (k * 2) ++ rgC r ++ cur1.drop (k * 2 + 2)).take (L.length * 2 + 2) = _
      rw [this, rgC_take, rgC_drop, List.flatMap_append, List.flatMap_cons, List.append_assoc]
    · rw [hW1, setRow_setRow]
      have h := gb_row w.drew g (cur1.toArray.toList.take (k * 2) ++ rgC r ++ cur1.toArray.toList.drop (k * 2 + (rgC r).length)).toArray
      exact ⟨h.os, h.tape, h.output, h.size, h.block⟩)
  obtain ⟨W2, hW2⟩ : ∃ W2, W2 = W1.setRow g (cur1.toArray.toList.take (k * 2) ++ rgC r ++ cur1.toArray.toList.drop (k * 2 + (rgC r).length)).toArray := ⟨_, rfl⟩
  rw [← hW2] at hE
  have hr1 := Lib.hid (fun ty dc sc => (hcp1 ty dc sc))
  have hr2 := Lib.hid (fun ty dc => (hcp2 ty dc).trans (by rw [← hW2]))
  generalize InsPost base (.slice (some ⟨g, 0, none⟩) L.length cap) (L.take k ++ r :: L.drop k) w = F at *
  have hcap : cap ≤ 9223372036854775807 := by have := hcm; unfold maxLen at this; omega
  have hov := fun lb cb => (run_callFunc_extern Try.func64 (by kernel_rfl) (by kernel_rfl) (by kernel_rfl) (e := Extern.SlicesOverlaps.overlaps #[25, 25] #[4]) (by kernel_rfl) #[.slice (some ⟨q, 0, none⟩) 1 1, .slice (some ⟨g, (k + 1) * 2, none⟩) lb cb] w).trans
    (by rw [Lib.run_overlaps_apart w 25 4 33 Try.underlying25 2 (fun w => by kernel_rfl) ⟨q, 0, none⟩ ⟨g, (k + 1) * 2, none⟩ 1 1 lb cb hq 33 33 2 cur.size (by simp [World.shape?, H.b]) (by simp [World.shape?, hg]) (by rw [hcs]; omega) (by simp [World.frozen?, H.b]) (by simp [World.frozen?, H.b])])
  clear hcp1 hcp2 hW1 hW2 htk hcs hg hg1 hown H H1 hcm hc1 hl1 hLl hD hi hz0 hz1 hz2 hsz
  have hw1 : IntKind.i64.wrap ((k : Int) + 1) = (k : Int) + 1 := by rw [IntKind.wrap_i64]; omega
  have hkn : ¬ (k : Int) = L.length := by omega
  have hkn2 : ¬ k = L.length := by omega
  generalize L.length = n at *
  have hb1 : (0 : Int) ≤ (k : Int) + 1 := by omega
  have hin : k ≤ n := by omega
  have htn : ((k : Int) + 1).toNat = k + 1 := by omega
  have hb2 : ¬ (cap = k + 1) := by omega
  have hb3 : (k : Int) ≤ (n : Int) + 1 := by omega
  have hb4 : ¬ (cap = k) := by omega
  have mixed : Try.prog.follows .mixedOrders = true := by kernel_rfl
  have hr1' := hr1.out
  have hr2' := hr2.out
  go_enter Try.func52, Try.ntmps52
  go_wp2_with (simp only [hov])
  go_region_law_o (refine step_copy_runI rfl _ _ 65 65 rfl _ _ (by simp [Act.eval, Act.put]) (by simp [Act.eval, Act.put]) (hr1' _ _ _) ?_)
  go_wp2_with (at_builtin; refine wpList_copy_runI _ rfl _ _ 65 25 rfl _ _ rfl rfl (hr2' _ _) ?_)
  exact hE.out
end
end Go.Proofs.Ytmfipabbdhfmcaa.Qu
