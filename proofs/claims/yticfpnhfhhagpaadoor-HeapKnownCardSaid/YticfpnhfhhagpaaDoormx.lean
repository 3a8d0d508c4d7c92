/- What a heap hands out, reckoned. No statement is proved here.; Contracts of layer heap: heaps that are none. No statement is proved here.; A heap in a law: its state, step by step. No statement is proved here.; The laws of layer heap: act. No statement is proved here.; A region that draws its order: its first n operations keep a class of worlds and are walked once, in the order of the text; what comes behind them comes up in whatever order, and is left open. Plain lemmas; no statement is proved here. -/
import Derived.Test.YticfpnhfhhagpaaDoormu
import Derived.Test.YticfpnhfhhagpaaDoormw
import Derived.Test.YticfpnhfhhagpaaDoormn
namespace Go.Proofs.YticfpnhfhhagpaaDoor
set_option maxRecDepth 100000
theorem w_1 : malO 4 8 [] 10 = some (1024, 16) ∧ malE 4 8 [] 10 = 0 := by decide +kernel
theorem w_2 : malO 4 8 [(1024, 16)] 16 = some (1040, 16) ∧ malE 4 8 [(1024, 16)] 16 = 0 := by decide +kernel
theorem w_3 : malO 4 8 [(1024, 16), (1040, 16)] 17 = some (1280, 32) ∧ malE 4 8 [(1024, 16), (1040, 16)] 17 = 0 := by decide +kernel
theorem w_4 : malO 4 8 [(1024, 16), (1040, 16), (1280, 32)] 600 = none ∧ malE 4 8 [(1024, 16), (1040, 16), (1280, 32)] 600 = 7 := by decide +kernel
end Go.Proofs.YticfpnhfhhagpaaDoor
namespace Go.Proofs.YticfpnhfhhagpaaDoor
set_option maxRecDepth 100000
open Go.RowKit Go.Shelf Go.Maps
set_option linter.unusedVariables false
section
variable {W' w : World} {P : Value}
/-- It is no heap, now or later. -/
def NoH (P : Value) (w : World) : Prop := ∀ w1, Below w.heap.size w w1 → Calls Tryd.prog 27 #[P] w1 fun e w' => e = .returned (.bool false) ∧ w1 = w'
theorem NoH.nil (w : World) : NoH (.pointer none) w := fun w1 _ => made_nil w1
theorem NoH.empty (h : Nat) (c3 : w.cell? ⟨h, 3, none⟩ = some (.pointer none)) : NoH (.pointer (some ⟨h, 0, none⟩)) w := fun w1 hb => made_empty h ((hb.cell (p := ⟨h, 3, none⟩) (lt_of_cell' c3)).trans c3)
theorem NoH.grow (H : NoH P w) (k : Below w.heap.size w W') : NoH P W' := fun w1 hb => H w1 (k.trans (hb.mono k.size))
theorem Malloc_no (H : NoH P w) (s : Nat) : Calls Tryd.prog 15 #[P, .int .u32 s] w fun e w' => e = .returned (.tuple #[rgV (0, 0), .int .i64 1]) ∧ Below w.heap.size w w' := by
  obtain ⟨W1, hW1⟩ : ∃ W1, W1 = w.alloc (.cells #[.int .u32 0, .int .u32 0] 26) := ⟨_, rfl⟩
  obtain ⟨q, hq⟩ : ∃ q, q = w.heap.size := ⟨_, rfl⟩
  have B1 : Below w.heap.size w W1 := by rw [hW1]; exact (Below.refl _ _).alloc (Nat.le_refl _) _
  have Q1 : Bx q (.int .u32 0) (.int .u32 0) W1 := by rw [hW1, hq]; exact Bx.new w _ _ _
  have hM := Lib.hid (H W1 B1)
  have hB := Lib.hid B1
  have hQ := Lib.hid Q1
  have hq' := Lib.hid hq
  have hW1' := Lib.hid hW1
  clear H B1 Q1 hW1 hq
  go_enter Tryd.func15, Tryd.ntmps15
  go_wp2_with fail
  rw [← hW1'.out]
  refine hM.out.mono ?_
  rintro e w1 ⟨rfl, rfl⟩
  rw [← hq'.out]
  have f0 := hQ.out.f0
  have f1 := hQ.out.f1
  have g0 := hQ.out.c0
  have g1 := hQ.out.c1
  go_wp2_with fail
  exact bodyPost_ret (res_two Tryd.results15 rfl rfl (hQ.out.set _ _).ret) rfl ⟨rfl, (hB.out.setCell (p := ⟨q, 0, none⟩) (by rw [hq'.out]; exact Nat.le_refl _) _).setCell (p := ⟨q, 1, none⟩) (by rw [hq'.out]; exact Nat.le_refl _) _⟩
theorem Free_no (H : NoH P w) (a n : Nat) : Calls Tryd.prog 16 #[P, rgV (a, n)] w fun e w' => e = .returned (.int .i64 1) ∧ Below w.heap.size w w' := by
  obtain ⟨W1, hW1⟩ : ∃ W1, W1 = w.alloc (.cells #[.int .u32 (a : Int), .int .u32 (n : Int)] 26) := ⟨_, rfl⟩
  have B1 : Below w.heap.size w W1 := by rw [hW1]; exact (Below.refl _ _).alloc (Nat.le_refl _) _
  have hM := Lib.hid (H W1 B1)
  have hB := Lib.hid B1
  have hW1' := Lib.hid hW1
  clear H B1 hW1
  dsimp only [rgV]
  go_enter Tryd.func16, Tryd.ntmps16
  go_wp2_with fail
  rw [← hW1'.out]
  refine hM.out.mono ?_
  rintro e w1 ⟨rfl, rfl⟩
  go_wp2_with fail
  go_ret
  exact ⟨rfl, hB.out⟩
theorem Release_no (H : NoH P w) (a n : Nat) : Calls Tryd.prog 17 #[P, rgV (a, n)] w fun e w' => e = .returned (.int .i64 1) ∧ Below w.heap.size w w' := by
  obtain ⟨W1, hW1⟩ : ∃ W1, W1 = w.alloc (.cells #[.int .u32 (a : Int), .int .u32 (n : Int)] 26) := ⟨_, rfl⟩
  have B1 : Below w.heap.size w W1 := by rw [hW1]; exact (Below.refl _ _).alloc (Nat.le_refl _) _
  have hM := Lib.hid (H W1 B1)
  have hB := Lib.hid B1
  have hW1' := Lib.hid hW1
  clear H B1 hW1
  dsimp only [rgV]
  go_enter Tryd.func17, Tryd.ntmps17
  go_wp2_with fail
  rw [← hW1'.out]
  refine hM.out.mono ?_
  rintro e w1 ⟨rfl, rfl⟩
  go_wp2_with fail
  go_ret
  exact ⟨rfl, hB.out⟩
theorem Live_no (H : NoH P w) : Calls Tryd.prog 11 #[P] w fun e w' => e = .returned (.slice none 0 0) ∧ w = w' := by
  have hM := Lib.hid (H w (Below.refl _ _))
  clear H
  go_enter Tryd.func11, Tryd.ntmps11
  go_wp2_with fail
  refine hM.out.mono ?_
  rintro e w1 ⟨rfl, rfl⟩
  go_wp2_with fail
  go_ret
  exact ⟨rfl, rfl⟩
theorem Resting_no (H : NoH P w) : Calls Tryd.prog 12 #[P] w fun e w' => e = .returned (.slice none 0 0) ∧ w = w' := by
  have hM := Lib.hid (H w (Below.refl _ _))
  clear H
  go_enter Tryd.func12, Tryd.ntmps12
  go_wp2_with fail
  refine hM.out.mono ?_
  rintro e w1 ⟨rfl, rfl⟩
  go_wp2_with fail
  go_ret
  exact ⟨rfl, rfl⟩
theorem Room_no (H : NoH P w) : Calls Tryd.prog 20 #[P] w fun e w' => e = .returned (.int .u32 0) ∧ w = w' := by
  have hM := Lib.hid (H w (Below.refl _ _))
  clear H
  go_enter Tryd.func20, Tryd.ntmps20
  go_wp2_with fail
  refine hM.out.mono ?_
  rintro e w1 ⟨rfl, rfl⟩
  go_wp2_with fail
  go_ret
  exact ⟨rfl, rfl⟩
theorem Copy_no (H : NoH P w) : Calls Tryd.prog 21 #[P] w fun e w' => e = .returned (.pointer none) ∧ w = w' := by
  have hM := Lib.hid (H w (Below.refl _ _))
  clear H
  go_enter Tryd.func21, Tryd.ntmps21
  go_wp2_with fail
  refine hM.out.mono ?_
  rintro e w1 ⟨rfl, rfl⟩
  go_wp2_with fail
  go_ret
  exact ⟨rfl, rfl⟩
end
end Go.Proofs.YticfpnhfhhagpaaDoor
namespace Go.Proofs.YticfpnhfhhagpaaDoor
set_option maxRecDepth 100000
open Go.RowKit Go.Shelf Go.Maps
set_option linter.unusedVariables false
section
variable {W W' w w' : World} {B : Blk} {lo hi p0 p1 q : Nat} {L R L' R' : List Rg} {u v : Value} {r : Rg}
/-- A heap that was made behind W, and the table. -/
structure HK (W : World) (B : Blk) (lo hi p0 p1 : Nat) (L R : List Rg) (w : World) : Prop where
  h : HA B lo hi p0 p1 L R w
  t : TabAt 0 Lib.deBruijn32tab w
  bl : Below W.heap.size W w
  g : 0 < lo
  lo : W.heap.size ≤ lo
theorem HK.his (H : HK W B lo hi p0 p1 L R w) : hi ≤ w.heap.size := H.h.hs.hi
theorem HK.los (H : HK W B lo hi p0 p1 L R w) : lo ≤ w.heap.size := by
  have h1 := H.h.hs.ok.inn B.h (.inl rfl)
  have h2 := H.h.hs.hi
  omega
theorem HK.step (H : HK W B lo hi p0 p1 L R w) (m : Mid lo hi w w') (h : HA B lo hi p0 p1 L' R' w') : HK W B lo hi p0 p1 L' R' w' :=
  ⟨h, tab_mid H.t m H.g, H.bl.trans ((m.below H.los).mono H.lo), H.g, H.lo⟩
theorem HK.grow (H : HK W B lo hi p0 p1 L R w) (k : Below w.heap.size w w') : HK W B lo hi p0 p1 L R w' := H.step (Mid.of_below k) (HX.grow H.h k)
theorem new_hk (hT : TabAt 0 Lib.deBruijn32tab W) (a n : Nat) (h1 : a % 256 = 0) (h2 : n % 256 = 0) (h3 : n ≠ 0) (h : a + n ≤ 262144) :
    Calls Tryd.prog 9 #[rgV (a, n)] W fun e w' => ∃ B lo, e = .returned (.tuple #[.pointer (some ⟨B.h, 0, none⟩), .int .i64 0]) ∧ HK W B lo w'.heap.size (a / 256) ((a + n) / 256) [] [] w' :=
  (New_any a n h1 h2 h3 h).mono fun e w' ⟨B, lo, he, hl, hA, hb⟩ => ⟨B, lo, he, hA, tab_grow hT hb, hb, Nat.lt_of_lt_of_le (lt_of_cell' (hT 0 (by decide))) hl, hl⟩
theorem mal_hk (H : HK W B lo hi p0 p1 L R w) (s : Nat) (hs : s < 4294967296) : Calls Tryd.prog 15 #[.pointer (some ⟨B.h, 0, none⟩), .int .u32 s] w fun e w' =>
    e = .returned (.tuple #[rgV ((malO p0 p1 (L ++ R) s).getD (0, 0)), .int .i64 (malE p0 p1 (L ++ R) s)]) ∧ Mid lo hi w w' ∧ HK W B lo hi p0 p1 (malL L (malO p0 p1 (L ++ R) s)) R w' :=
  (Malloc_any H.h H.t H.g s hs).mono fun e w' k => ⟨k.1, k.2.1, H.step k.2.1 k.2.2⟩
theorem mal_yes (H : HK W B lo hi p0 p1 L R w) (s : Nat) (hs : s < 4294967296) (h : malO p0 p1 (L ++ R) s = some r ∧ malE p0 p1 (L ++ R) s = 0) (hL : insR r L = L') : Calls Tryd.prog 15 #[.pointer (some ⟨B.h, 0, none⟩), .int .u32 s] w fun e w' =>
    e = .returned (.tuple #[rgV r, .int .i64 0]) ∧ Mid lo hi w w' ∧ HK W B lo hi p0 p1 L' R w' :=
  (mal_hk H s hs).mono fun e w' k => by rw [h.1, h.2] at k; subst hL; exact k
theorem mal_not (H : HK W B lo hi p0 p1 L R w) (s : Nat) (hs : s < 4294967296) {x : Int} (h : malO p0 p1 (L ++ R) s = none ∧ malE p0 p1 (L ++ R) s = x) : Calls Tryd.prog 15 #[.pointer (some ⟨B.h, 0, none⟩), .int .u32 s] w fun e w' =>
    e = .returned (.tuple #[rgV (0, 0), .int .i64 x]) ∧ Mid lo hi w w' ∧ HK W B lo hi p0 p1 L R w' :=
  (mal_hk H s hs).mono fun e w' k => by rw [h.1, h.2] at k; exact k
theorem free_hk (H : HK W B lo hi p0 p1 L R w) (r : Rg) (hr : r.1 < 4294967296) : Calls Tryd.prog 16 #[.pointer (some ⟨B.h, 0, none⟩), rgV r] w fun e w' =>
    e = .returned (.int .i64 (if r ∈ L then 0 else 8)) ∧ Mid lo hi w w' ∧ HK W B lo hi p0 p1 (L.filter fun q => decide (q ≠ r)) (if r ∈ L then insR r R else R) w' :=
  (Free_any H.h r hr).mono fun e w' k => ⟨k.1, k.2.1, H.step k.2.1 k.2.2⟩
theorem rel_hk (H : HK W B lo hi p0 p1 L R w) (r : Rg) (hr : r.1 < 4294967296) : Calls Tryd.prog 17 #[.pointer (some ⟨B.h, 0, none⟩), rgV r] w fun e w' =>
    e = .returned (.int .i64 (if r ∈ R then 0 else 8)) ∧ Mid lo hi w w' ∧ HK W B lo hi p0 p1 L (R.filter fun q => decide (q ≠ r)) w' :=
  (Release_any H.h r hr).mono fun e w' k => ⟨k.1, k.2.1, H.step k.2.1 k.2.2⟩
/-- A row of regions. -/
theorem live_hk (H : HK W B lo hi p0 p1 L R w) : Calls Tryd.prog 11 #[.pointer (some ⟨B.h, 0, none⟩)] w fun e w' =>
    ∃ v, e = .returned v ∧ w'.ownsRow w.heap.size 26 2 v L.length (L.flatMap rgC) ∧ Below w.heap.size w w' ∧ HK W B lo hi p0 p1 L R w' :=
  (Live_any H.h).mono fun e w' ⟨v, he, hr, hb⟩ => ⟨v, he, hr, hb, H.grow hb⟩
theorem rest_hk (H : HK W B lo hi p0 p1 L R w) : Calls Tryd.prog 12 #[.pointer (some ⟨B.h, 0, none⟩)] w fun e w' =>
    ∃ v, e = .returned v ∧ w'.ownsRow w.heap.size 26 2 v R.length (R.flatMap rgC) ∧ Below w.heap.size w w' ∧ HK W B lo hi p0 p1 L R w' :=
  (Resting_any H.h).mono fun e w' ⟨v, he, hr, hb⟩ => ⟨v, he, hr, hb, H.grow hb⟩
theorem room_hk (H : HK W B lo hi p0 p1 L R w) : Calls Tryd.prog 20 #[.pointer (some ⟨B.h, 0, none⟩)] w fun e w' =>
    e = .returned (.int .u32 (roomN p1 (fre p0 p1 (L ++ R)) (slF (L ++ R)) 5 : Nat)) ∧ HK W B lo hi p0 p1 L R w' :=
  (Room_any H.h.hs H.h.le).mono fun e w' k => ⟨k.1, H.grow k.2⟩
/-- The law's own region. -/
theorem region_any (a n : Nat) (w : World) : Calls Tryd.prog 8 #[.int .u32 a, .int .u32 n] w fun e w' => e = .returned (rgV (a, n)) ∧ Below w.heap.size w w' := by
  have Q1 := Lib.hid (Bx.new w (.int .u32 0) (.int .u32 0) 26)
  have B1 := Lib.hid ((Below.refl w.heap.size w).alloc (Nat.le_refl _) (.cells #[.int .u32 0, .int .u32 0] 26))
  obtain ⟨W1, hW1⟩ : ∃ W1, W1 = w.alloc (.cells #[.int .u32 0, .int .u32 0] 26) := ⟨_, rfl⟩
  rw [← hW1] at Q1 B1
  have hW1' := Lib.hid hW1
  have c0 := Q1.out.c0
  have c1 := Q1.out.c1
  have f0 := Q1.out.f0
  have f1 := Q1.out.f1
  clear hW1
  go_enter Tryd.func8, Tryd.ntmps8
  go_upto_region 1 with (fail)
  rw [← hW1'.out]
  go_wp2_with fail
  have hl := Q1.out.set (.int .u32 a) (.int .u32 n)
  have hb := (B1.out.setCell (p := ⟨w.heap.size, 0, none⟩) (Nat.le_refl _) (.int .u32 a)).setCell (p := ⟨w.heap.size, 1, none⟩) (Nat.le_refl _) (.int .u32 n)
  generalize (W1.setCell ⟨w.heap.size, 0, none⟩ (.int .u32 a)).setCell ⟨w.heap.size, 1, none⟩ (.int .u32 n) = W2 at *
  exact bodyPost_ret (v := rgV (a, n)) (by simp [results, Tryd.results8, go_sem, hl.c0, hl.c1, rgV]) rfl ⟨rfl, hb⟩
end
end Go.Proofs.YticfpnhfhhagpaaDoor
namespace Go.Proofs.YticfpnhfhhagpaaDoor
set_option maxRecDepth 100000
open Go.RowKit Go.Shelf Go.Maps
set_option linter.unusedVariables false
section
variable {W W' w w' : World} {B : Blk} {lo hi p0 p1 q base : Nat} {L R L' R' : List Rg} {u v : Value} {r : Rg}
theorem rgC_at : ∀ (L : List Rg) (j : Nat) (hj : j < L.length), (L.flatMap rgC)[j * 2]? = some (.int .u32 (L[j].1 : Int)) ∧ (L.flatMap rgC)[j * 2 + 1]? = some (.int .u32 (L[j].2 : Int))
  | r :: L, 0, _ => ⟨rfl, rfl⟩
  | r :: L, j + 1, h => by
    have := rgC_at L j (by simpa using h)
    rw [show (j + 1) * 2 = (j * 2) + 1 + 1 by omega]
    simpa [rgC] using this
/-- A row of regions. -/
def Rgs (w : World) (base : Nat) (L : List Rg) (v : Value) : Prop := ∃ A cap, v = .slice A L.length cap ∧ ∀ j (hj : j < L.length), ∃ g, A = some ⟨g, 0, none⟩ ∧ base ≤ g ∧ g < w.heap.size ∧ w.cell? ⟨g, j * 2, none⟩ = some (.int .u32 (L[j].1 : Int)) ∧ w.cell? ⟨g, j * 2 + 1, none⟩ = some (.int .u32 (L[j].2 : Int))
theorem rgs_of (h : w.ownsRow base 26 2 v L.length (L.flatMap rgC)) : Rgs w base L v := by
  rcases h.2 with ⟨rfl, h0⟩ | ⟨g, cap, cur, rfl, hb, hg, hc⟩
  · exact ⟨none, 0, by rw [h0], fun j hj => by omega⟩
  · refine ⟨_, cap, rfl, fun j hj => ⟨g, rfl, hb, (Array.getElem?_eq_some_iff.1 hg).1, ?_⟩⟩
    have := rgC_at L j hj
    exact ⟨(h.cellAt (j * 2) (by omega)).trans this.1, (h.cellAt (j * 2 + 1) (by omega)).trans this.2⟩
theorem Rgs.grow (h : Rgs w base L v) (k : Below w.heap.size w w') : Rgs w' base L v := by
  obtain ⟨A, cap, rfl, h⟩ := h
  refine ⟨A, cap, rfl, fun j hj => ?_⟩
  obtain ⟨g, rfl, h1, h2, h3, h4⟩ := h j hj
  exact ⟨g, rfl, h1, Nat.lt_of_lt_of_le h2 k.size, (k.cell (p := ⟨g, j * 2, none⟩) h2).trans h3, (k.cell (p := ⟨g, j * 2 + 1, none⟩) h2).trans h4⟩
theorem Rgs.at {A : Option Addr} {m cap : Nat} (h : Rgs w base L (.slice A m cap)) : m = L.length ∧ ∀ j (hj : j < L.length), ∃ g, A = some ⟨g, 0, none⟩ ∧ w.cell? ⟨g, j * 2, none⟩ = some (.int .u32 (L[j].1 : Int)) ∧ w.cell? ⟨g, j * 2 + 1, none⟩ = some (.int .u32 (L[j].2 : Int)) := by
  obtain ⟨A', cap', e, h⟩ := h
  cases e
  exact ⟨rfl, fun j hj => by obtain ⟨g, h1, _, _, h3, h4⟩ := h j hj; exact ⟨g, h1, h3, h4⟩⟩
def ActPost (W : World) (B : Blk) (lo hi p0 p1 : Nat) (w : World) (e : Ending) (w' : World) : Prop := e = .returned (.tuple #[]) ∧ Mid lo hi w w' ∧ ∃ L' R', HK W B lo hi p0 p1 L' R' w'
set_option maxHeartbeats 4000000 in
theorem act_any (H : HK W B lo hi p0 p1 L R w) (x n : Nat) (hx : x < 256) (hn : n < 256) :
    Calls Tryd.prog 10 #[.pointer (some ⟨B.h, 0, none⟩), .int .u8 x, .int .u8 n] w (ActPost W B lo hi p0 p1 w) := by
  have hL := Lib.hid (live_hk H)
  have hlen := H.h.len
  have hu := Lib.hid (fun r (hr : r ∈ L ++ R) => H.h.good.u32 H.h.le hr)
  obtain ⟨D, hD⟩ : ∃ D, D = ActPost W B lo hi p0 p1 w := ⟨_, rfl⟩
  rw [← hD]
  replace hD := Lib.hid hD
  obtain ⟨y, hy⟩ : ∃ y, y = x % 8 := ⟨_, rfl⟩
  have hyi : (x : Int) % 8 = y := by omega
  have hy8 : y < 8 := by omega
  clear H hy
  go_enter Tryd.func10, Tryd.ntmps10
  go_wp2_with fail
  refine hL.out.mono ?_
  rintro e w1 ⟨v, rfl, hr, hb, H1⟩
  have hrow := Lib.hid (rgs_of hr)
  have hR := Lib.hid (rest_hk H1)
  have hH1 := Lib.hid H1
  have hB1 := Lib.hid hb
  clear hr hb H1
  obtain ⟨A, cap, rfl, hA⟩ := hrow.out
  replace hA := Lib.hid hA
  go_wp2_with fail
  refine hR.out.mono ?_
  rintro e w2 ⟨v, rfl, hr, hb, H2⟩
  have hrow2 := Lib.hid (rgs_of hr)
  have hrowL := Lib.hid (hrow.out.grow hb)
  have hH2 := Lib.hid H2
  have hB2 := Lib.hid (hB1.out.trans (hb.mono hB1.out.size))
  clear hr hb H2 hL hR hrow
  obtain ⟨A2, cap2, rfl, hA2⟩ := hrow2.out
  replace hA2 := Lib.hid hA2
  by_cases h4 : y < 4
  · have h4i : (y : Int) < 4 := by omega
    obtain ⟨z, hz⟩ : ∃ z, z = 1 + n * (1 + y) := ⟨_, rfl⟩
    have h5 : n * (1 + y) ≤ 255 * 4 := Nat.mul_le_mul (by omega) (by omega)
    have hzi : (1 : Int) + n * (1 + y) = z := by rw [hz]; simp
    have hM := Lib.hid (mal_hk hH2.out z (by omega))
    obtain ⟨t, ht⟩ : ∃ t, t = n * (1 + y) := ⟨_, rfl⟩
    have hti : (n : Int) * (1 + y) = t := by rw [ht]; simp
    have hz2 : (1 : Int) + t = z := by omega
    have htb : t ≤ 1020 := by omega
    clear hz hzi ht h5
    go_wp2_with fail
    refine hM.out.mono ?_
    rintro e w3 ⟨rfl, hm, H3⟩
    have hF := Lib.hid (show ActPost W B lo hi p0 p1 w (.returned (.tuple #[])) w3 from ⟨rfl, (Mid.of_below hB2.out).trans hm, _, _, H3⟩)
    clear hm H3
    go_wp2_with fail
    rw [hD.out]
    exact bodyPost_end (results_none (by rfl) _ _ _) rfl hF.out
  · have h4i : ¬ (y : Int) < 4 := by omega
    by_cases h6 : y < 6 ∧ 0 < L.length
    · obtain ⟨h6, hl0⟩ := h6
      have h6i : (y : Int) < 6 := by omega
      have hl0i : (0 : Int) < L.length := by omega
      have hjl : n % L.length < L.length := Nat.mod_lt _ hl0
      obtain ⟨g, rfl, k0, k1⟩ := hrowL.out.at.2 _ hjl
      have hlb : L.length ≤ 16384 := by omega
      obtain ⟨c, hc⟩ : ∃ c, c = L[n % L.length] := ⟨_, rfl⟩
      have hcm : c ∈ L := by rw [hc]; exact List.getElem_mem hjl
      have hrj := hu.out c (List.mem_append.2 (.inl hcm))
      have hc1 : c.1 < 4294967296 := by omega
      have hF := free_hk hH2.out c hc1
      simp only [hcm, if_true] at hF
      replace hF := Lib.hid hF
      rw [← hc] at k0 k1
      dsimp only [rgV] at hF
      have hx0 : (0 : Int) ≤ (n : Int) % (L.length : Int) := Int.emod_nonneg _ (by omega)
      have hx1 : (n : Int) % (L.length : Int) < (L.length : Int) := Int.emod_lt_of_pos _ (by omega)
      have hm0 : ¬ (L.length : Int) = 0 := by omega
      have hm1 : ¬ L.length = 0 := by omega
      clear hc hcm hrj hlen hA hA2 hrowL hrow2
      generalize L.length = m at *
      go_wp2_with fail
      refine hF.out.mono ?_
      rintro e w3 ⟨rfl, hm, H3⟩
      have hF2 := Lib.hid (show ActPost W B lo hi p0 p1 w (.returned (.tuple #[])) w3 from ⟨rfl, (Mid.of_below hB2.out).trans hm, _, _, H3⟩)
      clear hm H3
      go_wp2_with fail
      rw [hD.out]
      exact bodyPost_end (results_none (by rfl) _ _ _) rfl hF2.out
    · have hcase : ¬ (y : Int) < 6 ∨ ((y : Int) < 6 ∧ ¬ (0 : Int) < L.length) := by omega
      by_cases hl0 : 0 < R.length
      · have hl0i : (0 : Int) < R.length := by omega
        rcases hcase with h6i | ⟨h6i, hl6⟩
        all_goals
          have hjl : n % R.length < R.length := Nat.mod_lt _ hl0
          obtain ⟨g, rfl, k0, k1⟩ := hrow2.out.at.2 _ hjl
          have hlb : R.length ≤ 16384 := by omega
          obtain ⟨c, hc⟩ : ∃ c, c = R[n % R.length] := ⟨_, rfl⟩
          have hcm : c ∈ R := by rw [hc]; exact List.getElem_mem hjl
          have hrj := hu.out c (List.mem_append.2 (.inr hcm))
          have hc1 : c.1 < 4294967296 := by omega
          have hF := rel_hk hH2.out c hc1
          simp only [hcm, if_true] at hF
          replace hF := Lib.hid hF
          rw [← hc] at k0 k1
          dsimp only [rgV] at hF
          have hx0 : (0 : Int) ≤ (n : Int) % (R.length : Int) := Int.emod_nonneg _ (by omega)
          have hx1 : (n : Int) % (R.length : Int) < (R.length : Int) := Int.emod_lt_of_pos _ (by omega)
          have hm0 : ¬ (R.length : Int) = 0 := by omega
          have hm1 : ¬ R.length = 0 := by omega
          clear hc hcm hrj hlen hA hA2 hrowL hrow2
          generalize R.length = m at *
          generalize L.length = m6 at *
          go_wp2_with fail
          refine hF.out.mono ?_
          rintro e w3 ⟨rfl, hm, H3⟩
          have hF2 := Lib.hid (show ActPost W B lo hi p0 p1 w (.returned (.tuple #[])) w3 from ⟨rfl, (Mid.of_below hB2.out).trans hm, _, _, H3⟩)
          clear hm H3
          go_wp2_with fail
          rw [hD.out]
          exact bodyPost_end (results_none (by rfl) _ _ _) rfl hF2.out
      · have hl0i : ¬ (0 : Int) < R.length := by omega
        have hF2 := Lib.hid (show ActPost W B lo hi p0 p1 w (.returned (.tuple #[])) w2 from ⟨rfl, Mid.of_below hB2.out, _, _, hH2.out⟩)
        clear hlen hA hA2 hrowL hrow2
        rcases hcase with h6i | ⟨h6i, hl6⟩
        all_goals
          generalize L.length = m at *
          generalize R.length = m2 at *
          go_wp2_with fail
          rw [hD.out]
          exact bodyPost_end (results_none (by rfl) _ _ _) rfl hF2.out
end
end Go.Proofs.YticfpnhfhhagpaaDoor
namespace Go.Proofs.YticfpnhfhhagpaaDoor
open Go.RowKit
set_option linter.unusedVariables false

section
variable {P : Program} {ops : Array Oper} {md : Region.Mode} {C : World → Prop}

/-- Each operation behind n waits for one from n on. -/
def behindB (md : Region.Mode) (ops : Array Oper) (n : Nat) : Bool :=
  (List.range ops.size).all fun t => decide (t ≤ n) || (List.range ops.size).any fun u => decide (n ≤ u) && Region.waitsFor md ops t u
theorem tail_waits' {n : Nat} {listed : Array Bool} (hs : Region.sinkB md ops n = true) (hc : behindB md ops n = true) (hn : n < ops.size) (inv : HeadInv md ops n listed) :
    ∀ (d i : Nat), n - i = d → i < n → listed.getD i true = false → ∀ t, n ≤ t → t ∉ Region.ready md ops listed := by
  intro d
  induction d using Nat.strongRecOn with
  | _ d ih =>
    intro i hd hi hun t ht hr
    obtain ⟨_, ot, hot, hall⟩ := mem_ready.1 hr
    have htlt : t < ops.size := (Array.getElem?_eq_some_iff.1 hot).1
    by_cases htn : t = n
    · subst htn
      have h1 := List.all_eq_true.1 hs i (List.mem_range.2 hi)
      obtain ⟨j, hj, hj2⟩ := List.any_eq_true.1 h1
      simp only [Bool.and_eq_true, decide_eq_true_eq] at hj2
      obtain ⟨oj, hoj, e, he, hb, hon⟩ := Region.waitsFor_spec hj2.2
      have hjle : j ≤ t := by have := List.mem_range.1 hj; omega
      by_cases hjt : j = t
      · subst hjt
        have : oj = ot := Option.some.inj (hoj.symm.trans hot)
        subst this
        have h2 := hall e he hb
        rw [hon, getD_both hun] at h2
        cases h2
      · cases hl : listed.getD j false with
        | true =>
          have h2 := inv.closed j oj hoj hl e he hb
          rw [hon, getD_both hun] at h2
          cases h2
        | false =>
          have hjs : j < listed.size := by rw [inv.size]; omega
          exact ih (t - j) (by omega) j rfl (by omega) (getD_in hjs hl) t (Nat.le_refl _) hr
    · have h1 := List.all_eq_true.1 hc t (List.mem_range.2 htlt)
      simp only [Bool.or_eq_true, decide_eq_true_eq] at h1
      rcases h1 with h1 | h1
      · omega
      · obtain ⟨u, hu, hu2⟩ := List.any_eq_true.1 h1
        simp only [Bool.and_eq_true, decide_eq_true_eq] at hu2
        obtain ⟨o', ho', e, he, hb, hon⟩ := Region.waitsFor_spec hu2.2
        have : o' = ot := Option.some.inj (ho'.symm.trans hot)
        subst this
        have h2 := hall e he hb
        rw [hon, getD_both (inv.tail u (by omega) (by have := List.mem_range.1 hu; omega))] at h2
        cases h2

theorem anyQL_first' {n i : Nat} {oi : Oper} {v : Value} {L : Array Bool → Act → Prop} (hi : ops[i]? = some oi) (hsel : ∀ (j : Nat) (o : Oper) cs b, ops[j]? = some o → o.op ≠ .select cs b)
    (hs : Region.sinkB md ops n = true) (hc : behindB md ops n = true) (hn : n < ops.size) (hin : i < n) (hdone : ∀ s a, L s a → ∀ j ∈ Region.ready md ops s, n ≤ j) :
    ∀ (f : Nat) (s : Array Bool) (a : Act), HeadInv md ops n s →
      (∀ j oj, ops[j]? = some oj → j ≠ i → s.getD j true = false → (∀ e ∈ oj.after, Region.binds md e = true → e.on ≠ i) → oi.apart ops oj = true) →
      i ∈ Region.ready md ops s → YieldsIn P ops C oi v a → anyQL P md ops C n L f (s.setIfInBounds i true) (a.put oi.dst v) → anyQL P md ops C n L (f + 1) s a := by
  intro f
  induction f with
  | zero =>
    intro s a inv _ hr hy H
    refine ⟨fun h => (by rw [h] at hr; cases hr), fun j hj => ?_⟩
    have hjn : j < n := Nat.lt_of_not_le fun h => tail_waits' hs hc hn inv _ i rfl hin (mem_ready.1 hr).1 j h hj
    refine ⟨hjn, ?_⟩
    by_cases hji : j = i
    · subst hji; exact hy.qOp hi H
    · have := hdone _ _ H j (ready_mono hj hji)
      omega
  | succ f ih =>
    intro s a inv hfree hr hy H
    have hun := (mem_ready.1 hr).1
    refine ⟨fun h => (by rw [h] at hr; cases hr), fun j hj => ?_⟩
    have hjn : j < n := Nat.lt_of_not_le fun h => tail_waits' hs hc hn inv _ i rfl hin hun j h hj
    refine ⟨hjn, ?_⟩
    by_cases hji : j = i
    · subst hji; exact hy.qOp hi H
    · obtain ⟨hjun, oj, hoj, hall⟩ := mem_ready.1 hj
      have hnot : ∀ e ∈ oj.after, Region.binds md e = true → e.on ≠ i := fun e he hb heq => by
        have h1 := hall e he hb
        rw [heq, getD_both hun] at h1
        cases h1
      refine qOp_mono (fun a' h3 => ih (s.setIfInBounds j true) a' (inv.set hj hjn) (fun k ok hk hki hku hno => hfree k ok hk hki ?_ hno) (ready_mono hr (Ne.symm hji)) h3.1 ?_)
        (qOp_put hoj (hfree j oj hoj hji hjun hnot) (fun cs b => hsel i oi cs b hi) (fun cs b => hsel j oj cs b hoj) hy ((H.2 j (ready_mono hj hji)).2))
      · by_cases hjk : j = k
        · subst hjk; exact hjun
        · rw [getD_set_ne true hjk] at hku; exact hku
      · rw [Array.setIfInBounds_comm _ _ hji]
        exact h3.2

/-- What has come up behind so many operations from the k-th on. -/
def doneAt : Nat → Nat → Array Bool → Array Bool
  | 0, _, s => s
  | f + 1, k, s => doneAt f (k + 1) (s.setIfInBounds k true)
def anyHead (md : Region.Mode) (ops : Array Oper) (n : Nat) : Nat → Nat → Array Bool → Bool
  | 0, _, s => (Region.ready md ops s).all fun j => decide (n ≤ j)
  | f + 1, k, s => (Region.ready md ops s).contains k && Region.free md ops s k && anyHead md ops n f (k + 1) (s.setIfInBounds k true)
theorem anyQL_lex' {n : Nat} {T : Act → Prop} (hsel : Region.noSelect ops = true) (hs : Region.sinkB md ops n = true) (hc : behindB md ops n = true) (hn : n < ops.size) :
    ∀ (l : List Oper) (k : Nat) (s : Array Bool) (a : Act), (∀ j, j < l.length → l[j]? = ops[k + j]?) → k + l.length = n → HeadInv md ops n s →
    anyHead md ops n l.length k s = true → wpQuiet P ops C T l a → anyQL P md ops C n (fun s' a' => ((Region.ready md ops s').all fun j => decide (n ≤ j)) = true ∧ s' = doneAt l.length k s ∧ T a') l.length s a
  | [], k, s, a, _, hk, _, hB, h => ⟨by simpa [anyHead] using hB, rfl, h⟩
  | o :: l, k, s, a, hl, hk, inv, hB, h => by
    have h0 : ops[k]? = some o := by simpa using (hl 0 (by simp)).symm
    simp only [List.length_cons, anyHead, Bool.and_eq_true] at hB
    simp only [List.length_cons] at hk
    have hr : k ∈ Region.ready md ops s := by simpa using hB.1.1
    obtain ⟨v, hy, hK⟩ := yieldsIn_of_qOp h0 (show qOp P ops C k (wpQuiet P ops C T l) a by unfold qOp; simp only [h0]; exact h)
    exact anyQL_first' h0 (Region.noSelect_spec hsel) hs hc hn (by omega) (fun s' a' hL j hj => by have := List.all_eq_true.1 hL.1 j hj; simpa using this) l.length s a inv (Region.free_spec h0 hB.1.2) hr hy
      (anyQL_lex' hsel hs hc hn l (k + 1) _ _ (fun j hj => by have := hl (j + 1) (by simp; omega); simpa [Nat.add_assoc, Nat.add_comm 1 j] using this) (by omega) (inv.set hr (by omega)) hB.2 hK)
end
def anyB (ops : Array Oper) (n : Nat) : Bool :=
  Region.noSelect ops && decide (n < ops.size) && Region.sinkB .any ops n && behindB .any ops n && anyHead .any ops n n 0 (Array.replicate ops.size false)
/-- Such a region. -/
theorem region_cls_any {P : Program} (S : World → Prop) {id : Nat} {Q : Exit → Act → World → Prop} {a : Act} {w : World} {l : List Oper} (n : Nat) (hm : P.follows .mixedOrders = true) (hB : anyB l.toArray n = true) (h0 : S w.drew)
    (h : wpQuiet P l.toArray (fun w' => ∃ y : Wd S, w' = y.w) (fun a' => ∀ y : Wd S, wpAny P .any l.toArray Q (l.length - n) (doneAt n 0 (Array.replicate l.toArray.size false)) a' y.w) (l.take n) a) : (Code.region id l.toArray true).wp P Q a w := by
  simp only [anyB, Bool.and_eq_true, decide_eq_true_eq] at hB
  obtain ⟨⟨⟨⟨hsel, hn⟩, hs⟩, hc⟩, hlex⟩ := hB
  have hn' : n < l.length := by simpa using hn
  have htl : (l.take n).length = n := by simp; omega
  have inv0 : HeadInv .any l.toArray n (Array.replicate l.toArray.size false) :=
    ⟨by simp, fun j oj _ hl => (by rw [getD_replicate_false] at hl; cases hl), fun t _ ht => getD_in (by simpa using ht) (getD_replicate_false _ _)⟩
  have H := anyQL_lex' (md := .any) hsel hs hc hn (l.take n) 0 _ a (fun j hj => by
    have hj' : j < n := by rw [htl] at hj; exact hj
    simp [hj']) (by simpa using htl) inv0 (by rw [htl]; exact hlex) h
  refine wp_region_any hm ?_
  have := anyQL_out (Q := Q) (g := l.length - n) (fun s' a' w' hw' hL => by
    obtain ⟨y, rfl⟩ := hw'
    obtain ⟨_, rfl, hT⟩ := hL
    rw [htl]
    exact hT y) _ _ _ w.drew ⟨⟨w.drew, h0⟩, rfl⟩ H
  rw [htl, show n + (l.length - n) = l.toArray.size by simp; omega] at this
  exact this
end Go.Proofs.YticfpnhfhhagpaaDoor
