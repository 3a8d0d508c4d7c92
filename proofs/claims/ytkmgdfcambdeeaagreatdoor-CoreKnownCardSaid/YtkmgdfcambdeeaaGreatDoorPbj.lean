/- The program's Do (layer core). No statement is proved here. -/
import Derived.Deep.RegionHeld
import Derived.Deep.RegionHeld3
import Derived.Test.YtkmgdfcambdeeaaGreatDoorPav
import Derived.Test.YtkmgdfcambdeeaaGreatDoorPbg
import Derived.Test.YtkmgdfcambdeeaaGreatDoorPba
import Derived.Test.YtkmgdfcambdeeaaGreatDoorPbf
namespace Go.Proofs.YtkmgdfcambdeeaaGreatDoor
set_option maxRecDepth 100000
open Go.RowKit
set_option linter.unusedVariables false
theorem cut_base {w6 : World} {B : Nat} (h : B ≤ w6.heap.size) : ∃ V : World, V.heap.size = B ∧ Below B V w6 :=
  ⟨{ w6 with heap := w6.heap.extract 0 B }, by simp; omega, rfl, rfl, rfl, by simp [Nat.min_le_right], fun k hk => by
    simp only [Array.getElem?_extract]
    rw [if_pos (by omega)]
    simp⟩
theorem lt_of_block {W W' : World} {k : Nat} (h : W'.heap[k]? = W.heap[k]?) (hk : k < W.heap.size) : k < W'.heap.size := by
  rw [Array.getElem?_eq_getElem hk] at h
  exact (Array.getElem?_eq_some_iff.1 h).1
theorem ArAt.keep2 {W W' : World} {a mb wb bb c n g : Nat} {f : Nat → Bool} {l : List UInt8} (h : ArAt W a mb wb bb c n g f l) (hk : ∀ k, k = a ∨ k = mb ∨ k = wb ∨ k = bb → W'.heap[k]? = W.heap[k]?) : ArAt W' a mb wb bb c n g f l :=
  ⟨(World.cell?_of_block (hk a (.inl rfl))).trans h.q0, (World.cell?_of_block (hk a (.inl rfl))).trans h.q1,
    ⟨(World.cell?_of_block (hk mb (.inr (.inl rfl)))).trans h.m.h0, (World.cell?_of_block (hk mb (.inr (.inl rfl)))).trans h.m.h1, (World.cell?_of_block (hk mb (.inr (.inl rfl)))).trans h.m.h2,
      fun i hi => ⟨(World.cell?_of_block (hk wb (.inr (.inr (.inl rfl))))).trans (h.m.ws i hi).1, (World.frozen?_of_block (hk wb (.inr (.inr (.inl rfl))))).trans (h.m.ws i hi).2⟩, h.m.ne, lt_of_block (hk mb (.inr (.inl rfl))) h.m.lb, lt_of_block (hk wb (.inr (.inr (.inl rfl)))) h.m.lw, h.m.off, h.m.le⟩,
    ownsRow_block h.own (hk bb (.inr (.inr (.inr rfl)))), h.hn, h.lo, h.hi, lt_of_block (hk a (.inl rfl)) h.la, h.n1, h.n2, h.n3, h.n4⟩
theorem nxt_cut {V w w6 w' : World} {a mb wb bb cc N g : Nat} {f0 G : Nat → Bool} {l0 Ll : List UInt8} {v : Value} {e : Ending} (A6 : ArAt w6 a mb wb bb cc N g G Ll) (hO : Of2 w.heap.size wb bb w w6) (H : ArAt w a mb wb bb cc N g f0 l0) (hV : V.heap.size = w.heap.size) (hVb : Below w.heap.size V w6)
    (h : e = .returned v ∧ Below V.heap.size V w') : Nxt a mb wb bb cc N g G Ll w v e w' := by
  obtain ⟨he, hb⟩ := h
  rw [hV] at hb
  have hk : ∀ k, k < w.heap.size → w'.heap[k]? = w6.heap[k]? := fun k hk => (hb.block k hk).trans (hVb.block k hk).symm
  have q1 := H.la
  have q2 := H.lb
  have q3 := H.m.lb
  have q4 := H.m.lw
  have q5 := hb.size
  exact ⟨he, A6.keep2 (fun k hk' => hk k (by omega)), ⟨hb.os.trans (hVb.os.symm.trans hO.os), hb.tape.trans (hVb.tape.symm.trans hO.tape), hb.output.trans (hVb.output.symm.trans hO.output), by omega, fun k hk1 h1 h2 => (hk k hk1).trans (hO.block k hk1 h1 h2)⟩⟩
section
variable {w : World} {a mb wb bb cc N g : Nat} {f : Nat → Bool} {l : List UInt8}
set_option maxHeartbeats 16000000 in
theorem pDo_store (H : ArAt w a mb wb bb cc N g f l) (hT : Tabs w) (F : List Cp) (hF : Fit F) (op A B C m : Int) (hm : mayB ⟨op, A, B, C, m⟩ = true) (h53 : op ≠ 53) (hop : op = 20 ∨ op = 21 ∨ op = 22 ∨ op = 24) : Calls Tryz.prog 12 #[fV F, .agg #[.int .i64 op, .int .i64 A, .int .i64 B, .int .i64 C, .int .i64 m], .pointer (some ⟨a, 0, none⟩)] w (Nxt a mb wb bb cc N g (doG F ⟨op, A, B, C, m⟩ N f) (doL F ⟨op, A, B, C, m⟩ N l) w (.tuple #[fV (doF F ⟨op, A, B, C, m⟩ N f l), .int .i64 (doT F ⟨op, A, B, C, m⟩ N)])) := by
  have k0 := Lib.hid (start_do F op A B C m w)
  have hM := Lib.hid (fun w (h : Tabs w) => pmay_any op A B C m w h)
  rw [hm] at hM
  obtain ⟨_, ⟨hA0, hA1⟩, ⟨hB0, hB1⟩, ⟨hC0, hC1⟩⟩ := may_flds hm
  dsimp only at hA0 hA1 hB0 hB1 hC0 hC1
  obtain ⟨A, rfl⟩ := Int.eq_ofNat_of_zero_le hA0
  obtain ⟨B, rfl⟩ := Int.eq_ofNat_of_zero_le hB0
  obtain ⟨C, rfl⟩ := Int.eq_ofNat_of_zero_le hC0
  replace hA1 : A < 16 := by omega
  replace hB1 : B < 16 := by omega
  replace hC1 : C < 16 := by omega
  clear hA0 hB0 hC0
  have hok : (mayB ⟨op, A, B, C, m⟩ && decide (op ≠ 53)) = true := by rw [hm, decide_eq_true h53]; rfl
  replace hok := Lib.hid hok
  obtain ⟨R, hR⟩ : ∃ R, R = doF F ⟨op, A, B, C, m⟩ N f l := ⟨_, rfl⟩
  obtain ⟨Tt, hTt⟩ : ∃ T, T = doT F ⟨op, A, B, C, m⟩ N := ⟨_, rfl⟩
  obtain ⟨G, hG⟩ : ∃ G, G = doG F ⟨op, A, B, C, m⟩ N f := ⟨_, rfl⟩
  obtain ⟨Ll, hLl⟩ : ∃ Ll, Ll = doL F ⟨op, A, B, C, m⟩ N l := ⟨_, rfl⟩
  rw [← hR, ← hTt, ← hG, ← hLl]
  replace hR := Lib.hid hR
  replace hTt := Lib.hid hTt
  replace hG := Lib.hid hG
  replace hLl := Lib.hid hLl
  have hNx := Lib.hid (fun w => pNext_any F hF w)
  have hN : (nxt F).length = 17 := by unfold nxt; rw [List.length_set]; exact hF.len
  have sz := size_fr hF.len
  obtain ⟨X, hX⟩ : ∃ X, X = nxt F := ⟨_, rfl⟩
  rw [← hX] at hN hNx
  replace hX := Lib.hid hX
  have sX := size_fa hN
  have oX := one_fr X
  have n53 : (op == 53) = false := by simpa using h53
  replace H := Lib.hid H
  replace hT := Lib.hid hT
  unfold fV
  go_enter Tryz.func12, Tryz.ntmps12
  go_upto_region 1 with (fail)
  generalize (((w.alloc (.cells (fC F).toArray 28)).alloc _).alloc _) = w1 at k0 ⊢
  have T1 := Lib.hid (hT.out.below k0.out.bl)
  have i0 := k0.out.cell (g := w.heap.size + 1) (j := 0) (u := .int .i64 op) (ir op A B C m) (by simp) rfl
  have i1 := k0.out.cell (g := w.heap.size + 1) (j := 1) (u := .int .i64 A) (ir op A B C m) (by simp) rfl
  have i2 := k0.out.cell (g := w.heap.size + 1) (j := 2) (u := .int .i64 B) (ir op A B C m) (by simp) rfl
  have i3 := k0.out.cell (g := w.heap.size + 1) (j := 3) (u := .int .i64 C) (ir op A B C m) (by simp) rfl
  have i4 := k0.out.cell (g := w.heap.size + 1) (j := 4) (u := .int .i64 m) (ir op A B C m) (by simp) rfl
  go_wp2_with fail
  refine (hM.out _ T1.out).mono ?_
  rintro ee w2 ⟨rfl, h2⟩
  have k2 := Lib.hid (k0.out.below h2)
  clear h2 k0 i0 i1 i2 i3 i4 hM T1
  have rg := k2.out.range (g := w.heap.size) (vs := fC F) (by simp)
  go_wp2_with ((with_reducible show wpList _ _ _ _ _ _); refine wpList_load_mid rfl 28 _ rfl w.heap.size 0 rfl (fC F) _ rg Tryz.underlying28 rfl sz ?_)
  refine (hNx.out _).mono ?_
  rintro ee w3 ⟨rfl, h3⟩
  have k3 := Lib.hid (k2.out.below h3)
  clear h3 k2 rg hNx
  have q1 := k3.out.lt (g := w.heap.size + 2) (vs := fC zF) (by simp)
  have k4 := (k3.out.push (fC zF) 28).push [.int .i64 0] 39
  rw [← zero_fr, World.size_alloc] at k4
  have th := k4.there (g := w3.heap.size) (vs := fC zF) (by simp) 0 136 (by rw [fC_len]; decide)
  have k5 := Lib.hid (k4.swap.putA (fC X) (by omega) (fun x hx => by
    simp only [List.mem_cons, List.not_mem_nil, or_false] at hx
    rcases hx with rfl | rfl | rfl | rfl <;> simp only [ne_eq] <;> omega) (by rw [fC_len, fC_len, hN]; rfl))
  have th' : ((w3.alloc (.cells Tryz.zeroCells28 28)).alloc (.cells #[.int .i64 0] 39)).there w3.heap.size 0 (fC X).toArray.size := by rw [show (fC X).toArray.size = 136 from by rw [List.size_toArray, fC_len, hN]]; exact th
  clear k4 th k3
  go_upto_region 4 with ((with_reducible show wpList _ _ _ _ _ _); refine wpList_store_mid rfl 28 _ _ rfl w3.heap.size 0 (fC X).toArray rfl rfl th' sX oX ?_; clear th'; change wpList _ _ _ _ _ (((w3.alloc (.cells Tryz.zeroCells28 28)).alloc (.cells #[.int .i64 0] 39)).setCells w3.heap.size 0 (fC X)); generalize ((w3.alloc (.cells Tryz.zeroCells28 28)).alloc (.cells #[.int .i64 0] 39)).setCells w3.heap.size 0 (fC X) = w4 at k5 ⊢; generalize w3.heap.size = q at k5 q1 ⊢; have v8 := k5.out.cell (g := q + 1) (j := 0) (u := .int .i64 0) [.int .i64 0] (by simp) rfl; have f8 := k5.out.soft (g := q + 1) (vs := [.int .i64 0]) (by simp) 0; have hst : w4.setCell ⟨q + 1, 0, none⟩ (.int .i64 0) = w4.setCell ⟨q + 1, 0, none⟩ (.int .i64 0) := rfl)
  have k6 := Lib.hid ((((k5.out.swap.set (by omega) (fun x hx => by
    simp only [List.mem_cons, List.not_mem_nil, or_false] at hx
    rcases hx with rfl | rfl | rfl | rfl <;> simp only [ne_eq] <;> omega) 0 (.int .i64 0) (by simp)) : KR w (⟨q + 1, [.int .i64 0]⟩ :: _) _).sub (L' := [⟨q, fC X⟩, ⟨q + 1, [.int .i64 0]⟩, ⟨w.heap.size + 1, ir op A B C m⟩, ⟨w.heap.size + 2, fC zF⟩, ⟨w.heap.size, fC F⟩]) (by simp)))
  clear k5 hst v8 f8
  generalize w4.setCell ⟨q + 1, 0, none⟩ (.int .i64 0) = w5 at k6 ⊢
  have jA0 : (0 : Int) ≤ (A : Int) := by omega
  have jA1 : (A : Int) < 16 := by omega
  have rg := k6.out.range (g := w.heap.size) (vs := fC F) (by simp)
  have i0 := k6.out.cell (g := w.heap.size + 1) (j := 0) (u := .int .i64 op) (ir op A B C m) (by simp) rfl
  have i1 := k6.out.cell (g := w.heap.size + 1) (j := 1) (u := .int .i64 A) (ir op A B C m) (by simp) rfl
  have i2 := k6.out.cell (g := w.heap.size + 1) (j := 2) (u := .int .i64 B) (ir op A B C m) (by simp) rfl
  have i3 := k6.out.cell (g := w.heap.size + 1) (j := 3) (u := .int .i64 C) (ir op A B C m) (by simp) rfl
  have i4 := k6.out.cell (g := w.heap.size + 1) (j := 4) (u := .int .i64 m) (ir op A B C m) (by simp) rfl
  have hSz : sizN op = (widI op).toNat := by rcases hop with rfl | rfl | rfl | rfl <;> rfl
  have hSt := Lib.hid (fun (w : World) (H : ArAt w a mb wb bb cc N g f l) => pstore_any H F hF op A B C hA1 hB1 m (widI op).toNat hSz hop)
  have hTv : Tt = wayT (reg F B) (atN F B m) (widI op).toNat (needN F op A) N := by
    rw [hTt.out]; unfold doT; rw [hok.out, if_neg (by simp), if_pos (by unfold isL isS; rcases hop with rfl | rfl | rfl | rfl <;> rfl)]; rfl
  have hSS : isS op = true := by unfold isS; rcases hop with rfl | rfl | rfl | rfl <;> rfl
  have hGv : (if Tt = 0 then stoF N f (reg F A) (atN F B m) op (widI op).toNat else f) = G := by
    rw [hG.out]; unfold doG; rw [← hTt.out]
    by_cases h0 : Tt = 0
    · rw [if_pos h0, if_pos ⟨h0, hSS⟩]; rfl
    · rw [if_neg h0, if_neg (fun h => h0 h.1)]
  have hLv : (if Tt = 0 then stoL N l (reg F A) (atN F B m) op (widI op).toNat else l) = Ll := by
    rw [hLl.out]; unfold doL; rw [← hTt.out]
    by_cases h0 : Tt = 0
    · rw [if_pos h0, if_pos ⟨h0, hSS⟩]; rfl
    · rw [if_neg h0, if_neg (fun h => h0 h.1)]
  have hRv : R = if Tt ≠ 0 then zF else nxt F := by
    rw [hR.out]; unfold doF; rw [← hTt.out]
    rcases hop with rfl | rfl | rfl | rfl <;> rfl
  rw [← hTv, hGv, hLv] at hSt
  have hRx := Lib.hid (show Tt = 0 → X = R from fun h0 => by rw [hRv, if_neg (by simpa using h0), hX.out])
  have hRz := Lib.hid (show Tt ≠ 0 → zF = R from fun h0 => by rw [hRv, if_pos h0])
  clear hTv hRv hSz hTt hR hGv hLv hSS hG hLl
  have H6 := Lib.hid (H.out.below k6.out.bl)
  have rs5 := Lib.hid (show RS [⟨q, fC X⟩, ⟨q + 1, [.int .i64 0]⟩, ⟨w.heap.size + 2, fC zF⟩] w5 from fun x hx => k6.out.al x (by
    simp only [List.mem_cons, List.not_mem_nil, or_false] at hx
    rcases hx with rfl | rfl | rfl <;> simp))
  have k5b := Lib.hid k6.out.bl
  rcases hop with rfl | rfl | rfl | rfl
  all_goals
    go_wp2_with ((with_reducible show wpList _ _ _ _ _ _); (refine wpList_load_mid rfl 28 _ rfl w.heap.size 0 rfl (fC F) _ rg Tryz.underlying28 rfl sz ?_))
    refine (hSt.out _ H6.out).mono ?_
    rintro ee w6 ⟨rfl, A6, h6⟩
    have rs6 := rs5.out.of2 h6 (by
      intro x hx
      simp only [List.mem_cons, List.not_mem_nil, or_false] at hx
      have := H.out.lb
      have := H.out.m.lw
      rcases hx with rfl | rfl | rfl <;> simp only [ne_eq] <;> omega)
    have hO := Lib.hid ((Of2.of_below k5b.out).step h6)
    replace A6 := Lib.hid A6
    obtain ⟨V, hV, hVb⟩ := cut_base (w6 := w6) (B := w.heap.size) hO.out.size
    have k7 : KR V [⟨q, fC X⟩, ⟨q + 1, [.int .i64 0]⟩, ⟨w.heap.size + 2, fC zF⟩] w6 := KR.mk (hV ▸ hVb) rs6
    clear h6 k6 hSt H6 rg i0 i1 i2 i3 i4 k5b rs5 rs6
    have v8 := k7.cell (g := q + 1) (j := 0) (u := .int .i64 0) [.int .i64 0] (by simp) rfl
    have f8 := k7.soft (g := q + 1) (vs := [.int .i64 0]) (by simp) 0
    have k8 := Lib.hid (((k7.swap.set (by omega) (fun x hx => by
      simp only [List.mem_cons, List.not_mem_nil, or_false] at hx
      rcases hx with rfl | rfl <;> simp only [ne_eq] <;> omega) 0 (.int .i64 Tt) (by simp)) : KR V (⟨q + 1, [.int .i64 Tt]⟩ :: _) _).sub (L' := [⟨q, fC X⟩, ⟨q + 1, [.int .i64 Tt]⟩, ⟨w.heap.size + 2, fC zF⟩]) (by simp))
    have hfin := Lib.hid (fun (e : Ending) (w' : World) (h : e = .returned (.tuple #[fV R, .int .i64 Tt]) ∧ Below V.heap.size V w') => (show Nxt a mb wb bb cc N g G Ll w (.tuple #[fV R, .int .i64 Tt]) e w' from nxt_cut A6.out hO.out H.out hV hVb h))
    clear k7 A6 hO
    go_upto_region 33 with (fail)
    clear v8 f8
    generalize w6.setCell ⟨q + 1, 0, none⟩ (.int .i64 Tt) = w7 at k8 ⊢
    by_cases ht : Tt = 0
    · subst ht
      obtain ⟨Y, hY⟩ : ∃ Y, Y = X := ⟨_, rfl⟩
      have hYl : Y.length = 17 := by rw [hY]; exact hN
      have hYR := Lib.hid (show Y = R from hY.trans (hRx.out rfl))
      rw [← hY] at k8
      clear hY
      have v8 := k8.out.cell (g := q + 1) (j := 0) (u := .int .i64 0) [.int .i64 0] (by simp) rfl
      have rq := k8.out.range (g := q) (vs := fC Y) (by simp)
      have sY := size_fr hYl
      have sa := size_fa hYl
      have oY := one_fr Y
      have th := k8.out.there (g := w.heap.size + 2) (vs := fC zF) (by simp) 0 136 (by rw [fC_len]; decide)
      have th' : w7.there (w.heap.size + 2) 0 (fC Y).toArray.size := by rw [show (fC Y).toArray.size = 136 from by rw [List.size_toArray, fC_len, hYl]]; exact th
      have k9 := Lib.hid ((k8.out.sub (L' := [⟨w.heap.size + 2, fC zF⟩]) (by simp)).putA (fC Y) (by omega) (by simp) (by rw [fC_len, fC_len, hYl]; rfl))
      clear th k8
      go_wp2_with ((with_reducible show wpList _ _ _ _ _ _); first | (refine wpList_load_mid rfl 28 _ rfl q 0 rfl (fC Y) _ rq Tryz.underlying28 rfl sY ?_) | (refine wpList_store_mid rfl 28 _ _ rfl (w.heap.size + 1 + 1) 0 (fC Y).toArray rfl rfl th' sa oY ?_; clear th' rq sa oY sY v8; change wpList _ _ _ _ _ (w7.setCells (w.heap.size + 2) 0 (fC Y)); generalize w7.setCells (w.heap.size + 2) 0 (fC Y) = wf at k9 ⊢))
      exact bodyPost_ret (v := .tuple #[fV Y, .int .i64 0]) (res_two Tryz.results12 rfl rfl (load_fr k9.out (List.mem_cons_self ..) hYl)) rfl (hfin.out _ _ ⟨by rw [hYR.out], k9.out.bl⟩)
    · have ht' : (Tt == 0) = false := by simpa using ht
      have hZ := Lib.hid (hRz.out ht)
      clear ht
      have v8 := k8.out.cell (g := q + 1) (j := 0) (u := .int .i64 Tt) [.int .i64 Tt] (by simp) rfl
      have zs : (Tryz.prog.info? 28).map (·.size) = some (Tryz.zeroCells28).size := by rw [zero_fr]; exact size_fa (F := zF) rfl
      have zo : (Tryz.zeroCells28).all (·.oneCell') = true := by rw [zero_fr]; exact one_fr zF
      go_upto_region 34 with (fail)
      have kd := Lib.hid k8.out.drew
      have j0 : w7.drew.cell? ⟨q + 1, 0, none⟩ = some (.int .i64 Tt) := v8
      have th := kd.out.there (g := w.heap.size + 2) (vs := fC zF) (by simp) 0 136 (by rw [fC_len]; decide)
      have k9 := Lib.hid ((kd.out.sub (L' := [⟨w.heap.size + 2, fC zF⟩]) (by simp)).putA (fC zF) (by omega) (by simp) rfl)
      have j1 := ((kd.out.sub (L' := [⟨w.heap.size + 2, fC zF⟩, ⟨q + 1, [.int .i64 Tt]⟩]) (by simp)).putA (fC zF) (by omega) (fun x hx => by
        simp only [List.mem_cons, List.not_mem_nil, or_false] at hx
        subst hx
        simp only [ne_eq]
        omega) rfl).cell (g := q + 1) (j := 0) (u := .int .i64 Tt) [.int .i64 Tt] (by simp) rfl
      have th' : w7.drew.there (w.heap.size + 2) 0 (Tryz.zeroCells28).size := by rw [show (Tryz.zeroCells28).size = 136 from by rw [zero_fr, List.size_toArray, fC_len]; rfl]; exact th
      have hz : w7.drew.setCells (w.heap.size + 2) 0 (Tryz.zeroCells28).toList = w7.drew.setCells (w.heap.size + 2) 0 (fC zF) := by rw [zero_fr]
      replace hz := Lib.hid hz
      clear th k8 kd v8
      refine wp_region_held_drew (S := fun w' => w'.cell? ⟨q + 1, 0, none⟩ = some (.int .i64 Tt)) (by kernel_rfl) j0 (fun hHeld => ?_)
      refine wpAnyH_take (i := 0) (v := .agg Tryz.zeroCells28) rfl (by kernel_rfl) (by kernel_rfl) (by kernel_rfl) (fun _ _ _ h => h) (Or.inl ⟨by rfl, fun w' hw' => ?_⟩) j0 ?_
      · go_simp
      try simp only [Act.put]
      try simp only [List.setIfInBounds_toArray]
      try simp only [List.set_cons_succ]
      try simp only [List.set_cons_zero]
      refine wpAnyH_take (i := 1) (v := .int .i64 Tt) rfl (by kernel_rfl) (by kernel_rfl) (by kernel_rfl) (fun _ _ _ h => h) (Or.inl ⟨by rfl, fun w' hw' => ?_⟩) j0 ?_
      · dsimp only at hw'
        go_simp
      try simp only [Act.put]
      try simp only [List.setIfInBounds_toArray]
      try simp only [List.set_cons_succ]
      try simp only [List.set_cons_zero]
      refine wpAnyH_ready (rs := [2]) (by kernel_rfl) (by simp) (AllReadyH.cons rfl (fun K hK => ?_) AllReadyH.nil)
      rw [if_pos (by rfl)]
      refine wp_store_mid 28 _ _ rfl (w.heap.size + 1 + 1) 0 Tryz.zeroCells28 rfl rfl th' zs zo ?_
      clear th' zs zo
      change K _ (w7.drew.setCells (w.heap.size + 2) 0 (Tryz.zeroCells28).toList)
      rw [hz.out]
      generalize w7.drew.setCells (w.heap.size + 2) 0 (fC zF) = wf at k9 j1 ⊢
      refine hK.out _ _ j1 (fun hHeld2 => ?_)
      clear hK K
      try simp only [Act.put]
      try simp only [List.setIfInBounds_toArray]
      try simp only [List.set_cons_succ]
      try simp only [List.set_cons_zero]
      refine wpAnyH_ready (rs := [3]) (by kernel_rfl) (by simp) (AllReadyH.cons rfl (fun K hK => ?_) AllReadyH.nil)
      go_simp
      refine hK.out _ _ j1 (fun hHeld3 => ?_)
      clear hK K
      try simp only [Act.put]
      try simp only [List.setIfInBounds_toArray]
      try simp only [List.set_cons_succ]
      try simp only [List.set_cons_zero]
      refine wpAnyH_done (by kernel_rfl) ?_ _
      go_wp2_with fail
      exact bodyPost_ret (v := .tuple #[fV zF, .int .i64 Tt]) (res_two Tryz.results12 rfl rfl (load_fr k9.out (List.mem_cons_self ..) rfl)) rfl (hfin.out _ _ ⟨by rw [hZ.out], k9.out.bl⟩)
end
end Go.Proofs.YtkmgdfcambdeeaaGreatDoor
