/- Contracts of layer heap: Malloc. No statement is proved here.; Plain mathematics of layer heap: what is given back. No statement is proved here.; Contracts of layer heap: giveBack. No statement is proved here. -/
import Derived.Test.YticfpnhfhhagpaaDoormt
import Derived.Test.YticfpnhfhhagpaaDoorms
namespace Go.Proofs.YticfpnhfhhagpaaDoor
set_option maxRecDepth 100000
open Go.RowKit Go.Shelf Go.Maps
set_option linter.unusedVariables false

section
variable {W W' w w' : World} {B : Blk} {lo hi p0 p1 q : Nat} {L R X : List Rg} {u v : Value} {r : Rg}
/-- A region in a box. -/
structure Bx (q : Nat) (u v : Value) (w : World) : Prop where
  c0 : w.cell? ⟨q, 0, none⟩ = some u
  c1 : w.cell? ⟨q, 1, none⟩ = some v
  f0 : w.frozen? ⟨q, 0, none⟩ = false
  f1 : w.frozen? ⟨q, 1, none⟩ = false
theorem Bx.lt (H : Bx q u v w) : q < w.heap.size := lt_of_cell' (p := ⟨q, 0, none⟩) H.c0
theorem Bx.new (w : World) (u v : Value) (T : TypeId) : Bx w.heap.size u v (w.alloc (.cells #[u, v] T)) := ⟨by simp, by simp, by simp, by simp⟩
theorem Bx.keep (H : Bx q u v w) (h : w'.heap[q]? = w.heap[q]?) : Bx q u v w' :=
  ⟨(World.cell?_of_block (a := ⟨q, 0, none⟩) h).trans H.c0, (World.cell?_of_block (a := ⟨q, 1, none⟩) h).trans H.c1, (World.frozen?_of_block (a := ⟨q, 0, none⟩) h).trans H.f0, (World.frozen?_of_block (a := ⟨q, 1, none⟩) h).trans H.f1⟩
theorem Bx.mid (H : Bx q u v w) (m : Mid lo hi w w') (hq : hi ≤ q) : Bx q u v w' := H.keep (m.block q H.lt (.inr hq))
theorem Bx.grow (H : Bx q u v w) (m : Below w.heap.size w w') : Bx q u v w' := H.keep (m.block q H.lt)
theorem Bx.set (H : Bx q u v w) (u' v' : Value) : Bx q u' v' ((w.setCell ⟨q, 0, none⟩ u').setCell ⟨q, 1, none⟩ v') := by
  refine ⟨?_, ?_, ?_, ?_⟩
  · rw [World.cell?_setCell_other _ _ _ _ (fun e => by have := congrArg Addr.off e; simp at this)]
    exact World.cell?_setCell_same' _ _ _ (by rw [H.c0]; rfl)
  · exact World.cell?_setCell_same' _ _ _ (by rw [World.cell?_setCell_other _ _ _ _ (fun e => by have := congrArg Addr.off e; simp at this), H.c1]; rfl)
  · rw [World.frozen?_setCell, World.frozen?_setCell]; exact H.f0
  · rw [World.frozen?_setCell, World.frozen?_setCell]; exact H.f1
theorem Bx.ret (H : Bx q u v w) : (loadVar 26 ⟨q, 0, none⟩).run Tryd.prog w = .ok (.agg #[u, v]) w := by
  have ia : ∀ w, (isAgg 26).run Tryd.prog w = .ok true w := fun w => by kernel_rfl
  have sz : ∀ w, (sizeOf 26).run Tryd.prog w = .ok 2 w := fun w => by kernel_rfl
  have hl := run_loadCells_list (P := Tryd.prog) w ⟨q, 0, none⟩ [u, v] (fun j x hx => by
    match j, hx with
    | 0, hx => simp at hx; subst hx; simpa [Addr.add] using H.c0
    | 1, hx => simp at hx; subst hx; simpa [Addr.add] using H.c1)
  simp only [List.length_cons, List.length_nil] at hl
  simp [loadVar, ia, sz, hl]
theorem Mid.fresh (m : Mid lo hi W w) (h : Below W.heap.size w w') : Mid lo hi W w' :=
  ⟨h.os.trans m.os, h.tape.trans m.tape, h.output.trans m.output, Nat.le_trans m.size h.size, fun k hk hn => (h.block k hk).trans (m.block k hk hn)⟩
theorem Mid.set (m : Mid lo hi W w) (hq : W.heap.size ≤ q) (u v : Value) : Mid lo hi W ((w.setCell ⟨q, 0, none⟩ u).setCell ⟨q, 1, none⟩ v) :=
  m.fresh (((Below.refl _ w).setCell (p := ⟨q, 0, none⟩) hq u).setCell (p := ⟨q, 1, none⟩) hq v)
theorem HX.low (H : HX B lo hi p0 p1 L R X W) (h : Below hi W W') : HX B lo hi p0 p1 L R X W' := ⟨H.hs.keep (fun k _ hk => h.block k hk) h.size, H.good, H.lt, H.le⟩
theorem HX.set (H : HX B lo hi p0 p1 L R X w) (hq : hi ≤ q) (u v : Value) : HX B lo hi p0 p1 L R X ((w.setCell ⟨q, 0, none⟩ u).setCell ⟨q, 1, none⟩ v) :=
  H.low (((Below.refl _ w).setCell (p := ⟨q, 0, none⟩) hq u).setCell (p := ⟨q, 1, none⟩) hq v)
theorem insR_perm (r : Rg) : ∀ l : List Rg, (insR r l).Perm (r :: l)
  | [] => List.Perm.refl _
  | q :: l => by
    unfold insR
    split
    · exact List.Perm.refl _
    · exact ((insR_perm r l).cons q).trans (List.Perm.swap r q l)
/-- A heap: what is taken is live, or rests. -/
def HA (B : Blk) (lo hi p0 p1 : Nat) (L R : List Rg) (W : World) : Prop := HX B lo hi p0 p1 L R (L ++ R) W
def malO (p0 p1 : Nat) (X : List Rg) (s : Nat) : Option Rg := if szO s ((p1 - p0) * 256) then (takeV p0 p1 X (szP s)).map fun a => (a, szP s) else none
def malE (p0 p1 : Nat) (X : List Rg) (s : Nat) : Int := if szO s ((p1 - p0) * 256) then (if (takeV p0 p1 X (szP s)).isSome then 0 else 7) else 6
def malL (L : List Rg) : Option Rg → List Rg
  | none => L
  | some r => insR r L
def MalPost (B : Blk) (lo hi p0 p1 : Nat) (L R : List Rg) (s : Nat) (w : World) (e : Ending) (w' : World) : Prop :=
  e = .returned (.tuple #[rgV ((malO p0 p1 (L ++ R) s).getD (0, 0)), .int .i64 (malE p0 p1 (L ++ R) s)]) ∧ Mid lo hi w w' ∧ HA B lo hi p0 p1 (malL L (malO p0 p1 (L ++ R) s)) R w'
/-- Room for one more in the map. -/
theorem HX.putLive (H : HX B lo hi p0 p1 L R (r :: (L ++ R)) W) : ∃ W', (Instr.mapUpdate 50 (.map (some B.lb)) (.int .u32 (r.1 : Int)) (rgV r)).run Tryd.prog W = .ok () W' ∧ HA B lo hi p0 p1 (insR r L) R W' ∧ Mid lo hi W W' := by
  have h1 := H.good.length H.le
  have h2 : ∀ q ∈ L, q.1 ≠ r.1 := fun q hq e => by
    have := (List.pairwise_cons.1 H.good.apart).1 q (List.mem_append.2 (.inl hq))
    have := H.good.pos (.head _)
    have := H.good.pos (.tail r (List.mem_append.2 (.inl hq) : q ∈ L ++ R))
    omega
  have h3 := H.good.u32 H.le (.head _)
  have h4 := H.good.pos (.head _)
  simp only [List.length_cons, List.length_append] at h1
  obtain ⟨W', hr, hm, ho⟩ := H.hs.live.put (L' := insR r L) (r := r) (by omega) h2 (by omega) (fun q => insR_mem r L q) (insR_asc H.hs.live.asc h2) (insR_len r L)
  refine ⟨W', hr, ?_, Mid.of_off ho H.hs.lb_in.1 H.hs.lb_in.2⟩
  have := H.mem (Y := insR r L ++ R) ((insR_perm r L).symm.append_right R)
  exact ⟨this.hs.setLive ho hm, this.good, H.lt, H.le⟩
set_option maxHeartbeats 4000000 in
theorem Malloc_any (H : HA B lo hi p0 p1 L R w) (hT : TabAt 0 Lib.deBruijn32tab w) (hg : 0 < lo) (s : Nat) (hs : s < 4294967296) :
    Calls Tryd.prog 15 #[.pointer (some ⟨B.h, 0, none⟩), .int .u32 s] w (MalPost B lo hi p0 p1 L R s w) := by
  obtain ⟨W1, hW1⟩ : ∃ W1, W1 = w.alloc (.cells #[.int .u32 0, .int .u32 0] 26) := ⟨_, rfl⟩
  obtain ⟨q, hq⟩ : ∃ q, q = w.heap.size := ⟨_, rfl⟩
  have hhi : hi ≤ q := hq ▸ H.hs.hi
  have B1 : Below w.heap.size w W1 := by rw [hW1]; exact (Below.refl _ _).alloc (Nat.le_refl _) _
  have Q1 : Bx q (.int .u32 0) (.int .u32 0) W1 := by rw [hW1, hq]; exact Bx.new w _ _ _
  have H1 := H.grow B1
  have T1 := tab_grow hT B1
  have hsz : (p1 - p0) * 256 ≤ 262144 := by have := H.le; omega
  have hPd := Lib.hid (fun w => pPadded_any s ((p1 - p0) * 256) w hs (by omega))
  have hMd := Lib.hid (made_any H1.hs)
  have c0 := H1.hs.c0
  obtain ⟨z, hz⟩ : ∃ z, z = (p1 - p0) * 256 := ⟨_, rfl⟩
  rw [← hz] at c0 hPd hsz
  have hhl := Lib.hid (show B.h < W1.heap.size by have := (H1.hs.ok.inn B.h (.inl rfl)).2; have := H1.hs.hi; omega)
  obtain ⟨D, hD⟩ : ∃ D, D = MalPost B lo hi p0 p1 L R s w := ⟨_, rfl⟩
  rw [← hD]
  replace hD := Lib.hid hD
  have hH1 := Lib.hid H1
  have hT1 := Lib.hid T1
  have hB1 := Lib.hid B1
  have hQ1 := Lib.hid Q1
  have hq' := Lib.hid hq
  have hW1' := Lib.hid hW1
  have hz' := Lib.hid hz
  cases ho : szO s z with
  | false =>
    have e1 : padP s z = 0 ∧ padA s z = 0 ∧ padE s z = 6 := by unfold padP padA padE; rw [ho]; exact ⟨rfl, rfl, rfl⟩
    rw [e1.1, e1.2.1, e1.2.2] at hPd
    have hF := Lib.hid (fun w2 (hb : Below W1.heap.size W1 w2) => (show MalPost B lo hi p0 p1 L R s w (.returned (.tuple #[rgV (0, 0), .int .i64 6])) ((w2.setCell ⟨q, 0, none⟩ (.int .u32 0)).setCell ⟨q, 1, none⟩ (.int .u32 0)) from by
      have e1 : malO p0 p1 (L ++ R) s = none := by unfold malO; rw [← hz, ho]; rfl
      have e2 : malE p0 p1 (L ++ R) s = 6 := by unfold malE; rw [← hz, ho]; rfl
      refine ⟨by rw [e1, e2]; rfl, (Mid.of_below (B1.trans (hb.mono B1.size))).set (by omega) _ _, ?_⟩
      rw [e1]
      exact (H1.grow hb).set hhi _ _))
    clear H H1 T1 hT hMd Q1 B1 hW1 hq hz e1 hz'
    go_enter Tryd.func15, Tryd.ntmps15
    go_wp2_with fail
    rw [← hW1'.out]
    refine (made_any hH1.out.hs).mono ?_
    rintro e w1 ⟨rfl, rfl⟩
    go_wp2_with fail
    refine (hPd.out _).mono ?_
    rintro e w2 ⟨rfl, hb⟩
    rw [← hq'.out]
    have f0 := (hQ1.out.grow hb).f0
    have f1 := (hQ1.out.grow hb).f1
    have g0 := (hQ1.out.grow hb).c0
    have g1 := (hQ1.out.grow hb).c1
    have hb' := Lib.hid hb
    clear hb
    go_wp2_with fail
    rw [hD.out]
    exact bodyPost_ret (res_two Tryd.results15 rfl rfl ((hQ1.out.grow hb'.out).set _ _).ret) rfl (hF.out w2 hb'.out)
  | true =>
    have e1 : padP s z = szP s ∧ padA s z = szA s ∧ padE s z = 0 := by unfold padP padA padE; rw [ho]; exact ⟨rfl, rfl, rfl⟩
    rw [e1.1, e1.2.1, e1.2.2] at hPd
    obtain ⟨hPad, hle⟩ := pad_heap ho hsz
    obtain ⟨P, hP⟩ : ∃ P, P = szP s := ⟨_, rfl⟩
    obtain ⟨A, hA⟩ : ∃ A, A = szA s := ⟨_, rfl⟩
    rw [← hP, ← hA] at hPd hPad
    rw [← hP] at hle
    have hAb : A < 4294967296 := by have := (sz_facts (of_decide_eq_true ho).1).2.2.2.2.2; omega
    have hTk := Lib.hid (fun w2 (hb : Below W1.heap.size W1 w2) => take_any' (H1.grow hb) (tab_grow T1 hb) P A hPad (by omega) hAb hg)
    have hOo : malO p0 p1 (L ++ R) s = (takeV p0 p1 (L ++ R) P).map fun a => (a, P) := by unfold malO; rw [← hz, ho, hP]; rfl
    have hOe : malE p0 p1 (L ++ R) s = if (takeV p0 p1 (L ++ R) P).isSome then 0 else 7 := by unfold malE; rw [← hz, ho, hP]; rfl
    cases hv : takeV p0 p1 (L ++ R) P with
    | none =>
      rw [hv] at hOo hOe hTk
      have hF := Lib.hid (fun w3 (hm : Mid lo hi W1 w3) (hX : HX B lo hi p0 p1 L R (L ++ R) w3) => (show MalPost B lo hi p0 p1 L R s w (.returned (.tuple #[rgV (0, 0), .int .i64 7])) ((w3.setCell ⟨q, 0, none⟩ (.int .u32 0)).setCell ⟨q, 1, none⟩ (.int .u32 0)) from by
        refine ⟨by rw [hOo, hOe]; rfl, ((Mid.of_below B1).trans hm).set (by omega) _ _, ?_⟩
        rw [hOo]
        exact hX.set hhi _ _))
      replace hTk := Lib.hid (fun w2 (hb : Below W1.heap.size W1 w2) => (show Calls Tryd.prog 32 #[.pointer (some ⟨B.h, 0, none⟩), .int .u32 P, .int .u32 A] w2 fun e w' => e = .returned (.tuple #[.int .u32 0, .bool false]) ∧ Mid lo hi W1 w' ∧ HX B lo hi p0 p1 L R (L ++ R) w' from (hTk.out w2 hb).mono fun e w' k => by
        rcases k.2 with ⟨_, k1, k2⟩ | ⟨a, k1, _⟩
        · exact ⟨k1, (Mid.of_below hb).trans k.1, k2⟩
        · cases k1))
      clear H H1 T1 hT hMd Q1 B1 hW1 hq hz e1 hz' hOo hOe hv hP hA hPad hAb hle ho
      go_enter Tryd.func15, Tryd.ntmps15
      go_wp2_with fail
      rw [← hW1'.out]
      refine (made_any hH1.out.hs).mono ?_
      rintro e w1 ⟨rfl, rfl⟩
      go_wp2_with fail
      refine (hPd.out _).mono ?_
      rintro e w2 ⟨rfl, hb⟩
      have hb' := Lib.hid hb
      clear hb
      go_wp2_with fail
      refine (hTk.out _ hb'.out).mono ?_
      rintro e w3 ⟨rfl, hm, hX⟩
      rw [← hq'.out]
      have Q3 := Lib.hid (hQ1.out.mid hm hhi)
      have f0 := Q3.out.f0
      have f1 := Q3.out.f1
      have g0 := Q3.out.c0
      have g1 := Q3.out.c1
      replace hF := Lib.hid (hF.out _ hm hX)
      clear hm hX
      go_wp2_with fail
      rw [hD.out]
      exact bodyPost_ret (res_two Tryd.results15 rfl rfl (Q3.out.set _ _).ret) rfl hF.out
    | some a =>
      rw [hv] at hOo hOe hTk
      have hF := Lib.hid (fun w4 (hm : Mid lo hi w w4) (hX : HA B lo hi p0 p1 (insR (a, P) L) R w4) => (show MalPost B lo hi p0 p1 L R s w (.returned (.tuple #[rgV (a, P), .int .i64 0])) w4 from by
        refine ⟨by rw [hOo, hOe]; rfl, hm, ?_⟩
        rw [hOo]
        exact hX))
      replace hTk := Lib.hid (fun w2 (hb : Below W1.heap.size W1 w2) => (show Calls Tryd.prog 32 #[.pointer (some ⟨B.h, 0, none⟩), .int .u32 P, .int .u32 A] w2 fun e w' => e = .returned (.tuple #[.int .u32 (a : Int), .bool true]) ∧ Mid lo hi W1 w' ∧ HX B lo hi p0 p1 L R ((a, P) :: (L ++ R)) w' from (hTk.out w2 hb).mono fun e w' k => by
        rcases k.2 with ⟨k1, _⟩ | ⟨a', k1, k2, k3⟩
        · cases k1
        · cases k1; exact ⟨k2, (Mid.of_below hb).trans k.1, k3⟩))
      clear H H1 T1 hT hMd Q1 B1 hW1 hq hz e1 hz' hOo hOe hv hP hA hPad hAb hle ho
      go_enter Tryd.func15, Tryd.ntmps15
      go_wp2_with fail
      rw [← hW1'.out]
      refine (made_any hH1.out.hs).mono ?_
      rintro e w1 ⟨rfl, rfl⟩
      go_wp2_with fail
      refine (hPd.out _).mono ?_
      rintro e w2 ⟨rfl, hb⟩
      have hb' := Lib.hid hb
      clear hb
      go_wp2_with fail
      refine (hTk.out _ hb'.out).mono ?_
      rintro e w3 ⟨rfl, hm, hX⟩
      have hm' := Lib.hid hm
      have hX' := Lib.hid hX
      clear hm hX
      go_upto_region 10 with (fail)
      rw [← hq'.out]
      obtain ⟨W4, hW4⟩ : ∃ W4, W4 = w3.alloc (.cells #[.int .u32 (a : Int), .int .u32 (P : Int)] 26) := ⟨_, rfl⟩
      obtain ⟨q2, hq2⟩ : ∃ q2, q2 = w3.heap.size := ⟨_, rfl⟩
      have b34 : Below w3.heap.size w3 W4 := by rw [hW4]; exact (Below.refl _ _).alloc (Nat.le_refl _) _
      obtain ⟨S, hS0⟩ : ∃ S, S = fun w' => HX B lo hi p0 p1 L R ((a, P) :: (L ++ R)) w' ∧ Bx q (.int .u32 0) (.int .u32 0) w' ∧ Bx q2 (.int .u32 (a : Int)) (.int .u32 (P : Int)) w' ∧ Below W1.heap.size w3 w' := ⟨_, rfl⟩
      have hK : ∀ w', S w' → HX B lo hi p0 p1 L R ((a, P) :: (L ++ R)) w' ∧ Bx q (.int .u32 0) (.int .u32 0) w' ∧ Bx q2 (.int .u32 (a : Int)) (.int .u32 (P : Int)) w' ∧ Below W1.heap.size w3 w' := fun w' h => by rw [hS0] at h; exact h
      have hS : ∀ w1 w', S w1 → Below w1.heap.size w1 w' → S w' := fun w1 w' h k => by
        rw [hS0] at h ⊢
        exact ⟨h.1.grow k, h.2.1.grow k, h.2.2.1.grow k, h.2.2.2.trans (k.mono (Nat.le_trans hm'.out.size h.2.2.2.size))⟩
      have h4 : S W4 := by
        rw [hS0]
        exact ⟨hX'.out.grow b34, (hQ1.out.mid hm'.out hhi).grow b34, by rw [hq2, hW4]; exact Bx.new _ _ _ _, b34.mono hm'.out.size⟩
      have a1 : ∀ y : Wd S, y.w.cell? ⟨B.h, 1, none⟩ = some (.map (some B.lb)) := fun y => (hK _ y.h).1.hs.c1
      have b0 : ∀ y : Wd S, y.w.cell? ⟨q2, 0, none⟩ = some (.int .u32 (a : Int)) := fun y => (hK _ y.h).2.2.1.c0
      have b1 : ∀ y : Wd S, y.w.cell? ⟨q2, 1, none⟩ = some (.int .u32 (P : Int)) := fun y => (hK _ y.h).2.2.1.c1
      rw [← hW4, ← hq2]
      replace hK := Lib.hid hK
      have hne2 := Lib.hid (show q2 ≠ q from by have := (hQ1.out.mid hm'.out hhi).lt; omega)
      clear hW4 hS0 c0
      replace hq2 := Lib.hid hq2
      refine region_cls_tail S 6 (by kernel_rfl) (by kernel_rfl) (hS _ _ h4 (Below.refl _ _).drew) ?_
      simp only [List.take_succ_cons, List.take_zero, List.drop_succ_cons, List.drop_zero]
      repeat (first
        | go_big_quiet_skip
        | (go_big_quiet_want
           go_big_quiet_op
           first
           | go_big_quiet_on
           | (apply Exists.intro
              refine ⟨fun y => ?_, ?_⟩
              · first | exact rfl
              go_big_quiet_on)))
      refine wpQuiet_nil ?_
      intro y
      have hk := hK.out _ y.h
      obtain ⟨w5, hrun, hHA, hm5⟩ := hk.1.putLive
      obtain ⟨w4', hw4'⟩ : ∃ w4', w4' = y.w := ⟨_, rfl⟩
      rw [← hw4'] at hrun hm5 hk
      have Q5 := Lib.hid (hk.2.1.mid hm5 hhi)
      have R5 := hk.2.2.1.mid hm5 (by rw [hq2.out]; have := hH1.out.hs.hi; have := hm'.out.size; omega)
      have c0 := R5.c0
      have c1 := R5.c1
      have d0 := Q5.out.c0
      have d1 := Q5.out.c1
      have e0 := Q5.out.f0
      have e1 := Q5.out.f1
      have hfin := Lib.hid (show MalPost B lo hi p0 p1 L R s w (.returned (.tuple #[rgV (a, P), .int .i64 0])) ((w5.setCell ⟨q, 0, none⟩ (.int .u32 (a : Int))).setCell ⟨q, 1, none⟩ (.int .u32 (P : Int))) from by
        exact hF.out _ ((((Mid.of_below hB1.out).trans (hm'.out.fresh hk.2.2.2)).trans hm5).set (by rw [hq'.out]; exact Nat.le_refl _) _ _) (HX.set hHA hhi _ _))
      dsimp only [rgV] at hrun
      rw [← hw4']
      clear hk hHA hm5 R5 a1 b0 b1 hS hw4' h4 b34
      go_wp2_with fail
      rw [hD.out]
      exact bodyPost_ret (res_two Tryd.results15 rfl rfl (Q5.out.set _ _).ret) rfl hfin.out
end
end Go.Proofs.YticfpnhfhhagpaaDoor
namespace Go.Proofs.YticfpnhfhhagpaaDoor
set_option maxRecDepth 100000
set_option linter.unusedVariables false
section
variable {p0 p1 : Nat} {Y : List Rg} {c p s : Nat} {r : Rg}
/-- Nobody else has a byte of it. -/
theorem Good.free (G : Good p0 p1 (r :: Y)) : hit Y r.1 r.2 = false := hit_no.2 fun q hq k => by
  have := (List.pairwise_cons.1 G.apart).1 q hq
  have := G.pos (.tail r hq)
  omega
/-- A region of a slot is one of a page. -/
theorem slot_of (G : Good p0 p1 (r :: Y)) (hc : Small r c) : r = slot c (r.1 / 256) (r.1 % 256 / r.2) ∧ r.1 % 256 / r.2 < perN c := by
  obtain ⟨s, h1, h2, h3⟩ := small_at hc
  refine ⟨?_, by rw [h3]; exact h1⟩
  rw [h3]
  unfold slot
  rw [← h2, ← hc.2.1]
theorem back_slot (G : Good p0 p1 (slot c p s :: Y)) (hc : c < 5) (hs : s < perN c) (h : ofC Y c p = true) : slF Y c p s = true := slF_iff.2 ⟨h, hs, G.free⟩
/-- The last of its page. -/
theorem back_page (G : Good p0 p1 (slot c p s :: Y)) (hc : c < 5) (hs : s < perN c) (h : ofC Y c p = false) : fre p0 p1 Y p = true := by
  have hd := small_div (p := p) hc hs
  have hp := per_le hc
  have h0 := G.lo _ (.head _)
  have h1 := G.hi _ (.head _)
  have e1 : (slot c p s).1 = p * 256 + s * sltN c := rfl
  have e2 : (slot c p s).2 = sltN c := rfl
  rw [e1] at h0 h1
  rw [e2] at h1
  have hap := (List.pairwise_cons.1 G.apart).1
  have hno : ∀ r ∈ Y, r.2 = sltN c → r.1 / 256 = p → False := fun r hr a b => by
    have := ofC_iff.2 ⟨r, hr, a, b⟩
    rw [h] at this
    cases this
  refine fre_iff.2 ⟨by omega, by omega, hit_no.2 fun q hq k => ?_⟩
  have hq' := G.tail.pos hq
  have ha := hap q hq
  rw [e1, e2] at ha
  have hkind := G.kind q (.tail _ hq)
  have hsame := G.same _ (.head _) q (.tail _ hq)
  rw [e1, e2, hd.1] at hsame
  have h4 := hd.2.2.2
  generalize s * sltN c = m at *
  rcases hkind with ⟨d, hs2⟩ | ⟨k1, k2, k3⟩
  · have := small_page hs2 p
    rw [ovl_iff.2 k] at this
    have hpg := (of_decide_eq_true this.symm)
    exact hno q hq (hsame hpg.symm (by omega)).symm hpg
  · omega
theorem last_ofC (hc : c < 5) (hs : s < perN c) : ofC (slot c p s :: Y) c = upd (ofC Y c) p true := funext fun q => by
  have hp := per_le hc
  rw [ofC_cons]
  show ((decide (sltN c = sltN c) && decide ((p * 256 + s * sltN c) / 256 = q)) || ofC Y c q) = _
  rw [(small_div (p := p) hc hs).1]
  unfold upd
  by_cases e : q = p
  · subst e; simp
  · have : ¬ p = q := fun x => e x.symm
    simp [e, this]
theorem last_ofC_ne (hc : c < 5) {d : Nat} (hd : d < 5) (hn : d ≠ c) : ofC (slot c p s :: Y) d = ofC Y d := funext fun q => by
  rw [ofC_cons]
  have : ¬ sltN c = sltN d := fun e => hn (slt_inj hc hd e).symm
  show ((decide (sltN c = sltN d) && _) || ofC Y d q) = _
  simp [this]
theorem last_slF (hc : c < 5) (hs : s < perN c) (h : fre p0 p1 Y p = true) : slF (slot c p s :: Y) c = upd2 (updP (slF Y c) p (full (perN c))) p s false := funext fun q => funext fun t => by
  have hp := per_le hc
  have hn := hit_no.1 (fre_iff.1 h).2.2
  unfold slF
  rw [last_ofC hc hs, hit_cons]
  unfold upd2 updP upd full
  by_cases ht : t < perN c
  · rw [show slot c p s = (p * 256 + s * sltN c, sltN c) from rfl, slot_ovl hc hs ht q]
    by_cases e : q = p
    · subst e
      have : hit Y (q * 256 + t * sltN c) (sltN c) = false := hit_no.2 fun r hr k => hn r hr (by
        have := (small_div (p := q) hc ht).2.2.2
        generalize t * sltN c = m at *
        omega)
      by_cases e2 : t = s
      · subst e2; simp
      · simp [e2, ht, this]
    · simp [e]
  · have : ¬ t = s := by omega
    by_cases e : q = p <;> simp [ht, e, this]
theorem last_slF_ne (hc : c < 5) (hs : s < perN c) (h : fre p0 p1 Y p = true) {d : Nat} (hd : d < 5) (hn : d ≠ c) : slF (slot c p s :: Y) d = slF Y d := funext fun q => funext fun t => by
  have hp := per_le hc
  unfold slF
  rw [last_ofC_ne hc hd hn, hit_cons]
  by_cases e : q = p
  · subst e
    rw [ofC_free hd h]; simp
  · by_cases ht : t < perN d
    · have : ovl (slot c p s) (q * 256 + t * sltN d) (sltN d) = false := by
        rw [← Bool.not_eq_true, ovl_iff]
        show ¬ (p * 256 + s * sltN c < q * 256 + t * sltN d + sltN d ∧ q * 256 + t * sltN d < p * 256 + s * sltN c + sltN c)
        have a1 := (small_div (p := p) hc hs).2.2.2
        have a2 := (small_div (p := q) hd ht).2.2.2
        have := per_le hd
        generalize t * sltN d = n at *
        generalize s * sltN c = m at *
        omega
      rw [this, Bool.false_or]
    · simp [ht]
theorem last_fre (hc : c < 5) (hs : s < perN c) (q : Nat) : fre p0 p1 (slot c p s :: Y) q = (fre p0 p1 Y q && !inr p (p + 1) q) := by
  unfold fre
  rw [hit_cons, slot_page hc hs]
  by_cases e : p = q
  · subst e
    have : inr p (p + 1) p = true := by unfold inr; simp
    rw [this]; simp
  · have : inr p (p + 1) q = false := by unfold inr; simp; omega
    rw [this]; simp [e]
theorem page_in (G : Good p0 p1 (slot c p s :: Y)) (hc : c < 5) (hs : s < perN c) (hle : p1 ≤ 1024) : p < 1024 := by
  have h1 : p * 256 + s * sltN c + sltN c ≤ p1 * 256 := G.hi _ (.head _)
  have := per_le hc
  omega
theorem inP_nat {p : Nat} (h : p < 1024) : inP (p : Int) = true := by unfold inP; simp; omega
/-- Put: in a page that others have, too. -/
theorem put_ok (hle : p1 ≤ 1024) (G : Good p0 p1 (slot c p s :: Y)) (hc : c < 5) (hs : s < perN c) : okPut (perN c) (ofC (slot c p s :: Y) c) (slF (slot c p s :: Y) c) p s = true := by
  have h1 : ofC (slot c p s :: Y) c p = true := by rw [last_ofC hc hs]; unfold upd; simp
  have h2 : slF (slot c p s :: Y) c p s = false := by
    cases e : slF (slot c p s :: Y) c p s
    · rfl
    · have := (slF_iff.1 e).2.2
      rw [hit_cons, show slot c p s = (p * 256 + s * sltN c, sltN c) from rfl, slot_ovl hc hs hs p] at this
      simp at this
  unfold okPut mayPut
  simp [inP_nat (page_in G hc hs hle), h1, h2, hs]
theorem put_some (G : Good p0 p1 (slot c p s :: Y)) (hc : c < 5) (hs : s < perN c) (h : ofC Y c p = true) :
    ofC (slot c p s :: Y) c = ofC Y c ∧ upd2 (slF (slot c p s :: Y) c) p s true = slF Y c := by
  have h1 := back_slot G hc hs h
  refine ⟨take_ofC hc h1 hc, ?_⟩
  rw [take_slF hc h1]
  funext q t
  unfold upd2 upd
  by_cases e : q = p
  · subst e
    by_cases e2 : t = s
    · subst e2; simp [h1]
    · simp [e2]
  · simp [e]
theorem put_last (G : Good p0 p1 (slot c p s :: Y)) (hc : c < 5) (hs : s < perN c) (h : ofC Y c p = false) :
    upd2 (slF (slot c p s :: Y) c) p s true = updP (slF Y c) p (full (perN c)) ∧ updP (updP (slF Y c) p (full (perN c))) p (fun _ => false) = slF Y c ∧ upd (upd (ofC Y c) p true) p false = ofC Y c := by
  have h1 := back_page G hc hs h
  refine ⟨?_, ?_, ?_⟩
  · rw [last_slF hc hs h1]
    funext q t
    unfold upd2 upd updP full
    by_cases e : q = p
    · subst e
      by_cases e2 : t = s
      · subst e2; simp [hs]
      · simp [e2]
    · simp [e]
  · funext q t
    unfold updP
    by_cases e : q = p
    · subst e
      simp only [if_true]
      unfold slF
      rw [h]; rfl
    · simp [e]
  · funext q
    unfold upd
    by_cases e : q = p
    · subst e; simp [h]
    · simp [e]
/-- Is the page whole, behind Put? -/
theorem drop_ok (hle : p1 ≤ 1024) (G : Good p0 p1 (slot c p s :: Y)) (hc : c < 5) (hs : s < perN c) (h : ofC Y c p = false) :
    okW (perN c) (ofC (slot c p s :: Y) c) (upd2 (slF (slot c p s :: Y) c) p s true) p = true := by
  rw [(put_last G hc hs h).1, last_ofC hc hs]
  unfold okW isW
  rw [inP_nat (page_in G hc hs hle), Int.toNat_natCast, updP_same]
  unfold upd
  simp
theorem drop_not (hle : p1 ≤ 1024) (G : Good p0 p1 (slot c p s :: Y)) (hc : c < 5) (hs : s < perN c) (h : ofC Y c p = true) :
    okW (perN c) (ofC Y c) (slF Y c) p = false := by
  obtain ⟨q, hq, e1, e2⟩ := ofC_iff.1 h
  have hp := per_le hc
  have hk : Small q c := by
    rcases G.kind q (.tail _ hq) with ⟨d, hd⟩ | hl
    · have : d = c := slt_inj hd.1 hc (by have := hd.2.1; omega)
      exact this ▸ hd
    · have := hl.1; omega
  obtain ⟨t, h1, h2, _⟩ := small_at hk
  have hf : slF Y c p t = false := by
    cases e : slF Y c p t
    · rfl
    · have := hit_no.1 (slF_iff.1 e).2.2 q hq
      rw [e2] at h2
      have h5 := G.tail.pos hq
      exfalso
      exact this ⟨by omega, by omega⟩
  unfold okW isW
  have : ¬ w16 (slF Y c p) = w16 (full (perN c)) := fun e => by
    have e' := congrArg (fun x => Nat.testBit x t) e
    simp only [w16_bit, hf, full] at e'
    have ht : t < 16 := by omega
    simp [ht, h1] at e'
  rw [Int.toNat_natCast]
  simp [this]
/-- Whole pages given back. -/
theorem run_back {a n : Nat} (hn : 2 ≤ n) (G : Good p0 p1 ((a * 256, n * 256) :: Y)) : ∀ k, a ≤ k → k < a + n → fre p0 p1 Y k = true := fun k h1 h2 => by
  have h0 : p0 * 256 ≤ a * 256 := G.lo _ (.head _)
  have h3 : a * 256 + n * 256 ≤ p1 * 256 := G.hi _ (.head _)
  refine fre_iff.2 ⟨by omega, by omega, hit_no.2 fun q hq kk => ?_⟩
  have := (List.pairwise_cons.1 G.apart).1 q hq
  have this : a * 256 + n * 256 ≤ q.1 ∨ q.1 + q.2 ≤ a * 256 := this
  have := G.tail.pos hq
  omega
theorem put_run {f g : Nat → Bool} {n a run : Nat} (h1 : 1 ≤ run) (h2 : a + run ≤ n) (hf : ∀ k, f k = (g k && !inr a (a + run) k)) (hg : ∀ k, a ≤ k → k < a + run → g k = true) :
    ptB f n (a : Int) (run : Int) = true ∧ ptF f n (a : Int) (run : Int) = g := by
  have h : ptB f n (a : Int) (run : Int) = true := pt_iff.2 ⟨by omega, by omega, by omega, fun k h3 h4 => by
    rw [hf]
    have : inr a (a + run) k = true := by unfold inr; simp; omega
    rw [this]; simp⟩
  refine ⟨h, funext fun k => ?_⟩
  unfold ptF
  rw [if_pos h, hf, show ((a : Int) + (run : Int)).toNat = a + run from by omega, Int.toNat_natCast]
  by_cases e : a ≤ k ∧ k < a + run
  · rw [hg k e.1 e.2]
    have : inr a (a + run) k = true := by unfold inr; simp; omega
    rw [this]; rfl
  · have : inr a (a + run) k = false := by unfold inr; simp; omega
    rw [this]; simp
end
end Go.Proofs.YticfpnhfhhagpaaDoor
namespace Go.Proofs.YticfpnhfhhagpaaDoor
set_option maxRecDepth 100000
open Go.RowKit Go.Shelf Go.Maps
set_option linter.unusedVariables false
section
variable {W' W w : World} {B : Blk} {lo hi p0 p1 : Nat} {L R X Y : List Rg} {r : Rg}
theorem cls_slt {c : Nat} (hc : c < 5) : clsN (sltN c) = c ∧ clsB (sltN c) = true := by
  rcases slt_five hc with ⟨a, b, d⟩ | ⟨a, b, d⟩ | ⟨a, b, d⟩ | ⟨a, b, d⟩ | ⟨a, b, d⟩ <;> rw [b] <;> subst a <;> exact ⟨by decide, by decide⟩
def GbPost (B : Blk) (lo hi p0 p1 : Nat) (L R Y : List Rg) (w : World) (e : Ending) (w' : World) : Prop := e = .returned (.tuple #[]) ∧ Mid lo hi w w' ∧ HX B lo hi p0 p1 L R Y w'
set_option maxHeartbeats 4000000 in
theorem giveBack_any (H : HX B lo hi p0 p1 L R (r :: Y) w) : Calls Tryd.prog 34 #[.pointer (some ⟨B.h, 0, none⟩), rgV r] w (GbPost B lo hi p0 p1 L R Y w) := by
  have hu := H.good.u32 H.le (.head _)
  have hps := H.good.pos (.head _)
  obtain ⟨a, n⟩ := r
  have hu : a + n ≤ 262144 := hu
  have hps : 16 ≤ n := hps
  obtain ⟨W1, hW1⟩ : ∃ W1, W1 = w.alloc (.cells #[.int .u32 (a : Int), .int .u32 (n : Int)] 26) := ⟨_, rfl⟩
  obtain ⟨q, hq⟩ : ∃ q, q = w.heap.size := ⟨_, rfl⟩
  have hhi : hi ≤ q := hq ▸ H.hs.hi
  have B1 : Below w.heap.size w W1 := by rw [hW1]; exact (Below.refl _ _).alloc (Nat.le_refl _) _
  have Q1 : Bx q (.int .u32 a) (.int .u32 n) W1 := by rw [hW1, hq]; exact Bx.new w _ _ _
  have H1 := H.grow B1
  have hPo := Lib.hid (fun w => pageOf_any a n (by omega) w)
  have hCl := Lib.hid (fun w => pClass_any n w (by omega))
  have hPg := Lib.hid (fun w => pPages_any n w (by omega))
  obtain ⟨D, hD⟩ : ∃ D, D = GbPost B lo hi p0 p1 L R Y w := ⟨_, rfl⟩
  rw [← hD]
  replace hD := Lib.hid hD
  have hB1 := Lib.hid B1
  have hQ1 := Lib.hid Q1
  have hH1 := Lib.hid H1
  have hq' := Lib.hid hq
  have hW1' := Lib.hid hW1
  dsimp only [rgV]
  rcases H.good.kind _ (.head _) with ⟨c, hk⟩ | hk
  · obtain ⟨hsl, hs0⟩ := slot_of H.good hk
    have hc := hk.1
    have hci : (c : Int) < 5 := by omega
    have hn : n = sltN c := hk.2.1
    obtain ⟨p, hp⟩ : ∃ p, p = a / 256 := ⟨_, rfl⟩
    obtain ⟨m, hm⟩ : ∃ m, m = a % 256 := ⟨_, rfl⟩
    obtain ⟨s, hs⟩ : ∃ s, s = m / n := ⟨_, rfl⟩
    have e2 : (a : Int) % 256 = m := by omega
    have e3 : (m : Int) / n = s := by rw [hs]; simp
    have hne : ¬ (n : Int) = 0 := by omega
    replace hs0 : s < perN c := by rw [hs, hm]; exact hs0
    replace hsl : (a, n) = slot c p s := by rw [hs, hm, hp]; exact hsl
    rw [← hp] at hPo
    have hcl := cls_slt hc
    rw [hn, hcl.1, hcl.2, ← hn] at hCl
    have hpl := per_le hc
    have hG : Good p0 p1 (slot c p s :: Y) := hsl ▸ H.good
    have hp2 := page_in hG hc hs0 H.le
    have hsi : (s : Int) < 16 := by omega
    have hmi : (m : Int) < 256 := by omega
    have hni : (n : Int) ≤ 256 := by omega
    rw [hsl] at hH1
    replace hG := Lib.hid hG
    replace hs0 := Lib.hid hs0
    clear H H1 Q1 B1 hW1 hq hk hsl hn hp hm hs hcl hpl hps hPg
    go_enter Tryd.func34, Tryd.ntmps34
    go_wp2_with fail
    rw [← hW1'.out, ← hq'.out]
    have c0 := hQ1.out.c0
    have c1 := hQ1.out.c1
    go_wp2_with fail
    refine (hPo.out _).mono ?_
    rintro e w2 ⟨rfl, hb⟩
    have hb2 := Lib.hid hb
    clear c0 c1
    have c0 := (hQ1.out.grow hb).c0
    have c1 := (hQ1.out.grow hb).c1
    clear hb
    go_wp2_with fail
    refine (hCl.out _).mono ?_
    rintro e w3 ⟨rfl, hb⟩
    have hH3 := Lib.hid ((hH1.out.grow hb2.out).grow hb)
    have hB3 := Lib.hid (hB1.out.trans ((hb2.out.trans (hb.mono hb2.out.size)).mono hB1.out.size))
    have hQ3 := Lib.hid ((hQ1.out.grow hb2.out).grow hb)
    clear c0 c1 hb
    have c0 := hQ3.out.c0
    have c1 := hQ3.out.c1
    have cb := hH3.out.hs.cb c hc
    have hBk := Lib.hid (put_yes (hH3.out.hs.book c hc) p s (put_ok hH3.out.le hG.out hc hs0.out))
    go_wp2_with fail
    refine hBk.out.mono ?_
    rintro e w4 ⟨rfl, kb, ko⟩
    have hS4 := hH3.out.hs.setBook hc ko kb
    have hM4 := Lib.hid ((Mid.of_below hB3.out).trans (Mid.of_off ko (hH3.out.hs.bk_in hc).1 (hH3.out.hs.bk_in hc).2))
    clear c0 c1 cb ko
    cases hof : ofC Y c p
    · have hl := put_last hG.out hc hs0.out hof
      have hfr := back_page hG.out hc hs0.out hof
      have hDr := Lib.hid (drop_yes kb p (drop_ok hH3.out.le hG.out hc hs0.out hof))
      have hS4' := Lib.hid hS4
      have hl' := Lib.hid hl
      have hfr' := Lib.hid hfr
      clear kb hS4 hl hfr hof
      go_wp2_with fail
      refine hDr.out.mono ?_
      rintro e w5 ⟨rfl, kb, ko⟩
      have hS5 := Lib.hid (hS4'.out.setBook hc ko kb)
      have hM5 := Lib.hid (hM4.out.trans (Mid.of_off ko (hH3.out.hs.bk_in hc).1 (hH3.out.hs.bk_in hc).2))
      have hPu := put_run (f := fre p0 p1 (slot c p s :: Y)) (g := fre p0 p1 Y) (n := p1) (a := p) (run := 1) (by omega) (by have := (fre_iff.1 hfr'.out).2.1; omega) (last_fre hc hs0.out) (fun k h1 h2 => by
        have : k = p := by omega
        rw [this]; exact hfr'.out)
      have hPut := pput hS5.out.pool (p : Int) ((1 : Nat) : Int) (by omega) (by omega) (by omega) (by omega)
      rw [hPu.1, hPu.2] at hPut
      replace hPut := Lib.hid (show Calls Tryd.prog 23 #[.pointer (some ⟨B.pb, 0, none⟩), .int .i64 p, .int .i64 1] w5 (PNext B.pb B.pm B.pw p1 (fre p0 p1 Y) w5 (.bool true)) from hPut)
      have c3 := hS5.out.c3
      clear kb ko hPu
      go_wp2_with fail
      refine hPut.out.mono ?_
      rintro e w6 ⟨rfl, kp, ko⟩
      have hF := Lib.hid (show GbPost B lo hi p0 p1 L R Y w (.returned (.tuple #[])) w6 from by
        refine ⟨rfl, hM5.out.trans (Mid.of_off ko hS5.out.pw_in.1 hS5.out.pw_in.2), ((hS5.out.setPool ko kp).congr rfl (fun d hd => ?_) (fun d hd => ?_)), hG.out.tail, hH3.out.lt, hH3.out.le⟩
        · by_cases e : d = c
          · subst e
            simp only [if_true]
            rw [last_ofC hd hs0.out]
            exact hl'.out.2.2
          · simp only [if_neg e]
            exact last_ofC_ne hc hd e
        · by_cases e : d = c
          · subst e
            simp only [if_true]
            rw [hl'.out.1]
            exact hl'.out.2.1
          · simp only [if_neg e]
            exact last_slF_ne hc hs0.out hfr'.out hd e)
      clear kp ko c3
      go_wp2_with fail
      rw [hD.out]
      exact bodyPost_end (results_none (by rfl) _ _ _) rfl hF.out
    · have hps := put_some hG.out hc hs0.out hof
      have hdn := drop_not hH3.out.le hG.out hc hs0.out hof
      have hDr := Lib.hid (drop_no kb (p : Int) (by rw [hps.1, hps.2]; exact hdn))
      have hS4' := Lib.hid hS4
      have hps' := Lib.hid hps
      have hof' := Lib.hid hof
      clear kb hS4 hps hdn hof
      go_wp2_with fail
      refine hDr.out.mono ?_
      rintro e w5 ⟨rfl, kb, ko⟩
      have hF := Lib.hid (show GbPost B lo hi p0 p1 L R Y w (.returned (.tuple #[])) w5 from by
        have hbs := back_slot hG.out hc hs0.out hof'.out
        refine ⟨rfl, hM4.out.trans (Mid.of_off ko (hH3.out.hs.bk_in hc).1 (hH3.out.hs.bk_in hc).2), ((hS4'.out.setBook hc ko kb).congr (take_fre hG.out.tail hc hbs) (fun d hd => ?_) (fun d hd => ?_)), hG.out.tail, hH3.out.lt, hH3.out.le⟩
        · by_cases e : d = c
          · subst e
            simp only [if_true]
            exact hps'.out.1
          · simp only [if_neg e]
            exact take_ofC hc hbs hd
        · by_cases e : d = c
          · subst e
            simp only [if_true]
            exact hps'.out.2
          · simp only [if_neg e]
            exact take_slF_ne hG.out.tail hc hbs hd e)
      clear kb ko
      go_wp2_with fail
      rw [hD.out]
      exact bodyPost_end (results_none (by rfl) _ _ _) rfl hF.out
  · obtain ⟨h512, h256, ha0⟩ := hk
    have h512 : 512 ≤ n := h512
    have h256 : n % 256 = 0 := h256
    have ha0 : a % 256 = 0 := ha0
    obtain ⟨p, hp⟩ : ∃ p, p = a / 256 := ⟨_, rfl⟩
    obtain ⟨m, hm⟩ : ∃ m, m = pgN n := ⟨_, rfl⟩
    have hm2 : m = n / 256 := by rw [hm]; unfold pgN; omega
    have hap : a = p * 256 := by omega
    have hnm : n = m * 256 := by omega
    have hm3 : 2 ≤ m := by omega
    have hcl : clsB n = false := decide_eq_false (by omega)
    rw [← hp] at hPo
    rw [hcl] at hCl
    rw [← hm] at hPg
    obtain ⟨cl, hclN⟩ : ∃ cl, cl = clsN n := ⟨_, rfl⟩
    rw [← hclN] at hCl
    have hG : Good p0 p1 ((p * 256, m * 256) :: Y) := hap ▸ hnm ▸ H.good
    have hfr := run_back hm3 hG
    have hfr' := Lib.hid hfr
    have hH1' : HX B lo hi p0 p1 L R ((p * 256, m * 256) :: Y) W1 := hap ▸ hnm ▸ H1
    have hpb : p + m ≤ p1 := by
      have := (fre_iff.1 (hfr (p + m - 1) (by omega) (by omega))).2.1
      omega
    have hPut := Lib.hid (fun w1 (hb : Below W1.heap.size W1 w1) => (show Calls Tryd.prog 23 #[.pointer (some ⟨B.pb, 0, none⟩), .int .i64 p, .int .i64 m] w1 (fun e w' => e = .returned (.bool true) ∧ GbPost B lo hi p0 p1 L R Y w (.returned (.tuple #[])) w') from by
      have h4 := H.le
      have hPu := put_run (f := fre p0 p1 ((p * 256, m * 256) :: Y)) (g := fre p0 p1 Y) (n := p1) (a := p) (run := m) (by omega) hpb (run_fre hm3) hfr
      have hP := pput (hH1'.grow hb).hs.pool (p : Int) (m : Int) (by omega) (by omega) (by omega) (by omega)
      rw [hPu.1, hPu.2] at hP
      refine hP.mono ?_
      rintro e w' ⟨rfl, kp, ko⟩
      have hS := (hH1'.grow hb).hs
      exact ⟨rfl, rfl, (Mid.of_below (B1.trans (hb.mono B1.size))).trans (Mid.of_off ko hS.pw_in.1 hS.pw_in.2), ((hS.setPool ko kp).congr rfl (fun d hd => run_ofC hm3 hd) (fun d hd => run_slF hm3 hfr hd)), hG.tail, H.lt, H.le⟩))
    clear H H1 Q1 B1 hW1 hq hp hm hm2 hap hnm hm3 hcl hclN hG hfr hH1' hpb hfr' h512 h256 ha0
    go_enter Tryd.func34, Tryd.ntmps34
    go_wp2_with fail
    rw [← hW1'.out, ← hq'.out]
    have c0 := hQ1.out.c0
    have c1 := hQ1.out.c1
    go_wp2_with fail
    refine (hPo.out _).mono ?_
    rintro e w2 ⟨rfl, hb⟩
    have hb2 := Lib.hid hb
    clear c0 c1
    have c0 := (hQ1.out.grow hb).c0
    have c1 := (hQ1.out.grow hb).c1
    clear hb
    go_wp2_with fail
    refine (hCl.out _).mono ?_
    rintro e w3 ⟨rfl, hb⟩
    have hB3 := Lib.hid (hb2.out.trans (hb.mono hb2.out.size))
    have hQ3 := Lib.hid ((hQ1.out.grow hb2.out).grow hb)
    clear c0 c1 hb
    have c0 := hQ3.out.c0
    have c1 := hQ3.out.c1
    have c3 := (hH1.out.grow hB3.out).hs.c3
    go_wp2_with fail
    go_region_with (first | (go_at_call 19; refine (hPg.out _).mono ?_; rintro e w4 ⟨rfl, rfl⟩) | (go_at_call 23; refine (hPut.out _ (by first | exact hB3.out | exact hB3.out.drew)).mono ?_; rintro e w4 ⟨rfl, hX⟩; replace hX := Lib.hid hX))
    all_goals go_wp2_with fail
    all_goals rw [hD.out]
    all_goals exact bodyPost_ret (results_none (by rfl) _ _ _) rfl hX.out
end
end Go.Proofs.YticfpnhfhhagpaaDoor
