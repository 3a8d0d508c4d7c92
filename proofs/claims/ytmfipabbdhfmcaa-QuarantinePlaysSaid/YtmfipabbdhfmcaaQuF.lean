/- Contracts of layer quarantine: Begin. No statement is proved here. -/
import Derived.Test.YtmfipabbdhfmcaaQuE
namespace Go.Proofs.Ytmfipabbdhfmcaa.Qu
set_option maxRecDepth 100000
open Go.RowKit Go.Shelf
set_option linter.unusedVariables false
/-- The five cells of a yard. -/
def Y5 (w : World) (y : Nat) (u : Nat → Value) : Prop := ∀ i, (i < 5 → w.cell? ⟨y, i, none⟩ = some (u i)) ∧ w.frozen? ⟨y, i, none⟩ = false
def yU (e : Nat) (sw : Bool) (p : Nat) (wv bv : Value) (i : Nat) : Value :=
  match i with
  | 0 => .int .u64 (e : Int)
  | 1 => .bool sw
  | 2 => .pointer (some ⟨p, 0, none⟩)
  | 3 => wv
  | _ => bv
section
variable {w w' W : World} {y p b wb n e base : Nat} {Wt Bt L : List Rg} {sw : Bool} {wv bv v : Value} {r : Rg} {D : Nat → Prop} {u : Nat → Value}
theorem Y5.set (h : Y5 w y u) (i : Nat) (hi : i < 5) (v : Value) : Y5 (w.setCell ⟨y, i, none⟩ v) y (fun j => if j = i then v else u j) := by
  intro j
  refine ⟨fun hj => ?_, (World.frozen?_setCell _ _ _ _).trans (h j).2⟩
  dsimp only
  by_cases e : j = i
  · subst e
    rw [if_pos rfl]
    exact World.cell?_setCell_same' _ _ _ (by rw [(h j).1 hj]; rfl)
  · rw [if_neg e, World.cell?_setCell_other _ _ _ _ (fun e' => e (by simpa using (congrArg Addr.off e').symm))]
    exact (h j).1 hj
theorem YAt.y5 (H : YAt w y p b wb n Wt Bt e sw wv bv) : Y5 w y (yU e sw p wv bv) := fun i => ⟨fun hi => by
  match i, hi with
  | 0, _ => exact H.c0
  | 1, _ => exact H.c1
  | 2, _ => exact H.c2
  | 3, _ => exact H.c3
  | 4, _ => exact H.c4, H.fz i⟩
/-- Its own cells are written to, and what follows of them is so. -/
theorem YAt.cells (H : YAt w y p b wb n Wt Bt e sw wv bv) {Wt' Bt' : List Rg} {e' : Nat} {sw' : Bool} {wv' bv' : Value} (hk : ∀ j, j ≠ y → w'.heap[j]? = w.heap[j]?) (hs : w.heap.size ≤ w'.heap.size) (h5 : Y5 w' y u) (hu : ∀ i, i < 5 → u i = yU e' sw' p wv' bv' i)
    (hc : ∀ k, cov (Wt ++ Bt) k = cov (Wt' ++ Bt') k) (ow : w.ownsRow 0 33 2 wv' Wt'.length (Wt'.flatMap rgC)) (ob : w.ownsRow 0 33 2 bv' Bt'.length (Bt'.flatMap rgC)) (good : Good n (Wt' ++ Bt')) (aw : Asc Wt') (ab : Asc Bt')
    (nw : Wt' = [] → wv' = .slice none 0 0) (nb : Bt' = [] → bv' = .slice none 0 0) (he : e' ≤ 1000000) (hs' : sw' = true → 1 ≤ e') (hb : sw' = false → Bt' = [])
    (sep : ∀ k, wv'.ownBlock = some k ∨ bv'.ownBlock = some k → k ≠ y ∧ k ≠ p ∧ k ≠ b ∧ k ≠ wb) (dif : ∀ k, wv'.ownBlock = some k → bv'.ownBlock ≠ some k) : YAt w' y p b wb n Wt' Bt' e' sw' wv' bv' := by
  refine ⟨?_, ?_, ?_, ?_, ?_, fun i => (h5 i).2, ?_, own_keep ow fun g hg => hk g (sep g (.inl hg)).1, own_keep ob fun g hg => hk g (sep g (.inr hg)).1, good, aw, ab, nw, nb, H.hn, he, hs', hb, H.yp, H.yb, H.yw, sep, dif⟩
  · exact ((h5 0).1 (by omega)).trans (by rw [hu 0 (by omega)]; rfl)
  · exact ((h5 1).1 (by omega)).trans (by rw [hu 1 (by omega)]; rfl)
  · exact ((h5 2).1 (by omega)).trans (by rw [hu 2 (by omega)]; rfl)
  · exact ((h5 3).1 (by omega)).trans (by rw [hu 3 (by omega)]; rfl)
  · exact ((h5 4).1 (by omega)).trans (by rw [hu 4 (by omega)]; rfl)
  · refine PtAt.congr ⟨(World.cell?_of_block (a := ⟨p, 0, none⟩) (hk p H.yp.symm)).trans H.pt.c0, H.pt.m.keep (fun j hj => hk j (by
      rcases hj with rfl | rfl
      · exact H.yb.symm
      · exact H.yw.symm)) hs, H.pt.ne, Nat.lt_of_lt_of_le H.pt.lp hs⟩ hc
theorem y_set (w : World) (y i : Nat) (v : Value) (j : Nat) (h : j ≠ y) : (w.setCell ⟨y, i, none⟩ v).heap[j]? = w.heap[j]? := Below.heap_setCell _ _ _ _ h
theorem sz_set (w : World) (a : Addr) (v : Value) : (w.setCell a v).heap.size = w.heap.size := by simp [World.setCell]
theorem ybegin_no (H : YAt w y p b wb n Wt Bt e true wv bv) : Calls Try.prog 11 #[.pointer (some ⟨y, 0, none⟩)] w fun e1 w' => e1 = .returned (.tuple #[.int .u64 0, .bool false]) ∧ Below w.heap.size w w' := by
  have hM := Lib.hid (ymade H.c2)
  have H' := Lib.hid H
  clear H
  go_enter Try.func11, Try.ntmps11
  go_wp2_with fail
  refine hM.out.mono ?_
  rintro e1 w1 ⟨rfl, k1⟩
  have H1 := Lib.hid (H'.out.grow k1)
  have hN := Lib.hid (nbegin_no H1.out.c1)
  have hk := Lib.hid k1
  clear k1
  go_wp2_with fail
  refine hN.out.mono ?_
  rintro e1 w2 ⟨rfl, rfl⟩
  go_wp2_with fail
  go_ret2
  exact ⟨rfl, hk.out⟩
theorem ybegin_yes (H : YD D y n Wt Bt e false w) (he : e < 1000000) : Calls Try.prog 11 #[.pointer (some ⟨y, 0, none⟩)] w fun e1 w' => e1 = .returned (.tuple #[.int .u64 ((e + 1 : Nat) : Int), .bool true]) ∧ YD D y n [] Wt (e + 1) true w' ∧ Kp D w w' := by
  obtain ⟨p, b, wb, wv, bv, H, hD1, hD2⟩ := H
  obtain ⟨A, cap, hwv⟩ := own_slice H.ow
  obtain ⟨x, hx⟩ : ∃ x, x = Wt.length := ⟨_, rfl⟩
  rw [← hx] at hwv
  subst hwv
  clear hx
  have hM := Lib.hid (ymade H.c2)
  have H' := Lib.hid H
  have hD := Lib.hid (And.intro hD1 hD2)
  have he' := Lib.hid he
  clear H hD1 hD2 he
  go_enter Try.func11, Try.ntmps11
  go_wp2_with fail
  refine hM.out.mono ?_
  rintro e1 w1 ⟨rfl, k1⟩
  have H1 := Lib.hid (H'.out.grow k1)
  have hN := Lib.hid (nbegin_yes H1.out.c0 H1.out.c1 H1.out.fz H1.out.he)
  have hk := Lib.hid k1
  clear k1
  go_wp2_with fail
  refine hN.out.mono ?_
  rintro e1 w2 ⟨rfl, h2⟩
  have h5 := (H1.out.y5.set 0 (by omega) (.int .u64 ((e + 1 : Nat) : Int))).set 1 (by omega) (.bool true)
  rw [← h2] at h5
  have h5' := Lib.hid h5
  have c0 := (h5 0).1 (by omega)
  have c3 := (h5 3).1 (by omega)
  have c4 := (h5 4).1 (by omega)
  have f3 := (h5 3).2
  have f4 := (h5 4).2
  simp [yU] at c0 c3 c4
  have h2' := Lib.hid h2
  clear h2 h5
  go_wp2_with fail
  go_ret2
  have hy : ∀ j, j ≠ y → ((w2.setCell ⟨y, 4, none⟩ (.slice A x cap)).setCell ⟨y, 3, none⟩ (.slice none 0 0)).heap[j]? = w1.heap[j]? := fun j hj => by
    rw [y_set _ _ _ _ _ hj, y_set _ _ _ _ _ hj, h2'.out, y_set _ _ _ _ _ hj, y_set _ _ _ _ _ hj]
  have hz : ((w2.setCell ⟨y, 4, none⟩ (.slice A x cap)).setCell ⟨y, 3, none⟩ (.slice none 0 0)).heap.size = w1.heap.size := by rw [sz_set, sz_set, h2'.out, sz_set, sz_set]
  have hB : Bt = [] := H1.out.hb rfl
  refine ⟨rfl, ⟨p, b, wb, .slice none 0 0, .slice A x cap, ?_, ?_, ?_⟩, ?_⟩
  · refine H1.out.cells hy (by rw [hz]; exact Nat.le_refl _) ((h5'.out.set 4 (by omega) (.slice A x cap)).set 3 (by omega) (.slice none 0 0)) (fun i hi => ?_) (fun k => by rw [hB, List.append_nil, List.nil_append]) (World.ownsRow_nil _ _ _ _) H1.out.ow (by have := H1.out.good; rw [hB, List.append_nil] at this; exact this) List.Pairwise.nil H1.out.aw (fun _ => rfl) H1.out.nw (by have := he'.out; omega) (fun _ => by omega) (fun h => Bool.noConfusion h) (fun k hk => ?_) (fun k hk => by cases hk)
    · match i, hi with
      | 0, _ => rfl
      | 1, _ => rfl
      | 2, _ => rfl
      | 3, _ => rfl
      | 4, _ => rfl
    · rcases hk with hk | hk
      · cases hk
      · exact H1.out.sep k (.inl hk)
  · rintro k hk
    refine hD.out.1 k ?_
    rcases hk with h | h | h | h | h | h
    · exact .inl h
    · exact .inr (.inl h)
    · exact .inr (.inr (.inl h))
    · exact .inr (.inr (.inr (.inl h)))
    · cases h
    · exact .inr (.inr (.inr (.inr (.inl h))))
  · intro k hk'
    rw [hz]
    exact Nat.lt_of_lt_of_le (hD.out.2 k hk') hk.out.size
  · refine (Kp.of_below hk.out hD.out.2).trans ?_
    have hyD : ¬ D y := hD.out.1 y (.inl rfl)
    rw [h2'.out]
    exact ((((Kp.refl D w1).setCell hyD _).setCell hyD _).setCell hyD _).setCell hyD _
end
end Go.Proofs.Ytmfipabbdhfmcaa.Qu
