/- Contracts of the library's sort at numbers of 32 bits: isNaN, Less; a row of numbers, two of them swapped; insertion sort. No statement is proved here.; Contracts of the library's sort at numbers of 32 bits: insertion sort. No statement is proved here. -/
import Derived.Test.YticfpnhfhhagpaaDoorma
import Derived.WalkSpells
import Derived.WalkLawsBesides
import Derived.Deep.QuietTactic
import Derived.BigQuiet
import Derived.Lib.Hide
import Derived.Deep.RegionWith
import Derived.Deep.DeepCutAuto
import Derived.Deep.LoopGhost
import Derived.Deep.CutBlock
import Derived.Sort.AssemblyPlain
import Derived.Sort.Row
namespace Go.Proofs.YticfpnhfhhagpaaDoor
set_option maxRecDepth 100000
open Go.RowKit
open Go.Sort (ltInt swp swp_permIn permIn_refl permIn_trans permIn_mono size_swp swp_left swp_right swp_other swo_ltInt PermIn SortedIn)
set_option linter.unusedVariables false

theorem nan_any (x : Int) (w : World) : Calls Tryd.prog 107 #[.int .u32 x] w fun e w' => e = .returned (.bool false) ∧ w' = w := by
  go_enter Tryd.func107, Tryd.ntmps107
  go_wp2
  go_ret
  exact ⟨rfl, rfl⟩
theorem less_any (x y : Int) (w : World) : Calls Tryd.prog 97 #[.int .u32 x, .int .u32 y] w fun e w' => e = .returned (.bool (ltInt x y)) ∧ w' = w := by
  have hN := Lib.hid nan_any
  go_enter Tryd.func97, Tryd.ntmps97
  go_wp2_with fail
  refine (hN.out _ _).mono ?_
  rintro e w2 ⟨rfl, rfl⟩
  go_wp2
  go_ret
  exact ⟨rfl, rfl⟩
/-- A row of numbers stands at block b. -/
structure RowU (W : World) (b : Nat) (d : Array Int) : Prop where
  cs : ∀ j, j < d.size → W.cell? ⟨b, j, none⟩ = some (.int .u32 d[j]!) ∧ W.frozen? ⟨b, j, none⟩ = false
  lb : b < W.heap.size
  ty : ∃ cur, W.heap[b]? = some (.cells cur 24 (0, 0))
section
variable {W W' w : World} {b : Nat} {d d' : Array Int}
theorem cells_set {cur : Array Value} {e : TypeId} {fr : Nat × Nat} (h : W.heap[b]? = some (.cells cur e fr)) (i : Nat) (v : Value) : ∃ cur', (W.setCell ⟨b, i, none⟩ v).heap[b]? = some (.cells cur' e fr) := by
  rw [Go.Sort.setCell_eq]
  refine ⟨cur.setIfInBounds i v, ?_⟩
  simp only [Go.Sort.mapBlock, Array.getElem?_modify, h]
  simp [Go.Sort.onCells]
theorem RowU.keep (H : RowU W b d) (hk : W'.heap[b]? = W.heap[b]?) (hs : W.heap.size ≤ W'.heap.size) : RowU W' b d :=
  ⟨fun i hi => ⟨(World.cell?_of_block hk).trans (H.cs i hi).1, (World.frozen?_of_block hk).trans (H.cs i hi).2⟩, Nat.lt_of_lt_of_le H.lb hs, by obtain ⟨c, h⟩ := H.ty; exact ⟨c, hk.trans h⟩⟩
theorem RowU.grow (H : RowU W b d) (h : Below W.heap.size W W') : RowU W' b d := H.keep (h.block b H.lb) h.size
theorem RowU.off {q : Nat} (H : RowU W b d) (h : Off W.heap.size q W W') (hn : b ≠ q) : RowU W' b d := H.keep (h.block b H.lb hn) h.size
theorem RowU.drewN (H : RowU W b d) (n : Nat) : RowU (W.drewN n) b d := ⟨H.cs, H.lb, H.ty⟩
theorem RowU.drew (H : RowU W b d) : RowU W.drew b d := ⟨H.cs, H.lb, H.ty⟩
/-- Two are swapped. -/
theorem RowU.swap (H : RowU W b d) {i j : Nat} (hi : i < d.size) (hj : j < d.size) : RowU ((W.setCell ⟨b, i, none⟩ (.int .u32 d[j]!)).setCell ⟨b, j, none⟩ (.int .u32 d[i]!)) b (swp d i j) := by
  refine ⟨fun k hk => ?_, by simpa [World.setCell] using H.lb, by
    obtain ⟨c, h⟩ := H.ty
    obtain ⟨c1, h1⟩ := cells_set h i (.int .u32 d[j]!)
    obtain ⟨c2, h2⟩ := cells_set h1 j (.int .u32 d[i]!)
    exact ⟨c2, h2⟩⟩
  rw [size_swp] at hk
  refine ⟨?_, by rw [World.frozen?_setCell, World.frozen?_setCell]; exact (H.cs k hk).2⟩
  by_cases e1 : k = j
  · subst e1
    rw [World.cell?_setCell_same' _ _ _ (by
      by_cases e2 : k = i
      · subst e2; rw [World.cell?_setCell_same' _ _ _ (by rw [(H.cs k hk).1]; rfl)]; rfl
      · rw [World.cell?_setCell_other _ _ _ _ (fun e => e2 (by simpa using (congrArg Addr.off e).symm)), (H.cs k hk).1]; rfl), swp_right d i k hj]
  · rw [World.cell?_setCell_other _ _ _ _ (fun e => e1 (by simpa using (congrArg Addr.off e).symm))]
    by_cases e2 : k = i
    · subst e2
      rw [World.cell?_setCell_same' _ _ _ (by rw [(H.cs k hk).1]; rfl), swp_left d k j hi e1]
    · rw [World.cell?_setCell_other _ _ _ _ (fun e => e2 (by simpa using (congrArg Addr.off e).symm)), (H.cs k hk).1, swp_other d i j k e2 e1]
/-- What a call leaves: the row is another one, nothing else has turned. -/
structure SW (w : World) (b : Nat) (d : Array Int) (W : World) : Prop where
  row : RowU W b d
  off : Off w.heap.size b w W
theorem SW.refl (H : RowU w b d) : SW w b d w := ⟨H, Off.refl _ _ _⟩
theorem SW.drew (H : SW w b d W) : SW w b d W.drew := ⟨H.row.drew, H.off.drew⟩
theorem SW.drewN (H : SW w b d W) (n : Nat) : SW w b d (W.drewN n) := ⟨H.row.drewN n, H.off.drewN n⟩
theorem SW.swap (H : SW w b d W) {i j : Nat} (hi : i < d.size) (hj : j < d.size) : SW w b (swp d i j) ((W.setCell ⟨b, i, none⟩ (.int .u32 d[j]!)).setCell ⟨b, j, none⟩ (.int .u32 d[i]!)) :=
  ⟨H.row.swap hi hj, (H.off.setCell (p := ⟨b, i, none⟩) (.inr rfl) _).setCell (p := ⟨b, j, none⟩) (.inr rfl) _⟩
theorem SW.step {W2 : World} (H : SW w b d W) (K : SW W b d' W2) : SW w b d' W2 := ⟨K.row, H.off.step K.off⟩
theorem SW.below (H : SW w b d W) (k : Below W.heap.size W W') : SW w b d W' := ⟨H.row.grow k, H.off.step (Off.of_below k)⟩
def Done (w : World) (b : Nat) (d : Array Int) (e : Ending) (W : World) : Prop := e = .returned (.tuple #[]) ∧ SW w b d W

theorem lt_dec {x y : Int} {v : Bool} (h : ltInt x y = v) : decide (x < y) = v := h
end
end Go.Proofs.YticfpnhfhhagpaaDoor
namespace Go.Proofs.YticfpnhfhhagpaaDoor
set_option maxRecDepth 100000
open Go.RowKit
open Go.Sort (ltInt swp swp_permIn permIn_refl permIn_trans permIn_mono size_swp swp_left swp_right swp_other swo_ltInt PermIn SortedIn insInner insOuter insertionSort)
set_option linter.unusedVariables false

section
variable {w : World} {b : Nat} {d : Array Int}
theorem ins_zero (a : Nat) (d : Array Int) : insInner ltInt a 0 d = d := rfl
theorem ins_stop {a m : Nat} {d : Array Int} (h : ¬ m + 1 > a ∨ ltInt d[m + 1]! d[m]! = false) : insInner ltInt a (m + 1) d = d := by
  show (if _ then _ else _) = _
  rcases h with h | h <;> simp [h]
theorem ins_go {a m : Nat} {d : Array Int} (h : m + 1 > a) (h2 : ltInt d[m + 1]! d[m]! = true) : insInner ltInt a (m + 1) d = insInner ltInt a m (swp d (m + 1) m) := by
  show (if _ then _ else _) = _
  simp [h, h2]
theorem out_go {a t i : Nat} {d : Array Int} (h : i < t) : insOuter ltInt a t i d = insOuter ltInt a t (i + 1) (insInner ltInt a i d) := by
  rw [insOuter.eq_def, if_pos h]
theorem out_end {a t i : Nat} {d : Array Int} (h : ¬ i < t) : insOuter ltInt a t i d = d := by
  rw [insOuter.eq_def, if_neg h]
set_option maxHeartbeats 2000000 in
theorem insert_any (H : RowU w b d) (cap a t : Nat) (hat0 : a ≤ t) (ht : t ≤ d.size) (hs : d.size < 4611686018427387904) : Calls Tryd.prog 91 #[.slice (some ⟨b, 0, none⟩) d.size cap, .int .i64 a, .int .i64 t] w (Done w b (insertionSort ltInt d a t)) := by
  obtain ⟨T, hT⟩ : ∃ T, T = insertionSort ltInt d a t := ⟨_, rfl⟩
  have hL := Lib.hid less_any
  have h0 := Lib.hid (show SW w b d w ∧ insOuter ltInt a t (a + 1) d = T from ⟨SW.refl H, hT.symm⟩)
  rw [← hT]
  clear H hT
  rcases Nat.lt_or_ge a t with hat | hat
  · obtain ⟨D, hD⟩ : ∃ D, D = Done w b T := ⟨_, rfl⟩
    rw [← hD]
    replace hD := Lib.hid hD
    go_enter Tryd.func91, Tryd.ntmps91
    go_wp2_with fail
    go_loopw [6, 7] (fun i _ wr => ∃ (k : Nat) (dk : Array Int), i = .int .i64 k ∧ a + 1 ≤ k ∧ k ≤ t ∧ dk.size = d.size ∧ SW w b dk wr ∧ insOuter ltInt a t k dk = T) (fun i _ _ => t - (intOf i).toNat)
    case atStart => exact ⟨a + 1, d, by go_num, by omega, by omega, rfl, h0.out.1, h0.out.2⟩
    case round =>
      obtain ⟨k, dk, rfl, hk1, hk2, hsz, hS, hR⟩ := hrel
      replace hS := Lib.hid hS
      replace hR := Lib.hid hR
      by_cases hlt : k < t
      · have hR2 := Lib.hid ((out_go hlt).symm.trans hR.out)
        clear hR
        go_wp2_with fail
        go_loopw [7] (fun j wr => ∃ (m : Nat) (dm : Array Int), j = .int .i64 m ∧ a ≤ m ∧ m ≤ k ∧ dm.size = d.size ∧ SW w b dm wr ∧ insOuter ltInt a t (k + 1) (insInner ltInt a m dm) = T) (fun j _ => (intOf j).toNat)
        case atStart => exact ⟨k, dk, rfl, by omega, by omega, hsz, hS.out, hR2.out⟩
        case round =>
          obtain ⟨m, dm, rfl, hm1, hm2, hsm, hSm, hRm⟩ := hrel
          rcases Nat.lt_or_ge a m with hma | hma
          · obtain ⟨n, rfl⟩ : ∃ n, m = n + 1 := ⟨m - 1, by omega⟩
            obtain ⟨c1, f1⟩ := hSm.row.cs (n + 1) (by omega)
            obtain ⟨c2, f2⟩ := hSm.row.cs n (by omega)
            have hSm' := Lib.hid hSm
            have hRm' := Lib.hid hRm
            clear hSm hRm
            have hg : (a : Int) < (n : Int) + 1 := by omega
            go_wp2_with fail
            go_quiet ((go_at_call 97; exact Calls.quiet_of_same (hL.out _ _ _)))
            cases hl : ltInt dm[n + 1]! dm[n]!
            · have hRf := Lib.hid ((congrArg (insOuter ltInt a t (k + 1)) (ins_stop (a := a) (.inr hl))).symm.trans hRm'.out)
              clear c1 c2 f1 f2
              go_wp2_with fail
              go_roundw
              case rel => exact ⟨k + 1, dm, by go_num, by omega, by omega, hsm, hSm'.out.drewN nq, hRf.out⟩
              case measure => first | (simp [intOf]; done) | (simp [intOf]; omega)
            · have hRf := Lib.hid ((congrArg (insOuter ltInt a t (k + 1)) (ins_go (by omega) hl)).symm.trans hRm'.out)
              have hSn := Lib.hid ((hSm'.out.drewN nq).swap (i := n + 1) (j := n) (by omega) (by omega))
              have c1' : (wr.drewN nq).cell? ⟨b, n + 1, none⟩ = some (.int .u32 dm[n + 1]!) := c1
              have c2' : (wr.drewN nq).cell? ⟨b, n, none⟩ = some (.int .u32 dm[n]!) := c2
              have f1' : (wr.drewN nq).frozen? ⟨b, n + 1, none⟩ = false := f1
              have f2' : (wr.drewN nq).frozen? ⟨b, n, none⟩ = false := f2
              clear c1 c2 f1 f2
              generalize wr.drewN nq = wq at *
              go_upto_region 6 with (fail)
              go_region
              go_wp2_with fail
              go_roundw
              case rel => exact ⟨n, swp dm (n + 1) n, by go_num, by omega, by omega, by rw [size_swp]; exact hsm, hSn.out.drew, hRf.out⟩
              case measure => first | (simp [intOf]; done) | (simp [intOf]; omega)
          · obtain rfl : m = a := by omega
            have hRf := Lib.hid ((congrArg (insOuter ltInt m t (k + 1)) (show insInner ltInt m m dm = dm from by
              cases m with
              | zero => rfl
              | succ n => exact ins_stop (.inl (by omega)))).symm.trans hRm)
            replace hSm := Lib.hid hSm
            clear hRm
            have hg : decide ((m : Int) < (m : Int)) = false := by simp
            go_wp2_with fail
            go_quiet (fail)
            go_wp2_with fail
            go_roundw
            case rel => exact ⟨k + 1, dm, by go_num, by omega, by omega, hsm, hSm.out.drewN nq, hRf.out⟩
            case measure => first | (simp [intOf]; done) | (simp [intOf]; omega)
      · have hRf := Lib.hid ((out_end hlt).symm.trans hR.out)
        clear hR
        have hE := hRf.out
        subst hE
        go_wp2_with fail
        rw [hD.out]
        exact bodyPost_ret (results_none rfl _ _ _) rfl ⟨rfl, hS.out⟩
  · have hend : ¬ ((a : Int) + 1 < t) := by omega
    have hd := h0.out.2
    rw [out_end (by omega)] at hd
    subst hd
    go_enter Tryd.func91, Tryd.ntmps91
    go_wp2_with fail
    go_loopw [6, 7] (fun i _ wr => i = .int .i64 ((a : Int) + 1) ∧ wr = w) (fun _ _ _ => 0)
    case atStart => exact ⟨by go_num, rfl⟩
    case round =>
      obtain ⟨rfl, rfl⟩ := hrel
      go_wp2_with fail
      exact bodyPost_ret (results_none rfl _ _ _) rfl ⟨rfl, h0.out.1⟩
end
end Go.Proofs.YticfpnhfhhagpaaDoor
