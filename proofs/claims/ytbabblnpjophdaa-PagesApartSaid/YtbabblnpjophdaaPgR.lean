/- Contracts of the document's answer for layer pages. No statement is proved here. -/
import Derived.Test.YtbabblnpjophdaaTagA
import Derived.Test.YtbabblnpjophdaaPgM
import Derived.Deep.LoopGhost
import Derived.Deep.DeepCutAuto
namespace Go.Proofs.Ytbabblnpjophdaa
set_option maxRecDepth 100000
open Go.RowKit
set_option linter.unusedVariables false

/-- At block q stand n truths, as f tells. -/
structure TruthAt (W : World) (q n : Nat) (f : Nat → Bool) : Prop where
  cs : ∀ i, i < n → W.cell? ⟨q, i, none⟩ = some (.bool (f i)) ∧ W.frozen? ⟨q, i, none⟩ = false
  lq : q < W.heap.size
section
variable {W W' : World} {q n B : Nat} {f g : Nat → Bool}
theorem TruthAt.block (h : TruthAt W q n f) (hk : W'.heap[q]? = W.heap[q]?) (hs : W.heap.size ≤ W'.heap.size) : TruthAt W' q n f :=
  ⟨fun i hi => ⟨(World.cell?_of_block hk).trans (h.cs i hi).1, (World.frozen?_of_block hk).trans (h.cs i hi).2⟩, Nat.lt_of_lt_of_le h.lq hs⟩
theorem TruthAt.below (h : TruthAt W q n f) (hb : Below B W W') (h0 : q < B) : TruthAt W' q n f := h.block (hb.block q h0) hb.size
theorem TruthAt.grow (h : TruthAt W q n f) (hb : Below W.heap.size W W') : TruthAt W' q n f := h.below hb h.lq
theorem TruthAt.off {wb : Nat} (h : TruthAt W q n f) (o : Off W.heap.size wb W W') (hq : q ≠ wb) : TruthAt W' q n f := h.block (o.block q h.lq hq) o.size
theorem TruthAt.congr (h : TruthAt W q n f) (e : ∀ k, k < n → f k = g k) : TruthAt W q n g := ⟨fun i hi => e i hi ▸ h.cs i hi, h.lq⟩
theorem TruthAt.store (h : TruthAt W q n f) {a : Nat} (ha : a < n) (v : Bool) : TruthAt (W.setCell ⟨q, a, none⟩ (.bool v)) q n (upd f a v) := by
  refine ⟨fun i hi => ⟨?_, (World.frozen?_setCell _ _ _ _).trans (h.cs i hi).2⟩, by simpa [World.setCell] using h.lq⟩
  by_cases e : i = a
  · subst e
    rw [upd_same]
    exact World.cell?_setCell_same' _ _ _ (by rw [(h.cs i hi).1]; rfl)
  · rw [upd_ne _ _ e, World.cell?_setCell_other _ _ _ _ (fun e' => e (by simpa using (congrArg Addr.off e').symm))]
    exact (h.cs i hi).1
end
/-- A call on the document's list has answered v; the list is as g tells; nothing else has turned. -/
def TNext (q n : Nat) (g : Nat → Bool) (w : World) (v : Value) (e : Ending) (W' : World) : Prop :=
  e = .returned v ∧ TruthAt W' q n g ∧ Off w.heap.size q w W'

section
variable {q n c : Nat} {f : Nat → Bool} {w : World}
theorem infoB : (Try.prog.info? 4).map (fun i => (i.zero, i.size, i.bytes)) = some (some (.bool false), 1, 1) := by kernel_rfl
theorem rnew_no (n : Int) (w : World) (h : n < 0 ∨ 1024 < n) : Calls Try.prog 8 #[.int .i64 n] w fun e w' => e = .returned (.tuple #[.slice none 0 0, .bool false]) ∧ w = w' := by
  rcases h with h | h
  · go_enter Try.func8, Try.ntmps8
    go_wp2
    go_ret2
    exact ⟨rfl, rfl⟩
  · have h' : ¬ n < 0 := by omega
    go_enter Try.func8, Try.ntmps8
    go_wp2
    go_ret2
    exact ⟨rfl, rfl⟩
theorem rnew (n : Nat) (w : World) (h : n ≤ 1024) : Calls Try.prog 8 #[.int .i64 n] w fun e w' => e = .returned (.tuple #[.slice (some ⟨w.heap.size, 0, none⟩) n n, .bool true]) ∧ TruthAt w' w.heap.size n (fun _ => false) ∧ Below w.heap.size w w' := by
  have hmk : ∀ w, (Instr.makeSlice 25 (.int .i64 (n : Int)) (.int .i64 (n : Int))).run Try.prog w = .ok (.slice (some ⟨w.heap.size, 0, none⟩) n n) (w.alloc (.cells (madeCells #[.bool false] n) 4)) := fun w =>
    run_make_row' 25 4 (.bool false) 1 Try.underlying25 infoB rfl .i64 .i64 n (by omega) (by omega) w
  have H := Lib.hid (show TruthAt (w.alloc (.cells (madeCells #[.bool false] n) 4)) w.heap.size n (fun _ => false) from ⟨fun i hi => ⟨by simp [madeCells, hi, Nat.mod_one], by simp⟩, by simp⟩)
  go_enter Try.func8, Try.ntmps8
  go_wp2
  go_ret2
  exact ⟨rfl, H.out, (Below.refl _ w).alloc (Nat.le_refl _) _⟩
theorem rfits (H : TruthAt w q n f) (a : Nat) (run : Int) (hn : n ≤ 1024) (ha : a ≤ 1024) (l0 : -9223372036854775808 ≤ run) (l1 : run ≤ 9223372036854775807) :
    Calls Try.prog 27 #[.slice (some ⟨q, 0, none⟩) n c, .int .i64 a, .int .i64 run] w fun e w' => e = .returned (.bool (fitB f n run a)) ∧ w = w' := by
  have hI := Lib.hid (fit_iff (f := f) (n := n) (run := run) (a := a))
  by_cases h0 : 1 ≤ run ∧ (a : Int) + run ≤ n
  · obtain ⟨h1, h2⟩ := h0
    have hH := Lib.hid H
    clear H
    generalize fitB f n run a = xB at *
    go_enter Try.func27, Try.ntmps27
    go_wp2_with fail
    go_loopw [7] (fun i wr => ∃ k : Nat, i = .int .i64 k ∧ a ≤ k ∧ (k : Int) ≤ a + run ∧ (∀ j : Nat, a ≤ j → j < k → f j = true) ∧ w = wr) (fun i _ => (a + run.toNat) - (intOf i).toNat)
    case atStart => exact ⟨a, rfl, by omega, by omega, fun j h1 h2 => absurd h2 (by omega), rfl⟩
    case round =>
      obtain ⟨k, rfl, k1, k2, k3, rfl⟩ := hrel
      have hK := Lib.hid k3
      clear k3
      by_cases hlt : (k : Int) < a + run
      · have hc := (hH.out.cs k (by omega)).1
        have hkn : (k : Int) < n := by omega
        cases hf : f k
        · obtain rfl : xB = false := by
            cases xB
            · rfl
            · have := (hI.out.1 rfl).2.2 k k1 hlt
              rw [hf] at this
              cases this
          rw [hf] at hc
          replace hf := Lib.hid hf
          go_wp2
          go_ret
          exact ⟨rfl, rfl⟩
        · have hK2 := Lib.hid (show ∀ j : Nat, a ≤ j → j < k + 1 → f j = true from fun j h1 h2 => by
            rcases Nat.lt_or_ge j k with h | h
            · exact hK.out j h1 h
            · obtain rfl : j = k := by omega
              exact hf)
          rw [hf] at hc
          replace hf := Lib.hid hf
          go_wp2
          go_roundw
          case rel => exact ⟨k + 1, by go_num, by omega, by omega, hK2.out, by first | rfl | trivial⟩
          case measure => simp [intOf]; omega
      · have hx := hI.out.2 ⟨h1, h2, fun j j1 j2 => hK.out j j1 (by omega)⟩
        subst hx
        go_wp2
        go_ret
        exact ⟨rfl, rfl⟩
  · have hx : fitB f n run a = false := by
      cases hx : fitB f n run a
      · rfl
      · have := hI.out.1 hx; omega
    rw [hx]
    clear hI hx H
    by_cases h1 : run < 1
    · go_enter Try.func27, Try.ntmps27
      go_wp2
      go_ret
      exact ⟨rfl, rfl⟩
    · by_cases h2 : (n : Int) < run
      · go_enter Try.func27, Try.ntmps27
        go_wp2
        go_ret
        exact ⟨rfl, rfl⟩
      · have h3 : (n : Int) - run < a := by omega
        go_enter Try.func27, Try.ntmps27
        go_wp2
        go_ret
        exact ⟨rfl, rfl⟩
theorem rfind (H : TruthAt w q n f) (run align : Int) (hn : n ≤ 1024) (l0 : -9223372036854775808 ≤ run) (l1 : run ≤ 9223372036854775807) (l2 : align ≤ 9223372036854775807) :
    Calls Try.prog 13 #[.slice (some ⟨q, 0, none⟩) n c, .int .i64 run, .int .i64 align] w fun e w' => e = .returned (.tuple #[.int .i64 (fndA f n run align : Nat), .bool (fndB f n run align)]) ∧ w = w' := by
  have hF := Lib.hid (fun (a : Nat) (ha : a ≤ 1024) => rfits (c := c) H a run hn ha l0 l1)
  have hNo := Lib.hid (fun (a : Nat) (h : ¬ (1 ≤ run ∧ 1 ≤ align)) => show goodB f n run align a = false from by
    cases hg : goodB f n run align a
    · rfl
    · obtain ⟨h1, _, h3⟩ := good_iff.1 hg
      have := fit_iff.1 h3
      omega)
  have hN := Lib.hid (fun h => fnd_no (f := f) (n := n) (run := run) (align := align) h)
  have hY := Lib.hid (fun a h => fnd_yes (f := f) (n := n) (run := run) (align := align) (a := a) h)
  generalize fndA f n run align = xA at *
  generalize fndB f n run align = xB at *
  clear H
  by_cases hr : 1 ≤ run
  · by_cases hal : 1 ≤ align
    · clear hNo
      go_enter Try.func13, Try.ntmps13
      go_wp2_with fail
      go_loopw [8] (fun i wr => ∃ a : Nat, i = .int .i64 a ∧ a ≤ n ∧ (∀ j, j < a → goodB f n run align j = false) ∧ w = wr) (fun i _ => n - (intOf i).toNat)
      case atStart => exact ⟨0, rfl, by omega, fun j h => absurd h (by omega), rfl⟩
      case round =>
        obtain ⟨a, rfl, a1, a2, rfl⟩ := hrel
        replace a2 := Lib.hid a2
        have a3 : (a : Int) ≤ 1024 := by omega
        have hal0 : align ≠ 0 := by omega
        by_cases hlt : a < n
        · have hm1 : (a : Int).tmod align = (a : Int) % align := Int.tmod_eq_emod_of_nonneg (by omega)
          by_cases hm : (a : Int) % align = 0
          · have hm' : ((a : Int) % align == 0) = true := by simp [hm]
            have hm2 : ((a : Int).tmod align == 0) = true := by simp [hm1, hm]
            cases hg : fitB f n run a
            · have hb : goodB f n run align a = false := by
                cases hb : goodB f n run align a
                · rfl
                · have := (good_iff.1 hb).2.2
                  rw [hg] at this
                  cases this
              have hK := Lib.hid (show ∀ j, j < a + 1 → goodB f n run align j = false from fun j h => by
                rcases Nat.lt_or_ge j a with h | h
                · exact a2.out j h
                · obtain rfl : j = a := by omega
                  exact hb)
              have hC := Lib.hid (hF.out a (by omega))
              rw [hg] at hC
              replace hg := Lib.hid hg
              replace hm := Lib.hid hm
              replace hm1 := Lib.hid hm1
              clear hb hN hY
              go_wp2_with fail
              refine hC.out.mono ?_
              rintro e w2 ⟨rfl, rfl⟩
              go_wp2
              go_roundw
              case rel => exact ⟨a + 1, by go_num, by omega, hK.out, by first | rfl | trivial⟩
              case measure => simp [intOf]; omega
            · obtain ⟨e1, e2⟩ := hY.out a (good_iff.2 ⟨hal, hm, hg⟩) a2.out
              subst e1
              subst e2
              have hC := Lib.hid (hF.out xA (by omega))
              rw [hg] at hC
              replace hg := Lib.hid hg
              replace hm := Lib.hid hm
              replace hm1 := Lib.hid hm1
              clear hN hY
              go_wp2_with fail
              refine hC.out.mono ?_
              rintro e w2 ⟨rfl, rfl⟩
              go_wp2
              go_ret2
              exact ⟨rfl, rfl⟩
          · have hm' : ((a : Int) % align == 0) = false := by simp [hm]
            have hm2 : ((a : Int).tmod align == 0) = false := by simp [hm1, hm]
            have hb : goodB f n run align a = false := by
              cases hb : goodB f n run align a
              · rfl
              · exact absurd (good_iff.1 hb).2.1 hm
            have hK := Lib.hid (show ∀ j, j < a + 1 → goodB f n run align j = false from fun j h => by
              rcases Nat.lt_or_ge j a with h | h
              · exact a2.out j h
              · obtain rfl : j = a := by omega
                exact hb)
            replace hm := Lib.hid hm
            replace hm1 := Lib.hid hm1
            clear hb hN hY hF
            go_wp2
            go_roundw
            case rel => exact ⟨a + 1, by go_num, by omega, hK.out, by first | rfl | trivial⟩
            case measure => simp [intOf]; omega
        · obtain ⟨e1, e2⟩ := hN.out (fun j hj => a2.out j (by omega))
          subst e1
          subst e2
          go_wp2
          go_ret2
          exact ⟨rfl, rfl⟩
    · obtain ⟨e1, e2⟩ := hN.out (fun j _ => hNo.out j (by omega))
      subst e1
      subst e2
      have hal' : align < 1 := by omega
      clear hF hNo hN hY
      go_enter Try.func13, Try.ntmps13
      go_wp2
      go_ret2
      exact ⟨rfl, rfl⟩
  · obtain ⟨e1, e2⟩ := hN.out (fun j _ => hNo.out j (by omega))
    subst e1
    subst e2
    have hr' : run < 1 := by omega
    clear hF hNo hN hY
    go_enter Try.func13, Try.ntmps13
    go_wp2
    go_ret2
    exact ⟨rfl, rfl⟩
theorem rcount (H : TruthAt w q n f) (hn : n ≤ 1024) : Calls Try.prog 17 #[.slice (some ⟨q, 0, none⟩) n c] w fun e w' => e = .returned (.int .i64 (cnt f n : Nat)) ∧ w = w' := by
  have hH := Lib.hid H
  have hs := Lib.hid (fun k => (show cnt f (k + 1) = cnt f k + (f k).toNat from rfl))
  have hl := Lib.hid (cnt_le f)
  clear H
  go_enter Try.func17, Try.ntmps17
  go_wp2_with fail
  go_loopw [3, 4] (fun x i wr => ∃ k : Nat, x = .int .i64 (cnt f k : Nat) ∧ i = .int .i64 k ∧ k ≤ n ∧ w = wr) (fun _ i _ => n - (intOf i).toNat)
  case atStart => exact ⟨0, rfl, rfl, by omega, rfl⟩
  case round =>
    obtain ⟨k, rfl, rfl, k1, rfl⟩ := hrel
    have k2 : (k : Int) ≤ 1024 := by omega
    have hx := hl.out k
    by_cases hlt : k < n
    · have hc := (hH.out.cs k hlt).1
      have hs' := hs.out k
      have x3 : (cnt f k : Int) ≤ 1024 := by omega
      have x4 : 0 ≤ (cnt f k : Int) := by omega
      obtain ⟨X, hX⟩ : ∃ X, X = cnt f k := ⟨_, rfl⟩
      rw [← hX] at hs' x3 x4
      rw [← hX]
      replace hX := Lib.hid hX
      cases hf : f k
      all_goals
        rw [hf] at hc hs'
        replace hf := Lib.hid hf
        replace hs' := Lib.hid hs'
        clear hx
        go_wp2
        go_roundw
        case rel => exact ⟨k + 1, by rw [hs'.out]; first | rfl | go_num, by go_num, by omega, by first | rfl | trivial⟩
        case measure => simp [intOf]; omega
    · obtain rfl : k = n := by omega
      go_wp2
      go_ret
      exact ⟨rfl, rfl⟩
theorem rtake (H : TruthAt w q n f) (run align : Int) (hn : n ≤ 1024) (l0 : -9223372036854775808 ≤ run) (l1 : run ≤ 9223372036854775807) (l2 : align ≤ 9223372036854775807) :
    Calls Try.prog 10 #[.slice (some ⟨q, 0, none⟩) n c, .int .i64 run, .int .i64 align] w (TNext q n (tkF f n run align) w (.tuple #[.int .i64 (fndA f n run align : Nat), .bool (fndB f n run align)])) := by
  have hG := Lib.hid (rfind (c := c) H run align hn l0 l1 l2)
  have hR := Lib.hid (show fndB f n run align = true → 1 ≤ run ∧ ((fndA f n run align : Nat) : Int) + run ≤ n from fun h => by have hg := fit_iff.1 (good_iff.1 (fnd_is h).1).2.2; omega)
  have hF := Lib.hid (show fndB f n run align = false → tkF f n run align = f from fun h => by unfold tkF; rw [h]; rfl)
  have hF2 := Lib.hid (show fndB f n run align = true → ∀ k, (f k && !inr (fndA f n run align) (fndA f n run align + run.toNat) k) = tkF f n run align k from fun h k => by unfold tkF; rw [h]; rfl)
  have hH := Lib.hid H
  obtain ⟨D, hD⟩ : ∃ D, D = TNext q n (tkF f n run align) w (.tuple #[.int .i64 (fndA f n run align : Nat), .bool (fndB f n run align)]) := ⟨_, rfl⟩
  rw [← hD]
  replace hD := Lib.hid hD
  generalize tkF f n run align = g at *
  generalize fndA f n run align = xA at *
  generalize fndB f n run align = xB at *
  clear H
  go_enter Try.func10, Try.ntmps10
  go_wp2_with fail
  refine hG.out.mono ?_
  rintro e w2 ⟨rfl, rfl⟩
  cases xB
  · have hg := hF.out rfl
    subst hg
    clear hR hF hF2
    go_wp2_with fail
    go_loopw [10] (fun i wr => w = wr) (fun i _ => 0)
    case atStart => rfl
    case round =>
      obtain rfl := hrel
      go_wp2
      rw [hD.out]
      exact ⟨rfl, hH.out, Off.refl _ _ _⟩
  · obtain ⟨r1, r2⟩ := hR.out rfl
    have hg := Lib.hid (hF2.out rfl)
    clear hF hF2 hR
    obtain ⟨R, rfl⟩ := Int.eq_ofNat_of_zero_le (show 0 ≤ run by omega)
    go_wp2_with fail
    go_loopw [10] (fun i wr => ∃ j : Nat, i = .int .i64 ((xA + j : Nat) : Int) ∧ j ≤ R ∧ TruthAt wr q n (fun k => f k && !inr xA (xA + j) k) ∧ Off w.heap.size q w wr) (fun i _ => (xA + R) - (intOf i).toNat)
    case atStart => exact ⟨0, rfl, by omega, hH.out.congr fun k _ => (by
      have : inr xA (xA + 0) k = false := (by unfold inr; simp)
      rw [this]; simp), Off.refl _ _ _⟩
    case round =>
      obtain ⟨j, rfl, hj, hP, hO⟩ := hrel
      obtain ⟨K, hK⟩ : ∃ K, K = xA + j := ⟨_, rfl⟩
      rw [← hK]
      have hK2 : (K : Int) ≤ 1024 := by omega
      by_cases hlt : j < R
      · obtain ⟨hc, hf⟩ := hP.cs K (by omega)
        have hE := Lib.hid (And.intro ((hP.store (a := K) (by omega) false).congr (g := fun k => f k && !inr xA (xA + (j + 1)) k) fun k _ => (by
          by_cases h : k = xA + j
          · have : inr xA (xA + (j + 1)) k = true := (by unfold inr; simp; omega)
            rw [this]
            simp [upd, h, hK]
          · have : inr xA (xA + (j + 1)) k = inr xA (xA + j) k := (by
              unfold inr
              congr 1
              rw [decide_eq_decide]; omega)
            rw [this, upd_ne _ _ (by omega)])) (hO.setCell (p := ⟨q, K, none⟩) (.inr rfl) (.bool false)))
        have hl : (K : Int) < (xA : Int) + R := by omega
        have hl2 : (K : Int) < n := by omega
        replace hP := Lib.hid hP
        replace hO := Lib.hid hO
        replace hK := Lib.hid hK
        go_wp2
        go_roundw
        case rel => exact ⟨j + 1, by rw [hK.out]; go_num, by omega, hE.out⟩
        case measure => simp [intOf]; omega
      · have hl : ¬ (K : Int) < (xA : Int) + R := by omega
        have hE := Lib.hid (And.intro (hP.congr (g := g) fun k _ => (by rw [← hg.out k, show j = R by omega]; simp)) hO)
        clear hP hO
        go_wp2
        rw [hD.out]
        exact ⟨rfl, hE.out⟩
theorem rput (H : TruthAt w q n f) (a run : Int) (hn : n ≤ 1024) (l0 : -9223372036854775808 ≤ run) (l1 : run ≤ 9223372036854775807) (l2 : -9223372036854775808 ≤ a) (l3 : a ≤ 9223372036854775807) :
    Calls Try.prog 12 #[.slice (some ⟨q, 0, none⟩) n c, .int .i64 a, .int .i64 run] w (TNext q n (ptF f n a run) w (.bool (ptB f n a run))) := by
  have hI := Lib.hid (pt_iff (f := f) (n := n) (a := a) (run := run))
  have hF := Lib.hid (show ptB f n a run = false → ptF f n a run = f from fun h => by unfold ptF; rw [h]; rfl)
  have hF2 := Lib.hid (show ptB f n a run = true → ∀ k, (f k || inr a.toNat (a.toNat + run.toNat) k) = ptF f n a run k from fun h k => by
    have := pt_iff.1 h
    unfold ptF; rw [h, if_pos rfl, show (a + run).toNat = a.toNat + run.toNat by omega])
  have hH := Lib.hid H
  obtain ⟨D, hD⟩ : ∃ D, D = TNext q n (ptF f n a run) w (.bool (ptB f n a run)) := ⟨_, rfl⟩
  rw [← hD]
  replace hD := Lib.hid hD
  generalize ptF f n a run = g at *
  generalize ptB f n a run = xB at *
  clear H
  by_cases h0 : 0 ≤ a ∧ 1 ≤ run ∧ a + run ≤ n
  · obtain ⟨h0, h1, h2⟩ := h0
    obtain ⟨A, rfl⟩ := Int.eq_ofNat_of_zero_le h0
    obtain ⟨R, rfl⟩ := Int.eq_ofNat_of_zero_le (show 0 ≤ run by omega)
    go_enter Try.func12, Try.ntmps12
    go_wp2_with fail
    go_loopw [7] (fun i wr => ∃ k : Nat, i = .int .i64 k ∧ A ≤ k ∧ k ≤ A + R ∧ (∀ j : Nat, A ≤ j → j < k → f j = false) ∧ w = wr) (fun i _ => (A + R) - (intOf i).toNat)
    case atStart => exact ⟨A, rfl, by omega, by omega, fun j h1 h2 => absurd h2 (by omega), rfl⟩
    case round =>
      obtain ⟨k, rfl, k1, k2, k3, rfl⟩ := hrel
      have hK := Lib.hid k3
      clear k3
      by_cases hlt : k < A + R
      · have hc := (hH.out.cs k (by omega)).1
        have hkn : (k : Int) < n := by omega
        have hkl : (k : Int) < (A : Int) + R := by omega
        cases hf : f k
        · have hK2 := Lib.hid (show ∀ j : Nat, A ≤ j → j < k + 1 → f j = false from fun j h1 h2 => by
            rcases Nat.lt_or_ge j k with h | h
            · exact hK.out j h1 h
            · obtain rfl : j = k := by omega
              exact hf)
          rw [hf] at hc
          replace hf := Lib.hid hf
          go_wp2
          go_roundw
          case rel => exact ⟨k + 1, by go_num, by omega, by omega, hK2.out, by first | rfl | trivial⟩
          case measure => simp [intOf]; omega
        · obtain rfl : xB = false := by
            cases xB
            · rfl
            · have := (hI.out.1 rfl).2.2.2 k (by omega) hkl
              rw [hf] at this
              cases this
          have hg := hF.out rfl
          subst hg
          rw [hf] at hc
          replace hf := Lib.hid hf
          go_wp2
          rw [hD.out]
          exact ⟨rfl, hH.out, Off.refl _ _ _⟩
      · obtain rfl : k = A + R := by omega
        have hx := hI.out.2 ⟨h0, h1, h2, fun j j1 j2 => hK.out j (by omega) (by omega)⟩
        subst hx
        have hg := Lib.hid (hF2.out rfl)
        clear hF hF2 hI hK
        have hkl : ¬ ((A + R : Nat) : Int) < (A : Int) + R := by omega
        go_wp2_with fail
        go_loopw [8] (fun i wr => ∃ j : Nat, i = .int .i64 ((A + j : Nat) : Int) ∧ j ≤ R ∧ TruthAt wr q n (fun k => f k || inr A (A + j) k) ∧ Off w.heap.size q w wr) (fun i _ => (A + R) - (intOf i).toNat)
        case atStart => exact ⟨0, rfl, by omega, hH.out.congr fun k _ => (by
          have : inr A (A + 0) k = false := (by unfold inr; simp)
          rw [this]; simp), Off.refl _ _ _⟩
        case round =>
          obtain ⟨j, rfl, hj, hP, hO⟩ := hrel
          obtain ⟨K, hK⟩ : ∃ K, K = A + j := ⟨_, rfl⟩
          rw [← hK]
          have hK2 : (K : Int) ≤ 1024 := by omega
          by_cases hlt : j < R
          · obtain ⟨hc, hf⟩ := hP.cs K (by omega)
            have hE := Lib.hid (And.intro ((hP.store (a := K) (by omega) true).congr (g := fun k => f k || inr A (A + (j + 1)) k) fun k _ => (by
              by_cases h : k = A + j
              · have : inr A (A + (j + 1)) k = true := (by unfold inr; simp; omega)
                rw [this]
                simp [upd, h, hK]
              · have : inr A (A + (j + 1)) k = inr A (A + j) k := (by
                  unfold inr
                  congr 1
                  rw [decide_eq_decide]; omega)
                rw [this, upd_ne _ _ (by omega)])) (hO.setCell (p := ⟨q, K, none⟩) (.inr rfl) (.bool true)))
            have hl : (K : Int) < (A : Int) + R := by omega
            have hl2 : (K : Int) < n := by omega
            replace hP := Lib.hid hP
            replace hO := Lib.hid hO
            replace hK := Lib.hid hK
            go_wp2
            go_roundw
            case rel => exact ⟨j + 1, by rw [hK.out]; go_num, by omega, hE.out⟩
            case measure => simp [intOf]; omega
          · have hl : ¬ (K : Int) < (A : Int) + R := by omega
            have hE := Lib.hid (And.intro (hP.congr (g := g) fun k _ => (by rw [← hg.out k, show j = R by omega]; simp)) hO)
            clear hP hO
            go_wp2
            rw [hD.out]
            exact ⟨rfl, hE.out⟩
  · have hx : xB = false := by
      cases xB
      · rfl
      · have := hI.out.1 rfl; omega
    subst hx
    have hg := hF.out rfl
    subst hg
    clear hI hF hF2
    by_cases h1 : a < 0
    · go_enter Try.func12, Try.ntmps12
      go_wp2
      rw [hD.out]
      exact ⟨rfl, hH.out, Off.refl _ _ _⟩
    · by_cases h2 : run < 1
      · go_enter Try.func12, Try.ntmps12
        go_wp2
        rw [hD.out]
        exact ⟨rfl, hH.out, Off.refl _ _ _⟩
      · by_cases h3 : (n : Int) < run
        · go_enter Try.func12, Try.ntmps12
          go_wp2
          rw [hD.out]
          exact ⟨rfl, hH.out, Off.refl _ _ _⟩
        · have h4 : (n : Int) - run < a := by omega
          go_enter Try.func12, Try.ntmps12
          go_wp2
          rw [hD.out]
          exact ⟨rfl, hH.out, Off.refl _ _ _⟩
end
end Go.Proofs.Ytbabblnpjophdaa
