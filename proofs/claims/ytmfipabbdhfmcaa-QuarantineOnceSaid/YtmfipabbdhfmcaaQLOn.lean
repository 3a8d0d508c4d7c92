/- Proved: what was freed is let go once, by the end of a sweep that began behind its being freed, and nothing that overlaps it can be freed till then (QuarantineOnce). For every input; no condition. -/
import Derived.Test.YtmfipabbdhfmcaaRows
import Derived.Test.YtmfipabbdhfmcaaQuK
import Derived.Test.YtmfipabbdhfmcaaQOM
import Derived.Test.YtmfipabbdhfmcaaNums
import Derived.Deep.LoopGhost
import Derived.Deep.DeepCutAuto
import Derived.Deep.RegionHeld
import Derived.Deep.CutRange
import Derived.ProofKit
import Derived.OpenShut
import Derived.ChangeOld
namespace Go.Proofs.Ytmfipabbdhfmcaa.qonce
open Go.ChangeShapes Go.WideShapes Go.ChangeAt Go.RowKit Go.Proofs.Ytmfipabbdhfmcaa.Qu
set_option linter.unusedVariables false
def z200 : Array Value := Array.replicate 200 (.int .i64 0)
/-- At block q stand 200 states. -/
structure StAt (W : World) (q : Nat) (st : Nat → Nat) : Prop where
  cs : ∀ i, i < 200 → W.cell? ⟨q, i, none⟩ = some (.int .i64 (st i : Int)) ∧ W.frozen? ⟨q, i, none⟩ = false
theorem StAt.keep {W W' : World} {q : Nat} {st : Nat → Nat} (H : StAt W q st) (hk : W'.heap[q]? = W.heap[q]?) : StAt W' q st :=
  ⟨fun i hi => ⟨(World.cell?_of_block hk).trans (H.cs i hi).1, (World.frozen?_of_block hk).trans (H.cs i hi).2⟩⟩
theorem StAt.congr {W : World} {q : Nat} {st s2 : Nat → Nat} (H : StAt W q st) (e : ∀ k, st k = s2 k) : StAt W q s2 := by
  have : st = s2 := funext e
  exact this ▸ H
theorem StAt.store {W : World} {q : Nat} {st : Nat → Nat} (H : StAt W q st) {a : Nat} (ha : a < 200) (c : Nat) : StAt (W.setCell ⟨q, a, none⟩ (.int .i64 (c : Int))) q (updN st a c) := by
  refine ⟨fun i hi => ⟨?_, (World.frozen?_setCell _ _ _ _).trans (H.cs i hi).2⟩⟩
  unfold updN
  by_cases e : i = a
  · subst e
    rw [if_pos rfl]
    exact World.cell?_setCell_same' _ _ _ (by rw [(H.cs i hi).1]; rfl)
  · rw [if_neg e, World.cell?_setCell_other _ _ _ _ (fun e' => e (by simpa using (congrArg Addr.off e').symm))]
    exact (H.cs i hi).1
theorem StAt.lt {W : World} {q : Nat} {st : Nat → Nat} (H : StAt W q st) : q < W.heap.size := lt_of_cell' (p := ⟨q, 0, none⟩) (H.cs 0 (by omega)).1
/-- The yard, and the states beside it. -/
structure ON (W : World) (y q : Nat) (st : Nat → Nat) (e : Nat) (sw : Bool) (w : World) : Prop where
  k : QK W (fun j => j < W.heap.size ∨ j = q) y 256 (rowN st 1) (rowN st 2) e sw w
  s : StAt w q st
  le : ∀ x, st x ≤ 2
  hq : W.heap.size ≤ q
section
variable {W w w' : World} {y q e : Nat} {st s2 : Nat → Nat} {sw : Bool}
theorem ON.kp (H : ON W y q st e sw w) {Wt Bt : List Rg} {e' : Nat} {sw' : Bool} (k : QK W (fun j => j < W.heap.size ∨ j = q) y 256 Wt Bt e' sw' w') (h : Kp (fun j => j < W.heap.size ∨ j = q) w w') (h1 : Wt = rowN st 1) (h2 : Bt = rowN st 2) : ON W y q st e' sw' w' := by
  subst h1 h2
  exact ⟨k, H.s.keep (h.block q (.inr rfl)), H.le, H.hq⟩
theorem ON.set (H : ON W y q st e sw w) {a : Nat} (ha : a < 200) {c : Nat} (hc : c ≤ 2) (h1 : rowN st 1 = rowN (updN st a c) 1) (h2 : rowN st 2 = rowN (updN st a c) 2) : ON W y q (updN st a c) e sw (w.setCell ⟨q, a, none⟩ (.int .i64 (c : Int))) := by
  refine ⟨⟨?_, H.k.b.setCell (p := ⟨q, a, none⟩) H.hq _, H.k.d⟩, H.s.store ha c, fun j => updN_le H.le hc a j, H.hq⟩
  rw [← h1, ← h2]
  exact H.k.y.setCell (a := ⟨q, a, none⟩) (.inr rfl) _
/-- The yard is as it is; the states are on their way. -/
structure OM (W : World) (y q : Nat) (Wt Bt : List Rg) (st : Nat → Nat) (e : Nat) (sw : Bool) (w : World) : Prop where
  k : QK W (fun j => j < W.heap.size ∨ j = q) y 256 Wt Bt e sw w
  s : StAt w q st
  hq : W.heap.size ≤ q
theorem OM.set {Wt Bt : List Rg} (H : OM W y q Wt Bt st e sw w) {a : Nat} (ha : a < 200) (c : Nat) : OM W y q Wt Bt (updN st a c) e sw (w.setCell ⟨q, a, none⟩ (.int .i64 (c : Int))) :=
  ⟨⟨H.k.y.setCell (a := ⟨q, a, none⟩) (.inr rfl) _, H.k.b.setCell (p := ⟨q, a, none⟩) H.hq _, H.k.d⟩, H.s.store ha c, H.hq⟩
theorem OM.congr {Wt Bt : List Rg} (H : OM W y q Wt Bt st e sw w) (h : ∀ j, st j = s2 j) : OM W y q Wt Bt s2 e sw w := ⟨H.k, H.s.congr h, H.hq⟩
theorem OM.on {Wt Bt : List Rg} (H : OM W y q Wt Bt st e sw w) (h1 : Wt = rowN st 1) (h2 : Bt = rowN st 2) (hl : ∀ x, st x ≤ 2) : ON W y q st e sw w := by
  subst h1 h2
  exact ⟨H.k, H.s, hl, H.hq⟩
theorem ON.om (H : ON W y q st e sw w) {Wt Bt : List Rg} {e' : Nat} {sw' : Bool} (k : QK W (fun j => j < W.heap.size ∨ j = q) y 256 Wt Bt e' sw' w') (h : Kp (fun j => j < W.heap.size ∨ j = q) w w') : OM W y q Wt Bt st e' sw' w' :=
  ⟨k, H.s.keep (h.block q (.inr rfl)), H.hq⟩
end
set_option maxRecDepth 100000 in
set_option maxHeartbeats 16000000 in
theorem walk {H : Type} {enc : TypeId × Value → H} (v1 : Value) {d1 : DataW H} {p1 : List MemPlace} (W : World)
    (hv : Value.okWide Try.prog W .any 0 54 v1) (hd : DataW.Trod enc Try.prog W 0 (fun _ => true) true 54 v1 d1 p1) :
    Calls Try.prog 4 #[v1] W fun e w' => e = .returned (.bool true) ∧ Below W.heap.size W w' := by
  obtain ⟨A, len, cap, rfl, hcap, hm, hP⟩ := nums_of Try.underlying54 Try.underlying5 (by kernel_rfl) hv hd
  have hlen : len ≤ 9223372036854775807 := by unfold maxLen at hm; omega
  clear hv hd hm
  have hz1 : ∀ w, (zeroValue 55).run Try.prog w = .ok (.agg z200) w := fun w => by kernel_rfl
  have hWk := Lib.hid (works16_any W)
  go_enter Try.func4, Try.ntmps4
  go_wp2_with fail
  refine hWk.out.mono ?_
  rintro e w1 ⟨rfl, k1⟩
  have hN := Lib.hid (new_k (W := W) (w := w1) (D := fun k => k < W.heap.size) 256 (by omega) k1 4096 (by rfl) (fun _ h => h) (fun k h => Nat.lt_of_lt_of_le h k1.size))
  clear k1 hWk
  go_wp2_with fail
  refine hN.out.mono ?_
  rintro e w3 ⟨y, rfl, k, _, _⟩
  have K3 := Lib.hid k
  clear k hN
  go_upto_region 5 with (fail)
  have S0 := Lib.hid (show ON W y w3.heap.size (fun _ => 0) 0 false (w3.alloc (.cells z200 55)) from by
    have hb : Below w3.heap.size w3 (w3.alloc (.cells z200 55)) := (Below.refl _ _).alloc (Nat.le_refl _) _
    have e1 : ∀ c, ¬ c = 0 → rowN (fun _ => 0) c = [] := fun c hc => List.eq_nil_iff_forall_not_mem.2 fun r hr => by
      obtain ⟨z, _, h, _⟩ := rowN_mem.1 hr
      exact hc h.symm
    refine ⟨?_, ⟨fun i hi => ⟨by simp [z200, hi], by simp⟩⟩, fun _ => by omega, K3.out.b.size⟩
    rw [e1 1 (by omega), e1 2 (by omega)]
    refine (K3.out.more hb).sub (fun k hk => ?_) fun j hj => .inl hj
    rcases hk with hk | hk
    · exact .inl hk
    · exact .inr (by simp; omega))
  generalize w3.alloc (Obj.cells z200 55) = w4 at *
  generalize w3.heap.size = q at *
  generalize (fun _ : Nat => (0 : Nat)) = st0 at *
  replace hP := Lib.hid hP
  clear K3 hz1
  go_wp2_with fail
  go_loopw [5, 6] (fun sv i wr => ∃ (k e : Nat) (st : Nat → Nat) (sw : Bool), sv = .bool sw ∧ i = .int .i64 k ∧ k ≤ 60 ∧ e ≤ k ∧ Hid (ON W y q st e sw wr)) (fun _ i _ => 61 - (intOf i).toNat)
  case atStart => exact ⟨0, 0, st0, false, rfl, rfl, by omega, by omega, S0⟩
  case round =>
    clear S0
    obtain ⟨k, e, st, sw, rfl, rfl, hk, hek, HS⟩ := hrel
    by_cases hlt : k < len ∧ k < 60
    · have j1 : (k : Int) < (len : Int) := by omega
      have j2 : (k : Int) < 60 := by omega
      obtain ⟨bl, off, rfl, _, x, hx, hwx⟩ := (hP.out.below HS.out.k.b) k hlt.1
      have bx := bounds_u8 hwx
      obtain ⟨X, rfl⟩ := Int.eq_ofNat_of_zero_le bx.1
      have hXb : X < 256 := by omega
      clear hwx
      by_cases hX : X < 200
      · have hXi : (X : Int) < 200 := by omega
        obtain ⟨a, ha⟩ : ∃ a, a = 16 * X := ⟨_, rfl⟩
        have e1 : IntKind.u32.wrap (X : Int) = X := by rw [IntKind.wrap_u32]; omega
        have e2 : 16 * (X : Int) = a := by omega
        have e3 : IntKind.u32.wrap (a : Int) = a := by rw [IntKind.wrap_u32]; omega
        have hab : a < 4096 := by omega
        have x0 : (0 : Int) ≤ X := by omega
        have ha' := Lib.hid ha
        clear ha
        by_cases hs : st X = 0
        · have c := (HS.out.s.cs X hX).1
          have f := (HS.out.s.cs X hX).2
          rw [hs] at c
          have hok := Lib.hid (show okF 256 (rowN st 1 ++ rowN st 2) (a, 16) = true by rw [ha'.out, okF_row HS.out.le hX, hs]; rfl)
          have hin := Lib.hid (ins_row hX hs)
          have hs' := Lib.hid hs
          clear hs
          go_upto_region 24 with (fail)
          clear hx
          have cD := (show wr.drew.cell? ⟨q, X, none⟩ = some (.int .i64 (0 : Int)) from c)
          go_region_with (first
            | (go_at_call 23; refine (region_any a 16 _).mono ?_; rintro e w2 ⟨rfl, kk⟩; have K2 := Lib.hid (HS.out.k.grow (((Below.refl _ _).drew).trans (kk.mono (Nat.le_refl _)))); have c2 := (kk.cell (p := ⟨q, X, none⟩) (lt_of_cell' cD)).trans cD; have b2 := Lib.hid kk; clear kk)
            | (go_at_call 9; refine (free_k K2.out a 16 (by omega) (by omega) true hok.out (Wt' := rowN (updN st X 1) 1) (by rw [if_pos rfl, ha'.out]; exact hin.out.1)).mono ?_; rintro e w5 ⟨rfl, kk, kp⟩; have K5 := Lib.hid (And.intro kk kp); have c5 := (kp.cell (a := ⟨q, X, none⟩) (.inr rfl)).trans c2; clear kk kp))
          all_goals
            have hM := Lib.hid (show ON W y q (updN st X 1) e sw (w5.setCell ⟨q, X, none⟩ (.int .i64 ((1 : Nat) : Int))) from
              ((HS.out.om K5.out.1 (((HS.out.k.kp (Below.refl _ _).drew).trans ⟨b2.out.os, b2.out.tape, b2.out.output, b2.out.size, fun j hj => b2.out.block j (HS.out.k.y.inn j hj)⟩).trans K5.out.2)).set hX 1).on rfl hin.out.2 (fun j => updN_le HS.out.le (by omega) X j))
            have f5 := ((HS.out.om K5.out.1 (((HS.out.k.kp (Below.refl _ _).drew).trans ⟨b2.out.os, b2.out.tape, b2.out.output, b2.out.size, fun j hj => b2.out.block j (HS.out.k.y.inn j hj)⟩).trans K5.out.2)).s.cs X hX).2
            clear hin K5 b2 K2 HS f c c2 cD
            go_wp2_with fail
            go_roundw
            case rel => exact ⟨k + 1, e, updN st X 1, sw, rfl, by go_num, by omega, by omega, hM⟩
            case measure => simp [intOf]; omega
        · have c := (HS.out.s.cs X hX).1
          have hok := Lib.hid (show okF 256 (rowN st 1 ++ rowN st 2) (a, 16) = false by rw [ha'.out, okF_row HS.out.le hX]; exact decide_eq_false hs)
          obtain ⟨s, hs0⟩ : ∃ s, s = st X := ⟨_, rfl⟩
          rw [← hs0] at c hs
          have hs1 : ¬ (s : Int) = 0 := by omega
          have hs2 : ((s : Int) == 0) = false := by simp; omega
          clear hs0
          go_upto_region 24 with (fail)
          clear hx
          have cD := (show wr.drew.cell? ⟨q, X, none⟩ = some (.int .i64 (s : Int)) from c)
          go_region_with (first
            | (go_at_call 23; refine (region_any a 16 _).mono ?_; rintro e w2 ⟨rfl, kk⟩; have K2 := Lib.hid (HS.out.k.grow (((Below.refl _ _).drew).trans (kk.mono (Nat.le_refl _)))); have c2 := (kk.cell (p := ⟨q, X, none⟩) (lt_of_cell' cD)).trans cD; have b2 := Lib.hid kk; clear kk)
            | (go_at_call 9; refine (free_k K2.out a 16 (by omega) (by omega) false hok.out (Wt' := rowN st 1) rfl).mono ?_; rintro e w5 ⟨rfl, kk, kp⟩; have K5 := Lib.hid (And.intro kk kp); have c5 := (kp.cell (a := ⟨q, X, none⟩) (.inr rfl)).trans c2; clear kk kp))
          all_goals
            have hM := Lib.hid (show ON W y q st e sw w5 from
              (HS.out.om K5.out.1 (((HS.out.k.kp (Below.refl _ _).drew).trans ⟨b2.out.os, b2.out.tape, b2.out.output, b2.out.size, fun j hj => b2.out.block j (HS.out.k.y.inn j hj)⟩).trans K5.out.2)).on rfl rfl HS.out.le)
            clear K5 b2 K2 HS c c2 cD
            go_wp2_with fail
            go_roundw
            case rel => exact ⟨k + 1, e, st, sw, rfl, by go_num, by omega, by omega, hM⟩
            case measure => simp [intOf]; omega
      · have hXi : ¬ (X : Int) < 200 := by omega
        by_cases hX2 : X < 228
        · have hX2i : (X : Int) < 228 := by omega
          cases sw
          · have hno : rowN st 2 = [] := HS.out.k.y.good.2.2.2.1 rfl
            have hrb := Lib.hid (row_begin hno)
            replace hno := Lib.hid hno
            go_wp2_with (go_at_call 11; refine (begin_k HS.out.k (by omega)).mono ?_; rintro e1 w5 ⟨rfl, kk, kp⟩; have hM := Lib.hid (HS.out.om kk kp); clear kk kp hx)
            go_loopw [10] (fun jv wr2 => ∃ j : Nat, j ≤ 200 ∧ jv = .int .i64 j ∧ Hid (OM W y q [] (rowN st 1) (stB st j) (e + 1) true wr2)) (fun jv _ => 200 - (intOf jv).toNat)
            case atStart => exact ⟨0, by omega, rfl, Lib.hid (hM.out.congr (stB_zero st))⟩
            case round =>
              clear hM
              obtain ⟨j, hj, rfl, hM⟩ := hrel
              by_cases hj2 : j < 200
              · have hj3 : (j : Int) < 200 := by omega
                have c := (hM.out.s.cs j hj2).1
                have f := (hM.out.s.cs j hj2).2
                rw [stB_at] at c
                have i0 : (0 : Int) ≤ j := by omega
                by_cases hs : st j = 1
                · rw [hs] at c
                  have hM2 := Lib.hid ((hM.out.set hj2 2).congr (stB_yes hs))
                  clear hM hs
                  go_wp2_with fail
                  go_roundw
                  case rel => exact ⟨j + 1, by omega, by go_num, hM2⟩
                  case measure => simp [intOf]; omega
                · obtain ⟨s, hs0⟩ : ∃ s, s = st j := ⟨_, rfl⟩
                  have hM2 := Lib.hid (hM.out.congr (stB_not hs))
                  rw [← hs0] at c hs
                  have hs1 : ¬ (s : Int) = 1 := by omega
                  have hs2 : ((s : Int) == 1) = false := by simp; omega
                  clear hM hs0
                  go_wp2_with fail
                  go_roundw
                  case rel => exact ⟨j + 1, by omega, by go_num, hM2⟩
                  case measure => simp [intOf]; omega
              · obtain rfl : j = 200 := by omega
                have hO := Lib.hid (hM.out.on hrb.out.1 hrb.out.2 (stB_le HS.out.le 200))
                clear hM
                have hj3 : ¬ ((200 : Nat) : Int) < 200 := by omega
                go_wp2_with fail
                go_roundw
                case rel => exact ⟨k + 1, e + 1, stB st 200, true, rfl, by go_num, by omega, by omega, hO⟩
                case measure => simp [intOf]; omega
          · go_wp2_with (go_at_call 11; refine (begin_no_k HS.out.k).mono ?_; rintro e1 w5 ⟨rfl, kk, kp⟩; have hM := Lib.hid (HS.out.kp kk kp rfl rfl); clear kk kp hx)
            go_loopw [10] (fun jv wr2 => ∃ j : Nat, j = 0 ∧ jv = .int .i64 j ∧ Hid (ON W y q st e true wr2)) (fun jv _ => 1)
            case atStart => exact ⟨0, rfl, rfl, hM⟩
            case round =>
              clear hM
              obtain ⟨j, rfl, rfl, hM⟩ := hrel
              go_wp2_with fail
              go_roundw
              case rel => exact ⟨k + 1, e, st, true, rfl, by go_num, by omega, by omega, hM⟩
              case measure => simp [intOf]; omega
        · have hX2i : ¬ (X : Int) < 228 := by omega
          have hre := Lib.hid (row_end (st := st))
          go_wp2_with (go_at_call 13; refine (end_any HS.out.k).mono ?_; rintro e1 w5 ⟨v, rfl, ho, kk, kp, hvD⟩; obtain ⟨A2, cap2, rfl⟩ := own_slice ho; have hM := Lib.hid (HS.out.om (kk.sub (D' := fun j => j < W.heap.size ∨ j = q) (fun j h => .inl h) (fun j h => .inl h)) kp); have hR := Lib.hid (And.intro ho hvD); clear kk kp ho hvD hx)
          obtain ⟨m, hm⟩ : ∃ m, m = (rowN st 2).length := ⟨_, rfl⟩
          rw [← hm]
          have hm' := Lib.hid hm
          have hR2 := Lib.hid (show w5.ownsRow 0 33 2 (.slice A2 m cap2) (rowN st 2).length ((rowN st 2).flatMap rgC) ∧ ∀ g, (Value.slice A2 m cap2).ownBlock = some g → g ≠ q from by
            rw [hm]
            exact ⟨hR.out.1, fun g hg e => hR.out.2 g hg (.inr e)⟩)
          clear hR hm
          go_loopw [12, 13] (fun nv jv wr2 => ∃ j n : Nat, j ≤ 200 ∧ jv = .int .i64 j ∧ nv = .int .i64 n ∧ Hid (n = cntN st 2 j ∧ OM W y q (rowN st 1) [] (stE st j) e false wr2 ∧ wr2.ownsRow 0 33 2 (.slice A2 m cap2) (rowN st 2).length ((rowN st 2).flatMap rgC))) (fun _ jv _ => 200 - (intOf jv).toNat)
          case atStart => exact ⟨0, 0, by omega, rfl, rfl, Lib.hid ⟨rfl, hM.out.congr (stE_zero st), hR2.out.1⟩⟩
          case round =>
            clear hM
            obtain ⟨j, n, hj, rfl, rfl, hM⟩ := hrel
            by_cases hj2 : j < 200
            · have hj3 : (j : Int) < 200 := by omega
              have c := (hM.out.2.1.s.cs j hj2).1
              have f := (hM.out.2.1.s.cs j hj2).2
              rw [stE_at] at c
              have i0 : (0 : Int) ≤ j := by omega
              by_cases hs : st j = 2
              · rw [hs] at c
                have hnl : n < (rowN st 2).length := by rw [hM.out.1]; exact cntN_lt hj2 hs
                obtain ⟨g, rfl, hg, _, k0, k1⟩ := own_at hM.out.2.2 n hnl
                have hrg : (rowN st 2)[n] = (16 * j, 16) := by
                  have := row_get hj2 hs
                  simp only [← hM.out.1] at this
                  exact this
                rw [hrg] at k0 k1
                dsimp only at k0 k1
                obtain ⟨a, ha⟩ : ∃ a, a = 16 * j := ⟨_, rfl⟩
                rw [← ha] at k0
                have e1 : IntKind.u32.wrap (j : Int) = j := by rw [IntKind.wrap_u32]; omega
                have e2 : 16 * (j : Int) = a := by omega
                have e3 : IntKind.u32.wrap (a : Int) = a := by rw [IntKind.wrap_u32]; omega
                have hEq := fun w => rg_eq (a, 16) (a, 16) true (by simp) w
                dsimp only at hEq
                have hnm : n < m := by rw [hm'.out]; exact hnl
                have hnm2 : (n : Int) < m := by omega
                have hnm3 : ¬ (m : Int) ≤ n := by omega
                have hml : m ≤ 200 := by
                  have := hm'.out
                  rw [cntN_all] at this
                  have := cntN_le st 2 200
                  omega
                have n0 : (0 : Int) ≤ n := by omega
                obtain ⟨S, hS0⟩ : ∃ S, S = fun w' => Below wr.heap.size wr w' := ⟨_, rfl⟩
                have hKS : ∀ w', S w' → Below wr.heap.size wr w' := fun w' h => by rw [hS0] at h; exact h
                have h4 : S wr.drew := by rw [hS0]; exact (Below.refl _ _).drew
                have a0 : ∀ z : Wd S, z.w.cell? ⟨g, n * 2, none⟩ = some (.int .u32 (a : Int)) := fun z => ((hKS _ z.h).cell (p := ⟨g, n * 2, none⟩) hg).trans k0
                have a1 : ∀ z : Wd S, z.w.cell? ⟨g, n * 2 + 1, none⟩ = some (.int .u32 ((16 : Nat) : Int)) := fun z => ((hKS _ z.h).cell (p := ⟨g, n * 2 + 1, none⟩) hg).trans k1
                have cR := Lib.hid (show ∀ z : Wd S, Calls Try.prog 23 #[.int .u32 (a : Int), .int .u32 16] z.w fun e w' => e = .returned (rgV (a, 16)) ∧ ∃ z' : Wd S, w' = z'.w from
                  cls_call (fun w' hw => (region_any a 16 w').mono fun e w2 k => ⟨k.1, by rw [hS0]; exact (hKS _ hw).trans (k.2.mono (hKS _ hw).size)⟩))
                have hM2 := Lib.hid (show ∀ w', S w' → n + 1 = cntN st 2 (j + 1) ∧ OM W y q (rowN st 1) [] (stE st (j + 1)) e false (w'.setCell ⟨q, j, none⟩ (.int .i64 ((0 : Nat) : Int))) ∧ (w'.setCell ⟨q, j, none⟩ (.int .i64 ((0 : Nat) : Int))).ownsRow 0 33 2 (.slice (some ⟨g, 0, none⟩) m cap2) (rowN st 2).length ((rowN st 2).flatMap rgC) from fun w' hw => by
                  have hb := hKS _ hw
                  have hO : OM W y q (rowN st 1) [] (stE st j) e false w' := ⟨hM.out.2.1.k.grow hb, hM.out.2.1.s.keep (hb.block q hM.out.2.1.s.lt), hM.out.2.1.hq⟩
                  refine ⟨by rw [cntN_yes hs, hM.out.1], (hO.set hj2 0).congr (stE_yes hs), own_keep (own_grow hM.out.2.2 hb) fun g' hg' => Below.heap_setCell _ _ _ _ (hR2.out.2 g' hg')⟩)
                have hcq := Lib.hid (show ∀ w', S w' → w'.cell? ⟨q, j, none⟩ = some (.int .i64 ((2 : Nat) : Int)) ∧ w'.frozen? ⟨q, j, none⟩ = false from fun w' hw => ⟨((hKS _ hw).cell (p := ⟨q, j, none⟩) (lt_of_cell' c)).trans c, ((hKS _ hw).frozen (p := ⟨q, j, none⟩) (lt_of_cell' c)).trans f⟩)
                clear hS0 hKS k0 k1 hg hM hs hnl hrg ha hR2
                unfold rgV at cR
                dsimp only at cR
                go_upto_region 16 with (fail)
                clear c f
                refine region_cls S (by kernel_rfl) (by kernel_rfl) h4 ?_
                repeat (first
                  | go_big_quiet_skip
                  | (go_big_quiet_want
                     go_big_quiet_op
                     first
                     | go_big_quiet_on
                     | (apply Exists.intro
                        refine ⟨fun y => ?_, ?_⟩
                        · first | exact rfl | with_reducible exact cR.out y
                        go_big_quiet_on)))
                refine wpQuiet_nil ?_
                intro z
                have hM3 := Lib.hid (hM2.out _ z.h)
                have c := (hcq.out _ z.h).1
                have f := (hcq.out _ z.h).2
                obtain ⟨w6, hw6⟩ : ∃ w6, w6 = z.w := ⟨_, rfl⟩
                rw [← hw6] at hM3 c f ⊢
                clear hw6 a0 a1 h4 cR hM2 hcq
                clear z S
                go_wp2_with fail
                go_roundw
                case rel => exact ⟨j + 1, n + 1, by omega, by go_num, by go_num, hM3⟩
                case measure => simp [intOf]; omega
              · obtain ⟨s, hs0⟩ : ∃ s, s = st j := ⟨_, rfl⟩
                have hM2 := Lib.hid (show n = cntN st 2 (j + 1) ∧ OM W y q (rowN st 1) [] (stE st (j + 1)) e false wr ∧ wr.ownsRow 0 33 2 (.slice A2 m cap2) (rowN st 2).length ((rowN st 2).flatMap rgC) from ⟨by rw [cntN_not hs]; exact hM.out.1, hM.out.2.1.congr (stE_not hs), hM.out.2.2⟩)
                rw [← hs0] at c hs
                have hs1 : ¬ (s : Int) = 2 := by omega
                have hs2 : ((s : Int) == 2) = false := by simp; omega
                clear hM hs0
                go_wp2_with fail
                go_roundw
                case rel => exact ⟨j + 1, n, by omega, by go_num, rfl, hM2⟩
                case measure => simp [intOf]; omega
            · obtain rfl : j = 200 := by omega
              have hO := Lib.hid (hM.out.2.1.on hre.out.1 hre.out.2 (stE_le HS.out.le 200))
              obtain rfl : n = m := by rw [hM.out.1, hm'.out, cntN_all]
              clear hM
              have hj3 : ¬ ((200 : Nat) : Int) < 200 := by omega
              go_wp2_with fail
              go_roundw
              case rel => exact ⟨k + 1, e, stE st 200, false, rfl, by go_num, by omega, by omega, hO⟩
              case measure => simp [intOf]; omega
    · have hE := Lib.hid HS.out.k.b
      clear HS
      rcases (show ¬ (k : Int) < len ∨ ((k : Int) < len ∧ ¬ (k : Int) < 60) by omega) with j1 | ⟨j1, j2⟩
      all_goals
        go_wp2_with fail
        go_ret
        exact ⟨rfl, hE.out⟩
theorem own : ownKnob Try.prog.godebug = none := by kernel_rfl
theorem laidOut : laidOutB Try.prog = true := by kernel_rfl
set_option maxRecDepth 100000 in
theorem lifted (os : Os) (started : os.Started) (H : Type) (enc : TypeId × Value → H) :
    ReturnsInHanded {} Try.checked os 4 .any (Rows.quarantineOnceSpec.pre6 enc Try.prog Try.f4 Rows.quarantineOnceRow.domain false) (Rows.quarantineOnceSpec.post enc Try.prog Try.f4 false true false false) := by
  refine returnsInHanded_of_change (C := Try.checked) own started (by kernel_rfl) Try.func4
    (ChangeSpec.witness6 (enc := enc) (C := Try.checked) false ⟨#[], #[.slice none 0 0], []⟩ 8 (by kernel_rfl) (by kernel_rfl) (by kernel_rfl) (by kernel_rfl)) ?_
  intro W base args ds gs before hval0 hW hcnd hsz
  have hval : ∀ (j : Nat) t v, Try.f4.params[j]? = some t → args[j]? = some v → Value.okWide Try.prog W .any base t v := hval0
  have hW' := hW
  obtain ⟨p, q, hA0, hV, rfl, hfz, hnd⟩ := hW
  have hA : DataW.TrodAll enc Try.prog W 0 (fun _ => true) true Try.f4.params.toList args.toList ds p := hA0
  rw [Try.params4] at hA hval
  obtain ⟨v0, vs0, d0, ds0, p0, q0, hargs, rfl, rfl, h0, r0⟩ := trodAll_cons hA
  obtain ⟨rfl, rfl, rfl⟩ := trodAll_nil r0
  obtain rfl : args = #[v0] := by cases args; simp_all
  obtain ⟨rfl, rfl⟩ := trodVars_none hV
  have k0 := h0
  have lt0 : ∀ x ∈ p0, x.block < W.heap.size := by obtain ⟨m, hm⟩ := k0; exact DataW.trod_lt m _ _ _ hm
  clear hA0 hval0
  refine (walk v0 W (hval 0 54 v0 rfl rfl) k0).mono fun e W' ⟨he, bel⟩ => ?_
  subst he
  exact ⟨_, rfl, _, _, _, [], _, [], hW', trodAll_mk1 (shut_bool Try.underlying4 _), (trodAll_cons_mk (Below.trod laidOut (by kernel_rfl) (of_decide_eq_true (by kernel_rfl)) k0 bel lt0) trodAll_mk0), rfl, bel.frame _, fun h => by cases h⟩
theorem over : Rows.quarantineOnceRow.holds Try.pinned (OpenSpec.ofChange Rows.quarantineOnceSpec) :=
  OpenClaim.holds_of_wide 4 Try.f4 rfl rfl rfl rfl rfl rfl rfl ⟨rfl, rfl, rfl, rfl, rfl⟩ rfl rfl rfl rfl rfl (by kernel_rfl) Try.func4 (by kernel_rfl)
    (of_decide_eq_true (by kernel_rfl)) (by unfold Func.isWrapper; first | (rw [if_pos (by decide +kernel)]; kernel_rfl) | (rw [if_neg (by decide +kernel)]; exact ⟨rfl, rfl⟩))
    (fun os started H enc _ => lifted os started H enc)
/-- The given statement. -/
theorem proved : Rows.QuarantineOnceSaid := over
end Go.Proofs.Ytmfipabbdhfmcaa.qonce
