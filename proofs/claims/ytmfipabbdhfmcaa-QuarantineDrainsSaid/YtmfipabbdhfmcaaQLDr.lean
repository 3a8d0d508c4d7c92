/- Proved: once a ticket is done nothing waits, or is of the batch, that was freed before it was asked for; and it is done at the second end behind that at the latest (QuarantineDrains). For every input; no condition. -/
import Derived.Test.YtmfipabbdhfmcaaRows
import Derived.Test.YtmfipabbdhfmcaaQDS
import Derived.Deep.LoopGhost
import Derived.Deep.DeepCutAuto
import Derived.Deep.RegionHeld
import Derived.Deep.CutRange
import Derived.Deep.CutBlock
import Derived.ProofKit
import Derived.OpenShut
import Derived.ChangeOld
namespace Go.Proofs.Ytmfipabbdhfmcaa.qdrain
open Go.ChangeShapes Go.WideShapes Go.ChangeAt Go.RowKit Go.Proofs.Ytmfipabbdhfmcaa.Qu
set_option linter.unusedVariables false
theorem un_step {s : QS} (h : Un (s.W ++ s.B)) (x : Nat) (hB : s.sw = false → s.B = []) : Un ((stp x s).W ++ (stp x s).B) :=
  ((DInv.start h fun _ => True).step (Q := fun _ => True) x (fun _ h => h) (fun _ => trivial) hB).u
/-- The yard, and a row of regions beside it. -/
def DK (W : World) (y : Nat) (O : List Rg) (vo : Value) (s : QS) (w : World) : Prop := SK W (fun j => j < W.heap.size ∨ vo.ownBlock = some j) y s w ∧ w.ownsRow 0 33 2 vo O.length (O.flatMap rgC)
theorem DK.kp {W w w' : World} {y : Nat} {O : List Rg} {vo : Value} {s s' : QS} (H : DK W y O vo s w) (k : SK W (fun j => j < W.heap.size ∨ vo.ownBlock = some j) y s' w') (h : Kp (fun j => j < W.heap.size ∨ vo.ownBlock = some j) w w') : DK W y O vo s' w' :=
  ⟨k, own_keep H.2 fun g hg => h.block g (.inr hg)⟩
theorem DK.grow {W w w' : World} {y : Nat} {O : List Rg} {vo : Value} {s : QS} (H : DK W y O vo s w) (k : Below w.heap.size w w') : DK W y O vo s w' := ⟨H.1.grow k, own_grow H.2 k⟩
/-- The yard, and two rows beside it. -/
def EK (W : World) (y : Nat) (O : List Rg) (vo : Value) (N : List Rg) (vn : Value) (s : QS) (w : World) : Prop :=
  SK W (fun j => j < W.heap.size ∨ vo.ownBlock = some j ∨ vn.ownBlock = some j) y s w ∧ w.ownsRow 0 33 2 vo O.length (O.flatMap rgC) ∧ w.ownsRow 0 33 2 vn N.length (N.flatMap rgC)
theorem EK.kp {W w w' : World} {y : Nat} {O N : List Rg} {vo vn : Value} {s s' : QS} (H : EK W y O vo N vn s w) (k : SK W (fun j => j < W.heap.size ∨ vo.ownBlock = some j ∨ vn.ownBlock = some j) y s' w') (h : Kp (fun j => j < W.heap.size ∨ vo.ownBlock = some j ∨ vn.ownBlock = some j) w w') : EK W y O vo N vn s' w' :=
  ⟨k, own_keep H.2.1 fun g hg => h.block g (.inr (.inl hg)), own_keep H.2.2 fun g hg => h.block g (.inr (.inr hg))⟩
theorem EK.grow {W w w' : World} {y : Nat} {O N : List Rg} {vo vn : Value} {s : QS} (H : EK W y O vo N vn s w) (k : Below w.heap.size w w') : EK W y O vo N vn s w' := ⟨QK.grow H.1 k, own_grow H.2.1 k, own_grow H.2.2 k⟩
theorem not_before {O : List Rg} (G : Qu.Good 256 O) {j : Nat} (hj : j < O.length) : O[j] ∉ O.take j := by
  intro h
  obtain ⟨i, hi, e⟩ := List.getElem_of_mem h
  rw [List.length_take] at hi
  rw [List.getElem_take] at e
  have h1 := List.pairwise_iff_getElem.1 G.apart i j (by omega) hj (by omega)
  have h2 := okA_iff.1 (G.al O[j] (List.getElem_mem hj))
  rw [e] at h1
  omega
theorem bytes_below {w w' : World} {A : Option Addr} {n : Nat} {X : Nat → Nat} {W : World} (H : BytesAt W A n X) (k : Below W.heap.size W w') : BytesAt w' A n X := H.grow k
set_option maxRecDepth 100000 in
set_option maxHeartbeats 16000000 in
theorem walk {H : Type} {enc : TypeId × Value → H} (v1 v2 : Value) {d1 : DataW H} {p1 : List MemPlace} {d2 : DataW H} {p2 : List MemPlace} (W : World)
    (hv : Value.okWide Try.prog W .any 0 54 v1) (hd : DataW.Trod enc Try.prog W 0 (fun _ => true) true 54 v1 d1 p1)
    (hv2 : Value.okWide Try.prog W .any 0 54 v2) (hd2 : DataW.Trod enc Try.prog W 0 (fun _ => true) true 54 v2 d2 p2) :
    Calls Try.prog 5 #[v1, v2] W fun e w' => e = .returned (.bool true) ∧ Below W.heap.size W w' := by
  obtain ⟨A, len, cap, rfl, hcap, hm, hP⟩ := nums_of Try.underlying54 Try.underlying5 (by kernel_rfl) hv hd
  obtain ⟨A2, len2, cap2, rfl, hcap2, hm2, hP2⟩ := nums_of Try.underlying54 Try.underlying5 (by kernel_rfl) hv2 hd2
  have hlen : len ≤ 9223372036854775807 := by unfold maxLen at hm; omega
  have hlen2 : len2 ≤ 9223372036854775807 := by unfold maxLen at hm2; omega
  have hcl2 : cap2 ≤ 9223372036854775807 := by unfold maxLen at hm2; omega
  obtain ⟨X, hX⟩ := bytes_of hP
  obtain ⟨Z, hZ⟩ := bytes_of hP2
  replace hX := Lib.hid hX
  replace hZ := Lib.hid hZ
  clear hv hd hm hv2 hd2 hm2 hP hP2
  have hWk := Lib.hid (works16_any W)
  go_enter Try.func5, Try.ntmps5
  go_wp2_with fail
  refine hWk.out.mono ?_
  rintro e w1 ⟨rfl, k1⟩
  have hN := Lib.hid (new_k (W := W) (w := w1) (D := fun k => k < W.heap.size) 256 (by omega) k1 4096 (by rfl) (fun _ h => h) (fun k h => Nat.lt_of_lt_of_le h k1.size))
  clear k1 hWk
  go_wp2_with fail
  refine hN.out.mono ?_
  rintro e w3 ⟨y, rfl, k, _, _⟩
  have S0 := Lib.hid (show SK W (fun k => k < W.heap.size) y ⟨[], [], 0, false⟩ w3 ∧ Un ([] ++ []) from ⟨k, fun o ho => by cases ho⟩)
  clear k hN
  go_upto_block 0 with (fail)
  go_cut [7] from 20 to 35 (fun iv w' => ∃ (k : Nat) (s : QS), iv = .int .i64 k ∧ Hid (s.e ≤ 40 ∧ SK W (fun k => k < W.heap.size) y s w' ∧ Un (s.W ++ s.B)))
  case first =>
    go_wp2_with fail
    go_loopw [7] (fun iv wr => ∃ (k : Nat) (s : QS), iv = .int .i64 k ∧ k ≤ 40 ∧ s.e ≤ k ∧ Hid (SK W (fun k => k < W.heap.size) y s wr ∧ Un (s.W ++ s.B))) (fun iv _ => 41 - (intOf iv).toNat)
    case atStart => exact ⟨0, ⟨[], [], 0, false⟩, rfl, by omega, by dsimp only; omega, S0⟩
    case round =>
      clear S0
      obtain ⟨k, s, rfl, hk, hek, HS⟩ := hrel
      by_cases hlt : k < len ∧ k < 40
      · have j1 : (k : Int) < (len : Int) := by omega
        have j2 : (k : Int) < 40 := by omega
        obtain ⟨bl, off, rfl, hx, _, hc⟩ := (hX.out.grow HS.out.1.b) k hlt.1
        have hS := Lib.hid (stepK HS.out.1 (X k) hx (by omega))
        have hU := Lib.hid (un_step HS.out.2 (X k) HS.out.1.y.good.2.2.2.1)
        have hee := Lib.hid (stp_e (X k) s)
        obtain ⟨s', hs'⟩ : ∃ s', s' = stp (X k) s := ⟨_, rfl⟩
        rw [← hs'] at hS hU hee
        obtain ⟨x, hx0⟩ : ∃ x, x = X k := ⟨_, rfl⟩
        rw [← hx0] at hc hx hS
        have i0 : (0 : Int) ≤ k := by omega
        clear hs' hx0
        go_wp2_with (go_at_call 24; refine hS.out.mono ?_; rintro e1 w5 ⟨rfl, kk, _⟩; have hM := Lib.hid (And.intro kk hU.out); clear kk hc)
        go_roundw
        case rel => exact ⟨k + 1, s', by go_num, by omega, by have := hee.out; omega, hM⟩
        case measure => simp [intOf]; omega
      · have hE := Lib.hid (show s.e ≤ 40 ∧ SK W (fun k => k < W.heap.size) y s wr ∧ Un (s.W ++ s.B) from ⟨by omega, HS.out⟩)
        clear HS
        rcases (show ¬ (k : Int) < len ∨ ((k : Int) < len ∧ ¬ (k : Int) < 40) by omega) with j1 | ⟨j1, j2⟩
        all_goals
          go_wp2_with fail
          go_meet
          exact ⟨k, s, rfl, hE⟩
  case rest =>
    obtain ⟨k0, s0, rfl, H0⟩ := hcut
    clear S0
    go_wp2_with fail
    refine (waiting_k H0.out.2.1).mono ?_
    rintro e1 wa ⟨va, rfl, oa, ka, ba, _⟩
    have Ka := Lib.hid ka
    have Ba := Lib.hid ba
    have Oa := Lib.hid oa
    obtain ⟨Aa, ca, rfl⟩ := own_slice oa
    clear ka ba oa
    have hlen0 := Lib.hid (show s0.W.length + s0.B.length ≤ 256 from by
      have := H0.out.2.1.y.good.1.length
      rwa [List.length_append] at this)
    go_wp2_with (first
      | (go_at_call 26; refine (batch_k Ka.out).mono ?_; rintro e1 wb ⟨vb, rfl, ob, kb, bb, _⟩; have Ob := Lib.hid ob; have Bb := Lib.hid bb; have Oa2 := Lib.hid (own_grow Oa.out bb); obtain ⟨Ab, cb, rfl⟩ := own_slice ob; clear ob kb bb)
      | (at_builtin; (refine append_both (L := s0.W) (R := s0.B) rfl _ _ rfl rfl Oa2.out rfl Ob.out (by have := hlen0.out; omega) (Nat.le_trans Ba.out.size Bb.out.size) ?_; intro vo wo oo bo; have Oo := Lib.hid oo; have Bo := Lib.hid bo; obtain ⟨Ao, co, rfl⟩ := own_slice oo; clear oo bo)))
    have kB := Ba.out.trans ((Bb.out.mono Ba.out.size).trans Bo.out)
    obtain ⟨m, hm⟩ : ∃ m, m = s0.W.length + s0.B.length := ⟨_, rfl⟩
    rw [← hm]
    obtain ⟨O, hO⟩ : ∃ O, O = s0.W ++ s0.B := ⟨_, rfl⟩
    have hOm : O.length = m := by rw [hO, List.length_append, hm]
    have D0 := Lib.hid (show DK W y O (.slice Ao m co) s0 wo from by
      have hro := Oo.out
      rw [List.length_append, ← hm] at hro
      refine ⟨(H0.out.2.1.more kB).sub (fun j hj => ?_) fun j hj => .inl hj, ?_⟩
      · rcases hj with hj | hj
        · exact .inl hj
        · exact .inr (hro.lt j hj)
      · rw [hOm, hO]
        exact hro.mono (Nat.zero_le _))
    obtain ⟨t, ht⟩ : ∃ t, t = tickN s0.W s0.B s0.e s0.sw := ⟨_, rfl⟩
    have hT := Lib.hid (ticket_k D0.out.1 t ht.symm)
    have hg0 := H0.out.2.1.y.good
    have htl := tick_le (Wt := s0.W) (Bt := s0.B) (e := s0.e) (sw := s0.sw) hg0.2.2.2.2.2 hg0.2.2.2.1
    rw [← ht] at htl
    have hF := Lib.hid (show s0.e ≤ 40 ∧ Un O ∧ Qu.Good 256 O ∧ O = s0.W ++ s0.B ∧ t = tickN s0.W s0.B s0.e s0.sw ∧ (s0.sw = true → 1 ≤ s0.e) ∧ (s0.sw = false → s0.B = []) from ⟨H0.out.1, by rw [hO]; exact H0.out.2.2, by rw [hO]; exact hg0.1, hO, ht, hg0.2.2.2.2.2, hg0.2.2.2.1⟩)
    obtain ⟨n0, hn0⟩ : ∃ n0, n0 = endN s0.e s0.sw := ⟨_, rfl⟩
    have hn0' := Lib.hid hn0
    rw [← hn0] at htl
    have hOm' := Lib.hid hOm
    have htb : t ≤ 1000 := by
      have h1 := H0.out.1
      have : endN s0.e s0.sw ≤ s0.e := by unfold endN; split <;> omega
      omega
    clear kB Oa2 Ob Oa Oo Bo Ba Bb Ka hlen0 H0 hm hO ht hg0 hn0 hOm
    go_wp2_with fail
    refine hT.out.mono ?_
    rintro e1 wt ⟨rfl, kt, bt⟩
    have D1 := Lib.hid (D0.out.grow bt)
    clear kt bt hT D0
    go_upto_block 2 with (fail)
    go_cut [6, 10, 11, 12] from 44 to 77 (fun pv ev iv _ w' => ∃ (i ends : Nat) (s : QS), pv = .int .i64 i ∧ ev = .int .i64 ends ∧ iv = .int .i64 i ∧ i ≤ len2 ∧ i ≤ 40 ∧ n0 + ends ≤ t ∧ Hid (s.e ≤ 80 ∧ n0 + ends = endN s.e s.sw ∧ DInv s0 (frd Z i) s ∧ DK W y O (.slice Ao m co) s w'))
    case first =>
      go_wp2_with fail
      go_loopw [6, 10, 11, 12] (fun pv ev iv _ wr => ∃ (i ends : Nat) (s : QS), pv = .int .i64 i ∧ ev = .int .i64 ends ∧ iv = .int .i64 i ∧ i ≤ len2 ∧ i ≤ 40 ∧ n0 + ends ≤ t ∧ Hid (s.e ≤ 40 + i ∧ n0 + ends = endN s.e s.sw ∧ DInv s0 (frd Z i) s ∧ DK W y O (.slice Ao m co) s wr)) (fun _ _ iv _ _ => 41 - (intOf iv).toNat)
      case atStart => exact ⟨0, 0, s0, rfl, rfl, rfl, by omega, by omega, by omega, Lib.hid ⟨by have := hF.out.1; omega, hn0'.out, DInv.start (by rw [← hF.out.2.2.2.1]; exact hF.out.2.1) _, D1.out⟩⟩
      case round =>
        clear D1
        obtain ⟨i, ends, s, rfl, rfl, rfl, hil, hi40, hnt, HS⟩ := hrel
        by_cases hlt : i < len2 ∧ i < 40
        · have j1 : (i : Int) < (len2 : Int) := by omega
          have j2 : (i : Int) < 40 := by omega
          have hDn := Lib.hid (done_k HS.out.2.2.2.1 t (by omega) _ rfl)
          obtain ⟨dn, hdn⟩ : ∃ dn, dn = decide (t ≤ endN s.e s.sw) := ⟨_, rfl⟩
          rw [← hdn] at hDn
          have hdn' := Lib.hid hdn
          clear hdn
          cases dn
          · have hnd : ¬ t ≤ endN s.e s.sw := of_decide_eq_false hdn'.out.symm
            obtain ⟨bl, off, rfl, hx, _, hc⟩ := (hZ.out.grow HS.out.2.2.2.1.b) i hlt.1
            have hI := Lib.hid (HS.out.2.2.1.step (Q := frd Z (i + 1)) (Z i) (fun o ⟨j, h1, h2⟩ => ⟨j, by omega, h2⟩) (fun h => ⟨i, by omega, h, rfl⟩) HS.out.2.2.2.1.y.good.2.2.2.1)
            have hee := Lib.hid (stp_e (Z i) s)
            have hen := Lib.hid (endN_step (Z i) s HS.out.2.2.2.1.y.good.2.2.2.2.2)
            have hc' := Lib.hid (show bl < wr.heap.size ∧ wr.cell? ⟨bl, off + i, none⟩ = some (.int .u8 (Z i : Int)) from ⟨lt_of_cell' hc, hc⟩)
            have hsk := Lib.hid (fun w (D : DK W y O (.slice Ao m co) s w) => stepK D.1 (Z i) hx (by have := HS.out.1; omega))
            obtain ⟨s', hs'⟩ : ∃ s', s' = stp (Z i) s := ⟨_, rfl⟩
            rw [← hs'] at hI hee hen hsk
            obtain ⟨x, hx0⟩ : ∃ x, x = Z i := ⟨_, rfl⟩
            rw [← hx0] at hc' hx hsk
            have i0 : (0 : Int) ≤ i := by omega
            clear hs' hx0 hc
            go_wp2_with fail
            refine hDn.out.mono ?_
            rintro e1 w5 ⟨rfl, _, bb⟩
            have D5 := Lib.hid (HS.out.2.2.2.grow bb)
            have hc5 := Lib.hid (show bl < w5.heap.size ∧ w5.cell? ⟨bl, off + i, none⟩ = some (.int .u8 (x : Int)) from ⟨Nat.lt_of_lt_of_le hc'.out.1 bb.size, (bb.cell (p := ⟨bl, off + i, none⟩) hc'.out.1).trans hc'.out.2⟩)
            clear bb
            go_wp2_with fail
            refine (sweeping_k D5.out.1).mono ?_
            rintro e1 w6 ⟨rfl, _, bb⟩
            have D6 := Lib.hid (D5.out.grow bb)
            have c6 := (bb.cell (p := ⟨bl, off + i, none⟩) hc5.out.1).trans hc5.out.2
            clear bb
            go_wp2_with fail
            refine (hsk.out _ D6.out).mono ?_
            rintro e1 w7 ⟨rfl, kk, kp⟩
            have D7 := Lib.hid (D6.out.kp kk kp)
            clear kk kp c6
            obtain ⟨sw1, hsw1⟩ : ∃ sw1, sw1 = s.sw := ⟨_, rfl⟩
            rw [← hsw1] at hen ⊢
            have hsw1' := Lib.hid hsw1
            clear hsw1
            cases sw1
            · have hN := Lib.hid (show s'.e ≤ 40 + (i + 1) ∧ n0 + ends = endN s'.e s'.sw ∧ DInv s0 (frd Z (i + 1)) s' ∧ DK W y O (.slice Ao m co) s' w7 from ⟨by have := hee.out; have := HS.out.1; omega, by have h1 := hen.out; have h2 := HS.out.2.1; rw [← hsw1'.out] at h2; simp only [Bool.false_and, Bool.toNat_false, Nat.add_zero] at h1; omega, hI.out, D7.out⟩)
              go_wp2_with fail
              go_roundw
              case rel => exact ⟨i + 1, ends, s', by go_num, rfl, by go_num, by omega, by omega, by omega, hN⟩
              case measure => simp [intOf]; omega
            · go_wp2_with fail
              refine (sweeping_k D7.out.1).mono ?_
              rintro e1 w8 ⟨rfl, _, bb⟩
              have D8 := Lib.hid (D7.out.grow bb)
              clear bb
              obtain ⟨sw2, hsw2⟩ : ∃ sw2, sw2 = s'.sw := ⟨_, rfl⟩
              rw [← hsw2]
              have hsw2' := Lib.hid hsw2
              clear hsw2
              cases sw2
              · have hN := Lib.hid (show s'.e ≤ 40 + (i + 1) ∧ n0 + (ends + 1) = endN s'.e s'.sw ∧ DInv s0 (frd Z (i + 1)) s' ∧ DK W y O (.slice Ao m co) s' w8 from ⟨by have := hee.out; have := HS.out.1; omega, by have h1 := hen.out; have h2 := HS.out.2.1; rw [← hsw1'.out] at h2; rw [← hsw2'.out] at h1 ⊢; simp only [Bool.not_false, Bool.and_true, Bool.toNat_true] at h1; omega, hI.out, D8.out⟩)
                have hle : n0 + (ends + 1) ≤ t := by have := HS.out.2.1; omega
                go_wp2_with fail
                go_roundw
                case rel => exact ⟨i + 1, ends + 1, s', by go_num, by go_num, by go_num, by omega, by omega, hle, hN⟩
                case measure => simp [intOf]; omega
              · have hN := Lib.hid (show s'.e ≤ 40 + (i + 1) ∧ n0 + ends = endN s'.e s'.sw ∧ DInv s0 (frd Z (i + 1)) s' ∧ DK W y O (.slice Ao m co) s' w8 from ⟨by have := hee.out; have := HS.out.1; omega, by have h1 := hen.out; have h2 := HS.out.2.1; rw [← hsw1'.out] at h2; rw [← hsw2'.out] at h1 ⊢; simp only [Bool.not_true, Bool.and_false, Bool.toNat_false, Nat.add_zero] at h1; omega, hI.out, D8.out⟩)
                go_wp2_with fail
                go_roundw
                case rel => exact ⟨i + 1, ends, s', by go_num, rfl, by go_num, by omega, by omega, by omega, hN⟩
                case measure => simp [intOf]; omega
          · go_wp2_with fail
            refine hDn.out.mono ?_
            rintro e1 w5 ⟨rfl, _, bb⟩
            have hN := Lib.hid (show s.e ≤ 80 ∧ n0 + ends = endN s.e s.sw ∧ DInv s0 (frd Z i) s ∧ DK W y O (.slice Ao m co) s w5 from ⟨by have := HS.out.1; omega, HS.out.2.1, HS.out.2.2.1, HS.out.2.2.2.grow bb⟩)
            clear bb
            go_wp2_with fail
            go_meet
            exact ⟨i, ends, s, rfl, rfl, rfl, by omega, by omega, hnt, hN⟩
        · have hN := Lib.hid (show s.e ≤ 80 ∧ n0 + ends = endN s.e s.sw ∧ DInv s0 (frd Z i) s ∧ DK W y O (.slice Ao m co) s wr from ⟨by have := HS.out.1; omega, HS.out.2⟩)
          rcases (show ¬ (i : Int) < len2 ∨ ((i : Int) < len2 ∧ ¬ (i : Int) < 40) by omega) with j1 | ⟨j1, j2⟩
          all_goals
            go_wp2_with fail
            go_meet
            exact ⟨i, ends, s, rfl, rfl, rfl, by omega, by omega, hnt, hN⟩
    case rest =>
      obtain ⟨i, ends, s, rfl, rfl, rfl, hil, hi40, hnt, HS⟩ := hcut
      clear D1
      have hDn := Lib.hid (fun w (D : DK W y O (.slice Ao m co) s w) => done_k D.1 t (by omega) _ rfl)
      obtain ⟨dn, hdn⟩ : ∃ dn, dn = decide (t ≤ endN s.e s.sw) := ⟨_, rfl⟩
      rw [← hdn] at hDn
      have hdn' := Lib.hid hdn
      have hd2 : ends = 2 → dn = true := fun h => by rw [hdn]; exact decide_eq_true (by have := HS.out.2.1; omega)
      have hd0 : m = 0 → dn = true := fun h => by
        rw [hdn]
        refine decide_eq_true ?_
        have h1 : O = [] := List.length_eq_zero_iff.1 (by rw [hOm'.out]; exact h)
        have h2 := hF.out.2.2.2.1
        rw [h1] at h2
        have h3 := List.append_eq_nil_iff.1 h2.symm
        have h4 := hF.out.2.2.2.2.1
        rw [h3.1, h3.2, tick_none, ← hn0'.out] at h4
        have := HS.out.2.1
        omega
      have he2 : ends ≤ 2 := by omega
      have hg2 : ¬ (2 : Int) < ends := by omega
      clear hdn
      cases dn
      · have hne2 : ¬ ends = 2 := fun h => Bool.noConfusion (hd2 h)
        have hnm : ¬ m = 0 := fun h => Bool.noConfusion (hd0 h)
        have hne2i : ((ends : Int) == 2) = false := by simp; omega
        have hnmi : ((m : Int) == 0) = false := by simp; omega
        have hq1 : ¬ (ends : Int) = 2 := by omega
        have hq2 : ¬ (m : Int) = 0 := by omega
        clear hd2 hd0
        go_wp2_with fail
        refine (hDn.out _ HS.out.2.2.2).mono ?_
        rintro e1 w5 ⟨rfl, kk, _⟩
        have hE := Lib.hid kk.b
        clear kk
        go_wp2_with fail
        go_ret
        exact ⟨rfl, hE.out⟩
      · clear hd2 hd0
        go_upto_region 21 with (fail)
        have D0 := Lib.hid HS.out.2.2.2
        go_cut [100] from 78 to 100 (fun c w' => c = .bool false ∧ Hid (DK W y O (.slice Ao m co) s w'))
        case first =>
          by_cases h2 : ends = 2
          · subst h2
            by_cases hm0 : m = 0
            · subst hm0
              go_wp2_with fail
              refine (hDn.out _ D0.out).mono ?_
              rintro e1 w5 ⟨rfl, _, bb⟩
              have D1 := Lib.hid (D0.out.grow bb)
              clear bb
              go_wp2_with fail
              refine (hDn.out _ D1.out).mono ?_
              rintro e1 w6 ⟨rfl, _, bb⟩
              have D2 := Lib.hid (D1.out.grow bb)
              clear bb
              go_wp2_with fail
              go_meet
              exact ⟨rfl, D2⟩
            · have hq2 : ¬ (m : Int) = 0 := by omega
              have hnmi : ((m : Int) == 0) = false := by simp; omega
              go_wp2_with fail
              refine (hDn.out _ D0.out).mono ?_
              rintro e1 w5 ⟨rfl, _, bb⟩
              have D1 := Lib.hid (D0.out.grow bb)
              clear bb
              go_wp2_with fail
              go_meet
              exact ⟨rfl, D1⟩
          · have hne2i : ((ends : Int) == 2) = false := by simp; omega
            have hq1 : ¬ (ends : Int) = 2 := by omega
            by_cases hm0 : m = 0
            · subst hm0
              go_wp2_with fail
              refine (hDn.out _ D0.out).mono ?_
              rintro e1 w5 ⟨rfl, _, bb⟩
              have D1 := Lib.hid (D0.out.grow bb)
              clear bb
              go_wp2_with fail
              go_meet
              exact ⟨rfl, D1⟩
            · have hq2 : ¬ (m : Int) = 0 := by omega
              have hnmi : ((m : Int) == 0) = false := by simp; omega
              go_wp2_with fail
              go_meet
              exact ⟨rfl, D0⟩
        case rest =>
          obtain ⟨rfl, D1⟩ := hcut
          clear D0
          go_wp2_with fail
          refine (hDn.out _ D1.out).mono ?_
          rintro e1 w5 ⟨rfl, _, bb⟩
          have D5 := Lib.hid (D1.out.grow bb)
          clear bb
          have hlen5 := Lib.hid (show s.W.length + s.B.length ≤ 256 from by
            have := D5.out.1.y.good.1.length
            rwa [List.length_append] at this)
          go_wp2_with fail
          refine (waiting_k D5.out.1).mono ?_
          rintro e1 wa ⟨va, rfl, oa, ka, ba, _⟩
          have Ka := Lib.hid ka
          have Ba := Lib.hid ba
          have Oa := Lib.hid oa
          obtain ⟨Aa, ca, rfl⟩ := own_slice oa
          clear ka ba oa
          go_wp2_with (first
            | (go_at_call 26; refine (batch_k Ka.out).mono ?_; rintro e1 wb ⟨vb, rfl, ob, kb, bb, _⟩; have Ob := Lib.hid ob; have Bb := Lib.hid bb; have Oa2 := Lib.hid (own_grow Oa.out bb); obtain ⟨Ab, cb, rfl⟩ := own_slice ob; clear ob kb bb)
            | (at_builtin; (refine append_both (L := s.W) (R := s.B) rfl _ _ rfl rfl Oa2.out rfl Ob.out (by have := hlen5.out; omega) (Nat.le_trans Ba.out.size Bb.out.size) ?_; intro vo wo oo bo; have Oo := Lib.hid oo; have Bo := Lib.hid bo; obtain ⟨An, cn, rfl⟩ := own_slice oo; clear oo bo)))
          have kB := Ba.out.trans ((Bb.out.mono Ba.out.size).trans Bo.out)
          obtain ⟨mn, hmn⟩ : ∃ mn, mn = s.W.length + s.B.length := ⟨_, rfl⟩
          try rw [← hmn]
          obtain ⟨N, hN⟩ : ∃ N, N = s.W ++ s.B := ⟨_, rfl⟩
          have hNm : N.length = mn := by rw [hN, List.length_append, hmn]
          have E0 := Lib.hid (show EK W y O (.slice Ao m co) N (.slice An mn cn) s wo from by
            have hro := Oo.out
            rw [List.length_append, ← hmn] at hro
            refine ⟨(D5.out.1.more kB).sub (fun j hj => ?_) fun j hj => .inl hj, own_grow D5.out.2 (kB), ?_⟩
            · rcases hj with hj | hj | hj
              · exact .inl (.inl hj)
              · exact .inl (.inr hj)
              · exact .inr (hro.lt j hj)
            · rw [hNm, hN]
              exact hro.mono (Nat.zero_le _))
          have hFr := Lib.hid (show ∀ o ∈ N, frd Z i o from by
            rw [hN]
            have hg := D5.out.1.y.good
            refine HS.out.2.2.1.done hF.out.2.2.2.2.2.1 hF.out.2.2.2.2.2.2 hg.2.2.2.1 hg.2.2.2.2.2 ?_
            rw [← hF.out.2.2.2.2.1]
            exact of_decide_eq_true hdn'.out.symm)
          have hU := Lib.hid (show Un (s.W ++ s.B) from HS.out.2.2.1.u)
          have hNm' := Lib.hid hNm
          have hN' := Lib.hid hN
          have hml : m ≤ 256 := by have := hF.out.2.2.1.length; have := hOm'.out; omega
          have hmnl : mn ≤ 256 := by have := hlen5.out; omega
          clear kB Oa2 Ob Oa Oo Bo Ba Bb Ka hlen5 D5 D1 hNm hN hmn HS
          go_loopw [14, 15, 16] (fun jv _ _ wr => ∃ (j : Nat) (Wj : List Rg), jv = .int .i64 j ∧ j ≤ m ∧ Hid (EK W y O (.slice Ao m co) N (.slice An mn cn) ⟨Wj, s.B, s.e, s.sw⟩ wr ∧ Un (Wj ++ s.B) ∧ ∀ o ∈ Wj ++ s.B, o ∈ N ∨ o ∈ O.take j)) (fun jv _ _ _ => m - (intOf jv).toNat)
          case atStart => exact ⟨0, s.W, rfl, by omega, Lib.hid ⟨E0.out, hU.out, fun o ho => .inl (by rw [hN'.out]; exact ho)⟩⟩
          case round =>
            clear E0
            obtain ⟨j, Wj, rfl, hj, HS⟩ := hrel
            by_cases hjm : j < m
            · have hjm2 : (j : Int) < m := by omega
              have hjO : j < O.length := by rw [hOm'.out]; exact hjm
              obtain ⟨go, rfl, hgo, _, k0, k1⟩ := own_at HS.out.1.2.1 j hjO
              have hnb := Lib.hid (not_before hF.out.2.2.1 hjO)
              have htk := Lib.hid (List.take_succ_eq_append_getElem hjO)
              have hoU := hF.out.2.1 O[j] (List.getElem_mem hjO)
              obtain ⟨o, ho⟩ : ∃ o, o = O[j] := ⟨_, rfl⟩
              rw [← ho] at k0 k1 hnb htk hoU
              obtain ⟨x, hx, rfl⟩ := hoU
              obtain ⟨a, ha⟩ : ∃ a, a = 16 * x := ⟨_, rfl⟩
              obtain ⟨z16, hz16⟩ : ∃ z16 : Nat, z16 = 16 := ⟨_, rfl⟩
              rw [← ha, ← hz16] at hnb htk
              dsimp only at k0 k1
              rw [← ha] at k0
              rw [← hz16] at k1
              have ha' := Lib.hid ha
              have hz' := Lib.hid hz16
              have j0 : (0 : Int) ≤ j := by omega
              have hks := Lib.hid (show go < wr.heap.size ∧ wr.cell? ⟨go, j * 2, none⟩ = some (.int .u32 (a : Int)) ∧ wr.cell? ⟨go, j * 2 + 1, none⟩ = some (.int .u32 (z16 : Int)) from ⟨hgo, k0, k1⟩)
              clear ho ha hz16 k0 k1 hgo hjO
              generalize wr = w9 at *
              go_wp2_with fail
              go_loopw [15, 16] (fun av nv wr => ∃ n : Nat, n ≤ mn ∧ nv = .int .i64 n ∧ av = .bool (decide ((a, z16) ∈ N.take n)) ∧ Hid (Below w9.heap.size w9 wr)) (fun _ nv _ => mn - (intOf nv).toNat)
              case atStart => exact ⟨0, by omega, rfl, by simp, Lib.hid (Below.refl _ _)⟩
              case round =>
                obtain ⟨n, hn, rfl, rfl, hB⟩ := hrel
                have hE9 := Lib.hid (HS.out.1.grow hB.out)
                obtain ⟨S, hS0⟩ : ∃ S, S = fun w' => Below wr.heap.size wr w' := ⟨_, rfl⟩
                have hKS : ∀ w', S w' → Below wr.heap.size wr w' := fun w' h => by rw [hS0] at h; exact h
                have h4 : S wr.drew := by rw [hS0]; exact (Below.refl _ _).drew
                have b0 : ∀ z : Wd S, z.w.cell? ⟨go, j * 2, none⟩ = some (.int .u32 (a : Int)) := fun z => ((hB.out.trans ((hKS _ z.h).mono hB.out.size)).cell (p := ⟨go, j * 2, none⟩) hks.out.1).trans hks.out.2.1
                have b1 : ∀ z : Wd S, z.w.cell? ⟨go, j * 2 + 1, none⟩ = some (.int .u32 (z16 : Int)) := fun z => ((hB.out.trans ((hKS _ z.h).mono hB.out.size)).cell (p := ⟨go, j * 2 + 1, none⟩) hks.out.1).trans hks.out.2.2
                have hKK := Lib.hid hKS
                by_cases hnm : n < mn
                · have hnm2 : (n : Int) < mn := by omega
                  have n0 : (0 : Int) ≤ n := by omega
                  have hnN : n < N.length := by rw [hNm'.out]; exact hnm
                  obtain ⟨gn, rfl, hgn, _, q0, q1⟩ := own_at hE9.out.2.2 n hnN
                  have htn := Lib.hid (List.take_succ_eq_append_getElem hnN)
                  obtain ⟨c, hc⟩ : ∃ c, c = N[n] := ⟨_, rfl⟩
                  rw [← hc] at q0 q1 htn
                  obtain ⟨c1, c2⟩ := c
                  dsimp only at q0 q1
                  have b2 : ∀ z : Wd S, z.w.cell? ⟨gn, n * 2, none⟩ = some (.int .u32 (c1 : Int)) := fun z => ((hKS _ z.h).cell (p := ⟨gn, n * 2, none⟩) hgn).trans q0
                  have b3 : ∀ z : Wd S, z.w.cell? ⟨gn, n * 2 + 1, none⟩ = some (.int .u32 (c2 : Int)) := fun z => ((hKS _ z.h).cell (p := ⟨gn, n * 2 + 1, none⟩) hgn).trans q1
                  have hEq := fun w => rg_eq (c1, c2) (a, z16) (decide (((c1, c2) : Rg) = (a, z16))) rfl w
                  obtain ⟨V, hV⟩ : ∃ V, V = decide (((c1, c2) : Rg) = (a, z16)) := ⟨_, rfl⟩
                  rw [← hV] at hEq
                  dsimp only at hEq
                  obtain ⟨U, hU2⟩ : ∃ U, U = decide ((a, z16) ∈ N.take n) := ⟨_, rfl⟩
                  have hNx := Lib.hid (show decide ((a, z16) ∈ N.take (n + 1)) = (U || V) from by
                    rw [hU2, hV, htn.out, ← Bool.decide_or, decide_eq_decide, List.mem_append, List.mem_singleton]
                    exact ⟨fun h => h.imp id Eq.symm, fun h => h.imp id Eq.symm⟩)
                  rw [← hU2]
                  clear hS0 hKS q0 q1 hgn hc hV hU2 hnN
                  cases U <;> cases V
                  all_goals
                    go_wp2_with fail
                    refine region_cls S (by kernel_rfl) (by kernel_rfl) h4 ?_
                    repeat (first
                      | go_big_quiet_skip
                      | (go_big_quiet_want
                         go_big_quiet_op
                         first
                         | go_big_quiet_on
                         | (apply Exists.intro
                            refine ⟨fun y => ?_, ?_⟩
                            · first | exact rfl
                            go_big_quiet_on)))
                    refine wpQuiet_nil ?_
                    intro z
                    have hE := Lib.hid (hB.out.trans ((hKK.out _ z.h).mono hB.out.size))
                    go_wp2_with fail
                    go_roundw
                    case rel => exact ⟨n + 1, by omega, by go_num, by rw [hNx.out]; rfl, hE⟩
                    case measure => simp [intOf]; omega
                · obtain rfl : n = mn := by omega
                  have hnm2 : ¬ (n : Int) < (n : Int) := by omega
                  rw [show N.take n = N by rw [← hNm'.out]; exact List.take_length]
                  by_cases hin : (a, z16) ∈ N
                  · rw [decide_eq_true hin]
                    have hfr := hFr.out _ hin
                    have hnext := Lib.hid (show ∀ w', S w' → EK W y O (.slice (some ⟨go, 0, none⟩) m co) N (.slice An n cn) ⟨Wj, s.B, s.e, s.sw⟩ w' ∧ Un (Wj ++ s.B) ∧ ∀ o ∈ Wj ++ s.B, o ∈ N ∨ o ∈ O.take (j + 1) from fun w' hw => ⟨hE9.out.grow (hKS _ hw), HS.out.2.1, fun o ho => (HS.out.2.2 o ho).imp id fun h => by rw [htk.out]; exact List.mem_append_left _ h⟩)
                    obtain ⟨j', hj', hx', hr'⟩ := hfr
                    obtain ⟨bl, off, hA2, _⟩ := hZ.out j' (by omega)
                    subst hA2
                    have hi2 : i ≤ cap2 := by omega
                    have cF := Lib.hid (show ∀ z : Wd S, Calls Try.prog 30 #[.slice (some ⟨bl, off, none⟩) i cap2, .agg #[.int .u32 (a : Int), .int .u32 (z16 : Int)]] z.w fun e w' => e = .returned (.bool true) ∧ ∃ z' : Wd S, w' = z'.w from
                      cls_call (fun w' hw => (freed_yes ((hZ.out.less hil).grow (hE9.out.1.b.trans ((hKS _ hw).mono hE9.out.1.b.size))) (by omega) (a, z16) ⟨j', hj', hx', hr'⟩).mono fun e w2 k => ⟨k.1, by rw [hS0]; exact (hKS _ hw).trans (k.2.mono (hKS _ hw).size)⟩))
                    clear hS0 hKS hr' hx' hj'
                    go_upto_region 35 with (fail)
                    refine region_cls S (by kernel_rfl) (by kernel_rfl) h4 ?_
                    repeat (first
                      | go_big_quiet_skip
                      | (go_big_quiet_want
                         go_big_quiet_op
                         first
                         | go_big_quiet_on
                         | (apply Exists.intro
                            refine ⟨fun y => ?_, ?_⟩
                            · first | exact rfl | with_reducible exact cF.out y
                            go_big_quiet_on)))
                    refine wpQuiet_nil ?_
                    intro z
                    have hE := Lib.hid (hnext.out _ z.h)
                    go_wp2_with fail
                    go_roundw
                    case rel => exact ⟨j + 1, Wj, by go_num, by omega, hE⟩
                    case measure => simp [intOf]; omega
                  · rw [decide_eq_false hin]
                    have hao : (a, z16) = (16 * x, 16) := by rw [ha'.out, hz'.out]
                    have hnotin : (a, z16) ∉ Wj ++ s.B := fun h => (HS.out.2.2 _ h).elim hin hnb.out
                    have hok := Lib.hid (show okF 256 (Wj ++ s.B) (a, z16) = true from by rw [hao] at hnotin ⊢; exact okF_unit HS.out.2.1 hx hnotin)
                    have hfree := Lib.hid (fun z : Wd S => (free_k (QK.grow hE9.out.1 (hKS _ z.h)) a z16 (by have := ha'.out; omega) (by have := hz'.out; omega) true hok.out (Wt' := insR (a, z16) Wj) rfl).mono fun e1 w' h => show e1 = .returned (.bool true) ∧ EK W y O (.slice (some ⟨go, 0, none⟩) m co) N (.slice An n cn) ⟨insR (a, z16) Wj, s.B, s.e, s.sw⟩ w' from ⟨h.1, (hE9.out.grow (hKS _ z.h)).kp h.2.1 h.2.2⟩)
                    have hUn := Lib.hid (show Un (insR (a, z16) Wj ++ s.B) ∧ ∀ o ∈ insR (a, z16) Wj ++ s.B, o ∈ N ∨ o ∈ O.take (j + 1) from by
                      have hmem : ∀ o ∈ insR (a, z16) Wj ++ s.B, o = (a, z16) ∨ o ∈ Wj ++ s.B := fun o ho => by
                        rcases List.mem_append.1 ho with h | h
                        · rcases (insR_mem _ _ _).1 h with h | h
                          · exact .inl h
                          · exact .inr (List.mem_append_left _ h)
                        · exact .inr (List.mem_append_right _ h)
                      refine ⟨fun o ho => ?_, fun o ho => ?_⟩
                      · rcases hmem o ho with rfl | h
                        · exact ⟨x, hx, hao⟩
                        · exact HS.out.2.1 o h
                      · rcases hmem o ho with rfl | h
                        · exact .inr (by rw [htk.out]; exact List.mem_append_right _ (List.mem_singleton.2 rfl))
                        · exact (HS.out.2.2 o h).imp id fun h => by rw [htk.out]; exact List.mem_append_left _ h)
                    clear hS0 hKS hnotin hao
                    go_upto_region 35 with (fail)
                    refine region_cls_tail S 21 (by kernel_rfl) (by kernel_rfl) h4 ?_
                    simp only [List.take_succ_cons, List.take_zero, List.drop_succ_cons, List.drop_zero]
                    repeat (first
                      | go_big_quiet_skip
                      | (go_big_quiet_want
                         go_big_quiet_op
                         first
                         | go_big_quiet_on
                         | (apply Exists.intro
                            refine ⟨fun y => ?_, ?_⟩
                            · first | exact rfl
                            go_big_quiet_on)))
                    refine wpQuiet_nil ?_
                    intro z
                    have hfz := Lib.hid (hfree.out z)
                    clear b0 b1 h4 hKK hfree
                    go_wp2_with (go_at_call 9; refine hfz.out.mono ?_; rintro e1 w7 ⟨rfl, hq⟩; have hE := Lib.hid (And.intro hq hUn.out); clear hq)
                    go_roundw
                    case rel => exact ⟨j + 1, insR (a, z16) Wj, by go_num, by omega, hE⟩
                    case measure => simp [intOf]; omega
            · have hE := Lib.hid HS.out.1.1.b
              clear HS
              have j1 : ¬ (j : Int) < m := by omega
              go_wp2_with fail
              go_ret
              exact ⟨rfl, hE.out⟩
theorem own : ownKnob Try.prog.godebug = none := by kernel_rfl
theorem laidOut : laidOutB Try.prog = true := by kernel_rfl
set_option maxRecDepth 100000 in
theorem lifted (os : Os) (started : os.Started) (H : Type) (enc : TypeId × Value → H) :
    ReturnsInHanded {} Try.checked os 5 .any (Rows.quarantineDrainsSpec.pre6 enc Try.prog Try.f5 Rows.quarantineDrainsRow.domain false) (Rows.quarantineDrainsSpec.post enc Try.prog Try.f5 false true false false) := by
  refine returnsInHanded_of_change (C := Try.checked) own started (by kernel_rfl) Try.func5
    (ChangeSpec.witness6 (enc := enc) (C := Try.checked) false ⟨#[], #[.slice none 0 0, .slice none 0 0], []⟩ 8 (by kernel_rfl) (by kernel_rfl) (by kernel_rfl) (by kernel_rfl)) ?_
  intro W base args ds gs before hval0 hW hcnd hsz
  have hval : ∀ (j : Nat) t v, Try.f5.params[j]? = some t → args[j]? = some v → Value.okWide Try.prog W .any base t v := hval0
  have hW' := hW
  obtain ⟨p, q, hA0, hV, rfl, hfz, hnd⟩ := hW
  have hA : DataW.TrodAll enc Try.prog W 0 (fun _ => true) true Try.f5.params.toList args.toList ds p := hA0
  rw [Try.params5] at hA hval
  obtain ⟨v0, vs0, d0, ds0, p0, q0, hargs, rfl, rfl, h0, r0⟩ := trodAll_cons hA
  obtain ⟨v1, vs1, d1, ds1, p1, q1, rfl, rfl, rfl, h1, r1⟩ := trodAll_cons r0
  obtain ⟨rfl, rfl, rfl⟩ := trodAll_nil r1
  obtain rfl : args = #[v0, v1] := by cases args; simp_all
  obtain ⟨rfl, rfl⟩ := trodVars_none hV
  have k0 := h0
  have lt0 : ∀ x ∈ p0, x.block < W.heap.size := by obtain ⟨m, hm⟩ := k0; exact DataW.trod_lt m _ _ _ hm
  have k1 := h1
  have lt1 : ∀ x ∈ p1, x.block < W.heap.size := by obtain ⟨m, hm⟩ := k1; exact DataW.trod_lt m _ _ _ hm
  clear hA0 hval0
  refine (walk v0 v1 W (hval 0 54 v0 rfl rfl) k0 (hval 1 54 v1 rfl rfl) k1).mono fun e W' ⟨he, bel⟩ => ?_
  subst he
  exact ⟨_, rfl, _, _, _, [], _, [], hW', trodAll_mk1 (shut_bool Try.underlying4 _), (trodAll_cons_mk (Below.trod laidOut (by kernel_rfl) (of_decide_eq_true (by kernel_rfl)) k0 bel lt0) (trodAll_cons_mk (Below.trod laidOut (by kernel_rfl) (of_decide_eq_true (by kernel_rfl)) k1 bel lt1) trodAll_mk0)), rfl, bel.frame _, fun h => by cases h⟩
theorem over : Rows.quarantineDrainsRow.holds Try.pinned (OpenSpec.ofChange Rows.quarantineDrainsSpec) :=
  OpenClaim.holds_of_wide 5 Try.f5 rfl rfl rfl rfl rfl rfl rfl ⟨rfl, rfl, rfl, rfl, rfl⟩ rfl rfl rfl rfl rfl (by kernel_rfl) Try.func5 (by kernel_rfl)
    (of_decide_eq_true (by kernel_rfl)) (by unfold Func.isWrapper; first | (rw [if_pos (by decide +kernel)]; kernel_rfl) | (rw [if_neg (by decide +kernel)]; exact ⟨rfl, rfl⟩))
    (fun os started H enc _ => lifted os started H enc)
/-- The given statement. -/
theorem proved : Rows.QuarantineDrainsSaid := over
end Go.Proofs.Ytmfipabbdhfmcaa.qdrain
