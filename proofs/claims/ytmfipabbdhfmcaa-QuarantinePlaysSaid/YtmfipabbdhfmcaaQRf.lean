/- The law's own comparison of a yard with the document's: same. No statement is proved here. -/
import Derived.Test.YtmfipabbdhfmcaaQRe
import Derived.Deep.RegionHeld
namespace Go.Proofs.Ytmfipabbdhfmcaa.Qu
set_option maxRecDepth 100000
open Go.RowKit Go.Shelf
set_option linter.unusedVariables false
section
variable {w w' W : World} {q e n m base x z y : Nat} {L R M Wt Bt : List Rg} {v lv rv wl bl : Value} {r : Rg} {A A2 : Option Addr} {c c2 : Nat} {sw : Bool} {u : Nat → Value} {D : Nat → Prop} {b : Int}
/-- What has come of a world. -/
def SX (w w' : World) : Prop := Below w.heap.size w w'
set_option maxHeartbeats 16000000 in
theorem same_any (K : QK W D y n Wt Bt e sw w) (hW : w.ownsRow 0 33 2 (.slice A x c) Wt.length (Wt.flatMap rgC)) (hB : w.ownsRow 0 33 2 (.slice A2 z c2) Bt.length (Bt.flatMap rgC)) (he : e ≤ 1000000) :
    Calls Try.prog 17 #[.pointer (some ⟨y, 0, none⟩), dyV b (.slice A x c) (.slice A2 z c2) e sw] w fun e1 w' => e1 = .returned (.bool true) ∧ Below w.heap.size w w' := by
  have hx : x = Wt.length := by
    obtain ⟨A', c', e'⟩ := own_slice hW
    injection e'
  have hz : z = Bt.length := by
    obtain ⟨A', c', e'⟩ := own_slice hB
    injection e'
  obtain ⟨Y1, B1⟩ := box1 w b (.slice A x c) (.slice A2 z c2) e sw
  obtain ⟨w1, hw1⟩ : ∃ w1, w1 = w.alloc (.cells #[.int .i64 b, .slice A x c, .slice A2 z c2, .int .u64 (e : Int), .bool sw] 28) := ⟨_, rfl⟩
  rw [← hw1] at Y1 B1
  have hw' := Lib.hid hw1
  have hB1 := Lib.hid B1
  have hY1 := Lib.hid Y1
  have hg := K.y.good
  have hln : Wt.length + Bt.length ≤ 16384 := by
    have := hg.1.length
    rw [List.length_append] at this
    have := hg.2.2.2.2.1
    omega
  obtain ⟨t, ht⟩ : ∃ t, t = tickN Wt Bt e sw := ⟨_, rfl⟩
  have htb : t ≤ 1000001 := by
    rw [ht]
    unfold tickN endN
    repeat' split
    all_goals omega
  have hT := Lib.hid (show Calls Try.prog 43 #[dyV b (.slice A x c) (.slice A2 z c2) e sw] w1 fun e1 w' => e1 = .returned (.int .u64 (t : Int)) ∧ Below w1.heap.size w1 w' from by
    have := rticket (A := A) (x := x) (c := c) (A2 := A2) (z := z) (c2 := c2) b e sw he hg.2.2.2.2.2 w1
    rw [show tickL x z e sw = t from by rw [ht, hx, hz]; rfl] at this
    exact this)
  obtain ⟨d1, hd1⟩ : ∃ d1, d1 = decide (t ≤ endN e sw) := ⟨_, rfl⟩
  obtain ⟨d2, hd2⟩ : ∃ d2, d2 = decide (e ≤ endN e sw) := ⟨_, rfl⟩
  have cW := Lib.hid (fun w' (k : SX w w') => waiting_k (K.grow k))
  have cB := Lib.hid (fun w' (k : SX w w') => batch_k (K.grow k))
  have cE := Lib.hid (fun w' (k : SX w w') => epoch_k (K.grow k))
  have cS := Lib.hid (fun w' (k : SX w w') => sweeping_k (K.grow k))
  have cT := Lib.hid (fun w' (k : SX w w') => ticket_k (K.grow k) t ht.symm)
  have cD1 := Lib.hid (fun w' (k : SX w w') => done_k (K.grow k) t htb d1 hd1.symm)
  have cD2 := Lib.hid (fun w' (k : SX w w') => done_k (K.grow k) e (by omega) d2 hd2.symm)
  have cR1 := Lib.hid (fun w' => show Calls Try.prog 44 #[dyV b (.slice A x c) (.slice A2 z c2) e sw, .int .u64 (t : Int)] w' fun e1 w2 => e1 = .returned (.bool d1) ∧ Below w'.heap.size w' w2 from by rw [hd1]; exact rdone b e sw he hg.2.2.2.2.2 t w')
  have cR2 := Lib.hid (fun w' => show Calls Try.prog 44 #[dyV b (.slice A x c) (.slice A2 z c2) e sw, .int .u64 (e : Int)] w' fun e1 w2 => e1 = .returned (.bool d2) ∧ Below w'.heap.size w' w2 from by rw [hd2]; exact rdone b e sw he hg.2.2.2.2.2 e w')
  have cQ1 := Lib.hid (fun w' v (k : SX w w') (base : Nat) (o : w'.ownsRow base 33 2 v Wt.length (Wt.flatMap rgC)) => show Calls Try.prog 15 #[v, .slice A x c] w' fun e1 w2 => e1 = .returned (.bool true) ∧ Below w'.heap.size w' w2 from by
    have := rSame (gr_of o) (gr_of (own_grow hW k)) (by omega) (by omega)
    rwa [decide_eq_true rfl] at this)
  have cQ2 := Lib.hid (fun w' v (k : SX w w') (base : Nat) (o : w'.ownsRow base 33 2 v Bt.length (Bt.flatMap rgC)) => show Calls Try.prog 15 #[v, .slice A2 z c2] w' fun e1 w2 => e1 = .returned (.bool true) ∧ Below w'.heap.size w' w2 from by
    have := rSame (gr_of o) (gr_of (own_grow hB k)) (by omega) (by omega)
    rwa [decide_eq_true rfl] at this)
  have all := Lib.hid (show ∀ w', Below w1.heap.size w1 w' → w'.cell? ⟨w.heap.size, 0, none⟩ = some (.int .i64 b) ∧ w'.cell? ⟨w.heap.size, 1, none⟩ = some (.slice A x c) ∧ w'.cell? ⟨w.heap.size, 2, none⟩ = some (.slice A2 z c2) ∧ w'.cell? ⟨w.heap.size, 3, none⟩ = some (.int .u64 (e : Int)) ∧ w'.cell? ⟨w.heap.size, 4, none⟩ = some (.bool sw) ∧ SX w w' from fun w' h =>
    ⟨(hY1.out.grow h 0).1 (by omega), (hY1.out.grow h 1).1 (by omega), (hY1.out.grow h 2).1 (by omega), (hY1.out.grow h 3).1 (by omega), (hY1.out.grow h 4).1 (by omega), hB1.out.trans (h.mono hB1.out.size)⟩)
  have sx := Lib.hid (show ∀ w', SX w w' → Below w.heap.size w w' from fun _ h => h)
  have c0 := (Y1 0).1 (by omega)
  have c1 := (Y1 1).1 (by omega)
  have c2' := (Y1 2).1 (by omega)
  have c3 := (Y1 3).1 (by omega)
  have c4 := (Y1 4).1 (by omega)
  simp only [dyU] at c0 c1 c2' c3 c4
  unfold dyV at hT cR1 cR2 ⊢
  clear Y1 B1 hw1 K hW hB hg hx hz ht hd1 hd2 hln he htb
  go_enter Try.func17, Try.ntmps17
  go_upto_region 1 with (fail)
  rw [← hw'.out]
  clear hw'
  go_wp2_with fail
  refine hT.out.mono ?_
  rintro e1 w2 ⟨rfl, k2⟩
  clear c0 c1 c2' c3 c4
  have B2 := Lib.hid k2
  have j0 := all.out _ (k2.trans (((Below.refl w2.heap.size w2).drew).mono k2.size))
  have b0 := Lib.hid (k2.trans (((Below.refl w2.heap.size w2).drew).mono k2.size))
  clear k2 hT
  go_upto_region 2 with (fail)
  go_region_held (fun w' => w'.cell? ⟨w.heap.size, 0, none⟩ = some (.int .i64 b) ∧ w'.cell? ⟨w.heap.size, 1, none⟩ = some (.slice A x c) ∧ w'.cell? ⟨w.heap.size, 2, none⟩ = some (.slice A2 z c2) ∧ w'.cell? ⟨w.heap.size, 3, none⟩ = some (.int .u64 (e : Int)) ∧ w'.cell? ⟨w.heap.size, 4, none⟩ = some (.bool sw) ∧ SX w w')
    (first | with_reducible exact j0 | with_reducible exact j1 | with_reducible exact j2 | with_reducible exact j3 | with_reducible exact j4 | with_reducible exact j5 | with_reducible exact j6 | with_reducible exact j7 | with_reducible exact j8 | with_reducible exact j9 | with_reducible exact ja | with_reducible exact jb)
    (first
      | (go_at_call 25; ((with_reducible refine (cW.out _ j0.2.2.2.2.2).mono ?_); rintro ee X1 ⟨v1, rfl, o1, -, g1, -⟩; have b1 := Lib.hid (b0.out.trans (g1.mono b0.out.size)); have j1 := all.out _ b1.out; have O1 := Lib.hid o1; obtain ⟨A3, cp3, rfl⟩ := own_slice o1; clear o1 g1))
      | (go_at_call 15; ((with_reducible refine (cQ1.out _ _ j1.2.2.2.2.2 _ O1.out).mono ?_); rintro ee X2 ⟨rfl, g1⟩; have b2 := Lib.hid (b1.out.trans (g1.mono b1.out.size)); have j2 := all.out _ b2.out; clear g1))
      | (go_at_call 26; ((with_reducible refine (cB.out _ j2.2.2.2.2.2).mono ?_); rintro ee X3 ⟨v2, rfl, o1, -, g1, -⟩; have b3 := Lib.hid (b2.out.trans (g1.mono b2.out.size)); have j3 := all.out _ b3.out; have O2 := Lib.hid o1; obtain ⟨A4, cp4, rfl⟩ := own_slice o1; clear o1 g1))
      | (go_at_call 15; ((with_reducible refine (cQ2.out _ _ j3.2.2.2.2.2 _ O2.out).mono ?_); rintro ee X4 ⟨rfl, g1⟩; have b4 := Lib.hid (b3.out.trans (g1.mono b3.out.size)); have j4 := all.out _ b4.out; clear g1))
      | (go_at_call 32; ((with_reducible refine (cE.out _ j4.2.2.2.2.2).mono ?_); rintro ee X5 ⟨rfl, -, g1⟩; have b5 := Lib.hid (b4.out.trans (g1.mono b4.out.size)); have j5 := all.out _ b5.out; clear g1))
      | (go_at_call 29; ((with_reducible refine (cS.out _ j5.2.2.2.2.2).mono ?_); rintro ee X6 ⟨rfl, -, g1⟩; have b6 := Lib.hid (b5.out.trans (g1.mono b5.out.size)); have j6 := all.out _ b6.out; clear g1))
      | (go_at_call 27; ((with_reducible refine (cT.out _ j6.2.2.2.2.2).mono ?_); rintro ee X7 ⟨rfl, -, g1⟩; have b7 := Lib.hid (b6.out.trans (g1.mono b6.out.size)); have j7 := all.out _ b7.out; clear g1))
      | (go_at_call 28; ((with_reducible refine (cD1.out _ j7.2.2.2.2.2).mono ?_); rintro ee X8 ⟨rfl, -, g1⟩; have b8 := Lib.hid (b7.out.trans (g1.mono b7.out.size)); have j8 := all.out _ b8.out; clear g1))
      | (go_at_call 44; ((with_reducible refine (cR1.out X8).mono ?_); rintro ee X9 ⟨rfl, g1⟩; have b9 := Lib.hid (b8.out.trans (g1.mono b8.out.size)); have j9 := all.out _ b9.out; clear g1))
      | (go_at_call 28; ((with_reducible refine (cD2.out _ j9.2.2.2.2.2).mono ?_); rintro ee Xa ⟨rfl, -, g1⟩; have ba := Lib.hid (b9.out.trans (g1.mono b9.out.size)); have ja := all.out _ ba.out; clear g1))
      | (go_at_call 44; ((with_reducible refine (cR2.out Xa).mono ?_); rintro ee Xb ⟨rfl, g1⟩; have bb := Lib.hid (ba.out.trans (g1.mono ba.out.size)); have jb := all.out _ bb.out; clear g1)))
  have hE := Lib.hid (hB1.out.trans (bb.out.mono hB1.out.size))
  clear j0 j1 j2 j3 j4 j5 j6 j7 j8 j9 ja jb
  go_wp2_with fail
  go_ret
  exact ⟨rfl, hE.out⟩
end
end Go.Proofs.Ytmfipabbdhfmcaa.Qu
