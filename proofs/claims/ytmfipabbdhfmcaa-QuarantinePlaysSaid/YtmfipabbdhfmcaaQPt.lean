/- A yard beside the document's: steps of the law. No statement is proved here. -/
import Derived.Test.YtmfipabbdhfmcaaRows
import Derived.Test.YtmfipabbdhfmcaaCls
import Derived.Test.YtmfipabbdhfmcaaQPs
import Derived.Test.YtmfipabbdhfmcaaQAc
import Derived.Deep.LoopGhost
import Derived.Deep.RegionHeld
import Derived.Deep.CutBlock
import Derived.ProofKit
import Derived.OpenShut
import Derived.ChangeOld
namespace Go.Proofs.Ytmfipabbdhfmcaa.qplays
set_option maxRecDepth 100000
open Go.ChangeShapes Go.WideShapes Go.ChangeAt Go.RowKit Go.Shelf Go.Proofs.Ytmfipabbdhfmcaa.Qu
set_option linter.unusedVariables false
set_option maxHeartbeats 8000000 in
theorem walk_no (b : Int) (h : b < 0 ∨ 262144 < b ∨ b % 16 ≠ 0) (A : Option Addr) (len cap : Nat) (hlen : len ≤ 9223372036854775807) (W : World) :
    Calls Try.prog 3 #[.int .i64 b, .slice A len cap] W fun e w' => e = .returned (.bool true) ∧ Below W.heap.size W w' := by
  have hN := Lib.hid (ynew_no b W h)
  have hR := Lib.hid (fun w => rnew_no b w h)
  unfold dyV at hR
  clear h
  go_enter Try.func3, Try.ntmps3
  go_wp2_with fail
  refine hN.out.mono ?_
  rintro e w1 ⟨rfl, k⟩
  have B1 := Lib.hid k
  clear k hN
  go_wp2_with fail
  refine (hR.out w1).mono ?_
  rintro e w2 ⟨rfl, k⟩
  have B2 := Lib.hid (B1.out.trans (k.mono B1.out.size))
  clear k hR B1
  go_upto_region 3 with (fail)
  have B3 := Lib.hid (B2.out.alloc B2.out.size (.cells #[.int .i64 0, .slice none 0 0, .slice none 0 0, .int .u64 ((0 : Nat) : Int), .bool false] 28))
  generalize w2.alloc (.cells #[.int .i64 0, .slice none 0 0, .slice none 0 0, .int .u64 ((0 : Nat) : Int), .bool false] 28) = w3 at B3 ⊢
  by_cases hl : 0 < len
  · have hl1 : (0 : Int) < len := by omega
    go_wp2_with fail
    go_loopw [8] (fun iv wr => iv = .int .i64 0 ∧ Hid (Below W.heap.size W wr)) (fun _ _ => 1)
    case atStart => exact ⟨rfl, B3⟩
    case round =>
      obtain ⟨rfl, HB⟩ := hrel
      go_wp2_with fail
      refine (works16_any wr).mono ?_
      rintro e w4 ⟨rfl, k⟩
      have B4 := Lib.hid (HB.out.trans (k.mono HB.out.size))
      clear k
      go_wp2_with fail
      go_ret
      exact ⟨rfl, B4.out⟩
  · obtain rfl : len = 0 := by omega
    go_wp2_with fail
    go_loopw [8] (fun iv wr => iv = .int .i64 0 ∧ Hid (Below W.heap.size W wr)) (fun _ _ => 1)
    case atStart => exact ⟨rfl, B3⟩
    case round =>
      obtain ⟨rfl, HB⟩ := hrel
      go_wp2_with fail
      refine (works16_any wr).mono ?_
      rintro e w4 ⟨rfl, k⟩
      have B4 := Lib.hid (HB.out.trans (k.mono HB.out.size))
      clear k
      go_wp2_with fail
      go_ret
      exact ⟨rfl, B4.out⟩
/-- Five cells of a box. -/
def set5 (w : World) (q : Nat) (b : Int) (wl bl : Value) (e : Nat) (sw : Bool) : World := ((((w.setCell ⟨q, 0, none⟩ (.int .i64 b)).setCell ⟨q, 1, none⟩ wl).setCell ⟨q, 2, none⟩ bl).setCell ⟨q, 3, none⟩ (.int .u64 (e : Int))).setCell ⟨q, 4, none⟩ (.bool sw)
theorem pm_len {W w : World} {y q n : Nat} {b : Int} {d : QS} {wl bl : Value} (H : PM W y q n b d d wl bl w) : Qu.Good n (d.W ++ d.B) ∧ d.W.length ≤ 16384 ∧ d.B.length ≤ 16384 ∧ (∀ r ∈ d.W, r.1 + r.2 ≤ 262144) ∧ (∀ r ∈ d.B, r.1 + r.2 ≤ 262144) ∧ n ≤ 16384 := by
  have hg := H.k.y.good
  have hl := hg.1.length
  rw [List.length_append] at hl
  have hn := hg.2.2.2.2.1
  refine ⟨hg.1, by omega, by omega, fun r hr => ?_, fun r hr => ?_, hn⟩
  · have := okA_iff.1 (hg.1.al r (List.mem_append_left _ hr)); omega
  · have := okA_iff.1 (hg.1.al r (List.mem_append_right _ hr)); omega
/-- The document's Free, behind the program's. -/
theorem dfree_pm {W w w5 : World} {y q n : Nat} {b : Int} {p' d : QS} {A1 A2 : Option Addr} {x1 c1 x2 c2 a s : Nat} (H0 : PM W y q n b d d (.slice A1 x1 c1) (.slice A2 x2 c2) w) (H : PM W y q n b p' d (.slice A1 x1 c1) (.slice A2 x2 c2) w5) (hb : b = ((16 * n : Nat) : Int)) (ha : a < 4294967296) (hs : s < 4294967296) (ok : Bool) (hok : ok = okF n (d.W ++ d.B) (a, s))
    (hp : p' = ⟨if ok then insR (a, s) d.W else d.W, d.B, d.e, d.sw⟩) (wc : World) (hc : Below w5.heap.size w5 wc) :
    Calls Try.prog 10 #[.agg #[.int .i64 b, .slice A1 x1 c1, .slice A2 x2 c2, .int .u64 (d.e : Int), .bool d.sw], .agg #[.int .u32 (a : Int), .int .u32 (s : Int)]] wc fun e1 w' => ∃ A' x' c', e1 = .returned (.tuple #[.agg #[.int .i64 b, .slice A' x' c', .slice A2 x2 c2, .int .u64 (d.e : Int), .bool d.sw], .bool ok]) ∧ Below wc.heap.size wc w' ∧
      ∀ w8, Below w5.heap.size w5 w8 → (∀ j, wc.heap.size ≤ j → j < w'.heap.size → w8.heap[j]? = w'.heap[j]?) → PM W y q n b p' p' (.slice A' x' c') (.slice A2 x2 c2) (set5 w8 q b (.slice A' x' c') (.slice A2 x2 c2) d.e d.sw) := by
  subst hok hp
  obtain ⟨hG, l1, l2, f1, f2, hn⟩ := pm_len H0
  refine (rfree (gr_of (own_grow H.ow hc)) (gr_of (own_grow H.ob hc)) f1 f2 l1 l2 hn b (by rw [hb]; push_cast; rfl) d.e d.sw a s ha hs).mono ?_
  rintro e1 w' ⟨v, rfl, h1, h2, h3⟩
  cases e : okF n (d.W ++ d.B) (a, s)
  · obtain rfl := h1 e
    refine ⟨A1, x1, c1, rfl, h3, fun w8 hk _ => ?_⟩
    rw [e] at H
    exact PM.set (d' := ⟨d.W, d.B, d.e, d.sw⟩) H hk (own_grow H.ow hk) (own_grow H.ob hk) (fun j hj => .inl (.inl hj)) (fun j hj => .inl (.inr hj))
  · have ho := h2 e
    obtain ⟨A', c', rfl⟩ := own_slice ho
    refine ⟨A', _, c', rfl, h3, fun w8 hk hj8 => ?_⟩
    rw [e] at H
    exact PM.set (d' := ⟨insR (a, s) d.W, d.B, d.e, d.sw⟩) H hk ((own_keep ho fun g hg => hj8 g (ho.lt g hg).1 (ho.lt g hg).2).mono (Nat.zero_le _)) (own_grow H.ob hk) (fun j hj => .inr (Nat.le_trans hc.size (ho.lt j hj).1)) (fun j hj => .inl (.inr hj))
/-- The document's answer in a box r, its next state not yet laid in q. -/
structure Box (W : World) (y q n : Nat) (b : Int) (p' d : QS) (A1 : Option Addr) (x1 c1 : Nat) (A2 : Option Addr) (x2 c2 r : Nat) (A' : Option Addr) (x' c' : Nat) (w' : World) : Prop where
  k : PM W y q n b p' d (.slice A1 x1 c1) (.slice A2 x2 c2) w'
  y5 : Y5 w' r (dyU b (.slice A' x' c') (.slice A2 x2 c2) d.e d.sw)
  ne : r ≠ q
  nx : ∀ w8, Below w'.heap.size w' w8 → PM W y q n b p' p' (.slice A' x' c') (.slice A2 x2 c2) (set5 w8 q b (.slice A' x' c') (.slice A2 x2 c2) d.e d.sw)
theorem set5_y {w : World} {r : Nat} {u : Nat → Value} (H : Y5 w r u) (b : Int) (wl bl : Value) (e : Nat) (sw : Bool) : Y5 (set5 w r b wl bl e sw) r (dyU b wl bl e sw) := fun i => by
  have hx := H.all (.int .i64 b) wl bl (.int .u64 (e : Int)) (.bool sw)
  refine ⟨fun hi => ((hx i).1 hi).trans ?_, (hx i).2⟩
  match i, hi with
  | 0, _ => rfl
  | 1, _ => rfl
  | 2, _ => rfl
  | 3, _ => rfl
  | 4, _ => rfl
theorem set5_below {B : Nat} {w0 w : World} {r : Nat} (h : Below B w0 w) (hr : B ≤ r) (b : Int) (wl bl : Value) (e : Nat) (sw : Bool) : Below B w0 (set5 w r b wl bl e sw) := all_below h hr _ _ _ _ _
theorem set5_block {w : World} {r j : Nat} (hj : j ≠ r) (b : Int) (wl bl : Value) (e : Nat) (sw : Bool) : (set5 w r b wl bl e sw).heap[j]? = w.heap[j]? := by
  unfold set5
  rw [y_set _ _ _ _ _ hj, y_set _ _ _ _ _ hj, y_set _ _ _ _ _ hj, y_set _ _ _ _ _ hj, y_set _ _ _ _ _ hj]
section
variable {W w5 wc w7 : World} {y q n r x1 c1 x2 c2 x' c' : Nat} {b : Int} {p' d : QS} {A1 A2 A' : Option Addr} {u : Nat → Value}
theorem finA (P : PM W y q n b p' d (.slice A1 x1 c1) (.slice A2 x2 c2) w5) (hb : Below w5.heap.size w5 w7)
    (hs : ∀ w8, Below w5.heap.size w5 w8 → (∀ j, w5.heap.size ≤ j → j < w7.heap.size → w8.heap[j]? = w7.heap[j]?) → PM W y q n b p' p' (.slice A' x' c') (.slice A2 x2 c2) (set5 w8 q b (.slice A' x' c') (.slice A2 x2 c2) d.e d.sw)) :
    Box W y q n b p' d A1 x1 c1 A2 x2 c2 w7.heap.size A' x' c' (w7.alloc (.cells #[.int .i64 b, .slice A' x' c', .slice A2 x2 c2, .int .u64 (d.e : Int), .bool d.sw] 28)) := by
  obtain ⟨Y1, B1⟩ := box1 w7 b (.slice A' x' c') (.slice A2 x2 c2) d.e d.sw
  have hk := hb.trans (B1.mono hb.size)
  have hq := P.bx.lt
  have h7 := hb.size
  refine ⟨P.grow hk, Y1, by omega, fun w8 k8 => hs w8 (hk.trans (k8.mono hk.size)) fun j _ h2 => (k8.block j (Nat.lt_of_lt_of_le h2 B1.size)).trans (B1.block j h2)⟩
theorem finB (P : PM W y q n b p' d (.slice A1 x1 c1) (.slice A2 x2 c2) w5) (hc : Below w5.heap.size w5 wc) (hY : Y5 wc r u) (hr : w5.heap.size ≤ r) (hb : Below wc.heap.size wc w7) (hrw : r < wc.heap.size)
    (hs : ∀ w8, Below w5.heap.size w5 w8 → (∀ j, wc.heap.size ≤ j → j < w7.heap.size → w8.heap[j]? = w7.heap[j]?) → PM W y q n b p' p' (.slice A' x' c') (.slice A2 x2 c2) (set5 w8 q b (.slice A' x' c') (.slice A2 x2 c2) d.e d.sw)) :
    Box W y q n b p' d A1 x1 c1 A2 x2 c2 r A' x' c' (set5 w7 r b (.slice A' x' c') (.slice A2 x2 c2) d.e d.sw) := by
  have hk := set5_below (hc.trans (hb.mono hc.size)) hr b (.slice A' x' c') (.slice A2 x2 c2) d.e d.sw
  have hz : (set5 w7 r b (.slice A' x' c') (.slice A2 x2 c2) d.e d.sw).heap.size = w7.heap.size := by
    unfold set5; rw [sz_set, sz_set, sz_set, sz_set, sz_set]
  have hq := P.bx.lt
  refine ⟨P.grow hk, set5_y (hY.grow hb) _ _ _ _ _, by omega, fun w8 k8 => hs w8 (hk.trans (k8.mono hk.size)) fun j h1 h2 => (k8.block j (by omega)).trans (set5_block (by omega) _ _ _ _ _)⟩
end
/-! ### The steps of both, side by side -/
/-- A sweep begins; a sweep ends. -/
def bgn (d : QS) : QS := if d.sw then d else ⟨[], d.W, d.e + 1, true⟩
def bgT (d : QS) : Nat := if d.sw then 0 else d.e + 1
def ends (d : QS) : QS := ⟨d.W, [], d.e, false⟩
section
variable {W w w5 w' w8 : World} {y q n x1 c1 x2 c2 : Nat} {b : Int} {p' d : QS} {A1 A2 : Option Addr} {v : Value} {L : List Rg}
theorem pbegin (H : PM W y q n b d d (.slice A1 x1 c1) (.slice A2 x2 c2) w) (he : d.e < 1000000) : Calls Try.prog 11 #[.pointer (some ⟨y, 0, none⟩)] w fun e1 w' => e1 = .returned (.tuple #[.int .u64 ((bgT d : Nat) : Int), .bool (!d.sw)]) ∧ PM W y q n b (bgn d) d (.slice A1 x1 c1) (.slice A2 x2 c2) w' := by
  obtain ⟨Wt, Bt, e, sw⟩ := d
  cases sw
  · exact (begin_k H.k he).mono fun e1 w' h => ⟨h.1, H.kp (p' := ⟨[], Wt, e + 1, true⟩) h.2.1 h.2.2⟩
  · exact (begin_no_k H.k).mono fun e1 w' h => ⟨h.1, H.kp (p' := ⟨Wt, Bt, e, true⟩) h.2.1 h.2.2⟩
theorem dbegin (H : PM W y q n b (bgn d) d (.slice A1 x1 c1) (.slice A2 x2 c2) w5) (he : d.e < 1000000) : Calls Try.prog 12 #[.agg #[.int .i64 b, .slice A1 x1 c1, .slice A2 x2 c2, .int .u64 (d.e : Int), .bool d.sw]] w5 fun e1 w' =>
    ∃ A3 x3 c3 A4 x4 c4, e1 = .returned (.tuple #[.agg #[.int .i64 b, .slice A3 x3 c3, .slice A4 x4 c4, .int .u64 ((bgn d).e : Int), .bool (bgn d).sw], .int .u64 ((bgT d : Nat) : Int), .bool (!d.sw)]) ∧ Below w5.heap.size w5 w' ∧
      ∀ w8, Below w5.heap.size w5 w8 → PM W y q n b (bgn d) (bgn d) (.slice A3 x3 c3) (.slice A4 x4 c4) (set5 w8 q b (.slice A3 x3 c3) (.slice A4 x4 c4) (bgn d).e (bgn d).sw) := by
  obtain ⟨Wt, Bt, e, sw⟩ := d
  cases sw
  · refine (rbegin_yes b e (Nat.le_of_lt he) w5).mono fun e1 w' h => ⟨none, 0, 0, A1, x1, c1, h.1, h.2, fun w8 k => ?_⟩
    exact PM.set (d' := ⟨[], Wt, e + 1, true⟩) H k (World.ownsRow_nil _ _ _ _) (own_grow H.ow k) (fun j hj => by cases hj) (fun j hj => .inl (.inl hj))
  · refine (rbegin_no b e w5).mono fun e1 w' h => ⟨A1, x1, c1, A2, x2, c2, h.1, h.2, fun w8 k => ?_⟩
    exact PM.set (d' := ⟨Wt, Bt, e, true⟩) H k (own_grow H.ow k) (own_grow H.ob k) (fun j hj => .inl (.inl hj)) (fun j hj => .inl (.inr hj))
theorem pend (H : PM W y q n b d d (.slice A1 x1 c1) (.slice A2 x2 c2) w) : Calls Try.prog 13 #[.pointer (some ⟨y, 0, none⟩)] w fun e1 w' => ∃ A5 x5 c5, e1 = .returned (.slice A5 x5 c5) ∧ PM W y q n b (ends d) d (.slice A1 x1 c1) (.slice A2 x2 c2) w' ∧ ∀ w8, Below w'.heap.size w' w8 → ∀ b' wl' bl' e' sw', GR (set5 w8 q b' wl' bl' e' sw') d.B (.slice A5 x5 c5) := by
  refine (end_any H.k).mono ?_
  rintro e1 w' ⟨v, rfl, ho, K, k, hn⟩
  obtain ⟨A5, c5, rfl⟩ := own_slice ho
  refine ⟨A5, _, c5, rfl, H.kp (p' := ends d) (K.sub (fun j hj => .inl hj) H.k.d) k, fun w8 k8 b' wl' bl' e' sw' => gr_of (own_keep (own_grow ho k8) fun g hg => set5_block (show g ≠ q from fun h => hn g hg (.inr (.inl h))) _ _ _ _ _)⟩
theorem dend (H : PM W y q n b (ends d) d (.slice A1 x1 c1) (.slice A2 x2 c2) w5) (h0 : d.sw = false → d.B = []) : Calls Try.prog 14 #[.agg #[.int .i64 b, .slice A1 x1 c1, .slice A2 x2 c2, .int .u64 (d.e : Int), .bool d.sw]] w5 fun e1 w' =>
    ∃ A3 x3 c3 A4 x4 c4 A6 x6 c6, e1 = .returned (.tuple #[.agg #[.int .i64 b, .slice A3 x3 c3, .slice A4 x4 c4, .int .u64 (d.e : Int), .bool false], .slice A6 x6 c6]) ∧ Below w5.heap.size w5 w' ∧
      (∀ w8, Below w5.heap.size w5 w8 → PM W y q n b (ends d) (ends d) (.slice A3 x3 c3) (.slice A4 x4 c4) (set5 w8 q b (.slice A3 x3 c3) (.slice A4 x4 c4) d.e false)) ∧
      ∀ w8, Below w5.heap.size w5 w8 → ∀ b' wl' bl' e' sw', GR (set5 w8 q b' wl' bl' e' sw') d.B (.slice A6 x6 c6) := by
  obtain ⟨Wt, Bt, e, sw⟩ := d
  cases sw
  · have hB := h0 rfl
    dsimp only at hB
    subst hB
    refine (rend_no b e w5).mono fun e1 w' h => ⟨A1, x1, c1, A2, x2, c2, none, 0, 0, h.1, h.2, fun w8 k => ?_, fun w8 k b' wl' bl' e' sw' => gr_of (base := 0) (World.ownsRow_nil _ _ _ _)⟩
    exact PM.set (d' := ⟨Wt, [], e, false⟩) H k (own_grow H.ow k) (own_grow H.ob k) (fun j hj => .inl (.inl hj)) (fun j hj => .inl (.inr hj))
  · refine (rend_yes b e w5).mono fun e1 w' h => ⟨A1, x1, c1, none, 0, 0, A2, x2, c2, h.1, h.2, fun w8 k => ?_, fun w8 k b' wl' bl' e' sw' => gr_of (own_keep (own_grow H.ob k) fun g hg => set5_block (show g ≠ q from fun h => H.sb (h ▸ hg)) _ _ _ _ _)⟩
    exact PM.set (d' := ⟨Wt, [], e, false⟩) H k (own_grow H.ow k) (World.ownsRow_nil _ _ _ _) (fun j hj => .inl (.inl hj)) (fun j hj => by cases hj)
/-- What the copy protects. -/
def DC (W w w2 : World) (q : Nat) (wl bl : Value) (j : Nat) : Prop := (j < W.heap.size ∨ j = q ∨ wl.ownBlock = some j ∨ bl.ownBlock = some j) ∨ (w.heap.size ≤ j ∧ j < w2.heap.size)
theorem pcopy (H : PM W y q n b d d (.slice A1 x1 c1) (.slice A2 x2 c2) w) : Calls Try.prog 16 #[.pointer (some ⟨y, 0, none⟩)] w fun e1 w2 => ∃ y2, e1 = .returned (.pointer (some ⟨y2, 0, none⟩)) ∧ QK W (DC W w w2 q (.slice A1 x1 c1) (.slice A2 x2 c2)) y n d.W d.B d.e d.sw w2 ∧
    ∀ w4, Kp (DC W w w2 q (.slice A1 x1 c1) (.slice A2 x2 c2)) w2 w4 → PM W y2 q n b d d (.slice A1 x1 c1) (.slice A2 x2 c2) w4 := by
  obtain ⟨p, pb, wb, wv, bv, Y⟩ := H.k.at_
  refine (ycopy Y H.k.y.inn).mono ?_
  rintro e1 w2 ⟨y2, rfl, Y2, k⟩
  refine ⟨y2, rfl, H.k.more k, fun w4 k4 => ?_⟩
  have hb : Below W.heap.size W w4 := (k4.below (H.k.b.trans (k.mono H.k.b.size)) fun j hj => .inl (.inl hj))
  have hY : YD (fun j => (j < W.heap.size ∨ j = q ∨ (Value.slice A1 x1 c1).ownBlock = some j ∨ (Value.slice A2 x2 c2).ownBlock = some j) ∨ j < w.heap.size) y2 n d.W d.B d.e d.sw w4 := Y2.other (fun j hj hl => k4.block j (.inr ⟨Nat.le_of_not_lt fun h => hj (.inr h), hl⟩)) k4.size
  exact ⟨⟨hY.sub fun j hj => .inl hj, hb, H.k.d⟩, (H.bx.grow k).keep (k4.block q (.inl (.inr (.inl rfl)))), own_keep (own_grow H.ow k) (fun g hg => k4.block g (.inl (.inr (.inr (.inl hg))))), own_keep (own_grow H.ob k) (fun g hg => k4.block g (.inl (.inr (.inr (.inr hg))))), H.hq, H.sw, H.sb⟩
end
section
variable {W w : World} {y q n x1 c1 x2 c2 p2 pb2 wb2 : Nat} {b : Int} {d : QS} {A1 A2 : Option Addr} {S : World → Prop}
theorem has2 (hK : ∀ w', S w' → PM W y q n b d d (.slice A1 x1 c1) (.slice A2 x2 c2) w') (hT : ∀ w', S w' → PtAt w' p2 pb2 wb2 n (cov d.B)) (HS : ∀ w w', S w → Below w.heap.size w w' → S w') (f2 : ∀ r ∈ d.B, r.1 + r.2 ≤ 262144) (l2 : d.B.length ≤ 16384) (a : Nat) (ha : a < 4294967296) :
    (∀ y : Wd S, Calls Try.prog 19 #[.pointer (some ⟨p2, 0, none⟩), .int .u32 (a : Int)] y.w fun e w' => e = .returned (.bool (cov d.B (a / 16))) ∧ ∃ y' : Wd S, w' = y'.w) ∧
    (∀ y : Wd S, Calls Try.prog 20 #[.agg #[.int .i64 b, .slice A1 x1 c1, .slice A2 x2 c2, .int .u64 (d.e : Int), .bool d.sw], .int .u32 (a : Int)] y.w fun e w' => e = .returned (.bool (mt d.B (a, 1))) ∧ ∃ y' : Wd S, w' = y'.w) := by
  refine ⟨fun y => ?_, fun y => ?_⟩
  · exact (pthas (hT _ y.h) a ha).mono fun e w2 k => ⟨k.1, ⟨w2, HS _ _ y.h k.2⟩, rfl⟩
  · exact (rhas (gr_of (hK _ y.h).ob) f2 l2 b d.e d.sw a ha).mono fun e w2 k => ⟨k.1, ⟨w2, HS _ _ y.h k.2⟩, rfl⟩
end
end Go.Proofs.Ytmfipabbdhfmcaa.qplays
