/- A yard in a law, step by step; works. No statement is proved here. -/
import Derived.Test.YtmfipabbdhfmcaaQuW
namespace Go.Proofs.Ytmfipabbdhfmcaa.Qu
set_option maxRecDepth 100000
open Go.RowKit Go.Shelf
set_option linter.unusedVariables false
/-- A yard that was made behind W; D is what is not its own. -/
structure QK (W : World) (D : Nat → Prop) (y n : Nat) (Wt Bt : List Rg) (e : Nat) (sw : Bool) (w : World) : Prop where
  y : YD D y n Wt Bt e sw w
  b : Below W.heap.size W w
  d : ∀ j, j < W.heap.size → D j
section
variable {w w' W : World} {q y p b wb n e base m : Nat} {Wt Bt L X Wt' Bt' : List Rg} {sw : Bool} {u v wv bv : Value} {r : Rg} {D : Nat → Prop} {A : Option Addr} {cap : Nat}
theorem Kp.below (h : Kp D w w') (hB : Below W.heap.size W w) (d : ∀ j, j < W.heap.size → D j) : Below W.heap.size W w' :=
  ⟨h.os.trans hB.os, h.tape.trans hB.tape, h.output.trans hB.output, Nat.le_trans hB.size h.size, fun k hk => (h.block k (d k hk)).trans (hB.block k hk)⟩
theorem QK.grow (K : QK W D y n Wt Bt e sw w) (k : Below w.heap.size w w') : QK W D y n Wt Bt e sw w' := ⟨K.y.grow k, K.b.trans (k.mono K.b.size), K.d⟩
theorem QK.step (K : QK W D y n Wt Bt e sw w) {D' : Nat → Prop} {e' : Nat} {sw' : Bool} (h : YD D' y n Wt' Bt' e' sw' w') (k : Kp D w w') (hD : ∀ j, D j → D' j) : QK W D' y n Wt' Bt' e' sw' w' := ⟨h, k.below K.b K.d, fun j hj => hD j (K.d j hj)⟩
theorem QK.at_ (K : QK W D y n Wt Bt e sw w) : ∃ p b wb wv bv, YAt w y p b wb n Wt Bt e sw wv bv := by obtain ⟨p, b, wb, wv, bv, H, _⟩ := K.y; exact ⟨p, b, wb, wv, bv, H⟩
theorem QK.kp (K : QK W D y n Wt Bt e sw w) (k : Below w.heap.size w w') : Kp D w w' := Kp.of_below k K.y.inn
theorem QK.sub {D' : Nat → Prop} (K : QK W D y n Wt Bt e sw w) (h : ∀ k, D' k → D k) (hd : ∀ j, j < W.heap.size → D' j) : QK W D' y n Wt Bt e sw w := ⟨K.y.sub h, K.b, hd⟩
theorem QK.more (K : QK W D y n Wt Bt e sw w) (k : Below w.heap.size w w') : QK W (fun j => D j ∨ (w.heap.size ≤ j ∧ j < w'.heap.size)) y n Wt Bt e sw w' := ⟨K.y.more k, K.b.trans (k.mono K.b.size), fun j hj => .inl (K.d j hj)⟩
theorem new_k (n : Nat) (h : n ≤ 16384) (hB : Below W.heap.size W w) (x : Int) (hx : ((16 * n : Nat) : Int) = x) (hd : ∀ j, j < W.heap.size → D j) (hD : ∀ k, D k → k < w.heap.size) : Calls Try.prog 7 #[.int .i64 x] w fun e1 w' => ∃ y, e1 = .returned (.pointer (some ⟨y, 0, none⟩)) ∧ QK W D y n [] [] 0 false w' ∧ Below w.heap.size w w' ∧ w.heap.size ≤ y :=
  (ynew_yes n w h hD x hx).mono fun e1 w' ⟨y, h1, h2, h3, h4⟩ => ⟨y, h1, ⟨h2, hB.trans (h3.mono hB.size), hd⟩, h3, h4⟩
theorem free_k (K : QK W D y n Wt Bt e sw w) (a s : Nat) (ha : a < 4294967296) (hs : s < 4294967296) (ok : Bool) (hok : okF n (Wt ++ Bt) (a, s) = ok) (hW : (if ok then insR (a, s) Wt else Wt) = Wt') : Calls Try.prog 9 #[.pointer (some ⟨y, 0, none⟩), .agg #[.int .u32 a, .int .u32 s]] w fun e1 w' =>
    e1 = .returned (.bool ok) ∧ QK W D y n Wt' Bt e sw w' ∧ Kp D w w' := by
  subst hok hW
  exact (yfree_any a s ha hs K.y).mono fun e1 w' h => ⟨h.1, K.step h.2.1 h.2.2 fun _ h => h, h.2.2⟩
theorem begin_k (K : QK W D y n Wt Bt e false w) (he : e < 1000000) : Calls Try.prog 11 #[.pointer (some ⟨y, 0, none⟩)] w fun e1 w' => e1 = .returned (.tuple #[.int .u64 ((e + 1 : Nat) : Int), .bool true]) ∧ QK W D y n [] Wt (e + 1) true w' ∧ Kp D w w' :=
  (ybegin_yes K.y he).mono fun e1 w' h => ⟨h.1, K.step h.2.1 h.2.2 fun _ h => h, h.2.2⟩
theorem begin_no_k (K : QK W D y n Wt Bt e true w) : Calls Try.prog 11 #[.pointer (some ⟨y, 0, none⟩)] w fun e1 w' => e1 = .returned (.tuple #[.int .u64 0, .bool false]) ∧ QK W D y n Wt Bt e true w' ∧ Kp D w w' := by
  obtain ⟨p, b, wb, wv, bv, H⟩ := K.at_
  exact (ybegin_no H).mono fun e1 w' h => ⟨h.1, K.grow h.2, K.kp h.2⟩
theorem end_no_k (K : QK W D y n Wt Bt e false w) : Calls Try.prog 13 #[.pointer (some ⟨y, 0, none⟩)] w fun e1 w' => e1 = .returned (.slice none 0 0) ∧ QK W D y n Wt Bt e false w' ∧ Kp D w w' :=
  (yend_no K.y).mono fun e1 w' h => ⟨h.1, K.step h.2.1 h.2.2 fun _ h => h, h.2.2⟩
theorem end_k (K : QK W D y n Wt Bt e true w) : Calls Try.prog 13 #[.pointer (some ⟨y, 0, none⟩)] w fun e1 w' => ∃ v, e1 = .returned v ∧ w'.ownsRow 0 33 2 v Bt.length (Bt.flatMap rgC) ∧ QK W (fun k => D k ∨ v.ownBlock = some k) y n Wt [] e false w' ∧ Kp D w w' ∧ (Bt = [] → v = .slice none 0 0) :=
  (yend_yes K.y).mono fun e1 w' ⟨v, h1, h2, h3, h4, h5, _⟩ => ⟨v, h1, h2, K.step h3 h4 fun _ h => .inl h, h4, h5⟩
/-- Whether a sweep is under way, or none. -/
theorem end_any (K : QK W D y n Wt Bt e sw w) : Calls Try.prog 13 #[.pointer (some ⟨y, 0, none⟩)] w fun e1 w' => ∃ v, e1 = .returned v ∧ w'.ownsRow 0 33 2 v Bt.length (Bt.flatMap rgC) ∧ QK W (fun k => D k ∨ v.ownBlock = some k) y n Wt [] e false w' ∧ Kp D w w' ∧ ∀ k, v.ownBlock = some k → ¬ D k := by
  cases sw
  · have hB : Bt = [] := K.y.good.2.2.2.1 rfl
    subst hB
    refine (end_no_k K).mono fun e1 w' h => ⟨_, h.1, World.ownsRow_nil _ _ _ _, h.2.1.sub (fun k h => ?_) fun j hj => .inl (h.2.1.d j hj), h.2.2, fun k h => by cases h⟩
    rcases h with h | h
    · exact h
    · cases h
  · exact (yend_yes K.y).mono fun e1 w' ⟨v, h1, h2, h3, h4, h5, h6⟩ => ⟨v, h1, h2, K.step h3 h4 fun _ h => .inl h, h4, h6⟩
theorem waiting_k (K : QK W D y n Wt Bt e sw w) : Calls Try.prog 25 #[.pointer (some ⟨y, 0, none⟩)] w fun e1 w' => ∃ v, e1 = .returned v ∧ w'.ownsRow w.heap.size 33 2 v Wt.length (Wt.flatMap rgC) ∧ QK W D y n Wt Bt e sw w' ∧ Below w.heap.size w w' ∧ (Wt = [] → v = .slice none 0 0) := by
  obtain ⟨p, b, wb, wv, bv, H⟩ := K.at_
  exact (ywaiting H).mono fun e1 w' ⟨v, h1, h2, h3, h4⟩ => ⟨v, h1, h2, K.grow h3, h3, h4⟩
theorem batch_k (K : QK W D y n Wt Bt e sw w) : Calls Try.prog 26 #[.pointer (some ⟨y, 0, none⟩)] w fun e1 w' => ∃ v, e1 = .returned v ∧ w'.ownsRow w.heap.size 33 2 v Bt.length (Bt.flatMap rgC) ∧ QK W D y n Wt Bt e sw w' ∧ Below w.heap.size w w' ∧ (Bt = [] → v = .slice none 0 0) := by
  obtain ⟨p, b, wb, wv, bv, H⟩ := K.at_
  exact (ybatch H).mono fun e1 w' ⟨v, h1, h2, h3, h4⟩ => ⟨v, h1, h2, K.grow h3, h3, h4⟩
theorem epoch_k (K : QK W D y n Wt Bt e sw w) : Calls Try.prog 32 #[.pointer (some ⟨y, 0, none⟩)] w fun e1 w' => e1 = .returned (.int .u64 (e : Int)) ∧ QK W D y n Wt Bt e sw w' ∧ Below w.heap.size w w' := by
  obtain ⟨p, b, wb, wv, bv, H⟩ := K.at_
  exact (yepoch H).mono fun e1 w' h => ⟨h.1, K.grow h.2, h.2⟩
theorem sweeping_k (K : QK W D y n Wt Bt e sw w) : Calls Try.prog 29 #[.pointer (some ⟨y, 0, none⟩)] w fun e1 w' => e1 = .returned (.bool sw) ∧ QK W D y n Wt Bt e sw w' ∧ Below w.heap.size w w' := by
  obtain ⟨p, b, wb, wv, bv, H⟩ := K.at_
  exact (ysweeping H).mono fun e1 w' h => ⟨h.1, K.grow h.2, h.2⟩
theorem ticket_k (K : QK W D y n Wt Bt e sw w) (t : Nat) (ht : tickN Wt Bt e sw = t) : Calls Try.prog 27 #[.pointer (some ⟨y, 0, none⟩)] w fun e1 w' => e1 = .returned (.int .u64 (t : Int)) ∧ QK W D y n Wt Bt e sw w' ∧ Below w.heap.size w w' := by
  subst ht
  obtain ⟨p, b, wb, wv, bv, H⟩ := K.at_
  exact (yticket H).mono fun e1 w' h => ⟨h.1, K.grow h.2, h.2⟩
theorem done_k (K : QK W D y n Wt Bt e sw w) (t : Nat) (ht : t ≤ 1000001) (v : Bool) (hv : decide (t ≤ endN e sw) = v) : Calls Try.prog 28 #[.pointer (some ⟨y, 0, none⟩), .int .u64 (t : Int)] w fun e1 w' => e1 = .returned (.bool v) ∧ QK W D y n Wt Bt e sw w' ∧ Below w.heap.size w w' := by
  subst hv
  obtain ⟨p, b, wb, wv, bv, H⟩ := K.at_
  exact (ydone H t ht).mono fun e1 w' h => ⟨h.1, K.grow h.2, h.2⟩
theorem paint_k (K : QK W D y n Wt Bt e sw w) : Calls Try.prog 18 #[.pointer (some ⟨y, 0, none⟩)] w fun e1 w' => ∃ p b wb, e1 = .returned (.pointer (some ⟨p, 0, none⟩)) ∧ PtAt w' p b wb n (cov Bt) ∧ QK W D y n Wt Bt e sw w' ∧ Below w.heap.size w w' ∧ w.heap.size ≤ p ∧ w.heap.size ≤ b ∧ w.heap.size ≤ wb := by
  obtain ⟨p, b, wb, wv, bv, H⟩ := K.at_
  exact (ypaint H).mono fun e1 w' ⟨p, b, wb, h1, h2, h3, h4, h5, h6⟩ => ⟨p, b, wb, h1, h2, K.grow h6, h6, h3, h4, h5⟩
theorem pthasK (H : PtAt w p b wb n (cov X)) (a : Nat) (ha : a < 4294967296) (v : Bool) (hv : cov X (a / 16) = v) : Calls Try.prog 19 #[.pointer (some ⟨p, 0, none⟩), .int .u32 a] w fun e w' => e = .returned (.bool v) ∧ Below w.heap.size w w' := by
  subst hv
  exact pthas H a ha
theorem onlyK (hown : w.ownsRow base 33 2 v L.length (L.flatMap rgC)) (r : Rg) (x : Bool) (hx : decide (L = [r]) = x) : Calls Try.prog 31 #[v, rgV r] w fun e w' => e = .returned (.bool x) ∧ Below w.heap.size w w' := by
  subst hx
  exact only_any hown r
set_option maxHeartbeats 8000000 in
theorem works16_any (W : World) : Calls Try.prog 22 #[] W fun e w' => e = .returned (.bool true) ∧ Below W.heap.size W w' := by
  have q1 := Lib.hid (show okF 64 ([] ++ []) (256, 64) = true by decide +kernel)
  have q2 := Lib.hid (show okF 64 ([(256, 64)] ++ []) (304, 16) = false by decide +kernel)
  have q3 := Lib.hid (show cov [(256, 64)] (300 / 16) = true ∧ cov [(256, 64)] (320 / 16) = false by decide +kernel)
  have hN := Lib.hid (new_k (W := W) (w := W) (D := fun k => k < W.heap.size) 64 (by omega) (Below.refl _ _) 1024 (by rfl) (fun _ h => h) (fun _ h => h))
  go_enter Try.func22, Try.ntmps22
  go_wp2_with fail
  refine hN.out.mono ?_
  rintro e w1 ⟨y, rfl, k, _, _⟩
  have K1 := Lib.hid k
  clear k
  go_wp2_with fail
  refine (begin_k K1.out (by omega)).mono ?_
  rintro e w2 ⟨rfl, k, _⟩
  have K2 := Lib.hid k
  clear k
  go_wp2_with fail
  refine (begin_no_k K2.out).mono ?_
  rintro e w3 ⟨rfl, k, _⟩
  have K3 := Lib.hid k
  clear k
  go_wp2_with fail
  refine (region_any 256 64 w3).mono ?_
  rintro e w4 ⟨rfl, k⟩
  have K4 := Lib.hid (K3.out.grow k)
  clear k
  unfold rgV
  dsimp only
  go_wp2_with fail
  refine (free_k K4.out 256 64 (by omega) (by omega) true q1.out (Wt' := [(256, 64)]) rfl).mono ?_
  rintro e w5 ⟨rfl, k, _⟩
  have K5 := Lib.hid k
  clear k
  go_wp2_with fail
  refine (region_any 304 16 w5).mono ?_
  rintro e w6 ⟨rfl, k⟩
  have K6 := Lib.hid (K5.out.grow k)
  clear k
  unfold rgV
  dsimp only
  go_wp2_with fail
  refine (free_k K6.out 304 16 (by omega) (by omega) false q2.out (Wt' := [(256, 64)]) rfl).mono ?_
  rintro e w7 ⟨rfl, k, _⟩
  have K7 := Lib.hid k
  clear k
  go_wp2_with fail
  refine (end_k K7.out).mono ?_
  rintro e w8 ⟨v, rfl, _, k, _, hv⟩
  have K8 := Lib.hid (k.sub (D' := fun k => k < W.heap.size) (fun _ h => .inl h) (fun _ h => h))
  obtain rfl := hv rfl
  clear k
  go_wp2_with fail
  refine (begin_k K8.out (by omega)).mono ?_
  rintro e w9 ⟨rfl, k, _⟩
  have K9 := Lib.hid k
  clear k
  go_wp2_with fail
  refine (batch_k K9.out).mono ?_
  rintro e wa ⟨v, rfl, ho, k, _, _⟩
  have Ka := Lib.hid k
  have Oa := Lib.hid ho
  clear k ho
  obtain ⟨A, cap, rfl⟩ := own_slice Oa.out
  go_wp2_with fail
  refine (region_any 256 64 wa).mono ?_
  rintro e wb ⟨rfl, k⟩
  have Kb := Lib.hid (Ka.out.grow k)
  have Ob := Lib.hid (own_grow Oa.out k)
  clear k
  go_wp2_with fail
  refine (onlyK Ob.out (256, 64) true (by decide +kernel)).mono ?_
  rintro e wc ⟨rfl, k⟩
  have Kc := Lib.hid (Kb.out.grow k)
  clear k
  go_wp2_with fail
  refine (waiting_k Kc.out).mono ?_
  rintro e wd ⟨v, rfl, _, k, _, hv⟩
  have Kd := Lib.hid k
  obtain rfl := hv rfl
  clear k
  go_wp2_with fail
  refine (paint_k Kd.out).mono ?_
  rintro e we ⟨p, b, wb, rfl, hp, k, _, _, _, _⟩
  have Ke := Lib.hid k
  have Pe := Lib.hid hp
  clear k hp
  go_wp2_with fail
  refine (pthasK Pe.out 300 (by omega) true q3.out.1).mono ?_
  rintro e wf ⟨rfl, k⟩
  have Kf := Lib.hid (Ke.out.grow k)
  clear k
  go_wp2_with fail
  refine (paint_k Kf.out).mono ?_
  rintro e wg ⟨p, b, wb, rfl, hp, k, _, _, _, _⟩
  have Kg := Lib.hid k
  have Pg := Lib.hid hp
  clear k hp
  go_wp2_with fail
  refine (pthasK Pg.out 320 (by omega) false q3.out.2).mono ?_
  rintro e wh ⟨rfl, k⟩
  have Kh := Lib.hid (Kg.out.grow k)
  clear k
  go_wp2_with fail
  refine (end_k Kh.out).mono ?_
  rintro e wi ⟨v, rfl, ho, k, _, _⟩
  have Ki := Lib.hid (k.sub (D' := fun k => k < W.heap.size) (fun _ h => .inl h) (fun _ h => h))
  have Oi := Lib.hid ho
  clear k ho
  obtain ⟨A, cap, rfl⟩ := own_slice Oi.out
  go_wp2_with fail
  refine (region_any 256 64 wi).mono ?_
  rintro e wj ⟨rfl, k⟩
  have Kj := Lib.hid (Ki.out.grow k)
  have Oj := Lib.hid (own_grow Oi.out k)
  clear k
  go_wp2_with fail
  refine (onlyK Oj.out (256, 64) true (by decide +kernel)).mono ?_
  rintro e wk ⟨rfl, k⟩
  have Kk := Lib.hid (Kj.out.grow k)
  clear k
  go_wp2_with fail
  refine (sweeping_k Kk.out).mono ?_
  rintro e wl ⟨rfl, k, _⟩
  have Kl := Lib.hid k
  clear k
  go_wp2_with fail
  go_ret
  exact ⟨rfl, Kl.out.b⟩
end
end Go.Proofs.Ytmfipabbdhfmcaa.Qu
