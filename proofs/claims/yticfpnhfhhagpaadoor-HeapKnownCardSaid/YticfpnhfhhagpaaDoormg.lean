/- Contracts of the library at maps with keys of 32 bits: the keys, each once; those collected; those sorted. No statement is proved here.; Contracts of the library at maps with keys of 32 bits: AppendSeq, Collect, Sort, Sorted. No statement is proved here. -/
import Derived.Test.YticfpnhfhhagpaaDoorme
import Derived.Test.YticfpnhfhhagpaaDoormf
import Derived.Maps.AppendAt
import Derived.Maps.OwnIn
import Derived.Maps.OwnSet
import Derived.RangeFuncSeq
import Derived.RangeFuncNested
import Derived.RangeFuncBound
namespace Go.Proofs.YticfpnhfhhagpaaDoor
set_option maxRecDepth 100000
open Go.RowKit Go.Shelf Go.Maps
set_option linter.unusedVariables false
attribute [local go_sem] Oper.semAt_some

def encU (x : Int) : Value := .int .u32 x
/-- The keys that have come. -/
def CollU {H : Type} (D0 : DataW H) (left : Lit → Bool) (ss : List Int) : Prop := ss.Nodup ∧ ∀ x, x ∈ ss ↔ (has D0 (.int .u32 x) = true ∧ left (.int .u32 x) = false)
section
variable {H : Type} {D0 : DataW H} {left : Lit → Bool} {ss : List Int}
theorem CollU.start (D0 : DataW H) : CollU D0 (has D0) [] := ⟨List.nodup_nil, fun x => by cases has D0 (.int .u32 x) <;> simp⟩
theorem same_u32 (x y : Int) : (Lit.int .u32 y).sameKey (.int .u32 x) = decide (y = x) := by
  by_cases e : y = x
  · subst e; simp [Lit.sameKey]
  · rw [sameKey_ne (fun h => e (by cases h; rfl))]; simp [e]
theorem CollU.step (h : CollU D0 left ss) {x : Int} {y : DataW H} (hlk : left (.int .u32 x) = true) (hat : ∀ zd, D0.atKey (.int .u32 x) zd = y) : CollU D0 (fun z => left z && !z.sameKey (.int .u32 x)) (ss ++ [x]) := by
  have hx : x ∉ ss := fun hx => by rw [((h.2 x).1 hx).2] at hlk; cases hlk
  refine ⟨List.nodup_append.2 ⟨h.1, by simp, fun a ha b hb e => hx (by simp at hb; rw [← hb, ← e]; exact ha)⟩, fun z => ?_⟩
  rw [List.mem_append, List.mem_singleton, h.2 z]
  show _ ↔ _ ∧ (left (.int .u32 z) && !(Lit.int .u32 z).sameKey (.int .u32 x)) = false
  rw [same_u32]
  by_cases e : z = x
  · subst e
    have := has_true_of_atKey hat
    simp [this, hlk]
  · simp [e]
end
section
variable {H : Type} {R : Value → Option (DataW H × List MemPlace)} {w W : World}
set_option maxHeartbeats 1000000 in
theorem keys_in (n : Nat) (hn : 1 ≤ n) (l Bm b nn : Nat) (D0 : DataW H) (J Jx : List Int → World → Prop)
    (hY : ∀ pre x W, J pre W → pre.length < Maps.size D0 → YieldAt Fence.wide (n - 1) Tryd.prog l #[encU x] W fun e W' =>
      (e = .returned (.bool true) ∧ J (pre ++ [x]) W' ∧ KeepsWalks W W') ∨ (e = .returned (.bool false) ∧ Jx (pre ++ [x]) W'))
    (W : World) (hJ : AbidesFrom W.heap.size J) (hm : W.cell? ⟨Bm, 0, none⟩ = some (.map (some b))) (hown : W.ownsMap Tryd.prog 24 R b nn D0) (h0 : J [] W) :
    CallsIn Fence.wide n Tryd.prog 82 #[.func (.yield l) #[] #[], .pointer (some ⟨Bm, 0, none⟩)] W fun e W' => (∃ v, e = .returned v) ∧
      ((∃ ss : List Int, (ss.Nodup ∧ ∀ x, x ∈ ss ↔ has D0 (.int .u32 x) = true) ∧ J ss W') ∨ (∃ pre : List Int, True ∧ Jx pre W')) := by
  refine callsIn_of_wp Tryd.func82 rfl trivial ?_ rfl
  simp only [Tryd.ntmps82, List.size_toArray, List.length_cons, List.length_nil, Nat.reduceAdd, Nat.reduceSub, Array.replicate_succ, Array.replicate_zero, List.push_toArray, List.append_toArray, List.nil_append, List.cons_append]
  gi_wp2_with (first
    | (gi_at_range; refine wpListIn_range_own _ rfl _ 50 rfl 24 26 (int_keyed Tryd.underlying24) Tryd.underlying50 _ b nn _ rfl hown ?_; intro w0 hrg0 hg0 hs0)
    | gi_in)
  go_frame
  gi_loopw [3] (fun _ wr => ∃ (left : Lit → Bool) (cnt : Nat) (ss : List Int), wr.ranges Tryd.prog 24 R b W.heap.size nn D0 left cnt ∧ ss.length + cnt ≤ Maps.size D0 ∧ CollU D0 left ss ∧ J ss wr)
    (fun _ wr => wr.rangeLeft b W.heap.size)
  case atStart =>
    exact ⟨_, _, [], hrg0, by simp, CollU.start D0, hJ [] W w0 none h0 hg0 (fun r e => by cases e)⟩
  case round =>
    obtain ⟨left, cnt, ss, hrg, hcs, hC, hJs⟩ := hrel
    gi_wp2_with (first
      | (gi_at_next; refine wpListIn_next_ranges _ rfl _ rfl 24 (int_keyed Tryd.underlying24) R encU id (fun key kl hk => by obtain ⟨x, hx, _⟩ := Maps.keyOf_int_inv Tryd.underlying24 hk; exact ⟨x, hx⟩) (fun v _ _ => ⟨v, rfl⟩) b W.heap.size nn _ _ _ rfl hrg ?_ ?_)
      | gi_in)
    · intro hc0 hl0
      gi_wp2
      go_end0
      exact ⟨⟨_, rfl⟩, .inl ⟨ss, ⟨hC.1, fun x => by rw [hC.2 x, hl0]; simp⟩, hJs⟩⟩
    · intro x c kl yd yp w2 cnt2 hkey hlk hv hat hrg2 hlt hg2 hs2 hen
      obtain ⟨x', ex, rfl, _⟩ := Maps.keyOf_int_inv Tryd.underlying24 hkey
      obtain rfl : x = x' := by cases ex; rfl
      have hJ2 : J ss w2 := hJ ss wr w2 (some W.heap.size) hJs hg2 (fun r e => by cases e; exact ⟨Nat.le_refl _, hrg.iter_walk⟩)
      obtain ⟨fn, tmps, assign, body, hy, hR⟩ := hY ss x w2 hJ2 (by omega)
      dsimp only [encU] at hy
      clear hs2
      gi_wp2
      refine hR.mono ?_
      have hC2 := hC.step hlk hat
      rintro e W3 (⟨rfl, hJ3, hk3⟩ | ⟨rfl, hJx3⟩)
      · gi_wp2
        have hrg3 := hrg2.of_walks hk3
        go_roundw
        case rel => exact ⟨_, cnt2, ss ++ [x], hrg3, by simp; omega, hC2, hJ3⟩
        case measure => rw [hrg3.left_eq, hrg.left_eq]; exact hlt
      · gi_wp2
        refine bodyPost_ret (results_none rfl _ _ _) rfl ?_
        exact ⟨⟨_, rfl⟩, .inr ⟨ss ++ [x], trivial, hJx3⟩⟩
theorem keys_stops (n : Nat) (hn : 1 ≤ n) (Bm b nn : Nat) (D0 : DataW H) (hBm : Bm < w.heap.size) (hm : w.cell? ⟨Bm, 0, none⟩ = some (.map (some b))) (hown : w.ownsMap Tryd.prog 24 R b nn D0) :
    SeqStopsK Fence.wide n Tryd.prog 82 #[.pointer (some ⟨Bm, 0, none⟩)] (fun x => #[encU x]) KeepsWalks (fun ss => ss.Nodup ∧ ∀ x, x ∈ ss ↔ has D0 (.int .u32 x) = true) (fun _ => True) (Maps.size D0) w := fun l J Jx W hW hJ _ hY h0 => by
  have hown' : W.ownsMap Tryd.prog 24 R b nn D0 := by
    have hbl := hown.lt
    obtain ⟨es, clock, hb, Ft, hs, hD⟩ := hown
    exact ⟨es, clock, (hW.block b hbl).trans hb, Ft, hs, hD⟩
  exact keys_in n hn l Bm b nn D0 J Jx hY W hJ ((hW.cell (p := ⟨Bm, 0, none⟩) hBm).trans hm) hown' h0
theorem keys_any (mb : Option Nat) (w : World) : Calls Tryd.prog 66 #[.map mb] w fun e w' => e = .returned (.func (.func 82) #[] #[.pointer (some ⟨w.heap.size, 0, none⟩)]) ∧ w' = w.alloc (.cells #[.map mb] 50) := by
  go_enter Tryd.func66, Tryd.ntmps66
  go_wp2
  go_ret
  exact ⟨rfl, rfl⟩
end
end Go.Proofs.YticfpnhfhhagpaaDoor
namespace Go.Proofs.YticfpnhfhhagpaaDoor
set_option maxRecDepth 100000
open Go.RowKit Go.Shelf Go.Maps
open Go.Sort (ltInt PermIn SortedIn)
set_option linter.unusedVariables false
attribute [local go_sem] Oper.semAt_some

section
variable {w W : World}
theorem infoU : (Tryd.prog.info? 24).map (fun i => (i.zero, i.size, i.bytes)) = some (some (.int .u32 0), 1, 4) := by kernel_rfl
/-- A call has handed back numbers, in a row of its own. -/
def NumsPost (S : List Int → Prop) (w : World) (e : Ending) (w' : World) : Prop :=
  ∃ v ss, e = .returned v ∧ S ss ∧ w'.ownsRow w.heap.size 24 1 v ss.length (ss.map encU) ∧ Below w.heap.size w w'
set_option maxHeartbeats 2000000 in
theorem append_any (gf : Nat) (lb : Array Value) (eg : ∀ args w, (callFunc gf args).run Tryd.prog w = .ok (.enter gf args) w) (S : List Int → Prop) (N : Nat) (hN : N < 1048576) (w : World)
    (hseq : ∀ w', Below w.heap.size w w' → SeqStopsK Fence.wide 4 Tryd.prog gf lb (fun x => #[encU x]) KeepsWalks S (fun _ => True) N w') :
    Calls Tryd.prog 88 #[.slice none 0 0, .func (.func gf) #[] lb] w (NumsPost (fun ss => S ss) w) := by
  obtain ⟨i0, hi, hz0, hz1, hz2⟩ := info_parts infoU
  refine (callsIn_wide (n := 5)).1 ?_
  obtain ⟨w1, hw1⟩ : ∃ w1, w1 = w.alloc (.cells #[.slice none 0 0] 117) := ⟨_, rfl⟩
  have hs1 : w1.heap.size = w.heap.size + 1 := by rw [hw1]; simp
  have bO : Boxed w1 w.heap.size 117 (.slice none 0 0) := by rw [hw1]; exact Boxed.new w _ _
  have hb1 : Below w.heap.size w w1 := by rw [hw1]; exact (Below.refl _ w).alloc (Nat.le_refl _) _
  have st := Lib.hid (hseq w1 hb1)
  have G := Lib.hid (And.intro bO (And.intro hb1 hs1))
  have hw1' := Lib.hid hw1
  clear hseq bO hb1 hw1
  refine callsIn_of_wp_marks Tryd.func88 rfl trivial ?_ rfl
  simp only [Tryd.ntmps88, List.size_toArray, List.length_cons, List.length_nil, Nat.reduceAdd, Nat.reduceSub, Array.replicate_succ, Array.replicate_zero, List.push_toArray, List.append_toArray, List.nil_append, List.cons_append]
  gi_wp2_with fail
  rw [← hw1'.out]
  refine wpIn_rangeFunc_ownG rfl (by decide) (gf := gf) (lb := lb) rfl trivial eg
    st.out (fun h k => h.trans k) (fun W' l o o' h1 h2 h3 h4 => KeepsWalks.putObj o' h2 h4) (Below.refl _ _) (fun _ => rfl)
    (fun pre W' => (∃ v, Boxed W' w.heap.size 117 v ∧ W'.ownsRow w.heap.size 24 1 v pre.length (pre.map encU) ∧ True) ∧ Below w.heap.size w W')
    (fun _ _ _ => False)
    (OwnFrom.and (Own.from (holdsRow_own w.heap.size w.heap.size 117 24 1 (fun pre : List Int => pre.length) (fun pre => pre.map encU) (fun _ _ => True)) _)
      (ownFrom_below (Nat.le_refl _) (by have := G.out.2.2; omega)))
    (fun _ _ _ _ _ hs _ _ => hs)
    ⟨⟨_, G.out.1, World.ownsRow_nil _ _ _ _, trivial⟩, G.out.2.1⟩
    (fun x => { tmps := #[.slice none 0 0, .func (.func gf) #[] lb, .pointer (some ⟨w.heap.size, 0, none⟩), undef, .slice none 0 0, .int .u32 x, .func (.func gf) #[] lb, .int .u32 x, undef, undef, undef, undef, undef], defers := [] }) ?assign ?body ?done ?stop
  case assign =>
    intro l x W K hK
    dsimp only [encU]
    gi_wp2
    exact hK
  case body =>
    rintro l pre x W ⟨⟨v, hv, hrow, _⟩, hB⟩ hlt
    have hc := hv.cell
    have hwb : w.heap.size < W.heap.size := hv.lt
    gi_wp2_with (gi_at_builtin; refine wpListIn_append_own _ rfl _ _ 117 rfl w.heap.size 24 i0 (.int .u32 0) 1 4 Tryd.underlying117 hi hz0 hz1 hz2 rfl (by decide) _ _ _ rfl (hrow.alloc _) ⟨W.heap.size, 0, none⟩ 1 1 [.int .u32 x] rfl rfl (cell_one_new _ _ _) (by simp [Value.oneCell']) (by unfold maxLen; omega) (by omega) (by have := hB.size; simp; omega) ?_; intro v' w1 hown' hgrow _; obtain ⟨g', cap', rfl⟩ := ownsRow_succ hown'; obtain ⟨hv1, hv2, hr2, hk2, hb2⟩ := hv.appended (by decide) hrow hB.size (Nat.le_refl _) hown' hgrow; have hc1 := hv1.cell; have hf1 := hv1.frozen)
    exact ⟨hk2.from _, hk2.walks, ⟨_, hv2, by simpa [encU] using hr2, trivial⟩, hB.trans hb2⟩
  case done =>
    rintro D ys W hD hS ⟨⟨v, hv, hrow, _⟩, hB⟩ hK
    have hc := hv.cell
    gi_wp2
    refine ⟨by simp, .inl ⟨_, _, rfl, run_takeDeferred hK, ?_⟩⟩
    exact ⟨_, results_tmp rfl _ _ _, v, ys, rfl, hS, ownsRow_putObj hrow _ hK rfl, hB.trans (belowK_b (w := w) (Nat.le_refl _) W D _ _ (by have := G.out.2.2; omega) hK rfl rfl)⟩
  case stop =>
    rintro D c pre W _ _ h _
    exact h.elim
theorem collect_any (gf : Nat) (lb : Array Value) (eg : ∀ args w, (callFunc gf args).run Tryd.prog w = .ok (.enter gf args) w) (S : List Int → Prop) (N : Nat) (hN : N < 1048576) (w : World)
    (hseq : ∀ w', Below w.heap.size w w' → SeqStopsK Fence.wide 4 Tryd.prog gf lb (fun x => #[encU x]) KeepsWalks S (fun _ => True) N w') :
    Calls Tryd.prog 80 #[.func (.func gf) #[] lb] w (NumsPost (fun ss => S ss) w) := by
  have hA := Lib.hid (append_any gf lb eg S N hN w hseq)
  obtain ⟨D, hD⟩ : ∃ D, D = NumsPost (fun ss => S ss) w := ⟨_, rfl⟩
  rw [← hD] at hA ⊢
  replace hD := Lib.hid hD
  clear hseq eg
  go_enter Tryd.func80, Tryd.ntmps80
  go_wp2_with fail
  refine hA.out.mono ?_
  intro e w' h
  rw [hD.out] at h
  obtain ⟨v, ss, rfl, h1, h2, h3⟩ := h
  go_wp2
  rw [hD.out]
  exact ⟨v, ss, rfl, h1, h2, h3⟩
def Same0 (w : World) (e : Ending) (w' : World) : Prop := e = .returned (.tuple #[]) ∧ w' = w
/-- A list that is none is sorted. -/
theorem insert_none (w : World) : Calls Tryd.prog 91 #[.slice none 0 0, .int .i64 0, .int .i64 0] w (Same0 w) := by
  go_enter Tryd.func91, Tryd.ntmps91
  go_wp2_with fail
  go_loopw [6, 7] (fun i _ wr => i = .int .i64 1 ∧ wr = w) (fun _ _ _ => 0)
  case atStart => exact ⟨by go_num, rfl⟩
  case round =>
    obtain ⟨rfl, rfl⟩ := hrel
    go_wp2_with fail
    exact bodyPost_ret (results_none rfl _ _ _) rfl ⟨rfl, rfl⟩
theorem pdq_none (lim : Nat) (w : World) : Calls Tryd.prog 89 #[.slice none 0 0, .int .i64 0, .int .i64 0, .int .i64 lim] w (Same0 w) := by
  have hI := Lib.hid insert_none
  go_enter Tryd.func89, Tryd.ntmps89
  go_wp2_with fail
  go_loopw [1, 2, 3, 8, 9, 10, 11, 12, 13, 14, 15, 16, 17, 18] (fun v1 v2 _ _ _ _ _ _ _ _ _ _ _ _ wr => v1 = .int .i64 0 ∧ v2 = .int .i64 0 ∧ wr = w) (fun _ _ _ _ _ _ _ _ _ _ _ _ _ _ _ => 0)
  case atStart => exact ⟨rfl, rfl, rfl⟩
  case round =>
    obtain ⟨rfl, rfl, rfl⟩ := hrel
    go_wp2_with fail
    refine (hI.out _).mono ?_
    rintro e w2 ⟨rfl, rfl⟩
    go_wp2_with fail
    exact bodyPost_ret (results_none rfl _ _ _) rfl ⟨rfl, rfl⟩
theorem sort_none (w : World) : Calls Tryd.prog 81 #[.slice none 0 0] w (Same0 w) := by
  have hL := Lib.hid (show Calls Tryd.prog 90 #[.int .u64 0] w fun e w' => e = .returned (.int .i64 (0 : Nat)) ∧ w' = w from by
    have := blen_any 0 w (by omega)
    exact this)
  have hP := Lib.hid (pdq_none 0 w)
  go_enter Tryd.func81, Tryd.ntmps81
  go_wp2_with fail
  refine hL.out.mono ?_
  rintro e w2 ⟨rfl, rfl⟩
  go_wp2_with fail
  refine hP.out.mono ?_
  rintro e w2 ⟨rfl, rfl⟩
  go_wp2_with fail
  exact bodyPost_ret (results_none rfl _ _ _) rfl ⟨rfl, rfl⟩
theorem len_small (n : Nat) (hn : n < 1152921504606846976) : Lib.bitLen n ≤ 64 := Nat.le_of_not_lt fun h => by
  have h1 : 2 ^ 65 ≤ 2 ^ Lib.bitLen n := Nat.pow_le_pow_right (by decide) (by omega)
  by_cases h0 : 0 < n
  · have := (len_two n (by omega)).2 h0; omega
  · obtain rfl : n = 0 := by omega
    exact absurd h (by decide)
theorem sort_any {b : Nat} {d : Array Int} (H : RowU w b d) (cap : Nat) (hn : d.size < 288230376151711744) : Calls Tryd.prog 81 #[.slice (some ⟨b, 0, none⟩) d.size cap] w (PdqPost w b 0 d.size d) := by
  have hL := Lib.hid (blen_any d.size w (by omega))
  have hl := len_small d.size (by omega)
  generalize Lib.bitLen d.size = K at *
  have hP := Lib.hid (show Calls Tryd.prog 89 #[.slice (some ⟨b, 0, none⟩) d.size cap, .int .i64 0, .int .i64 d.size, .int .i64 K] w (PdqPost w b 0 d.size d) from
    pdq_any b cap d.size hn d.size d w H rfl 0 d.size K (by omega) (by omega) (by omega) (by omega) (.inl rfl))
  obtain ⟨D, hD⟩ : ∃ D, D = PdqPost w b 0 d.size d := ⟨_, rfl⟩
  rw [← hD] at hP ⊢
  replace hD := Lib.hid hD
  clear H
  go_enter Tryd.func81, Tryd.ntmps81
  go_wp2_with fail
  refine hL.out.mono ?_
  rintro e w2 ⟨rfl, rfl⟩
  go_wp2_with fail
  refine hP.out.mono ?_
  intro e w' h
  rw [hD.out] at h
  obtain ⟨rfl, h⟩ := h
  go_wp2_with fail
  rw [hD.out]
  exact bodyPost_ret (results_none rfl _ _ _) rfl ⟨rfl, h⟩
end
end Go.Proofs.YticfpnhfhhagpaaDoor
