/- Proved: a place is as it was put last, and nothing else changes it; places that there are not are refused (TagsKeep). For every input; no condition. -/
import Derived.Test.YtbomcakgggbacaaRows
import Derived.Test.YtbomcakgggbacaaTagG
import Derived.Test.YtbomcakgggbacaaNums
import Derived.Deep.LoopGhost
import Derived.Deep.DeepCutAuto
import Derived.ProofKit
import Derived.OpenShut
import Derived.ChangeOld
namespace Go.Proofs.Ytbomcakgggbacaa.keep
open Go.ChangeShapes Go.WideShapes Go.ChangeAt Go.RowKit
set_option linter.unusedVariables false

/-- 300 truths, none of them told yet. -/
def wants : Array Value := Array.replicate 300 (.bool false)
/-- The array of 300 truths at block q reads as f tells. -/
def ArrAt (W : World) (q : Nat) (f : Nat → Bool) : Prop := ∀ i, i < 300 → W.cell? ⟨q, i, none⟩ = some (.bool (f i)) ∧ W.frozen? ⟨q, i, none⟩ = false
theorem ArrAt.keep {W W' : World} {q : Nat} {f : Nat → Bool} (h : ArrAt W q f) (hk : W'.heap[q]? = W.heap[q]?) : ArrAt W' q f := fun i hi =>
  ⟨(World.cell?_of_block hk).trans (h i hi).1, (World.frozen?_of_block hk).trans (h i hi).2⟩
theorem ArrAt.drewN {W : World} {q : Nat} {f : Nat → Bool} (h : ArrAt W q f) (k : Nat) : ArrAt (W.drewN k) q f := h
theorem ArrAt.store {W : World} {q : Nat} {f : Nat → Bool} (h : ArrAt W q f) {a : Nat} (ha : a < 300) (v : Bool) : ArrAt (W.setCell ⟨q, a, none⟩ (.bool v)) q (upd f a v) := fun i hi => by
  refine ⟨?_, (World.frozen?_setCell _ _ _ _).trans (h i hi).2⟩
  by_cases e : i = a
  · subst e
    rw [upd_same]
    exact World.cell?_setCell_same' _ _ _ (by rw [(h i hi).1]; rfl)
  · rw [upd_ne _ _ e, World.cell?_setCell_other _ _ _ _ (fun e' => e (by simpa using (congrArg Addr.off e').symm))]
    exact (h i hi).1
theorem ArrAt.new (W : World) : ArrAt (W.alloc (.cells wants 27)) W.heap.size (fun _ => false) := fun i hi => by
  constructor
  · simp [wants, hi]
  · simp

/-- What holds at each round: the map and the array tell the same. -/
structure Inv (W wr : World) (b q sz : Nat) (f : Nat → Bool) : Prop where
  m : MapAt wr (b + 1) b sz f
  a : ArrAt wr q f
  bel : Below W.heap.size W wr
  lt : q < wr.heap.size
theorem Inv.next {W wr W' : World} {b q sz : Nat} {f g : Nat → Bool} (h : Inv W wr b q sz f) (hb : b + 1 < q ∧ W.heap.size ≤ b) (m : MapAt W' (b + 1) b sz g) (o : Off wr.heap.size b wr W') :
    ArrAt W' q f ∧ Below W.heap.size W W' ∧ q < W'.heap.size :=
  ⟨h.a.keep (o.block q h.lt (by omega)), h.bel.trans (o.below h.bel.size hb.2), Nat.lt_of_lt_of_le h.lt o.size⟩
theorem Inv.drewN {W wr : World} {b q sz : Nat} {f : Nat → Bool} (h : Inv W wr b q sz f) (k : Nat) : Inv W (wr.drewN k) b q sz f :=
  ⟨h.m.drewN k, h.a, ⟨h.bel.os, h.bel.tape, h.bel.output, h.bel.size, h.bel.block⟩, h.lt⟩

set_option maxRecDepth 100000 in
set_option maxHeartbeats 1000000 in
theorem walk (n : Int) (wn : (Lit.int .u16 n).wf = true) {H : Type} {enc : TypeId × Value → H} (v1 : Value) {d1 : DataW H} {p1 : List MemPlace} (W : World)
    (hv : Value.okWide Try.prog W .any 0 23 v1) (hd : DataW.Trod enc Try.prog W 0 (fun _ => true) true 23 v1 d1 p1) :
    Calls Try.prog 3 #[.int .u16 n, v1] W fun e w' => e = .returned (.bool true) ∧ Below W.heap.size W w' := by
  obtain ⟨A, len, cap, rfl, hcap, hm, hP⟩ := nums_of Try.underlying23 Try.underlying3 (by kernel_rfl) hv hd
  have hlen : len ≤ 9223372036854775807 := by unfold maxLen at hm; omega
  have hn := bounds_u16 wn
  obtain ⟨n, rfl⟩ := Int.eq_ofNat_of_zero_le hn.1
  have hn2 : (n : Int) ≤ 65535 := hn.2
  clear hv hd hm wn hn
  have hz : ∀ w, (zeroValue 27).run Try.prog w = .ok (.agg wants) w := fun w => by kernel_rfl
  go_enter Try.func3, Try.ntmps3
  go_wp2_with fail
  refine (works_any _).mono ?_
  rintro e W1 ⟨rfl, b1⟩
  have B1 := Lib.hid b1
  clear b1
  go_wp2_with fail
  obtain ⟨sz, hsz⟩ : ∃ sz, sz = n % 300 := ⟨_, rfl⟩
  have e1 : (n : Int) % 300 = (sz : Int) := by omega
  rw [e1]
  have hsz1 : (sz : Int) < 300 := by omega
  clear e1 hsz hn2
  refine (new_yes sz W1 (by omega)).mono ?_
  rintro e W2 ⟨rfl, m2, b2, z2⟩
  have M2 := Lib.hid m2
  have B2 := Lib.hid (B1.out.trans (b2.mono B1.out.size))
  have Z2 := Lib.hid z2
  clear m2 b2 z2
  go_wp2_with fail
  have A3 := ArrAt.new W2
  have M3 := M2.out.alloc (.cells wants 27)
  have B3 := B2.out.alloc B2.out.size (.cells wants 27)
  have Z3 : (W2.alloc (.cells wants 27)).heap.size = W2.heap.size + 1 := by simp
  generalize W2.alloc (.cells wants 27) = W3 at A3 M3 B3 Z3 ⊢
  obtain ⟨b, hb⟩ : ∃ b, b = W1.heap.size := ⟨_, rfl⟩
  obtain ⟨q, hq⟩ : ∃ q, q = W2.heap.size := ⟨_, rfl⟩
  have hbq : b + 1 < q ∧ W.heap.size ≤ b := by have := Z2.out; have := B1.out.size; omega
  rw [← hb] at M3
  rw [← hq] at A3 Z3
  rw [← hb, ← hq]
  have F3 := Lib.hid (And.intro A3 (And.intro M3 (And.intro B3 Z3)))
  clear A3 M3 B3 Z3 hb hq M2 B2 Z2 B1 hz
  have hI0 := Lib.hid (show Inv W W3 b q sz (fun _ => false) from ⟨F3.out.2.1, F3.out.1, F3.out.2.2.1, by have := F3.out.2.2.2; omega⟩)
  have hbq' := Lib.hid hbq
  clear F3 hbq
  go_loopw [8] (fun i wr => ∃ (k : Nat) (f : Nat → Bool), k ≤ len ∧ k ≤ 40 ∧ i = .int .i64 k ∧ Inv W wr b q sz f) (fun i _ => 40 - (intOf i).toNat)
  case atStart => exact ⟨0, _, by omega, by omega, rfl, hI0.out⟩
  case round =>
    obtain ⟨k, f, hk, hk2, rfl, hI⟩ := hrel
    have hI' := Lib.hid hI
    clear hI hI0
    have hk3 : (k : Int) ≤ 40 := by omega
    by_cases hin : k < len ∧ k < 40
    · obtain ⟨hin1, hin2⟩ := hin
      obtain ⟨ba, off, rfl, hba, x, hx, wx⟩ := (hP.below hI'.out.bel) k hin1
      have hx0 := bounds_i64 wx
      clear wx hba
      go_wp2_with fail
      obtain ⟨a, ha⟩ : ∃ a, a = x / 2 := ⟨_, rfl⟩
      obtain ⟨v, hv⟩ : ∃ v, v = (bits BinOp.and IntKind.i64 x 1 == 0) := ⟨_, rfl⟩
      rw [← ha, ← hv]
      clear ha hv
      by_cases hr : 0 ≤ a ∧ a < sz
      · obtain ⟨hr1, hr2⟩ := hr
        obtain ⟨a, rfl⟩ := Int.eq_ofNat_of_zero_le hr1
        refine (put_any (b + 1) b sz f a v wr hI'.out.m (by omega)).mono ?_
        rintro e W4 ⟨rfl, m4, o4⟩
        obtain ⟨A4, B4, q4⟩ := hI'.out.next hbq'.out m4 o4
        obtain ⟨c4, f4⟩ := A4 a (by omega)
        have hE := Lib.hid (show Inv W (W4.setCell ⟨q, a, none⟩ (.bool v)) b q sz (upd f a v) from
          ⟨m4.setOther (by show q ≠ b + 1; have := hbq'.out; omega) (by show q ≠ b; have := hbq'.out; omega) _, A4.store (by omega) v, B4.setCell (p := ⟨q, a, none⟩) (by show W.heap.size ≤ q; have := hbq'.out; omega) _, by simpa [World.setCell] using q4⟩)
        have i1 : (a : Int) < 300 := by omega
        clear m4 o4 A4 B4 q4 hx
        go_wp2
        go_roundw
        case rel => exact ⟨k + 1, _, by omega, by omega, by go_num, hE.out⟩
        case measure => simp [intOf]; omega
      · refine (put_no (b + 1) b sz f a v wr hI'.out.m (by omega)).mono ?_
        rintro e W4 ⟨rfl, rfl⟩
        rcases Int.lt_or_le a 0 with hr1 | hr1
        · clear hx
          go_wp2
          go_roundw
          case rel => exact ⟨k + 1, f, by omega, by omega, by go_num, hI'.out⟩
          case measure => simp [intOf]; omega
        · have hr2 : (sz : Int) ≤ a := by omega
          have hd : decide (a < (sz : Int)) = false := by simp; omega
          clear hx
          go_wp2
          go_roundw
          case rel => exact ⟨k + 1, f, by omega, by omega, by go_num, hI'.out⟩
          case measure => simp [intOf]; omega
    · have hE := Lib.hid hI'.out
      clear hI'
      generalize wr = w5 at hE ⊢
      rcases Nat.lt_or_ge k len with h1 | h1
      all_goals
        have h2 : k < len → 40 ≤ k := fun h => by omega
        have hd : k < len → decide ((k : Int) < 40) = false := fun h => by simp; omega
        go_wp2
        go_loopw [11, 12] (fun c i wr => ∃ j : Nat, j ≤ sz ∧ i = .int .i64 j ∧ c = .int .i64 (cnt f j : Nat) ∧ Inv W wr b q sz f) (fun _ i _ => sz - (intOf i).toNat)
        case atStart => exact ⟨0, by omega, rfl, rfl, hE.out⟩
        case round =>
          obtain ⟨j, hj, rfl, rfl, hI⟩ := hrel
          have hc1 : (cnt f j : Int) ≤ 300 := by have := cnt_le f j; omega
          have hc0 : 0 ≤ (cnt f j : Int) := by omega
          have hcs : cnt f (j + 1) = cnt f j + (f j).toNat := rfl
          have hI' := Lib.hid hI
          have hS := Lib.hid hcs
          obtain ⟨c, hc⟩ : ∃ c, c = cnt f j := ⟨_, rfl⟩
          rw [← hc] at hc0 hc1
          rw [← hc]
          have hC := Lib.hid hc
          clear hI hcs hc hE h1 h2 hd
          have hj2 : (j : Int) ≤ 300 := by omega
          by_cases hlt : j < sz
          · have ha := (hI'.out.a j (by omega)).1
            have hG := fun k => get_yes (b + 1) b sz f j (wr.drewN k) (hI'.out.m.drewN k) hlt
            have hi1 : (j : Int) < 300 := by omega
            cases hv : f j
            all_goals
              rw [hv] at ha
              rw [hv] at hG
              have hG' := Lib.hid hG
              have hV := Lib.hid hv
              clear hG hv
              go_wp2_with fail
              go_quiet ((go_at_call 8; exact Calls.quiet_of ((hG'.out _).mono fun _ _ h => ⟨h.1, h.2.elim fun k hk => ⟨k, hk.symm⟩⟩)))
              go_wp2
              go_roundw
              case rel => exact ⟨j + 1, by omega, by go_num, by rw [hS.out, ← hC.out, hV.out]; first | rfl | simp, hI'.out.drewN nq⟩
              case measure => simp [intOf]; omega
          · obtain rfl : j = sz := by omega
            go_wp2_with fail
            refine (count_u hI'.out.m c (by rw [hC.out])).mono ?_
            rintro e W7 ⟨rfl, m7, o7⟩
            have M7 := Lib.hid m7
            have O7 := Lib.hid o7
            clear m7 o7
            go_wp2_with fail
            refine (get_u M7.out j false (by simp)).mono ?_
            rintro e W8 ⟨rfl, m8, o8⟩
            have M8 := Lib.hid m8
            have O8 := Lib.hid (O7.out.step o8)
            clear m8 o8 M7 O7
            go_wp2_with fail
            refine (get_u M8.out (-1) false (by simp)).mono ?_
            rintro e W9 ⟨rfl, m9, o9⟩
            have O9 := Lib.hid (O8.out.step o9)
            clear m9 o9 M8 O8
            go_wp2
            go_ret
            exact ⟨rfl, hI'.out.bel.trans (O9.out.below hI'.out.bel.size hbq'.out.2)⟩
theorem own : ownKnob Try.prog.godebug = none := by kernel_rfl
theorem laidOut : laidOutB Try.prog = true := by kernel_rfl
set_option maxRecDepth 100000 in
theorem lifted (os : Os) (started : os.Started) (H : Type) (enc : TypeId × Value → H) :
    ReturnsInHanded {} Try.checked os 3 .any (Rows.tagsKeepSpec.pre6 enc Try.prog Try.f3 Rows.tagsKeepRow.domain false) (Rows.tagsKeepSpec.post enc Try.prog Try.f3 false true false false) := by
  refine returnsInHanded_of_change (C := Try.checked) own started (by kernel_rfl) Try.func3
    (ChangeSpec.witness6 (enc := enc) (C := Try.checked) false ⟨#[], #[.int .u16 0, .slice none 0 0], []⟩ 8 (by kernel_rfl) (by kernel_rfl) (by kernel_rfl) (by kernel_rfl)) ?_
  intro W base args ds gs before hval0 hW hcnd hsz
  have hval : ∀ (j : Nat) t v, Try.f3.params[j]? = some t → args[j]? = some v → Value.okWide Try.prog W .any base t v := hval0
  have hW' := hW
  obtain ⟨p, q, hA0, hV, rfl, hfz, hnd⟩ := hW
  have hA : DataW.TrodAll enc Try.prog W 0 (fun _ => true) true Try.f3.params.toList args.toList ds p := hA0
  rw [Try.params3] at hA hval
  obtain ⟨v0, vs0, d0, ds0, p0, q0, hargs, rfl, rfl, h0, r0⟩ := trodAll_cons hA
  obtain ⟨v1, vs1, d1, ds1, p1, q1, rfl, rfl, rfl, h1, r1⟩ := trodAll_cons r0
  obtain ⟨rfl, rfl, rfl⟩ := trodAll_nil r1
  obtain rfl : args = #[v0, v1] := by cases args; simp_all
  obtain ⟨rfl, rfl⟩ := trodVars_none hV
  have k0 := h0
  have lt0 : ∀ x ∈ p0, x.block < W.heap.size := by obtain ⟨m, hm⟩ := k0; exact DataW.trod_lt m _ _ _ hm
  have k1 := h1
  have lt1 : ∀ x ∈ p1, x.block < W.heap.size := by obtain ⟨m, hm⟩ := k1; exact DataW.trod_lt m _ _ _ hm
  obtain ⟨n, rfl, rfl, rfl, wn⟩ := open_int Try.underlying22 (hval 0 22 v0 rfl rfl) h0
  clear hA0 hval0
  refine (walk n wn v1 W (hval 1 23 v1 rfl rfl) k1).mono fun e W' ⟨he, bel⟩ => ?_
  subst he
  exact ⟨_, rfl, _, _, _, [], _, [], hW', trodAll_mk1 (shut_bool Try.underlying4 _), (trodAll_cons_mk (Below.trod laidOut (by kernel_rfl) (of_decide_eq_true (by kernel_rfl)) k0 bel lt0) (trodAll_cons_mk (Below.trod laidOut (by kernel_rfl) (of_decide_eq_true (by kernel_rfl)) k1 bel lt1) trodAll_mk0)), rfl, bel.frame _, fun h => by cases h⟩
theorem over : Rows.tagsKeepRow.holds Try.pinned (OpenSpec.ofChange Rows.tagsKeepSpec) :=
  OpenClaim.holds_of_wide 3 Try.f3 rfl rfl rfl rfl rfl rfl rfl ⟨rfl, rfl, rfl, rfl, rfl⟩ rfl rfl rfl rfl rfl (by kernel_rfl) Try.func3 (by kernel_rfl)
    (of_decide_eq_true (by kernel_rfl)) (by unfold Func.isWrapper; first | (rw [if_pos (by decide +kernel)]; kernel_rfl) | (rw [if_neg (by decide +kernel)]; exact ⟨rfl, rfl⟩))
    (fun os started H enc _ => lifted os started H enc)
/-- The given statement. -/
theorem proved : Rows.TagsKeepSaid := over
end Go.Proofs.Ytbomcakgggbacaa.keep
