/- Proved: whatever is asked of a reader of any bytes, it answers what the document says (OctetReads). For every input; no condition. -/
import Derived.Test.YtedhpjolbgfdeaaRows
import Derived.Test.YtedhpjolbgfdeaaOctR
import Derived.Test.YtedhpjolbgfdeaaPlaces
import Derived.Deep.LoopGhost
import Derived.Deep.DeepCutAuto
import Derived.Deep.RegionWith
import Derived.ProofKit
import Derived.OpenShut
import Derived.ShutString
import Derived.ChangeOld
namespace Go.Proofs.Ytedhpjolbgfdeaa.reads
open Go.ChangeShapes Go.WideShapes Go.ChangeAt Go.RowKit
open Go.ChangeMaps (open_string shut_string)
set_option linter.unusedVariables false

/-- The loop's relation at round j: reader and mirror have the same bytes left. -/
def Inv (W wr : World) (r src qb : Nat) (A : Option Addr) (n : Nat) (l : List UInt8) : Prop :=
  Rd wr r src l ∧ wr.heap[qb]? = some (.cells #[.string ⟨l.toArray⟩] 41 (0, 0)) ∧ Below W.heap.size W wr ∧ W.heap.size ≤ src ∧ W.heap.size ≤ r ∧ W.heap.size ≤ qb ∧ qb ≠ src ∧ PlacesIn wr W.heap.size A n

theorem inv_q {W wr : World} {r src qb : Nat} {A : Option Addr} {n : Nat} {l : List UInt8} (h : Inv W wr r src qb A n l) : wr.cell? ⟨qb, 0, none⟩ = some (.string ⟨l.toArray⟩) := cell_at h.2.1 0
theorem inv_left {W wr w' : World} {r src qb : Nat} {A : Option Addr} {n : Nat} {l l' : List UInt8} (h : Inv W wr r src qb A n l) (h1 : Rd w' r src l') (h2 : wr.grownBy w' (some src)) :
    w'.heap[qb]? = some (.cells #[.string ⟨l.toArray⟩] 41 (0, 0)) ∧ Below W.heap.size W w' ∧ PlacesIn w' W.heap.size A n := by
  obtain ⟨_, hq, hb, hs, _, _, hne, hp⟩ := h
  have hbw : Below W.heap.size wr w' := (Below.refl _ _).grown h2 hb.size (fun k hk => by have := Option.some.inj hk; omega)
  exact ⟨(h2.block qb (lt_of_at hq) (fun e => hne (Option.some.inj e))).trans hq, hb.trans hbw, hp.below hbw⟩
theorem inv_stay {W wr w' : World} {r src qb : Nat} {A : Option Addr} {n : Nat} {l : List UInt8} (h : Inv W wr r src qb A n l) (h1 : Rd w' r src l) (h2 : wr.grownBy w' (some src)) : Inv W w' r src qb A n l := by
  obtain ⟨a, b, c⟩ := inv_left h h1 h2
  exact ⟨h1, a, b, h.2.2.2.1, h.2.2.2.2.1, h.2.2.2.2.2.1, h.2.2.2.2.2.2.1, c⟩
theorem inv_step {W wr w2 w3 : World} {r src qb : Nat} {A : Option Addr} {n : Nat} {l l' : List UInt8} (h : Inv W wr r src qb A n l) (h1 : Rd w2 r src l') (h2 : wr.grownBy w2 (some src)) (h3 : Below w2.heap.size w2 w3) (hr : r ≠ qb) :
    Inv W (w3.setCell ⟨qb, 0, none⟩ (.string ⟨l'.toArray⟩)) r src qb A n l' := by
  obtain ⟨a, b, c⟩ := inv_left h h1 h2
  have hz : w2.heap.size ≤ w3.heap.size := h3.size
  have hq : qb < w2.heap.size := lt_of_at a
  have hW : W.heap.size ≤ w2.heap.size := b.size
  have hs4 : ∀ v : Value, (w3.setCell ⟨qb, 0, none⟩ v).heap.size = w3.heap.size := fun v => by simp
  have hq' : W.heap.size ≤ qb := h.2.2.2.2.2.1
  have keep : ∀ (v : Value) g, g < w2.heap.size → g ≠ qb → (w3.setCell ⟨qb, 0, none⟩ v).heap[g]? = w2.heap[g]? := fun v g hg hne => by
    rw [Below.heap_setCell _ _ _ _ hne, h3.block g hg]
  have hb4 : ∀ (v : Value), Below W.heap.size w2 (w3.setCell ⟨qb, 0, none⟩ v) := fun v => (h3.mono hW).setCell hq' v
  obtain ⟨hne, hrr, hl, bb, off, cap, hbs, hc, hsrc, hcell⟩ := h1
  have hlt : r < w2.heap.size ∧ src < w2.heap.size := ⟨lt_of_at hrr, lt_of_at hsrc⟩
  have hnq : src ≠ qb := fun e => h.2.2.2.2.2.2.1 e.symm
  refine ⟨⟨hne, (keep _ r hlt.1 hr).trans hrr, hl, bb, off, cap, hbs, hc, (keep _ src hlt.2 hnq).trans hsrc, fun j u hu => ?_⟩, ?_, b.trans (hb4 _), h.2.2.2.1, h.2.2.2.2.1, hq', h.2.2.2.2.2.2.1, c.below (hb4 _)⟩
  · have hcj := hcell j u hu
    by_cases hbq : bb = qb
    · exfalso
      subst hbq
      rw [cell_at a] at hcj
      rcases Nat.eq_zero_or_pos (off + j) with h0 | h0
      · rw [h0] at hcj; simp at hcj
      · rw [Array.getElem?_eq_none (by simp; omega)] at hcj; cases hcj
    · exact (World.cell?_of_block (w := w2) (keep _ bb (by omega) hbq)).trans hcj
  · exact set_at ((h3.block qb hq).trans a) _

/-- What the mirror's step leaves: the new mirror in a block of its own. -/
def MidT (w2 : World) (p : Value) (l : List UInt8) (w' : World) : Prop := ∃ g, p = .pointer (some ⟨g, 0, none⟩) ∧ Below w2.heap.size w2 w' ∧ w'.cell? ⟨g, 0, none⟩ = some (.string ⟨l.toArray⟩)
theorem from_last {f : FuncId} {args : Array Value} {v : Value} {w2 : World} (h : Calls Try.prog f args w2.drew fun e w' => e = .returned v ∧ Below w2.drew.heap.size w2.drew w') :
    Calls Try.prog f args w2.drew fun e w' => e = .returned v ∧ Below w2.heap.size w2 w' :=
  h.mono fun _ _ ⟨h1, hb⟩ => ⟨h1, ((Below.refl _ _).drew).trans hb⟩
theorem from_first {f : FuncId} {args : Array Value} {v u : Value} {t : TypeId} {w2 : World} (h : Calls Try.prog f args (w2.alloc (.cells #[u] t)).drew fun e w' => e = .returned v ∧ Below (w2.alloc (.cells #[u] t)).drew.heap.size (w2.alloc (.cells #[u] t)).drew w') :
    Calls Try.prog f args (w2.alloc (.cells #[u] t)).drew fun e w' => e = .returned v ∧ w'.cell? ⟨w2.heap.size, 0, none⟩ = some u ∧ w'.frozen? ⟨w2.heap.size, 0, none⟩ = false ∧ Below w2.heap.size w2 w' :=
  h.mono fun _ _ ⟨h1, hb⟩ => ⟨h1, (hb.cell (p := ⟨w2.heap.size, 0, none⟩) (by simp)).trans (World.cell?_alloc_at (w := w2) _ _ _ _ rfl), (hb.frozen (p := ⟨w2.heap.size, 0, none⟩) (by simp)).trans (World.frozen?_alloc_at (w := w2) _ _ _ _ rfl), (((Below.refl _ _).alloc (Nat.le_refl _) _).drew).trans (hb.mono (by simp))⟩
theorem left_inv {W w : World} {r src qb : Nat} {A : Option Addr} {n : Nat} {l : List UInt8} (h : Inv W w r src qb A n l) :
    Calls Try.prog 22 #[.pointer (some ⟨r, 0, none⟩)] w.drew fun e w' => e = .returned (.int .i64 l.length) ∧ Inv W w' r src qb A n l :=
  (Left_any r src l w.drew (h.1.drewN 1)).mono fun e w' ⟨h1, h2, h3⟩ => ⟨h1, inv_stay h h2 ⟨h3.os, h3.tape, h3.output, h3.size, h3.block⟩⟩

set_option maxRecDepth 100000 in
set_option maxHeartbeats 2000000 in
theorem walk (s : ByteArray) (ws : s.size ≤ maxLen) {H : Type} {enc : TypeId × Value → H} (v1 : Value) {d1 : DataW H} {p1 : List MemPlace} (W : World)
    (hv : Value.okWide Try.prog W .any 0 37 v1) (hd : DataW.Trod enc Try.prog W 0 (fun _ => true) true 37 v1 d1 p1) :
    Calls Try.prog 6 #[.string s, v1] W fun e w' => e = .returned (.bool true) ∧ Below W.heap.size W w' := by
  obtain ⟨A, n, cap, rfl, hcap, hm, hP⟩ := places_of hv hd
  have hn : n ≤ 9223372036854775807 := by unfold maxLen at hm; omega
  clear hv hd hm ws
  go_enter Try.func6, Try.ntmps6
  go_upto_region 1 with (fail)
  go_cut [0] (fun s w' => ∃ l : List UInt8, s = .string ⟨l.toArray⟩ ∧ l.length ≤ 5000 ∧ W = w')
  case first =>
    go_wp2_with fail
    · go_meet
      obtain ⟨l, hl, hq⟩ := cut_str s 5000
      exact ⟨l, by rw [← hl], by omega, by first | rfl | trivial⟩
    · go_meet
      obtain ⟨l, rfl⟩ := str_list s
      simp only [size_list] at *
      exact ⟨l, rfl, by omega, by first | rfl | trivial⟩
  case rest =>
    obtain ⟨l, rfl, hl5, rfl⟩ := hcut
    go_wp2_with fail
    refine (New_any l _ (by omega)).mono ?_
    rintro e w1 ⟨r, src, rfl, hr, hb, hs1, hr1⟩
    have hr' := Lib.hid hr
    have hb' := Lib.hid hb
    clear hr hb
    go_wp2_with fail
    have hz1 := Lib.hid (Nat.lt_of_lt_of_le (Nat.lt_of_le_of_lt hs1 hr'.out.lt.2) (Nat.le_refl _))
    go_loopw [7] (fun i wr => ∃ (j : Nat) (l' : List UInt8), j ≤ 60 ∧ i = .int .i64 j ∧ Inv W wr r src w1.heap.size A n l') (fun i _ => 60 - (intOf i).toNat)
    case atStart =>
      refine ⟨0, l, by omega, rfl, ?_⟩
      have hlt := hr'.out.lt
      have hbb : Below w1.heap.size w1 (w1.alloc (.cells #[.string ⟨l.toArray⟩] 41)) := by go_grown
      exact ⟨hr'.out.below hbb, heap_alloc_new _ _, hb'.out.trans (hbb.mono hb'.out.size), hs1, hr1, hb'.out.size, by omega, (hP.below hb'.out).below (hbb.mono hb'.out.size)⟩
    case round =>
      try clear hs1 hr1
      obtain ⟨j, l', hj, rfl, hI⟩ := hrel
      have hI' := Lib.hid hI
      clear hI
      by_cases h60 : j < 60
      · by_cases hjn : j < n
        · obtain ⟨b, off, hA, hbW, x, y, v, c0, c1, c2, hx, hy, hv4⟩ := hI'.out.2.2.2.2.2.2.2 j hjn
          subst hA
          by_cases hy0 : y = 0
          · subst hy0
            go_wp2_with fail
            refine (Take_any r src l' x wr hI'.out.1).mono ?_
            rintro e w2 ⟨rfl, hrd2, hg2⟩
            have hqb := (hg2.block w1.heap.size (lt_of_at hI'.out.2.1) (fun e => hI'.out.2.2.2.2.2.2.1 (Option.some.inj e))).trans hI'.out.2.1
            have q0 := cell_at hqb 0
            have c0' : w2.cell? ⟨b, off + j * 3, none⟩ = some (.int .i64 x) := (World.cell?_of_block (w := wr) (w' := w2) (a := ⟨b, off + j * 3, none⟩) (hg2.block b (lt_of_cell c0) (fun e => by have := Option.some.inj e; have := hI'.out.2.2.2.1; omega))).trans c0
            have H2 := Lib.hid (And.intro hrd2 (And.intro hg2 hqb))
            clear hrd2 hg2 hqb c0 c1 c2
            have hzq2 : w1.heap.size < w2.heap.size := lt_of_at H2.out.2.2
            have hzb2 : b < w2.heap.size := lt_of_cell c0'
            go_upto_region 11 with (fail)
            go_cut [10, 11, 12] (fun s10 s11 s12 w' => MidT w2 s10 (restT l' x) w' ∧ s11 = .string ⟨(pieceT l' x).toArray⟩ ∧ s12 = .bool (okT l'.length x))
            case first =>
              have cA := Lib.hid (from_last (refTake_any l' x w2.drew hI'.out.1.2.2.1))
              have cB := Lib.hid (from_first (refTake_any l' x (w2.alloc (.cells #[.string ⟨#[]⟩] 41)).drew hI'.out.1.2.2.1))
              go_region_with (first | (go_at_call 19; ((with_reducible refine cA.out.mono ?_); rintro e w3 ⟨rfl, hB⟩)) | (go_at_call 19; ((with_reducible refine cB.out.mono ?_); rintro e w3 ⟨rfl, k1, k2, hB⟩)))
              all_goals
                go_wp2_with fail
                go_meet
                first
                  | exact ⟨⟨_, rfl, hB.alloc hB.size _, by simp [go_sem]⟩, rfl, rfl⟩
                  | exact ⟨⟨_, rfl, hB.setCell (Nat.le_refl _) _, by simp [go_sem, k1]⟩, rfl, rfl⟩
            case rest =>
            obtain ⟨⟨g, rfl, hb3, hgc⟩, rfl, rfl⟩ := hcut
            have hqb3 := (hb3.block w1.heap.size (lt_of_at H2.out.2.2)).trans H2.out.2.2
            have q3 := cell_at hqb3 0
            have f3 := free_at hqb3 0
            have H3 := Lib.hid (And.intro hb3 hqb3)
            clear hb3 hqb3 q0 c0' hzq2 hzb2
            go_wp2_with fail
            obtain ⟨W4, hW4⟩ : ∃ W4, W4 = wc.setCell ⟨w1.heap.size, 0, none⟩ (.string ⟨(restT l' x).toArray⟩) := ⟨_, rfl⟩
            have H4 := Lib.hid (show Inv W W4 r src w1.heap.size (some ⟨b, off, none⟩) n (restT l' x) from by rw [hW4]; exact inv_step hI'.out H2.out.1 H2.out.2.1 H3.out.1 (Nat.ne_of_lt hr'.out.lt.1))
            rw [← hW4]
            have q4 := inv_q H4.out
            clear hW4 q3 f3 hgc
            have hLeft := Lib.hid (left_inv H4.out)
            go_region_with (go_at_call 22; refine hLeft.out.mono ?_; rintro e w5 ⟨rfl, hI5⟩; have q5 := inv_q hI5)
            all_goals
              go_wp2
              go_roundw
              case rel => exact ⟨j + 1, _, by omega, by go_num, hI5⟩
              case measure => simp [intOf]; omega
          · have hyb : (y == 0) = false := by simpa using hy0
            go_wp2_with fail
            refine (Number_any r src l' y wr hI'.out.1).mono ?_
            rintro e w2 ⟨rfl, hrd2, hg2⟩
            have hqb := (hg2.block w1.heap.size (lt_of_at hI'.out.2.1) (fun e => hI'.out.2.2.2.2.2.2.1 (Option.some.inj e))).trans hI'.out.2.1
            have q0 := cell_at hqb 0
            have c0' : w2.cell? ⟨b, off + j * 3 + 1, none⟩ = some (.int .i64 y) := (World.cell?_of_block (w := wr) (w' := w2) (a := ⟨b, off + j * 3 + 1, none⟩) (hg2.block b (lt_of_cell c1) (fun e => by have := Option.some.inj e; have := hI'.out.2.2.2.1; omega))).trans c1
            have H2 := Lib.hid (And.intro hrd2 (And.intro hg2 hqb))
            clear hrd2 hg2 hqb c0 c1 c2
            have hzq2 : w1.heap.size < w2.heap.size := lt_of_at H2.out.2.2
            have hzb2 : b < w2.heap.size := lt_of_cell c0'
            go_upto_region 16 with (fail)
            go_cut [15, 16, 17] (fun s10 s11 s12 w' => MidT w2 s10 (restN l' y) w' ∧ s11 = .int .u32 (numT l' y : Nat) ∧ s12 = .bool (okN l'.length y))
            case first =>
              have cA := Lib.hid (from_last (refNumber_any l' y w2.drew hI'.out.1.2.2.1))
              have cB := Lib.hid (from_first (refNumber_any l' y (w2.alloc (.cells #[.string ⟨#[]⟩] 41)).drew hI'.out.1.2.2.1))
              go_region_with (first | (go_at_call 21; ((with_reducible refine cA.out.mono ?_); rintro e w3 ⟨rfl, hB⟩)) | (go_at_call 21; ((with_reducible refine cB.out.mono ?_); rintro e w3 ⟨rfl, k1, k2, hB⟩)))
              all_goals
                go_wp2_with fail
                go_meet
                first
                  | exact ⟨⟨_, rfl, hB.alloc hB.size _, by simp [go_sem]⟩, rfl, rfl⟩
                  | exact ⟨⟨_, rfl, hB.setCell (Nat.le_refl _) _, by simp [go_sem, k1]⟩, rfl, rfl⟩
            case rest =>
            obtain ⟨⟨g, rfl, hb3, hgc⟩, rfl, rfl⟩ := hcut
            have hqb3 := (hb3.block w1.heap.size (lt_of_at H2.out.2.2)).trans H2.out.2.2
            have q3 := cell_at hqb3 0
            have f3 := free_at hqb3 0
            have H3 := Lib.hid (And.intro hb3 hqb3)
            clear hb3 hqb3 q0 c0' hzq2 hzb2
            go_wp2_with fail
            obtain ⟨W4, hW4⟩ : ∃ W4, W4 = wc.setCell ⟨w1.heap.size, 0, none⟩ (.string ⟨(restN l' y).toArray⟩) := ⟨_, rfl⟩
            have H4 := Lib.hid (show Inv W W4 r src w1.heap.size (some ⟨b, off, none⟩) n (restN l' y) from by rw [hW4]; exact inv_step hI'.out H2.out.1 H2.out.2.1 H3.out.1 (Nat.ne_of_lt hr'.out.lt.1))
            rw [← hW4]
            have q4 := inv_q H4.out
            clear hW4 q3 f3 hgc
            have hLeft := Lib.hid (left_inv H4.out)
            go_region_with (go_at_call 22; refine hLeft.out.mono ?_; rintro e w5 ⟨rfl, hI5⟩; have q5 := inv_q hI5)
            all_goals
              go_wp2
              go_roundw
              case rel => exact ⟨j + 1, _, by omega, by go_num, hI5⟩
              case measure => simp [intOf]; omega
        · go_wp2_with fail
          refine (works_any _).mono ?_
          rintro e w6 ⟨rfl, hb6⟩
          have hb6' := Lib.hid hb6
          clear hb6
          go_wp2_with fail
          go_ret
          exact ⟨rfl, hI'.out.2.2.1.trans (hb6'.out.mono hI'.out.2.2.1.size)⟩
      · go_wp2_with fail
        all_goals
          refine (works_any _).mono ?_
          rintro e w6 ⟨rfl, hb6⟩
          have hb6' := Lib.hid hb6
          clear hb6
          go_wp2_with fail
          go_ret
          exact ⟨rfl, hI'.out.2.2.1.trans (hb6'.out.mono hI'.out.2.2.1.size)⟩
theorem own : ownKnob Try.prog.godebug = none := by kernel_rfl
theorem laidOut : laidOutB Try.prog = true := by kernel_rfl
set_option maxRecDepth 100000 in
theorem lifted (os : Os) (started : os.Started) (H : Type) (enc : TypeId × Value → H) :
    ReturnsInHanded {} Try.checked os 6 .any (Rows.octetReadsSpec.pre6 enc Try.prog Try.f6 Rows.octetReadsRow.domain false) (Rows.octetReadsSpec.post enc Try.prog Try.f6 false true false false) := by
  refine returnsInHanded_of_change (C := Try.checked) own started (by kernel_rfl) Try.func6
    (ChangeSpec.witness6 (enc := enc) (C := Try.checked) false ⟨#[], #[.string ByteArray.empty, .slice none 0 0], []⟩ 8 (by kernel_rfl) (by kernel_rfl) (by kernel_rfl) (by kernel_rfl)) ?_
  intro W base args ds gs before hval0 hW hcnd hsz
  have hval : ∀ (j : Nat) t v, Try.f6.params[j]? = some t → args[j]? = some v → Value.okWide Try.prog W .any base t v := hval0
  have hW' := hW
  obtain ⟨p, q, hA0, hV, rfl, hfz, hnd⟩ := hW
  have hA : DataW.TrodAll enc Try.prog W 0 (fun _ => true) true Try.f6.params.toList args.toList ds p := hA0
  rw [Try.params6] at hA hval
  obtain ⟨v0, vs0, d0, ds0, p0, q0, hargs, rfl, rfl, h0, r0⟩ := trodAll_cons hA
  obtain ⟨v1, vs1, d1, ds1, p1, q1, rfl, rfl, rfl, h1, r1⟩ := trodAll_cons r0
  obtain ⟨rfl, rfl, rfl⟩ := trodAll_nil r1
  obtain rfl : args = #[v0, v1] := by cases args; simp_all
  obtain ⟨rfl, rfl⟩ := trodVars_none hV
  have k0 := h0
  have lt0 : ∀ x ∈ p0, x.block < W.heap.size := by obtain ⟨m, hm⟩ := k0; exact DataW.trod_lt m _ _ _ hm
  have k1 := h1
  have lt1 : ∀ x ∈ p1, x.block < W.heap.size := by obtain ⟨m, hm⟩ := k1; exact DataW.trod_lt m _ _ _ hm
  obtain ⟨s, rfl, rfl, rfl, ws⟩ := open_string Try.underlying9 (hval 0 9 v0 rfl rfl) h0
  clear hA0 hval0
  refine (walk s ws v1 W (hval 1 37 v1 rfl rfl) k1).mono fun e W' ⟨he, bel⟩ => ?_
  subst he
  exact ⟨_, rfl, _, _, _, [], _, [], hW', trodAll_mk1 (shut_bool Try.underlying4 _), (trodAll_cons_mk (Below.trod laidOut (by kernel_rfl) (of_decide_eq_true (by kernel_rfl)) k0 bel lt0) (trodAll_cons_mk (Below.trod laidOut (by kernel_rfl) (of_decide_eq_true (by kernel_rfl)) k1 bel lt1) trodAll_mk0)), rfl, bel.frame _, fun h => by cases h⟩
theorem over : Rows.octetReadsRow.holds Try.pinned (OpenSpec.ofChange Rows.octetReadsSpec) :=
  OpenClaim.holds_of_wide 6 Try.f6 rfl rfl rfl rfl rfl rfl rfl ⟨rfl, rfl, rfl, rfl, rfl⟩ rfl rfl rfl rfl rfl (by kernel_rfl) Try.func6 (by kernel_rfl)
    (of_decide_eq_true (by kernel_rfl)) (by unfold Func.isWrapper; first | (rw [if_pos (by decide +kernel)]; kernel_rfl) | (rw [if_neg (by decide +kernel)]; exact ⟨rfl, rfl⟩))
    (fun os started H enc _ => lifted os started H enc)
/-- The given statement. -/
theorem proved : Rows.OctetReadsSaid := over
end Go.Proofs.Ytedhpjolbgfdeaa.reads
