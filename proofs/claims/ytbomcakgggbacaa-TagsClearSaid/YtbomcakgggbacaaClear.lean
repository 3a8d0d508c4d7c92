/- Proved: what is cleared are just the places between two ends, and as many as were set there; the others stay (TagsClear). For every input; no condition. -/
import Derived.Test.YtbomcakgggbacaaRows
import Derived.Test.YtbomcakgggbacaaTagG
import Derived.Test.YtbomcakgggbacaaNums
import Derived.Deep.LoopGhost
import Derived.Deep.DeepCutAuto
import Derived.ProofKit
import Derived.OpenShut
import Derived.ChangeOld
namespace Go.Proofs.Ytbomcakgggbacaa.clear
open Go.ChangeShapes Go.WideShapes Go.ChangeAt Go.RowKit
set_option linter.unusedVariables false

/-- Every so manieth place below i. -/
def every (st i : Nat) : Nat → Bool := fun k => decide (k < i) && decide (k % st = 0)
/-- Between the two ends. -/
def rng (x y : Int) : Nat → Bool := fun k => decide (x ≤ (k : Int)) && decide ((k : Int) < y)
theorem every_zero (st : Nat) (k : Nat) : (false : Bool) = every st 0 k := by simp [every]
theorem every_step {st i : Nat} (h1 : 1 ≤ st) (h9 : st ≤ 9) (hi : i % st = 0) (k : Nat) : upd (every st i) i true k = every st (i + st) k ∧ (i + st) % st = 0 := by
  refine ⟨?_, by simp [hi]⟩
  by_cases e : k = i
  · subst e; rw [upd_same]; simp [every, hi]; omega
  · rw [upd_ne _ _ e]
    unfold every
    rw [Bool.eq_iff_iff]
    simp only [Bool.and_eq_true, decide_eq_true_eq]
    have : st = 1 ∨ st = 2 ∨ st = 3 ∨ st = 4 ∨ st = 5 ∨ st = 6 ∨ st = 7 ∨ st = 8 ∨ st = 9 := by omega
    rcases this with rfl | rfl | rfl | rfl | rfl | rfl | rfl | rfl | rfl <;> omega
theorem every_end {st i n : Nat} (h1 : 1 ≤ st) (h9 : st ≤ 9) (hi : i % st = 0) (hn : n ≤ i) (hlt : i < n + st) (k : Nat) : every st i k = every st n k := by
  unfold every
  rw [Bool.eq_iff_iff]
  simp only [Bool.and_eq_true, decide_eq_true_eq]
  have : st = 1 ∨ st = 2 ∨ st = 3 ∨ st = 4 ∨ st = 5 ∨ st = 6 ∨ st = 7 ∨ st = 8 ∨ st = 9 := by omega
  rcases this with rfl | rfl | rfl | rfl | rfl | rfl | rfl | rfl | rfl <;> omega
theorem every_rng {st n : Nat} (x y : Int) (k : Nat) : (every st n k && inr (max x 0).toNat (min y n).toNat k) = (every st n k && rng x y k) := by
  unfold every inr rng
  rw [Bool.eq_iff_iff]
  simp only [Bool.and_eq_true, decide_eq_true_eq]
  omega
theorem every_not {st n : Nat} (x y : Int) (k : Nat) : (every st n k && !inr (max x 0).toNat (min y n).toNat k) = (every st n k && !rng x y k) := by
  have h := every_rng (st := st) (n := n) x y k
  cases e : every st n k with
  | false => simp
  | true =>
    rw [e] at h
    simp only [Bool.true_and] at h ⊢
    rw [h]

/-- What holds at each round. -/
structure Inv (W wr : World) (b q n : Nat) (x y : Int) (f : Nat → Bool) : Prop where
  m : MapAt wr (b + 1) b n f
  c0 : wr.cell? ⟨q, 0, none⟩ = some (.int .i64 x)
  c1 : wr.cell? ⟨q, 1, none⟩ = some (.int .i64 y)
  bel : Below W.heap.size W wr
  lt : q < wr.heap.size
theorem Inv.next {W wr W' : World} {b q n : Nat} {x y : Int} {f g : Nat → Bool} (h : Inv W wr b q n x y f) (hb : q < b ∧ W.heap.size ≤ b) (m : MapAt W' (b + 1) b n g) (o : Off wr.heap.size b wr W') : Inv W W' b q n x y g :=
  ⟨m, (o.cell (p := ⟨q, 0, none⟩) h.lt (by show q ≠ b; omega)).trans h.c0, (o.cell (p := ⟨q, 1, none⟩) h.lt (by show q ≠ b; omega)).trans h.c1, h.bel.trans (o.below h.bel.size hb.2), Nat.lt_of_lt_of_le h.lt o.size⟩
theorem Inv.drewN {W wr : World} {b q n : Nat} {x y : Int} {f : Nat → Bool} (h : Inv W wr b q n x y f) (k : Nat) : Inv W (wr.drewN k) b q n x y f :=
  ⟨h.m.drewN k, h.c0, h.c1, ⟨h.bel.os, h.bel.tape, h.bel.output, h.bel.size, h.bel.block⟩, h.lt⟩

set_option maxRecDepth 100000 in
set_option maxHeartbeats 1000000 in
theorem walk (n : Int) (wn : (Lit.int .u16 n).wf = true) (s : Int) (ws : (Lit.int .u8 s).wf = true) {H : Type} {enc : TypeId × Value → H} (v2 : Value) {d2 : DataW H} {p2 : List MemPlace} (W : World)
    (hv : Value.okWide Try.prog W .any 0 33 v2) (hd : DataW.Trod enc Try.prog W 0 (fun _ => true) true 33 v2 d2 p2) :
    Calls Try.prog 4 #[.int .u16 n, .int .u8 s, v2] W fun e w' => e = .returned (.bool true) ∧ Below W.heap.size W w' := by
  obtain ⟨x, y, rfl, wx, wy⟩ := pair_of Try.underlying33 Try.underlying3 (by kernel_rfl) (by kernel_rfl) hv hd
  have hx := bounds_i64 wx
  have hy := bounds_i64 wy
  have hn := bounds_u16 wn
  have hs := bounds_u8 ws
  obtain ⟨n, rfl⟩ := Int.eq_ofNat_of_zero_le hn.1
  obtain ⟨s, rfl⟩ := Int.eq_ofNat_of_zero_le hs.1
  have hn2 : (n : Int) ≤ 65535 := hn.2
  have hs2 : (s : Int) ≤ 255 := hs.2
  clear hv hd wn ws hn hs wx wy
  obtain ⟨W0, hW0⟩ : ∃ W0, W0 = W.alloc (.cells #[.int .i64 x, .int .i64 y] 33) := ⟨_, rfl⟩
  have C0 := Lib.hid (show W0.cell? ⟨W.heap.size, 0, none⟩ = some (.int .i64 x) ∧ W0.cell? ⟨W.heap.size, 1, none⟩ = some (.int .i64 y) ∧ Below W.heap.size W W0 ∧ W0.heap.size = W.heap.size + 1 from by
    rw [hW0]; exact ⟨by simp, by simp, (Below.refl _ _).alloc (Nat.le_refl _) _, by simp⟩)
  have hW0' := Lib.hid hW0
  clear hW0
  go_enter Try.func4, Try.ntmps4
  go_wp2_with fail
  rw [← hW0'.out]
  refine (works_any _).mono ?_
  rintro e W1 ⟨rfl, b1⟩
  have B1 := Lib.hid b1
  clear b1
  go_wp2_with fail
  obtain ⟨sz, hsz⟩ : ∃ sz, sz = n % 300 := ⟨_, rfl⟩
  obtain ⟨st, hst⟩ : ∃ st, st = 1 + s % 9 := ⟨_, rfl⟩
  have e1 : (n : Int) % 300 = (sz : Int) := by omega
  have e2 : 1 + (s : Int) % 9 = (st : Int) := by omega
  rw [e1, e2]
  have hsz1 : (sz : Int) < 300 := by omega
  have hst1 : 1 ≤ (st : Int) := by omega
  have hst2 : (st : Int) ≤ 9 := by omega
  clear e1 e2 hsz hst hn2 hs2
  refine (new_yes sz W1 (by omega)).mono ?_
  rintro e W2 ⟨rfl, m2, b2, z2⟩
  obtain ⟨b, hb⟩ : ∃ b, b = W1.heap.size := ⟨_, rfl⟩
  obtain ⟨q, hq⟩ : ∃ q, q = W.heap.size := ⟨_, rfl⟩
  rw [← hb] at m2 z2
  rw [← hb, ← hq]
  have hbq' := Lib.hid (show q < b ∧ W.heap.size ≤ b from by have := B1.out.size; have := C0.out.2.2.2; omega)
  have hI0 := Lib.hid (show Inv W W2 b q sz x y (every st 0) from by
    obtain ⟨d0, d1, d2, d3⟩ := C0.out
    have bb : Below W0.heap.size W0 W2 := B1.out.trans (b2.mono B1.out.size)
    have lq : W.heap.size < W0.heap.size := by omega
    exact ⟨m2.congr (every_zero st), by rw [hq]; exact (bb.cell (p := ⟨W.heap.size, 0, none⟩) lq).trans d0, by rw [hq]; exact (bb.cell (p := ⟨W.heap.size, 1, none⟩) lq).trans d1, d2.trans (bb.mono (by omega)), by have := bb.size; omega⟩)
  clear m2 b2 z2 hb hq B1 C0
  go_wp2
  go_loopw [10] (fun i wr => ∃ k : Nat, k % st = 0 ∧ k < sz + st ∧ i = .int .i64 k ∧ Inv W wr b q sz x y (every st k)) (fun i _ => 400 - (intOf i).toNat)
  case atStart => exact ⟨0, by simp, by omega, rfl, hI0.out⟩
  case round =>
    obtain ⟨k, hk, hk2, rfl, hI⟩ := hrel
    have hI' := Lib.hid hI
    have hk' := Lib.hid hk
    have hk3 : (k : Int) ≤ 400 := by omega
    clear hI hk hI0
    by_cases hlt : k < sz
    · go_wp2_with fail
      refine (put_any (b + 1) b sz (every st k) k true wr hI'.out.m hlt).mono ?_
      rintro e W4 ⟨rfl, m4, o4⟩
      have hE := Lib.hid (hI'.out.next hbq'.out (m4.congr fun j => (every_step (by omega) (by omega) hk'.out j).1) o4)
      clear m4 o4
      go_wp2
      go_roundw
      case rel => exact ⟨k + st, (every_step (by omega) (by omega) hk'.out 0).2, by omega, by go_num, hE.out⟩
      case measure => simp [intOf]; omega
    · have hE := Lib.hid (show Inv W wr b q sz x y (every st sz) from ⟨hI'.out.m.congr (every_end (by omega) (by omega) hk'.out (by omega) (by omega)), hI'.out.c0, hI'.out.c1, hI'.out.bel, hI'.out.lt⟩)
      clear hI' hk'
      generalize wr = w5 at hE ⊢
      go_wp2
      go_loopw [11, 12] (fun c i wr => ∃ j : Nat, j ≤ sz ∧ i = .int .i64 j ∧ c = .int .i64 (cnt (fun k => every st sz k && rng x y k) j : Nat) ∧ Inv W wr b q sz x y (every st sz)) (fun _ i _ => sz - (intOf i).toNat)
      case atStart => exact ⟨0, by omega, rfl, rfl, hE.out⟩
      case round =>
        obtain ⟨j, hj, rfl, rfl, hI⟩ := hrel
        have c0 := hI.c0
        have c1 := hI.c1
        have hI' := Lib.hid hI
        obtain ⟨c, hc⟩ : ∃ c, c = cnt (fun k => every st sz k && rng x y k) j := ⟨_, rfl⟩
        rw [← hc]
        have hcb : (c : Int) ≤ 300 := by have := cnt_le (fun k => every st sz k && rng x y k) j; omega
        have hcs : cnt (fun k => every st sz k && rng x y k) (j + 1) = c + (every st sz j && rng x y j).toNat := by rw [hc]; rfl
        have hS := Lib.hid hcs
        have hC := Lib.hid hc
        clear hI hcs hc hE
        by_cases hlt : j < sz
        · have hj2 : (j : Int) < 300 := by omega
          have hval := Lib.hid (show (every st sz j && rng x y j) = (decide (j % st = 0) && (decide (x ≤ (j : Int)) && decide ((j : Int) < y))) from by simp [every, rng, hlt])
          by_cases p : j % st = 0
          · have p1 : ((j : Int) % (st : Int) == 0) = true := by rw [← Int.natCast_emod, p]; rfl
            by_cases gx : x ≤ (j : Int)
            · by_cases gy : (j : Int) < y
              · have hV := Lib.hid (show (every st sz j && rng x y j) = true from by rw [hval.out]; simp [p, gx, gy])
                clear p
                go_wp2
                go_roundw
                case rel => exact ⟨j + 1, by omega, by go_num, by rw [hS.out, hV.out]; go_num, hI'.out⟩
                case measure => simp [intOf]; omega
              · have hV := Lib.hid (show (every st sz j && rng x y j) = false from by rw [hval.out]; simp [p, gx, gy])
                have gy1 : decide ((j : Int) < y) = false := by simp [gy]
                clear p
                go_wp2
                go_roundw
                case rel => exact ⟨j + 1, by omega, by go_num, by rw [hS.out, hV.out]; first | rfl | go_num, hI'.out⟩
                case measure => simp [intOf]; omega
            · have hV := Lib.hid (show (every st sz j && rng x y j) = false from by rw [hval.out]; simp [p, gx])
              have gx1 : decide (x ≤ (j : Int)) = false := by simp [gx]
              clear p
              go_wp2
              go_roundw
              case rel => exact ⟨j + 1, by omega, by go_num, by rw [hS.out, hV.out]; first | rfl | go_num, hI'.out⟩
              case measure => simp [intOf]; omega
          · have p1 : ((j : Int) % (st : Int) == 0) = false := by rw [← Int.natCast_emod]; simp; omega
            have hV := Lib.hid (show (every st sz j && rng x y j) = false from by rw [hval.out]; simp [p])
            clear p
            go_wp2
            go_roundw
            case rel => exact ⟨j + 1, by omega, by go_num, by rw [hS.out, hV.out]; first | rfl | go_num, hI'.out⟩
            case measure => simp [intOf]; omega
        · obtain rfl : j = sz := by omega
          have hcnt := Lib.hid (show cnt (fun k => every st j k && inr (max x 0).toNat (min y j).toNat k) j = c from by rw [hC.out]; exact cnt_congr fun k _ => every_rng x y k)
          have hcnt2 := Lib.hid (show cnt (fun k => (every st j k && !rng x y k) && inr (max x 0).toNat (min y j).toNat k) j = 0 from cnt_zero fun k _ => by rw [← every_not]; cases inr (max x 0).toNat (min y j).toNat k <;> simp)
          have hvs : ∃ v : Bool, (decide (0 < c) = v ∧ decide (0 < (c : Int)) = v) := ⟨decide (0 < c), rfl, by simp⟩
          obtain ⟨v, hv1, hv⟩ := hvs
          have hv' := Lib.hid hv1
          have G := Lib.hid (And.intro hcnt.out hcnt2.out)
          clear hS hC hlt hcnt hcnt2
          generalize wr = w6 at c0 c1 hI' ⊢
          cases v
          all_goals
            go_wp2_with fail
            refine (any_u hI'.out.m x y hx.1 hy.2 _ (by rw [G.out.1, hv'.out])).mono ?_
            rintro e W4 ⟨rfl, m4, o4⟩
            have hI4 := hI'.out.next hbq'.out m4 o4
            have d0 := hI4.c0
            have d1 := hI4.c1
            have hI4' := Lib.hid hI4
            clear c0 c1 hI' m4 o4 hI4
            go_wp2_with fail
            refine (clear_u hI4'.out.m x y hx.1 hy.2 c (by rw [G.out.1]) (fun k => every st j k && !rng x y k) (every_not x y)).mono ?_
            rintro e W5 ⟨rfl, m5, o5⟩
            have hI5 := hI4'.out.next hbq'.out m5 o5
            have d2 := hI5.c0
            have d3 := hI5.c1
            have hI5' := Lib.hid hI5
            clear d0 d1 hI4' m5 o5 hI5
            go_wp2_with fail
            refine (any_u hI5'.out.m x y hx.1 hy.2 false (by rw [G.out.2]; rfl)).mono ?_
            rintro e W6 ⟨rfl, m6, o6⟩
            have hI6 := Lib.hid (hI5'.out.next hbq'.out m6 o6)
            clear d2 d3 hI5' m6 o6 hv hv1
            go_wp2
            go_loopw [13] (fun i wr => ∃ l : Nat, l ≤ j ∧ i = .int .i64 l ∧ Inv W wr b q j x y (fun k => every st j k && !rng x y k)) (fun i _ => j - (intOf i).toNat)
            case atStart => exact ⟨0, by omega, rfl, hI6.out⟩
            case round =>
              obtain ⟨l, hl, rfl, hI⟩ := hrel
              have hI' := Lib.hid hI
              have c0 := hI.c0
              have c1 := hI.c1
              clear hI hI6
              by_cases hlt : l < j
              · have hl2 : (l : Int) < 300 := by omega
                have hval := Lib.hid (show (every st j l && !rng x y l) = (decide (l % st = 0) && !(decide (x ≤ (l : Int)) && decide ((l : Int) < y))) from by simp [every, rng, hlt])
                have hG := fun k => get_yes (b + 1) b j _ l (wr.drewN k) (hI'.out.m.drewN k) hlt
                by_cases p : l % st = 0
                · have p1 : ((l : Int) % (st : Int) == 0) = true := by rw [← Int.natCast_emod, p]; rfl
                  by_cases gx : (l : Int) < x
                  · have hV : (every st j l && !rng x y l) = true := by rw [hval.out]; simp [p]; omega
                    simp only [hV] at hG
                    have hG' := Lib.hid hG
                    clear p hG hV
                    go_wp2_with fail
                    go_quiet ((go_at_call 8; exact Calls.quiet_of ((hG'.out _).mono fun _ _ h => ⟨h.1, h.2.elim fun k hk => ⟨k, hk.symm⟩⟩)))
                    go_wp2
                    go_roundw
                    case rel => exact ⟨l + 1, by omega, by go_num, hI'.out.drewN nq⟩
                    case measure => simp [intOf]; omega
                  · have gx1 : decide ((l : Int) < x) = false := by simp; omega
                    by_cases gy : y ≤ (l : Int)
                    · have hV : (every st j l && !rng x y l) = true := by rw [hval.out]; simp [p]; omega
                      simp only [hV] at hG
                      have hG' := Lib.hid hG
                      clear p hG hV
                      go_wp2_with fail
                      go_quiet ((go_at_call 8; exact Calls.quiet_of ((hG'.out _).mono fun _ _ h => ⟨h.1, h.2.elim fun k hk => ⟨k, hk.symm⟩⟩)))
                      go_wp2
                      go_roundw
                      case rel => exact ⟨l + 1, by omega, by go_num, hI'.out.drewN nq⟩
                      case measure => simp [intOf]; omega
                    · have gy1 : decide (y ≤ (l : Int)) = false := by simp; omega
                      have hV : (every st j l && !rng x y l) = false := by rw [hval.out]; simp [p]; omega
                      simp only [hV] at hG
                      have hG' := Lib.hid hG
                      clear p hG hV
                      go_wp2_with fail
                      go_quiet ((go_at_call 8; exact Calls.quiet_of ((hG'.out _).mono fun _ _ h => ⟨h.1, h.2.elim fun k hk => ⟨k, hk.symm⟩⟩)))
                      go_wp2
                      go_roundw
                      case rel => exact ⟨l + 1, by omega, by go_num, hI'.out.drewN nq⟩
                      case measure => simp [intOf]; omega
                · have p1 : ((l : Int) % (st : Int) == 0) = false := by rw [← Int.natCast_emod]; simp; omega
                  have hV : (every st j l && !rng x y l) = false := by rw [hval.out]; simp [p]
                  simp only [hV] at hG
                  have hG' := Lib.hid hG
                  clear p hG hV
                  go_wp2_with fail
                  go_quiet ((go_at_call 8; exact Calls.quiet_of ((hG'.out _).mono fun _ _ h => ⟨h.1, h.2.elim fun k hk => ⟨k, hk.symm⟩⟩)))
                  go_wp2
                  go_roundw
                  case rel => exact ⟨l + 1, by omega, by go_num, hI'.out.drewN nq⟩
                  case measure => simp [intOf]; omega
              · obtain rfl : l = j := by omega
                go_wp2
                go_ret
                exact ⟨rfl, hI'.out.bel⟩
theorem own : ownKnob Try.prog.godebug = none := by kernel_rfl
theorem laidOut : laidOutB Try.prog = true := by kernel_rfl
set_option maxRecDepth 100000 in
theorem lifted (os : Os) (started : os.Started) (H : Type) (enc : TypeId × Value → H) :
    ReturnsInHanded {} Try.checked os 4 .any (Rows.tagsClearSpec.pre6 enc Try.prog Try.f4 Rows.tagsClearRow.domain false) (Rows.tagsClearSpec.post enc Try.prog Try.f4 false true false false) := by
  refine returnsInHanded_of_change (C := Try.checked) own started (by kernel_rfl) Try.func4
    (ChangeSpec.witness6 (enc := enc) (C := Try.checked) false ⟨#[], #[.int .u16 0, .int .u8 0, .agg #[.int .i64 0, .int .i64 0]], []⟩ 8 (by kernel_rfl) (by kernel_rfl) (by kernel_rfl) (by kernel_rfl)) ?_
  intro W base args ds gs before hval0 hW hcnd hsz
  have hval : ∀ (j : Nat) t v, Try.f4.params[j]? = some t → args[j]? = some v → Value.okWide Try.prog W .any base t v := hval0
  have hW' := hW
  obtain ⟨p, q, hA0, hV, rfl, hfz, hnd⟩ := hW
  have hA : DataW.TrodAll enc Try.prog W 0 (fun _ => true) true Try.f4.params.toList args.toList ds p := hA0
  rw [Try.params4] at hA hval
  obtain ⟨v0, vs0, d0, ds0, p0, q0, hargs, rfl, rfl, h0, r0⟩ := trodAll_cons hA
  obtain ⟨v1, vs1, d1, ds1, p1, q1, rfl, rfl, rfl, h1, r1⟩ := trodAll_cons r0
  obtain ⟨v2, vs2, d2, ds2, p2, q2, rfl, rfl, rfl, h2, r2⟩ := trodAll_cons r1
  obtain ⟨rfl, rfl, rfl⟩ := trodAll_nil r2
  obtain rfl : args = #[v0, v1, v2] := by cases args; simp_all
  obtain ⟨rfl, rfl⟩ := trodVars_none hV
  have k0 := h0
  have lt0 : ∀ x ∈ p0, x.block < W.heap.size := by obtain ⟨m, hm⟩ := k0; exact DataW.trod_lt m _ _ _ hm
  have k1 := h1
  have lt1 : ∀ x ∈ p1, x.block < W.heap.size := by obtain ⟨m, hm⟩ := k1; exact DataW.trod_lt m _ _ _ hm
  have k2 := h2
  have lt2 : ∀ x ∈ p2, x.block < W.heap.size := by obtain ⟨m, hm⟩ := k2; exact DataW.trod_lt m _ _ _ hm
  obtain ⟨n, rfl, rfl, rfl, wn⟩ := open_int Try.underlying22 (hval 0 22 v0 rfl rfl) h0
  obtain ⟨step, rfl, rfl, rfl, wstep⟩ := open_int Try.underlying5 (hval 1 5 v1 rfl rfl) h1
  clear hA0 hval0
  refine (walk n wn step wstep v2 W (hval 2 33 v2 rfl rfl) k2).mono fun e W' ⟨he, bel⟩ => ?_
  subst he
  exact ⟨_, rfl, _, _, _, [], _, [], hW', trodAll_mk1 (shut_bool Try.underlying4 _), (trodAll_cons_mk (Below.trod laidOut (by kernel_rfl) (of_decide_eq_true (by kernel_rfl)) k0 bel lt0) (trodAll_cons_mk (Below.trod laidOut (by kernel_rfl) (of_decide_eq_true (by kernel_rfl)) k1 bel lt1) (trodAll_cons_mk (Below.trod laidOut (by kernel_rfl) (of_decide_eq_true (by kernel_rfl)) k2 bel lt2) trodAll_mk0))), rfl, bel.frame _, fun h => by cases h⟩
theorem over : Rows.tagsClearRow.holds Try.pinned (OpenSpec.ofChange Rows.tagsClearSpec) :=
  OpenClaim.holds_of_wide 4 Try.f4 rfl rfl rfl rfl rfl rfl rfl ⟨rfl, rfl, rfl, rfl, rfl⟩ rfl rfl rfl rfl rfl (by kernel_rfl) Try.func4 (by kernel_rfl)
    (of_decide_eq_true (by kernel_rfl)) (by unfold Func.isWrapper; first | (rw [if_pos (by decide +kernel)]; kernel_rfl) | (rw [if_neg (by decide +kernel)]; exact ⟨rfl, rfl⟩))
    (fun os started H enc _ => lifted os started H enc)
/-- The given statement. -/
theorem proved : Rows.TagsClearSaid := over
end Go.Proofs.Ytbomcakgggbacaa.clear
