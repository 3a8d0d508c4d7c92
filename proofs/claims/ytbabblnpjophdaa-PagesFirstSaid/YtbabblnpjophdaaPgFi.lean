/- Proved: a run of pages is found just if there is one, and it is the lowest one (PagesFirst). For every input; no condition. -/
import Derived.Test.YtbabblnpjophdaaRows
import Derived.Test.YtbabblnpjophdaaPgW
import Derived.Deep.LoopGhost
import Derived.Deep.DeepCutAuto
import Derived.ProofKit
import Derived.OpenShut
import Derived.ChangeOld
namespace Go.Proofs.Ytbabblnpjophdaa.pfirst
open Go.ChangeShapes Go.WideShapes Go.ChangeAt Go.RowKit
set_option linter.unusedVariables false

theorem bit_of (s k : Nat) (hs : s < 4294967296) (b : Bool) (h : s.testBit k = b) : bits BinOp.and IntKind.u32 ((s : Int) / 2 ^ k) 1 = (b.toNat : Int) := by
  subst h
  have hc : (2 : Int) ^ k = ((2 ^ k : Nat) : Int) := by simp
  have hle : s / 2 ^ k ≤ s := Nat.div_le_self _ _
  rw [hc, show (s : Int) / ((2 ^ k : Nat) : Int) = ((s / 2 ^ k : Nat) : Int) by simp, Nat.testBit_eq_decide_div_mod_eq]
  generalize s / 2 ^ k = q at *
  have hm : bits BinOp.and IntKind.u32 (q : Int) 1 = (q : Int) % 2 := bits_mask .u32 32 (by decide) (fun n h0 h1 => by rw [IntKind.wrap_u32]; omega) 1 (by decide) (q : Int) (by omega) (by omega)
  rw [hm]
  have : q % 2 = 0 ∨ q % 2 = 1 := by omega
  rcases this with h | h
  · have h2 : (q : Int) % 2 = 0 := by omega
    rw [h2, h]; rfl
  · have h2 : (q : Int) % 2 = 1 := by omega
    rw [h2, h]; rfl
def upTo (s k : Nat) : Nat → Bool := fun j => decide (j < k) && s.testBit j
theorem pt_bit (s k : Nat) (h : s.testBit k = true) (hk : k < 32) : ptB (upTo s k) 32 k 1 = true ∧ ∀ j, ptF (upTo s k) 32 k 1 j = upTo s (k + 1) j := by
  have h1 : ptB (upTo s k) 32 k 1 = true := pt_iff.2 ⟨by omega, by omega, by omega, fun j h1 h2 => by
    unfold upTo; rw [decide_eq_false (by omega), Bool.false_and]⟩
  refine ⟨h1, fun j => ?_⟩
  unfold ptF
  rw [h1, if_pos rfl]
  unfold upTo inr
  by_cases e : j = k
  · subst e; simp [h]
  · have e1 : decide (j < k + 1) = decide (j < k) := by rw [decide_eq_decide]; omega
    have e2 : (decide ((k : Int).toNat ≤ j) && decide (j < ((k : Int) + 1).toNat)) = false := by simp; omega
    rw [e1, e2, Bool.or_false]
theorem no_bit (s k : Nat) (h : s.testBit k = false) (j : Nat) : upTo s k j = upTo s (k + 1) j := by
  unfold upTo
  by_cases e : j = k
  · subst e; simp [h]
  · have e1 : decide (j < k + 1) = decide (j < k) := by rw [decide_eq_decide]; omega
    rw [e1]
set_option maxRecDepth 100000 in
set_option maxHeartbeats 8000000 in
theorem walkN (s run align : Nat) (hs : s < 4294967296) (hr : run < 256) (ha : align < 256) (W : World) :
    Calls Try.prog 5 #[.int .u32 s, .int .u8 run, .int .u8 align] W fun e w' => e = .returned (.bool true) ∧ Below W.heap.size W w' := by
  have hW := Lib.hid (works12_any W)
  have hN := Lib.hid (fun w => pnew 32 w (by omega))
  have hbit := Lib.hid (fun k b h => bit_of s k hs b h)
  go_enter Try.func5, Try.ntmps5
  go_wp2_with fail
  refine hW.out.mono ?_
  rintro e w1 ⟨rfl, hb⟩
  have B1 := Lib.hid hb
  clear hb
  go_wp2_with fail
  refine (hN.out w1).mono ?_
  rintro e w2 ⟨p, b, wb, rfl, k1, k2, k3, k4, k5⟩
  have K2 := Lib.hid (show PK W p b wb 32 (upTo s 0) w2 from
    ⟨k1.congr fun k => by simp [upTo], B1.out.trans (k5.mono B1.out.size), by have := B1.out.size; omega⟩)
  clear k1 k2 k3 k4 k5 hN hW
  go_wp2_with fail
  go_loopw [8] (fun i wr => ∃ k : Nat, i = .int .i64 k ∧ k ≤ 32 ∧ PK W p b wb 32 (upTo s k) wr) (fun i _ => 32 - (intOf i).toNat)
  case atStart => exact ⟨0, rfl, by omega, K2.out⟩
  case round =>
    clear K2
    obtain ⟨k, rfl, hk, HK⟩ := hrel
    replace HK := Lib.hid HK
    by_cases hlt : k < 32
    · have hk' : (k : Int) < 32 := by omega
      cases hv : s.testBit k
      · have hb := hbit.out k false hv
        have HK2 := Lib.hid (show PK W p b wb 32 (upTo s (k + 1)) wr from ⟨HK.out.pool.congr (no_bit s k hv), HK.out.bel, HK.out.hw⟩)
        replace hv := Lib.hid hv
        simp only [Bool.toNat_false] at hb
        go_wp2_with fail
        go_roundw
        case rel => exact ⟨k + 1, by go_num, by omega, HK2.out⟩
        case measure => simp [intOf]; omega
      · have hb := hbit.out k true hv
        obtain ⟨q1, q2⟩ := pt_bit s k hv hlt
        have hP := Lib.hid (pputK HK.out (k : Int) 1 (by omega) (by omega) (by omega) (by omega) true _ q1 rfl)
        have hq := Lib.hid q2
        clear q1 q2
        replace hv := Lib.hid hv
        simp only [Bool.toNat_true] at hb
        go_wp2_with fail
        refine hP.out.mono ?_
        rintro e w3 ⟨rfl, k3⟩
        have HK2 := Lib.hid (show PK W p b wb 32 (upTo s (k + 1)) w3 from ⟨k3.pool.congr hq.out, k3.bel, k3.hw⟩)
        clear k3
        go_wp2_with fail
        go_roundw
        case rel => exact ⟨k + 1, by go_num, by omega, HK2.out⟩
        case measure => simp [intOf]; omega
    · obtain rfl : k = 32 := by omega
      obtain ⟨n, hn⟩ : ∃ n, n = run % 34 := ⟨_, rfl⟩
      obtain ⟨y, hy⟩ : ∃ y, y = align % 9 := ⟨_, rfl⟩
      have hn2 : (run : Int) % 34 = (n : Int) := by omega
      have hy2 : (align : Int) % 9 = (y : Int) := by omega
      have hn3 : (n : Int) < 34 := by omega
      have hy3 : (y : Int) < 9 := by omega
      clear hn hy
      have hF := Lib.hid (pfitsK HK.out (n : Int) (y : Int) (by omega) (by omega) (by omega) _ rfl)
      have hT := Lib.hid (fun w (K : PK W p b wb 32 (upTo s 32) w) => ptakeK K (n : Int) (y : Int) (by omega) (by omega) (by omega) _ _ _ rfl rfl rfl)
      have hNo := Lib.hid (fun h => fnd_no (f := upTo s 32) (n := 32) (run := n) (align := y) h)
      have hYes := Lib.hid (fun a h => fnd_yes (f := upTo s 32) (n := 32) (run := n) (align := y) (a := a) h)
      generalize tkF (upTo s 32) 32 n y = g at *
      generalize fndA (upTo s 32) 32 n y = xA at *
      generalize fndB (upTo s 32) 32 n y = xB at *
      go_wp2_with fail
      refine hF.out.mono ?_
      rintro e w3 ⟨rfl, k3⟩
      have K3 := Lib.hid k3
      clear k3
      go_wp2_with fail
      refine (hT.out w3 K3.out).mono ?_
      rintro e w4 ⟨rfl, k4⟩
      have B4 := Lib.hid k4.bel
      clear k4 hF hT K3 HK
      go_wp2_with fail
      go_loopw [14, 15] (fun wv i wr => ∃ k : Nat, i = .int .i64 k ∧ k ≤ 32 ∧ w4 = wr ∧ ((wv = .int .i64 (-1) ∧ ∀ j, j < k → goodB (upTo s 32) 32 n y j = false) ∨ (wv = .int .i64 xA ∧ xA < 32 ∧ 1 ≤ n ∧ 1 ≤ y ∧ xB = true))) (fun _ i _ => 32 - (intOf i).toNat)
      case atStart => exact ⟨0, rfl, by omega, rfl, .inl ⟨rfl, fun j h => absurd h (by omega)⟩⟩
      case round =>
        obtain ⟨k, rfl, hk, rfl, HX⟩ := hrel
        rcases HX with ⟨rfl, hl⟩ | ⟨rfl, x1, x2, x3, x4⟩
        · replace hl := Lib.hid hl
          by_cases hgo : k < 32 ∧ 1 ≤ n ∧ 1 ≤ y
          · obtain ⟨g1, g2, g3⟩ := hgo
            have g1' : (k : Int) < 32 := by omega
            have g2' : 0 < (n : Int) := by omega
            have g3' : 0 < (y : Int) := by omega
            have hy0 : (y : Int) ≠ 0 := by omega
            have hcase : ((k : Int) % y = 0 ∧ (k : Int) + n ≤ 32) ∨ ((k : Int) % y = 0 ∧ ¬ (k : Int) + n ≤ 32) ∨ ¬ (k : Int) % y = 0 := by omega
            have hbad := Lib.hid (show ¬ ((k : Int) % y = 0 ∧ (k : Int) + n ≤ 32) → goodB (upTo s 32) 32 n y k = false from fun h => by
              cases hg : goodB (upTo s 32) 32 n y k
              · rfl
              · obtain ⟨_, h2, h3⟩ := good_iff.1 hg
                have := (fit_iff.1 h3).2.1
                exact absurd ⟨h2, this⟩ h)
            have hnext := Lib.hid (show goodB (upTo s 32) 32 n y k = false → ∀ j, j < k + 1 → goodB (upTo s 32) 32 n y j = false from fun h j hj => by
              rcases Nat.lt_or_ge j k with h' | h'
              · exact hl.out j h'
              · obtain rfl : j = k := by omega
                exact h)
            rcases hcase with ⟨z1, z2⟩ | ⟨z1, z2⟩ | z1
            · have hz : ((k : Int) % y == 0) = true := by simp [z1]
              replace z1 := Lib.hid z1
              go_wp2_with fail
              go_loopw [16, 17] (fun av mv wr => ∃ m : Nat, mv = .int .i64 m ∧ k ≤ m ∧ m ≤ k + n ∧ w4 = wr ∧ ((av = .bool true ∧ ∀ j, k ≤ j → j < m → s.testBit j = true) ∨ (av = .bool false ∧ goodB (upTo s 32) 32 n y k = false))) (fun _ i _ => (k + n) - (intOf i).toNat)
              case atStart => exact ⟨k, rfl, by omega, by omega, rfl, .inl ⟨rfl, fun j h1 h2 => absurd h2 (by omega)⟩⟩
              case round =>
                obtain ⟨m, rfl, m1, m2, rfl, HM⟩ := hrel
                rcases HM with ⟨rfl, ha⟩ | ⟨rfl, hb⟩
                · replace ha := Lib.hid ha
                  by_cases hm : m < k + n
                  · have hm' : (m : Int) < (k : Int) + n := by omega
                    have hm3 : (m : Int) < 32 := by omega
                    cases hv : s.testBit m
                    · have hb := hbit.out m false hv
                      have hgd := Lib.hid (show goodB (upTo s 32) 32 n y k = false from by
                        cases hg : goodB (upTo s 32) 32 n y k
                        · rfl
                        · have h3 := (fit_iff.1 (good_iff.1 hg).2.2).2.2 m m1 (by omega)
                          unfold upTo at h3
                          rw [hv] at h3
                          simp at h3)
                      simp only [Bool.toNat_false] at hb
                      replace hv := Lib.hid hv
                      go_wp2_with fail
                      go_roundw
                      case rel => exact ⟨m + 1, by go_num, by omega, by omega, by first | rfl | trivial, .inr ⟨rfl, hgd.out⟩⟩
                      case measure => simp [intOf]; omega
                    · have hb := hbit.out m true hv
                      have ha2 := Lib.hid (show ∀ j, k ≤ j → j < m + 1 → s.testBit j = true from fun j h1 h2 => by
                        rcases Nat.lt_or_ge j m with h' | h'
                        · exact ha.out j h1 h'
                        · obtain rfl : j = m := by omega
                          exact hv)
                      simp only [Bool.toNat_true] at hb
                      replace hv := Lib.hid hv
                      go_wp2_with fail
                      go_roundw
                      case rel => exact ⟨m + 1, by go_num, by omega, by omega, by first | rfl | trivial, .inl ⟨rfl, ha2.out⟩⟩
                      case measure => simp [intOf]; omega
                  · have hm' : ¬ (m : Int) < (k : Int) + n := by omega
                    obtain ⟨q1, q2⟩ := hYes.out k (good_iff.2 ⟨by omega, z1.out, fit_iff.2 ⟨by omega, by omega, fun j h1 h2 => by
                      unfold upTo
                      rw [decide_eq_true (by omega), Bool.true_and]
                      exact ha.out j h1 (by omega)⟩⟩) hl.out
                    go_wp2_with fail
                    go_roundw
                    case rel => exact ⟨k + 1, by go_num, by omega, by first | rfl | trivial, .inr ⟨by rw [q1], by omega, by omega, by omega, q2⟩⟩
                    case measure => simp [intOf]; omega
                · replace hb := Lib.hid hb
                  go_wp2_with fail
                  go_roundw
                  case rel => exact ⟨k + 1, by go_num, by omega, by first | rfl | trivial, .inl ⟨rfl, hnext.out hb.out⟩⟩
                  case measure => simp [intOf]; omega
            · have hz : ((k : Int) % y == 0) = true := by simp [z1]
              have hb := Lib.hid (hbad.out fun h => z2 h.2)
              replace z1 := Lib.hid z1
              go_wp2_with fail
              go_loopw [16, 17] (fun av mv wr => mv = .int .i64 k ∧ av = .bool false ∧ w4 = wr) (fun _ _ _ => 0)
              case atStart => exact ⟨rfl, rfl, rfl⟩
              case round =>
                obtain ⟨rfl, rfl, rfl⟩ := hrel
                go_wp2_with fail
                go_roundw
                case rel => exact ⟨k + 1, by go_num, by omega, by first | rfl | trivial, .inl ⟨rfl, hnext.out hb.out⟩⟩
                case measure => simp [intOf]; omega
            · have hz : ((k : Int) % y == 0) = false := by simp [z1]
              have hb := Lib.hid (hbad.out fun h => z1 h.1)
              replace z1 := Lib.hid z1
              go_wp2_with fail
              go_loopw [16, 17] (fun av mv wr => mv = .int .i64 k ∧ av = .bool false ∧ w4 = wr) (fun _ _ _ => 0)
              case atStart => exact ⟨rfl, rfl, rfl⟩
              case round =>
                obtain ⟨rfl, rfl, rfl⟩ := hrel
                go_wp2_with fail
                go_roundw
                case rel => exact ⟨k + 1, by go_num, by omega, by first | rfl | trivial, .inl ⟨rfl, hnext.out hb.out⟩⟩
                case measure => simp [intOf]; omega
          · have hend : xA = 0 ∧ xB = false := hNo.out fun j hj => by
              cases hg : goodB (upTo s 32) 32 n y j
              · rfl
              · obtain ⟨h1, h2, h3⟩ := good_iff.1 hg
                have h4 := fit_iff.1 h3
                have : ¬ k < 32 := fun h => hgo ⟨h, by omega, by omega⟩
                exact absurd (hl.out j (by omega)) (by rw [hg]; decide)
            obtain ⟨rfl, rfl⟩ := hend
            have hc : ¬ (k : Int) < 32 ∨ ((k : Int) < 32 ∧ ¬ 0 < (n : Int)) ∨ ((k : Int) < 32 ∧ 0 < (n : Int) ∧ ¬ 0 < (y : Int)) := by omega
            clear hgo
            rcases hc with g1 | ⟨g1, g2⟩ | ⟨g1, g2, g3⟩
            all_goals
              go_wp2
              go_ret
              exact ⟨rfl, B4.out⟩
        · subst x4
          have x0 : ¬ (xA : Int) < 0 := by omega
          rcases Nat.lt_or_ge k 32 with g1 | g1
          · have g1' : (k : Int) < 32 := by omega
            go_wp2
            go_ret
            exact ⟨rfl, B4.out⟩
          · have g1' : ¬ (k : Int) < 32 := by omega
            go_wp2
            go_ret
            exact ⟨rfl, B4.out⟩
theorem walk (s : Int) (ws : (Lit.int .u32 s).wf = true) (r : Int) (wr : (Lit.int .u8 r).wf = true) (a : Int) (wa : (Lit.int .u8 a).wf = true) (W : World) :
    Calls Try.prog 5 #[.int .u32 s, .int .u8 r, .int .u8 a] W fun e w' => e = .returned (.bool true) ∧ Below W.heap.size W w' := by
  have b1 := bounds_u32 ws
  have b2 := bounds_u8 wr
  have b3 := bounds_u8 wa
  obtain ⟨s, rfl⟩ := Int.eq_ofNat_of_zero_le b1.1
  obtain ⟨r, rfl⟩ := Int.eq_ofNat_of_zero_le b2.1
  obtain ⟨a, rfl⟩ := Int.eq_ofNat_of_zero_le b3.1
  exact walkN s r a (by omega) (by omega) (by omega) W
theorem own : ownKnob Try.prog.godebug = none := by kernel_rfl
theorem laidOut : laidOutB Try.prog = true := by kernel_rfl
set_option maxRecDepth 100000 in
theorem lifted (os : Os) (started : os.Started) (H : Type) (enc : TypeId × Value → H) :
    ReturnsInHanded {} Try.checked os 5 .any (Rows.pagesFirstSpec.pre6 enc Try.prog Try.f5 Rows.pagesFirstRow.domain false) (Rows.pagesFirstSpec.post enc Try.prog Try.f5 false true false false) := by
  refine returnsInHanded_of_change (C := Try.checked) own started (by kernel_rfl) Try.func5
    (ChangeSpec.witness6 (enc := enc) (C := Try.checked) false ⟨#[], #[.int .u32 0, .int .u8 0, .int .u8 0], []⟩ 8 (by kernel_rfl) (by kernel_rfl) (by kernel_rfl) (by kernel_rfl)) ?_
  intro W base args ds gs before hval0 hW hcnd hsz
  have hval : ∀ (j : Nat) t v, Try.f5.params[j]? = some t → args[j]? = some v → Value.okWide Try.prog W .any base t v := hval0
  have hW' := hW
  obtain ⟨p, q, hA0, hV, rfl, hfz, hnd⟩ := hW
  have hA : DataW.TrodAll enc Try.prog W 0 (fun _ => true) true Try.f5.params.toList args.toList ds p := hA0
  rw [Try.params5] at hA hval
  obtain ⟨v0, vs0, d0, ds0, p0, q0, hargs, rfl, rfl, h0, r0⟩ := trodAll_cons hA
  obtain ⟨v1, vs1, d1, ds1, p1, q1, rfl, rfl, rfl, h1, r1⟩ := trodAll_cons r0
  obtain ⟨v2, vs2, d2, ds2, p2, q2, rfl, rfl, rfl, h2, r2⟩ := trodAll_cons r1
  obtain ⟨rfl, rfl, rfl⟩ := trodAll_nil r2
  obtain rfl : args = #[v0, v1, v2] := by cases args; simp_all
  obtain ⟨rfl, rfl⟩ := trodVars_none hV
  have k0 := h0
  have lt0 : ∀ x ∈ p0, x.block < W.heap.size := by obtain ⟨m, hm⟩ := k0; exact DataW.trod_lt m _ _ _ hm
  have k1 := h1
  have lt1 : ∀ x ∈ p1, x.block < W.heap.size := by obtain ⟨m, hm⟩ := k1; exact DataW.trod_lt m _ _ _ hm
  have k2 := h2
  have lt2 : ∀ x ∈ p2, x.block < W.heap.size := by obtain ⟨m, hm⟩ := k2; exact DataW.trod_lt m _ _ _ hm
  obtain ⟨s, rfl, rfl, rfl, ws⟩ := open_int Try.underlying45 (hval 0 45 v0 rfl rfl) h0
  obtain ⟨r, rfl, rfl, rfl, wr⟩ := open_int Try.underlying5 (hval 1 5 v1 rfl rfl) h1
  obtain ⟨a, rfl, rfl, rfl, wa⟩ := open_int Try.underlying5 (hval 2 5 v2 rfl rfl) h2
  clear hA0 hval0
  refine (walk s ws r wr a wa W).mono fun e W' ⟨he, bel⟩ => ?_
  subst he
  exact ⟨_, rfl, _, _, _, [], _, [], hW', trodAll_mk1 (shut_bool Try.underlying4 _), (trodAll_cons_mk (Below.trod laidOut (by kernel_rfl) (of_decide_eq_true (by kernel_rfl)) k0 bel lt0) (trodAll_cons_mk (Below.trod laidOut (by kernel_rfl) (of_decide_eq_true (by kernel_rfl)) k1 bel lt1) (trodAll_cons_mk (Below.trod laidOut (by kernel_rfl) (of_decide_eq_true (by kernel_rfl)) k2 bel lt2) trodAll_mk0))), rfl, bel.frame _, fun h => by cases h⟩
theorem over : Rows.pagesFirstRow.holds Try.pinned (OpenSpec.ofChange Rows.pagesFirstSpec) :=
  OpenClaim.holds_of_wide 5 Try.f5 rfl rfl rfl rfl rfl rfl rfl ⟨rfl, rfl, rfl, rfl, rfl⟩ rfl rfl rfl rfl rfl (by kernel_rfl) Try.func5 (by kernel_rfl)
    (of_decide_eq_true (by kernel_rfl)) (by unfold Func.isWrapper; first | (rw [if_pos (by decide +kernel)]; kernel_rfl) | (rw [if_neg (by decide +kernel)]; exact ⟨rfl, rfl⟩))
    (fun os started H enc _ => lifted os started H enc)
/-- The given statement. -/
theorem proved : Rows.PagesFirstSaid := over
end Go.Proofs.Ytbabblnpjophdaa.pfirst
