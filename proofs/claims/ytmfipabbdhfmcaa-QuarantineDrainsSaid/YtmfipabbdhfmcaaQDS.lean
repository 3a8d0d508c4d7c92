/- Contracts of QuarantineDrains' own helpers: step, freed; two rows appended. No statement is proved here. -/
import Derived.Test.YtmfipabbdhfmcaaQDM
import Derived.Test.YtmfipabbdhfmcaaQuK
import Derived.Test.YtmfipabbdhfmcaaNums
import Derived.Deep.LoopGhost
import Derived.ProofKit
namespace Go.Proofs.Ytmfipabbdhfmcaa.Qu
set_option maxRecDepth 100000
open Go.RowKit Go.Shelf
set_option linter.unusedVariables false
section
variable {w w' W : World} {q y p b wb n e base m : Nat} {Wt Bt L R X : List Rg} {sw : Bool} {u v wv bv : Value} {r : Rg} {D : Nat → Prop} {A : Option Addr} {cap : Nat} {s : QS}
/-- A yard in a state. -/
def SK (W : World) (D : Nat → Prop) (y : Nat) (s : QS) (w : World) : Prop := QK W D y 256 s.W s.B s.e s.sw w
def StepPost (W : World) (D : Nat → Prop) (y : Nat) (s : QS) (w : World) (e1 : Ending) (w' : World) : Prop := e1 = .returned (.tuple #[]) ∧ SK W D y s w' ∧ Kp D w w'
theorem stepK (K : SK W D y s w) (x : Nat) (hx : x < 256) (he : s.e < 1000000) : Calls Try.prog 24 #[.pointer (some ⟨y, 0, none⟩), .int .u8 (x : Int)] w (StepPost W D y (stp x s) w) := by
  obtain ⟨F, hF⟩ : ∃ F, F = StepPost W D y (stp x s) w := ⟨_, rfl⟩
  rw [← hF]
  replace hF := Lib.hid hF
  have hK := Lib.hid K
  clear K
  by_cases h1 : x < 200
  · have h1i : (x : Int) < 200 := by omega
    obtain ⟨a, ha⟩ : ∃ a, a = 16 * x := ⟨_, rfl⟩
    have e1 : IntKind.u32.wrap (x : Int) = x := by rw [IntKind.wrap_u32]; omega
    have e2 : 16 * (x : Int) = a := by omega
    have e3 : IntKind.u32.wrap (a : Int) = a := by rw [IntKind.wrap_u32]; omega
    have hab : a < 4096 := by omega
    have ha' := Lib.hid ha
    clear ha
    go_enter Try.func24, Try.ntmps24
    go_wp2_with fail
    refine (region_any a 16 w).mono ?_
    rintro e1 w2 ⟨rfl, k⟩
    have K2 := Lib.hid (show SK W D y s w2 from hK.out.grow k)
    have P2 := Lib.hid (hK.out.kp k)
    clear k
    unfold rgV
    dsimp only
    go_wp2_with fail
    refine (free_k K2.out a 16 (by omega) (by omega) _ rfl rfl).mono ?_
    rintro e1 w3 ⟨rfl, k, kp⟩
    have hE := Lib.hid (show F (.returned (.tuple #[])) w3 from by
      rw [hF.out]
      refine ⟨rfl, ?_, P2.out.trans kp⟩
      unfold SK stp
      rw [if_pos h1, ← ha'.out]
      exact k)
    clear k kp
    generalize okF 256 (s.W ++ s.B) (a, 16) = ok
    go_wp2_with fail
    exact bodyPost_end (results_none (by rfl) _ _ _) rfl hE.out
  · have h1i : ¬ (x : Int) < 200 := by omega
    by_cases h2 : x < 228
    · have h2i : (x : Int) < 228 := by omega
      obtain ⟨Wt, Bt, e, sw⟩ := s
      cases sw
      · have hB := Lib.hid (begin_k hK.out he)
        go_enter Try.func24, Try.ntmps24
        go_wp2_with fail
        refine hB.out.mono ?_
        rintro e1 w3 ⟨rfl, k, kp⟩
        have hE := Lib.hid (show F (.returned (.tuple #[])) w3 from by
          rw [hF.out]
          refine ⟨rfl, ?_, kp⟩
          unfold SK stp
          rw [if_neg h1, if_pos h2, if_neg (by simp)]
          exact k)
        clear k kp
        go_wp2_with fail
        exact bodyPost_end (results_none (by rfl) _ _ _) rfl hE.out
      · have hB := Lib.hid (begin_no_k hK.out)
        go_enter Try.func24, Try.ntmps24
        go_wp2_with fail
        refine hB.out.mono ?_
        rintro e1 w3 ⟨rfl, k, kp⟩
        have hE := Lib.hid (show F (.returned (.tuple #[])) w3 from by
          rw [hF.out]
          refine ⟨rfl, ?_, kp⟩
          unfold SK stp
          rw [if_neg h1, if_pos h2, if_pos (by rfl)]
          exact k)
        clear k kp
        go_wp2_with fail
        exact bodyPost_end (results_none (by rfl) _ _ _) rfl hE.out
    · have h2i : ¬ (x : Int) < 228 := by omega
      have hB := Lib.hid (end_any hK.out)
      go_enter Try.func24, Try.ntmps24
      go_wp2_with fail
      refine hB.out.mono ?_
      rintro e1 w3 ⟨v, rfl, _, k, kp, _⟩
      have hE := Lib.hid (show F (.returned (.tuple #[])) w3 from by
        rw [hF.out]
        refine ⟨rfl, ?_, kp⟩
        unfold SK stp
        rw [if_neg h1, if_neg h2]
        exact k.sub (fun _ h => .inl h) hK.out.d)
      clear k kp
      go_wp2_with fail
      exact bodyPost_end (results_none (by rfl) _ _ _) rfl hE.out
/-- A list of bytes, as numbers. -/
def BytesAt (w : World) (A : Option Addr) (n : Nat) (X : Nat → Nat) : Prop := ∀ i, i < n → ∃ b off, A = some ⟨b, off, none⟩ ∧ X i < 256 ∧ b < w.heap.size ∧ w.cell? ⟨b, off + i, none⟩ = some (.int .u8 (X i : Int))
theorem BytesAt.grow {X : Nat → Nat} (H : BytesAt w A n X) (k : Below w.heap.size w w') : BytesAt w' A n X := fun i hi => by
  obtain ⟨b, off, e, h1, h2, h3⟩ := H i hi
  exact ⟨b, off, e, h1, Nat.lt_of_lt_of_le h2 k.size, (k.cell (p := ⟨b, off + i, none⟩) h2).trans h3⟩
theorem BytesAt.less {X : Nat → Nat} {n' : Nat} (H : BytesAt w A n X) (k : n' ≤ n) : BytesAt w A n' X := fun i hi => H i (by omega)
theorem bytes_of (H : NumsIn w w.heap.size A n .u8) : ∃ X, BytesAt w A n X := by
  have : ∀ i, ∃ x : Nat, i < n → ∃ b off, A = some ⟨b, off, none⟩ ∧ x < 256 ∧ b < w.heap.size ∧ w.cell? ⟨b, off + i, none⟩ = some (.int .u8 (x : Int)) := fun i => by
    by_cases hi : i < n
    · obtain ⟨b, off, e, hb, x, h1, h2⟩ := H i hi
      have bx := bounds_u8 h2
      obtain ⟨X, rfl⟩ := Int.eq_ofNat_of_zero_le bx.1
      exact ⟨X, fun _ => ⟨b, off, e, by omega, hb, h1⟩⟩
    · exact ⟨0, fun h => absurd h hi⟩
  exact ⟨fun i => (this i).choose, fun i hi => (this i).choose_spec hi⟩
/-- Does one of the first n steps free that region? -/
def frd (X : Nat → Nat) (n : Nat) (r : Rg) : Prop := ∃ j, j < n ∧ X j < 200 ∧ r = (16 * X j, 16)
set_option maxHeartbeats 8000000 in
theorem freed_yes {X : Nat → Nat} (H : BytesAt w A n X) (hn : n ≤ 9223372036854775807) (r : Rg) (hf : frd X n r) : Calls Try.prog 30 #[.slice A n cap, rgV r] w fun e1 w' => e1 = .returned (.bool true) ∧ Below w.heap.size w w' := by
  obtain ⟨r1, r2⟩ := r
  obtain ⟨w1, hw1⟩ : ∃ w1, w1 = w.alloc (.cells #[.int .u32 (r1 : Int), .int .u32 (r2 : Int)] 33) := ⟨_, rfl⟩
  have b1 : Below w.heap.size w w1 := by rw [hw1]; exact (Below.refl _ _).alloc (Nat.le_refl _) _
  have X1 := Lib.hid (show Bx w.heap.size (.int .u32 (r1 : Int)) (.int .u32 (r2 : Int)) w1 by rw [hw1]; exact Bx.new _ _ _ _)
  have hb1 := Lib.hid b1
  have hw' := Lib.hid hw1
  have hf' := Lib.hid hf
  have hH := Lib.hid H
  unfold rgV
  dsimp only
  clear b1 hw1 hf H
  go_enter Try.func30, Try.ntmps30
  go_upto_region 1 with (fail)
  rw [← hw'.out]
  go_wp2_with fail
  go_loopw [5] (fun iv wr => ∃ i : Nat, i ≤ n ∧ iv = .int .i64 i ∧ Hid (Below w1.heap.size w1 wr ∧ ∀ j, j < i → ¬ (X j < 200 ∧ (r1, r2) = (16 * X j, 16)))) (fun iv _ => n - (intOf iv).toNat)
  case atStart => exact ⟨0, by omega, rfl, Lib.hid ⟨Below.refl _ _, fun j hj => by omega⟩⟩
  case round =>
    obtain ⟨i, hi, rfl, hB⟩ := hrel
    have hin : i < n := by
      rcases Nat.lt_or_ge i n with h | h
      · exact h
      · obtain ⟨j, hj, h1, h2⟩ := hf'.out
        exact absurd ⟨h1, h2⟩ (hB.out.2 j (by omega))
    have hin2 : (i : Int) < n := by omega
    obtain ⟨bl, off, rfl, hx, hbl, hc⟩ := hH.out i hin
    obtain ⟨x, hx0⟩ : ∃ x, x = X i := ⟨_, rfl⟩
    rw [← hx0] at hx hc
    obtain ⟨a, ha⟩ : ∃ a, a = 16 * x := ⟨_, rfl⟩
    have e1 : IntKind.u32.wrap (x : Int) = x := by rw [IntKind.wrap_u32]; omega
    have e2 : 16 * (x : Int) = a := by omega
    have e3 : IntKind.u32.wrap (a : Int) = a := by rw [IntKind.wrap_u32]; omega
    have hEq := fun w => rg_eq (a, 16) (r1, r2) (decide ((a, 16) = (r1, r2))) rfl w
    obtain ⟨V, hV⟩ : ∃ V, V = decide (((a, 16) : Rg) = (r1, r2)) := ⟨_, rfl⟩
    rw [← hV] at hEq
    replace hEq : ∀ w, (Op.equalIn 10000 33 (.agg #[.int .u32 (a : Int), .int .u32 16]) (.agg #[.int .u32 (r1 : Int), .int .u32 (r2 : Int)])).run Try.prog w = .ok V w := hEq
    have hV' := Lib.hid hV
    obtain ⟨S, hS0⟩ : ∃ S, S = fun w' => Below wr.heap.size wr w' := ⟨_, rfl⟩
    have hKS : ∀ w', S w' → Below wr.heap.size wr w' := fun w' h => by rw [hS0] at h; exact h
    have h4 : S wr.drew := by rw [hS0]; exact (Below.refl _ _).drew
    have hlt1 := hb1.out.size
    have hlt2 := hB.out.1.size
    have a0 : ∀ z : Wd S, z.w.cell? ⟨bl, off + i, none⟩ = some (.int .u8 (x : Int)) := fun z => ((((hb1.out.trans (hB.out.1.mono hlt1)).trans ((hKS _ z.h).mono (by omega))).cell (p := ⟨bl, off + i, none⟩) hbl)).trans hc
    have a1 : ∀ z : Wd S, z.w.cell? ⟨w.heap.size, 0, none⟩ = some (.int .u32 (r1 : Int)) := fun z => ((X1.out.grow hB.out.1).grow (hKS _ z.h)).c0
    have a2 : ∀ z : Wd S, z.w.cell? ⟨w.heap.size, 1, none⟩ = some (.int .u32 (r2 : Int)) := fun z => ((X1.out.grow hB.out.1).grow (hKS _ z.h)).c1
    have cR := Lib.hid (show ∀ z : Wd S, Calls Try.prog 23 #[.int .u32 (a : Int), .int .u32 16] z.w fun e w' => e = .returned (rgV (a, 16)) ∧ ∃ z' : Wd S, w' = z'.w from
      cls_call (fun w' hw => (region_any a 16 w').mono fun e w2 k => ⟨k.1, by rw [hS0]; exact (hKS _ hw).trans (k.2.mono (hKS _ hw).size)⟩))
    replace cR : Hid (∀ z : Wd S, Calls Try.prog 23 #[.int .u32 (a : Int), .int .u32 16] z.w fun e w' => e = .returned (.agg #[.int .u32 (a : Int), .int .u32 16]) ∧ ∃ z' : Wd S, w' = z'.w) := cR
    have hKK := Lib.hid hKS
    have i0 : (0 : Int) ≤ i := by omega
    have hx' := Lib.hid hx0
    have ha' := Lib.hid ha
    clear hS0 hKS hc hbl hV hx0 ha hlt1 hlt2
    by_cases h200 : x < 200
    · have h200i : (x : Int) < 200 := by omega
      cases V
      all_goals
        go_wp2_with fail
        refine region_cls S (by kernel_rfl) (by kernel_rfl) h4 ?_
        repeat (first
          | go_big_quiet_skip
          | (go_big_quiet_want
             go_big_quiet_op
             first
             | go_big_quiet_on
             | (apply Exists.intro
                refine ⟨fun y => ?_, ?_⟩
                · first | exact rfl | with_reducible exact cR.out y
                go_big_quiet_on)))
        refine wpQuiet_nil ?_
        intro z
        have hE := Lib.hid (hB.out.1.trans ((hKK.out _ z.h).mono hB.out.1.size))
      · have hN := Lib.hid (show ∀ j, j < i + 1 → ¬ (X j < 200 ∧ (r1, r2) = (16 * X j, 16)) from fun j hj => by
          rcases Nat.lt_or_ge j i with h | h
          · exact hB.out.2 j h
          · obtain rfl : j = i := by omega
            rintro ⟨_, h2⟩
            rw [← hx'.out, ← ha'.out] at h2
            exact absurd h2.symm (of_decide_eq_false hV'.out.symm))
        go_wp2_with fail
        go_roundw
        case rel => exact ⟨i + 1, by omega, by go_num, Lib.hid ⟨hE.out, hN.out⟩⟩
        case measure => simp [intOf]; omega
      · go_wp2_with fail
        go_ret
        exact ⟨rfl, hb1.out.trans (hE.out.mono hb1.out.size)⟩
    · have h200i : ¬ (x : Int) < 200 := by omega
      have h200d : decide ((x : Int) < 200) = false := decide_eq_false h200i
      have h200e : decide (x < 200) = false := decide_eq_false h200
      have hN := Lib.hid (show ∀ j, j < i + 1 → ¬ (X j < 200 ∧ (r1, r2) = (16 * X j, 16)) from fun j hj => by
        rcases Nat.lt_or_ge j i with h | h
        · exact hB.out.2 j h
        · obtain rfl : j = i := by omega
          rintro ⟨h1, _⟩
          rw [← hx'.out] at h1
          exact h200 h1)
      go_wp2_with fail
      refine region_cls S (by kernel_rfl) (by kernel_rfl) h4 ?_
      repeat (first
        | go_big_quiet_skip
        | (go_big_quiet_want
           go_big_quiet_op
           first
           | go_big_quiet_on
           | (apply Exists.intro
              refine ⟨fun y => ?_, ?_⟩
              · first | exact rfl | with_reducible exact cR.out y
              go_big_quiet_on)))
      refine wpQuiet_nil ?_
      intro z
      have hE := Lib.hid (hB.out.1.trans ((hKK.out _ z.h).mono hB.out.1.size))
      go_wp2_with fail
      go_roundw
      case rel => exact ⟨i + 1, by omega, by go_num, Lib.hid ⟨hE.out, hN.out⟩⟩
      case measure => simp [intOf]; omega
/-- Two rows of regions, one appended to the other. -/
theorem append_both {ops : Array Oper} {rest : List Oper} {o : Oper} {a : Act} {Q : Exit → Act → World → Prop} (hgd : o.guard = none) (s x : Operand)
    (ho : o.op = .call { callee := .builtin .append, args := #[s, x], argTypes := #[25, 25] }) {base2 : Nat} {v2 : Value}
    (hs : a.eval s = v) (hown : w.ownsRow base 33 2 v L.length (L.flatMap rgC)) (hx : a.eval x = v2) (hown2 : w.ownsRow base2 33 2 v2 R.length (R.flatMap rgC)) (hl : L.length + R.length ≤ 16384) (hb : base ≤ w.heap.size)
    (h : ∀ v' w', w'.ownsRow base 33 2 v' (L ++ R).length ((L ++ R).flatMap rgC) → Below base w w' → wpList Try.prog ops Q rest (a.put o.dst v') w') :
    wpList Try.prog ops Q (o :: rest) a w := by
  obtain ⟨i0, hi, hz0, hz1, hz2⟩ := info_parts infoRg
  rcases hown2.2 with ⟨rfl, hn⟩ | ⟨g, cap, cur, rfl, hrest⟩
  · have hR : R = [] := List.length_eq_zero_iff.1 hn
    subst hR
    refine wpList_append_own_none hgd s x 25 ho base 33 i0 2 Try.underlying25 hi v L.length (L.flatMap rgC) hs hown hx ?_
    refine h v w ?_ (Below.refl _ _)
    rw [List.append_nil]
    exact hown
  · refine wpList_append_own _ hgd s x 25 ho base 33 i0 (.agg #[.int .u32 0, .int .u32 0]) 2 8 Try.underlying25 hi hz0 hz1 hz2 rfl (by decide) v L.length (L.flatMap rgC) hs hown ⟨g, 0, none⟩ R.length cap (R.flatMap rgC) hx (rgC_len R) (hown2.cells rfl) (rgC_one R) (by unfold maxLen; omega) (by omega) hb ?_
    intro v' w' k1 k2 _
    refine h v' w' ?_ ((Below.refl base w).grown k2 hb (fun k hk => own_base hown k hk))
    rw [List.length_append, List.flatMap_append]
    exact k1
end
end Go.Proofs.Ytmfipabbdhfmcaa.Qu
