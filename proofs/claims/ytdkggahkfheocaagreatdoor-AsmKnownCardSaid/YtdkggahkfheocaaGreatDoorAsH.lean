/- What the laws of layer asm ask first, reckoned: the closed values. No statement is proved here. -/
import Derived.Test.YtdkggahkfheocaaGreatDoorAsZ
import Derived.Test.YtdkggahkfheocaaGreatDoorNums
namespace Go.Proofs.YtdkggahkfheocaaGreatDoor
set_option maxRecDepth 100000
open Go.RowKit
def wTextL : List UInt8 := [108, 105, 32, 99, 51, 32, 45, 55]
def wSrcL : List UInt8 := [108, 111, 111, 112, 58, 10, 32, 97, 100, 100, 105, 32, 99, 49, 32, 99, 49, 32, 45, 49, 32, 59, 32, 108, 101, 115, 115, 10, 32, 98, 110, 101, 32, 99, 49, 32, 99, 48, 32, 108, 111, 111, 112, 10, 116, 114, 97, 112]
theorem wprint1 : printL 19927033 = wTextL := by kernel_rfl
theorem wprint2 : printL 4294967295 = [119, 111, 114, 100, 32, 52, 50, 57, 52, 57, 54, 55, 50, 57, 53] := by kernel_rfl
theorem wline : lineV wTextL = (19927033, 0) := by kernel_rfl
def wtest (R : Except (Int × Nat) (List Int)) : Bool := match R with
  | .ok l => l.length == 3 && decide ((decW (l.getD 1 0)).op = 26) && decide ((decW (l.getD 1 0)).a = 1) && decide ((decW (l.getD 1 0)).b = 0) && decide ((decW (l.getD 1 0)).m = -1) && decide ((decW (l.getD 2 0)).op = 53)
  | .error _ => false
theorem wasm : wtest (asmL wSrcL) = true := by kernel_rfl
theorem wok {R : Except (Int × Nat) (List Int)} (h : wtest R = true) :
    ∃ x y z c m, R = .ok [x, y, z] ∧ decW y = ⟨26, 1, 0, c, m⟩ ∧ m = -1 ∧ ∃ a b c m, decW z = ⟨53, a, b, c, m⟩ := by
  cases R with
  | error e => cases h
  | ok l =>
    simp only [wtest, Bool.and_eq_true, beq_iff_eq, decide_eq_true_eq] at h
    obtain ⟨⟨⟨⟨⟨h0, h1⟩, h2⟩, h3⟩, h4⟩, h5⟩ := h
    match l, h0, h1, h2, h3, h4, h5 with
    | [x, y, z], _, h1, h2, h3, h4, h5 =>
      simp only [List.getD_eq_getElem?_getD, List.getElem?_cons_succ, List.getElem?_cons_zero, Option.getD_some] at h1 h2 h3 h4 h5
      refine ⟨x, y, z, (decW y).c, (decW y).m, rfl, ?_, h4, (decW z).a, (decW z).b, (decW z).c, (decW z).m, ?_⟩
      · cases hy : decW y
        rw [hy] at h1 h2 h3
        simp only at h1 h2 h3
        rw [h1, h2, h3]
      · cases hz : decW z
        rw [hz] at h5
        simp only at h5
        rw [h5]
/-- Three words that a call made: where they lie. -/
theorem three_own {w : World} {base : Nat} {v : Value} {x y z : Value} (h : w.ownsRow base 24 1 v 3 [x, y, z]) :
    ∃ g cap, v = .slice (some ⟨g, 0, none⟩) 3 cap ∧ base ≤ g ∧ w.cell? ⟨g, 1, none⟩ = some y ∧ w.cell? ⟨g, 2, none⟩ = some z := by
  obtain ⟨-, ⟨-, h⟩ | ⟨g, cap, cur, rfl, hb, hg, -, -, -, hc⟩⟩ := h
  · cases h
  · refine ⟨g, cap, rfl, hb, ?_, ?_⟩
    · have := congrArg (·[1]?) hc
      simp only [List.getElem?_take, List.getElem?_cons_succ, List.getElem?_cons_zero] at this
      simpa [World.cell?, hg] using this
    · have := congrArg (·[2]?) hc
      simp only [List.getElem?_take, List.getElem?_cons_succ, List.getElem?_cons_zero] at this
      simpa [World.cell?, hg] using this
theorem wDecV (x : Int) (h0 : 0 ≤ x) (h1 : x < 4294967296) (o a b c m : Int) (h : decW x = ⟨o, a, b, c, m⟩) (W : World) (hT : Tabs W) : Calls Tryz.prog 24 #[.int .u32 x] W fun e w' => e = .returned (.agg #[.int .i64 o, .int .i64 a, .int .i64 b, .int .i64 c, .int .i64 m]) ∧ Below W.heap.size W w' :=
  (pDecode_any x h0 h1 W hT).mono fun e w' k => ⟨k.1.trans (by rw [h]; rfl), k.2⟩
set_option maxHeartbeats 2000000 in
theorem works_any (W : World) (hT : T8 W) : Calls Tryz.prog 14 #[] W fun e w' => e = .returned (.bool true) ∧ Below W.heap.size W w' := by
  have hL := line_any wTextL W hT (by decide)
  rw [wline] at hL
  have hE := fun w h => pEncode_any 1 3 0 0 (-7) w h
  unfold EncPost at hE
  rw [show (if mayB ⟨1, 3, 0, 0, -7⟩ = true then encW ⟨1, 3, 0, 0, -7⟩ else 0) = 19927033 from by kernel_rfl, show (if mayB ⟨1, 3, 0, 0, -7⟩ = true then (0 : Int) else 2) = 0 from by kernel_rfl] at hE
  have hA := fun w h => asm_any wSrcL w h (by decide)
  obtain ⟨x, y, z, c, m, hR, hy, hm, a', b', c', m', hz⟩ := wok wasm
  rw [hR] at hA
  unfold AsmPost at hA
  have hP1 := fun w h => print_any 19927033 (by decide) (by decide) w h
  have hP2 := fun w h => print_any 4294967295 (by decide) (by decide) w h
  rw [wprint1] at hP1
  rw [wprint2] at hP2
  have hT' := Lib.hid hT
  replace hA := Lib.hid hA
  replace hE := Lib.hid hE
  replace hP1 := Lib.hid hP1
  replace hP2 := Lib.hid hP2
  replace hL := Lib.hid hL
  replace hy := Lib.hid hy
  replace hz := Lib.hid hz
  replace hm := Lib.hid hm
  clear hR hT
  go_enter Tryz.func14, Tryz.ntmps14
  go_wp2_with fail
  refine hL.out.mono ?_
  rintro e w1 ⟨rfl, h1⟩
  have k1 := Lib.hid h1
  clear h1 hL
  go_wp2_with fail
  refine (hE.out w1 (hT'.out.below k1.out).tabs).mono ?_
  rintro e w2 ⟨rfl, h2⟩
  have k2 := Lib.hid (k1.out.trans (h2.mono k1.out.size))
  clear h2 hE k1
  go_wp2_with fail
  refine (hA.out w2 (hT'.out.below k2.out)).mono ?_
  rintro e w3 ⟨v, rfl, ho, h3, hw, -⟩
  have k3 := Lib.hid (k2.out.trans (h3.mono k2.out.size))
  have hw1 := Lib.hid (hw y (by simp))
  have hw2 := Lib.hid (hw z (by simp))
  replace ho := Lib.hid ho
  obtain ⟨g, cap, rfl, hg, c1, c2⟩ := three_own ho
  have hg3 : g < w3.heap.size := by
    unfold World.cell? at c1
    split at c1
    · rename_i hh; exact (Array.getElem?_eq_some_iff.1 hh).1
    · cases c1
  replace hg := Lib.hid hg
  replace hg3 := Lib.hid hg3
  have b1 := Lib.hid c1
  have b2 := Lib.hid c2
  have bk := k3
  clear ho hw c1 c2
  go_wp2_with fail
  refine (hP1.out w3 (hT'.out.below k3.out)).mono ?_
  rintro e w4 ⟨rfl, h4⟩
  have k4 := Lib.hid h4
  clear h4 hP1
  go_wp2_with fail
  refine (hP2.out w4 (hT'.out.below (k3.out.trans (k4.out.mono k3.out.size)))).mono ?_
  rintro e w5 ⟨rfl, h5⟩
  have k5 := Lib.hid (k4.out.trans (h5.mono k4.out.size))
  clear h5 hP2 k4
  have d1 : w5.cell? ⟨g, 1, none⟩ = some (.int .u32 y) := ((k5.out.cell (p := ⟨g, 1, none⟩) hg3.out)).trans b1.out
  have d2 : w5.cell? ⟨g, 2, none⟩ = some (.int .u32 z) := ((k5.out.cell (p := ⟨g, 2, none⟩) hg3.out)).trans b2.out
  go_wp2_with fail
  refine (wDecV y hw1.out.1 hw1.out.2 26 1 0 c m hy.out w5 (hT'.out.below (k3.out.trans (k5.out.mono k3.out.size))).tabs).mono ?_
  rintro e w6 ⟨rfl, h6⟩
  have k6 := Lib.hid (k5.out.trans (h6.mono k5.out.size))
  clear h6 k5 d1 d2
  have K6 := ((KR.mk (k3.out.trans (k6.out.mono k3.out.size)) (fun y hy => by cases hy) : KR W [] w6)).push [.int .i64 26, .int .i64 1, .int .i64 0, .int .i64 c, .int .i64 m] 49
  have d2 : w6.cell? ⟨g, 2, none⟩ = some (.int .u32 z) := ((k6.out.cell (p := ⟨g, 2, none⟩) hg3.out)).trans b2.out
  have d3 : (w6.alloc (.cells #[.int .i64 26, .int .i64 1, .int .i64 0, .int .i64 c, .int .i64 m] 49)).cell? ⟨g, 2, none⟩ = some (.int .u32 z) := ((Below.refl _ w6).alloc (Nat.le_refl _) _ |>.cell (p := ⟨g, 2, none⟩) (Nat.lt_of_lt_of_le hg3.out k6.out.size)).trans d2
  have e0 : (w6.alloc (.cells #[.int .i64 26, .int .i64 1, .int .i64 0, .int .i64 c, .int .i64 m] 49)).cell? ⟨w6.heap.size, 0, none⟩ = some (.int .i64 26) := K6.cell _ (List.mem_cons_self ..) rfl
  have e1 : (w6.alloc (.cells #[.int .i64 26, .int .i64 1, .int .i64 0, .int .i64 c, .int .i64 m] 49)).cell? ⟨w6.heap.size, 1, none⟩ = some (.int .i64 1) := K6.cell _ (List.mem_cons_self ..) rfl
  have e2 : (w6.alloc (.cells #[.int .i64 26, .int .i64 1, .int .i64 0, .int .i64 c, .int .i64 m] 49)).cell? ⟨w6.heap.size, 2, none⟩ = some (.int .i64 0) := K6.cell _ (List.mem_cons_self ..) rfl
  have e4 : (w6.alloc (.cells #[.int .i64 26, .int .i64 1, .int .i64 0, .int .i64 c, .int .i64 m] 49)).cell? ⟨w6.heap.size, 4, none⟩ = some (.int .i64 m) := K6.cell _ (List.mem_cons_self ..) rfl
  replace K6 := Lib.hid K6
  clear k6 d2
  obtain rfl := hm.out
  go_wp2_with fail
  refine (wDecV z hw2.out.1 hw2.out.2 53 a' b' c' m' hz.out _ (hT'.out.below K6.out.bl).tabs).mono ?_
  rintro e w7 ⟨rfl, h7⟩
  have k7 := Lib.hid (K6.out.below h7).bl
  have hfld : ∀ w, (Instr.field 49 (.agg #[.int .i64 53, .int .i64 a', .int .i64 b', .int .i64 c', .int .i64 m']) 0).run Tryz.prog w = .ok (.int .i64 53) w := fun w => by kernel_rfl
  clear h7 d3 e0 e1 e2 e4
  go_wp2_with fail
  go_ret
  exact ⟨rfl, k7.out⟩
theorem NumsIn.mono {w : World} {B : Nat} {A : Option Addr} {n m : Nat} {k : IntKind} (h : NumsIn w B A n k) (hm : m ≤ n) : NumsIn w B A m k := fun i hi => h i (by omega)
/-- Words that came in, as a list. -/
theorem words_of {w : World} {B : Nat} {A : Option Addr} : ∀ {n : Nat}, NumsIn w B A n .u32 → ∃ ws : List Int, ws.length = n ∧ WL w B A ws ∧ W32 ws
  | 0, _ => ⟨[], rfl, fun h => (by cases h), fun x h => (by cases h)⟩
  | n + 1, h => by
    obtain ⟨ws, hl, hA, hw⟩ := words_of (n := n) (fun i hi => h i (by omega))
    obtain ⟨b, off, e, hlt, x, hx, hwf⟩ := h n (by omega)
    refine ⟨ws ++ [x], by simp [hl], fun _ => ⟨b, off, e, hlt, fun j u hj => ?_⟩, fun y hy => ?_⟩
    · rcases Nat.lt_or_ge j n with hlt' | hge
      · rw [List.getElem?_append_left (by omega)] at hj
        obtain ⟨b', off', e', _, hc⟩ := hA (by omega)
        rw [e] at e'
        simp only [Option.some.injEq, Addr.mk.injEq, and_true] at e'
        obtain ⟨rfl, rfl⟩ := e'
        exact hc j u hj
      · rw [List.getElem?_append_right (by omega)] at hj
        have hjn : j = n := by
          have := (List.getElem?_eq_some_iff.1 hj).1
          simp at this
          omega
        subst hjn
        simp only [hl, Nat.sub_self, List.getElem?_cons_zero, Option.some.injEq] at hj
        subst hj
        exact hx
    · rcases List.mem_append.1 hy with h' | h'
      · exact hw y h'
      · simp only [List.mem_singleton] at h'
        subst h'
        have := bounds_u32 hwf
        omega
end Go.Proofs.YtdkggahkfheocaaGreatDoor
