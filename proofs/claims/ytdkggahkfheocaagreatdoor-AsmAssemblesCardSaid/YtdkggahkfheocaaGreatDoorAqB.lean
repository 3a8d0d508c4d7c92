/- Lists of numbers, and arrays of two, that came in: what their cells hold. Plain lemmas; no statement is proved here.; What the laws of layer asm ask first, reckoned: the closed values. No statement is proved here.; Plain words for layer asm: ways to labels, over many words. No statement is proved here.; Plain words for layer asm: all blanks of a text replaced. No statement is proved here.; Contracts of the laws of layer asm: two lists of words that are alike. No statement is proved here.; Words for layer asm's closed law: sources that are refused, and contracts of the calls upon them. No statement is proved here. -/
import Derived.Test.YtdkggahkfheocaaGreatDoorChecked
import Derived.Deep.Slices
import Derived.Deep.Strs
import Derived.Below
import Derived.ChangeSame
import Derived.ProofKit
import Derived.OpenShut
import Derived.Lib.SmallJoins
import Derived.Test.YtdkggahkfheocaaGreatDoorAqA
import Derived.Test.YtdkggahkfheocaaGreatDoorAqE
import Derived.Lib.Replace
import Derived.Lib.Repeat
import Derived.Test.YtdkggahkfheocaaGreatDoorAsK
namespace Go.Proofs.YtdkggahkfheocaaGreatDoor
open Go.ChangeShapes Go.WideShapes Go.Deep Go.RowKit
set_option linter.unusedVariables false

/-- The slice's n elements are numbers of kind k; they lie below block B. -/
def NumsIn (w : World) (B : Nat) (A : Option Addr) (n : Nat) (k : IntKind) : Prop :=
  ∀ i, i < n → ∃ b off, A = some ⟨b, off, none⟩ ∧ b < B ∧ ∃ x : Int, w.cell? ⟨b, off + i, none⟩ = some (.int k x) ∧ (Lit.int k x).wf = true
theorem NumsIn.below {w w' : World} {B : Nat} {A : Option Addr} {n : Nat} {k : IntKind} (h : NumsIn w B A n k) (hb : Below B w w') : NumsIn w' B A n k := fun i hi => by
  obtain ⟨b, off, e, hlt, x, h1, r⟩ := h i hi
  exact ⟨b, off, e, hlt, x, (hb.cell (p := ⟨b, _, none⟩) hlt).trans h1, r⟩
theorem lt_of_cell' {w : World} {p : Addr} {v : Value} (h : w.cell? p = some v) : p.block < w.heap.size := by
  rcases Nat.lt_or_ge p.block w.heap.size with hlt | hge
  · exact hlt
  · simp [World.cell?, Array.getElem?_eq_none hge] at h

theorem nums_of {H : Type} {enc : TypeId × Value → H} {P : Program} {W : World} {base : Nat} {held : Bool} {r : Reach} {b0 : Nat} {t e : TypeId} {k : IntKind} {v : Value} {d : DataW H} {ps : List MemPlace}
    (hu : P.underlying t = some (.slice e)) (he : P.underlying e = some (.int k)) (hC : P.cellsOf e = 1)
    (hv : Value.okWide P W r b0 t v) (hd : DataW.Trod enc P W base (fun _ => true) held t v d ps) :
    ∃ A n cap, v = .slice A n cap ∧ n ≤ cap ∧ cap ≤ maxLen ∧ NumsIn W W.heap.size A n k := by
  obtain ⟨a0, len, cap, rfl⟩ := okWide_slice hu hv
  obtain ⟨fuel, hf⟩ := hd
  rcases open_slice hu hf with ⟨hcs, _⟩ | ⟨a, l, c, m, n, D, Pl, hcs, _, hl, hm, hmm, _, hi⟩
  · simp [Value.cells] at hcs
    obtain ⟨rfl, rfl, rfl⟩ := hcs
    exact ⟨none, 0, 0, rfl, Nat.le_refl _, Nat.zero_le _, fun i hi => absurd hi (by omega)⟩
  · simp [Value.cells] at hcs
    obtain ⟨rfl, rfl, rfl⟩ := hcs
    refine ⟨some a, len, cap, rfl, hl, hm, fun i hlt => ?_⟩
    obtain ⟨cs, hc, ht⟩ := hi i (by rw [hmm]; simp; omega)
    rw [hC] at hc
    obtain ⟨_, hcl, hat⟩ := World.cells?_some hc
    match cs, hcl with
    | [u0], _ =>
      obtain ⟨x, e0, _, w0⟩ := DataW.trod_int he ht
      simp at e0
      subst e0
      have c0 := hat 0 (by omega)
      simp at c0
      obtain ⟨b, off, spot⟩ := a
      have hspot : spot = none := by
        obtain ⟨cs', hc', _⟩ := hi 0 (by rw [hmm]; simp; omega)
        rw [hC] at hc'
        obtain ⟨_, hcl', hat'⟩ := World.cells?_some hc'
        have h0 := hat' 0 (by omega)
        rw [List.getElem?_eq_getElem (by omega)] at h0
        have := World.cell?_spot h0
        simpa [Addr.add] using this
      subst hspot
      have hlt := lt_of_cell' c0
      simp only [Addr.add_lit] at c0 hlt
      exact ⟨b, off, rfl, hlt, x, by simpa using c0, w0⟩

theorem pair_of {H : Type} {enc : TypeId × Value → H} {P : Program} {W : World} {base : Nat} {held : Bool} {sp : Nat → Bool} {r : Reach} {b0 : Nat} {t e : TypeId} {k : IntKind} {v : Value} {d : DataW H} {ps : List MemPlace}
    (hu : P.underlying t = some (.array 2 e)) (he : P.underlying e = some (.int k)) (hC : P.cellsOf e = 1) (hT : P.cellsOf t = 2)
    (hv : Value.okWide P W r b0 t v) (hd : DataW.Trod enc P W base sp held t v d ps) :
    ∃ x y : Int, v = .agg #[.int k x, .int k y] ∧ (Lit.int k x).wf = true ∧ (Lit.int k y).wf = true := by
  simp only [Value.okWide, hu] at hv
  obtain ⟨cs, rfl, hsz, _⟩ := hv
  rw [hT] at hsz
  obtain ⟨c0, c1, rfl⟩ : ∃ c0 c1, cs = #[c0, c1] := by
    match cs, hsz with
    | ⟨[c0, c1]⟩, _ => exact ⟨c0, c1, rfl⟩
  obtain ⟨fuel, hf⟩ := hd
  obtain ⟨xs, m, _, _, _, hl, hi⟩ := DataW.trod_array hu hf
  have g0 := hi 0 (by omega)
  have g1 := hi 1 (by omega)
  rw [hC, List.getElem?_eq_getElem (by omega)] at g0 g1
  simp [Value.cells] at g0 g1
  obtain ⟨x, e0, _, w0⟩ := DataW.trod_int he g0
  obtain ⟨y, e1, _, w1⟩ := DataW.trod_int he g1
  simp at e0 e1
  subst e0 e1
  exact ⟨x, y, rfl, w0, w1⟩
end Go.Proofs.YtdkggahkfheocaaGreatDoor
namespace Go.Proofs.YtdkggahkfheocaaGreatDoor
set_option maxRecDepth 100000
open Go.RowKit
def wTextL : List UInt8 := [108, 105, 32, 99, 51, 32, 45, 55]
def wSrcL : List UInt8 := [108, 111, 111, 112, 58, 10, 32, 97, 100, 100, 105, 32, 99, 49, 32, 99, 49, 32, 45, 49, 32, 59, 32, 108, 101, 115, 115, 10, 32, 98, 110, 101, 32, 99, 49, 32, 99, 48, 32, 108, 111, 111, 112, 10, 116, 114, 97, 112]
theorem wprint1 : printL 19927033 = wTextL := by kernel_rfl
theorem wprint2 : printL 4294967295 = [119, 111, 114, 100, 32, 52, 50, 57, 52, 57, 54, 55, 50, 57, 53] := by kernel_rfl
theorem wline : lineV wTextL = (19927033, 0) := by kernel_rfl
def wtest (R : Except (Int × Nat) (List Int)) : Bool := match R with
  | .ok l => l.length == 3 && decide ((decW (l.getD 1 0)).op = 26) && decide ((decW (l.getD 1 0)).a = 1) && decide ((decW (l.getD 1 0)).b = 0) && decide ((decW (l.getD 1 0)).m = -1) && decide ((decW (l.getD 2 0)).op = 53)
  | .error _ => false
theorem wasm : wtest (asmL wSrcL) = true := by kernel_rfl
theorem wok {R : Except (Int × Nat) (List Int)} (h : wtest R = true) :
    ∃ x y z c m, R = .ok [x, y, z] ∧ decW y = ⟨26, 1, 0, c, m⟩ ∧ m = -1 ∧ ∃ a b c m, decW z = ⟨53, a, b, c, m⟩ := by
  cases R with
  | error e => cases h
  | ok l =>
    simp only [wtest, Bool.and_eq_true, beq_iff_eq, decide_eq_true_eq] at h
    obtain ⟨⟨⟨⟨⟨h0, h1⟩, h2⟩, h3⟩, h4⟩, h5⟩ := h
    match l, h0, h1, h2, h3, h4, h5 with
    | [x, y, z], _, h1, h2, h3, h4, h5 =>
      simp only [List.getD_eq_getElem?_getD, List.getElem?_cons_succ, List.getElem?_cons_zero, Option.getD_some] at h1 h2 h3 h4 h5
      refine ⟨x, y, z, (decW y).c, (decW y).m, rfl, ?_, h4, (decW z).a, (decW z).b, (decW z).c, (decW z).m, ?_⟩
      · cases hy : decW y
        rw [hy] at h1 h2 h3
        simp only at h1 h2 h3
        rw [h1, h2, h3]
      · cases hz : decW z
        rw [hz] at h5
        simp only at h5
        rw [h5]
/-- Three words that a call made: where they lie. -/
theorem three_own {w : World} {base : Nat} {v : Value} {x y z : Value} (h : w.ownsRow base 24 1 v 3 [x, y, z]) :
    ∃ g cap, v = .slice (some ⟨g, 0, none⟩) 3 cap ∧ base ≤ g ∧ w.cell? ⟨g, 1, none⟩ = some y ∧ w.cell? ⟨g, 2, none⟩ = some z := by
  obtain ⟨-, ⟨-, h⟩ | ⟨g, cap, cur, rfl, hb, hg, -, -, -, hc⟩⟩ := h
  · cases h
  · refine ⟨g, cap, rfl, hb, ?_, ?_⟩
    · have := congrArg (·[1]?) hc
      simp only [List.getElem?_take, List.getElem?_cons_succ, List.getElem?_cons_zero] at this
      simpa [World.cell?, hg] using this
    · have := congrArg (·[2]?) hc
      simp only [List.getElem?_take, List.getElem?_cons_succ, List.getElem?_cons_zero] at this
      simpa [World.cell?, hg] using this
theorem wDecV (x : Int) (h0 : 0 ≤ x) (h1 : x < 4294967296) (o a b c m : Int) (h : decW x = ⟨o, a, b, c, m⟩) (W : World) (hT : Tabs W) : Calls Tryz.prog 24 #[.int .u32 x] W fun e w' => e = .returned (.agg #[.int .i64 o, .int .i64 a, .int .i64 b, .int .i64 c, .int .i64 m]) ∧ Below W.heap.size W w' :=
  (pDecode_any x h0 h1 W hT).mono fun e w' k => ⟨k.1.trans (by rw [h]; rfl), k.2⟩
set_option maxHeartbeats 2000000 in
theorem works_any (W : World) (hT : T8 W) : Calls Tryz.prog 14 #[] W fun e w' => e = .returned (.bool true) ∧ Below W.heap.size W w' := by
  have hL := line_any wTextL W hT (by decide)
  rw [wline] at hL
  have hE := fun w h => pEncode_any 1 3 0 0 (-7) w h
  unfold EncPost at hE
  rw [show (if mayB ⟨1, 3, 0, 0, -7⟩ = true then encW ⟨1, 3, 0, 0, -7⟩ else 0) = 19927033 from by kernel_rfl, show (if mayB ⟨1, 3, 0, 0, -7⟩ = true then (0 : Int) else 2) = 0 from by kernel_rfl] at hE
  have hA := fun w h => asm_any wSrcL w h (by decide)
  obtain ⟨x, y, z, c, m, hR, hy, hm, a', b', c', m', hz⟩ := wok wasm
  rw [hR] at hA
  unfold AsmPost at hA
  have hP1 := fun w h => print_any 19927033 (by decide) (by decide) w h
  have hP2 := fun w h => print_any 4294967295 (by decide) (by decide) w h
  rw [wprint1] at hP1
  rw [wprint2] at hP2
  have hT' := Lib.hid hT
  replace hA := Lib.hid hA
  replace hE := Lib.hid hE
  replace hP1 := Lib.hid hP1
  replace hP2 := Lib.hid hP2
  replace hL := Lib.hid hL
  replace hy := Lib.hid hy
  replace hz := Lib.hid hz
  replace hm := Lib.hid hm
  clear hR hT
  go_enter Tryz.func14, Tryz.ntmps14
  go_wp2_with fail
  refine hL.out.mono ?_
  rintro e w1 ⟨rfl, h1⟩
  have k1 := Lib.hid h1
  clear h1 hL
  go_wp2_with fail
  refine (hE.out w1 (hT'.out.below k1.out).tabs).mono ?_
  rintro e w2 ⟨rfl, h2⟩
  have k2 := Lib.hid (k1.out.trans (h2.mono k1.out.size))
  clear h2 hE k1
  go_wp2_with fail
  refine (hA.out w2 (hT'.out.below k2.out)).mono ?_
  rintro e w3 ⟨v, rfl, ho, h3, hw, -⟩
  have k3 := Lib.hid (k2.out.trans (h3.mono k2.out.size))
  have hw1 := Lib.hid (hw y (by simp))
  have hw2 := Lib.hid (hw z (by simp))
  replace ho := Lib.hid ho
  obtain ⟨g, cap, rfl, hg, c1, c2⟩ := three_own ho
  have hg3 : g < w3.heap.size := by
    unfold World.cell? at c1
    split at c1
    · rename_i hh; exact (Array.getElem?_eq_some_iff.1 hh).1
    · cases c1
  replace hg := Lib.hid hg
  replace hg3 := Lib.hid hg3
  have b1 := Lib.hid c1
  have b2 := Lib.hid c2
  have bk := k3
  clear ho hw c1 c2
  go_wp2_with fail
  refine (hP1.out w3 (hT'.out.below k3.out)).mono ?_
  rintro e w4 ⟨rfl, h4⟩
  have k4 := Lib.hid h4
  clear h4 hP1
  go_wp2_with fail
  refine (hP2.out w4 (hT'.out.below (k3.out.trans (k4.out.mono k3.out.size)))).mono ?_
  rintro e w5 ⟨rfl, h5⟩
  have k5 := Lib.hid (k4.out.trans (h5.mono k4.out.size))
  clear h5 hP2 k4
  have d1 : w5.cell? ⟨g, 1, none⟩ = some (.int .u32 y) := ((k5.out.cell (p := ⟨g, 1, none⟩) hg3.out)).trans b1.out
  have d2 : w5.cell? ⟨g, 2, none⟩ = some (.int .u32 z) := ((k5.out.cell (p := ⟨g, 2, none⟩) hg3.out)).trans b2.out
  go_wp2_with fail
  refine (wDecV y hw1.out.1 hw1.out.2 26 1 0 c m hy.out w5 (hT'.out.below (k3.out.trans (k5.out.mono k3.out.size))).tabs).mono ?_
  rintro e w6 ⟨rfl, h6⟩
  have k6 := Lib.hid (k5.out.trans (h6.mono k5.out.size))
  clear h6 k5 d1 d2
  have K6 := ((KR.mk (k3.out.trans (k6.out.mono k3.out.size)) (fun y hy => by cases hy) : KR W [] w6)).push [.int .i64 26, .int .i64 1, .int .i64 0, .int .i64 c, .int .i64 m] 49
  have d2 : w6.cell? ⟨g, 2, none⟩ = some (.int .u32 z) := ((k6.out.cell (p := ⟨g, 2, none⟩) hg3.out)).trans b2.out
  have d3 : (w6.alloc (.cells #[.int .i64 26, .int .i64 1, .int .i64 0, .int .i64 c, .int .i64 m] 49)).cell? ⟨g, 2, none⟩ = some (.int .u32 z) := ((Below.refl _ w6).alloc (Nat.le_refl _) _ |>.cell (p := ⟨g, 2, none⟩) (Nat.lt_of_lt_of_le hg3.out k6.out.size)).trans d2
  have e0 : (w6.alloc (.cells #[.int .i64 26, .int .i64 1, .int .i64 0, .int .i64 c, .int .i64 m] 49)).cell? ⟨w6.heap.size, 0, none⟩ = some (.int .i64 26) := K6.cell _ (List.mem_cons_self ..) rfl
  have e1 : (w6.alloc (.cells #[.int .i64 26, .int .i64 1, .int .i64 0, .int .i64 c, .int .i64 m] 49)).cell? ⟨w6.heap.size, 1, none⟩ = some (.int .i64 1) := K6.cell _ (List.mem_cons_self ..) rfl
  have e2 : (w6.alloc (.cells #[.int .i64 26, .int .i64 1, .int .i64 0, .int .i64 c, .int .i64 m] 49)).cell? ⟨w6.heap.size, 2, none⟩ = some (.int .i64 0) := K6.cell _ (List.mem_cons_self ..) rfl
  have e4 : (w6.alloc (.cells #[.int .i64 26, .int .i64 1, .int .i64 0, .int .i64 c, .int .i64 m] 49)).cell? ⟨w6.heap.size, 4, none⟩ = some (.int .i64 m) := K6.cell _ (List.mem_cons_self ..) rfl
  replace K6 := Lib.hid K6
  clear k6 d2
  obtain rfl := hm.out
  go_wp2_with fail
  refine (wDecV z hw2.out.1 hw2.out.2 53 a' b' c' m' hz.out _ (hT'.out.below K6.out.bl).tabs).mono ?_
  rintro e w7 ⟨rfl, h7⟩
  have k7 := Lib.hid (K6.out.below h7).bl
  have hfld : ∀ w, (Instr.field 49 (.agg #[.int .i64 53, .int .i64 a', .int .i64 b', .int .i64 c', .int .i64 m']) 0).run Tryz.prog w = .ok (.int .i64 53) w := fun w => by kernel_rfl
  clear h7 d3 e0 e1 e2 e4
  go_wp2_with fail
  go_ret
  exact ⟨rfl, k7.out⟩
theorem NumsIn.mono {w : World} {B : Nat} {A : Option Addr} {n m : Nat} {k : IntKind} (h : NumsIn w B A n k) (hm : m ≤ n) : NumsIn w B A m k := fun i hi => h i (by omega)
/-- Words that came in, as a list. -/
theorem words_of {w : World} {B : Nat} {A : Option Addr} : ∀ {n : Nat}, NumsIn w B A n .u32 → ∃ ws : List Int, ws.length = n ∧ WL w B A ws ∧ W32 ws
  | 0, _ => ⟨[], rfl, fun h => (by cases h), fun x h => (by cases h)⟩
  | n + 1, h => by
    obtain ⟨ws, hl, hA, hw⟩ := words_of (n := n) (fun i hi => h i (by omega))
    obtain ⟨b, off, e, hlt, x, hx, hwf⟩ := h n (by omega)
    refine ⟨ws ++ [x], by simp [hl], fun _ => ⟨b, off, e, hlt, fun j u hj => ?_⟩, fun y hy => ?_⟩
    · rcases Nat.lt_or_ge j n with hlt' | hge
      · rw [List.getElem?_append_left (by omega)] at hj
        obtain ⟨b', off', e', _, hc⟩ := hA (by omega)
        rw [e] at e'
        simp only [Option.some.injEq, Addr.mk.injEq, and_true] at e'
        obtain ⟨rfl, rfl⟩ := e'
        exact hc j u hj
      · rw [List.getElem?_append_right (by omega)] at hj
        have hjn : j = n := by
          have := (List.getElem?_eq_some_iff.1 hj).1
          simp at this
          omega
        subst hjn
        simp only [hl, Nat.sub_self, List.getElem?_cons_zero, Option.some.injEq] at hj
        subst hj
        exact hx
    · rcases List.mem_append.1 hy with h' | h'
      · exact hw y h'
      · simp only [List.mem_singleton] at h'
        subst h'
        have := bounds_u32 hwf
        omega
end Go.Proofs.YtdkggahkfheocaaGreatDoor
namespace Go.Proofs.YtdkggahkfheocaaGreatDoor
set_option maxRecDepth 100000
open Go.RowKit Go.Lib
set_option linter.unusedVariables false

def retL : List UInt8 := [114, 101, 116]
def retW : Int := 855638016
/-- So many lines 'ret'. -/
def retsL (n : Nat) : List UInt8 := (List.replicate n (retL ++ [10])).flatten
theorem rets_succ (n : Nat) : retsL (n + 1) = retL ++ 10 :: retsL n := by simp [retsL, List.replicate_succ]
theorem rets_len (n : Nat) : (retsL n).length = 4 * n := by
  induction n with
  | zero => rfl
  | succ n ih => rw [rets_succ, List.length_append, List.length_cons, ih]; simp [retL]; omega
theorem rets_lines : ∀ (n : Nat) (t : List UInt8), linesL (retsL n ++ t) = List.replicate n retL ++ linesL t
  | 0, t => rfl
  | n + 1, t => by
    rw [rets_succ, List.append_assoc, List.cons_append, lines_cons _ _ (by decide), rets_lines n t, List.replicate_succ, List.cons_append]
theorem ret_take (st : AS) (n : Nat) (h4 : st.its.length ≠ 4096) : takeL st n (bareL retL) = (0, { st with its := st.its ++ [(retW, [], n)] }) :=
  take_bare st n retL retW [] (by decide) (by decide) (by kernel_rfl) h4
def retI (k : Nat) : Nat → List (Int × List UInt8 × Nat)
  | 0 => []
  | n + 1 => (retW, [], k) :: retI (k + 1) n
theorem retI_len : ∀ (n k : Nat), (retI k n).length = n
  | 0, _ => rfl
  | n + 1, k => by rw [retI, List.length_cons, retI_len n]
theorem rets_take : ∀ (n k : Nat) (st : AS) (r : List (List UInt8)), st.its.length + n ≤ 4096 → takeAll st k ((List.replicate n retL).map bareL ++ r) = takeAll ⟨st.its ++ retI k n, st.labs⟩ (k + n) r
  | 0, k, st, r, _ => by simp [retI]
  | n + 1, k, st, r, h => by
    rw [List.replicate_succ, List.map_cons, List.cons_append, take_step (ret_take st k (by omega)), rets_take n (k + 1) _ r (by simp only [List.length_append, List.length_singleton]; omega)]
    simp only [retI, List.append_assoc, List.singleton_append, show k + 1 + n = k + (n + 1) from by omega]
theorem link_rets (labs : List (List UInt8 × Nat)) : ∀ (n k i : Nat) (r : List (Int × List UInt8 × Nat)), linkAll labs i (retI k n ++ r) = match linkAll labs (i + n) r with
    | .ok l => .ok (List.replicate n retW ++ l)
    | .error e => .error e
  | 0, k, i, r => by
    simp only [retI, List.nil_append, List.replicate_zero, Nat.add_zero]
    cases linkAll labs i r <;> rfl
  | n + 1, k, i, r => by
    rw [retI, List.cons_append, linkAll, if_pos rfl, link_rets labs n (k + 1) (i + 1) r, show i + 1 + n = i + (n + 1) from by omega]
    cases linkAll labs (i + (n + 1)) r <;> simp [List.replicate_succ]
theorem jal_may (a m : Int) (ha : 0 ≤ a ∧ a ≤ 15) (h0 : -524288 ≤ m) (h1 : m ≤ 524287) : mayB ⟨29, a, 0, 0, m⟩ = true := by
  have e : formAt 29 = [97, 106] := by kernel_rfl
  refine may_of ⟨show (1 : Int) ≤ 29 by decide, show (29 : Int) ≤ 53 by decide, ?_⟩
  simp only [e]
  refine ⟨fld_of ⟨ha.1, ha.2, fun k => absurd k (by decide)⟩, fld_of ⟨by decide, by decide, fun _ => rfl⟩, fld_of ⟨by decide, by decide, fun _ => rfl⟩, imm_of ⟨fun _ => ⟨h0, h1⟩, fun k => absurd k (by decide), fun k => absurd k (by decide)⟩⟩
theorem beq_may (a b m : Int) (ha : 0 ≤ a ∧ a ≤ 15) (hb : 0 ≤ b ∧ b ≤ 15) : mayB ⟨25, a, b, 0, m⟩ = decide (-2048 ≤ m ∧ m ≤ 2047) := by
  have e : formAt 25 = [97, 98, 105] := by kernel_rfl
  by_cases h : -2048 ≤ m ∧ m ≤ 2047
  · rw [decide_eq_true h]
    refine may_of ⟨show (1 : Int) ≤ 25 by decide, show (25 : Int) ≤ 53 by decide, ?_⟩
    simp only [e]
    exact ⟨fld_of ⟨ha.1, ha.2, fun k => absurd k (by decide)⟩, fld_of ⟨hb.1, hb.2, fun k => absurd k (by decide)⟩, fld_of ⟨by decide, by decide, fun _ => rfl⟩, imm_of ⟨fun k => absurd k (by decide), fun _ _ => h, fun _ k => absurd k (by decide)⟩⟩
  · rw [decide_eq_false h, Bool.eq_false_iff]
    intro hm
    have := (imm_in (may_parts hm).2.2.2.2.2).2.1
    simp only [e] at this
    exact h (this (by decide) (by decide))
def firstL : List UInt8 := [102, 105, 114, 115, 116]
def lastL : List UInt8 := [108, 97, 115, 116]
def onL : List UInt8 := [111, 110]
/-- "jal c0 last", "jal c1 first", "beq c2 c3 last", "beq c0 c0 on" -/
def j0L : List UInt8 := [106, 97, 108, 32, 99, 48, 32, 108, 97, 115, 116]
def j1L : List UInt8 := [106, 97, 108, 32, 99, 49, 32, 102, 105, 114, 115, 116]
def b0L : List UInt8 := [98, 101, 113, 32, 99, 50, 32, 99, 51, 32, 108, 97, 115, 116]
def b1L : List UInt8 := [98, 101, 113, 32, 99, 48, 32, 99, 48, 32, 111, 110]
def wayL (n m : Nat) : List UInt8 := (firstL ++ [58]) ++ 10 :: (j0L ++ 10 :: (retsL n ++ (j1L ++ 10 :: ((lastL ++ [58]) ++ 10 :: (retsL m ++ (b0L ++ 10 :: []))))))
def farL (n : Nat) : List UInt8 := (onL ++ [58]) ++ 10 :: (retsL n ++ b1L)
theorem take_plain (st : AS) (n : Nat) (l : List UInt8) (w : Int) (lab : List UInt8) (h : (58 ∉ cutA l 59) ∧ wordsL (cutA l 59) ≠ []) (hr : readP (wordsL (cutA l 59)) = some (w, lab)) (h4 : st.its.length ≠ 4096) :
    takeL st n (bareL l) = (0, { st with its := st.its ++ [(w, lab, n)] }) := take_bare st n l w lab h.1 h.2 hr h4
theorem way_len (n m : Nat) : (wayL n m).length = 53 + 4 * n + 4 * m := by
  unfold wayL
  simp only [List.length_append, List.length_cons, rets_len]
  simp [firstL, j0L, j1L, lastL, b0L]
  omega
def i0 (n : Nat) : Ins := ⟨29, 0, 0, 0, (n : Int) + 2⟩
def i1 (n : Nat) : Ins := ⟨29, 1, 0, 0, -(n : Int) - 1⟩
def i2 (m : Nat) : Ins := ⟨25, 2, 3, 0, -(m : Int)⟩
theorem one_link {labs : List (List UInt8 × Nat)} {lab : List UInt8} {k n p : Nat} {w : Int} {i : Ins} (hl : labF labs lab = some p) (hd : { decW w with m := (p : Int) - (k : Int) } = i) (hm : mayB i = true) : linkOne labs k w lab n = .ok (encW i) := by
  unfold linkOne
  rw [hl]
  simp only
  rw [hd, if_pos hm]
theorem link_way (n m k1 a0 a1 k2 a2 : Nat) (hn : n < 3000) (hm : m < 1000) (labs : List (List UInt8 × Nat)) (h1 : labF labs lastL = some (n + 2)) (h2 : labF labs firstL = some 0) :
    linkAll labs 0 ((486539264, lastL, a0) :: (retI k1 n ++ ((487587840, firstL, a1) :: (retI k2 m ++ [(421724160, lastL, a2)])))) = .ok (encW (i0 n) :: (List.replicate n retW ++ encW (i1 n) :: (List.replicate m retW ++ [encW (i2 m)]))) := by
  have d0 : decW 486539264 = ⟨29, 0, 0, 0, 0⟩ := by kernel_rfl
  have d1 : decW 487587840 = ⟨29, 1, 0, 0, 0⟩ := by kernel_rfl
  have d2 : decW 421724160 = ⟨25, 2, 3, 0, 0⟩ := by kernel_rfl
  have o0 : linkOne labs 0 486539264 lastL a0 = .ok (encW (i0 n)) := one_link h1 (by rw [d0]; unfold i0; simp) (jal_may 0 _ (by decide) (by omega) (by omega))
  have o1 : linkOne labs (0 + 1 + n) 487587840 firstL a1 = .ok (encW (i1 n)) := one_link h2 (by rw [d1]; unfold i1; simp; omega) (jal_may 1 _ (by decide) (by omega) (by omega))
  have o2 : linkOne labs (0 + 1 + n + 1 + m) 421724160 lastL a2 = .ok (encW (i2 m)) := one_link h1 (by rw [d2]; unfold i2; simp; omega) (by rw [i2, beq_may 2 3 _ (by decide) (by decide)]; exact decide_eq_true (by omega))
  have n1 : ¬ lastL = [] := by decide
  have n2 : ¬ firstL = [] := by decide
  rw [linkAll, if_neg n1, o0]
  simp only
  rw [link_rets, linkAll, if_neg n2, o1]
  simp only
  rw [link_rets, linkAll, if_neg n1, o2]
  simp only [linkAll]
theorem way_asm (n m : Nat) (hn : n < 3000) (hm : m < 1000) : asmL (wayL n m) = .ok (encW (i0 n) :: (List.replicate n retW ++ encW (i1 n) :: (List.replicate m retW ++ [encW (i2 m)]))) := by
  have e1 : linesL (wayL n m) = (firstL ++ [58]) :: j0L :: (List.replicate n retL ++ (j1L :: (lastL ++ [58]) :: (List.replicate m retL ++ [b0L, []]))) := by
    unfold wayL
    rw [lines_cons _ _ (by decide), lines_cons _ _ (by decide), rets_lines, lines_cons _ _ (by decide), lines_cons _ _ (by decide), rets_lines, lines_cons _ _ (by decide)]
    rfl
  have q1 : (58 ∉ cutA j1L 59) ∧ wordsL (cutA j1L 59) ≠ [] := ⟨by decide, by decide⟩
  have q2 : (58 ∉ cutA b0L 59) ∧ wordsL (cutA b0L 59) ≠ [] := ⟨by decide, by decide⟩
  have r1 : readP (wordsL (cutA j1L 59)) = some (487587840, firstL) := by kernel_rfl
  have r2 : readP (wordsL (cutA b0L 59)) = some (421724160, lastL) := by kernel_rfl
  have r0 : takeL ⟨[], []⟩ 0 (bareL (firstL ++ [58])) = (0, ⟨[], [(firstL, 0)]⟩) := by kernel_rfl
  have r3 : takeL ⟨[], [(firstL, 0)]⟩ (0 + 1) (bareL j0L) = (0, ⟨[(486539264, lastL, 1)], [(firstL, 0)]⟩) := by kernel_rfl
  have eb : bareL (lastL ++ [58]) = lastL ++ [58] := by kernel_rfl
  have nl : nameB lastL = true := by kernel_rfl
  have nf : labF [(firstL, 0)] lastL = none := by kernel_rfl
  unfold asmL
  rw [if_neg (by rw [way_len]; omega), e1]
  simp only [List.map_cons, List.map_append, List.map_nil]
  rw [take_step r0, take_step r3, rets_take n (0 + 1 + 1) _ _ (by simp; omega), take_step (take_plain _ _ j1L 487587840 firstL q1 r1 (by simp [retI_len]; omega)), eb, take_step (take_lab _ _ lastL nl nf), rets_take m _ _ _ (by simp [retI_len]; omega),
    take_step (take_plain _ _ b0L 421724160 lastL q2 r2 (by simp [retI_len]; omega)), take_step (show takeL _ _ (bareL []) = (0, _) from take_none _ _)]
  simp only [takeAll, List.append_assoc, List.cons_append, List.nil_append]
  refine link_way n m _ _ _ _ _ hn hm _ ?_ ?_
  · rw [labF, if_pos rfl]; simp [retI_len]
  · kernel_rfl
def i3 (n : Nat) : Ins := ⟨25, 0, 0, 0, -(n : Int)⟩
theorem far_len (n : Nat) : (farL n).length = 16 + 4 * n := by
  unfold farL
  simp only [List.length_append, List.length_cons, rets_len]
  simp [onL, b1L]
  omega
def okB (R : Except (Int × Nat) (List Int)) : Bool := match R with
  | .ok _ => true
  | .error _ => false
theorem far_asm (n : Nat) (hn : n < 3000) : okB (asmL (farL n)) = decide ((n : Int) ≤ 2048) := by
  have e1 : linesL (farL n) = (onL ++ [58]) :: (List.replicate n retL ++ [b1L]) := by
    unfold farL
    rw [lines_cons _ _ (by decide), rets_lines, lines_none b1L (by decide)]
  have q1 : (58 ∉ cutA b1L 59) ∧ wordsL (cutA b1L 59) ≠ [] := ⟨by decide, by decide⟩
  have r1 : readP (wordsL (cutA b1L 59)) = some (419430400, onL) := by kernel_rfl
  have r0 : takeL ⟨[], []⟩ 0 (bareL (onL ++ [58])) = (0, ⟨[], [(onL, 0)]⟩) := by kernel_rfl
  have d1 : decW 419430400 = ⟨25, 0, 0, 0, 0⟩ := by kernel_rfl
  unfold asmL
  rw [if_neg (by rw [far_len]; omega), e1]
  simp only [List.map_cons, List.map_append, List.map_nil]
  rw [take_step r0, rets_take n (0 + 1) _ _ (by simp; omega), take_step (take_plain _ _ b1L 419430400 onL q1 r1 (by simp [retI_len]; omega))]
  simp only [takeAll, List.nil_append]
  have n1 : ¬ onL = [] := by decide
  rw [link_rets, linkAll, if_neg n1]
  unfold linkOne
  rw [show labF [(onL, 0)] onL = some 0 from by kernel_rfl]
  simp only
  rw [d1]
  have hm : mayB { (⟨25, 0, 0, 0, 0⟩ : Ins) with m := ((0 : Nat) : Int) - ((0 + n : Nat) : Int) } = decide (-2048 ≤ ((0 : Nat) : Int) - ((0 + n : Nat) : Int) ∧ ((0 : Nat) : Int) - ((0 + n : Nat) : Int) ≤ 2047) := beq_may 0 0 _ (by decide) (by decide)
  rw [hm]
  by_cases h : (n : Int) ≤ 2048
  · rw [if_pos (decide_eq_true (by omega)), decide_eq_true h]
    rfl
  · rw [if_neg (by rw [decide_eq_true_iff]; omega), decide_eq_false h]
    rfl
/-- What the words of the way say, and where they lie. -/
theorem way_words (n m : Nat) (ws : List Int) (h : ws = encW (i0 n) :: (List.replicate n retW ++ encW (i1 n) :: (List.replicate m retW ++ [encW (i2 m)]))) :
    ws.length = n + m + 3 ∧ ws[0]? = some (encW (i0 n)) ∧ ws[n + 1]? = some (encW (i1 n)) ∧ ws[n + m + 2]? = some (encW (i2 m)) := by
  subst h
  refine ⟨by simp; omega, rfl, ?_, ?_⟩
  · rw [List.getElem?_cons_succ, List.getElem?_append_right (by simp)]
    simp
  · rw [show n + m + 2 = (n + m + 1) + 1 from rfl, List.getElem?_cons_succ, List.getElem?_append_right (by simp; omega)]
    simp only [List.length_replicate, show n + m + 1 - n = m + 1 from by omega, List.getElem?_cons_succ]
    rw [List.getElem?_append_right (by simp)]
    simp
theorem way_decs (n m : Nat) (hn : n < 3000) (hm : m < 1000) : decW (encW (i0 n)) = i0 n ∧ decW (encW (i1 n)) = i1 n ∧ decW (encW (i2 m)) = i2 m :=
  ⟨dec_enc (jal_may 0 _ (by decide) (by omega) (by omega)), dec_enc (jal_may 1 _ (by decide) (by omega) (by omega)), dec_enc (by rw [i2, beq_may 2 3 _ (by decide) (by decide)]; exact decide_eq_true (by omega))⟩
end Go.Proofs.YtdkggahkfheocaaGreatDoor
namespace Go.Proofs.YtdkggahkfheocaaGreatDoor
set_option maxRecDepth 100000
open Go.RowKit Go.Lib
set_option linter.unusedVariables false

theorem first_of (c : UInt8) (s : List UInt8) (h : c ∈ s) : ∃ a b, s = a ++ c :: b ∧ ∀ x, x ∈ a → x ≠ c := by
  induction s with
  | nil => cases h
  | cons d l ih =>
    by_cases hc : d = c
    · subst hc; exact ⟨[], l, rfl, fun x hx => by cases hx⟩
    · rcases List.mem_cons.1 h with e | hl
      · exact absurd e.symm hc
      · obtain ⟨a, b, rfl, ha⟩ := ih hl
        exact ⟨d :: a, b, rfl, fun x hx => by
          rcases List.mem_cons.1 hx with rfl | hx
          · exact hc
          · exact ha x hx⟩
theorem index_of (c : UInt8) (a b : List UInt8) (ha : ∀ x, x ∈ a → x ≠ c) : index (a ++ c :: b) [c] = (a.length : Int) := by
  refine index_first (by simp) ?_ (fun j hj => ?_)
  · unfold occAt
    rw [List.drop_left]
    simp
  · unfold occAt
    have h1 := ha a[j] (List.getElem_mem hj)
    have h2 : (a ++ c :: b).drop j = a[j] :: (a ++ c :: b).drop (j + 1) := by
      rw [List.drop_eq_getElem_cons (by simp; omega), List.getElem_append_left hj]
    rw [h2]
    have h3 : (c == a[j]) = false := by simpa using Ne.symm h1
    show (c == a[j] && _) = false
    rw [h3]; rfl
theorem trip_none (l : List UInt8) (h : ∀ x, x ∈ l → x ≠ 32) : tripL l = l := by
  induction l with
  | nil => rfl
  | cons c l ih =>
    have e : tripL (c :: l) = (if c = 32 then [32, 32, 32] else [c]) ++ tripL l := by simp [tripL]
    rw [e, if_neg (h c (List.mem_cons_self ..)), ih (fun x hx => h x (List.mem_cons_of_mem _ hx))]
    rfl
theorem trip_app (a b : List UInt8) : tripL (a ++ b) = tripL a ++ tripL b := by simp [tripL]
theorem rep_is (k : Nat) : ∀ (s : List UInt8), s.count 32 = k → replaceK [32] [32, 32, 32] k s = tripL s := by
  induction k with
  | zero =>
    intro s h
    rw [trip_none s (fun x hx e => by subst e; have := List.count_pos_iff.2 hx; omega)]
    rfl
  | succ k ih =>
    intro s h
    obtain ⟨a, b, rfl, ha⟩ := first_of 32 s (List.count_pos_iff.1 (by omega))
    have hca : a.count 32 = 0 := List.count_eq_zero.2 (fun hm => ha 32 hm rfl)
    have hcb : b.count 32 = k := by
      rw [List.count_append, hca, List.count_cons_self] at h; omega
    rw [replaceK_hit [32] [32, 32, 32] k _ a.length (index_of 32 a b ha), trip_app, trip_none a ha]
    have e2 : tripL (32 :: b) = [32, 32, 32] ++ tripL b := by simp [tripL]
    rw [e2]
    have e3 : (a ++ 32 :: b).drop (a.length + ([32] : List UInt8).length) = b := by
      rw [show a ++ 32 :: b = (a ++ [32]) ++ b by simp, List.drop_left' (by simp)]
    rw [e3, ih b hcb]
    simp
theorem rep_all (s : List UInt8) : replaceAll s [32] [32, 32, 32] = tripL s := by
  unfold replaceAll replace
  rw [if_neg (by decide)]
  unfold replaceNum
  rw [if_pos (.inl (by decide))]
  rw [show count s [32] = s.count 32 from count_one 32 s]
  exact rep_is _ s rfl
theorem rep_rets (n : Nat) (l : List UInt8) : repeatL l n = (List.replicate n l).flatten := by
  induction n with
  | zero => rfl
  | succ n ih => rw [repeatL, ih, List.replicate_succ, List.flatten_cons]
end Go.Proofs.YtdkggahkfheocaaGreatDoor
namespace Go.Proofs.YtdkggahkfheocaaGreatDoor
set_option maxRecDepth 100000
open Go.RowKit Go.Lib
set_option linter.unusedVariables false

theorem own_WL {w : World} {base : Nat} {v : Value} {ws : List Int} (h : w.ownsRow base 24 1 v ws.length (ws.map wV)) : ∃ A cap, v = .slice A ws.length cap ∧ ws.length ≤ cap ∧ WL w w.heap.size A ws := by
  obtain ⟨A, cap, rfl, h1, h2⟩ := own_slice h
  refine ⟨A, cap, rfl, h1, fun hn => ?_⟩
  obtain ⟨g, cap', hv, hb, hg⟩ := h.form hn
  simp only [Value.slice.injEq, true_and] at hv
  obtain ⟨rfl, rfl⟩ := hv
  refine ⟨g, 0, rfl, hg, fun j u hu => ?_⟩
  have hj : j < ws.length := by
    rcases Nat.lt_or_ge j ws.length with hlt | hge
    · exact hlt
    · rw [List.getElem?_eq_none hge] at hu; cases hu
  rw [Nat.zero_add, h.cellAt j (by omega), List.getElem?_map, hu]
  rfl
set_option maxHeartbeats 2000000 in
theorem words_same (ws : List Int) (A A' : Option Addr) (cap cap' : Nat) (W : World) (h : WL W W.heap.size A ws) (h' : WL W W.heap.size A' ws) (hl : ws.length ≤ 5000) :
    Calls Tryz.prog 19 #[.slice A ws.length cap, .slice A' ws.length cap'] W fun e w' => e = .returned (.bool true) ∧ Below W.heap.size W w' := by
  have hA := Lib.hid h
  have hA' := Lib.hid h'
  have hl1 : (ws.length : Int) ≤ 5000 := by omega
  have hbb : ((ws.length : Int) == (ws.length : Int)) = true := by simp
  clear h h' hl
  go_enter Tryz.func19, Tryz.ntmps19
  go_wp2
  go_loopw [5] (fun i wr => ∃ p : Nat, p ≤ ws.length ∧ i = .int .i64 p ∧ Hid (Below W.heap.size W wr)) (fun i _ => ws.length - (RowKit.intOf i).toNat)
  case atStart => exact ⟨0, Nat.zero_le _, rfl, Lib.hid (Below.refl _ _)⟩
  case round =>
    obtain ⟨p, hp, rfl, hb⟩ := hrel
    by_cases hlt : p < ws.length
    · obtain ⟨b, off, rfl, hb1, hc⟩ := hA.out (by omega)
      obtain ⟨b', off', rfl, hb2, hc'⟩ := hA'.out (by omega)
      have q1 := hc p ws[p] (List.getElem?_eq_getElem hlt)
      have q2 := hc' p ws[p] (List.getElem?_eq_getElem hlt)
      generalize ws[p] = x at *
      have hpl := Lib.hid (And.intro hp hlt)
      obtain ⟨S, hS0⟩ : ∃ S : World → Prop, S = Below W.heap.size W := ⟨_, rfl⟩
      have hK : ∀ w, S w → Below W.heap.size W w := fun w h => by rw [← hS0]; exact h
      have hS : ∀ u v, S u → Below u.heap.size u v → S v := fun u v h k => by rw [hS0] at h ⊢; exact h.trans (k.mono h.size)
      have s0 : S wr := by rw [hS0]; exact hb.out
      clear hS0
      have e0 : ∀ y : Wd S, y.w.cell? ⟨b, off + p, none⟩ = some (.int .u32 x) := fun y => ((hK _ y.h).cell (p := ⟨b, off + p, none⟩) hb1).trans q1
      have e1 : ∀ y : Wd S, y.w.cell? ⟨b', off' + p, none⟩ = some (.int .u32 x) := fun y => ((hK _ y.h).cell (p := ⟨b', off' + p, none⟩) hb2).trans q2
      have hxx : (x == x) = true := by simp
      have HS := Lib.hid hS
      have HK := Lib.hid hK
      replace s0 := Lib.hid s0
      clear hK hS hp hc hc' q1 q2 hb1 hb2
      go_wp2_with fail
      refine region_cls S (by kernel_rfl) (by kernel_rfl) (HS.out _ _ s0.out (Below.refl _ _).drew) ?_
      repeat (first
        | go_big_quiet_skip
        | (go_big_quiet_want
           go_big_quiet_op
           first
           | go_big_quiet_on
           | (apply Exists.intro
              refine ⟨fun y => ?_, ?_⟩
              · exact rfl
              go_big_quiet_on)))
      refine wpQuiet_nil ?_
      intro y
      have hy := Lib.hid (HK.out _ y.h)
      clear e0 e1 s0 HS HK
      go_wp2
      go_roundw
      case rel => exact ⟨p + 1, by have := hpl.out; omega, by go_num, hy⟩
      case measure => have := hpl.out; simp [RowKit.intOf]; omega
    · go_wp2
      go_ret
      exact ⟨rfl, hb.out⟩
end Go.Proofs.YtdkggahkfheocaaGreatDoor
namespace Go.Proofs.YtdkggahkfheocaaGreatDoor
set_option maxRecDepth 100000
open Go.RowKit Go.Lib
set_option linter.unusedVariables false

def knL : List (List UInt8) := [[108, 105, 32, 32, 99, 51, 32, 45, 55], [108, 105, 32, 99, 49, 54, 32, 48], [108, 105, 32, 99, 51, 32, 45, 48, 55], [119, 111, 114, 100, 32, 48, 49], [], [32, 114, 101, 116], [114, 101, 116, 32], [108, 105, 32, 99, 51], [108, 105, 32, 99, 51, 32, 50, 48, 52, 56], [108, 105, 32, 99, 51, 32, 45, 48], [98, 101, 113, 32, 99, 48, 32, 99, 48, 32, 111, 110], [119, 111, 114, 100, 32, 52, 50, 57, 52, 57, 54, 55, 50, 57, 54], [97, 100, 100, 32, 99, 49, 32, 99, 50, 32, 99, 51, 32, 99, 52], [76, 105, 32, 99, 51, 32, 49], [119, 111, 114, 100, 32, 49, 57, 57, 50, 50, 57, 52, 52]]
theorem kn_lines : knL.map lineV = List.replicate 15 (0, 4) := by kernel_rfl
theorem kn_line (x : List UInt8) (h : x ∈ knL) : lineV x = (0, 4) ∧ x.length ≤ 100 := by
  refine ⟨?_, ?_⟩
  · have : lineV x ∈ knL.map lineV := List.mem_map_of_mem h
    rw [kn_lines] at this
    exact (List.mem_replicate.1 this).2
  · have : knL.all (fun l => decide (l.length ≤ 100)) = true := by decide
    exact of_decide_eq_true (List.all_eq_true.1 this x h)
theorem kn1 : asmL [98, 101, 113, 32, 99, 48, 32, 99, 48, 32, 111, 110] = .error (9, 0) := by kernel_rfl
theorem kn2 : asmL [97, 58, 10, 97, 58] = .error (11, 1) := by kernel_rfl
theorem kn3 : asmL [98] = .error (4, 0) := by kernel_rfl
theorem kn4 : asmL [] = .ok [] := by kernel_rfl
theorem kn5 : asmL [108, 105, 32, 99, 49, 32, 120, 10] = .error (4, 0) := by kernel_rfl
theorem kn6 : asmL [57, 97, 58] = .error (4, 0) := by kernel_rfl
theorem kn7 : asmL [119, 111, 114, 100, 32, 53] = .ok [5] := by kernel_rfl
theorem kn8 : asmL [108, 105, 32, 99, 49, 32, 48, 55] = .error (4, 0) := by kernel_rfl
theorem kn9 : asmL [109, 111, 118, 101, 32, 99, 48, 49, 32, 99, 50] = .error (4, 0) := by kernel_rfl
theorem asm_long (t : List UInt8) (h : 32768 < t.length) : asmL t = .error (3, 0) := by unfold asmL; rw [if_pos h]
theorem repeat_len (l : List UInt8) (n : Nat) : (repeatL l n).length = n * l.length := by
  induction n with
  | zero => simp [repeatL]
  | succ n ih => rw [repeatL, List.length_append, ih, Nat.succ_mul]; omega
theorem asm_rets (n : Nat) (hn : n ≤ 4096) : asmL (retsL n) = .ok (List.replicate n retW) := by
  have e : linesL (retsL n) = List.replicate n retL ++ [[]] := by
    have := rets_lines n []
    rw [List.append_nil] at this
    exact this
  unfold asmL
  rw [if_neg (by rw [rets_len]; omega), e, List.map_append, rets_take n 0 ⟨[], []⟩ _ (by simp; omega)]
  simp only [List.map_cons, List.map_nil]
  rw [take_step (show takeL _ _ (bareL []) = (0, _) from take_none _ _)]
  simp only [takeAll, List.nil_append]
  have := link_rets [] n 0 0 []
  rw [List.append_nil] at this
  rw [this]
  simp [linkAll]
theorem take_full (st : AS) (n : Nat) (h4 : st.its.length = 4096) : takeL st n (bareL retL) = (3, st) := by
  have e : bareL retL = retL := by kernel_rfl
  have er : readP (wordsL retL) = some (retW, []) := by kernel_rfl
  have e58 : hasSuffix retL [58] = false := by decide
  rw [e]
  unfold takeL
  rw [if_neg (by decide), e58, if_neg (by decide), er]
  simp only
  rw [if_pos h4]
theorem asm_over (n : Nat) (hn : n = 4096) : asmL (retsL (n + 1)) = .error (3, n) := by
  have e : linesL (retsL (n + 1)) = List.replicate n retL ++ (retL :: [[]]) := by
    have := rets_lines (n + 1) []
    rw [List.append_nil, List.replicate_succ', List.append_assoc] at this
    exact this
  unfold asmL
  rw [if_neg (by rw [rets_len]; omega), e, List.map_append, rets_take n 0 ⟨[], []⟩ _ (by simp; omega)]
  simp only [List.map_cons, List.map_nil, List.nil_append, Nat.zero_add]
  have hf := take_full ⟨retI 0 n, []⟩ n (by rw [retI_len]; exact hn)
  rw [takeAll, hf, if_neg (show ¬ (3 : Int) = 0 by decide)]

/-- A fault in memory. -/
def FA (w : World) (g : Nat) (c n : Int) : Prop := g < w.heap.size ∧ w.cell? ⟨g, 0, none⟩ = some (.int .i64 c) ∧ w.cell? ⟨g, 1, none⟩ = some (.int .i64 n)
theorem FA.below {w w' : World} {g : Nat} {c n : Int} (h : FA w g c n) (k : Below w.heap.size w w') : FA w' g c n :=
  ⟨Nat.lt_of_lt_of_le h.1 k.size, (k.cell (p := ⟨g, 0, none⟩) h.1).trans h.2.1, (k.cell (p := ⟨g, 1, none⟩) h.1).trans h.2.2⟩
theorem asm_err (t : List UInt8) (c : Int) (n : Nat) (h : asmL t = .error (c, n)) (ht : t.length ≤ 9223372036854775807) (W : World) (hT : T8 W) :
    Calls Tryz.prog 17 #[.string ⟨t.toArray⟩] W fun e w' => ∃ g, e = .returned (.tuple #[.slice none 0 0, .iface 36 (.pointer (some ⟨g, 0, none⟩))]) ∧ FA w' g c n ∧ Below W.heap.size W w' := by
  have hA := asm_any t W hT ht
  rw [h] at hA
  refine hA.mono fun e w' hp => ?_
  obtain ⟨g, he, hh, hg, k⟩ := hp
  refine ⟨g, he, ⟨(Array.getElem?_eq_some_iff.1 hh).1, ?_, ?_⟩, k⟩
  · simp [World.cell?, hh]
  · simp [World.cell?, hh]
theorem asm_good (t : List UInt8) (ws : List Int) (h : asmL t = .ok ws) (ht : t.length ≤ 9223372036854775807) (W : World) (hT : T8 W) :
    Calls Tryz.prog 17 #[.string ⟨t.toArray⟩] W fun e w' => ∃ A cap, e = .returned (.tuple #[.slice A ws.length cap, .nilIface]) ∧ WL w' w'.heap.size A ws ∧ Below W.heap.size W w' := by
  have hA := asm_any t W hT ht
  rw [h] at hA
  refine hA.mono fun e w' hp => ?_
  obtain ⟨v, he, ho, k, -, -⟩ := hp
  obtain ⟨A, cap, rfl, -, hw⟩ := own_WL ho
  exact ⟨A, cap, he, hw, k⟩
end Go.Proofs.YtdkggahkfheocaaGreatDoor
