/- Contracts of layer asm: lists of words that came in; the texts of many words. No statement is proved here. -/
import Derived.Test.YtdkggahkfheocaaGreatDoorAsP
import Derived.Test.YtdkggahkfheocaaGreatDoorShB
namespace Go.Proofs.YtdkggahkfheocaaGreatDoor
set_option maxRecDepth 100000
open Go.RowKit Go.Lib
set_option linter.unusedVariables false

/-- The slice at A reads as the words ws; it lies below block B. -/
def WL (w : World) (B : Nat) (A : Option Addr) (ws : List Int) : Prop :=
  0 < ws.length → ∃ b off, A = some ⟨b, off, none⟩ ∧ b < B ∧ ∀ j u, ws[j]? = some u → w.cell? ⟨b, off + j, none⟩ = some (.int .u32 u)
def W32 (ws : List Int) : Prop := ∀ x, x ∈ ws → 0 ≤ x ∧ x < 4294967296
theorem WL.below {w w' : World} {B : Nat} {A : Option Addr} {ws : List Int} (h : WL w B A ws) (k : Below B w w') : WL w' B A ws := fun hn => by
  obtain ⟨b, off, e, hb, hc⟩ := h hn
  exact ⟨b, off, e, hb, fun j u hu => (k.cell (p := ⟨b, off + j, none⟩) hb).trans (hc j u hu)⟩
theorem WL.more {w : World} {B B' : Nat} {A : Option Addr} {ws : List Int} (h : WL w B A ws) (hB : B ≤ B') : WL w B' A ws := fun hn => by
  obtain ⟨b, off, e, hb, hc⟩ := h hn
  exact ⟨b, off, e, by omega, hc⟩
def disL (ws : List Int) : List UInt8 := (ws.map fun x => printL x ++ [10]).flatten
theorem disL_take (ws : List Int) (p : Nat) (h : p < ws.length) : disL (ws.take (p + 1)) = disL (ws.take p) ++ (printL ws[p] ++ [10]) := by
  unfold disL
  rw [List.take_succ_eq_append_getElem h, List.map_append, List.flatten_append]
  simp
theorem print_short (x : Int) (h0 : 0 ≤ x) (h1 : x < 4294967296) : (printL x).length ≤ 1200 := by
  unfold printL
  split
  · rw [join_cons, List.length_append, joinTail_length]
    have := decDigits_length x.toNat
    have := Lib.nDigits_le20 x.toNat (by omega)
    simp [lens]
    omega
  · obtain ⟨h2, h3⟩ := parts_short x
    cases hp : partsL (decW x) with
    | nil => simp [join]
    | cons a t =>
      rw [hp] at h2 h3
      rw [join_length]
      have := strings_len (a :: t) 100 h3
      simp only [List.length_cons] at this h2
      simp
      omega
theorem dis_short (ws : List Int) (hw : W32 ws) : (disL ws).length ≤ 1201 * ws.length := by
  induction ws with
  | nil => simp [disL]
  | cons a t ih =>
    have h1 := ih fun x hx => hw x (List.mem_cons_of_mem _ hx)
    have h2 := print_short a (hw a (List.mem_cons_self ..)).1 (hw a (List.mem_cons_self ..)).2
    have e : disL (a :: t) = (printL a ++ [10]) ++ disL t := by simp [disL]
    rw [e, List.length_append, List.length_append, List.length_cons, List.length_cons]
    simp only [List.length_nil]
    omega
theorem bld_below {T e : TypeId} {B b : Nat} {bs : List Value} {w w' : World} (h : IsBuilderF T e B b bs w) (k : Below w.heap.size w w') : IsBuilderF T e B b bs w' := by
  have one : ∀ p, BuilderAtF T e B b p bs w → BuilderAtF T e B b p bs w' := fun p ⟨h1, v, h2, h3, h4⟩ => by
    refine ⟨h1, v, (k.block b (Array.getElem?_eq_some_iff.1 h2).1).trans h2, ⟨h3.1, ?_⟩, h4⟩
    rcases h3.2 with hn | ⟨g, cap, cur, fz, rfl, hb, hg, rest⟩
    · exact .inl hn
    · exact .inr ⟨g, cap, cur, fz, rfl, hb, (k.block g (Array.getElem?_eq_some_iff.1 hg).1).trans hg, rest⟩
  exact h.elim (fun x => .inl (one _ x)) (fun x => .inr (one _ x))

set_option maxHeartbeats 2000000 in
theorem dis_any (ws : List Int) (A : Option Addr) (cap : Nat) (W : World) (hT : T8 W) (hA : WL W W.heap.size A ws) (hw : W32 ws) (hl : ws.length ≤ 100) :
    Calls Tryz.prog 12 #[.slice A ws.length cap] W fun e w' => e = .returned (.string ⟨(disL ws).toArray⟩) ∧ Below W.heap.size W w' := by
  have hT' := Lib.hid hT
  have hA' := Lib.hid hA
  have hw' := Lib.hid hw
  have hB0 : IsBuilderF 66 5 W.heap.size W.heap.size [] (W.alloc (.cells #[.pointer none, .slice none 0 0] 66)) := IsBuilderF.of (fresh_isBuilder _ _ W)
  have hb0 : Below W.heap.size W (W.alloc (.cells #[.pointer none, .slice none 0 0] 66)) := (Below.refl _ _).alloc (Nat.le_refl _) _
  have hll := Lib.hid hl
  have hl1 : (ws.length : Int) ≤ 100 := by omega
  replace hB0 := Lib.hid hB0
  replace hb0 := Lib.hid hb0
  clear hT hA hw
  go_enter Tryz.func12, Tryz.ntmps12
  go_wp2
  go_loopw [8] (fun i wr => ∃ p : Nat, p ≤ ws.length ∧ i = .int .i64 p ∧ Hid (IsBuilderF 66 5 W.heap.size W.heap.size (byteCells (disL (ws.take p))) wr) ∧ Hid (Below W.heap.size W wr)) (fun i _ => ws.length - (RowKit.intOf i).toNat)
  case atStart => exact ⟨0, Nat.zero_le _, rfl, hB0, hb0⟩
  case round =>
    obtain ⟨p, hp, rfl, hB, hb⟩ := hrel
    by_cases hlt : p < ws.length
    · obtain ⟨b, off, rfl, hbb, hc⟩ := hA'.out (by omega)
      have hcp := hc p ws[p] (List.getElem?_eq_getElem hlt)
      have hbd := hw'.out ws[p] (List.getElem_mem hlt)
      have hP := fun w h => print_any ws[p] hbd.1 hbd.2 w h
      have hps := print_short ws[p] hbd.1 hbd.2
      have hdt := disL_take ws p hlt
      have hdl := dis_short (ws.take p) (fun x hx => hw'.out x (List.mem_of_mem_take hx))
      have hcw : wr.cell? ⟨b, off + p, none⟩ = some (.int .u32 ws[p]) := (hb.out.cell (p := ⟨b, off + p, none⟩) hbb).trans hcp
      generalize ws[p] = x at *
      have hadd : ∀ w, (Op.stringOp .add ⟨(printL x).toArray⟩ ⟨#[10]⟩).run Tryz.prog w = .ok (.string ⟨(printL x ++ [10]).toArray⟩) w := fun w => run_string_add_lists w (printL x) [10] (by omega) (by simp)
      have hwr := fun w (h : IsBuilderF 66 5 W.heap.size W.heap.size (byteCells (disL (ws.take p))) w) hB => bWrite W.heap.size W.heap.size (byteCells (disL (ws.take p))) ⟨(printL x ++ [10]).toArray⟩ w h (by
        have h1 : (byteCells (disL (ws.take p))).length = (disL (ws.take p)).length := List.length_map ..
        rw [List.length_take] at hdl
        rw [h1, size_mk, List.length_append]
        simp
        omega) hB
      have hnb : byteCells (disL (ws.take p)) ++ strCells ⟨(printL x ++ [10]).toArray⟩ = byteCells (disL (ws.take (p + 1))) := by
        rw [hdt]
        simp [byteCells, strCells]
      have hpl := Lib.hid (And.intro hp hlt)
      replace hP := Lib.hid (hP wr (hT'.out.below hb.out))
      replace hwr := Lib.hid hwr
      replace hnb := Lib.hid hnb
      clear hc hcp hbd hps hdt hdl hp
      go_wp2_with fail
      refine hP.out.mono ?_
      rintro e w1 ⟨rfl, k1⟩
      have hB1 := Lib.hid (bld_below hB.out k1)
      have hb1 := Lib.hid (hb.out.trans (k1.mono hb.out.size))
      clear k1
      go_wp2_with fail
      refine (hwr.out w1 hB1.out hb1.out.size).mono ?_
      rintro e w2 ⟨rfl, hB2, k2, -⟩
      rw [hnb.out] at hB2
      have hB3 := Lib.hid (show IsBuilderF 66 5 W.heap.size W.heap.size (byteCells (disL (ws.take (p + 1)))) w2 from .inr hB2)
      have hb2 := Lib.hid (hb1.out.trans k2)
      clear hB2 k2
      go_wp2
      go_roundw
      case rel => exact ⟨p + 1, by have := hpl.out; omega, by go_num, hB3, hb2⟩
      case measure => have := hpl.out; simp [RowKit.intOf]; omega
    · have hpe : p = ws.length := by omega
      have hS := Tryz.Builder_String_any_k W.heap.size W.heap.size (disL (ws.take p)) wr hB.out hb.out.size
      rw [hpe, List.take_length] at hS
      replace hS := Lib.hid hS
      go_wp2_with (refine hS.out.mono ?_; rintro e w1 ⟨rfl, -, k1, -⟩; replace k1 := Lib.hid k1)
      go_ret
      exact ⟨rfl, hb.out.trans k1.out⟩
end Go.Proofs.YtdkggahkfheocaaGreatDoor
