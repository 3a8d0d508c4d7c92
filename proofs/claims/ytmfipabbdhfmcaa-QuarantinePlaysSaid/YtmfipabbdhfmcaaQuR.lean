/- Rows of regions in memory; what is appended to them, and put among them; what is protected. Plain lemmas; no statement is proved here. -/
import Derived.Test.YtmfipabbdhfmcaaQuM
import Derived.Test.YtmfipabbdhfmcaaNums
import Derived.Laws.AppendOwn
import Derived.Laws.AppendOwnNone
import Derived.Laws.CopyRow
import Derived.Laws.Externs
import Derived.Lib.Overlaps
import Derived.Lib.AppendZeros
import Derived.Lib.AppendZerosOnto
import Derived.Deep.AppendSrc
import Derived.Deep.AppendLies
import Derived.Deep.Onto
namespace Go.Proofs.Ytmfipabbdhfmcaa.Qu
set_option maxRecDepth 100000
open Go.RowKit Go.Shelf
set_option linter.unusedVariables false
def rgV (r : Rg) : Value := .agg #[.int .u32 (r.1 : Int), .int .u32 (r.2 : Int)]
def rgC (r : Rg) : List Value := [.int .u32 (r.1 : Int), .int .u32 (r.2 : Int)]
theorem infoRg : (Try.prog.info? 33).map (fun i => (i.zero, i.size, i.bytes)) = some (some (.agg #[.int .u32 0, .int .u32 0]), 2, 8) := by kernel_rfl
theorem rgC_one (L : List Rg) : ∀ u ∈ L.flatMap rgC, u.oneCell' = true := by
  intro u hu
  obtain ⟨r, hr, hu⟩ := List.mem_flatMap.1 hu
  unfold rgC at hu
  simp only [List.mem_cons, List.not_mem_nil, or_false] at hu
  rcases hu with rfl | rfl <;> rfl
theorem rgC_len (L : List Rg) : (L.flatMap rgC).length = L.length * 2 := by
  induction L with
  | nil => rfl
  | cons r L ih => rw [List.flatMap_cons, List.length_append, ih]; simp [rgC]; omega
theorem rgC_at : ∀ (L : List Rg) (j : Nat) (hj : j < L.length), (L.flatMap rgC)[j * 2]? = some (.int .u32 (L[j].1 : Int)) ∧ (L.flatMap rgC)[j * 2 + 1]? = some (.int .u32 (L[j].2 : Int))
  | r :: L, 0, _ => ⟨rfl, rfl⟩
  | r :: L, j + 1, h => by
    have := rgC_at L j (by simpa using h)
    rw [show (j + 1) * 2 = (j * 2) + 1 + 1 by omega]
    simpa [rgC] using this
theorem rgC_take (L : List Rg) (k : Nat) : (L.flatMap rgC).take (k * 2) = (L.take k).flatMap rgC := by
  induction L generalizing k with
  | nil => simp
  | cons r L ih =>
    cases k with
    | zero => simp
    | succ k =>
      rw [List.take_succ_cons, List.flatMap_cons, List.flatMap_cons, ← ih k, show (k + 1) * 2 = (k * 2 + 1) + 1 by omega]
      rfl
theorem rgC_drop (L : List Rg) (k : Nat) : (L.flatMap rgC).drop (k * 2) = (L.drop k).flatMap rgC := by
  induction L generalizing k with
  | nil => simp
  | cons r L ih =>
    cases k with
    | zero => simp
    | succ k =>
      rw [List.drop_succ_cons, List.flatMap_cons, ← ih k, show (k + 1) * 2 = (k * 2 + 1) + 1 by omega]
      rfl
section
variable {w w' : World} {base : Nat} {L M : List Rg} {v lv : Value} {r : Rg}
theorem own_slice {T : TypeId} {n size : Nat} {xs : List Value} (h : w.ownsRow base T size v n xs) : ∃ A cap, v = .slice A n cap := by
  rcases h.2 with ⟨rfl, rfl⟩ | ⟨g, cap, cur, rfl, _⟩
  · exact ⟨_, _, rfl⟩
  · exact ⟨_, _, rfl⟩
theorem own_base {T : TypeId} {n size : Nat} {xs : List Value} (h : w.ownsRow base T size v n xs) (k : Nat) (hk : v.ownBlock = some k) : base ≤ k := (h.lt k hk).1
theorem own_keep {T : TypeId} {n size : Nat} {xs : List Value} (h : w.ownsRow base T size v n xs) (k : ∀ g, v.ownBlock = some g → w'.heap[g]? = w.heap[g]?) : w'.ownsRow base T size v n xs :=
  ⟨h.1, h.2.imp id fun ⟨g, cap, cur, h1, h2, h3⟩ => ⟨g, cap, cur, h1, h2, (k g (by rw [h1]; rfl)).trans h3.1, h3.2⟩⟩
theorem own_grow {T : TypeId} {n size : Nat} {xs : List Value} (h : w.ownsRow base T size v n xs) (k : Below w.heap.size w w') : w'.ownsRow base T size v n xs :=
  own_keep h fun g hg => k.block g (h.lt g hg).2
/-- A row's cells. -/
theorem own_at {A : Option Addr} {n cap : Nat} (h : w.ownsRow base 33 2 (.slice A n cap) L.length (L.flatMap rgC)) (j : Nat) (hj : j < L.length) :
    ∃ g, A = some ⟨g, 0, none⟩ ∧ g < w.heap.size ∧ base ≤ g ∧ w.cell? ⟨g, j * 2, none⟩ = some (.int .u32 (L[j].1 : Int)) ∧ w.cell? ⟨g, j * 2 + 1, none⟩ = some (.int .u32 (L[j].2 : Int)) := by
  obtain ⟨g, cap', e, hb, hg⟩ := h.form (by omega)
  cases e
  have hc := h.cells rfl
  obtain ⟨h0, h1⟩ := rgC_at L j hj
  have k0 := hc _ _ h0
  have k1 := hc _ _ h1
  rw [show (⟨g, 0, none⟩ : Addr).add (j * 2) = ⟨g, j * 2, none⟩ by unfold Addr.add; split <;> simp_all] at k0
  rw [show (⟨g, 0, none⟩ : Addr).add (j * 2 + 1) = ⟨g, j * 2 + 1, none⟩ by unfold Addr.add; split <;> simp_all] at k1
  exact ⟨g, rfl, hg, hb, k0, k1⟩
/-- A row with one region more has been made: in place, or anew. -/
def InsPost (base : Nat) (v : Value) (L : List Rg) (w : World) (e : Ending) (w' : World) : Prop :=
  ∃ v', e = .returned v' ∧ w'.ownsRow base 33 2 v' L.length (L.flatMap rgC) ∧ w.grownBy w' v.ownBlock ∧ ∀ k, v'.ownBlock = some k → v.ownBlock = some k ∨ w.heap.size ≤ k
/-- A row's block. -/
theorem own_some {g n cap : Nat} {xs : List Value} {T : TypeId} {s : Nat} (h : w.ownsRow base T s (.slice (some ⟨g, 0, none⟩) n cap) n xs) :
    ∃ cur : Array Value, base ≤ g ∧ w.heap[g]? = some (.cells cur T (0, 0)) ∧ n ≤ cap ∧ cap ≤ maxLen ∧ cur.size = cap * s ∧ cur.toList.take (n * s) = xs := by
  rcases h.2 with ⟨e, _⟩ | ⟨g', cap', cur, e, h1⟩
  · cases e
  · cases e; exact ⟨cur, h1⟩
/-- Cells copied, two an element. -/
theorem run_copy_two (P : Program) (w : World) (dT sT ty elem : TypeId) (g o dLen dCap : Nat) (a : Addr) (sLen sCap m : Nat) (cur : Array Value) (t : TypeId) (cs : List Value)
    (hu : P.underlying dT = some (.slice elem)) (hs : (P.info? elem).map (·.size) = some 2)
    (hg : w.heap[g]? = some (.cells cur t (0, 0))) (hm : m = Nat.min sLen dLen) (hn : cs.length = m * 2)
    (hsrc : ∀ j v, cs[j]? = some v → w.cell? (a.add j) = some v) (hfit : o + cs.length ≤ cur.size) (h1 : ∀ v ∈ cs, v.oneCell' = true) :
    (Builtin.copy_ #[dT, sT] ty #[.slice (some ⟨g, o, none⟩) dLen dCap, .slice (some a) sLen sCap]).run P w =
      .ok (goInt m) (w.setRow g (cur.toList.take o ++ cs ++ cur.toList.drop (o + cs.length)).toArray) := by
  have hl := run_loadCells_list (P := P) w a cs hsrc
  have hst := run_storeCells_at P g o t cs 0 cur w hg (by simpa using hfit) h1
  rw [hn] at hl
  cases hq : P.info? elem with
  | none => simp [hq] at hs
  | some i =>
    have hi : i.size = 2 := by simpa [hq] using hs
    simp [Builtin.copy_, run_underlying hu, Builtin.lenOf, Builtin.firstCells, sizeOf, typeInfo, hq, hi, ← hm, hl, hst]
end
end Go.Proofs.Ytmfipabbdhfmcaa.Qu
