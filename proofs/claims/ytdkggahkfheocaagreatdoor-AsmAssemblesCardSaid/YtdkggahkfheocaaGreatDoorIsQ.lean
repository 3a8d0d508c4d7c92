/- Instructions compared; what the program makes of an instruction. No statement is proved here. -/
import Derived.Test.YtdkggahkfheocaaGreatDoorIsL
import Derived.Test.YtdkggahkfheocaaGreatDoorStr
namespace Go.Proofs.YtdkggahkfheocaaGreatDoor
open Go.RowKit
set_option linter.unusedVariables false

theorem ins_eq' (d : Nat) (op a b c m op' a' b' c' m' : Int) (w : World) :
    (Op.equalIn (d + 1 + 1) 49 (.agg #[.int .i64 op, .int .i64 a, .int .i64 b, .int .i64 c, .int .i64 m]) (.agg #[.int .i64 op', .int .i64 a', .int .i64 b', .int .i64 c', .int .i64 m'])).run Tryz.prog w = .ok ((op == op') && ((a == a') && ((b == b') && ((c == c') && ((m == m') && true))))) w := by
  rw [run_equalIn_struct w (d + 1) 49 _ _ (by kernel_rfl) (by kernel_rfl)]
  have hf : (Tryz.prog.fieldsOf 49).toList.map (fun f => (f.name, f.type, f.offset)) = [("Op", 3, 0), ("A", 3, 1), ("B", 3, 2), ("C", 3, 3), ("Imm", 3, 4)] := by kernel_rfl
  have i64 : ∀ (x y : Int) w, (Op.equalIn (d + 1) 3 (.int .i64 x) (.int .i64 y)).run Tryz.prog w = .ok (x == y) w := fun x y w => run_equalIn_int w d 3 .i64 .i64 x y (by kernel_rfl)
  generalize (Tryz.prog.fieldsOf 49).toList = fs at *
  obtain ⟨f0, fs, rfl, hf0, hf⟩ := List.map_eq_cons_iff.1 hf
  obtain ⟨f1, fs, rfl, hf1, hf⟩ := List.map_eq_cons_iff.1 hf
  obtain ⟨f2, fs, rfl, hf2, hf⟩ := List.map_eq_cons_iff.1 hf
  obtain ⟨f3, fs, rfl, hf3, hf⟩ := List.map_eq_cons_iff.1 hf
  obtain ⟨f4, fs, rfl, hf4, hf⟩ := List.map_eq_cons_iff.1 hf
  obtain rfl := List.map_eq_nil_iff.1 hf
  simp only [Prod.mk.injEq] at hf0 hf1 hf2 hf3 hf4
  refine eqF_step hf0 (by decide) (by kernel_rfl) (by kernel_rfl) (i64 _ _ _) ?_
  refine eqF_step hf1 (by decide) (by kernel_rfl) (by kernel_rfl) (i64 _ _ _) ?_
  refine eqF_step hf2 (by decide) (by kernel_rfl) (by kernel_rfl) (i64 _ _ _) ?_
  refine eqF_step hf3 (by decide) (by kernel_rfl) (by kernel_rfl) (i64 _ _ _) ?_
  exact eqF_step hf4 (by decide) (by kernel_rfl) (by kernel_rfl) (i64 _ _ _) eqF_nil
/-- Two instructions are compared. -/
theorem ins_eq (i j : Ins) (w : World) : (Op.equalIn 10000 49 (iv i) (iv j)).run Tryz.prog w = .ok (decide (i = j)) w := by
  obtain ⟨op, a, b, c, m⟩ := i
  obtain ⟨op', a', b', c', m'⟩ := j
  have := ins_eq' 9998 op a b c m op' a' b' c' m' w
  rw [show decide ((⟨op, a, b, c, m⟩ : Ins) = ⟨op', a', b', c', m'⟩) = ((op == op') && ((a == a') && ((b == b') && ((c == c') && ((m == m') && true))))) from by
    rw [Bool.eq_iff_iff]; simp [Ins.mk.injEq]]
  exact this

/-- A word that is put together. -/
def ptS (i : Ins) (w : Int) (x : UInt8) : Int :=
  if x = 97 then bits .or .u32 w (i.a % 16 * 1048576)
  else if x = 98 then bits .or .u32 w (i.b % 16 * 65536)
  else if x = 99 then bits .or .u32 w (i.c % 16 * 4096)
  else if x = 105 then bits .or .u32 w (i.m % 4096)
  else bits .or .u32 w (i.m % 1048576)
def encP (i : Ins) : Int := (formAt i.op).foldl (ptS i) (bits .or .u32 0 (i.op % 256 * 16777216))
theorem orJ (k : Nat) (x y : Int) (hx : x % 2 ^ k = 0) (h0 : 0 ≤ x) (h1 : x < 4294967296) (h2 : 0 ≤ y) (h3 : y < 2 ^ k) (h4 : y < 4294967296) : bits .or .u32 x y = x + y :=
  bits_join .u32 32 (by decide) wraps_u32b k x y h0 hx h1 h2 h3 h4
theorem or0 (y : Int) (h2 : 0 ≤ y) (h3 : y < 4294967296) : bits .or .u32 0 y = y := by
  have := orJ 32 0 y (by decide) (by decide) (by decide) h2 (by simpa using h3) h3
  simpa using this
theorem or24 (x y : Int) (hx : x % 16777216 = 0) (h0 : 0 ≤ x) (h1 : x < 4294967296) (h2 : 0 ≤ y) (h3 : y < 16777216) : bits .or .u32 x y = x + y := orJ 24 x y hx h0 h1 h2 h3 (by omega)
theorem or20 (x y : Int) (hx : x % 1048576 = 0) (h0 : 0 ≤ x) (h1 : x < 4294967296) (h2 : 0 ≤ y) (h3 : y < 1048576) : bits .or .u32 x y = x + y := orJ 20 x y hx h0 h1 h2 h3 (by omega)
theorem or16 (x y : Int) (hx : x % 65536 = 0) (h0 : 0 ≤ x) (h1 : x < 4294967296) (h2 : 0 ≤ y) (h3 : y < 65536) : bits .or .u32 x y = x + y := orJ 16 x y hx h0 h1 h2 h3 (by omega)
theorem or12 (x y : Int) (hx : x % 4096 = 0) (h0 : 0 ≤ x) (h1 : x < 4294967296) (h2 : 0 ≤ y) (h3 : y < 4096) : bits .or .u32 x y = x + y := orJ 12 x y hx h0 h1 h2 h3 (by omega)
set_option maxHeartbeats 4000000 in
theorem encP_val (i : Ins) : 0 ≤ encP i ∧ encP i < 4294967296 ∧ (mayB i = true → encP i = encW i) := by
  have low : ∀ {x y : Int}, 0 ≤ bits .or .u32 x y ∧ bits .or .u32 x y < 4294967296 := fun {x y} => by
    show 0 ≤ IntKind.u32.wrap _ ∧ IntKind.u32.wrap _ < 4294967296
    rw [IntKind.wrap_u32]
    omega
  refine ⟨?_, ?_, fun h => ?_⟩
  · unfold encP
    rcases form_cases i.op with e | e | e | e | e | e | e <;> rw [e] <;> simp only [List.foldl, ptS] <;> (try simp) <;> exact low.1
  · unfold encP
    rcases form_cases i.op with e | e | e | e | e | e | e <;> rw [e] <;> simp only [List.foldl, ptS] <;> (try simp) <;> exact low.2
  · obtain ⟨h1, h2, ha, hb, hc, hm⟩ := may_parts h
    have a1 := fld_in ha; have b1 := fld_in hb; have c1 := fld_in hc; have m1 := imm_in hm
    unfold encP encW immW
    obtain ⟨op, a, b, c, m⟩ := i
    dsimp only at *
    rw [or0 _ (by omega) (by omega)]
    rcases form_cases op with e | e | e | e | e | e | e <;> rw [e] at a1 b1 c1 m1 ⊢ <;> simp only [List.foldl, ptS] <;> simp at a1 b1 c1 m1 ⊢
    · split <;> omega
    · rw [or24 (op % 256 * 16777216) (a % 16 * 1048576) (by omega) (by omega) (by omega) (by omega) (by omega), or20 _ _ (by omega) (by omega) (by omega) (by omega) (by omega)]
      split <;> omega
    · rw [or24 (op % 256 * 16777216) (a % 16 * 1048576) (by omega) (by omega) (by omega) (by omega) (by omega), or20 _ _ (by omega) (by omega) (by omega) (by omega) (by omega)]
      split <;> omega
    · rw [or24 (op % 256 * 16777216) (a % 16 * 1048576) (by omega) (by omega) (by omega) (by omega) (by omega), or20 _ (b % 16 * 65536) (by omega) (by omega) (by omega) (by omega) (by omega), or16 _ _ (by omega) (by omega) (by omega) (by omega) (by omega)]
      split <;> omega
    · rw [or24 (op % 256 * 16777216) (a % 16 * 1048576) (by omega) (by omega) (by omega) (by omega) (by omega), or20 _ (b % 16 * 65536) (by omega) (by omega) (by omega) (by omega) (by omega), or16 _ _ (by omega) (by omega) (by omega) (by omega) (by omega)]
      split <;> omega
    · rw [or24 (op % 256 * 16777216) (a % 16 * 1048576) (by omega) (by omega) (by omega) (by omega) (by omega), or20 _ _ (by omega) (by omega) (by omega) (by omega) (by omega)]
      split <;> omega
    · rw [or24 _ _ (by omega) (by omega) (by omega) (by omega) (by omega)]
      split <;> omega
/-- The program's test: its word read again is the instruction. -/
theorem enc_test {i : Ins} (h0 : i.op ≠ 0) : decide (decW (encP i) = i) = mayB i := by
  rw [Bool.eq_iff_iff, decide_eq_true_iff]
  constructor
  · intro h
    rcases decW_zero_or (encP i) with k | k
    · rw [k] at h; rw [← h] at h0; exact absurd rfl h0
    · rw [← h]; exact k.1
  · intro h
    rw [(encP_val i).2.2 h, dec_enc h]
end Go.Proofs.YtdkggahkfheocaaGreatDoor
