/- Proved: a number is set into any bytes, at any place, as the document says, and the bytes behind their end are not touched (OctetSets). For every input; no condition. -/
import Derived.Test.YtedhpjolbgfdeaaRows
import Derived.Test.YtedhpjolbgfdeaaOctD
import Derived.Lib.SmallJoins
import Derived.StillTailTactics
import Derived.StillTailTactics
import Derived.ProofKit
import Derived.OpenShut
import Derived.ShutString
import Derived.ChangeOld
namespace Go.Proofs.Ytedhpjolbgfdeaa.sets
open Go.Joins Go.ChangeShapes Go.WideShapes Go.ChangeAt Go.RowKit
open Go.ChangeMaps (open_string shut_string)
set_option linter.unusedVariables false

set_option maxHeartbeats 800000 in
theorem walk (s : ByteArray) (ws : s.size ≤ maxLen) (a : Int) (wa : (Lit.int .i64 a).wf = true) (k : Int) (wk : (Lit.int .i64 k).wf = true) (v : Int) (wv : (Lit.int .u32 v).wf = true) (W : World) :
    Calls Try.prog 5 #[.string s, .agg #[.int .i64 a, .int .i64 k, .int .u32 v]] W fun e w' => e = .returned (.bool true) ∧ Below W.heap.size W w' := by
  have hv := bounds_u32 wv
  obtain ⟨v, rfl⟩ := Int.eq_ofNat_of_zero_le hv.1
  have hv4 : v < 4294967296 := by omega
  clear hv
  have ha : a < 9223372036854775808 := by have := bounds_i64 wa; omega
  have hcb := fun (w : World) (s : ByteArray) => Lib.run_convert_string_bytes (P := Try.prog) w 9 28 5 s Try.underlying9 Try.underlying28 Try.underlying5
  go_enter Try.func5, Try.ntmps5
  go_wp2_with fail
  case' inl =>
    obtain ⟨l, hl, hn⟩ := cut_str s 5000
    have hl5 : l.length ≤ 5000 := by omega
    rw [hl, hn, show (#[170, 170, 170, 170] : Array UInt8) = List.toArray [170, 170, 170, 170] from rfl, str_cat]
    clear hl hn
  case' inr =>
    obtain ⟨l, rfl⟩ := str_list s
    simp only [size_list] at *
    have hl5 : l.length ≤ 5000 := by omega
    rw [show (#[170, 170, 170, 170] : Array UInt8) = List.toArray [170, 170, 170, 170] from rfl, str_cat]
  all_goals
    obtain ⟨W1, hW1⟩ : ∃ W1, W1 = W.alloc (Obj.cells #[Value.int IntKind.i64 a, Value.int IntKind.i64 k, Value.int IntKind.u32 ↑v] 32) := ⟨_, rfl⟩
    have hs1 : W1.heap.size = W.heap.size + 1 := by rw [hW1]; simp
    have hb1 : Below W.heap.size W W1 := by rw [hW1]; exact (Below.refl _ _).alloc (Nat.le_refl _) _
    have p0 : W1.cell? ⟨W.heap.size, 0, none⟩ = some (.int .i64 a) := by rw [hW1]; simp
    have p1 : W1.cell? ⟨W.heap.size, 1, none⟩ = some (.int .i64 k) := by rw [hW1]; simp
    have p2 : W1.cell? ⟨W.heap.size, 2, none⟩ = some (.int .u32 v) := by rw [hW1]; simp
    rw [← hW1]
    clear hW1
    obtain ⟨W2, hW2⟩ : ∃ W2, W2 = Lib.bytesWorld W1 5 ⟨(l ++ [170, 170, 170, 170]).toArray⟩ := ⟨_, rfl⟩
    have hh2 : Has W2 (W.heap.size + 1) 0 (l ++ [170, 170, 170, 170]) := by rw [hW2, ← hs1]; exact bw_has _ _ _
    have hb2 : Below W1.heap.size W1 W2 := by rw [hW2]; exact bw_below _ _ _
    have hs2 := Lib.hid (show W2.heap.size = W1.heap.size + 1 from by rw [hW2]; exact Lib.bytesWorld_size _ _ _)
    have q0 : W2.cell? ⟨W.heap.size, 0, none⟩ = some (.int .i64 a) := (hb2.cell (p := ⟨W.heap.size, 0, none⟩) (by show W.heap.size < _; omega)).trans p0
    have q1 : W2.cell? ⟨W.heap.size, 1, none⟩ = some (.int .i64 k) := (hb2.cell (p := ⟨W.heap.size, 1, none⟩) (by show W.heap.size < _; omega)).trans p1
    have q2 : W2.cell? ⟨W.heap.size, 2, none⟩ = some (.int .u32 v) := (hb2.cell (p := ⟨W.heap.size, 2, none⟩) (by show W.heap.size < _; omega)).trans p2
    rw [← hW2]
    clear hW2 p0 p1 p2
    have hcap : l.length + 4 ≤ grownCap W1 (l.length + 4) 0 5 := grownCap_ge _ _ _ _
    generalize grownCap W1 (l.length + 4) 0 5 = cap at hcap ⊢
    have H := Lib.hid (And.intro hs1 (And.intro hb1 (And.intro hb2 hh2)))
    clear hs1 hb1 hb2 hh2 hcb
    have i1 : (l.length : Int) ≤ (cap : Int) := by omega
    go_still_tail 10, (by kernel_rfl)
    change wpList _ _ _ _ _ W2.drew
    have hset := set_any (W.heap.size + 1) 0 l [170, 170, 170, 170] cap a k v W2.drew (by omega) (by omega) ha hv4 (H.out.2.2.2.drew)
    have H2 := Lib.hid (show Below W.heap.size W W2.drew from ((H.out.2.1).trans (H.out.2.2.1.mono (by have := H.out.1; omega))).drew)
    have hz2 : W.heap.size + 1 < W2.drew.heap.size := by
      have h1 := H.out.1
      have h2 : W2.drew.heap.size = W1.heap.size + 1 := hs2.out
      omega
    have r0 : W2.drew.cell? ⟨W.heap.size, 0, none⟩ = some (.int .i64 a) := q0
    have r1 : W2.drew.cell? ⟨W.heap.size, 1, none⟩ = some (.int .i64 k) := q1
    have r2 : W2.drew.cell? ⟨W.heap.size, 2, none⟩ = some (.int .u32 v) := q2
    generalize W2.drew = W3 at hset H2 hz2 r0 r1 r2 ⊢
    have hset' := Lib.hid hset
    clear hset H q0 q1 q2
    go_wp2_with fail
    refine hset'.out.mono ?_
    rintro e W4 ⟨rfl, hh4, ho4, hb4⟩
    have s0 : W4.cell? ⟨W.heap.size, 0, none⟩ = some (.int .i64 a) := (ho4 ⟨W.heap.size, 0, none⟩ (by simp)).1.trans r0
    have s1 : W4.cell? ⟨W.heap.size, 1, none⟩ = some (.int .i64 k) := (ho4 ⟨W.heap.size, 1, none⟩ (by simp)).1.trans r1
    have s2 : W4.cell? ⟨W.heap.size, 2, none⟩ = some (.int .u32 v) := (ho4 ⟨W.heap.size, 2, none⟩ (by simp)).1.trans r2
    have H4 := Lib.hid (And.intro hh4 hb4)
    clear hset' r0 r1 r2 hh4 ho4 hb4
    go_wp2_with fail
    refine (refSet_any l a k v _ (by omega) ha hv4).mono ?_
    rintro e W5 ⟨rfl, hb5⟩
    have hcv := has_conv cap (H4.out.1.below hb5 (by have := H4.out.2.size; omega))
    have hcl : (setB l a k v ++ ([170, 170, 170, 170] : List UInt8)).length = l.length + 4 := by simp [setB_length]
    rw [hcl] at hcv
    clear hcl
    have hb5' := Lib.hid hb5
    have hsz : (setB l a k v).length = l.length := setB_length _ _ _ _
    clear hb5
    have hse : (⟨(setB l a k v).toArray⟩ : ByteArray) ++ ⟨#[170, 170, 170, 170]⟩ = ⟨(setB l a k v ++ [170, 170, 170, 170]).toArray⟩ := str_cat _ [170, 170, 170, 170]
    go_wp2_with fail
    refine (works_any _).mono ?_
    rintro e W6 ⟨rfl, hb6⟩
    have hb6' := Lib.hid hb6
    clear hb6
    go_wp2_with fail
    go_ret
    refine ⟨rfl, ?_⟩
    have a4 : Below W.heap.size W W4 := H2.out.trans (H4.out.2.mono (by omega))
    have a5 := a4.trans (hb5'.out.mono a4.size)
    exact a5.trans (hb6'.out.mono a5.size)
theorem own : ownKnob Try.prog.godebug = none := by kernel_rfl
theorem laidOut : laidOutB Try.prog = true := by kernel_rfl
set_option maxRecDepth 100000 in
theorem lifted (os : Os) (started : os.Started) (H : Type) (enc : TypeId × Value → H) :
    ReturnsInHanded {} Try.checked os 5 .any (Rows.octetSetsSpec.pre6 enc Try.prog Try.f5 Rows.octetSetsRow.domain false) (Rows.octetSetsSpec.post enc Try.prog Try.f5 false true false false) := by
  refine returnsInHanded_of_change (C := Try.checked) own started (by kernel_rfl) Try.func5
    (ChangeSpec.witness6 (enc := enc) (C := Try.checked) false ⟨#[], #[.string ByteArray.empty, .agg #[.int .i64 0, .int .i64 0, .int .u32 0]], []⟩ 8 (by kernel_rfl) (by kernel_rfl) (by kernel_rfl) (by kernel_rfl)) ?_
  intro W base args ds gs before hval0 hW hcnd hsz
  have hval : ∀ (j : Nat) t v, Try.f5.params[j]? = some t → args[j]? = some v → Value.okWide Try.prog W .any base t v := hval0
  have hW' := hW
  obtain ⟨p, q, hA0, hV, rfl, hfz, hnd⟩ := hW
  have hA : DataW.TrodAll enc Try.prog W 0 (fun _ => true) true Try.f5.params.toList args.toList ds p := hA0
  rw [Try.params5] at hA hval
  obtain ⟨v0, vs0, d0, ds0, p0, q0, hargs, rfl, rfl, h0, r0⟩ := trodAll_cons hA
  obtain ⟨v1, vs1, d1, ds1, p1, q1, rfl, rfl, rfl, h1, r1⟩ := trodAll_cons r0
  obtain ⟨rfl, rfl, rfl⟩ := trodAll_nil r1
  obtain rfl : args = #[v0, v1] := by cases args; simp_all
  obtain ⟨rfl, rfl⟩ := trodVars_none hV
  have k0 := h0
  have lt0 : ∀ x ∈ p0, x.block < W.heap.size := by obtain ⟨m, hm⟩ := k0; exact DataW.trod_lt m _ _ _ hm
  have k1 := h1
  have lt1 : ∀ x ∈ p1, x.block < W.heap.size := by obtain ⟨m, hm⟩ := k1; exact DataW.trod_lt m _ _ _ hm
  obtain ⟨s, rfl, rfl, rfl, ws⟩ := open_string Try.underlying9 (hval 0 9 v0 rfl rfl) h0
  obtain ⟨cp0, cp1, cp2, yp0, yp1, yp2, mp, rfl, rfl, rfl, hp0, hp1, hp2⟩ := open_agg3 Try.underlying32 (by kernel_rfl) (by kernel_rfl) (hval 1 32 v1 rfl rfl) h1
  obtain ⟨p0, ep0, -, wp0⟩ := DataW.trod_int Try.underlying3 hp0
  simp at ep0
  subst ep0
  obtain ⟨p1, ep1, -, wp1⟩ := DataW.trod_int Try.underlying3 hp1
  simp at ep1
  subst ep1
  obtain ⟨p2, ep2, -, wp2⟩ := DataW.trod_int Try.underlying22 hp2
  simp at ep2
  subst ep2
  clear hA0 hval0
  refine (walk s ws p0 wp0 p1 wp1 p2 wp2 W).mono fun e W' ⟨he, bel⟩ => ?_
  subst he
  exact ⟨_, rfl, _, _, _, [], _, [], hW', trodAll_mk1 (shut_bool Try.underlying4 _), (trodAll_cons_mk (Below.trod laidOut (by kernel_rfl) (of_decide_eq_true (by kernel_rfl)) k0 bel lt0) (trodAll_cons_mk (Below.trod laidOut (by kernel_rfl) (of_decide_eq_true (by kernel_rfl)) k1 bel lt1) trodAll_mk0)), rfl, bel.frame _, fun h => by cases h⟩
theorem over : Rows.octetSetsRow.holds Try.pinned (OpenSpec.ofChange Rows.octetSetsSpec) :=
  OpenClaim.holds_of_wide 5 Try.f5 rfl rfl rfl rfl rfl rfl rfl ⟨rfl, rfl, rfl, rfl, rfl⟩ rfl rfl rfl rfl rfl (by kernel_rfl) Try.func5 (by kernel_rfl)
    (of_decide_eq_true (by kernel_rfl)) (by unfold Func.isWrapper; first | (rw [if_pos (by decide +kernel)]; kernel_rfl) | (rw [if_neg (by decide +kernel)]; exact ⟨rfl, rfl⟩))
    (fun os started H enc _ => lifted os started H enc)
/-- The given statement. -/
theorem proved : Rows.OctetSetsSaid := over
end Go.Proofs.Ytedhpjolbgfdeaa.sets
