/- Contracts of layer arena: Size, Load, Read, Write, Store. No statement is proved here. -/
import Derived.Test.YtdidnipmbedbjaaArB
namespace Go.Proofs.Ytdidnipmbedbjaa
open Go.RowKit
set_option linter.unusedVariables false

/-- The tags, the bytes, when s is written at at_. -/
def stF (n : Nat) (f : Nat → Bool) (at_ k : Nat) : Nat → Bool := if thr n at_ k then clr f at_ k else f
def stL (n : Nat) (l : List UInt8) (at_ : Nat) (s : List UInt8) : List UInt8 := if thr n at_ s.length then ovr l at_ s else l
theorem thr_iff {n at_ k : Nat} : thr n at_ (k : Int) = true ↔ at_ + k ≤ n := by simp [thr]; omega
theorem stL_nil (n : Nat) (l : List UInt8) (at_ : Nat) : stL n l at_ [] = l := by simp [stL, ovr_nil]
theorem stF_zero (n : Nat) (f : Nat → Bool) (at_ : Nat) : stF n f at_ 0 = f := by simp [stF, clr_zero]
section
variable {a mb wb bb c n g : Nat} {f : Nat → Bool} {l : List UInt8} {w : World}
theorem ArAt.ln (H : ArAt w a mb wb bb c n g f l) : n ≤ 262144 := by have := H.hn; have := H.hi; omega
theorem ArAt.l0 (H : ArAt w a mb wb bb c n g f l) : 4096 ≤ n := by have := H.hn; have := H.lo; omega
theorem aown (H : ArAt w a mb wb bb c n g f l) : Calls Try.prog 45 #[.pointer (some ⟨a, 0, none⟩)] w fun e w' => e = .returned (.agg #[.pointer (some ⟨mb, 0, none⟩), .slice (some ⟨bb, 0, none⟩) n c]) ∧ Below w.heap.size w w' :=
  own_any a _ _ n c w H.q0 H.q1 H.la
theorem afield (mb bb n c : Nat) : ∀ w, (Instr.field 81 (.agg #[.pointer (some ⟨mb, 0, none⟩), .slice (some ⟨bb, 0, none⟩) n c]) 1).run Try.prog w = .ok (.slice (some ⟨bb, 0, none⟩) n c) w := fun w => by kernel_rfl
theorem afield0 (mb bb n c : Nat) : ∀ w, (Instr.field 81 (.agg #[.pointer (some ⟨mb, 0, none⟩), .slice (some ⟨bb, 0, none⟩) n c]) 0).run Try.prog w = .ok (.pointer (some ⟨mb, 0, none⟩)) w := fun w => by kernel_rfl
set_option maxRecDepth 100000 in
theorem asize_any (H : ArAt w a mb wb bb c n g f l) : Calls Try.prog 19 #[.pointer (some ⟨a, 0, none⟩)] w fun e w' => e = .returned (.int .i64 n) ∧ Below w.heap.size w w' := by
  have hO := Lib.hid (aown H)
  have hf := afield mb bb n c
  clear H
  go_enter Try.func19, Try.ntmps19
  go_wp2_with fail
  refine hO.out.mono ?_
  rintro e w2 ⟨rfl, hb⟩
  have hB := Lib.hid hb
  clear hb
  go_wp2
  go_ret
  exact ⟨rfl, hB.out⟩
set_option maxRecDepth 100000 in
theorem aload_any (H : ArAt w a mb wb bb c n g f l) (at_ : Nat) (k : Int) (la : at_ < 4294967296) : Calls Try.prog 30 #[.pointer (some ⟨a, 0, none⟩), .int .u32 at_, .int .i64 k] w fun e w' => e = .returned (.tuple #[.int .u32 (getB l at_ k : Nat), .bool (inB n at_ k)]) ∧ Below w.heap.size w w' := by
  have hO := Lib.hid (aown H)
  have hG : ∀ w', Below w.heap.size w w' → Calls Try.prog 65 #[.slice (some ⟨bb, 0, none⟩) n c, .int .i64 at_, .int .i64 k] w' fun e w' => e = .returned (.tuple #[.int .u32 (getB l at_ k : Nat), .bool (inB n at_ k)]) ∧ Below w.heap.size w w' := fun w' hb => by
    have H' := H.below hb
    have := get_any (some ⟨bb, 0, none⟩) l w'.heap.size c at_ k w' H'.rb (by have := H.len; have := H.ln; omega) (by rw [H.len]; exact H.caps.1) (by omega)
    rw [H.len] at this
    exact this.mono fun e w'' ⟨h1, k, h2⟩ => ⟨h1, h2 ▸ below_drewN hb k⟩
  have hG' := Lib.hid hG
  have hf := afield mb bb n c
  clear H hG
  go_enter Try.func30, Try.ntmps30
  go_wp2_with fail
  refine hO.out.mono ?_
  rintro e w2 ⟨rfl, hb⟩
  have hB := Lib.hid hb
  clear hb
  go_wp2_with fail
  refine (hG'.out w2 hB.out).mono ?_
  rintro e w3 ⟨rfl, hb⟩
  have hB3 := Lib.hid hb
  clear hb
  go_wp2
  go_ret2
  exact ⟨rfl, hB3.out⟩
theorem aread_no (H : ArAt w a mb wb bb c n g f l) (at_ : Nat) (k : Int) (la : at_ < 4294967296) (hk : -9223372036854775808 ≤ k ∧ k < 9223372036854775808) (h : thr n at_ k = false) : Calls Try.prog 31 #[.pointer (some ⟨a, 0, none⟩), .int .u32 at_, .int .i64 k] w fun e w' => e = .returned (.tuple #[.string ⟨#[]⟩, .bool false]) ∧ Below w.heap.size w w' := by
  have hO := Lib.hid (aown H)
  have hT := Lib.hid (fun w => there_any ⟨mb, 0, none⟩ (some ⟨bb, 0, none⟩) n c at_ k w H.ln la hk)
  rw [h] at hT
  clear H h hk
  go_enter Try.func31, Try.ntmps31
  go_wp2_with fail
  refine hO.out.mono ?_
  rintro e w2 ⟨rfl, hb⟩
  have hb2 := Lib.hid (hb.alloc hb.size (.cells #[.pointer (some ⟨mb, 0, none⟩), .slice (some ⟨bb, 0, none⟩) n c] 81))
  have hsz := hb.size
  clear hb
  go_wp2_with fail
  refine (hT.out _).mono ?_
  rintro e w3 ⟨rfl, hb⟩
  have hb3 := Lib.hid (hb2.out.trans (hb.mono (by simp; omega)))
  clear hb
  go_wp2
  go_ret2
  exact ⟨rfl, hb3.out⟩
theorem aread_yes (H : ArAt w a mb wb bb c n g f l) (at_ : Nat) (k : Nat) (la : at_ < 4294967296) (h : at_ + k ≤ n) : Calls Try.prog 31 #[.pointer (some ⟨a, 0, none⟩), .int .u32 at_, .int .i64 k] w fun e w' => e = .returned (.tuple #[.string ⟨((l.drop at_).take k).toArray⟩, .bool true]) ∧ Below w.heap.size w w' := by
  have hO := Lib.hid (aown H)
  have hT := Lib.hid (fun w => there_any ⟨mb, 0, none⟩ (some ⟨bb, 0, none⟩) n c at_ k w H.ln la (by have := H.ln; omega))
  rw [thr_iff.2 h] at hT
  have hC : ∀ w', Below w.heap.size w w' → Calls Try.prog 64 #[.agg #[.pointer (some ⟨mb, 0, none⟩), .slice (some ⟨bb, 0, none⟩) n c], .int .u32 at_, .int .i64 k] w' fun e w'' => e = .returned (.string ⟨((l.drop at_).take k).toArray⟩) ∧ Below w'.heap.size w' w'' := fun w' hb => by
    have H' := H.below hb
    rcases Nat.eq_zero_or_pos k with rfl | h0
    · rw [List.take_zero]
      exact cut_nil _ bb c n at_ w' H.caps.1 (by omega) H.ln
    · exact cut_pos _ bb c n at_ k l w' H.len H.caps.1 h H.ln h0 (fun j u hu => H'.cell hu) H'.lb
  have hC' := Lib.hid hC
  clear H h hC
  go_enter Try.func31, Try.ntmps31
  go_wp2_with fail
  refine hO.out.mono ?_
  rintro e w2 ⟨rfl, hb⟩
  have hb2 := Lib.hid (hb.alloc hb.size (.cells #[.pointer (some ⟨mb, 0, none⟩), .slice (some ⟨bb, 0, none⟩) n c] 81))
  obtain ⟨w3, hw3⟩ : ∃ w3, w3 = w2.alloc (.cells #[.pointer (some ⟨mb, 0, none⟩), .slice (some ⟨bb, 0, none⟩) n c] 81) := ⟨_, rfl⟩
  have q0 : w3.cell? ⟨w2.heap.size, 0, none⟩ = some (.pointer (some ⟨mb, 0, none⟩)) := by rw [hw3]; simp
  have q1 : w3.cell? ⟨w2.heap.size, 1, none⟩ = some (.slice (some ⟨bb, 0, none⟩) n c) := by rw [hw3]; simp
  have s3 : w3.heap.size = w2.heap.size + 1 := by rw [hw3]; simp
  have hsz := hb.size
  have hw := Lib.hid hw3
  have G := Lib.hid (And.intro q0 (And.intro q1 (And.intro s3 hsz)))
  clear hb hw3 q0 q1 s3 hsz
  go_wp2_with fail
  rw [← hw.out] at hb2 ⊢
  refine (hT.out _).mono ?_
  rintro e w4 ⟨rfl, hb⟩
  have p0 := (hb.cell (p := ⟨w2.heap.size, 0, none⟩) (by show w2.heap.size < _; have := G.out.2.2.1; omega)).trans G.out.1
  have p1 := (hb.cell (p := ⟨w2.heap.size, 1, none⟩) (by show w2.heap.size < _; have := G.out.2.2.1; omega)).trans G.out.2.1
  have hb4 := Lib.hid (hb2.out.trans (hb.mono (by have := G.out.2.2; omega)))
  clear hb
  go_wp2_with fail
  refine (hC'.out w4 hb4.out).mono ?_
  rintro e w5 ⟨rfl, hb⟩
  have hb5 := Lib.hid (hb4.out.trans (hb.mono hb4.out.size))
  clear hb p0 p1
  go_wp2
  go_ret2
  exact ⟨rfl, hb5.out⟩
/-- What lies at s's bytes is laid into the arena. -/
theorem alay_any (H : ArAt w a mb wb bb c n g f l) (s : List UInt8) (sb cp at_ : Nat) (la : at_ < 4294967296) (ls : s.length < 9223372036854775808) (hs : ∀ j u, s[j]? = some u → w.cell? ⟨sb, j, none⟩ = some (vb u)) :
    Calls Try.prog 48 #[.agg #[.pointer (some ⟨mb, 0, none⟩), .slice (some ⟨bb, 0, none⟩) n c], .int .u32 at_, .slice (some ⟨sb, 0, none⟩) s.length cp] w (Nxt a mb wb bb c n g (stF n f at_ s.length) (stL n l at_ s) w (.bool (thr n at_ s.length))) := by
  rcases ht : thr n at_ s.length with _ | _
  · have := lay_no (w := w) (mb := mb) (c := c) at_ s.length cp (some ⟨sb, 0, none⟩) (some ⟨bb, 0, none⟩) la H.ln ls ht
    refine this.mono fun e w' h => ?_
    simp only [stF, stL, ht]
    exact nxt_below H h
  · have h := thr_iff.1 ht
    simp only [stF, stL, ht, if_true]
    rcases Nat.eq_zero_or_pos s.length with h0 | h0
    · have e0 : s = [] := List.eq_nil_of_length_eq_zero h0
      subst e0
      rw [List.length_nil, clr_zero, ovr_nil]
      exact (lay_zero (some ⟨sb, 0, none⟩) cp at_ H.caps.1 H.ln (by simpa using h) w).mono fun e w' h => nxt_below H h
    · exact lay_yes H s sb 0 cp at_ (fun j u hu => by rw [Nat.zero_add]; exact hs j u hu) h0 h
theorem awrite_any (H : ArAt w a mb wb bb c n g f l) (s : List UInt8) (at_ : Nat) (la : at_ < 4294967296) (ls : s.length < 9223372036854775808) :
    Calls Try.prog 32 #[.pointer (some ⟨a, 0, none⟩), .int .u32 at_, .string ⟨s.toArray⟩] w (Nxt a mb wb bb c n g (stF n f at_ s.length) (stL n l at_ s) w (.bool (thr n at_ s.length))) := by
  have hO := Lib.hid (aown H)
  have hconv : ∀ w, (convert 9 28 (.string ⟨s.toArray⟩)).run Try.prog w = .ok (.slice (some ⟨w.heap.size, 0, none⟩) s.length (grownCap w s.length 0 5)) (Lib.bytesWorld w 5 ⟨s.toArray⟩) := fun w => Lib.run_convert_string_bytes w _ _ _ _ Try.underlying9 Try.underlying28 Try.underlying5
  have hH := Lib.hid H
  have ls' := Lib.hid ls
  clear H ls
  go_enter Try.func32, Try.ntmps32
  go_wp2_with fail
  refine hO.out.mono ?_
  rintro e w2 ⟨rfl, hb⟩
  have hB := Lib.hid hb
  clear hb
  go_wp2_with fail
  have hB2 := bw_below w2 5 ⟨s.toArray⟩
  have H3 := (hH.out.below hB.out).below hB2
  refine (alay_any H3 s _ _ at_ la ls'.out (fun j u hu => bw_cell w2 5 s j u hu)).mono ?_
  rintro e w3 ⟨rfl, h3, o3⟩
  have hE := Lib.hid (And.intro h3 ((Of2.of_below (hB.out.trans (hB2.mono hB.out.size))).step o3))
  clear h3 o3 H3 hB2
  go_wp2
  go_ret
  exact ⟨rfl, hE.out⟩
theorem putB_nil (k : Int) (v : Nat) : (putB [] k v).length = if isW k then k.toNat else 0 := by
  unfold putB; split <;> simp [leB_length]
theorem astore_any (H : ArAt w a mb wb bb c n g f l) (k : Int) (v at_ : Nat) (la : at_ < 4294967296) (lv : v < 4294967296) :
    Calls Try.prog 22 #[.pointer (some ⟨a, 0, none⟩), .int .u32 at_, .int .i64 k, .int .u32 v] w (Nxt a mb wb bb c n g (stF n f at_ (putB [] k v).length) (stL n l at_ (putB [] k v)) w (.bool (isW k && thr n at_ (putB [] k v).length))) := by
  have hP := Lib.hid (put_any [] k v w (by simp) lv)
  have hO := Lib.hid (fun w' (hb : Below w.heap.size w w') => aown (H.below hb))
  have hH := Lib.hid H
  rcases hk : isW k with _ | _
  · have e0 : putB [] k v = [] := by simp [putB, hk]
    rw [e0] at hP ⊢
    rw [List.length_nil, stF_zero, stL_nil, Bool.false_and]
    clear H hk e0
    go_enter Try.func22, Try.ntmps22
    go_wp2_with fail
    refine hP.out.mono ?_
    rintro e w2 ⟨rfl, hb⟩
    have hE := Lib.hid (nxt_below hH.out ⟨rfl, hb⟩ (v := .bool false))
    clear hb
    go_wp2
    go_ret
    exact hE.out
  · have hw := isW_cases hk
    have hl : 0 < (putB [] k v).length := by rw [putB_nil, if_pos hk]; omega
    have hl2 : (putB [] k v).length < 9223372036854775808 := by rw [putB_nil, if_pos hk]; omega
    rw [Bool.true_and]
    generalize putB [] k v = s at *
    have hse : ¬ s = [] := fun e => by rw [e] at hl; simp at hl
    have hconv : ∀ w, (convert 9 28 (.string ⟨s.toArray⟩)).run Try.prog w = .ok (.slice (some ⟨w.heap.size, 0, none⟩) s.length (grownCap w s.length 0 5)) (Lib.bytesWorld w 5 ⟨s.toArray⟩) := fun w => Lib.run_convert_string_bytes w _ _ _ _ Try.underlying9 Try.underlying28 Try.underlying5
    have ls' := Lib.hid hl2
    clear H hk hw hl hl2
    go_enter Try.func22, Try.ntmps22
    go_wp2_with fail
    refine hP.out.mono ?_
    rintro e w2 ⟨rfl, hb⟩
    have hB := Lib.hid hb
    clear hb
    go_wp2_with fail
    refine (hO.out w2 hB.out).mono ?_
    rintro e w3 ⟨rfl, hb⟩
    have hB3 := Lib.hid (hB.out.trans (hb.mono hB.out.size))
    clear hb
    go_wp2_with fail
    have hB2 := bw_below w3 5 ⟨s.toArray⟩
    have H3 := (hH.out.below hB3.out).below hB2
    refine (alay_any H3 s _ _ at_ la ls'.out (fun j u hu => bw_cell w3 5 s j u hu)).mono ?_
    rintro e w4 ⟨rfl, h3, o3⟩
    have hE := Lib.hid (And.intro h3 ((Of2.of_below (hB3.out.trans (hB2.mono hB3.out.size))).step o3))
    clear h3 o3 H3 hB2
    go_wp2
    go_ret
    refine ⟨ret_bool ?_, hE.out⟩
    cases s with
    | nil => exact absurd rfl hse
    | cons x xs => rfl
end
end Go.Proofs.Ytdidnipmbedbjaa
