/- Proved: an arena does what the document says, step by step, to the last byte and tag (ArenaPlays). For every input; no condition. -/
import Derived.Test.YtpopfmboonjplaaRows
import Derived.Test.YtpopfmboonjplaaDo6
import Derived.Test.YtpopfmboonjplaaArZG
import Derived.Test.YtpopfmboonjplaaArW
import Derived.Test.YtpopfmboonjplaaArZE
import Derived.Test.YtpopfmboonjplaaArZC
import Derived.ProofKit
import Derived.OpenShut
import Derived.ShutString
import Derived.ChangeOld
namespace Go.Proofs.Ytpopfmboonjplaa.aplays
open Go.ChangeShapes Go.WideShapes Go.ChangeAt Go.RowKit
open Go.ChangeMaps (open_string shut_string)
set_option linter.unusedVariables false

set_option maxRecDepth 100000 in
set_option maxHeartbeats 4000000 in
theorem walk_no (p : Int) (ec : Int) (he : (ec == 0) = false) (A : Option Addr) (len cap : Nat) (hlen : len ≤ 9223372036854775807) (W : World)
    (hA : Calls Try.prog 14 #[.int .i64 p] W fun e w' => e = .returned (.tuple #[.pointer none, .int .i64 ec]) ∧ W = w') (hR : Calls Try.prog 15 #[.int .i64 p] W fun e w' => e = .returned (.tuple #[.pointer none, .int .i64 ec]) ∧ W = w') :
    Calls Try.prog 4 #[.int .i64 p, .slice A len cap] W fun e w' => e = .returned (.bool true) ∧ Below W.heap.size W w' := by
  have he' : (ec != 0) = true := by simp at he; simpa using he
  obtain ⟨S, hS0⟩ : ∃ S, S = fun w => Below W.heap.size W w := ⟨_, rfl⟩
  have hK : ∀ w, S w → Below W.heap.size W w := fun w h => by rw [hS0] at h; exact h
  have h0 : S W.drew := by rw [hS0]; exact (Below.refl _ _).drew
  have hund : undef = Value.tuple #[] := rfl
  replace hA := Lib.hid hA
  replace hR := Lib.hid hR
  replace h0 := Lib.hid h0
  have HK := Lib.hid hK
  clear hK hS0
  go_enter Try.func4, Try.ntmps4
  go_wp2_with fail
  refine hA.out.mono ?_
  rintro e w1 ⟨rfl, rfl⟩
  go_wp2_with fail
  refine hR.out.mono ?_
  rintro e w1 ⟨rfl, rfl⟩
  go_wp2_with fail
  refine region_cls S (by kernel_rfl) (by kernel_rfl) h0.out ?_
  repeat (first
    | go_big_quiet_skip
    | (go_big_quiet_want
       go_big_quiet_op
       first
       | go_big_quiet_on
       | (apply Exists.intro
          refine ⟨fun y => ?_, ?_⟩
          · first | exact rfl
          go_big_quiet_on)))
  refine wpQuiet_nil ?_
  intro y
  have hk := HK.out _ y.h
  have hW := Lib.hid (awW y.w)
  replace hk := Lib.hid hk
  generalize y.w = w1 at *
  go_wp2_with fail
  go_loop [9] (fun i => i = .int .i64 0) (fun _ => 0)
  case atStart => rfl
  case round =>
    subst hrel
    rcases Nat.lt_or_ge 0 len with hl | hl
    · have hl' : (0 : Int) < (len : Int) := by omega
      go_wp2_with fail
      refine hW.out.mono ?_
      rintro e w2 ⟨rfl, h2⟩
      have h3 := Lib.hid (hk.out.trans (h2.mono hk.out.size))
      go_wp2_with fail
      go_ret
      exact ⟨rfl, h3.out⟩
    · have hl' : ¬ (0 : Int) < (len : Int) := by omega
      go_wp2_with fail
      refine hW.out.mono ?_
      rintro e w2 ⟨rfl, h2⟩
      have h3 := Lib.hid (hk.out.trans (h2.mono hk.out.size))
      go_wp2_with fail
      go_ret
      exact ⟨rfl, h3.out⟩

set_option maxRecDepth 100000 in
set_option maxHeartbeats 8000000 in
theorem walk_yes (p : Nat) (h1 : 16 ≤ p) (h2 : p ≤ 1024) (A : Option Addr) (len cap : Nat) (hlen : len ≤ 9223372036854775807) (hcap : len ≤ cap) (W : World) (hP : DosIn W W.heap.size A len) :
    Calls Try.prog 4 #[.int .i64 (p : Int), .slice A len cap] W fun e w' => e = .returned (.bool true) ∧ Below W.heap.size W w' := by
  have hA := Lib.hid (anew_yes p W h1 h2)
  have hR := Lib.hid (fun w => rnew_yes p w h1 h2)
  have hg16 := Lib.hid (show (16 * p) % 16 = 0 by omega)
  have hn1 := Lib.hid (show 16 * (16 * p) ≤ 262144 by omega)
  generalize 16 * p = g at *
  generalize hL0 : List.replicate (256 * p) (0 : UInt8) = L0 at *
  clear hL0
  generalize (fun _ : Nat => false) = f0 at *
  replace hP := Lib.hid hP
  have hund : undef = Value.tuple #[] := rfl
  clear h1 h2
  go_enter Try.func4, Try.ntmps4
  go_wp2_with fail
  refine hA.out.mono ?_
  rintro e w1 ⟨a, rfl, mb, wb, bb, c, ha, hb1, x1, x2, x3, x4⟩
  replace ha := Lib.hid ha
  have hx := Lib.hid (And.intro hb1 (And.intro x1 (And.intro x2 (And.intro x3 x4))))
  clear hA hb1 x1 x2 x3 x4
  go_wp2_with fail
  refine (hR.out w1).mono ?_
  rintro e w2 ⟨r, rfl, rb, tb, hr, hb2, y1, y2, y3⟩
  have T2 := Lib.hid (show Two W.heap.size a mb wb bb c r rb tb (16 * g) g f0 L0 w2 ∧ Below W.heap.size W w2 from by
    have q1 := ha.out.m.lw
    have q2 := ha.out.lb
    have q3 := ha.out.la
    have q4 := ha.out.m.lb
    obtain ⟨z1, z2, z3, z4, z5⟩ := hx.out
    have z6 := z1.size
    have z7 := hb2.size
    exact ⟨⟨ha.out.below hb2, hr, by omega, by omega, by omega, by omega, by omega⟩, z1.trans (hb2.mono z6)⟩)
  clear hR ha hx hr hb2 y1 y2 y3
  obtain ⟨S, hS0⟩ : ∃ S, S = fun w => Below w2.heap.size w2 w := ⟨_, rfl⟩
  have hK : ∀ w, S w → Below w2.heap.size w2 w := fun w h => by rw [hS0] at h; exact h
  have hS : ∀ w w', S w → Below w.heap.size w w' → S w' := fun w w' h k => by rw [hS0] at h ⊢; exact h.trans (k.mono h.size)
  have h0 : S w2.drew := by rw [hS0]; exact (Below.refl _ _).drew
  clear hS0
  have cS := Lib.hid (cls_call (S := S) fun w hw => (asize_any (T2.out.1.ar.below (hK _ hw))).mono fun e w' k => (⟨k.1, hS _ _ hw k.2⟩ : _ ∧ S w'))
  have d0 : ∀ y : Wd S, y.w.cell? ⟨r, 0, none⟩ = some (.slice (some ⟨rb, 0, none⟩) (16 * g) (16 * g)) := fun y => (T2.out.1.rf.below (hK _ y.h)).q0
  replace h0 := Lib.hid h0
  have HK := Lib.hid hK
  clear hK hS
  generalize 16 * g = n at *
  go_wp2_with fail
  refine region_cls S (by kernel_rfl) (by kernel_rfl) h0.out ?_
  repeat (first
    | go_big_quiet_skip
    | (go_big_quiet_want
       go_big_quiet_op
       first
       | go_big_quiet_on
       | (apply Exists.intro
          refine ⟨fun y => ?_, ?_⟩
          · first | exact rfl | with_reducible exact cS.out y
          go_big_quiet_on)))
  refine wpQuiet_nil ?_
  intro y
  have hk := HK.out _ y.h
  have T3 := Lib.hid (show Two W.heap.size a mb wb bb c r rb tb n g f0 L0 y.w ∧ Below W.heap.size W y.w from ⟨T2.out.1.below hk, T2.out.2.trans (hk.mono T2.out.2.size)⟩)
  clear hk T2 cS d0 HK h0
  generalize y.w = w3 at *
  go_wp2_with fail
  go_loopw [5, 9] (fun av i wr => ∃ (k a mb wb bb c : Nat) (f : Nat → Bool) (l : List UInt8), k ≤ len ∧ k ≤ 30 ∧ i = .int .i64 k ∧ av = .pointer (some ⟨a, 0, none⟩) ∧ Hid (Two W.heap.size a mb wb bb c r rb tb n g f l wr ∧ Below W.heap.size W wr)) (fun _ i _ => 31 - (intOf i).toNat)
  case atStart => exact ⟨0, a, mb, wb, bb, c, f0, L0, by omega, by omega, rfl, rfl, T3⟩
  case round =>
    clear T3
    obtain ⟨k, a, mb, wb, bb, c, f, l, hk, hk30, rfl, rfl, HT⟩ := hrel
    by_cases hlt : k < len ∧ k < 30
    · have j1 : (k : Int) < (len : Int) := by omega
      have j2 : (k : Int) < 30 := by omega
      obtain ⟨bq, off, rfl, hbq, kd, at_, wd, v, cu, e, b, t, pm, ty, rs, va, s, hok, hc⟩ := (hP.out.below HT.out.2) k hlt.1
      have c0 : wr.cell? ⟨bq, off + k * 13, none⟩ = some (.int .i64 kd) := hc 0 _ rfl
      have c1 : wr.cell? ⟨bq, off + k * 13 + 1, none⟩ = some (.int .u32 at_) := hc 1 _ rfl
      have c2 : wr.cell? ⟨bq, off + k * 13 + 2, none⟩ = some (.int .i64 wd) := hc 2 _ rfl
      have c3 : wr.cell? ⟨bq, off + k * 13 + 3, none⟩ = some (.int .u32 v) := hc 3 _ rfl
      have c4 : wr.cell? ⟨bq, off + k * 13 + 4, none⟩ = some (.int .u32 cu) := hc 4 _ rfl
      have c5 : wr.cell? ⟨bq, off + k * 13 + 5, none⟩ = some (.int .u8 e) := hc 5 _ rfl
      have c6 : wr.cell? ⟨bq, off + k * 13 + 6, none⟩ = some (.int .u16 b) := hc 6 _ rfl
      have c7 : wr.cell? ⟨bq, off + k * 13 + 7, none⟩ = some (.int .u16 t) := hc 7 _ rfl
      have c8 : wr.cell? ⟨bq, off + k * 13 + 8, none⟩ = some (.int .u16 pm) := hc 8 _ rfl
      have c9 : wr.cell? ⟨bq, off + k * 13 + 9, none⟩ = some (.int .u16 ty) := hc 9 _ rfl
      have c10 : wr.cell? ⟨bq, off + k * 13 + 10, none⟩ = some (.int .u32 rs) := hc 10 _ rfl
      have c11 : wr.cell? ⟨bq, off + k * 13 + 11, none⟩ = some (.bool va) := hc 11 _ rfl
      have c12 : wr.cell? ⟨bq, off + k * 13 + 12, none⟩ = some (.string ⟨s.toArray⟩) := hc 12 _ rfl
      have hok' := Lib.hid hok
      obtain ⟨t1, ht1⟩ : ∃ t1, t1 = Int.tmod kd 7 := ⟨_, rfl⟩
      have tr1 : -7 < t1 := by rw [ht1]; exact Int.lt_tmod_of_pos kd (by decide)
      have tr2 : t1 < 7 := by rw [ht1]; exact Int.tmod_lt_of_pos kd (by decide)
      have t5 : kd.tmod 7 = t1 := ht1.symm
      have e7 : (t1 + 7).tmod 7 = (t1 + 7) % 7 := Int.tmod_eq_emod_of_nonneg (by omega)
      have kb1 := hok.1.1
      have kb2 := hok.1.2
      have hkk := Lib.hid hk
      have hlt' := Lib.hid hlt
      clear hok hc ht1 hk hlt hk30 hbq
      by_cases hm : (t1 + 7) % 7 = 6
      · have hb : ((t1 + 7) % 7 == 6) = true := by simpa using hm
        clear hm e7
        go_wp2_with fail
        refine (acopy_any HT.out.1.ar).mono ?_
        rintro ee w4 ⟨a', rfl, mb', wb', bb', c', ha', hb4, x1, x2, x3, x4⟩
        have HA4 := HT.out.1.ar.below hb4
        have H4 := Lib.hid (show ArAt w4 a' mb' wb' bb' c' n g f l from HT.out.1.ar.hn ▸ ha')
        have hq := Lib.hid (And.intro hb4 (And.intro x1 (And.intro x2 (And.intro x3 x4))))
        clear ha' hb4 x1 x2 x3 x4
        have hS1 : Calls Try.prog 18 #[.pointer (some ⟨a, 0, none⟩), .int .u32 0, .agg #[.int .u32 0, .int .u8 0, .int .u16 0, .int .u16 0, .int .u16 0, .int .u16 0, .int .u32 0, .bool true]] w4 (Nxt a mb wb bb c n g (scF n f 0 (true && sndP 0 0 0 0 0 0)) (scL n l 0 (bytesC 0 0 0 0 0 0 0)) w4 (.bool (grn n 0))) :=
          ascap_any HA4 0 0 0 0 0 0 0 true 0 (by decide) (by decide) (by decide) (by decide) (by decide) (by decide) (by decide) (by decide)
        clear HA4
        replace hS1 := Lib.hid hS1
        go_wp2_with fail
        refine hS1.out.mono ?_
        rintro ee w5 ⟨rfl, hA5, ho5⟩
        have hS2 : Calls Try.prog 19 #[.pointer (some ⟨a, 0, none⟩), .int .u32 20, .int .i64 4, .int .u32 77] w5 _ := astore_any hA5 4 77 20 (by decide) (by decide)
        replace hS2 := Lib.hid hS2
        replace hA5 := Lib.hid (And.intro hA5 ho5)
        clear hS1 ho5
        go_wp2_with fail
        refine hS2.out.mono ?_
        rintro ee w6 ⟨rfl, hA6, ho6⟩
        have HT6 := Lib.hid (show Two W.heap.size a' mb' wb' bb' c' r rb tb n g f l w6 ∧ Below W.heap.size W w6 from by
          obtain ⟨z1, z2, z3, z4, z5⟩ := hq.out
          obtain ⟨T, hB⟩ := HT.out
          have s1 := T.ar.m.lw
          have s2 := T.ar.lb
          have s3 := T.rf.la
          have s4 := T.rf.lb
          have s5 := T.rf.lt
          have s6 := T.l1
          have s7 := z1.size
          have s8 := ho6.size
          have s9 := hA5.out.2.size
          have o46 : Of2 w4.heap.size wb bb w4 w6 := hA5.out.2.step ho6
          have r4 := T.rf.below z1
          have r6 := r4.of2 o46 T.d1 T.d2
          have a6 := H4.out.of2 o46 ⟨by omega, by omega, by omega, by omega⟩ ⟨by omega, by omega, by omega, by omega⟩
          exact ⟨⟨a6, r6, by omega, by omega, by omega, by omega, by omega⟩, hB.trans ((z1.mono (by omega)).trans (o46.below (by omega) (by omega) (by omega)))⟩)
        clear hA5 hA6 ho6 hS2 H4 hq
        go_wp2_with fail
        go_roundw
        case rel => exact ⟨k + 1, a', mb', wb', bb', c', f, l, by have := hlt'.out.1; omega, by have := hlt'.out.2; omega, by go_num, rfl, HT6⟩
        case measure => have := hlt'.out.2; simp [intOf]; omega
      · have hb : ((t1 + 7) % 7 == 6) = false := by simpa using hm
        have hne := Lib.hid (show Int.tmod (Int.tmod kd 7 + 7) 7 ≠ 6 from by rw [t5, e7]; exact hm)
        clear hm e7
        go_wp2_with fail
        obtain ⟨o1, o2, o3, o4, o5, o6, o7, o8, o9, o10, o11, o12⟩ := hok'.out
        refine (step_any HT.out.1 kd wd at_ v cu e b t pm ty rs va s o1 hne.out o2 o3 o4 o5 o6 o7 o8 o9 o10 o11 o12).mono ?_
        rintro ee w4 ⟨rfl, f', l', HT', hb4⟩
        have HT4 := Lib.hid (And.intro HT' (HT.out.2.trans hb4))
        clear HT' hb4 o1 o2 o3 o4 o5 o6 o7 o8 o9 o10 o11 o12
        go_wp2_with fail
        go_roundw
        case rel => exact ⟨k + 1, a, mb, wb, bb, c, f', l', by have := hlt'.out.1; omega, by have := hlt'.out.2; omega, by go_num, rfl, HT4⟩
        case measure => have := hlt'.out.2; simp [intOf]; omega
    · have hsm := Lib.hid (same_any HT.out.1.ar HT.out.1.rf hg16.out)
      rcases Nat.lt_or_ge k len with hk1 | hk1
      · have j1 : (k : Int) < (len : Int) := by omega
        have j2 : ¬ (k : Int) < 30 := by omega
        clear hk hlt hk30
        go_wp2_with fail
        refine hsm.out.mono ?_
        rintro e w4 ⟨rfl, h4⟩
        have h5 := HT.out.2.trans (h4.mono HT.out.2.size)
        have hW := Lib.hid (awW w4)
        replace h5 := Lib.hid h5
        clear h4
        go_wp2_with fail
        refine hW.out.mono ?_
        rintro e w5 ⟨rfl, h6⟩
        have h7 := Lib.hid (h5.out.trans (h6.mono h5.out.size))
        go_wp2_with fail
        go_ret
        exact ⟨rfl, h7.out⟩
      · have j1 : ¬ (k : Int) < (len : Int) := by omega
        clear hk hlt hk30
        go_wp2_with fail
        refine hsm.out.mono ?_
        rintro e w4 ⟨rfl, h4⟩
        have h5 := HT.out.2.trans (h4.mono HT.out.2.size)
        have hW := Lib.hid (awW w4)
        replace h5 := Lib.hid h5
        clear h4
        go_wp2_with fail
        refine hW.out.mono ?_
        rintro e w5 ⟨rfl, h6⟩
        have h7 := Lib.hid (h5.out.trans (h6.mono h5.out.size))
        go_wp2_with fail
        go_ret
        exact ⟨rfl, h7.out⟩
set_option maxRecDepth 100000 in
theorem walk {H : Type} {enc : TypeId × Value → H} (p : Int) (wp : (Lit.int .i64 p).wf = true) (v1 : Value) {d0 : DataW H} {p0 : List MemPlace} (W : World)
    (hv : Value.okWide Try.prog W .any 0 40 v1) (hd : DataW.Trod enc Try.prog W 0 (fun _ => true) true 40 v1 d0 p0) :
    Calls Try.prog 4 #[.int .i64 p, v1] W fun e w' => e = .returned (.bool true) ∧ Below W.heap.size W w' := by
  obtain ⟨A, len, cap, rfl, hcap, hm, hP⟩ := dos_of hv hd
  have hlen : len ≤ 9223372036854775807 := by unfold maxLen at hm; omega
  by_cases h1 : p < 16
  · exact walk_no p 2 (by decide) A len cap hlen W (anew_no p W h1) (rnew_no p W h1)
  · by_cases h2 : 1024 < p
    · exact walk_no p 3 (by decide) A len cap hlen W (anew_long p W h2) (rnew_long p W h2)
    · obtain ⟨q, rfl⟩ := Int.eq_ofNat_of_zero_le (show 0 ≤ p by omega)
      exact walk_yes q (by omega) (by omega) A len cap hlen hcap W hP
theorem own : ownKnob Try.prog.godebug = none := by kernel_rfl
theorem laidOut : laidOutB Try.prog = true := by kernel_rfl
set_option maxRecDepth 100000 in
theorem lifted (os : Os) (started : os.Started) (H : Type) (enc : TypeId × Value → H) :
    ReturnsInHanded {} Try.checked os 4 .any (Rows.arenaPlaysSpec.pre6 enc Try.prog Try.f4 Rows.arenaPlaysRow.domain false) (Rows.arenaPlaysSpec.post enc Try.prog Try.f4 false true false false) := by
  refine returnsInHanded_of_change (C := Try.checked) own started (by kernel_rfl) Try.func4
    (ChangeSpec.witness6 (enc := enc) (C := Try.checked) false ⟨#[], #[.int .i64 0, .slice none 0 0], []⟩ 8 (by kernel_rfl) (by kernel_rfl) (by kernel_rfl) (by kernel_rfl)) ?_
  intro W base args ds gs before hval0 hW hcnd hsz
  have hval : ∀ (j : Nat) t v, Try.f4.params[j]? = some t → args[j]? = some v → Value.okWide Try.prog W .any base t v := hval0
  have hW' := hW
  obtain ⟨p, q, hA0, hV, rfl, hfz, hnd⟩ := hW
  have hA : DataW.TrodAll enc Try.prog W 0 (fun _ => true) true Try.f4.params.toList args.toList ds p := hA0
  rw [Try.params4] at hA hval
  obtain ⟨v0, vs0, d0, ds0, p0, q0, hargs, rfl, rfl, h0, r0⟩ := trodAll_cons hA
  obtain ⟨v1, vs1, d1, ds1, p1, q1, rfl, rfl, rfl, h1, r1⟩ := trodAll_cons r0
  obtain ⟨rfl, rfl, rfl⟩ := trodAll_nil r1
  obtain rfl : args = #[v0, v1] := by cases args; simp_all
  obtain ⟨rfl, rfl⟩ := trodVars_none hV
  have k0 := h0
  have lt0 : ∀ x ∈ p0, x.block < W.heap.size := by obtain ⟨m, hm⟩ := k0; exact DataW.trod_lt m _ _ _ hm
  have k1 := h1
  have lt1 : ∀ x ∈ p1, x.block < W.heap.size := by obtain ⟨m, hm⟩ := k1; exact DataW.trod_lt m _ _ _ hm
  obtain ⟨p, rfl, rfl, rfl, wp⟩ := open_int Try.underlying3 (hval 0 3 v0 rfl rfl) h0
  clear hA0 hval0
  refine (walk p wp v1 W (hval 1 40 v1 rfl rfl) k1).mono fun e W' ⟨he, bel⟩ => ?_
  subst he
  exact ⟨_, rfl, _, _, _, [], _, [], hW', trodAll_mk1 (shut_bool Try.underlying4 _), (trodAll_cons_mk (Below.trod laidOut (by kernel_rfl) (of_decide_eq_true (by kernel_rfl)) k0 bel lt0) (trodAll_cons_mk (Below.trod laidOut (by kernel_rfl) (of_decide_eq_true (by kernel_rfl)) k1 bel lt1) trodAll_mk0)), rfl, bel.frame _, fun h => by cases h⟩
theorem over : Rows.arenaPlaysRow.holds Try.pinned (OpenSpec.ofChange Rows.arenaPlaysSpec) :=
  OpenClaim.holds_of_wide 4 Try.f4 rfl rfl rfl rfl rfl rfl rfl ⟨rfl, rfl, rfl, rfl, rfl⟩ rfl rfl rfl rfl rfl (by kernel_rfl) Try.func4 (by kernel_rfl)
    (of_decide_eq_true (by kernel_rfl)) (by unfold Func.isWrapper; first | (rw [if_pos (by decide +kernel)]; kernel_rfl) | (rw [if_neg (by decide +kernel)]; exact ⟨rfl, rfl⟩))
    (fun os started H enc _ => lifted os started H enc)
/-- The given statement. -/
theorem proved : Rows.ArenaPlaysSaid := over
end Go.Proofs.Ytpopfmboonjplaa.aplays
