/- Proved: what does not lie within an arena is refused, and changes nothing (ArenaEnds). For every input; no condition. -/
import Derived.Test.YtdidnipmbedbjaaRows
import Derived.Test.YtdidnipmbedbjaaArW
import Derived.ProofKit
import Derived.OpenShut
import Derived.ShutString
import Derived.ChangeOld
import Derived.Deep.DeepCutAuto
namespace Go.Proofs.Ytdidnipmbedbjaa.aends
open Go.ChangeShapes Go.WideShapes Go.ChangeAt Go.RowKit
open Go.ChangeMaps (open_string shut_string)
set_option linter.unusedVariables false

theorem scF_F0 (n at_ j : Nat) : scF n F0 at_ false j = F0 j := by
  unfold scF
  split
  · simp only [upd, clr, F0]
    split <;> simp
  · rfl
set_option maxRecDepth 100000 in
set_option maxHeartbeats 4000000 in
theorem walkN (at_ : Nat) (width : Int) (n : Nat) (la : at_ < 4294967296) (lw : -9223372036854775808 ≤ width ∧ width < 9223372036854775808) (ln : n < 65536) (W : World) : Calls Try.prog 7 #[.int .u32 at_, .int .i64 width, .int .u16 n] W fun e w' => e = .returned (.bool true) ∧ Below W.heap.size W w' := by
  have M := Lib.hid (made_any W)
  obtain ⟨o, ho⟩ : ∃ o, o = inB 4096 at_ width := ⟨_, rfl⟩
  have ho1 := Lib.hid ho
  have ho2 := Lib.hid (show (isW width && thr 4096 at_ (putB [] width 4294967295).length) = o from by
    rw [ho, putB_nil]
    unfold inB
    rcases hw : isW width with _ | _
    · simp
    · have := isW_cases hw
      rw [if_pos rfl, Bool.true_and, Bool.true_and, Bool.eq_iff_iff]
      simp [thr]
      omega)
  have hoc : (width = 1 ∧ o = decide ((at_ : Int) + 1 ≤ 4096)) ∨ (width = 2 ∧ o = decide ((at_ : Int) + 2 ≤ 4096)) ∨ (width = 4 ∧ o = decide ((at_ : Int) + 4 ≤ 4096)) ∨ (¬ width = 1 ∧ ¬ width = 2 ∧ ¬ width = 4 ∧ o = false) := by
    rw [ho]
    unfold inB
    rcases hw : isW width with _ | _
    · have := isW_not hw
      simp
      omega
    · rcases isW_cases hw with rfl | rfl | rfl <;> simp
  have hoc := Lib.hid hoc
  clear ho
  have lw' := Lib.hid lw
  clear lw
  go_enter Try.func7, Try.ntmps7
  go_wp2_with fail
  refine M.out.mono ?_
  rintro e W1 ⟨a, rfl, mb, wb, bb, c, h, hb, x1, x2, x3, x4⟩
  have N := Lib.hid (And.intro hb (And.intro x3 x4))
  have Z1 := Lib.hid (St.first (n := 4096) h)
  clear h hb x1 x2 x3 x4
  go_wp2_with fail
  refine (awW W1).mono ?_
  rintro e W2 ⟨rfl, k⟩
  have Z2 := Lib.hid (Z1.out.below k)
  clear k Z1
  go_upto_region 4 with (fail)
  go_cut [8] (fun v w' => v = .bool o ∧ w' = W2)
  case first =>
    rcases hoc.out with ⟨rfl, rfl⟩ | ⟨rfl, rfl⟩ | ⟨rfl, rfl⟩ | ⟨h1, h2, h4, rfl⟩
    all_goals
      clear hoc ho1 ho2 lw'
      go_wp2_with fail
      go_meet
      exact ⟨rfl, by first | rfl | trivial⟩
  case rest =>
    obtain ⟨rfl, rfl⟩ := hcut
    clear hoc
    go_wp2_with fail
    have hL := aload_any Z2.out.ar at_ width la
    rw [← ho1.out] at hL
    refine hL.mono ?_
    rintro e W3 ⟨rfl, k⟩
    have Z3 := Lib.hid (Z2.out.below k)
    clear k Z2 hL
    go_wp2_with fail
    have hS := astore_any Z3.out.ar width 4294967295 at_ la (by decide)
    rw [ho2.out] at hS
    refine hS.mono ?_
    rintro e W4 ⟨rfl, k⟩
    have k' := And.intro (k.1.ext (fun j => stF_F0 _ _ _ j) rfl) k.2
    have Z4 := Lib.hid (Z3.out.nxt k')
    clear k k' Z3 hS
    generalize stL 4096 L0 at_ (putB [] width 4294967295) = l4 at *
    obtain ⟨lg, hlg⟩ : ∃ lg, lg = thr 4096 at_ n := ⟨_, rfl⟩
    have hlg1 : decide ((at_ : Int) + n ≤ 4096) = lg := by rw [hlg]; simp [thr]
    have hlg2 := Lib.hid hlg
    clear hlg
    go_wp2_with fail
    have hR : ∃ s : List UInt8, (lg = true → s.length = n) ∧ Calls Try.prog 31 #[.pointer (some ⟨a, 0, none⟩), .int .u32 at_, .int .i64 n] W4 fun e w' => e = .returned (.tuple #[.string ⟨s.toArray⟩, .bool lg]) ∧ Below W4.heap.size W4 w' := by
      rcases hq : lg with _ | _
      · exact ⟨[], fun h => (by cases h), aread_no Z4.out.ar at_ n la (by omega) (by rw [← hlg2.out, hq])⟩
      · have h2 := thr_iff.1 (hlg2.out.symm.trans hq)
        exact ⟨(l4.drop at_).take n, fun _ => by have := Z4.out.ar.len; simp; omega, aread_yes Z4.out.ar at_ n la h2⟩
    obtain ⟨s, hs, hR⟩ := hR
    refine hR.mono ?_
    rintro e W5 ⟨rfl, k⟩
    have Z5 := Lib.hid (Z4.out.below k)
    have hs' := Lib.hid hs
    clear k Z4 hR hs
    have hmk : ∀ w, (Instr.makeSlice 28 (.int .i64 n) (.int .i64 n)).run Try.prog w = .ok (.slice (some ⟨w.heap.size, 0, none⟩) n n) (w.alloc (.cells (madeCells #[.int .u8 0] n) 5)) := fun w =>
      run_make_row' 28 5 (.int .u8 0) 1 Try.underlying28 info_u8 rfl .i64 .i64 n (by omega) (by omega) w
    have hcv : ∀ w : World, (convert 28 9 (.slice (some ⟨w.heap.size, 0, none⟩) n n)).run Try.prog (w.alloc (.cells (madeCells #[.int .u8 0] n) 5)) = .ok (.string ⟨(List.replicate n (0 : UInt8)).toArray⟩) (w.alloc (.cells (madeCells #[.int .u8 0] n) 5)) := fun w => by
      have := run_convert_bytes_back (P := Try.prog) (w.alloc (.cells (madeCells #[.int .u8 0] n) 5)) 28 9 5 ⟨w.heap.size, 0, none⟩ n (List.replicate n (0 : UInt8)) Try.underlying28 Try.underlying5 Try.underlying9 (fun j hj => by
        have hj' : j < n := by simpa using hj
        rw [Addr.add_lit]
        simp [madeCells, hj', Nat.mod_one])
      rwa [List.length_replicate] at this
    have Z6 := Lib.hid (Z5.out.below ((Below.refl _ W5).alloc (Nat.le_refl _) (.cells (madeCells #[.int .u8 0] n) 5)))
    go_wp2_with fail
    have hw := awrite_any Z6.out.ar (List.replicate n (0 : UInt8)) at_ la (by simp; omega)
    rw [List.length_replicate, ← hlg2.out] at hw
    refine hw.mono ?_
    rintro e W7 ⟨rfl, k⟩
    have k' := And.intro (k.1.ext (fun j => stF_F0 _ _ _ j) rfl) k.2
    have Z7 := Lib.hid (Z6.out.nxt k')
    clear k k' Z5 Z6 hw hmk hcv
    generalize stL 4096 l4 at_ (List.replicate n (0 : UInt8)) = l7 at *
    go_wp2_with fail
    have hz := azero_any Z7.out.ar at_ n la (by omega)
    rw [← hlg2.out] at hz
    refine hz.mono ?_
    rintro e W8 ⟨rfl, k⟩
    have k' := And.intro (k.1.ext (fun j => stF_F0 _ _ _ j) rfl) k.2
    have Z8 := Lib.hid (Z7.out.nxt k')
    clear k k' Z7 hz
    generalize stL 4096 l7 at_ (List.replicate n 0) = l8 at *
    obtain ⟨wh, hwh⟩ : ∃ wh, wh = grn 4096 at_ := ⟨_, rfl⟩
    have hwc := Lib.hid (show ((at_ : Int) % 16 = 0 ∧ wh = decide ((at_ : Int) + 16 ≤ 4096)) ∨ (¬ (at_ : Int) % 16 = 0 ∧ wh = false) by
      rw [hwh]
      by_cases h : at_ % 16 = 0
      · exact .inl ⟨by omega, by simp [grn, h, thr]⟩
      · exact .inr ⟨by omega, by simp [grn, h]⟩)
    have hwh' := Lib.hid hwh
    clear hwh
    go_upto_region 11 with (fail)
    go_cut [17] (fun v w' => v = .bool wh ∧ w' = W8)
    case first =>
      rcases hwc.out with ⟨h1, rfl⟩ | ⟨h1, rfl⟩
      all_goals
        clear hwc hwh'
        go_wp2_with fail
        go_meet
        exact ⟨rfl, by first | rfl | trivial⟩
    case rest =>
      obtain ⟨rfl, rfl⟩ := hcut
      clear hwc
      go_wp2_with fail
      have hC : ∃ (m0 m1 m2 m3 m4 m5 m6 : Nat) (m7 : Bool), Calls Try.prog 29 #[.pointer (some ⟨a, 0, none⟩), .int .u32 at_] wc fun e w' => e = .returned (.tuple #[.agg #[.int .u32 m0, .int .u8 m1, .int .u16 m2, .int .u16 m3, .int .u16 m4, .int .u16 m5, .int .u32 m6, .bool m7], .bool wh]) ∧ Below wc.heap.size wc w' := by
        rcases hq : wh with _ | _
        · exact ⟨0, 0, 0, 0, 0, 0, 0, false, alcap_no Z8.out.ar at_ la (hwh'.out.symm.trans hq)⟩
        · exact ⟨_, _, _, _, _, _, _, _, alcap_yes Z8.out.ar at_ la (hwh'.out.symm.trans hq)⟩
      obtain ⟨m0, m1, m2, m3, m4, m5, m6, m7, hC⟩ := hC
      refine hC.mono ?_
      rintro e W9 ⟨rfl, k⟩
      have Z9 := Lib.hid ((Z8.out.below k).push (cv m0 m1 m2 m3 m4 m5 m6 m7) 25)
      clear k Z8 hC
      have hNum := Lib.hid (fun w => pNumber_any 1 (by decide) w)
      go_wp2_with fail
      refine (hNum.out _).mono ?_
      rintro e W10 ⟨rfl, k⟩
      have Z10 := Lib.hid (Z9.out.below k)
      clear k Z9 hNum
      go_wp2_with fail
      have hP := ascap_any Z10.out.ar 1 0 0 0 0 0 0 false at_ (by decide) (by decide) (by decide) (by decide) (by decide) (by decide) (by decide) la
      rw [← hwh'.out] at hP
      refine hP.mono ?_
      rintro e W11 ⟨rfl, k⟩
      have k' := And.intro (k.1.ext (fun j => scF_F0 _ _ j) rfl) k.2
      have Z11 := Lib.hid (Z10.out.nxt k')
      clear k k' Z10 hP
      generalize scL 4096 l8 at_ (bytesC 1 0 0 0 0 0 0) = l11 at *
      have hEqs : ∀ x : Bool, (x == x) = true := fun x => by simp
      rcases lg with _ | _
      · skip
        go_wp2_with fail
        have hU := auntag_any Z11.out.ar at_ la
        rw [show (decide (at_ % 16 = 0) && F0 (at_ / 16)) = false from Bool.and_false _] at hU
        refine hU.mono ?_
        rintro e W12 ⟨rfl, k⟩
        have Z12 := Lib.hid (Z11.out.nxt k)
        have hB := Lib.hid (N.out.1.trans (Z12.out.of.below N.out.1.size N.out.2.1 N.out.2.2))
        clear k Z11 Z12
        go_wp2
        go_ret
        exact ⟨rfl, hB.out⟩
      · have hsl := hs'.out rfl
        subst hsl
        go_wp2_with fail
        have hU := auntag_any Z11.out.ar at_ la
        rw [show (decide (at_ % 16 = 0) && F0 (at_ / 16)) = false from Bool.and_false _] at hU
        refine hU.mono ?_
        rintro e W12 ⟨rfl, k⟩
        have Z12 := Lib.hid (Z11.out.nxt k)
        have hB := Lib.hid (N.out.1.trans (Z12.out.of.below N.out.1.size N.out.2.1 N.out.2.2))
        clear k Z11 Z12
        go_wp2
        go_ret
        exact ⟨rfl, hB.out⟩
theorem walk (at_ : Int) (wat : (Lit.int .u32 at_).wf = true) (width : Int) (ww : (Lit.int .i64 width).wf = true) (n : Int) (wn : (Lit.int .u16 n).wf = true) (W : World) : Calls Try.prog 7 #[.int .u32 at_, .int .i64 width, .int .u16 n] W fun e w' => e = .returned (.bool true) ∧ Below W.heap.size W w' := by
  have ha := bounds_u32 wat
  obtain ⟨at_, rfl⟩ := Int.eq_ofNat_of_zero_le ha.1
  have hn := bounds_u16 wn
  obtain ⟨n, rfl⟩ := Int.eq_ofNat_of_zero_le hn.1
  have hw := bounds_i64 ww
  exact walkN at_ width n (by omega) (by omega) (by omega) W
theorem own : ownKnob Try.prog.godebug = none := by kernel_rfl
theorem laidOut : laidOutB Try.prog = true := by kernel_rfl
set_option maxRecDepth 100000 in
theorem lifted (os : Os) (started : os.Started) (H : Type) (enc : TypeId × Value → H) :
    ReturnsInHanded {} Try.checked os 7 .any (Rows.arenaEndsSpec.pre6 enc Try.prog Try.f7 Rows.arenaEndsRow.domain false) (Rows.arenaEndsSpec.post enc Try.prog Try.f7 false true false false) := by
  refine returnsInHanded_of_change (C := Try.checked) own started (by kernel_rfl) Try.func7
    (ChangeSpec.witness6 (enc := enc) (C := Try.checked) false ⟨#[], #[.int .u32 0, .int .i64 0, .int .u16 0], []⟩ 8 (by kernel_rfl) (by kernel_rfl) (by kernel_rfl) (by kernel_rfl)) ?_
  intro W base args ds gs before hval0 hW hcnd hsz
  have hval : ∀ (j : Nat) t v, Try.f7.params[j]? = some t → args[j]? = some v → Value.okWide Try.prog W .any base t v := hval0
  have hW' := hW
  obtain ⟨p, q, hA0, hV, rfl, hfz, hnd⟩ := hW
  have hA : DataW.TrodAll enc Try.prog W 0 (fun _ => true) true Try.f7.params.toList args.toList ds p := hA0
  rw [Try.params7] at hA hval
  obtain ⟨v0, vs0, d0, ds0, p0, q0, hargs, rfl, rfl, h0, r0⟩ := trodAll_cons hA
  obtain ⟨v1, vs1, d1, ds1, p1, q1, rfl, rfl, rfl, h1, r1⟩ := trodAll_cons r0
  obtain ⟨v2, vs2, d2, ds2, p2, q2, rfl, rfl, rfl, h2, r2⟩ := trodAll_cons r1
  obtain ⟨rfl, rfl, rfl⟩ := trodAll_nil r2
  obtain rfl : args = #[v0, v1, v2] := by cases args; simp_all
  obtain ⟨rfl, rfl⟩ := trodVars_none hV
  have k0 := h0
  have lt0 : ∀ x ∈ p0, x.block < W.heap.size := by obtain ⟨m, hm⟩ := k0; exact DataW.trod_lt m _ _ _ hm
  have k1 := h1
  have lt1 : ∀ x ∈ p1, x.block < W.heap.size := by obtain ⟨m, hm⟩ := k1; exact DataW.trod_lt m _ _ _ hm
  have k2 := h2
  have lt2 : ∀ x ∈ p2, x.block < W.heap.size := by obtain ⟨m, hm⟩ := k2; exact DataW.trod_lt m _ _ _ hm
  obtain ⟨na, rfl, rfl, rfl, wna⟩ := open_int Try.underlying22 (hval 0 22 v0 rfl rfl) h0
  obtain ⟨nw, rfl, rfl, rfl, wnw⟩ := open_int Try.underlying3 (hval 1 3 v1 rfl rfl) h1
  obtain ⟨nn, rfl, rfl, rfl, wnn⟩ := open_int Try.underlying23 (hval 2 23 v2 rfl rfl) h2
  clear hA0 hval0
  refine (walk na wna nw wnw nn wnn W).mono fun e W' ⟨he, bel⟩ => ?_
  subst he
  exact ⟨_, rfl, _, _, _, [], _, [], hW', trodAll_mk1 (shut_bool Try.underlying4 _), (trodAll_cons_mk (Below.trod laidOut (by kernel_rfl) (of_decide_eq_true (by kernel_rfl)) k0 bel lt0) (trodAll_cons_mk (Below.trod laidOut (by kernel_rfl) (of_decide_eq_true (by kernel_rfl)) k1 bel lt1) (trodAll_cons_mk (Below.trod laidOut (by kernel_rfl) (of_decide_eq_true (by kernel_rfl)) k2 bel lt2) trodAll_mk0))), rfl, bel.frame _, fun h => by cases h⟩
theorem over : Rows.arenaEndsRow.holds Try.pinned (OpenSpec.ofChange Rows.arenaEndsSpec) :=
  OpenClaim.holds_of_wide 7 Try.f7 rfl rfl rfl rfl rfl rfl rfl ⟨rfl, rfl, rfl, rfl, rfl⟩ rfl rfl rfl rfl rfl (by kernel_rfl) Try.func7 (by kernel_rfl)
    (of_decide_eq_true (by kernel_rfl)) (by unfold Func.isWrapper; first | (rw [if_pos (by decide +kernel)]; kernel_rfl) | (rw [if_neg (by decide +kernel)]; exact ⟨rfl, rfl⟩))
    (fun os started H enc _ => lifted os started H enc)
/-- The given statement. -/
theorem proved : Rows.ArenaEndsSaid := over
end Go.Proofs.Ytdidnipmbedbjaa.aends
