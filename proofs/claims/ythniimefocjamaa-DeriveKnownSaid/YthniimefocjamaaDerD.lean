/- Contracts of the questions that derive asks, and of retype. No statement is proved here. -/
import Derived.Test.YthniimefocjamaaDerC
namespace Go.Proofs.Ythniimefocjamaa
open Go.RowKit
set_option linter.unusedVariables false

theorem pExact1_any (bx bv : Nat) (cu e b t pm ty rs : Nat) (va : Bool) (sz : Nat) (l0 : cu < 4294967296) (l1 : e < 256) (l2 : b < 65536) (l3 : t < 65536) (l4 : pm < 65536) (l5 : ty < 65536) (l6 : rs < 4294967296) (lz : sz < 4294967296) (w : World) (H : CapAt w bx cu e b t pm ty rs va) (hv : w.cell? ⟨bv, 0, none⟩ = some (.int .u32 sz)) :
    Calls Try.prog 94 #[.pointer (some ⟨bx, 0, none⟩), .pointer (some ⟨bv, 0, none⟩)] w (BPost w (enX cu (cu + sz))) := by
  have hS := Lib.hid (fun w => pspan_any cu e b t pm ty rs va sz l0 l1 l2 l3 l4 l5 l6 lz w)
  have hE := Lib.hid (fun w => Encode_any cu (cu + sz) w l0 (by omega))
  generalize enE cu (cu + sz) = x at *
  generalize enB cu (cu + sz) = y at *
  generalize enT cu (cu + sz) = z at *
  generalize enX cu (cu + sz) = ex at *
  generalize may cu (cu + sz) = mm at *
  generalize ((cu + sz : Nat) : Int) = n at *
  obtain ⟨q0, q1, q2, q3, q4, q5, q6, q7⟩ := H
  go_enter Try.func94, Try.ntmps94
  go_wp2_with fail
  refine (hS.out _).mono ?_
  rintro ee w1 ⟨rfl, h1⟩
  have hb1 := Lib.hid h1
  clear h1 hS q0 q1 q2 q3 q4 q5 q6 q7 hv
  go_wp2_with fail
  refine (hE.out _).mono ?_
  rintro ee w2 ⟨rfl, h1⟩
  have hb2 := Lib.hid (hb1.out.trans (h1.mono hb1.out.size))
  clear h1 hE hb1
  go_wp2_with fail
  go_ret
  exact ⟨rfl, hb2.out⟩

/-- Is it an authority by the permission? -/
def auP (e b t cu pm kind perm : Nat) : Bool := decide (1 ≤ kind ∧ kind ≤ 4095 ∧ cu = kind ∧ ¬ pm &&& perm = 0) && hoP (deB e b t cu) (deT e b t cu) kind 1
theorem pAuth1_any (bk bx bp : Nat) (cu e b t pm ty rs : Nat) (va : Bool) (kind perm : Nat) (l0 : cu < 4294967296) (l1 : e < 256) (l2 : b < 65536) (l3 : t < 65536) (l4 : pm < 65536) (l5 : ty < 65536) (l6 : rs < 4294967296) (lk : kind < 4294967296) (lp : perm < 65536) (w : World) (H : CapAt w bx cu e b t pm ty rs va) (hk : w.cell? ⟨bk, 0, none⟩ = some (.int .u32 kind)) (hp : w.cell? ⟨bp, 0, none⟩ = some (.int .u16 perm)) :
    Calls Try.prog 96 #[.pointer (some ⟨bk, 0, none⟩), .pointer (some ⟨bx, 0, none⟩), .pointer (some ⟨bp, 0, none⟩)] w (BPost w (auP e b t cu pm kind perm)) := by
  have hH := Lib.hid (fun w => pHolds_any cu e b t pm ty rs va kind 1 l0 l1 l2 l3 l4 l5 l6 lk (by decide) w)
  have hand := u16_and_nat pm perm l4 lp
  have hP : auP e b t cu pm kind perm = (decide (1 ≤ kind ∧ kind ≤ 4095 ∧ cu = kind ∧ ¬ pm &&& perm = 0) && hoP (deB e b t cu) (deT e b t cu) kind 1) := rfl
  generalize auP e b t cu pm kind perm = P at *
  generalize hoP (deB e b t cu) (deT e b t cu) kind 1 = ho at *
  generalize pm &&& perm = k at *
  obtain ⟨q0, q1, q2, q3, q4, q5, q6, q7⟩ := H
  by_cases c1 : (1 : Int) ≤ kind
  · by_cases c2 : (kind : Int) ≤ 4095
    · by_cases c3 : (cu : Int) = kind
      · by_cases c4 : (k : Int) = 0
        · have hF : P = false := by rw [hP]; simp; omega
          replace hF := Lib.hid hF
          clear hP
          go_enter Try.func96, Try.ntmps96
          go_wp2
          go_ret
          exact ⟨ret_bool hF.out.symm, by go_grown⟩
        · have hF : P = ho := by rw [hP, decide_eq_true (by omega)]; rfl
          have c3' : ((cu : Int) == kind) = true := by rw [c3]; simp
          have c4' : ((k : Int) != 0) = true := by simpa using c4
          replace hF := Lib.hid hF
          clear hP c3 c4
          go_enter Try.func96, Try.ntmps96
          go_wp2_with fail
          refine (hH.out _).mono ?_
          rintro ee w1 ⟨rfl, h1⟩
          replace h1 := Lib.hid h1
          clear q0 q1 q2 q3 q4 q5 q6 q7 hk hp
          go_wp2_with fail
          go_ret
          exact ⟨ret_bool hF.out.symm, h1.out⟩
      · have hF : P = false := by rw [hP]; simp; omega
        replace hF := Lib.hid hF
        clear hP
        go_enter Try.func96, Try.ntmps96
        go_wp2
        go_ret
        exact ⟨ret_bool hF.out.symm, by go_grown⟩
    · have hF : P = false := by rw [hP]; simp; omega
      replace hF := Lib.hid hF
      clear hP
      go_enter Try.func96, Try.ntmps96
      go_wp2
      go_ret
      exact ⟨ret_bool hF.out.symm, by go_grown⟩
  · have hF : P = false := by rw [hP]; simp; omega
    replace hF := Lib.hid hF
    clear hP
    go_enter Try.func96, Try.ntmps96
    go_wp2
    go_ret
    exact ⟨ret_bool hF.out.symm, by go_grown⟩

theorem pAddr1_any (bx bv : Nat) (cu e b t pm ty rs : Nat) (va : Bool) (to_ : Nat) (l0 : cu < 4294967296) (l1 : e < 256) (l2 : b < 65536) (l3 : t < 65536) (l4 : pm < 65536) (l5 : ty < 65536) (l6 : rs < 4294967296) (lt : to_ < 4294967296) (w : World) (H : CapAt w bx cu e b t pm ty rs va) (hv : w.cell? ⟨bv, 0, none⟩ = some (.int .u32 to_)) :
    Calls Try.prog 53 #[.pointer (some ⟨bx, 0, none⟩), .pointer (some ⟨bv, 0, none⟩)] w (BPost w (kp e b t cu to_)) := by
  have hS := Lib.hid (fun w => Keeps_any e b t cu to_ w l0 lt)
  generalize kp e b t cu to_ = z at *
  obtain ⟨q0, q1, q2, q3, q4, q5, q6, q7⟩ := H
  go_enter Try.func53, Try.ntmps53
  go_wp2_with fail
  refine (hS.out _).mono ?_
  rintro ee w1 ⟨rfl, h1⟩
  replace h1 := Lib.hid h1
  clear q0 q1 q2 q3 q4 q5 q6 q7 hv
  go_wp2_with fail
  go_ret
  exact ⟨rfl, h1.out⟩

theorem pOpenQ_any (bx : Nat) (cu e b t pm ty rs : Nat) (va : Bool) (w : World) (H : CapAt w bx cu e b t pm ty rs va) :
    Calls Try.prog 72 #[.pointer (some ⟨bx, 0, none⟩)] w (BPost w (va && !decide (ty = 0))) := by
  obtain ⟨q0, q1, q2, q3, q4, q5, q6, q7⟩ := H
  cases va
  · go_enter Try.func72, Try.ntmps72
    go_wp2
    go_ret
    exact ⟨rfl, by go_grown⟩
  · go_enter Try.func72, Try.ntmps72
    go_wp2
    go_ret
    refine ⟨ret_bool ?_, by go_grown⟩
    rw [Bool.eq_iff_iff]; simp

/-- May the bits be made valid? -/
def buP (e b t pm ty rs : Nat) (z : Bool) : Bool := sndP e b t pm ty rs && decide (ty = 0) && z
theorem pBuild1_any (bx by_ : Nat) (cu e b t pm ty rs : Nat) (va : Bool) (cu' e' b' t' pm' ty' rs' : Nat) (va' : Bool) (l0 : cu < 4294967296) (l1 : e < 256) (l2 : b < 65536) (l3 : t < 65536) (l4 : pm < 65536) (l5 : ty < 65536) (l6 : rs < 4294967296) (l0' : cu' < 4294967296) (l1' : e' < 256) (l2' : b' < 65536) (l3' : t' < 65536) (l4' : pm' < 65536) (l5' : ty' < 65536) (l6' : rs' < 4294967296) (w : World) (H : CapAt w bx cu e b t pm ty rs va) (H' : CapAt w by_ cu' e' b' t' pm' ty' rs' va') (hx : bx < w.heap.size) (hy : by_ < w.heap.size) :
    Calls Try.prog 73 #[.pointer (some ⟨bx, 0, none⟩), .pointer (some ⟨by_, 0, none⟩)] w (BPost w (buP e b t pm ty rs (wiP pm pm' (deB e b t cu) (deT e b t cu) (deB e' b' t' cu') (deT e' b' t' cu')))) := by
  have hS := Lib.hid (fun w => pSound_any cu e b t pm ty rs va l0 l1 l2 l3 l4 l5 l6 w)
  have hW := Lib.hid (fun w => pWithin_any cu e b t pm ty rs va cu' e' b' t' pm' ty' rs' va' l0 l1 l2 l3 l4 l5 l6 l0' l1' l2' l3' l4' l5' l6' w)
  generalize wiP pm pm' (deB e b t cu) (deT e b t cu) (deB e' b' t' cu') (deT e' b' t' cu') = z at *
  have hP : buP e b t pm ty rs z = (sndP e b t pm ty rs && decide (ty = 0) && z) := rfl
  generalize buP e b t pm ty rs z = P at *
  generalize sndP e b t pm ty rs = s at *
  have H0 := Lib.hid H
  have H0' := Lib.hid H'
  clear H'
  obtain ⟨q0, q1, q2, q3, q4, q5, q6, q7⟩ := H
  by_cases c : s = true ∧ (ty : Int) = 0
  · obtain ⟨rfl, c⟩ := c
    have hF : P = z := by rw [hP, decide_eq_true (show ty = 0 by omega)]; rfl
    have c' : ((ty : Int) == 0) = true := by rw [c]; rfl
    replace hF := Lib.hid hF
    clear hP c
    go_enter Try.func73, Try.ntmps73
    go_wp2_with fail
    refine (hS.out _).mono ?_
    rintro ee w1 ⟨rfl, h1⟩
    obtain ⟨p0, p1, p2, p3, p4, p5, p6, p7⟩ := H0.out.below h1 hx
    obtain ⟨r0, r1, r2, r3, r4, r5, r6, r7⟩ := H0'.out.below h1 hy
    replace h1 := Lib.hid h1
    clear q0 q1 q2 q3 q4 q5 q6 q7 hS H0 H0'
    go_wp2_with fail
    refine (hW.out _).mono ?_
    rintro ee w2 ⟨rfl, h2⟩
    replace h2 := Lib.hid (h1.out.trans (h2.mono h1.out.size))
    clear p0 p1 p2 p3 p4 p5 p6 p7 r0 r1 r2 r3 r4 r5 r6 r7 h1 hW
    go_wp2_with fail
    go_ret
    exact ⟨ret_bool hF.out.symm, h2.out⟩
  · have hF : P = false := by
      rw [hP]
      cases s
      · rfl
      · rw [decide_eq_false (fun h => c ⟨rfl, by omega⟩)]; rfl
    replace hF := Lib.hid hF
    clear hP
    cases s
    · go_enter Try.func73, Try.ntmps73
      go_wp2_with fail
      refine (hS.out _).mono ?_
      rintro ee w1 ⟨rfl, h1⟩
      replace h1 := Lib.hid h1
      clear q0 q1 q2 q3 q4 q5 q6 q7 hS H0 H0'
      go_wp2_with fail
      go_ret
      exact ⟨ret_bool hF.out.symm, h1.out⟩
    · have c2 : ¬ (ty : Int) = 0 := fun h => c ⟨rfl, h⟩
      clear c
      go_enter Try.func73, Try.ntmps73
      go_wp2_with fail
      refine (hS.out _).mono ?_
      rintro ee w1 ⟨rfl, h1⟩
      obtain ⟨p0, p1, p2, p3, p4, p5, p6, p7⟩ := H0.out.below h1 hx
      replace h1 := Lib.hid h1
      clear q0 q1 q2 q3 q4 q5 q6 q7 hS H0 H0'
      go_wp2_with fail
      go_ret
      exact ⟨ret_bool hF.out.symm, h1.out⟩

/-- Three boxes. -/
theorem pHolds_make (cu e b t pm ty rs : Nat) (va : Bool) (sz : Nat) (l0 : cu < 4294967296) (l1 : e < 256) (l2 : b < 65536) (l3 : t < 65536) (l4 : pm < 65536) (l5 : ty < 65536) (l6 : rs < 4294967296) (lz : sz < 4294967296) (W : World) : Calls Try.prog 66 #[.agg #[.int .u32 cu, .int .u8 e, .int .u16 b, .int .u16 t, .int .u16 pm, .int .u16 ty, .int .u32 rs, .bool va], .int .u32 sz] W (QPost W (hdP e b t cu sz)) := by
  have hk := ((KR.start (W := W)).push (cv cu e b t pm ty rs va) 25).push [.int .u32 sz] 22
  rw [World.size_alloc] at hk
  have hQ : Ques ((W.alloc (.cells #[.int .u32 cu, .int .u8 e, .int .u16 b, .int .u16 t, .int .u16 pm, .int .u16 ty, .int .u32 rs, .bool va] 25)).alloc (.cells #[.int .u32 sz] 22)) (.func (.func 89) #[] #[.pointer (some ⟨W.heap.size, 0, none⟩), .pointer (some ⟨W.heap.size + 1, 0, none⟩)]) (hdP e b t cu sz) :=
    ⟨_, _, rfl, fun w' => by kernel_rfl, fun w' k => pHolds1_any _ _ cu e b t pm ty rs va sz l0 l1 l2 l3 l4 l5 l6 lz w' ((hk.below k).cap (by simp)) ((hk.below k).cell [.int .u32 sz] (by simp) rfl) ((hk.below k).lt (vs := cv cu e b t pm ty rs va) (by simp))⟩
  replace hQ := Lib.hid hQ
  clear hk
  go_enter Try.func66, Try.ntmps66
  go_wp2_with fail
  go_ret
  exact ⟨_, rfl, hQ.out, by go_grown⟩
theorem pExact_make (cu e b t pm ty rs : Nat) (va : Bool) (sz : Nat) (l0 : cu < 4294967296) (l1 : e < 256) (l2 : b < 65536) (l3 : t < 65536) (l4 : pm < 65536) (l5 : ty < 65536) (l6 : rs < 4294967296) (lz : sz < 4294967296) (W : World) : Calls Try.prog 68 #[.agg #[.int .u32 cu, .int .u8 e, .int .u16 b, .int .u16 t, .int .u16 pm, .int .u16 ty, .int .u32 rs, .bool va], .int .u32 sz] W (QPost W (enX cu (cu + sz))) := by
  have hk := ((KR.start (W := W)).push (cv cu e b t pm ty rs va) 25).push [.int .u32 sz] 22
  rw [World.size_alloc] at hk
  have hQ : Ques ((W.alloc (.cells #[.int .u32 cu, .int .u8 e, .int .u16 b, .int .u16 t, .int .u16 pm, .int .u16 ty, .int .u32 rs, .bool va] 25)).alloc (.cells #[.int .u32 sz] 22)) (.func (.func 94) #[] #[.pointer (some ⟨W.heap.size, 0, none⟩), .pointer (some ⟨W.heap.size + 1, 0, none⟩)]) (enX cu (cu + sz)) :=
    ⟨_, _, rfl, fun w' => by kernel_rfl, fun w' k => pExact1_any _ _ cu e b t pm ty rs va sz l0 l1 l2 l3 l4 l5 l6 lz w' ((hk.below k).cap (by simp)) ((hk.below k).cell [.int .u32 sz] (by simp) rfl)⟩
  replace hQ := Lib.hid hQ
  clear hk
  go_enter Try.func68, Try.ntmps68
  go_wp2_with fail
  go_ret
  exact ⟨_, rfl, hQ.out, by go_grown⟩
end Go.Proofs.Ythniimefocjamaa
