/- Contracts of the questions that derive asks, and of retype. No statement is proved here.; Contracts of derive's authority and retype; questions gathered. No statement is proved here.; Contract of derive's Addr. No statement is proved here. -/
import Derived.Deep.RegionHeld3
import Derived.Test.YtkmgdfcambdeeaaGreatDoorPal
namespace Go.Proofs.YtkmgdfcambdeeaaGreatDoor
open Go.RowKit
set_option linter.unusedVariables false

theorem pExact1_any (bx bv : Nat) (cu e b t pm ty rs : Nat) (va : Bool) (sz : Nat) (l0 : cu < 4294967296) (l1 : e < 256) (l2 : b < 65536) (l3 : t < 65536) (l4 : pm < 65536) (l5 : ty < 65536) (l6 : rs < 4294967296) (lz : sz < 4294967296) (w : World) (H : CapAt w bx cu e b t pm ty rs va) (hv : w.cell? ⟨bv, 0, none⟩ = some (.int .u32 sz)) :
    Calls Tryz.prog 214 #[.pointer (some ⟨bx, 0, none⟩), .pointer (some ⟨bv, 0, none⟩)] w (BPost w (enX cu (cu + sz))) := by
  have hS := Lib.hid (fun w => pspan_any cu e b t pm ty rs va sz l0 l1 l2 l3 l4 l5 l6 lz w)
  have hE := Lib.hid (fun w => Encode_any cu (cu + sz) w l0 (by omega))
  generalize enE cu (cu + sz) = x at *
  generalize enB cu (cu + sz) = y at *
  generalize enT cu (cu + sz) = z at *
  generalize enX cu (cu + sz) = ex at *
  generalize may cu (cu + sz) = mm at *
  generalize ((cu + sz : Nat) : Int) = n at *
  obtain ⟨q0, q1, q2, q3, q4, q5, q6, q7⟩ := H
  go_enter Tryz.func214, Tryz.ntmps214
  go_wp2_with fail
  refine (hS.out _).mono ?_
  rintro ee w1 ⟨rfl, h1⟩
  have hb1 := Lib.hid h1
  clear h1 hS q0 q1 q2 q3 q4 q5 q6 q7 hv
  go_wp2_with fail
  refine (hE.out _).mono ?_
  rintro ee w2 ⟨rfl, h1⟩
  have hb2 := Lib.hid (hb1.out.trans (h1.mono hb1.out.size))
  clear h1 hE hb1
  go_wp2_with fail
  go_ret
  exact ⟨rfl, hb2.out⟩

/-- Is it an authority by the permission? -/
def auP (e b t cu pm kind perm : Nat) : Bool := decide (1 ≤ kind ∧ kind ≤ 4095 ∧ cu = kind ∧ ¬ pm &&& perm = 0) && hoP (deB e b t cu) (deT e b t cu) kind 1
theorem pAuth1_any (bk bx bp : Nat) (cu e b t pm ty rs : Nat) (va : Bool) (kind perm : Nat) (l0 : cu < 4294967296) (l1 : e < 256) (l2 : b < 65536) (l3 : t < 65536) (l4 : pm < 65536) (l5 : ty < 65536) (l6 : rs < 4294967296) (lk : kind < 4294967296) (lp : perm < 65536) (w : World) (H : CapAt w bx cu e b t pm ty rs va) (hk : w.cell? ⟨bk, 0, none⟩ = some (.int .u32 kind)) (hp : w.cell? ⟨bp, 0, none⟩ = some (.int .u16 perm)) :
    Calls Tryz.prog 216 #[.pointer (some ⟨bk, 0, none⟩), .pointer (some ⟨bx, 0, none⟩), .pointer (some ⟨bp, 0, none⟩)] w (BPost w (auP e b t cu pm kind perm)) := by
  have hH := Lib.hid (fun w => pHolds_any cu e b t pm ty rs va kind 1 l0 l1 l2 l3 l4 l5 l6 lk (by decide) w)
  have hand := u16_and_nat pm perm l4 lp
  have hP : auP e b t cu pm kind perm = (decide (1 ≤ kind ∧ kind ≤ 4095 ∧ cu = kind ∧ ¬ pm &&& perm = 0) && hoP (deB e b t cu) (deT e b t cu) kind 1) := rfl
  generalize auP e b t cu pm kind perm = P at *
  generalize hoP (deB e b t cu) (deT e b t cu) kind 1 = ho at *
  generalize pm &&& perm = k at *
  obtain ⟨q0, q1, q2, q3, q4, q5, q6, q7⟩ := H
  by_cases c1 : (1 : Int) ≤ kind
  · by_cases c2 : (kind : Int) ≤ 4095
    · by_cases c3 : (cu : Int) = kind
      · by_cases c4 : (k : Int) = 0
        · have hF : P = false := by rw [hP]; simp; omega
          replace hF := Lib.hid hF
          clear hP
          go_enter Tryz.func216, Tryz.ntmps216
          go_wp2
          go_ret
          exact ⟨ret_bool hF.out.symm, by go_grown⟩
        · have hF : P = ho := by rw [hP, decide_eq_true (by omega)]; rfl
          have c3' : ((cu : Int) == kind) = true := by rw [c3]; simp
          have c4' : ((k : Int) != 0) = true := by simpa using c4
          replace hF := Lib.hid hF
          clear hP c3 c4
          go_enter Tryz.func216, Tryz.ntmps216
          go_wp2_with fail
          refine (hH.out _).mono ?_
          rintro ee w1 ⟨rfl, h1⟩
          replace h1 := Lib.hid h1
          clear q0 q1 q2 q3 q4 q5 q6 q7 hk hp
          go_wp2_with fail
          go_ret
          exact ⟨ret_bool hF.out.symm, h1.out⟩
      · have hF : P = false := by rw [hP]; simp; omega
        replace hF := Lib.hid hF
        clear hP
        go_enter Tryz.func216, Tryz.ntmps216
        go_wp2
        go_ret
        exact ⟨ret_bool hF.out.symm, by go_grown⟩
    · have hF : P = false := by rw [hP]; simp; omega
      replace hF := Lib.hid hF
      clear hP
      go_enter Tryz.func216, Tryz.ntmps216
      go_wp2
      go_ret
      exact ⟨ret_bool hF.out.symm, by go_grown⟩
  · have hF : P = false := by rw [hP]; simp; omega
    replace hF := Lib.hid hF
    clear hP
    go_enter Tryz.func216, Tryz.ntmps216
    go_wp2
    go_ret
    exact ⟨ret_bool hF.out.symm, by go_grown⟩

theorem pAddr1_any (bx bv : Nat) (cu e b t pm ty rs : Nat) (va : Bool) (to_ : Nat) (l0 : cu < 4294967296) (l1 : e < 256) (l2 : b < 65536) (l3 : t < 65536) (l4 : pm < 65536) (l5 : ty < 65536) (l6 : rs < 4294967296) (lt : to_ < 4294967296) (w : World) (H : CapAt w bx cu e b t pm ty rs va) (hv : w.cell? ⟨bv, 0, none⟩ = some (.int .u32 to_)) :
    Calls Tryz.prog 137 #[.pointer (some ⟨bx, 0, none⟩), .pointer (some ⟨bv, 0, none⟩)] w (BPost w (kp e b t cu to_)) := by
  have hS := Lib.hid (fun w => Keeps_any e b t cu to_ w l0 lt)
  generalize kp e b t cu to_ = z at *
  obtain ⟨q0, q1, q2, q3, q4, q5, q6, q7⟩ := H
  go_enter Tryz.func137, Tryz.ntmps137
  go_wp2_with fail
  refine (hS.out _).mono ?_
  rintro ee w1 ⟨rfl, h1⟩
  replace h1 := Lib.hid h1
  clear q0 q1 q2 q3 q4 q5 q6 q7 hv
  go_wp2_with fail
  go_ret
  exact ⟨rfl, h1.out⟩

theorem pOpenQ_any (bx : Nat) (cu e b t pm ty rs : Nat) (va : Bool) (w : World) (H : CapAt w bx cu e b t pm ty rs va) :
    Calls Tryz.prog 197 #[.pointer (some ⟨bx, 0, none⟩)] w (BPost w (va && !decide (ty = 0))) := by
  obtain ⟨q0, q1, q2, q3, q4, q5, q6, q7⟩ := H
  cases va
  · go_enter Tryz.func197, Tryz.ntmps197
    go_wp2
    go_ret
    exact ⟨rfl, by go_grown⟩
  · go_enter Tryz.func197, Tryz.ntmps197
    go_wp2
    go_ret
    refine ⟨ret_bool ?_, by go_grown⟩
    rw [Bool.eq_iff_iff]; simp

/-- May the bits be made valid? -/
def buP (e b t pm ty rs : Nat) (z : Bool) : Bool := sndP e b t pm ty rs && decide (ty = 0) && z
theorem pBuild1_any (bx by_ : Nat) (cu e b t pm ty rs : Nat) (va : Bool) (cu' e' b' t' pm' ty' rs' : Nat) (va' : Bool) (l0 : cu < 4294967296) (l1 : e < 256) (l2 : b < 65536) (l3 : t < 65536) (l4 : pm < 65536) (l5 : ty < 65536) (l6 : rs < 4294967296) (l0' : cu' < 4294967296) (l1' : e' < 256) (l2' : b' < 65536) (l3' : t' < 65536) (l4' : pm' < 65536) (l5' : ty' < 65536) (l6' : rs' < 4294967296) (w : World) (H : CapAt w bx cu e b t pm ty rs va) (H' : CapAt w by_ cu' e' b' t' pm' ty' rs' va') (hx : bx < w.heap.size) (hy : by_ < w.heap.size) :
    Calls Tryz.prog 198 #[.pointer (some ⟨bx, 0, none⟩), .pointer (some ⟨by_, 0, none⟩)] w (BPost w (buP e b t pm ty rs (wiP pm pm' (deB e b t cu) (deT e b t cu) (deB e' b' t' cu') (deT e' b' t' cu')))) := by
  have hS := Lib.hid (fun w => pSound_any cu e b t pm ty rs va l0 l1 l2 l3 l4 l5 l6 w)
  have hW := Lib.hid (fun w => pWithin_any cu e b t pm ty rs va cu' e' b' t' pm' ty' rs' va' l0 l1 l2 l3 l4 l5 l6 l0' l1' l2' l3' l4' l5' l6' w)
  generalize wiP pm pm' (deB e b t cu) (deT e b t cu) (deB e' b' t' cu') (deT e' b' t' cu') = z at *
  have hP : buP e b t pm ty rs z = (sndP e b t pm ty rs && decide (ty = 0) && z) := rfl
  generalize buP e b t pm ty rs z = P at *
  generalize sndP e b t pm ty rs = s at *
  have H0 := Lib.hid H
  have H0' := Lib.hid H'
  clear H'
  obtain ⟨q0, q1, q2, q3, q4, q5, q6, q7⟩ := H
  by_cases c : s = true ∧ (ty : Int) = 0
  · obtain ⟨rfl, c⟩ := c
    have hF : P = z := by rw [hP, decide_eq_true (show ty = 0 by omega)]; rfl
    have c' : ((ty : Int) == 0) = true := by rw [c]; rfl
    replace hF := Lib.hid hF
    clear hP c
    go_enter Tryz.func198, Tryz.ntmps198
    go_wp2_with fail
    refine (hS.out _).mono ?_
    rintro ee w1 ⟨rfl, h1⟩
    obtain ⟨p0, p1, p2, p3, p4, p5, p6, p7⟩ := H0.out.below h1 hx
    obtain ⟨r0, r1, r2, r3, r4, r5, r6, r7⟩ := H0'.out.below h1 hy
    replace h1 := Lib.hid h1
    clear q0 q1 q2 q3 q4 q5 q6 q7 hS H0 H0'
    go_wp2_with fail
    refine (hW.out _).mono ?_
    rintro ee w2 ⟨rfl, h2⟩
    replace h2 := Lib.hid (h1.out.trans (h2.mono h1.out.size))
    clear p0 p1 p2 p3 p4 p5 p6 p7 r0 r1 r2 r3 r4 r5 r6 r7 h1 hW
    go_wp2_with fail
    go_ret
    exact ⟨ret_bool hF.out.symm, h2.out⟩
  · have hF : P = false := by
      rw [hP]
      cases s
      · rfl
      · rw [decide_eq_false (fun h => c ⟨rfl, by omega⟩)]; rfl
    replace hF := Lib.hid hF
    clear hP
    cases s
    · go_enter Tryz.func198, Tryz.ntmps198
      go_wp2_with fail
      refine (hS.out _).mono ?_
      rintro ee w1 ⟨rfl, h1⟩
      replace h1 := Lib.hid h1
      clear q0 q1 q2 q3 q4 q5 q6 q7 hS H0 H0'
      go_wp2_with fail
      go_ret
      exact ⟨ret_bool hF.out.symm, h1.out⟩
    · have c2 : ¬ (ty : Int) = 0 := fun h => c ⟨rfl, h⟩
      clear c
      go_enter Tryz.func198, Tryz.ntmps198
      go_wp2_with fail
      refine (hS.out _).mono ?_
      rintro ee w1 ⟨rfl, h1⟩
      obtain ⟨p0, p1, p2, p3, p4, p5, p6, p7⟩ := H0.out.below h1 hx
      replace h1 := Lib.hid h1
      clear q0 q1 q2 q3 q4 q5 q6 q7 hS H0 H0'
      go_wp2_with fail
      go_ret
      exact ⟨ret_bool hF.out.symm, h1.out⟩

/-- Three boxes. -/
theorem pHolds_make (cu e b t pm ty rs : Nat) (va : Bool) (sz : Nat) (l0 : cu < 4294967296) (l1 : e < 256) (l2 : b < 65536) (l3 : t < 65536) (l4 : pm < 65536) (l5 : ty < 65536) (l6 : rs < 4294967296) (lz : sz < 4294967296) (W : World) : Calls Tryz.prog 192 #[.agg #[.int .u32 cu, .int .u8 e, .int .u16 b, .int .u16 t, .int .u16 pm, .int .u16 ty, .int .u32 rs, .bool va], .int .u32 sz] W (QPost W (hdP e b t cu sz)) := by
  have hk := ((KR.start (W := W)).push (cv cu e b t pm ty rs va) 25).push [.int .u32 sz] 22
  rw [World.size_alloc] at hk
  have hQ : Ques ((W.alloc (.cells #[.int .u32 cu, .int .u8 e, .int .u16 b, .int .u16 t, .int .u16 pm, .int .u16 ty, .int .u32 rs, .bool va] 25)).alloc (.cells #[.int .u32 sz] 22)) (.func (.func 212) #[] #[.pointer (some ⟨W.heap.size, 0, none⟩), .pointer (some ⟨W.heap.size + 1, 0, none⟩)]) (hdP e b t cu sz) :=
    ⟨_, _, rfl, fun w' => by kernel_rfl, fun w' k => pHolds1_any _ _ cu e b t pm ty rs va sz l0 l1 l2 l3 l4 l5 l6 lz w' ((hk.below k).cap (by simp)) ((hk.below k).cell [.int .u32 sz] (by simp) rfl) ((hk.below k).lt (vs := cv cu e b t pm ty rs va) (by simp))⟩
  replace hQ := Lib.hid hQ
  clear hk
  go_enter Tryz.func192, Tryz.ntmps192
  go_wp2_with fail
  go_ret
  exact ⟨_, rfl, hQ.out, by go_grown⟩
theorem pExact_make (cu e b t pm ty rs : Nat) (va : Bool) (sz : Nat) (l0 : cu < 4294967296) (l1 : e < 256) (l2 : b < 65536) (l3 : t < 65536) (l4 : pm < 65536) (l5 : ty < 65536) (l6 : rs < 4294967296) (lz : sz < 4294967296) (W : World) : Calls Tryz.prog 193 #[.agg #[.int .u32 cu, .int .u8 e, .int .u16 b, .int .u16 t, .int .u16 pm, .int .u16 ty, .int .u32 rs, .bool va], .int .u32 sz] W (QPost W (enX cu (cu + sz))) := by
  have hk := ((KR.start (W := W)).push (cv cu e b t pm ty rs va) 25).push [.int .u32 sz] 22
  rw [World.size_alloc] at hk
  have hQ : Ques ((W.alloc (.cells #[.int .u32 cu, .int .u8 e, .int .u16 b, .int .u16 t, .int .u16 pm, .int .u16 ty, .int .u32 rs, .bool va] 25)).alloc (.cells #[.int .u32 sz] 22)) (.func (.func 214) #[] #[.pointer (some ⟨W.heap.size, 0, none⟩), .pointer (some ⟨W.heap.size + 1, 0, none⟩)]) (enX cu (cu + sz)) :=
    ⟨_, _, rfl, fun w' => by kernel_rfl, fun w' k => pExact1_any _ _ cu e b t pm ty rs va sz l0 l1 l2 l3 l4 l5 l6 lz w' ((hk.below k).cap (by simp)) ((hk.below k).cell [.int .u32 sz] (by simp) rfl)⟩
  replace hQ := Lib.hid hQ
  clear hk
  go_enter Tryz.func193, Tryz.ntmps193
  go_wp2_with fail
  go_ret
  exact ⟨_, rfl, hQ.out, by go_grown⟩
end Go.Proofs.YtkmgdfcambdeeaaGreatDoor
namespace Go.Proofs.YtkmgdfcambdeeaaGreatDoor
open Go.RowKit
set_option linter.unusedVariables false

theorem Ques.fn {w : World} {v : Value} {b : Bool} (h : Ques w v b) : ∃ f caps, v = .func (.func f) #[] caps := let ⟨f, caps, e, _⟩ := h; ⟨f, caps, e⟩
theorem QsAt.two {w : World} {u v : Value} {a b : Bool} (h : Ques w u a) (k : Ques w v b) (ty : TypeId) : QsAt (w.alloc (.cells #[u, v] ty)) w.heap.size [(u, a), (v, b)] := fun j p hp => by
  have bl := (Below.refl w.heap.size w).alloc (Nat.le_refl _) (.cells #[u, v] ty)
  have hj : j < 2 := by simpa using (List.getElem?_eq_some_iff.1 hp).1
  have : j = 0 ∨ j = 1 := by omega
  rcases this with rfl | rfl <;> (simp at hp; subst hp; refine ⟨?_, ?_⟩)
  · rw [World.cell?_alloc_at (hn := rfl)]; rfl
  · exact h.below bl
  · rw [World.cell?_alloc_at (hn := rfl)]; rfl
  · exact k.below bl
theorem QsAt.three {w : World} {u v x : Value} {a b c : Bool} (h : Ques w u a) (k : Ques w v b) (m : Ques w x c) (ty : TypeId) : QsAt (w.alloc (.cells #[u, v, x] ty)) w.heap.size [(u, a), (v, b), (x, c)] := fun j p hp => by
  have bl := (Below.refl w.heap.size w).alloc (Nat.le_refl _) (.cells #[u, v, x] ty)
  have hj : j < 3 := by simpa using (List.getElem?_eq_some_iff.1 hp).1
  have : j = 0 ∨ j = 1 ∨ j = 2 := by omega
  rcases this with rfl | rfl | rfl <;> (simp at hp; subst hp; refine ⟨?_, ?_⟩)
  · rw [World.cell?_alloc_at (hn := rfl)]; rfl
  · exact h.below bl
  · rw [World.cell?_alloc_at (hn := rfl)]; rfl
  · exact k.below bl
  · rw [World.cell?_alloc_at (hn := rfl)]; rfl
  · exact m.below bl
theorem pAll2_any {w : World} {u v : Value} {a b : Bool} (h : Ques w u a) (k : Ques w v b) (ty : TypeId) :
    Calls Tryz.prog 141 #[.slice (some ⟨w.heap.size, 0, none⟩) 2 2] (w.alloc (.cells #[u, v] ty)) (QPost (w.alloc (.cells #[u, v] ty)) (a && b)) := by
  have := pAll_any w.heap.size [(u, a), (v, b)] (w.alloc (.cells #[u, v] ty)) (by simp) (by simp) (QsAt.two h k ty)
  simpa using this
theorem pAll3_any {w : World} {u v x : Value} {a b c : Bool} (h : Ques w u a) (k : Ques w v b) (m : Ques w x c) (ty : TypeId) :
    Calls Tryz.prog 141 #[.slice (some ⟨w.heap.size, 0, none⟩) 3 3] (w.alloc (.cells #[u, v, x] ty)) (QPost (w.alloc (.cells #[u, v, x] ty)) (a && (b && c))) := by
  have := pAll_any w.heap.size [(u, a), (v, b), (x, c)] (w.alloc (.cells #[u, v, x] ty)) (by simp) (by simp) (QsAt.three h k m ty)
  simpa using this

theorem pauthority_any (cu e b t pm ty rs : Nat) (va : Bool) (kind perm : Nat) (l0 : cu < 4294967296) (l1 : e < 256) (l2 : b < 65536) (l3 : t < 65536) (l4 : pm < 65536) (l5 : ty < 65536) (l6 : rs < 4294967296) (lk : kind < 4294967296) (lp : perm < 65536) (W : World) :
    Calls Tryz.prog 196 #[.agg #[.int .u32 cu, .int .u8 e, .int .u16 b, .int .u16 t, .int .u16 pm, .int .u16 ty, .int .u32 rs, .bool va], .int .u32 kind, .int .u16 perm] W (QPost W (va && decide (ty = 0) && auP e b t cu pm kind perm)) := by
  have hk := (((KR.start (W := W)).push (cv cu e b t pm ty rs va) 25).push [.int .u32 kind] 22).push [.int .u16 perm] 23
  rw [World.size_alloc, World.size_alloc] at hk
  have hQ : Ques (((W.alloc (.cells #[.int .u32 cu, .int .u8 e, .int .u16 b, .int .u16 t, .int .u16 pm, .int .u16 ty, .int .u32 rs, .bool va] 25)).alloc (.cells #[.int .u32 kind] 22)).alloc (.cells #[.int .u16 perm] 23)) (.func (.func 216) #[] #[.pointer (some ⟨W.heap.size + 1, 0, none⟩), .pointer (some ⟨W.heap.size, 0, none⟩), .pointer (some ⟨W.heap.size + 1 + 1, 0, none⟩)]) (auP e b t cu pm kind perm) :=
    ⟨_, _, rfl, fun w' => by kernel_rfl, fun w' k => pAuth1_any _ _ _ cu e b t pm ty rs va kind perm l0 l1 l2 l3 l4 l5 l6 lk lp w' ((hk.below k).cap (by simp)) ((hk.below k).cell [.int .u32 kind] (by simp) rfl) ((hk.below k).cell [.int .u16 perm] (by simp) rfl)⟩
  have hO := Lib.hid (fun w => pOpen_any cu e b t pm ty rs va w)
  generalize auP e b t cu pm kind perm = P at *
  generalize (va && decide (ty = 0)) = q at *
  replace hQ := Lib.hid hQ
  replace hk := Lib.hid hk.bl
  go_enter Tryz.func196, Tryz.ntmps196
  go_wp2_with fail
  refine (hO.out _).mono ?_
  rintro ee w1 ⟨v1, rfl, hq, h1⟩
  have hq2 := Lib.hid (hQ.out.below h1)
  obtain ⟨f1, c1, rfl⟩ := hq.fn
  have hb1 := Lib.hid (hk.out.trans (h1.mono hk.out.size))
  replace hq := Lib.hid hq
  clear h1 hO hQ hk
  go_wp2_with fail
  refine (pAll2_any hq.out hq2.out _).mono ?_
  rintro ee w2 ⟨v2, rfl, hq3, h2⟩
  have hb2 := Lib.hid ((hb1.out.alloc hb1.out.size _).trans (h2.mono (by have := hb1.out.size; simp; omega)))
  replace hq3 := Lib.hid hq3
  clear h2 hb1 hq hq2
  go_wp2_with fail
  go_ret
  exact ⟨_, rfl, hq3.out, hb2.out⟩

theorem pretype_no (cu e b t pm ty rs : Nat) (va : Bool) (kind : Nat) (q : Value) (W : World) (hq : Ques W q false) :
    Calls Tryz.prog 195 #[.agg #[.int .u32 cu, .int .u8 e, .int .u16 b, .int .u16 t, .int .u16 pm, .int .u16 ty, .int .u32 rs, .bool va], .int .u32 kind, q] W fun ee w' => ee = .returned (.agg #[.int .u32 cu, .int .u8 e, .int .u16 b, .int .u16 t, .int .u16 pm, .int .u16 ty, .int .u32 rs, .bool false]) ∧ Below W.heap.size W w' := by
  have hk := twoBoxes W cu e b t pm ty rs va 25 0 0 0 0 0 0 0 false 25
  have hM := Lib.hid (fun w => pClear_any cu e b t pm ty rs va w)
  obtain ⟨f, caps, rfl, hcf, c⟩ := hq
  have c2 := Lib.hid (c _ hk.bl)
  replace hk := Lib.hid hk
  clear c
  go_enter Tryz.func195, Tryz.ntmps195
  go_wp2_with fail
  refine c2.out.mono ?_
  rintro ee w1 ⟨rfl, h1⟩
  have hk1 := Lib.hid (hk.out.below h1)
  obtain ⟨p0, p1, p2, p3, p4, p5, p6, p7⟩ : CapAt w1 W.heap.size cu e b t pm ty rs va := hk1.out.cap (by simp)
  clear h1 hk c2
  go_wp2_with fail
  refine (hM.out _).mono ?_
  rintro ee w2 ⟨rfl, h1⟩
  have hk2 := hk1.out.below h1
  clear h1 hk1 hM p0 p1 p2 p3 p4 p5 p6 p7
  have r : CapAt w2 (W.heap.size + 1) 0 0 0 0 0 0 0 false := hk2.cap (by simp)
  have fr := hk2.soft (g := W.heap.size + 1) (vs := cv 0 0 0 0 0 0 0 false) (by simp)
  obtain ⟨r0, r1, r2, r3, r4, r5, r6, r7⟩ := r
  replace hk2 := Lib.hid (hk2.whole (cv cu e b t pm ty rs false) (by simp) (by simp) rfl)
  go_wp2_with fail
  change bodyPost _ _ _ _ _ (setRow (W.heap.size + 1) 0 (cv cu e b t pm ty rs false) w2)
  clear r0 r1 r2 r3 r4 r5 r6 r7 fr
  generalize setRow (W.heap.size + 1) 0 (cv cu e b t pm ty rs false) w2 = w3 at *
  obtain ⟨z0, z1, z2, z3, z4, z5, z6, z7⟩ := hk2.out.cap (g := W.heap.size + 1) (List.mem_cons_self ..)
  exact bodyPost_ret (v := .agg #[.int .u32 cu, .int .u8 e, .int .u16 b, .int .u16 t, .int .u16 pm, .int .u16 ty, .int .u32 rs, .bool false]) (by simp [results, Tryz.results195, go_sem, z0, z1, z2, z3, z4, z5, z6, z7]) rfl ⟨rfl, hk2.out.bl⟩
theorem pretype_yes (cu e b t pm ty rs : Nat) (va : Bool) (kind : Nat) (q : Value) (W : World) (hq : Ques W q true) :
    Calls Tryz.prog 195 #[.agg #[.int .u32 cu, .int .u8 e, .int .u16 b, .int .u16 t, .int .u16 pm, .int .u16 ty, .int .u32 rs, .bool va], .int .u32 kind, q] W fun ee w' => ee = .returned (.agg #[.int .u32 cu, .int .u8 e, .int .u16 b, .int .u16 t, .int .u16 pm, .int .u16 (kind % 65536 : Nat), .int .u32 rs, .bool va]) ∧ Below W.heap.size W w' := by
  have hk := twoBoxes W cu e b t pm ty rs va 25 0 0 0 0 0 0 0 false 25
  have hM := Lib.hid (fun w => pchange_any _ kind cu e b t pm ty rs va cu e b t pm (kind % 65536) rs va (mKind cu e b t pm ty rs va kind) w)
  generalize kind % 65536 = k at *
  obtain ⟨f, caps, rfl, hcf, c⟩ := hq
  have c2 := Lib.hid (c _ hk.bl)
  replace hk := Lib.hid hk
  clear c
  go_enter Tryz.func195, Tryz.ntmps195
  go_wp2_with fail
  refine c2.out.mono ?_
  rintro ee w1 ⟨rfl, h1⟩
  have hk1 := Lib.hid (hk.out.below h1)
  obtain ⟨p0, p1, p2, p3, p4, p5, p6, p7⟩ : CapAt w1 W.heap.size cu e b t pm ty rs va := hk1.out.cap (by simp)
  clear h1 hk c2
  go_wp2_with fail
  refine (hM.out _).mono ?_
  rintro ee w2 ⟨rfl, h1⟩
  have hk2 := hk1.out.below h1
  clear h1 hk1 hM p0 p1 p2 p3 p4 p5 p6 p7
  have r : CapAt w2 (W.heap.size + 1) 0 0 0 0 0 0 0 false := hk2.cap (by simp)
  have fr := hk2.soft (g := W.heap.size + 1) (vs := cv 0 0 0 0 0 0 0 false) (by simp)
  obtain ⟨r0, r1, r2, r3, r4, r5, r6, r7⟩ := r
  replace hk2 := Lib.hid (hk2.whole (cv cu e b t pm k rs va) (by simp) (by simp) rfl)
  go_wp2_with fail
  change bodyPost _ _ _ _ _ (setRow (W.heap.size + 1) 0 (cv cu e b t pm k rs va) w2)
  clear r0 r1 r2 r3 r4 r5 r6 r7 fr
  generalize setRow (W.heap.size + 1) 0 (cv cu e b t pm k rs va) w2 = w3 at *
  obtain ⟨z0, z1, z2, z3, z4, z5, z6, z7⟩ := hk2.out.cap (g := W.heap.size + 1) (List.mem_cons_self ..)
  exact bodyPost_ret (v := .agg #[.int .u32 cu, .int .u8 e, .int .u16 b, .int .u16 t, .int .u16 pm, .int .u16 k, .int .u32 rs, .bool va]) (by simp [results, Tryz.results195, go_sem, z0, z1, z2, z3, z4, z5, z6, z7]) rfl ⟨rfl, hk2.out.bl⟩
end Go.Proofs.YtkmgdfcambdeeaaGreatDoor
namespace Go.Proofs.YtkmgdfcambdeeaaGreatDoor
open Go.RowKit
set_option linter.unusedVariables false

set_option maxHeartbeats 4000000 in
theorem pAddr_any (cu e b t pm ty rs : Nat) (va : Bool) (to_ : Nat) (l0 : cu < 4294967296) (l1 : e < 256) (l2 : b < 65536) (l3 : t < 65536) (l4 : pm < 65536) (l5 : ty < 65536) (l6 : rs < 4294967296) (lt : to_ < 4294967296) (W : World) :
    Calls Tryz.prog 90 #[.agg #[.int .u32 cu, .int .u8 e, .int .u16 b, .int .u16 t, .int .u16 pm, .int .u16 ty, .int .u32 rs, .bool va], .int .u32 to_] W fun ee w' => ee = .returned (.agg #[.int .u32 to_, .int .u8 e, .int .u16 b, .int .u16 t, .int .u16 pm, .int .u16 ty, .int .u32 rs, .bool (va && decide (ty = 0) && kp e b t cu to_)]) ∧ Below W.heap.size W w' := by
  have cC := Lib.hid (fun w => pchange_any _ to_ cu e b t pm ty rs va to_ e b t pm ty rs va (mMove cu e b t pm ty rs va to_) w)
  have cO := Lib.hid (fun w => pOpen_any cu e b t pm ty rs va w)
  have cM := Lib.hid (fun q bq w h => pMark_any to_ e b t pm ty rs va q bq w h)
  have qA : ∀ w, KS W (W.heap.size + 1 + 1) [⟨W.heap.size + 1, [.int .u32 to_]⟩, ⟨W.heap.size, cv cu e b t pm ty rs va⟩] w → Ques w (.func (.func 137) #[] #[.pointer (some ⟨W.heap.size, 0, none⟩), .pointer (some ⟨W.heap.size + 1, 0, none⟩)]) (kp e b t cu to_) := fun w k =>
    ⟨_, _, rfl, fun w' => by kernel_rfl, fun w' m => pAddr1_any _ _ cu e b t pm ty rs va to_ l0 l1 l2 l3 l4 l5 l6 lt w' ((k.below m).k.cap (by simp)) ((k.below m).k.cell [.int .u32 to_] (by simp) rfl)⟩
  have K : KS W (W.heap.size + 1 + 1) [⟨W.heap.size + 1, [.int .u32 to_]⟩, ⟨W.heap.size, cv cu e b t pm ty rs va⟩] (((W.alloc (.cells #[.int .u32 cu, .int .u8 e, .int .u16 b, .int .u16 t, .int .u16 pm, .int .u16 ty, .int .u32 rs, .bool va] 25)).alloc (.cells #[.int .u32 to_] 22)).alloc (.cells #[.int .u32 0, .int .u8 0, .int .u16 0, .int .u16 0, .int .u16 0, .int .u16 0, .int .u32 0, .bool false] 25)) := by
    have hk := (((KR.start (W := W)).push (cv cu e b t pm ty rs va) 25).push [.int .u32 to_] 22).push (cv 0 0 0 0 0 0 0 false) 25
    rw [World.size_alloc, World.size_alloc] at hk
    exact KS.of hk (by omega) (by simp <;> omega)
  generalize kp e b t cu to_ = z at *
  generalize (va && decide (ty = 0)) = q at *
  have tr : ∀ w, (w.cell? ⟨W.heap.size, 0, none⟩ = some (.int .u32 cu) ∧ w.cell? ⟨W.heap.size, 1, none⟩ = some (.int .u8 e) ∧ w.cell? ⟨W.heap.size, 2, none⟩ = some (.int .u16 b) ∧ w.cell? ⟨W.heap.size, 3, none⟩ = some (.int .u16 t) ∧ w.cell? ⟨W.heap.size, 4, none⟩ = some (.int .u16 pm) ∧ w.cell? ⟨W.heap.size, 5, none⟩ = some (.int .u16 ty) ∧ w.cell? ⟨W.heap.size, 6, none⟩ = some (.int .u32 rs) ∧ w.cell? ⟨W.heap.size, 7, none⟩ = some (.bool va) ∧ w.cell? ⟨W.heap.size + 1, 0, none⟩ = some (.int .u32 to_) ∧ KS W (W.heap.size + 1 + 1) [⟨W.heap.size + 1, [.int .u32 to_]⟩, ⟨W.heap.size, cv cu e b t pm ty rs va⟩] w) → KS W (W.heap.size + 1 + 1) [⟨W.heap.size + 1, [.int .u32 to_]⟩, ⟨W.heap.size, cv cu e b t pm ty rs va⟩] w := fun w h => h.2.2.2.2.2.2.2.2.2
  have all : ∀ w, KS W (W.heap.size + 1 + 1) [⟨W.heap.size + 1, [.int .u32 to_]⟩, ⟨W.heap.size, cv cu e b t pm ty rs va⟩] w → (w.cell? ⟨W.heap.size, 0, none⟩ = some (.int .u32 cu) ∧ w.cell? ⟨W.heap.size, 1, none⟩ = some (.int .u8 e) ∧ w.cell? ⟨W.heap.size, 2, none⟩ = some (.int .u16 b) ∧ w.cell? ⟨W.heap.size, 3, none⟩ = some (.int .u16 t) ∧ w.cell? ⟨W.heap.size, 4, none⟩ = some (.int .u16 pm) ∧ w.cell? ⟨W.heap.size, 5, none⟩ = some (.int .u16 ty) ∧ w.cell? ⟨W.heap.size, 6, none⟩ = some (.int .u32 rs) ∧ w.cell? ⟨W.heap.size, 7, none⟩ = some (.bool va) ∧ w.cell? ⟨W.heap.size + 1, 0, none⟩ = some (.int .u32 to_) ∧ KS W (W.heap.size + 1 + 1) [⟨W.heap.size + 1, [.int .u32 to_]⟩, ⟨W.heap.size, cv cu e b t pm ty rs va⟩] w) := fun w h => by
    have p : CapAt w W.heap.size cu e b t pm ty rs va := h.k.cap (by simp)
    exact ⟨p.q0, p.q1, p.q2, p.q3, p.q4, p.q5, p.q6, p.q7, h.k.cell [.int .u32 to_] (by simp) rfl, h⟩
  replace tr := Lib.hid tr
  replace all := Lib.hid all
  replace qA := Lib.hid qA
  replace K := Lib.hid K
  go_enter Tryz.func90, Tryz.ntmps90
  go_wp2_with fail
  generalize (((W.alloc (.cells #[.int .u32 cu, .int .u8 e, .int .u16 b, .int .u16 t, .int .u16 pm, .int .u16 ty, .int .u32 rs, .bool va] 25)).alloc (.cells #[.int .u32 to_] 22)).alloc (.cells #[.int .u32 0, .int .u8 0, .int .u16 0, .int .u16 0, .int .u16 0, .int .u16 0, .int .u32 0, .bool false] 25)) = W1 at *
  go_region_held3 (fun w' => w'.cell? ⟨W.heap.size, 0, none⟩ = some (.int .u32 cu) ∧ w'.cell? ⟨W.heap.size, 1, none⟩ = some (.int .u8 e) ∧ w'.cell? ⟨W.heap.size, 2, none⟩ = some (.int .u16 b) ∧ w'.cell? ⟨W.heap.size, 3, none⟩ = some (.int .u16 t) ∧ w'.cell? ⟨W.heap.size, 4, none⟩ = some (.int .u16 pm) ∧ w'.cell? ⟨W.heap.size, 5, none⟩ = some (.int .u16 ty) ∧ w'.cell? ⟨W.heap.size, 6, none⟩ = some (.int .u32 rs) ∧ w'.cell? ⟨W.heap.size, 7, none⟩ = some (.bool va) ∧ w'.cell? ⟨W.heap.size + 1, 0, none⟩ = some (.int .u32 to_) ∧ KS W (W.heap.size + 1 + 1) [⟨W.heap.size + 1, [.int .u32 to_]⟩, ⟨W.heap.size, cv cu e b t pm ty rs va⟩] w')
    (first | with_reducible exact all.out _ K.out.drew | with_reducible exact k1 | with_reducible exact all.out _ ((tr.out _ (by assumption)).alloc _) | with_reducible exact all.out _ ((tr.out _ (by assumption)).store8 _ _ _ _ _ _ _ _))
    (first
      | (go_at_call 139; ((with_reducible refine (cC.out _).mono ?_); rintro ee Z ⟨rfl, g⟩; have k1 := all.out _ ((tr.out _ (by assumption)).below g); clear g))
      | (go_at_call 142; ((with_reducible refine (cO.out _).mono ?_); rintro ee Z ⟨v1, rfl, hq, g⟩; have k1 := all.out _ ((tr.out _ (by assumption)).below g); clear g; obtain ⟨f1, c1, rfl⟩ := hq.fn; replace hq := Lib.hid hq; have hq2 := Lib.hid (qA.out _ (tr.out _ k1))))
      | (go_at_call 141; ((with_reducible refine (pAll2_any hq.out hq2.out _).mono ?_); rintro ee Z ⟨v2, rfl, hq3, g⟩; have k1 := all.out _ ((tr.out _ (by assumption)).below g); clear g; replace hq3 := Lib.hid hq3))
      | (go_at_call 133; ((with_reducible refine (cM.out _ _ _ hq3.out).mono ?_); rintro ee X ⟨rfl, g⟩; have k1 := all.out _ ((tr.out _ (by assumption)).below g); clear g; have kk := Lib.hid (tr.out _ k1); obtain ⟨v0, v1, v2, v3, v4, v5, v6, v7, r0, r1, r2, r3, r4, r5, r6, r7, fr⟩ := (tr.out _ k1).cells)))
  have hf := Lib.hid (kk.out.store to_ e b t pm ty rs (q && z))
  go_wp2_with fail
  change bodyPost _ _ _ _ _ (setRow (W.heap.size + 1 + 1) 0 (cv to_ e b t pm ty rs (q && z)) X)
  clear r0 r1 r2 r3 r4 r5 r6 r7 fr
  generalize setRow (W.heap.size + 1 + 1) 0 (cv to_ e b t pm ty rs (q && z)) X = w3 at *
  obtain ⟨z0, z1, z2, z3, z4, z5, z6, z7⟩ := hf.out.cap (g := W.heap.size + 1 + 1) (List.mem_cons_self ..)
  exact bodyPost_ret (v := .agg #[.int .u32 to_, .int .u8 e, .int .u16 b, .int .u16 t, .int .u16 pm, .int .u16 ty, .int .u32 rs, .bool (q && z)]) (by simp [results, Tryz.results90, go_sem, z0, z1, z2, z3, z4, z5, z6, z7]) rfl ⟨rfl, hf.out.bl⟩
end Go.Proofs.YtkmgdfcambdeeaaGreatDoor
