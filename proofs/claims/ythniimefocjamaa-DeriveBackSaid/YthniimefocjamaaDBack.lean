/- Proved: what was sealed is opened by the same authority, if that may do both, as it was; by one over another type never (DeriveBack). For every input; no condition. -/
import Derived.Test.YthniimefocjamaaRows
import Derived.Test.YthniimefocjamaaDerY
import Derived.Test.YthniimefocjamaaNew
import Derived.Test.YthniimefocjamaaFlat
import Derived.ProofKit
import Derived.OpenShut
import Derived.ShutString
import Derived.ChangeOld
namespace Go.Proofs.Ythniimefocjamaa.dback
open Go.ChangeShapes Go.WideShapes Go.ChangeAt Go.RowKit
open Go.ChangeMaps (open_string shut_string)
set_option linter.unusedVariables false

set_option maxHeartbeats 4000000 in
theorem walkN (cu e b t pm ty rs : Nat) (va : Bool) (cu' e' b' t' pm' ty' rs' : Nat) (va' : Bool) (ot : Nat) (l0 : cu < 4294967296) (l1 : e < 256) (l2 : b < 65536) (l3 : t < 65536) (l4 : pm < 65536) (l5 : ty < 65536) (l6 : rs < 4294967296) (l0' : cu' < 4294967296) (l1' : e' < 256) (l2' : b' < 65536) (l3' : t' < 65536) (l4' : pm' < 65536) (l5' : ty' < 65536) (l6' : rs' < 4294967296) (lo : ot < 4294967296) (W : World) : Calls Try.prog 13 #[.agg #[.int .u32 cu, .int .u8 e, .int .u16 b, .int .u16 t, .int .u16 pm, .int .u16 ty, .int .u32 rs, .bool va], .agg #[.int .u32 cu', .int .u8 e', .int .u16 b', .int .u16 t', .int .u16 pm', .int .u16 ty', .int .u32 rs', .bool va'], .int .u32 ot] W fun e w' => e = .returned (.bool true) ∧ Below W.heap.size W w' := by
  have K0 : KR W [⟨W.heap.size + 1, cv cu' e' b' t' pm' ty' rs' va'⟩, ⟨W.heap.size, cv cu e b t pm ty rs va⟩] ((W.alloc (.cells #[.int .u32 cu, .int .u8 e, .int .u16 b, .int .u16 t, .int .u16 pm, .int .u16 ty, .int .u32 rs, .bool va] 25)).alloc (.cells #[.int .u32 cu', .int .u8 e', .int .u16 b', .int .u16 t', .int .u16 pm', .int .u16 ty', .int .u32 rs', .bool va'] 25)) := by
    have := ((KR.start (W := W)).push (cv cu e b t pm ty rs va) 25).push (cv cu' e' b' t' pm' ty' rs' va') 25
    rwa [World.size_alloc] at this
  have hW := Lib.hid (fun w => dworks_any w)
  have cS := fun w => pSeal_any cu e b t pm ty rs va cu' e' b' t' pm' ty' rs' va' l0' l1' l2' l3' l4' l5' l6' w
  replace K0 := Lib.hid K0
  cases hv : (va && (va && decide (ty = 0) && (va' && decide (ty' = 0) && auP e' b' t' cu' pm' cu' 32)))
  · rw [hv] at cS
    generalize (if (va && decide (ty = 0) && (va' && decide (ty' = 0) && auP e' b' t' cu' pm' cu' 32)) then cu' % 65536 else ty : Nat) = x at cS
    replace cS := Lib.hid cS
    clear hv
    go_enter Try.func13, Try.ntmps13
    go_wp2_with fail
    refine (cS.out _).mono ?_
    rintro ee w1 ⟨rfl, h1⟩
    have hk1 := Lib.hid ((K0.out.below h1).alloc (.cells #[.int .u32 cu, .int .u8 e, .int .u16 b, .int .u16 t, .int .u16 pm, .int .u16 x, .int .u32 rs, .bool false] 25)).bl
    clear h1 cS K0
    go_wp2_with fail
    refine (hW.out _).mono ?_
    rintro ee w2 ⟨rfl, h1⟩
    replace h1 := Lib.hid (hk1.out.trans (h1.mono hk1.out.size))
    go_wp2_with fail
    go_ret
    exact ⟨rfl, h1.out⟩
  · simp only [Bool.and_eq_true, decide_eq_true_eq] at hv
    obtain ⟨hva, ⟨_, hty⟩, ⟨hva', hty'⟩, hau⟩ := hv
    subst hva hva'
    have hau2 := hau
    unfold auP at hau2
    simp only [Bool.and_eq_true, decide_eq_true_eq] at hau2
    obtain ⟨⟨a1, a2, _, a3⟩, a4⟩ := hau2
    have cS2 : ∀ w, Calls Try.prog 35 #[.agg #[.int .u32 cu, .int .u8 e, .int .u16 b, .int .u16 t, .int .u16 pm, .int .u16 ty, .int .u32 rs, .bool true], .agg #[.int .u32 cu', .int .u8 e', .int .u16 b', .int .u16 t', .int .u16 pm', .int .u16 ty', .int .u32 rs', .bool true]] w fun ee w' => ee = .returned (.agg #[.int .u32 cu, .int .u8 e, .int .u16 b, .int .u16 t, .int .u16 pm, .int .u16 cu', .int .u32 rs, .bool true]) ∧ Below w.heap.size w w' := fun w => by
      have := cS w
      rw [hau, decide_eq_true hty, decide_eq_true hty', show (true && true && (true && true && true)) = true from rfl, if_pos rfl, Nat.mod_eq_of_lt (by omega)] at this
      exact this
    have hx0 : decide (cu' = 0) = false := decide_eq_false (by omega)
    have cA := fun w => pAddr_any cu' e' b' t' pm' ty' rs' true ot l0' l1' l2' l3' l4' l5' l6' lo w
    have cP := fun w => pOpens_any cu e b t pm cu' rs true ot e' b' t' pm' ty' rs' (true && decide (ty' = 0) && kp e' b' t' cu' ot) (by omega) lo l1' l2' l3' l4' l5' l6' w
    have hv3 : (true && (true && !decide (cu' = 0) && (true && decide (ty' = 0) && kp e' b' t' cu' ot && decide (ty' = 0) && auP e' b' t' ot pm' cu' 64))) = true → ot = cu' := fun h => by
      simp only [Bool.and_eq_true] at h
      have h1 := h.2.2.2
      unfold auP at h1
      simp only [Bool.and_eq_true, decide_eq_true_eq] at h1
      exact h1.1.2.2.1
    generalize (if (true && !decide (cu' = 0) && (true && decide (ty' = 0) && kp e' b' t' cu' ot && decide (ty' = 0) && auP e' b' t' ot pm' cu' 64)) then 0 else cu' : Nat) = x3 at *
    generalize (true && (true && !decide (cu' = 0) && (true && decide (ty' = 0) && kp e' b' t' cu' ot && decide (ty' = 0) && auP e' b' t' ot pm' cu' 64))) = v3 at *
    generalize (true && decide (ty' = 0) && kp e' b' t' cu' ot) = aa at *
    have hand : bits .and .u16 (pm' : Int) 64 = ((pm' &&& 64 : Nat) : Int) := u16_and_nat pm' 64 l4' (by decide)
    have cO := fun w => pOpens_any cu e b t pm cu' rs true cu' e' b' t' pm' ty' rs' true (by omega) l0' l1' l2' l3' l4' l5' l6' w
    have hEq : ∀ w, (Op.equalIn 10000 25 (.agg #[.int .u32 cu, .int .u8 e, .int .u16 b, .int .u16 t, .int .u16 pm, .int .u16 0, .int .u32 rs, .bool true]) (.agg #[.int .u32 cu, .int .u8 e, .int .u16 b, .int .u16 t, .int .u16 pm, .int .u16 ty, .int .u32 rs, .bool true])).run Try.prog w = .ok true w := fun w => by rw [cap_eq]; simp [hty]
    have h64 : auP e' b' t' cu' pm' cu' 64 = !decide (pm' &&& 64 = 0) := by
      unfold auP
      rw [a4, Bool.and_true]
      by_cases hh : pm' &&& 64 = 0
      · rw [decide_eq_true hh]; exact decide_eq_false (fun k => k.2.2.2 hh)
      · rw [decide_eq_false hh]; exact decide_eq_true ⟨a1, a2, rfl, hh⟩
    rw [h64, hx0, decide_eq_true hty'] at cO
    replace cA := Lib.hid cA
    replace cP := Lib.hid cP
    replace hv3 := Lib.hid hv3
    replace cS2 := Lib.hid cS2
    clear hau cS a1 a2 a3 a4 hx0 h64 hty hty'
    by_cases hh : pm' &&& 64 = 0
    · rw [decide_eq_true hh] at cO
      simp only [Bool.not_false, Bool.not_true, Bool.and_false, Bool.false_eq_true, if_false] at cO
      rw [hh] at hand
      replace cO := Lib.hid cO
      clear hh hEq
      go_enter Try.func13, Try.ntmps13
      go_wp2_with fail
      refine (cS2.out _).mono ?_
      rintro ee w1 ⟨rfl, h1⟩
      have hk1 : KR W _ (w1.alloc (.cells #[.int .u32 cu, .int .u8 e, .int .u16 b, .int .u16 t, .int .u16 pm, .int .u16 cu', .int .u32 rs, .bool true] 25)) := (K0.out.below h1).push (cv cu e b t pm cu' rs true) 25
      clear h1 cS2 K0
      replace hk1 := Lib.hid hk1
      go_upto_region 2 with (fail)
      generalize (w1.alloc (.cells #[.int .u32 cu, .int .u8 e, .int .u16 b, .int .u16 t, .int .u16 pm, .int .u16 cu', .int .u32 rs, .bool true] 25)) = w1' at *
      generalize w1.heap.size = sb at *
      obtain ⟨p0, p1, p2, p3, p4, p5, p6, p7⟩ : CapAt w1' sb cu e b t pm cu' rs true := hk1.out.cap (List.mem_cons_self ..)
      obtain ⟨y0, y1, y2, y3, y4, y5, y6, y7⟩ : CapAt w1' (W.heap.size + 1) cu' e' b' t' pm' ty' rs' true := hk1.out.cap (List.mem_cons_of_mem _ (List.mem_cons_self ..))
      go_wp2_with fail
      refine (cO.out _).mono ?_
      rintro ee w2 ⟨rfl, h1⟩
      have hk2 : KR W _ (w2.alloc (.cells #[.int .u32 cu, .int .u8 e, .int .u16 b, .int .u16 t, .int .u16 pm, .int .u16 cu', .int .u32 rs, .bool false] 25)) := (hk1.out.below h1).push (cv cu e b t pm cu' rs false) 25
      clear h1 hk1 p0 p1 p2 p3 p4 p5 p6 p7 y0 y1 y2 y3 y4 y5 y6 y7
      replace hk2 := Lib.hid hk2
      go_upto_region 5 with (fail)
      generalize (w2.alloc (.cells #[.int .u32 cu, .int .u8 e, .int .u16 b, .int .u16 t, .int .u16 pm, .int .u16 cu', .int .u32 rs, .bool false] 25)) = w3 at *
      generalize w2.heap.size = ob at *
      obtain ⟨p0, p1, p2, p3, p4, p5, p6, p7⟩ : CapAt w3 W.heap.size cu e b t pm ty rs true := hk2.out.cap (List.mem_cons_of_mem _ (List.mem_cons_of_mem _ (List.mem_cons_of_mem _ (List.mem_cons_self ..))))
      have y4 := (hk2.out.cap (g := W.heap.size + 1) (List.mem_cons_of_mem _ (List.mem_cons_of_mem _ (List.mem_cons_self ..)))).q4
      obtain ⟨o0, o1, o2, o3, o4, o5, o6, o7⟩ : CapAt w3 ob cu e b t pm cu' rs false := hk2.out.cap (List.mem_cons_self ..)
      go_wp2_with fail
      clear p0 p1 p2 p3 p4 p5 p6 p7 y4 o0 o1 o2 o3 o4 o5 o6 o7
      have K := hk2.out.sub (L' := [⟨sb, cv cu e b t pm cu' rs true⟩, ⟨W.heap.size + 1, cv cu' e' b' t' pm' ty' rs' true⟩]) (fun x hx => List.mem_cons_of_mem _ (by
        rcases List.mem_cons.1 hx with rfl | hx
        · exact List.mem_cons_self ..
        · exact List.mem_cons_of_mem _ (by rcases List.mem_cons.1 hx with rfl | hx; exact List.mem_cons_self ..; cases hx)))
      clear hk2
      obtain ⟨S, hS0⟩ : ∃ S, S = KR W [⟨sb, cv cu e b t pm cu' rs true⟩, ⟨W.heap.size + 1, cv cu' e' b' t' pm' ty' rs' true⟩] := ⟨_, rfl⟩
      have hK : ∀ w, S w → KR W [⟨sb, cv cu e b t pm cu' rs true⟩, ⟨W.heap.size + 1, cv cu' e' b' t' pm' ty' rs' true⟩] w := fun w h => by rw [← hS0]; exact h
      have hSt : Stay S := fun w w' h k => by rw [hS0] at h ⊢; exact h.below k
      have hlt : W.heap.size + 1 < w3.heap.size := K.lt (List.mem_cons_of_mem _ (List.mem_cons_self ..))
      replace K : S w3 := by rw [hS0]; exact K
      clear hS0
      refine region_new (aF := ?aF1) S 5 1 (fun _ => cv 0 0 0 0 0 0 0 false) w3.heap.size (by kernel_rfl) (by kernel_rfl) (hSt _ _ K (Below.refl _ _).drew) (Nat.le_refl _) hSt (fun k o hk ho => ?hN1) (fun S' h1 h2 => ?hW1) (fun bs w' hb hS hrow hdis => ?hT1)
      case hW1 =>
        have dA := Lib.hid (cls_bel h2 cA.out)
        have dP := Lib.hid (cls_bel h2 cP.out)
        obtain ⟨a0, a1, a2, a3, a4, a5, a6, a7⟩ := cls_cap (S := S') (bx := sb) (fun w h => (hK w (h1 w h)).cap (List.mem_cons_self ..))
        obtain ⟨d0, d1, d2, d3, d4, d5, d6, d7⟩ := cls_cap (S := S') (bx := W.heap.size + 1) (fun w h => (hK w (h1 w h)).cap (List.mem_cons_of_mem _ (List.mem_cons_self ..)))
        simp only [List.take_succ_cons, List.take_zero]
        repeat (first
          | go_big_quiet_skip
          | (go_big_quiet_want
             go_big_quiet_op
             first
             | go_big_quiet_on
             | (apply Exists.intro
                refine ⟨fun y => ?_, ?_⟩
                · first | exact rfl | with_reducible exact dA.out y | with_reducible exact dP.out y
                go_big_quiet_on)))
        refine wpQuiet_nil ?_
        exact rfl
      case hN1 =>
        obtain rfl : k = 0 := by omega
        simp only [List.getElem?_cons_succ, List.getElem?_cons_zero, Nat.add_zero, Option.some.injEq] at ho
        subst ho
        exact ⟨rfl, 25, fun a w => by kernel_rfl⟩
      case hT1 =>
        obtain ⟨b0, rfl⟩ : ∃ b0, bs = [b0] := List.length_eq_one_iff.1 hb
        obtain ⟨r1, r2⟩ := hrow 0 b0 rfl
        have hkr : KR W [⟨b0, cv 0 0 0 0 0 0 0 false⟩, ⟨W.heap.size + 1, cv cu' e' b' t' pm' ty' rs' true⟩] w' := ⟨(hK _ hS).bl, fun x hx => by
          rcases List.mem_cons.1 hx with rfl | hx
          · exact r1
          · exact (hK _ hS).al x (List.mem_cons_of_mem _ hx)⟩
        clear r1 hS hrow hdis hK hSt K
        obtain ⟨q0, q1, q2, q3, q4, q5, q6, q7⟩ : CapAt w' b0 0 0 0 0 0 0 0 false := hkr.cap (List.mem_cons_self ..)
        have fq := hkr.soft (List.mem_cons_self ..)
        have hkf := Lib.hid (hkr.whole (cv cu e b t pm x3 rs v3) (by omega) (by simp <;> omega) rfl)
        clear hkr
        simp only [List.drop_succ_cons, List.drop_zero, List.take_succ_cons, List.take_zero, putL, ptr]
        go_upto_region 8 with (fail)
        change Code.wp _ _ _ _ (setRow b0 0 (cv cu e b t pm x3 rs v3) w')
        clear q0 q1 q2 q3 q4 q5 q6 q7 fq
        generalize setRow b0 0 (cv cu e b t pm x3 rs v3) w' = w5 at *
        obtain ⟨q0, q1, q2, q3, q4, q5, q6, q7⟩ : CapAt w5 b0 cu e b t pm x3 rs v3 := hkf.out.cap (List.mem_cons_self ..)
        have y0 := (hkf.out.cap (g := W.heap.size + 1) (List.mem_cons_of_mem _ (List.mem_cons_self ..))).q0
        have hbl := Lib.hid hkf.out.bl
        clear hkf
        cases v3
        · go_wp2_with fail
          refine (hW.out _).mono ?_
          rintro ee w6 ⟨rfl, h1⟩
          replace h1 := Lib.hid (hbl.out.trans (h1.mono hbl.out.size))
          go_wp2_with fail
          go_ret
          exact ⟨rfl, h1.out⟩
        · have he : ((ot : Int) == cu') = true := by rw [hv3.out rfl]; simp
          go_wp2_with fail
          refine (hW.out _).mono ?_
          rintro ee w6 ⟨rfl, h1⟩
          replace h1 := Lib.hid (hbl.out.trans (h1.mono hbl.out.size))
          go_wp2_with fail
          go_ret
          exact ⟨rfl, h1.out⟩

    · rw [decide_eq_false hh] at cO
      simp only [Bool.not_false, Bool.and_true, if_true] at cO
      generalize pm' &&& 64 = kk at *
      have g2 : ((kk : Int) != 0) = true := by simpa using hh
      replace cO := Lib.hid cO
      clear hh
      go_enter Try.func13, Try.ntmps13
      go_wp2_with fail
      refine (cS2.out _).mono ?_
      rintro ee w1 ⟨rfl, h1⟩
      have hk1 : KR W _ (w1.alloc (.cells #[.int .u32 cu, .int .u8 e, .int .u16 b, .int .u16 t, .int .u16 pm, .int .u16 cu', .int .u32 rs, .bool true] 25)) := (K0.out.below h1).push (cv cu e b t pm cu' rs true) 25
      clear h1 cS2 K0
      replace hk1 := Lib.hid hk1
      go_upto_region 2 with (fail)
      generalize (w1.alloc (.cells #[.int .u32 cu, .int .u8 e, .int .u16 b, .int .u16 t, .int .u16 pm, .int .u16 cu', .int .u32 rs, .bool true] 25)) = w1' at *
      generalize w1.heap.size = sb at *
      obtain ⟨p0, p1, p2, p3, p4, p5, p6, p7⟩ : CapAt w1' sb cu e b t pm cu' rs true := hk1.out.cap (List.mem_cons_self ..)
      obtain ⟨y0, y1, y2, y3, y4, y5, y6, y7⟩ : CapAt w1' (W.heap.size + 1) cu' e' b' t' pm' ty' rs' true := hk1.out.cap (List.mem_cons_of_mem _ (List.mem_cons_self ..))
      go_wp2_with fail
      refine (cO.out _).mono ?_
      rintro ee w2 ⟨rfl, h1⟩
      have hk2 : KR W _ (w2.alloc (.cells #[.int .u32 cu, .int .u8 e, .int .u16 b, .int .u16 t, .int .u16 pm, .int .u16 0, .int .u32 rs, .bool true] 25)) := (hk1.out.below h1).push (cv cu e b t pm 0 rs true) 25
      clear h1 hk1 p0 p1 p2 p3 p4 p5 p6 p7 y0 y1 y2 y3 y4 y5 y6 y7
      replace hk2 := Lib.hid hk2
      go_upto_region 5 with (fail)
      generalize (w2.alloc (.cells #[.int .u32 cu, .int .u8 e, .int .u16 b, .int .u16 t, .int .u16 pm, .int .u16 0, .int .u32 rs, .bool true] 25)) = w3 at *
      generalize w2.heap.size = ob at *
      obtain ⟨p0, p1, p2, p3, p4, p5, p6, p7⟩ : CapAt w3 W.heap.size cu e b t pm ty rs true := hk2.out.cap (List.mem_cons_of_mem _ (List.mem_cons_of_mem _ (List.mem_cons_of_mem _ (List.mem_cons_self ..))))
      have y4 := (hk2.out.cap (g := W.heap.size + 1) (List.mem_cons_of_mem _ (List.mem_cons_of_mem _ (List.mem_cons_self ..)))).q4
      obtain ⟨o0, o1, o2, o3, o4, o5, o6, o7⟩ : CapAt w3 ob cu e b t pm 0 rs true := hk2.out.cap (List.mem_cons_self ..)
      go_wp2_with fail
      clear p0 p1 p2 p3 p4 p5 p6 p7 y4 o0 o1 o2 o3 o4 o5 o6 o7
      have K := hk2.out.sub (L' := [⟨sb, cv cu e b t pm cu' rs true⟩, ⟨W.heap.size + 1, cv cu' e' b' t' pm' ty' rs' true⟩]) (fun x hx => List.mem_cons_of_mem _ (by
        rcases List.mem_cons.1 hx with rfl | hx
        · exact List.mem_cons_self ..
        · exact List.mem_cons_of_mem _ (by rcases List.mem_cons.1 hx with rfl | hx; exact List.mem_cons_self ..; cases hx)))
      clear hk2
      obtain ⟨S, hS0⟩ : ∃ S, S = KR W [⟨sb, cv cu e b t pm cu' rs true⟩, ⟨W.heap.size + 1, cv cu' e' b' t' pm' ty' rs' true⟩] := ⟨_, rfl⟩
      have hK : ∀ w, S w → KR W [⟨sb, cv cu e b t pm cu' rs true⟩, ⟨W.heap.size + 1, cv cu' e' b' t' pm' ty' rs' true⟩] w := fun w h => by rw [← hS0]; exact h
      have hSt : Stay S := fun w w' h k => by rw [hS0] at h ⊢; exact h.below k
      have hlt : W.heap.size + 1 < w3.heap.size := K.lt (List.mem_cons_of_mem _ (List.mem_cons_self ..))
      replace K : S w3 := by rw [hS0]; exact K
      clear hS0
      refine region_new (aF := ?aF) S 5 1 (fun _ => cv 0 0 0 0 0 0 0 false) w3.heap.size (by kernel_rfl) (by kernel_rfl) (hSt _ _ K (Below.refl _ _).drew) (Nat.le_refl _) hSt (fun k o hk ho => ?hN) (fun S' h1 h2 => ?hW) (fun bs w' hb hS hrow hdis => ?hT)
      case hW =>
        have dA := Lib.hid (cls_bel h2 cA.out)
        have dP := Lib.hid (cls_bel h2 cP.out)
        obtain ⟨a0, a1, a2, a3, a4, a5, a6, a7⟩ := cls_cap (S := S') (bx := sb) (fun w h => (hK w (h1 w h)).cap (List.mem_cons_self ..))
        obtain ⟨d0, d1, d2, d3, d4, d5, d6, d7⟩ := cls_cap (S := S') (bx := W.heap.size + 1) (fun w h => (hK w (h1 w h)).cap (List.mem_cons_of_mem _ (List.mem_cons_self ..)))
        simp only [List.take_succ_cons, List.take_zero]
        repeat (first
          | go_big_quiet_skip
          | (go_big_quiet_want
             go_big_quiet_op
             first
             | go_big_quiet_on
             | (apply Exists.intro
                refine ⟨fun y => ?_, ?_⟩
                · first | exact rfl | with_reducible exact dA.out y | with_reducible exact dP.out y
                go_big_quiet_on)))
        refine wpQuiet_nil ?_
        exact rfl
      case hN =>
        obtain rfl : k = 0 := by omega
        simp only [List.getElem?_cons_succ, List.getElem?_cons_zero, Nat.add_zero, Option.some.injEq] at ho
        subst ho
        exact ⟨rfl, 25, fun a w => by kernel_rfl⟩
      case hT =>
        obtain ⟨b0, rfl⟩ : ∃ b0, bs = [b0] := List.length_eq_one_iff.1 hb
        obtain ⟨r1, r2⟩ := hrow 0 b0 rfl
        have hkr : KR W [⟨b0, cv 0 0 0 0 0 0 0 false⟩, ⟨W.heap.size + 1, cv cu' e' b' t' pm' ty' rs' true⟩] w' := ⟨(hK _ hS).bl, fun x hx => by
          rcases List.mem_cons.1 hx with rfl | hx
          · exact r1
          · exact (hK _ hS).al x (List.mem_cons_of_mem _ hx)⟩
        clear r1 hS hrow hdis hK hSt K
        obtain ⟨q0, q1, q2, q3, q4, q5, q6, q7⟩ : CapAt w' b0 0 0 0 0 0 0 0 false := hkr.cap (List.mem_cons_self ..)
        have fq := hkr.soft (List.mem_cons_self ..)
        have hkf := Lib.hid (hkr.whole (cv cu e b t pm x3 rs v3) (by omega) (by simp <;> omega) rfl)
        clear hkr
        simp only [List.drop_succ_cons, List.drop_zero, List.take_succ_cons, List.take_zero, putL, ptr]
        go_upto_region 8 with (fail)
        change Code.wp _ _ _ _ (setRow b0 0 (cv cu e b t pm x3 rs v3) w')
        clear q0 q1 q2 q3 q4 q5 q6 q7 fq
        generalize setRow b0 0 (cv cu e b t pm x3 rs v3) w' = w5 at *
        obtain ⟨q0, q1, q2, q3, q4, q5, q6, q7⟩ : CapAt w5 b0 cu e b t pm x3 rs v3 := hkf.out.cap (List.mem_cons_self ..)
        have y0 := (hkf.out.cap (g := W.heap.size + 1) (List.mem_cons_of_mem _ (List.mem_cons_self ..))).q0
        have hbl := Lib.hid hkf.out.bl
        clear hkf
        cases v3
        · go_wp2_with fail
          refine (hW.out _).mono ?_
          rintro ee w6 ⟨rfl, h1⟩
          replace h1 := Lib.hid (hbl.out.trans (h1.mono hbl.out.size))
          go_wp2_with fail
          go_ret
          exact ⟨rfl, h1.out⟩
        · have he : ((ot : Int) == cu') = true := by rw [hv3.out rfl]; simp
          go_wp2_with fail
          refine (hW.out _).mono ?_
          rintro ee w6 ⟨rfl, h1⟩
          replace h1 := Lib.hid (hbl.out.trans (h1.mono hbl.out.size))
          go_wp2_with fail
          go_ret
          exact ⟨rfl, h1.out⟩


theorem walk (cu : Int) (wcu : (Lit.int .u32 cu).wf = true) (e : Int) (we : (Lit.int .u8 e).wf = true) (b : Int) (wb : (Lit.int .u16 b).wf = true) (t : Int) (wt : (Lit.int .u16 t).wf = true) (pm : Int) (wpm : (Lit.int .u16 pm).wf = true) (ty : Int) (wty : (Lit.int .u16 ty).wf = true) (rs : Int) (wrs : (Lit.int .u32 rs).wf = true) (va : Bool) (cu' : Int) (wcu' : (Lit.int .u32 cu').wf = true) (e' : Int) (we' : (Lit.int .u8 e').wf = true) (b' : Int) (wb' : (Lit.int .u16 b').wf = true) (t' : Int) (wt' : (Lit.int .u16 t').wf = true) (pm' : Int) (wpm' : (Lit.int .u16 pm').wf = true) (ty' : Int) (wty' : (Lit.int .u16 ty').wf = true) (rs' : Int) (wrs' : (Lit.int .u32 rs').wf = true) (va' : Bool) (ot : Int) (wot : (Lit.int .u32 ot).wf = true) (W : World) : Calls Try.prog 13 #[.agg #[.int .u32 cu, .int .u8 e, .int .u16 b, .int .u16 t, .int .u16 pm, .int .u16 ty, .int .u32 rs, .bool va], .agg #[.int .u32 cu', .int .u8 e', .int .u16 b', .int .u16 t', .int .u16 pm', .int .u16 ty', .int .u32 rs', .bool va'], .int .u32 ot] W fun e w' => e = .returned (.bool true) ∧ Below W.heap.size W w' := by
  have hcu := bounds_u32 wcu
  obtain ⟨cu, rfl⟩ := Int.eq_ofNat_of_zero_le hcu.1
  have he := bounds_u8 we
  obtain ⟨e, rfl⟩ := Int.eq_ofNat_of_zero_le he.1
  have hb := bounds_u16 wb
  obtain ⟨b, rfl⟩ := Int.eq_ofNat_of_zero_le hb.1
  have ht := bounds_u16 wt
  obtain ⟨t, rfl⟩ := Int.eq_ofNat_of_zero_le ht.1
  have hpm := bounds_u16 wpm
  obtain ⟨pm, rfl⟩ := Int.eq_ofNat_of_zero_le hpm.1
  have hty := bounds_u16 wty
  obtain ⟨ty, rfl⟩ := Int.eq_ofNat_of_zero_le hty.1
  have hrs := bounds_u32 wrs
  obtain ⟨rs, rfl⟩ := Int.eq_ofNat_of_zero_le hrs.1
  have hcu' := bounds_u32 wcu'
  obtain ⟨cu', rfl⟩ := Int.eq_ofNat_of_zero_le hcu'.1
  have he' := bounds_u8 we'
  obtain ⟨e', rfl⟩ := Int.eq_ofNat_of_zero_le he'.1
  have hb' := bounds_u16 wb'
  obtain ⟨b', rfl⟩ := Int.eq_ofNat_of_zero_le hb'.1
  have ht' := bounds_u16 wt'
  obtain ⟨t', rfl⟩ := Int.eq_ofNat_of_zero_le ht'.1
  have hpm' := bounds_u16 wpm'
  obtain ⟨pm', rfl⟩ := Int.eq_ofNat_of_zero_le hpm'.1
  have hty' := bounds_u16 wty'
  obtain ⟨ty', rfl⟩ := Int.eq_ofNat_of_zero_le hty'.1
  have hrs' := bounds_u32 wrs'
  obtain ⟨rs', rfl⟩ := Int.eq_ofNat_of_zero_le hrs'.1
  have hot := bounds_u32 wot
  obtain ⟨ot, rfl⟩ := Int.eq_ofNat_of_zero_le hot.1
  exact walkN cu e b t pm ty rs va cu' e' b' t' pm' ty' rs' va' ot (by omega) (by omega) (by omega) (by omega) (by omega) (by omega) (by omega) (by omega) (by omega) (by omega) (by omega) (by omega) (by omega) (by omega) (by omega) W
theorem own : ownKnob Try.prog.godebug = none := by kernel_rfl
theorem laidOut : laidOutB Try.prog = true := by kernel_rfl
set_option maxRecDepth 100000 in
theorem lifted (os : Os) (started : os.Started) (H : Type) (enc : TypeId × Value → H) :
    ReturnsInHanded {} Try.checked os 13 .any (Rows.deriveBackSpec.pre6 enc Try.prog Try.f13 Rows.deriveBackRow.domain false) (Rows.deriveBackSpec.post enc Try.prog Try.f13 false true false false) := by
  refine returnsInHanded_of_change (C := Try.checked) own started (by kernel_rfl) Try.func13
    (ChangeSpec.witness6 (enc := enc) (C := Try.checked) false ⟨#[], #[.agg #[.int .u32 0, .int .u8 0, .int .u16 0, .int .u16 0, .int .u16 0, .int .u16 0, .int .u32 0, .bool false], .agg #[.int .u32 0, .int .u8 0, .int .u16 0, .int .u16 0, .int .u16 0, .int .u16 0, .int .u32 0, .bool false], .int .u32 0], []⟩ 8 (by kernel_rfl) (by kernel_rfl) (by kernel_rfl) (by kernel_rfl)) ?_
  intro W base args ds gs before hval0 hW hcnd hsz
  have hval : ∀ (j : Nat) t v, Try.f13.params[j]? = some t → args[j]? = some v → Value.okWide Try.prog W .any base t v := hval0
  have hW' := hW
  obtain ⟨p, q, hA0, hV, rfl, hfz, hnd⟩ := hW
  have hA : DataW.TrodAll enc Try.prog W 0 (fun _ => true) true Try.f13.params.toList args.toList ds p := hA0
  rw [Try.params13] at hA hval
  obtain ⟨v0, vs0, d0, ds0, p0, q0, hargs, rfl, rfl, h0, r0⟩ := trodAll_cons hA
  obtain ⟨v1, vs1, d1, ds1, p1, q1, rfl, rfl, rfl, h1, r1⟩ := trodAll_cons r0
  obtain ⟨v2, vs2, d2, ds2, p2, q2, rfl, rfl, rfl, h2, r2⟩ := trodAll_cons r1
  obtain ⟨rfl, rfl, rfl⟩ := trodAll_nil r2
  obtain rfl : args = #[v0, v1, v2] := by cases args; simp_all
  obtain ⟨rfl, rfl⟩ := trodVars_none hV
  have k0 := h0
  have lt0 : ∀ x ∈ p0, x.block < W.heap.size := by obtain ⟨m, hm⟩ := k0; exact DataW.trod_lt m _ _ _ hm
  have k1 := h1
  have lt1 : ∀ x ∈ p1, x.block < W.heap.size := by obtain ⟨m, hm⟩ := k1; exact DataW.trod_lt m _ _ _ hm
  have k2 := h2
  have lt2 : ∀ x ∈ p2, x.block < W.heap.size := by obtain ⟨m, hm⟩ := k2; exact DataW.trod_lt m _ _ _ hm
  obtain ⟨csca, rfl, hfca⟩ := open_flat (ks := [some .u32, some .u8, some .u16, some .u16, some .u16, some .u16, some .u32, none]) 6 (by kernel_rfl) (.inl ⟨_, Try.underlying25⟩) (hval 0 25 v0 rfl rfl) h0
  obtain ⟨_, _, rfl, ⟨ca0, rfl, wca0⟩, _, _, rfl, ⟨ca1, rfl, wca1⟩, _, _, rfl, ⟨ca2, rfl, wca2⟩, _, _, rfl, ⟨ca3, rfl, wca3⟩, _, _, rfl, ⟨ca4, rfl, wca4⟩, _, _, rfl, ⟨ca5, rfl, wca5⟩, _, _, rfl, ⟨ca6, rfl, wca6⟩, _, _, rfl, ⟨ca7, rfl⟩, rfl⟩ := hfca
  obtain ⟨cscb, rfl, hfcb⟩ := open_flat (ks := [some .u32, some .u8, some .u16, some .u16, some .u16, some .u16, some .u32, none]) 6 (by kernel_rfl) (.inl ⟨_, Try.underlying25⟩) (hval 1 25 v1 rfl rfl) h1
  obtain ⟨_, _, rfl, ⟨cb0, rfl, wcb0⟩, _, _, rfl, ⟨cb1, rfl, wcb1⟩, _, _, rfl, ⟨cb2, rfl, wcb2⟩, _, _, rfl, ⟨cb3, rfl, wcb3⟩, _, _, rfl, ⟨cb4, rfl, wcb4⟩, _, _, rfl, ⟨cb5, rfl, wcb5⟩, _, _, rfl, ⟨cb6, rfl, wcb6⟩, _, _, rfl, ⟨cb7, rfl⟩, rfl⟩ := hfcb
  obtain ⟨ot, rfl, rfl, rfl, wot⟩ := open_int Try.underlying22 (hval 2 22 v2 rfl rfl) h2
  clear hA0 hval0
  refine (walk ca0 wca0 ca1 wca1 ca2 wca2 ca3 wca3 ca4 wca4 ca5 wca5 ca6 wca6 ca7 cb0 wcb0 cb1 wcb1 cb2 wcb2 cb3 wcb3 cb4 wcb4 cb5 wcb5 cb6 wcb6 cb7 ot wot W).mono fun e W' ⟨he, bel⟩ => ?_
  subst he
  exact ⟨_, rfl, _, _, _, [], _, [], hW', trodAll_mk1 (shut_bool Try.underlying4 _), (trodAll_cons_mk (Below.trod laidOut (by kernel_rfl) (of_decide_eq_true (by kernel_rfl)) k0 bel lt0) (trodAll_cons_mk (Below.trod laidOut (by kernel_rfl) (of_decide_eq_true (by kernel_rfl)) k1 bel lt1) (trodAll_cons_mk (Below.trod laidOut (by kernel_rfl) (of_decide_eq_true (by kernel_rfl)) k2 bel lt2) trodAll_mk0))), rfl, bel.frame _, fun h => by cases h⟩
theorem over : Rows.deriveBackRow.holds Try.pinned (OpenSpec.ofChange Rows.deriveBackSpec) :=
  OpenClaim.holds_of_wide 13 Try.f13 rfl rfl rfl rfl rfl rfl rfl ⟨rfl, rfl, rfl, rfl, rfl⟩ rfl rfl rfl rfl rfl (by kernel_rfl) Try.func13 (by kernel_rfl)
    (of_decide_eq_true (by kernel_rfl)) (by unfold Func.isWrapper; first | (rw [if_pos (by decide +kernel)]; kernel_rfl) | (rw [if_neg (by decide +kernel)]; exact ⟨rfl, rfl⟩))
    (fun os started H enc _ => lifted os started H enc)
/-- The given statement. -/
theorem proved : Rows.DeriveBackSaid := over
end Go.Proofs.Ythniimefocjamaa.dback
