/- Proved: whatever is done to a capability, one thing behind the other: what is valid then lies within what there was at the beginning, and that was valid (DeriveLess, the stage's theorem). For every input; no condition. -/
import Derived.Test.YthniimefocjamaaRows
import Derived.Test.YthniimefocjamaaChgs
import Derived.Test.YthniimefocjamaaLate
import Derived.ProofKit
import Derived.OpenShut
import Derived.ShutString
import Derived.ChangeOld
namespace Go.Proofs.Ythniimefocjamaa.dless
open Go.ChangeShapes Go.WideShapes Go.ChangeAt Go.RowKit
open Go.ChangeMaps (open_string shut_string)
set_option linter.unusedVariables false

set_option maxRecDepth 100000 in
set_option maxHeartbeats 4000000 in
theorem walkN (cu e b t pm ty rs : Nat) (va : Bool) (l0 : cu < 4294967296) (l1 : e < 256) (l2 : b < 65536) (l3 : t < 65536) (l4 : pm < 65536) (l5 : ty < 65536) (l6 : rs < 4294967296) (A : Option Addr) (n cap : Nat) (hcap : n ≤ cap) (hn : n ≤ 9223372036854775807) (W : World) (hP : ChgsIn W W.heap.size A n) : Calls Try.prog 11 #[.agg #[.int .u32 cu, .int .u8 e, .int .u16 b, .int .u16 t, .int .u16 pm, .int .u16 ty, .int .u32 rs, .bool va], .slice A n cap] W fun e w' => e = .returned (.bool true) ∧ Below W.heap.size W w' := by
  have K0 : KR W [⟨W.heap.size + 1, cv cu e b t pm ty rs va⟩, ⟨W.heap.size, cv cu e b t pm ty rs va⟩] ((W.alloc (.cells #[.int .u32 cu, .int .u8 e, .int .u16 b, .int .u16 t, .int .u16 pm, .int .u16 ty, .int .u32 rs, .bool va] 25)).alloc (.cells #[.int .u32 cu, .int .u8 e, .int .u16 b, .int .u16 t, .int .u16 pm, .int .u16 ty, .int .u32 rs, .bool va] 25)) := by
    have := ((KR.start (W := W)).push (cv cu e b t pm ty rs va) 25).push (cv cu e b t pm ty rs va) 25
    rwa [World.size_alloc] at this
  have hW := Lib.hid (fun w => dworks_any w)
  have hP0 := Lib.hid hP
  clear hP
  replace K0 := Lib.hid K0
  go_enter Try.func11, Try.ntmps11
  go_wp2_with fail
  go_loopw [6] (fun i wr => ∃ (j : Nat) (k : Cp), j ≤ n ∧ j ≤ 40 ∧ i = .int .i64 j ∧ k.fit ∧ (k.va = true → va = true ∧ k.inn (Cp.mk cu e b t pm ty rs va) = true) ∧ KR W [⟨W.heap.size + 1, cv k.cu k.e k.b k.t k.pm k.ty k.rs k.va⟩, ⟨W.heap.size, cv cu e b t pm ty rs va⟩] wr) (fun i _ => n - (intOf i).toNat)
  case atStart => exact ⟨0, (Cp.mk cu e b t pm ty rs va), by omega, by omega, rfl, ⟨l0, l1, l2, l3, l4, l5, l6⟩, fun h => ⟨h, Cp.inn_refl _⟩, K0.out⟩
  case round =>
    obtain ⟨j, k, hj, hj40, rfl, hkf, hki, hK⟩ := hrel
    clear K0
    by_cases hlt : j < n
    · by_cases h40 : (j : Int) < 40
      · obtain ⟨bb, off, rfl, hb, wh, v, y, hyf, hv, hcell⟩ := hP0.out j hlt
        obtain ⟨k', hk', hkf', hC⟩ := changed_to wh v k y hkf hyf hv
        have hless := fun h => chg_less (what := wh) (n := v) (c := k) (y := y) hkf h
        rw [← hk'] at hless
        clear hk'
        obtain ⟨cu1, e1, b1, t1, pm1, ty1, rs1, va1⟩ := k
        obtain ⟨cu2, e2, b2, t2, pm2, ty2, rs2, va2⟩ := k'
        obtain ⟨cu', e', b', t', pm', ty', rs', va'⟩ := y
        dsimp only [xrow] at hC hless hki hK hcell
        have hki2 : va2 = true → va = true ∧ Cp.inn (Cp.mk cu2 e2 b2 t2 pm2 ty2 rs2 va2) (Cp.mk cu e b t pm ty rs va) = true := fun h => ⟨(hki (hless h).1).1, Cp.inn_trans (hless h).2 (hki (hless h).1).2⟩
        have hall := Lib.hid (show va2 = true → va1 = true ∧ va = true ∧ Cp.inn (Cp.mk cu2 e2 b2 t2 pm2 ty2 rs2 va2) (Cp.mk cu1 e1 b1 t1 pm1 ty1 rs1 va1) = true ∧ Cp.inn (Cp.mk cu2 e2 b2 t2 pm2 ty2 rs2 va2) (Cp.mk cu e b t pm ty rs va) = true from fun h => ⟨(hless h).1, (hki2 h).1, (hless h).2, (hki2 h).2⟩)
        obtain ⟨m0, m1, m2, m3, m4, m5, m6⟩ := hkf'
        obtain ⟨g0, g1, g2, g3, g4, g5, g6⟩ := hkf
        dsimp only at m0 m1 m2 m3 m4 m5 m6 g0 g1 g2 g3 g4 g5 g6
        replace hC := Lib.hid hC
        replace hki2 := Lib.hid hki2
        replace hcell := Lib.hid hcell
        replace hK := Lib.hid hK
        clear hless hki hyf
        go_wp2_with fail
        have hlt1 : W.heap.size + 1 < wr.heap.size := hK.out.lt (List.mem_cons_self ..)
        obtain ⟨S, hS0⟩ : ∃ S, S = KR W [⟨W.heap.size + 1, cv cu1 e1 b1 t1 pm1 ty1 rs1 va1⟩, ⟨W.heap.size, cv cu e b t pm ty rs va⟩] := ⟨_, rfl⟩
        have hKS : ∀ w, S w → KR W [⟨W.heap.size + 1, cv cu1 e1 b1 t1 pm1 ty1 rs1 va1⟩, ⟨W.heap.size, cv cu e b t pm ty rs va⟩] w := fun w h => by rw [← hS0]; exact h
        have hSt : Stay S := fun w w' h k => by rw [hS0] at h ⊢; exact h.below k
        have K : S wr := by rw [hS0]; exact hK.out
        clear hS0 hK
        refine region_new_late (aF := ?aF) S 9 2 11 8 (fun _ => cv 0 0 0 0 0 0 0 false) wr.heap.size (by kernel_rfl) rfl rfl rfl (fun _ _ _ _ h => h) (by kernel_rfl) (by kernel_rfl) (hSt _ _ K (Below.refl _ _).drew) (Nat.le_refl _) hSt (fun k o hk ho => ?hN) (fun S' h1 h2 => ?hW) (fun bs w' hb2 hS hrow hdis => ?hT)
        case hW =>
          have dC := Lib.hid (cls_bel h2 hC.out)
          obtain ⟨a0, a1, a2, a3, a4, a5, a6, a7⟩ := cls_cap (S := S') (bx := W.heap.size + 1) (fun w h => (hKS w (h1 w h)).cap (List.mem_cons_self ..))
          have dd : ∀ (jj : Nat) (u : Value), ([.int .i64 wh, .int .u32 v, .int .u32 cu', .int .u8 e', .int .u16 b', .int .u16 t', .int .u16 pm', .int .u16 ty', .int .u32 rs', .bool va'] : List Value)[jj]? = some u → ∀ y : Wd S', y.w.cell? ⟨bb, off + j * 10 + jj, none⟩ = some u := fun jj u hu y =>
            ((hKS _ (h1 _ y.h)).bl.cell (p := ⟨bb, _, none⟩) hb).trans (hcell.out jj u hu)
          have d0 := dd 0 _ rfl
          have d1 := dd 1 _ rfl
          have d2 := dd 2 _ rfl
          have d3 := dd 3 _ rfl
          have d4 := dd 4 _ rfl
          have d5 := dd 5 _ rfl
          have d6 := dd 6 _ rfl
          have d7 := dd 7 _ rfl
          have d8 := dd 8 _ rfl
          have d9 := dd 9 _ rfl
          rw [Nat.add_zero] at d0
          clear dd
          simp only [List.set_cons_succ, List.set_cons_zero, List.take_succ_cons, List.take_zero, waitToo]
          repeat (first
            | go_big_quiet_skip
            | (go_big_quiet_want
               go_big_quiet_op
               first
               | go_big_quiet_on
               | (apply Exists.intro
                  refine ⟨fun y => ?_, ?_⟩
                  · first | exact rfl | with_reducible exact dC.out y
                  go_big_quiet_on)))
          refine wpQuiet_nil ?_
          exact rfl
        case hN =>
          rcases (show k = 0 ∨ k = 1 by omega) with rfl | rfl
          · obtain rfl := Option.some.inj ho
            exact ⟨rfl, 25, fun a w => by kernel_rfl⟩
          · obtain rfl := Option.some.inj ho
            exact ⟨rfl, 25, fun a w => by kernel_rfl⟩
        case hT =>
          rcases bs with _ | ⟨b7, _ | ⟨b8, _ | ⟨x, bs⟩⟩⟩
          · cases hb2
          · cases hb2
          · obtain ⟨r7, q7⟩ := hrow 0 b7 rfl
            obtain ⟨r8, q8⟩ := hrow 1 b8 rfl
            have hne := hdis 0 1 b7 b8 (by omega) rfl rfl
            have hkr : KR W [⟨b7, cv 0 0 0 0 0 0 0 false⟩, ⟨b8, cv 0 0 0 0 0 0 0 false⟩, ⟨W.heap.size + 1, cv cu1 e1 b1 t1 pm1 ty1 rs1 va1⟩, ⟨W.heap.size, cv cu e b t pm ty rs va⟩] w' := ⟨(hKS _ hS).bl, fun x hx => by
              rcases List.mem_cons.1 hx with rfl | hx
              · exact r7
              rcases List.mem_cons.1 hx with rfl | hx
              · exact r8
              exact (hKS _ hS).al x hx⟩
            clear r7 r8 hS hrow hdis hKS hSt K hb2 hC hcell
            obtain ⟨p0, p1, p2, p3, p4, p5, p6, p7⟩ : CapAt w' b7 0 0 0 0 0 0 0 false := hkr.cap (List.mem_cons_self ..)
            obtain ⟨o0, o1, o2, o3, o4, o5, o6, o7⟩ : CapAt w' b8 0 0 0 0 0 0 0 false := hkr.cap (List.mem_cons_of_mem _ (List.mem_cons_self ..))
            have fp := hkr.soft (List.mem_cons_self ..)
            have fo := hkr.soft (List.mem_cons_of_mem _ (List.mem_cons_self ..))
            have hk5 := Lib.hid ((hkr.whole (cv cu2 e2 b2 t2 pm2 ty2 rs2 va2) (by omega) (by simp <;> omega) rfl).swap.whole (cv cu1 e1 b1 t1 pm1 ty1 rs1 va1) (by omega) (by simp <;> omega) rfl)
            clear hkr
            have hne2 : ¬ b7 = b8 := hne
            have hne3 : ¬ b8 = b7 := Ne.symm hne
            simp only [List.set_cons_succ, List.set_cons_zero, List.drop_succ_cons, List.drop_zero, List.take_succ_cons, List.take_zero, waitToo, putL, ptr]
            go_upto_region 6 with (fail)
            change Code.wp _ _ _ _ (setRow b8 0 (cv cu1 e1 b1 t1 pm1 ty1 rs1 va1) (setRow b7 0 (cv cu2 e2 b2 t2 pm2 ty2 rs2 va2) w'))
            clear p0 p1 p2 p3 p4 p5 p6 p7 o0 o1 o2 o3 o4 o5 o6 o7 fp fo
            generalize (setRow b8 0 (cv cu1 e1 b1 t1 pm1 ty1 rs1 va1) (setRow b7 0 (cv cu2 e2 b2 t2 pm2 ty2 rs2 va2) w')) = w5 at *
            have hq : b7 ≠ W.heap.size + 1 := by omega
            have hq2 : b7 ≠ W.heap.size := by omega
            cases va2
            · obtain ⟨p0, p1, p2, p3, p4, p5, p6, p7⟩ : CapAt w5 b7 cu2 e2 b2 t2 pm2 ty2 rs2 false := hk5.out.cap (List.mem_cons_of_mem _ (List.mem_cons_self ..))
              obtain ⟨r0, r1, r2, r3, r4, r5, r6, r7⟩ : CapAt w5 (W.heap.size + 1) cu1 e1 b1 t1 pm1 ty1 rs1 va1 := hk5.out.cap (List.mem_cons_of_mem _ (List.mem_cons_of_mem _ (List.mem_cons_self ..)))
              have fr := hk5.out.soft (List.mem_cons_of_mem _ (List.mem_cons_of_mem _ (List.mem_cons_self ..)))
              have hf : KR W [⟨W.heap.size + 1, cv cu2 e2 b2 t2 pm2 ty2 rs2 false⟩, ⟨W.heap.size, cv cu e b t pm ty rs va⟩] (setRow (W.heap.size + 1) 0 (cv cu2 e2 b2 t2 pm2 ty2 rs2 false) w5) := (hk5.out.sub (L' := [⟨W.heap.size + 1, cv cu1 e1 b1 t1 pm1 ty1 rs1 va1⟩, ⟨W.heap.size, cv cu e b t pm ty rs va⟩]) (fun x hx => List.mem_cons_of_mem _ (List.mem_cons_of_mem _ hx))).whole (cv cu2 e2 b2 t2 pm2 ty2 rs2 false) (by omega) (by simp <;> omega) rfl
              replace hf := Lib.hid hf
              clear hk5
              go_wp2_with fail
              go_roundw
              case rel => exact ⟨j + 1, Cp.mk cu2 e2 b2 t2 pm2 ty2 rs2 false, by omega, by omega, by go_num, ⟨m0, m1, m2, m3, m4, m5, m6⟩, (by first | exact hki2.out | exact fun _ => hki2.out trivial), hf.out⟩
              case measure => simp [intOf]; omega
            · obtain ⟨hva1, hva, hin1, hin2⟩ := hall.out rfl
              subst hva1 hva
              have I1 : ∀ w, Calls Try.prog 21 #[.agg #[.int .u32 cu2, .int .u8 e2, .int .u16 b2, .int .u16 t2, .int .u16 pm2, .int .u16 ty2, .int .u32 rs2, .bool true], .agg #[.int .u32 cu1, .int .u8 e1, .int .u16 b1, .int .u16 t1, .int .u16 pm1, .int .u16 ty1, .int .u32 rs1, .bool true]] w fun ee w' => ee = .returned (.bool true) ∧ Below w.heap.size w w' := fun w => by
                have := pWithin_any cu2 e2 b2 t2 pm2 ty2 rs2 true cu1 e1 b1 t1 pm1 ty1 rs1 true m0 m1 m2 m3 m4 m5 m6 g0 g1 g2 g3 g4 g5 g6 w
                rw [show wiP pm2 pm1 (deB e2 b2 t2 cu2) (deT e2 b2 t2 cu2) (deB e1 b1 t1 cu1) (deT e1 b1 t1 cu1) = true from hin1] at this
                exact this
              have I2 : ∀ w, Calls Try.prog 21 #[.agg #[.int .u32 cu2, .int .u8 e2, .int .u16 b2, .int .u16 t2, .int .u16 pm2, .int .u16 ty2, .int .u32 rs2, .bool true], .agg #[.int .u32 cu, .int .u8 e, .int .u16 b, .int .u16 t, .int .u16 pm, .int .u16 ty, .int .u32 rs, .bool true]] w fun ee w' => ee = .returned (.bool true) ∧ Below w.heap.size w w' := fun w => by
                have := pWithin_any cu2 e2 b2 t2 pm2 ty2 rs2 true cu e b t pm ty rs true m0 m1 m2 m3 m4 m5 m6 l0 l1 l2 l3 l4 l5 l6 w
                rw [show wiP pm2 pm (deB e2 b2 t2 cu2) (deT e2 b2 t2 cu2) (deB e b t cu) (deT e b t cu) = true from hin2] at this
                exact this
              replace I1 := Lib.hid I1
              replace I2 := Lib.hid I2
              clear hall hin1 hin2
              obtain ⟨p0, p1, p2, p3, p4, p5, p6, p7⟩ : CapAt w5 b7 cu2 e2 b2 t2 pm2 ty2 rs2 true := hk5.out.cap (List.mem_cons_of_mem _ (List.mem_cons_self ..))
              obtain ⟨o0, o1, o2, o3, o4, o5, o6, o7⟩ : CapAt w5 b8 cu1 e1 b1 t1 pm1 ty1 rs1 true := hk5.out.cap (List.mem_cons_self ..)
              go_wp2_with fail
              refine (I1.out _).mono ?_
              rintro ee w6 ⟨rfl, h1⟩
              have hk6 := Lib.hid (hk5.out.below h1)
              clear h1 hk5 I1 p0 p1 p2 p3 p4 p5 p6 p7 o0 o1 o2 o3 o4 o5 o6 o7
              obtain ⟨p0, p1, p2, p3, p4, p5, p6, p7⟩ : CapAt w6 b7 cu2 e2 b2 t2 pm2 ty2 rs2 true := hk6.out.cap (List.mem_cons_of_mem _ (List.mem_cons_self ..))
              obtain ⟨s0, s1, s2, s3, s4, s5, s6, s7⟩ : CapAt w6 W.heap.size cu e b t pm ty rs true := hk6.out.cap (List.mem_cons_of_mem _ (List.mem_cons_of_mem _ (List.mem_cons_of_mem _ (List.mem_cons_self ..))))
              go_wp2_with fail
              refine (I2.out _).mono ?_
              rintro ee w7 ⟨rfl, h1⟩
              have hk7 := Lib.hid (hk6.out.below h1)
              clear h1 hk6 I2 p0 p1 p2 p3 p4 p5 p6 p7 s0 s1 s2 s3 s4 s5 s6 s7
              have s7 := (hk7.out.cap (g := W.heap.size) (List.mem_cons_of_mem _ (List.mem_cons_of_mem _ (List.mem_cons_of_mem _ (List.mem_cons_self ..))))).q7
              obtain ⟨p0, p1, p2, p3, p4, p5, p6, p7⟩ : CapAt w7 b7 cu2 e2 b2 t2 pm2 ty2 rs2 true := hk7.out.cap (List.mem_cons_of_mem _ (List.mem_cons_self ..))
              obtain ⟨r0, r1, r2, r3, r4, r5, r6, r7⟩ : CapAt w7 (W.heap.size + 1) cu1 e1 b1 t1 pm1 ty1 rs1 true := hk7.out.cap (List.mem_cons_of_mem _ (List.mem_cons_of_mem _ (List.mem_cons_self ..)))
              have fr := hk7.out.soft (List.mem_cons_of_mem _ (List.mem_cons_of_mem _ (List.mem_cons_self ..)))
              have hf : KR W [⟨W.heap.size + 1, cv cu2 e2 b2 t2 pm2 ty2 rs2 true⟩, ⟨W.heap.size, cv cu e b t pm ty rs true⟩] (setRow (W.heap.size + 1) 0 (cv cu2 e2 b2 t2 pm2 ty2 rs2 true) w7) := (hk7.out.sub (L' := [⟨W.heap.size + 1, cv cu1 e1 b1 t1 pm1 ty1 rs1 true⟩, ⟨W.heap.size, cv cu e b t pm ty rs true⟩]) (fun x hx => List.mem_cons_of_mem _ (List.mem_cons_of_mem _ hx))).whole (cv cu2 e2 b2 t2 pm2 ty2 rs2 true) (by omega) (by simp <;> omega) rfl
              replace hf := Lib.hid hf
              clear hk7
              go_wp2_with fail
              go_roundw
              case rel => exact ⟨j + 1, Cp.mk cu2 e2 b2 t2 pm2 ty2 rs2 true, by omega, by omega, by go_num, ⟨m0, m1, m2, m3, m4, m5, m6⟩, (by first | exact hki2.out | exact fun _ => hki2.out trivial), hf.out⟩
              case measure => simp [intOf]; omega

          · cases hb2
      · go_wp2_with fail
        refine (hW.out _).mono ?_
        rintro ee w1 ⟨rfl, h1⟩
        have hr := Lib.hid (hK.below h1).bl
        clear h1 hK
        go_wp2_with fail
        go_ret
        exact ⟨rfl, hr.out⟩

    · go_wp2_with fail
      refine (hW.out _).mono ?_
      rintro ee w1 ⟨rfl, h1⟩
      have hr := Lib.hid (hK.below h1).bl
      clear h1 hK
      go_wp2_with fail
      go_ret
      exact ⟨rfl, hr.out⟩


set_option maxRecDepth 100000 in
theorem walk (cu : Int) (wcu : (Lit.int .u32 cu).wf = true) (e : Int) (we : (Lit.int .u8 e).wf = true) (b : Int) (wb : (Lit.int .u16 b).wf = true) (t : Int) (wt : (Lit.int .u16 t).wf = true) (pm : Int) (wpm : (Lit.int .u16 pm).wf = true) (ty : Int) (wty : (Lit.int .u16 ty).wf = true) (rs : Int) (wrs : (Lit.int .u32 rs).wf = true) (va : Bool) {H : Type} {enc : TypeId × Value → H} (v1 : Value) {d1 : DataW H} {p1 : List MemPlace} (W : World)
    (hv : Value.okWide Try.prog W .any 0 44 v1) (hd : DataW.Trod enc Try.prog W 0 (fun _ => true) true 44 v1 d1 p1) :
    Calls Try.prog 11 #[.agg #[.int .u32 cu, .int .u8 e, .int .u16 b, .int .u16 t, .int .u16 pm, .int .u16 ty, .int .u32 rs, .bool va], v1] W fun e w' => e = .returned (.bool true) ∧ Below W.heap.size W w' := by
  obtain ⟨A, n, cap, rfl, hcap, hm, hP⟩ := chgs_of hv hd
  have hn : n ≤ 9223372036854775807 := by unfold maxLen at hm; omega
  clear hv hd hm
  have hcu := bounds_u32 wcu
  obtain ⟨cu, rfl⟩ := Int.eq_ofNat_of_zero_le hcu.1
  have he := bounds_u8 we
  obtain ⟨e, rfl⟩ := Int.eq_ofNat_of_zero_le he.1
  have hb := bounds_u16 wb
  obtain ⟨b, rfl⟩ := Int.eq_ofNat_of_zero_le hb.1
  have ht := bounds_u16 wt
  obtain ⟨t, rfl⟩ := Int.eq_ofNat_of_zero_le ht.1
  have hpm := bounds_u16 wpm
  obtain ⟨pm, rfl⟩ := Int.eq_ofNat_of_zero_le hpm.1
  have hty := bounds_u16 wty
  obtain ⟨ty, rfl⟩ := Int.eq_ofNat_of_zero_le hty.1
  have hrs := bounds_u32 wrs
  obtain ⟨rs, rfl⟩ := Int.eq_ofNat_of_zero_le hrs.1
  exact walkN cu e b t pm ty rs va (by omega) (by omega) (by omega) (by omega) (by omega) (by omega) (by omega) A n cap hcap hn W hP
theorem own : ownKnob Try.prog.godebug = none := by kernel_rfl
theorem laidOut : laidOutB Try.prog = true := by kernel_rfl
set_option maxRecDepth 100000 in
theorem lifted (os : Os) (started : os.Started) (H : Type) (enc : TypeId × Value → H) :
    ReturnsInHanded {} Try.checked os 11 .any (Rows.deriveLessSpec.pre6 enc Try.prog Try.f11 Rows.deriveLessRow.domain false) (Rows.deriveLessSpec.post enc Try.prog Try.f11 false true false false) := by
  refine returnsInHanded_of_change (C := Try.checked) own started (by kernel_rfl) Try.func11
    (ChangeSpec.witness6 (enc := enc) (C := Try.checked) false ⟨#[], #[.agg #[.int .u32 0, .int .u8 0, .int .u16 0, .int .u16 0, .int .u16 0, .int .u16 0, .int .u32 0, .bool false], .slice none 0 0], []⟩ 8 (by kernel_rfl) (by kernel_rfl) (by kernel_rfl) (by kernel_rfl)) ?_
  intro W base args ds gs before hval0 hW hcnd hsz
  have hval : ∀ (j : Nat) t v, Try.f11.params[j]? = some t → args[j]? = some v → Value.okWide Try.prog W .any base t v := hval0
  have hW' := hW
  obtain ⟨p, q, hA0, hV, rfl, hfz, hnd⟩ := hW
  have hA : DataW.TrodAll enc Try.prog W 0 (fun _ => true) true Try.f11.params.toList args.toList ds p := hA0
  rw [Try.params11] at hA hval
  obtain ⟨v0, vs0, d0, ds0, p0, q0, hargs, rfl, rfl, h0, r0⟩ := trodAll_cons hA
  obtain ⟨v1, vs1, d1, ds1, p1, q1, rfl, rfl, rfl, h1, r1⟩ := trodAll_cons r0
  obtain ⟨rfl, rfl, rfl⟩ := trodAll_nil r1
  obtain rfl : args = #[v0, v1] := by cases args; simp_all
  obtain ⟨rfl, rfl⟩ := trodVars_none hV
  have k0 := h0
  have lt0 : ∀ x ∈ p0, x.block < W.heap.size := by obtain ⟨m, hm⟩ := k0; exact DataW.trod_lt m _ _ _ hm
  have k1 := h1
  have lt1 : ∀ x ∈ p1, x.block < W.heap.size := by obtain ⟨m, hm⟩ := k1; exact DataW.trod_lt m _ _ _ hm
  obtain ⟨csca, rfl, hfca⟩ := open_flat (ks := [some .u32, some .u8, some .u16, some .u16, some .u16, some .u16, some .u32, none]) 6 (by kernel_rfl) (.inl ⟨_, Try.underlying25⟩) (hval 0 25 v0 rfl rfl) h0
  obtain ⟨_, _, rfl, ⟨ca0, rfl, wca0⟩, _, _, rfl, ⟨ca1, rfl, wca1⟩, _, _, rfl, ⟨ca2, rfl, wca2⟩, _, _, rfl, ⟨ca3, rfl, wca3⟩, _, _, rfl, ⟨ca4, rfl, wca4⟩, _, _, rfl, ⟨ca5, rfl, wca5⟩, _, _, rfl, ⟨ca6, rfl, wca6⟩, _, _, rfl, ⟨ca7, rfl⟩, rfl⟩ := hfca
  clear hA0 hval0
  refine (walk ca0 wca0 ca1 wca1 ca2 wca2 ca3 wca3 ca4 wca4 ca5 wca5 ca6 wca6 ca7 v1 W (hval 1 44 v1 rfl rfl) k1).mono fun e W' ⟨he, bel⟩ => ?_
  subst he
  exact ⟨_, rfl, _, _, _, [], _, [], hW', trodAll_mk1 (shut_bool Try.underlying4 _), (trodAll_cons_mk (Below.trod laidOut (by kernel_rfl) (of_decide_eq_true (by kernel_rfl)) k0 bel lt0) (trodAll_cons_mk (Below.trod laidOut (by kernel_rfl) (of_decide_eq_true (by kernel_rfl)) k1 bel lt1) trodAll_mk0)), rfl, bel.frame _, fun h => by cases h⟩
theorem over : Rows.deriveLessRow.holds Try.pinned (OpenSpec.ofChange Rows.deriveLessSpec) :=
  OpenClaim.holds_of_wide 11 Try.f11 rfl rfl rfl rfl rfl rfl rfl ⟨rfl, rfl, rfl, rfl, rfl⟩ rfl rfl rfl rfl rfl (by kernel_rfl) Try.func11 (by kernel_rfl)
    (of_decide_eq_true (by kernel_rfl)) (by unfold Func.isWrapper; first | (rw [if_pos (by decide +kernel)]; kernel_rfl) | (rw [if_neg (by decide +kernel)]; exact ⟨rfl, rfl⟩))
    (fun os started H enc _ => lifted os started H enc)
/-- The given statement. -/
theorem proved : Rows.DeriveLessSaid := over
end Go.Proofs.Ythniimefocjamaa.dless
