/- Proved: words are fetched and done, one behind the other, as the document says (the card of CoreRuns): for every input; the table of forms is tied to the program's text. -/
import Derived.Test.YtkmgdfcambdeeaaGreatDoorQCAll
import Derived.Test.YtkmgdfcambdeeaaGreatDoorTie
import Derived.Test.YtkmgdfcambdeeaaGreatDoorCards
import Derived.Deep.LoopGhost
import Derived.BigQuiet
import Derived.SevenTiedAt
import Derived.ProofKit
import Derived.OpenShut
import Derived.ShutString
import Derived.ChangeOld
namespace Go.Proofs.YtkmgdfcambdeeaaGreatDoor.cruns
open Go.ChangeShapes Go.WideShapes Go.ChangeAt Go.RowKit
open Go.ChangeMaps (open_string shut_string)
set_option linter.unusedVariables false
set_option maxRecDepth 100000
set_option maxHeartbeats 32000000 in
theorem walkN (F0 : List Cp) (hF : Fit F0) (Al : Option Addr) (len cap : Nat) (hlen : len ≤ 9223372036854775807) (hcap : len ≤ cap) (W : World) (hP : PutsIn W W.heap.size Al len) (hT : Tabs W) :
    Calls Tryz.prog 4 #[fV F0, .slice Al len cap] W fun e w' => e = .returned (.bool true) ∧ Below W.heap.size W w' := by
  have k0 := Lib.hid ((KR.start (W := W)).push (fC F0) 28)
  have hM := Lib.hid (fun w h => mem_any Al len cap hlen hcap w h)
  replace hP := Lib.hid hP
  replace hT := Lib.hid hT
  have lF := hF.len
  have hF0 := Lib.hid hF
  have hWk := Lib.hid works10_any
  clear hlen hcap hF
  unfold fV
  go_enter Tryz.func4, Tryz.ntmps4
  go_upto_region 1 with (fail)
  generalize (W.alloc (.cells (fC F0).toArray 28)) = w1 at k0 ⊢
  go_wp2_with fail
  refine (hM.out w1 ((hP.out.below k0.out.bl).more k0.out.bl.size)).mono ?_
  rintro e w2 ⟨a, mb, wb, bb, c, r, rb, tb, f0, l0, rfl, hTwo, hb2, hn2⟩
  have B2 := Lib.hid (Bo.start hTwo hn2 hb2 k0.out (fun x hx => by simp at hx; subst hx; simp))
  clear hTwo hb2 hn2 k0 hM hP
  have nq := Lib.hid (Nat.ne_of_gt (B2.out.lt (x := ⟨W.heap.size, fC F0⟩) (by simp)))
  have rg := B2.out.range (g := W.heap.size) (vs := fC F0) (by simp)
  have rg' := (B2.out.push (fC zF) 28).range (g := W.heap.size) (vs := fC F0) (by simp)
  rw [← zero_fr] at rg'
  have P4 := B2.out.push (fC zF) 28
  have th : (w2.alloc (.cells Tryz.zeroCells28 28)).there w2.heap.size 0 (fC F0).toArray.size := by
    rw [show (fC F0).toArray.size = 136 from by rw [List.size_toArray, fC_len, lF], zero_fr]
    exact at_there (P4.rs _ (List.mem_cons_self ..)) 136 (by rw [fC_len]; decide)
  have B3 := Lib.hid (P4.putA (fun x hx => Nat.ne_of_lt (B2.out.lt hx)) (fC F0) (by rw [fC_len, fC_len, lF]; rfl))
  rw [← zero_fr] at B3
  have sa := size_fa lF
  have oa := one_fr F0
  clear P4 B2
  go_wp2_with ((with_reducible show wpList _ _ _ _ _ _); first | (refine wpList_load_mid rfl 28 _ rfl W.heap.size 0 rfl (fC F0) _ rg Tryz.underlying28 rfl (size_fr lF) ?_) | (refine wpList_load_mid rfl 28 _ rfl W.heap.size 0 rfl (fC F0) _ rg' Tryz.underlying28 rfl (size_fr lF) ?_) | (refine wpList_store_mid rfl 28 _ _ rfl w2.heap.size 0 (fC F0).toArray rfl rfl th sa oa ?_; clear th sa oa rg rg'; change wpList _ _ _ _ _ ((w2.alloc (.cells Tryz.zeroCells28 28)).setCells w2.heap.size 0 (fC F0)); generalize (w2.alloc (.cells Tryz.zeroCells28 28)).setCells w2.heap.size 0 (fC F0) = w3 at B3 ⊢; generalize w2.heap.size = qg at B3 nq ⊢))
  go_loopw [8] (fun i wr => ∃ (n : Nat) (F : List Cp) (f : Nat → Bool) (l : List UInt8), n ≤ 30 ∧ i = .int .i64 n ∧ Hid (Fit F ∧ Bo W a mb wb bb c r rb tb f l f l [⟨qg, fC F⟩, ⟨W.heap.size, fC F⟩] wr)) (fun i _ => 31 - (intOf i).toNat)
  case atStart => exact ⟨0, F0, f0, l0, by omega, rfl, Lib.hid ⟨hF0.out, B3.out⟩⟩
  case round =>
    obtain ⟨n, F, f, l, hn, rfl, hI⟩ := hrel
    clear B3 hF0 lF
    have hF := Lib.hid hI.out.1
    have B3 := Lib.hid hI.out.2
    have lF := hF.out.len
    clear hI
    by_cases hlt : n < 30
    · have jl : (n : Int) < 30 := by omega
      have hPf := Lib.hid (fun (w : World) (H : ArAt w a mb wb bb c 4096 256 f l) (h : Tabs w) => pFetch_any H h F hF.out)
      have hRf := Lib.hid (fun (w : World) (H : RfAt w r rb tb 4096 256 f l) => rFetch_any H F hF.out)
      obtain ⟨tt, htt⟩ : ∃ tt, tt = wayT (reg F 16) (reg F 16).cu 4 4 4096 := ⟨_, rfl⟩
      rw [← htt] at hPf hRf
      obtain ⟨⟨op, A, B, C, m⟩, hIn⟩ : ∃ I : Ins, I = (if tt = 0 then decW (getB l (reg F 16).cu 4 : Nat) else Ins.zero) := ⟨_, rfl⟩
      rw [← hIn] at hPf hRf
      unfold iv at hPf hRf
      clear hIn htt
      have rg := B3.out.range (g := W.heap.size) (vs := fC F) (by simp)
      go_wp2_with ((with_reducible show wpList _ _ _ _ _ _); refine wpList_load_mid rfl 28 _ rfl W.heap.size 0 rfl (fC F) _ rg Tryz.underlying28 rfl (size_fr lF) ?_)
      refine (hPf.out wr B3.out.ar (hT.out.below B3.out.bl)).mono ?_
      rintro ee w4 ⟨rfl, g⟩
      have B4 := Lib.hid (B3.out.below g)
      clear g B3 rg hPf
      have B5 := Lib.hid (B4.out.push (ir op A B C m) 30)
      have ni := Lib.hid (show w4.heap.size ≠ W.heap.size ∧ w4.heap.size ≠ qg from ⟨Nat.ne_of_gt (B4.out.lt (x := ⟨W.heap.size, fC F⟩) (by simp)), Nat.ne_of_gt (B4.out.lt (x := ⟨qg, fC F⟩) (by simp))⟩)
      clear B4
      go_upto_region 9 with (fail)
      change Code.wp _ _ _ _ (w4.alloc (.cells (ir op A B C m).toArray 30))
      generalize (w4.alloc (.cells (ir op A B C m).toArray 30)) = w5 at B5 ⊢
      generalize w4.heap.size = qi at B5 ni ⊢
      have rg := B5.out.range (g := qg) (vs := fC F) (by simp)
      go_wp2_with ((with_reducible show wpList _ _ _ _ _ _); refine wpList_load_mid rfl 28 _ rfl qg 0 rfl (fC F) _ rg Tryz.underlying28 rfl (size_fr lF) ?_)
      refine (hRf.out w5 B5.out.rf).mono ?_
      rintro ee w6 ⟨rfl, g⟩
      have B6 := Lib.hid (B5.out.below g)
      clear g B5 rg hRf
      have B7 := Lib.hid (B6.out.push (ir op A B C m) 30)
      have nk := Lib.hid (show w6.heap.size ≠ W.heap.size ∧ w6.heap.size ≠ qg from ⟨Nat.ne_of_gt (B6.out.lt (x := ⟨W.heap.size, fC F⟩) (by simp)), Nat.ne_of_gt (B6.out.lt (x := ⟨qg, fC F⟩) (by simp))⟩)
      clear B6
      go_upto_region 10 with (fail)
      change Code.wp _ _ _ _ (w6.alloc (.cells (ir op A B C m).toArray 30))
      generalize (w6.alloc (.cells (ir op A B C m).toArray 30)) = w7 at B7 ⊢
      generalize w6.heap.size = qk at B7 nk ⊢
      obtain ⟨S, hS0⟩ : ∃ S : World → Prop, S = fun w => Bo W a mb wb bb c r rb tb f l f l [⟨qk, ir op A B C m⟩, ⟨qi, ir op A B C m⟩, ⟨qg, fC F⟩, ⟨W.heap.size, fC F⟩] w := ⟨_, rfl⟩
      have hK : ∀ w, S w → Bo W a mb wb bb c r rb tb f l f l [⟨qk, ir op A B C m⟩, ⟨qi, ir op A B C m⟩, ⟨qg, fC F⟩, ⟨W.heap.size, fC F⟩] w := fun w h => by rw [hS0] at h; exact h
      have hS : ∀ u v, S u → Below u.heap.size u v → S v := fun u v h k => by rw [hS0] at h ⊢; exact h.below k
      have s0 : S w7 := by rw [hS0]; exact B7.out
      clear hS0
      obtain ⟨vN, hvN⟩ : ∃ v, v = fV (nxt F) := ⟨_, rfl⟩
      have hN1 : ∀ w, (binOp .neq 28 vN vN).run Tryz.prog w = .ok (.bool false) w := fun w => by rw [hvN]; exact fr_neq (nxt F) (nxt_fit hF.out).len w
      have hN2 : ∀ (x y : Operand) w, (eqGuard .neq 28 x y vN vN).run Tryz.prog w = .ok () w := fun x y w => by rw [hvN]; exact fr_nguard (nxt F) (nxt F) x y w
      have hI1 : ∀ w, (binOp .neq 30 (.agg #[.int .i64 op, .int .i64 A, .int .i64 B, .int .i64 C, .int .i64 m]) (.agg #[.int .i64 op, .int .i64 A, .int .i64 B, .int .i64 C, .int .i64 m])).run Tryz.prog w = .ok (.bool false) w := fun w => ins_neq op A B C m w
      have cP := Lib.hid (cls_call (S := S) fun w hw => (pNext_any F hF.out w).mono fun e w' k => (⟨by rw [hvN]; exact k.1, hS _ _ hw k.2⟩ : e = .returned vN ∧ S w'))
      have cR := Lib.hid (cls_call (S := S) fun w hw => (rNext_any F hF.out w).mono fun e w' k => (⟨by rw [hvN]; exact k.1, hS _ _ hw k.2⟩ : e = .returned vN ∧ S w'))
      unfold fV at cP cR
      have rF : ∀ w, (∃ y : Wd S, w = y.w) → w.rangeAt W.heap.size 0 (fC F) := fun w ⟨y, e⟩ => e ▸ (hK _ y.h).range (by simp)
      have rG : ∀ w, (∃ y : Wd S, w = y.w) → w.rangeAt qg 0 (fC F) := fun w ⟨y, e⟩ => e ▸ (hK _ y.h).range (by simp)
      have HS := Lib.hid hS
      have HK := Lib.hid hK
      have ii : ∀ (j : Nat) (u : Value), (ir op A B C m)[j]? = some u → ∀ y : Wd S, y.w.cell? ⟨qi, j, none⟩ = some u := fun j u hu y => (hK _ y.h).cell (ir op A B C m) (by simp) hu
      have kk : ∀ (j : Nat) (u : Value), (ir op A B C m)[j]? = some u → ∀ y : Wd S, y.w.cell? ⟨qk, j, none⟩ = some u := fun j u hu y => (hK _ y.h).cell (ir op A B C m) (by simp) hu
      have i0 := ii 0 _ rfl
      have i1 := ii 1 _ rfl
      have i2 := ii 2 _ rfl
      have i3 := ii 3 _ rfl
      have i4 := ii 4 _ rfl
      have n0 := kk 0 _ rfl
      have n1 := kk 1 _ rfl
      have n2 := kk 2 _ rfl
      have n3 := kk 3 _ rfl
      have n4 := kk 4 _ rfl
      clear hK hS ii kk hvN B7
      refine region_cls S (by kernel_rfl) (by kernel_rfl) (HS.out _ _ s0 (Below.refl _ _).drew) ?_
      repeat (first
        | go_big_quiet_skip
        | (go_big_quiet_want
           first
           | (refine quiet_load_mid 28 _ rfl W.heap.size 0 rfl (fC F) _ rF Tryz.underlying28 rfl (size_fr lF) ?_
              simp only [Act.put, List.setIfInBounds_toArray, List.set_cons_zero, List.set_cons_succ]
              go_big_quiet_on)
           | (refine quiet_load_mid 28 _ rfl qg 0 rfl (fC F) _ rG Tryz.underlying28 rfl (size_fr lF) ?_
              simp only [Act.put, List.setIfInBounds_toArray, List.set_cons_zero, List.set_cons_succ]
              go_big_quiet_on)
           | (go_big_quiet_op
              first
              | go_big_quiet_on
              | (apply Exists.intro
                 refine ⟨fun y => ?_, ?_⟩
                 · first | exact rfl | with_reducible exact cP.out y | with_reducible exact cR.out y | exact cP.out y | exact cR.out y
                 go_big_quiet_on))))
      refine wpQuiet_nil ?_
      intro y
      have B8 := Lib.hid (HK.out _ y.h)
      generalize y.w = w8 at B8 ⊢
      clear y cP cR rF rG HS HK i0 i1 i2 i3 i4 n0 n1 n2 n3 n4 s0 hN1 hN2 hI1
      by_cases ht : tt = 0
      · subst ht
        have hDo := Lib.hid (fun (w : World) (H : ArAt w a mb wb bb c 4096 256 f l) (h : Tabs w) => pDo_any H h F hF.out ⟨op, A, B, C, m⟩)
        have hEo := Lib.hid (fun (w : World) (H : RfAt w r rb tb 4096 256 f l) => rDo_any H F hF.out ⟨op, A, B, C, m⟩)
        have fG := Lib.hid (doF_fit hF.out ⟨op, A, B, C, m⟩ 4096 f l)
        unfold iv at hDo hEo
        generalize doT F ⟨op, A, B, C, m⟩ 4096 = t2 at *
        generalize doF F ⟨op, A, B, C, m⟩ 4096 f l = G at *
        generalize doG F ⟨op, A, B, C, m⟩ 4096 f = f2 at *
        generalize doL F ⟨op, A, B, C, m⟩ 4096 l = l2 at *
        have lG := fG.out.len
        have rgF := B8.out.range (g := W.heap.size) (vs := fC F) (by simp)
        have i0 := B8.out.cell (g := qi) (j := 0) (u := .int .i64 op) (ir op A B C m) (by simp) rfl
        have i1 := B8.out.cell (g := qi) (j := 1) (u := .int .i64 A) (ir op A B C m) (by simp) rfl
        have i2 := B8.out.cell (g := qi) (j := 2) (u := .int .i64 B) (ir op A B C m) (by simp) rfl
        have i3 := B8.out.cell (g := qi) (j := 3) (u := .int .i64 C) (ir op A B C m) (by simp) rfl
        have i4 := B8.out.cell (g := qi) (j := 4) (u := .int .i64 m) (ir op A B C m) (by simp) rfl
        go_wp2_with ((with_reducible show wpList _ _ _ _ _ _); refine wpList_load_mid rfl 28 _ rfl W.heap.size 0 rfl (fC F) _ rgF Tryz.underlying28 rfl (size_fr lF) ?_)
        refine (hDo.out w8 B8.out.ar (hT.out.below B8.out.bl)).mono ?_
        rintro ee w9 ⟨rfl, g⟩
        have B9 := Lib.hid (B8.out.nxt g)
        clear g B8 rgF i0 i1 i2 i3 i4 hDo
        have th := B9.out.there (g := W.heap.size) (vs := fC F) (by simp) 0 (fC G).toArray.size (by rw [List.size_toArray, fC_len, fC_len, lG, lF]; decide)
        have BA := Lib.hid ((B9.out.sub (L' := ⟨W.heap.size, fC F⟩ :: [⟨qk, ir op A B C m⟩, ⟨qi, ir op A B C m⟩, ⟨qg, fC F⟩]) (by simp only [List.mem_cons, List.not_mem_nil, or_false]; rintro x (rfl | rfl | rfl | rfl) <;> simp)).putA (fun x hx => by simp only [List.mem_cons, List.not_mem_nil, or_false] at hx; rcases hx with rfl | rfl | rfl <;> first | exact nk.out.1 | exact ni.out.1 | exact nq.out) (fC G) (by rw [fC_len, fC_len, lG, lF]))
        have sa := size_fa lG
        have oa := one_fr G
        clear B9
        go_wp2_with ((with_reducible show wpList _ _ _ _ _ _); first | (refine wpList_store_mid rfl 28 _ _ rfl W.heap.size 0 (fC G).toArray rfl rfl th sa oa ?_; clear th sa oa; change wpList _ _ _ _ _ (w9.setCells W.heap.size 0 (fC G)); generalize w9.setCells W.heap.size 0 (fC G) = wA at BA ⊢; have rgG := BA.out.range (g := qg) (vs := fC F) (by simp); have i0 := BA.out.cell (g := qk) (j := 0) (u := .int .i64 op) (ir op A B C m) (by simp) rfl; have i1 := BA.out.cell (g := qk) (j := 1) (u := .int .i64 A) (ir op A B C m) (by simp) rfl; have i2 := BA.out.cell (g := qk) (j := 2) (u := .int .i64 B) (ir op A B C m) (by simp) rfl; have i3 := BA.out.cell (g := qk) (j := 3) (u := .int .i64 C) (ir op A B C m) (by simp) rfl; have i4 := BA.out.cell (g := qk) (j := 4) (u := .int .i64 m) (ir op A B C m) (by simp) rfl) | (refine wpList_load_mid rfl 28 _ rfl qg 0 rfl (fC F) _ rgG Tryz.underlying28 rfl (size_fr lF) ?_))
        refine (hEo.out wA BA.out.rf).mono ?_
        rintro ee wB ⟨rfl, g⟩
        have BB := Lib.hid (BA.out.rxt g)
        clear g BA rgG i0 i1 i2 i3 i4 hEo
        have th := BB.out.there (g := qg) (vs := fC F) (by simp) 0 (fC G).toArray.size (by rw [List.size_toArray, fC_len, fC_len, lG, lF]; decide)
        have BC := Lib.hid ((BB.out.sub (L' := ⟨qg, fC F⟩ :: [⟨W.heap.size, fC G⟩, ⟨qk, ir op A B C m⟩, ⟨qi, ir op A B C m⟩]) (by simp only [List.mem_cons, List.not_mem_nil, or_false]; rintro x (rfl | rfl | rfl | rfl) <;> simp)).putA (fun x hx => by simp only [List.mem_cons, List.not_mem_nil, or_false] at hx; rcases hx with rfl | rfl | rfl <;> first | exact Ne.symm nq.out | exact nk.out.2 | exact ni.out.2) (fC G) (by rw [fC_len, fC_len, lG, lF]))
        have sa := size_fa lG
        have oa := one_fr G
        clear BB
        have hB1 : ∀ w, (binOp .neq 28 (.agg (fC G).toArray) (.agg (fC G).toArray)).run Tryz.prog w = .ok (.bool false) w := fun w => fr_neq G lG w
        have hG1 : ∀ (x y : Operand) w, (eqGuard .neq 28 x y (.agg (fC G).toArray) (.agg (fC G).toArray)).run Tryz.prog w = .ok () w := fun x y w => fr_nguard G G x y w
        by_cases ht2 : t2 = 0
        · subst ht2
          have h4 : ((op == 50) = true ∨ (op == 50) = false ∧ (op == 51) = true ∨ (op == 50) = false ∧ (op == 51) = false ∧ (op == 52) = true) ∨ (op ≠ 50 ∧ op ≠ 51 ∧ op ≠ 52) := by simp only [beq_iff_eq, beq_eq_false_iff_ne]; omega
          rcases h4 with h3 | ⟨e0, e1, e2⟩
          · rcases h3 with d0 | ⟨d0, d1⟩ | ⟨d0, d1, d2⟩
            all_goals
              go_wp2_with ((with_reducible show wpList _ _ _ _ _ _); first | (refine wpList_store_mid rfl 28 _ _ rfl qg 0 (fC G).toArray rfl rfl th sa oa ?_; clear th sa oa; change wpList _ _ _ _ _ (wB.setCells qg 0 (fC G)); generalize wB.setCells qg 0 (fC G) = wC at BC ⊢; have rgF := BC.out.range (g := W.heap.size) (vs := fC G) (by simp); have rgG := BC.out.range (g := qg) (vs := fC G) (by simp); have i0 := BC.out.cell (g := qi) (j := 0) (u := .int .i64 op) (ir op A B C m) (by simp) rfl) | (refine wpList_load_mid rfl 28 _ rfl W.heap.size 0 rfl (fC G) _ rgF Tryz.underlying28 rfl (size_fr lG) ?_) | (refine wpList_load_mid rfl 28 _ rfl qg 0 rfl (fC G) _ rgG Tryz.underlying28 rfl (size_fr lG) ?_; generalize Value.agg (fC G).toArray = vG at hB1 hG1 ⊢))
              refine (pNext_any G fG.out _).mono ?_
              rintro ee wD ⟨rfl, g⟩
              have BD := Lib.hid (BC.out.below g)
              clear g BC rgF rgG i0
              have lN := (nxt_fit fG.out).len
              have fN := Lib.hid (nxt_fit fG.out)
              have hRN := Lib.hid (fun w => rNext_any G fG.out w)
              generalize nxt G = GN at *
              have th := BD.out.there (g := W.heap.size) (vs := fC G) (by simp) 0 (fC GN).toArray.size (by rw [List.size_toArray, fC_len, fC_len, lN, lG]; decide)
              have BE := Lib.hid ((BD.out.sub (L' := ⟨W.heap.size, fC G⟩ :: [⟨qk, ir op A B C m⟩, ⟨qi, ir op A B C m⟩, ⟨qg, fC G⟩]) (by simp only [List.mem_cons, List.not_mem_nil, or_false]; rintro x (rfl | rfl | rfl | rfl) <;> simp)).putA (fun x hx => by simp only [List.mem_cons, List.not_mem_nil, or_false] at hx; rcases hx with rfl | rfl | rfl <;> first | exact nk.out.1 | exact ni.out.1 | exact nq.out) (fC GN) (by rw [fC_len, fC_len, lN, lG]))
              have sa := size_fa lN
              have oa := one_fr GN
              clear BD
              go_wp2_with ((with_reducible show wpList _ _ _ _ _ _); first | (refine wpList_store_mid rfl 28 _ _ rfl W.heap.size 0 (fC GN).toArray rfl rfl th sa oa ?_; clear th sa oa; change wpList _ _ _ _ _ (wD.setCells W.heap.size 0 (fC GN)); generalize wD.setCells W.heap.size 0 (fC GN) = wE at BE ⊢; have rgG := BE.out.range (g := qg) (vs := fC G) (by simp)) | (refine wpList_load_mid rfl 28 _ rfl qg 0 rfl (fC G) _ rgG Tryz.underlying28 rfl (size_fr lG) ?_))
              refine (hRN.out _).mono ?_
              rintro ee wF ⟨rfl, g⟩
              have BF := Lib.hid (BE.out.below g)
              clear g BE rgG hRN
              have th := BF.out.there (g := qg) (vs := fC G) (by simp) 0 (fC GN).toArray.size (by rw [List.size_toArray, fC_len, fC_len, lN, lG]; decide)
              have BG := Lib.hid ((BF.out.sub (L' := ⟨qg, fC G⟩ :: [⟨W.heap.size, fC GN⟩, ⟨qk, ir op A B C m⟩, ⟨qi, ir op A B C m⟩]) (by simp only [List.mem_cons, List.not_mem_nil, or_false]; rintro x (rfl | rfl | rfl | rfl) <;> simp)).putA (fun x hx => by simp only [List.mem_cons, List.not_mem_nil, or_false] at hx; rcases hx with rfl | rfl | rfl <;> first | exact Ne.symm nq.out | exact nk.out.2 | exact ni.out.2) (fC GN) (by rw [fC_len, fC_len, lN, lG]))
              have sa := size_fa lN
              have oa := one_fr GN
              clear BF
              go_wp2_with ((with_reducible show wpList _ _ _ _ _ _); refine wpList_store_mid rfl 28 _ _ rfl qg 0 (fC GN).toArray rfl rfl th sa oa ?_; clear th sa oa; change wpList _ _ _ _ _ (wF.setCells qg 0 (fC GN)); generalize wF.setCells qg 0 (fC GN) = wG at BG ⊢)
              go_roundw
              case rel => exact ⟨n + 1, GN, f2, l2, by omega, by go_num, Lib.hid ⟨fN.out, BG.out.sub (by simp only [List.mem_cons, List.not_mem_nil, or_false]; rintro x (rfl | rfl) <;> simp)⟩⟩
              case measure => simp [intOf]; omega
          · have d0 : (op == 50) = false := by simpa using e0
            have d1 : (op == 51) = false := by simpa using e1
            have d2 : (op == 52) = false := by simpa using e2
            clear e0 e1 e2
            go_wp2_with ((with_reducible show wpList _ _ _ _ _ _); first | (refine wpList_store_mid rfl 28 _ _ rfl qg 0 (fC G).toArray rfl rfl th sa oa ?_; clear th sa oa; change wpList _ _ _ _ _ (wB.setCells qg 0 (fC G)); generalize wB.setCells qg 0 (fC G) = wC at BC ⊢; have rgF := BC.out.range (g := W.heap.size) (vs := fC G) (by simp); have rgG := BC.out.range (g := qg) (vs := fC G) (by simp); have i0 := BC.out.cell (g := qi) (j := 0) (u := .int .i64 op) (ir op A B C m) (by simp) rfl) | (refine wpList_load_mid rfl 28 _ rfl W.heap.size 0 rfl (fC G) _ rgF Tryz.underlying28 rfl (size_fr lG) ?_) | (refine wpList_load_mid rfl 28 _ rfl qg 0 rfl (fC G) _ rgG Tryz.underlying28 rfl (size_fr lG) ?_; generalize Value.agg (fC G).toArray = vG at hB1 hG1 ⊢))
            go_roundw
            case rel => exact ⟨n + 1, G, f2, l2, by omega, by go_num, Lib.hid ⟨fG.out, BC.out.sub (by simp only [List.mem_cons, List.not_mem_nil, or_false]; rintro x (rfl | rfl) <;> simp)⟩⟩
            case measure => simp [intOf]; omega
        · have t1 : (t2 != 0) = true := by simpa using ht2
          go_wp2_with ((with_reducible show wpList _ _ _ _ _ _); first | (refine wpList_store_mid rfl 28 _ _ rfl qg 0 (fC G).toArray rfl rfl th sa oa ?_; clear th sa oa; change wpList _ _ _ _ _ (wB.setCells qg 0 (fC G)); generalize wB.setCells qg 0 (fC G) = wC at BC ⊢; have rgF := BC.out.range (g := W.heap.size) (vs := fC G) (by simp); have rgG := BC.out.range (g := qg) (vs := fC G) (by simp); have i0 := BC.out.cell (g := qi) (j := 0) (u := .int .i64 op) (ir op A B C m) (by simp) rfl) | (refine wpList_load_mid rfl 28 _ rfl W.heap.size 0 rfl (fC G) _ rgF Tryz.underlying28 rfl (size_fr lG) ?_) | (refine wpList_load_mid rfl 28 _ rfl qg 0 rfl (fC G) _ rgG Tryz.underlying28 rfl (size_fr lG) ?_; generalize Value.agg (fC G).toArray = vG at hB1 hG1 ⊢))
          refine (same10_any BC.out.ar BC.out.rf (by decide)).mono ?_
          rintro ee wy ⟨rfl, g⟩
          have Y1 := Lib.hid (BC.out.bl.trans (g.mono BC.out.bl.size))
          clear g BC
          go_wp2_with fail
          refine (hWk.out wy (hT.out.below Y1.out)).mono ?_
          rintro ee wz ⟨rfl, g⟩
          have Y2 := Lib.hid (Y1.out.trans (g.mono Y1.out.size))
          clear g Y1
          go_wp2_with fail
          go_ret
          exact ⟨rfl, Y2.out⟩
      · have t1 : (tt != 0) = true := by simpa using ht
        go_wp2_with fail
        refine (same10_any B8.out.ar B8.out.rf (by decide)).mono ?_
        rintro ee wy ⟨rfl, g⟩
        have Y1 := Lib.hid (B8.out.bl.trans (g.mono B8.out.bl.size))
        clear g B8
        go_wp2_with fail
        refine (hWk.out wy (hT.out.below Y1.out)).mono ?_
        rintro ee wz ⟨rfl, g⟩
        have Y2 := Lib.hid (Y1.out.trans (g.mono Y1.out.size))
        clear g Y1
        go_wp2_with fail
        go_ret
        exact ⟨rfl, Y2.out⟩
    · obtain rfl : n = 30 := by omega
      go_wp2_with fail
      refine (same10_any B3.out.ar B3.out.rf (by decide)).mono ?_
      rintro ee wy ⟨rfl, g⟩
      have Y1 := Lib.hid (B3.out.bl.trans (g.mono B3.out.bl.size))
      clear g B3
      go_wp2_with fail
      refine (hWk.out wy (hT.out.below Y1.out)).mono ?_
      rintro ee wz ⟨rfl, g⟩
      have Y2 := Lib.hid (Y1.out.trans (g.mono Y1.out.size))
      clear g Y1
      go_wp2_with fail
      go_ret
      exact ⟨rfl, Y2.out⟩
theorem walk {H : Type} {enc : TypeId × Value → H} (f : List Cp) (wf : Fit f) (v1 : Value) {d0 : DataW H} {p0 : List MemPlace} (W : World)
    (hv : Value.okWide Tryz.prog W .any 0 31 v1) (hd : DataW.Trod enc Tryz.prog W 0 (fun _ => true) true 31 v1 d0 p0) (hT : Tabs W) :
    Calls Tryz.prog 4 #[.agg (fC f).toArray, v1] W fun e w' => e = .returned (.bool true) ∧ Below W.heap.size W w' := by
  obtain ⟨A, len, cap, rfl, hcap, hm, hP⟩ := puts_of hv hd
  have hlen : len ≤ 9223372036854775807 := by unfold maxLen at hm; omega
  exact walkN f wf A len cap hlen hcap W hP hT
set_option maxRecDepth 100000 in
theorem lifted (os : Os) (started : os.Started) (H : Type) (enc : TypeId × Value → H) :
    ReturnsInHanded {} Tryz.checked os 4 .any (fun w args => (Rows.coreRunsSpec.pre enc Tryz.prog Tryz.f4 [] false w args ∧ laidMetH Tryz.prog Rows.coreRunsRow.laid w) ∧ sizedMet enc Tryz.prog Tryz.f4 (OpenSpec.ofChange Rows.coreRunsSpec) false w args) (Rows.coreRunsSpec.post enc Tryz.prog Tryz.f4 false true false false) := by
  refine returnsInHanded_of_change_and (C := Tryz.checked) (X := fun w _ => laidMetH Tryz.prog Rows.coreRunsRow.laid w) (fun _ _ _ hh h => h.of_heap hh) own started (by kernel_rfl) Tryz.func4
    (ChangeSpec.witness_at (enc := enc) (C := Tryz.checked) (os := os) (X := fun w _ => laidMetH Tryz.prog Rows.coreRunsRow.laid w) false (laidWorld os) #[fV zF, .slice none 0 0] 8 rfl (by kernel_rfl) (by kernel_rfl) (by kernel_rfl) (by kernel_rfl) (by kernel_rfl) (laid_met os _)) ?_
  intro W base args ds gs before hval0 hW _ _ hL _
  have hval : ∀ (j : Nat) t v, Tryz.f4.params[j]? = some t → args[j]? = some v → Value.okWide Tryz.prog W .any base t v := hval0
  have hW' := hW
  obtain ⟨p, q, hA0, hV, rfl, hfz, hnd⟩ := hW
  have hA : DataW.TrodAll enc Tryz.prog W 0 (fun _ => true) true Tryz.f4.params.toList args.toList ds p := hA0
  rw [Tryz.params4] at hA hval
  obtain ⟨v0, vs0, d0, ds0, p0, q0, hargs, rfl, rfl, h0, r0⟩ := trodAll_cons hA
  obtain ⟨v1, vs1, d1, ds1, p1, q1, rfl, rfl, rfl, h1, r1⟩ := trodAll_cons r0
  obtain ⟨rfl, rfl, rfl⟩ := trodAll_nil r1
  obtain rfl : args = #[v0, v1] := by cases args; simp_all
  obtain ⟨rfl, rfl⟩ := trodVars_none hV
  have k0 := h0
  have lt0 : ∀ x ∈ p0, x.block < W.heap.size := by obtain ⟨m, hm⟩ := k0; exact DataW.trod_lt m _ _ _ hm
  have k1 := h1
  have lt1 : ∀ x ∈ p1, x.block < W.heap.size := by obtain ⟨m, hm⟩ := k1; exact DataW.trod_lt m _ _ _ hm
  obtain ⟨csf, rfl, hff⟩ := open_flat (ks := frK) 6 (by kernel_rfl) (.inl ⟨_, Tryz.underlying28⟩) (hval 0 28 v0 rfl rfl) h0
  obtain ⟨f, wf, rfl⟩ := frame_of hff
  clear hA0 hval0
  refine (walk f wf v1 W (hval 1 31 v1 rfl rfl) k1 (tabs_of_laid hL)).mono fun e W' ⟨he, bel⟩ => ?_
  subst he
  exact ⟨_, rfl, _, _, _, [], _, [], hW', trodAll_mk1 (shut_bool Tryz.underlying4 _), (trodAll_cons_mk (Below.trod laidOut (by kernel_rfl) (of_decide_eq_true (by kernel_rfl)) k0 bel lt0) (trodAll_cons_mk (Below.trod laidOut (by kernel_rfl) (of_decide_eq_true (by kernel_rfl)) k1 bel lt1) trodAll_mk0)), rfl, bel.frame _, fun h => by cases h⟩
theorem over : Rows.CoreRunsSaid :=
  OpenClaim.holds_of_wide 4 Tryz.f4 rfl rfl rfl rfl rfl rfl rfl ⟨rfl, rfl, rfl, rfl, rfl⟩ rfl rfl rfl rfl rfl (by kernel_rfl) Tryz.func4 (by kernel_rfl)
    (of_decide_eq_true (by kernel_rfl)) (by unfold Func.isWrapper; first | (rw [if_pos (by decide +kernel)]; kernel_rfl) | (rw [if_neg (by decide +kernel)]; exact ⟨rfl, rfl⟩))
    (fun os started H enc _ => lifted os started H enc)
/-- The given statement. -/
theorem proved : Rows.CoreRunsCardSaid :=
  Claim7.holds_tied_plain_at .later [] [.data] true (true, "a811f8ea155858ad6287c3ef8a487e61324b84dc1f446f16a7919a50e5900a6a") false
    over (fun _ h => by cases h) (by kernel_rfl) (fun _ h => by cases h) coreRuns_row_tie rfl ⟨rfl, rfl⟩ (by kernel_rfl) rfl
    (fun f fn hf hfn => by
      obtain rfl : f = 4 := Option.some.inj ((show Tryz.prog.funcNamed "fallow/fallowlaw10.CoreRuns" = some 4 by kernel_rfl).symm.trans hf) |>.symm
      obtain rfl : fn = Tryz.f4 := (Option.some.inj (Tryz.func4.symm.trans hfn)).symm
      exact ⟨by kernel_rfl, fun j t ht => by
        rw [Tryz.params4] at ht
        rcases j with _ | _ | j
        · obtain rfl : t = 28 := by simpa using ht.symm
          exact (show Tryz.prog.wantsStandIn 28 = false by kernel_rfl)
        · obtain rfl : t = 31 := by simpa using ht.symm
          exact (show Tryz.prog.wantsStandIn 31 = false by kernel_rfl)
        · simp at ht⟩)
    (by kernel_rfl)
end Go.Proofs.YtkmgdfcambdeeaaGreatDoor.cruns
