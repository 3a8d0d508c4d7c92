/- Proved: the chapter's examples (the card of CoreKnown): the closed statement holds; the table of forms is tied to the program's text. -/
import Derived.Test.YtkmgdfcambdeeaaGreatDoorCbK
import Derived.Test.YtkmgdfcambdeeaaGreatDoorLexP
import Derived.Test.YtkmgdfcambdeeaaGreatDoorTie
import Derived.Test.YtkmgdfcambdeeaaGreatDoorCards
import Derived.BigQuiet
import Derived.SevenTiedAt
import Derived.ProofKit
import Derived.OpenShut
import Derived.ShutString
import Derived.ChangeOld
namespace Go.Proofs.YtkmgdfcambdeeaaGreatDoor.cknow
open Go.ChangeShapes Go.WideShapes Go.ChangeAt Go.RowKit
open Go.ChangeMaps (open_string shut_string)
set_option linter.unusedVariables false
set_option maxRecDepth 100000
set_option maxHeartbeats 16000000 in
theorem walk (W : World) (hT : Tabs W) : Calls Tryz.prog 8 #[] W fun e w' => e = .returned (.bool true) ∧ Below W.heap.size W w' := by
  have hA := Lib.hid (anew_yes 16 W (by decide) (by decide))
  have hFr := Lib.hid frame_any
  have hWo := Lib.hid works10_any
  have hN1 := Lib.hid (fun w => pNumber_any 4294967282 (by decide) w)
  have hN2 := Lib.hid (fun w => pNumber_any 64 (by decide) w)
  have hN3 := Lib.hid (fun w => pNumber_any 4294967295 (by decide) w)
  have hNx := Lib.hid (fun w => pNext_any kG kG_fit w)
  replace hT := Lib.hid hT
  go_enter Tryz.func8, Tryz.ntmps8
  go_wp2_with fail
  refine hA.out.mono ?_
  rintro e w1 ⟨a, rfl, mb, wb, bb, c, ha, hb1, x1, x2, x3, x4⟩
  have S1 := Lib.hid (Sk.first (show ArAt w1 a mb wb bb c 4096 256 F0 L0 from ha) hb1 x3 x4)
  clear hA ha hb1 x1 x2 x3 x4
  have D1 := Lib.hid (fun (w : World) (H : ArAt w a mb wb bb c 4096 256 F0 L0) (h : Tabs w) => (show Calls Tryz.prog 12 #[fV frL, iv ⟨1, 3, 0, 0, -7⟩, .pointer (some ⟨a, 0, none⟩)] w (Nxt a mb wb bb c 4096 256 F0 L0 w (.tuple #[fV frA, .int .i64 0])) from by rw [← sf1 F0 L0]; exact kdo (a := a) frL_fit ⟨1, 3, 0, 0, -7⟩ F0 L0 0 st1 (.inr rfl) w H h))
  have D2 := Lib.hid (fun (w : World) (H : ArAt w a mb wb bb c 4096 256 F0 L0) (h : Tabs w) => (show Calls Tryz.prog 12 #[fV frA, iv ⟨3, 3, 3, 3, 0⟩, .pointer (some ⟨a, 0, none⟩)] w (Nxt a mb wb bb c 4096 256 F0 L0 w (.tuple #[fV kG, .int .i64 0])) from kdo frA_fit ⟨3, 3, 3, 3, 0⟩ F0 L0 0 kt_add (.inr rfl) w H h))
  have D3 := Lib.hid (fun (w : World) (H : ArAt w a mb wb bb c 4096 256 F0 L0) (h : Tabs w) => (show Calls Tryz.prog 12 #[fV kG, iv ⟨22, 3, 1, 0, 2⟩, .pointer (some ⟨a, 0, none⟩)] w (Nxt a mb wb bb c 4096 256 F0 L0 w (.tuple #[fV zF, .int .i64 5])) from kdz kG_fit ⟨22, 3, 1, 0, 2⟩ F0 L0 5 kt_sw2 (by decide) w H h))
  have D4 := Lib.hid (fun (w : World) (H : ArAt w a mb wb bb c 4096 256 F0 L0) (h : Tabs w) => (show Calls Tryz.prog 12 #[fV kG, iv ⟨22, 3, 3, 0, 0⟩, .pointer (some ⟨a, 0, none⟩)] w (Nxt a mb wb bb c 4096 256 F0 L0 w (.tuple #[fV zF, .int .i64 1])) from kdz kG_fit ⟨22, 3, 3, 0, 0⟩ F0 L0 1 kt_sw3 (by decide) w H h))
  have D5 := Lib.hid (fun (w : World) (H : ArAt w a mb wb bb c 4096 256 F0 L0) (h : Tabs w) => (show Calls Tryz.prog 12 #[fV kG, iv ⟨24, 1, 1, 0, 16⟩, .pointer (some ⟨a, 0, none⟩)] w (Nxt a mb wb bb c 4096 256 kf kl w (.tuple #[fV (doF kG ⟨24, 1, 1, 0, 16⟩ 4096 F0 L0), .int .i64 0])) from by
    have k := pDo_any H h kG kG_fit ⟨24, 1, 1, 0, 16⟩
    rw [kt_sc] at k
    exact k))
  have T1 := Lib.hid (fun (w : World) (H : ArAt w a mb wb bb c 4096 256 kf kl) (h : Tabs w) => (show Calls Tryz.prog 10 #[fV kG, iv ⟨23, 4, 1, 0, 16⟩, .pointer (some ⟨a, 0, none⟩)] w fun e w' => e = .returned (.tuple #[.int .i64 1, .bool true]) ∧ Below w.heap.size w w' from by
    have k := pTouch_any H h kG kG_fit 23 4 1 0 16
    rw [kq_lc.1, kq_lc.2] at k
    exact k))
  obtain ⟨t2, ht2⟩ : ∃ t, t = touP kG ⟨19, 4, 1, 0, 16⟩ 4096 := ⟨_, rfl⟩
  have T2 := Lib.hid (fun (w : World) (H : ArAt w a mb wb bb c 4096 256 kf kl) (h : Tabs w) => (show Calls Tryz.prog 10 #[fV kG, iv ⟨19, 4, 1, 0, 16⟩, .pointer (some ⟨a, 0, none⟩)] w fun e w' => e = .returned (.tuple #[.int .i64 (t2 : Nat), .bool false]) ∧ Below w.heap.size w w' from by
    have k := pTouch_any H h kG kG_fit 19 4 1 0 16
    rw [kq_lw, ← ht2] at k
    exact k))
  obtain ⟨t3, ht3⟩ : ∃ t, t = touP kG ⟨23, 4, 1, 0, 8⟩ 4096 := ⟨_, rfl⟩
  have T3 := Lib.hid (fun (w : World) (H : ArAt w a mb wb bb c 4096 256 kf kl) (h : Tabs w) => (show Calls Tryz.prog 10 #[fV kG, iv ⟨23, 4, 1, 0, 8⟩, .pointer (some ⟨a, 0, none⟩)] w fun e w' => e = .returned (.tuple #[.int .i64 (t3 : Nat), .bool false]) ∧ Below w.heap.size w w' from by
    have k := pTouch_any H h kG kG_fit 23 4 1 0 8
    rw [kq_l8, ← ht3] at k
    exact k))
  clear ht2 ht3
  have D6 := Lib.hid (fun (w : World) (H : ArAt w a mb wb bb c 4096 256 kf kl) (h : Tabs w) => (show Calls Tryz.prog 12 #[fV kG, iv ⟨30, 5, 1, 0, 0⟩, .pointer (some ⟨a, 0, none⟩)] w (Nxt a mb wb bb c 4096 256 kf kl w (.tuple #[fV zF, .int .i64 3])) from kdz kG_fit ⟨30, 5, 1, 0, 0⟩ kf kl 3 kt_jalr (by decide) w H h))
  have D7 := Lib.hid (fun (w : World) (H : ArAt w a mb wb bb c 4096 256 kf kl) (h : Tabs w) => (show Calls Tryz.prog 12 #[fV frL, iv ⟨25, 3, 3, 0, 16⟩, .pointer (some ⟨a, 0, none⟩)] w (Nxt a mb wb bb c 4096 256 kf kl w (.tuple #[fV kJ, .int .i64 0])) from kdo frL_fit ⟨25, 3, 3, 0, 16⟩ kf kl 0 kt_beq (.inr rfl) w H h))
  have C1 := Lib.hid (fun (w : World) (H : ArAt w a mb wb bb c 4096 256 kf kl) (h : Tabs w) => (show Calls Tryz.prog 16 #[fV kJ, .pointer (some ⟨a, 0, none⟩)] w fun e w' => e = .returned (.tuple #[.agg #[.int .i64 0, .int .i64 0, .int .i64 0, .int .i64 0, .int .i64 0], .int .i64 4]) ∧ Below w.heap.size w w' from by
    have k := pFetch_any H h kJ (doF_fit frL_fit _ _ _ _)
    rw [kw_j] at k
    exact k))
  have C2 := Lib.hid (fun (w : World) (H : ArAt w a mb wb bb c 4096 256 kf kl) (h : Tabs w) => (show Calls Tryz.prog 16 #[fV frL, .pointer (some ⟨a, 0, none⟩)] w fun e w' => e = .returned (.tuple #[.agg #[.int .i64 0, .int .i64 0, .int .i64 0, .int .i64 0, .int .i64 0], .int .i64 0]) ∧ Below w.heap.size w w' from by
    have k := pFetch_any H h frL frL_fit
    rw [kw_f, if_pos rfl, kw_d] at k
    exact k))
  have D8 := Lib.hid (fun (w : World) (H : ArAt w a mb wb bb c 4096 256 kf kl) (h : Tabs w) => (show Calls Tryz.prog 12 #[fV kG, iv ⟨1, 16, 0, 0, 0⟩, .pointer (some ⟨a, 0, none⟩)] w (Nxt a mb wb bb c 4096 256 kf kl w (.tuple #[fV zF, .int .i64 6])) from kdz kG_fit ⟨1, 16, 0, 0, 0⟩ kf kl 6 kt_li (by decide) w H h))
  have D9 := Lib.hid (fun (w : World) (H : ArAt w a mb wb bb c 4096 256 kf kl) (h : Tabs w) => (show Calls Tryz.prog 12 #[fV kG, iv ⟨6, 3, 3, 0, 0⟩, .pointer (some ⟨a, 0, none⟩)] w (Nxt a mb wb bb c 4096 256 kf kl w (.tuple #[fV zF, .int .i64 7])) from kdz kG_fit ⟨6, 3, 3, 0, 0⟩ kf kl 7 kt_div (by decide) w H h))
  have DA := Lib.hid (fun (w : World) (H : ArAt w a mb wb bb c 4096 256 kf kl) (h : Tabs w) => (show Calls Tryz.prog 12 #[fV kWk, iv ⟨24, 1, 1, 0, 0⟩, .pointer (some ⟨a, 0, none⟩)] w (Nxt a mb wb bb c 4096 256 kf kl w (.tuple #[fV zF, .int .i64 3])) from kdz kWk_fit ⟨24, 1, 1, 0, 0⟩ kf kl 3 kt_scw (by decide) w H h))
  have DB := Lib.hid (fun (w : World) (H : ArAt w a mb wb bb c 4096 256 kf kl) (h : Tabs w) => (show Calls Tryz.prog 12 #[fV kWk, iv ⟨23, 4, 1, 0, 16⟩, .pointer (some ⟨a, 0, none⟩)] w (Nxt a mb wb bb c 4096 256 kf kl w (.tuple #[fV kQ, .int .i64 0])) from kdo kWk_fit ⟨23, 4, 1, 0, 16⟩ kf kl 0 kt_lcw (.inr rfl) w H h))
  have DC := Lib.hid (fun (w : World) (H : ArAt w a mb wb bb c 4096 256 kf kl) (h : Tabs w) => (show Calls Tryz.prog 12 #[fV kG, iv ⟨29, 2, 0, 0, 3⟩, .pointer (some ⟨a, 0, none⟩)] w (Nxt a mb wb bb c 4096 256 kf kl w (.tuple #[fV kS, .int .i64 0])) from kdo kG_fit ⟨29, 2, 0, 0, 3⟩ kf kl 0 kt_jal (.inr rfl) w H h))
  have DD := Lib.hid (fun (w : World) (H : ArAt w a mb wb bb c 4096 256 kf kl) (h : Tabs w) => (show Calls Tryz.prog 12 #[fV kG, iv ⟨52, 0, 0, 0, 3⟩, .pointer (some ⟨a, 0, none⟩)] w (Nxt a mb wb bb c 4096 256 kf kl w (.tuple #[fV kG, .int .i64 0])) from by have e := kr_u; unfold kU at e; have k := fun w H h => kdo (a := a) (mb := mb) (wb := wb) (bb := bb) (c := c) kG_fit ⟨52, 0, 0, 0, 3⟩ kf kl 0 kt_ecall (.inr rfl) w H h; rw [e] at k; exact k w H h))
  have DE := Lib.hid (fun (w : World) (H : ArAt w a mb wb bb c 4096 256 kf kl) (h : Tabs w) => (show Calls Tryz.prog 12 #[fV kG, iv ⟨44, 7, 1, 0, 0⟩, .pointer (some ⟨a, 0, none⟩)] w (Nxt a mb wb bb c 4096 256 kf kl w (.tuple #[fV kY, .int .i64 0])) from kdo kG_fit ⟨44, 7, 1, 0, 0⟩ kf kl 0 kt_glen (.inr rfl) w H h))
  have DF := Lib.hid (fun (w : World) (H : ArAt w a mb wb bb c 4096 256 kf kl) (h : Tabs w) => (show Calls Tryz.prog 12 #[fV kWh, iv ⟨44, 7, 1, 0, 0⟩, .pointer (some ⟨a, 0, none⟩)] w (Nxt a mb wb bb c 4096 256 kf kl w (.tuple #[fV kLg, .int .i64 0])) from kdo kWh_fit ⟨44, 7, 1, 0, 0⟩ kf kl 0 kt_glw (.inr rfl) w H h))
  have DG := Lib.hid (fun (w : World) (H : ArAt w a mb wb bb c 4096 256 kf kl) (h : Tabs w) => (show Calls Tryz.prog 12 #[fV kWb, iv ⟨19, 7, 1, 0, 0⟩, .pointer (some ⟨a, 0, none⟩)] w (Nxt a mb wb bb c 4096 256 kf kl w (.tuple #[fV zF, .int .i64 4])) from kdz kWb_fit ⟨19, 7, 1, 0, 0⟩ kf kl 4 kt_lw (by decide) w H h))
  have DH := Lib.hid (fun (w : World) (H : ArAt w a mb wb bb c 4096 256 kf kl) (h : Tabs w) => (show Calls Tryz.prog 12 #[fV kTo, iv ⟨30, 5, 5, 0, 0⟩, .pointer (some ⟨a, 0, none⟩)] w (Nxt a mb wb bb c 4096 256 kf kl w (.tuple #[fV kGo, .int .i64 0])) from kdo kTo_fit ⟨30, 5, 5, 0, 0⟩ kf kl 0 kt_to (.inr rfl) w H h))
  have DI := Lib.hid (fun (w : World) (H : ArAt w a mb wb bb c 4096 256 kf kl) (h : Tabs w) => (show Calls Tryz.prog 12 #[fV kTb, iv ⟨30, 6, 5, 0, 0⟩, .pointer (some ⟨a, 0, none⟩)] w (Nxt a mb wb bb c 4096 256 kf kl w (.tuple #[fV zF, .int .i64 2])) from kdz kTb_fit ⟨30, 6, 5, 0, 0⟩ kf kl 2 kt_tb (by decide) w H h))
  have lkG : kG.length = 17 := kG_fit.len
  have lkWk : kWk.length = 17 := kWk_fit.len
  have lkWh : kWh.length = 17 := kWh_fit.len
  have lkWb : kWb.length = 17 := kWb_fit.len
  have lkTo : kTo.length = 17 := kTo_fit.len
  have lkTb : kTb.length = 17 := kTb_fit.len
  have lkJ : kJ.length = 17 := (doF_fit frL_fit _ _ _ _).len
  have lkQ : kQ.length = 17 := (doF_fit kWk_fit _ _ _ _).len
  have lkS : kS.length = 17 := (doF_fit kG_fit _ _ _ _).len
  have lkY : kY.length = 17 := (doF_fit kG_fit _ _ _ _).len
  have lkLg : kLg.length = 17 := (doF_fit kWh_fit _ _ _ _).len
  have lkGo : kGo.length = 17 := (doF_fit kTo_fit _ _ _ _).len
  have lfrA : frA.length = 17 := frA_fit.len
  have lzF : zF.length = 17 := rfl
  obtain ⟨cj, ej, hcj⟩ := Option.map_eq_some_iff.1 kr_jp
  obtain ⟨cs, es, hcs⟩ := Option.map_eq_some_iff.1 kr_s2
  obtain ⟨cp, ep, hcp⟩ := Option.map_eq_some_iff.1 kr_sp
  obtain ⟨cg, eg, hcg⟩ := Option.map_eq_some_iff.1 kr_gop
  obtain ⟨ch, eh, hch⟩ := Option.map_eq_some_iff.1 kr_go5
  have g3 := Lib.hid kr_g3
  have gp := Lib.hid kr_gp
  have g1 := Lib.hid kr_g1
  have g5 := Lib.hid kr_g5
  have q4 := Lib.hid kr_q4
  have y7 := Lib.hid kr_y7
  have l7 := Lib.hid kr_l7
  have kn := Lib.hid kr_n
  replace ej := Lib.hid ej
  replace es := Lib.hid es
  replace ep := Lib.hid ep
  replace eg := Lib.hid eg
  replace eh := Lib.hid eh
  replace hcj := Lib.hid hcj
  replace hcs := Lib.hid hcs
  replace hcp := Lib.hid hcp
  replace hcg := Lib.hid hcg
  replace hch := Lib.hid hch
  have uWk := Lib.hid (show kG.set 1 ⟨256, 0, 256, 320, 3, 0, 0, true⟩ = kWk from rfl)
  have uWh := Lib.hid (show kG.set 1 ⟨0, 21, 0, 2048, 1, 0, 0, true⟩ = kWh from rfl)
  have uWc := Lib.hid (show kWh.set 1 ⟨0, 21, 0, 2048, 1, 0, 0, true⟩ = kWh from by unfold kWh; rw [List.set_set])
  have uWb := Lib.hid (show kWh.set 1 ⟨65536, 21, 0, 2048, 1, 0, 0, true⟩ = kWb from by unfold kWh kWb; rw [List.set_set])
  have h1 := Lib.hid (show kWh[1]? = some ⟨0, 21, 0, 2048, 1, 0, 0, true⟩ from by unfold kWh; exact List.getElem?_set_self (by rw [lkG]; decide))
  have uTo := Lib.hid (show kG.set 5 ⟨32, 0, 0, 256, 4, 0, 0, true⟩ = kTo from rfl)
  have uTb := Lib.hid (show kTo.set 5 ⟨32, 0, 0, 256, 4, 3, 0, true⟩ = kTb from by unfold kTo kTb; rw [List.set_set])
  have t5 := Lib.hid (show kTo[5]? = some ⟨32, 0, 0, 256, 4, 0, 0, true⟩ from by unfold kTo; exact List.getElem?_set_self (by rw [lkG]; decide))
  go_wp2_with fail
  refine (hFr.out _).mono ?_
  rintro ee w2 ⟨rfl, g⟩
  have S2 := Lib.hid (S1.out.below g)
  clear g S1 
  go_wp2_with fail
  refine (D1.out _ S2.out.st.ar (hT.out.below S2.out.bl)).mono ?_
  rintro ee w3 ⟨rfl, n1⟩
  have S3 := Lib.hid (S2.out.nxt n1)
  clear n1 S2 D1
  have th := S3.out.box_there lfrA
  have S4 := Lib.hid (S3.out.box lfrA)
  have sa := size_fa lfrA
  have oa := one_fr frA
  clear S3
  go_wp2_with ((with_reducible show wpList _ _ _ _ _ _); first | (refine wpList_store_mid rfl 28 _ _ rfl w3.heap.size 0 (fC frA).toArray rfl rfl th sa oa ?_; clear th sa oa; change wpList _ _ _ _ _ ((w3.alloc (.cells Tryz.zeroCells28 28)).setCells w3.heap.size 0 (fC frA)); generalize (w3.alloc (.cells Tryz.zeroCells28 28)).setCells w3.heap.size 0 (fC frA) = w4 at S4 ⊢; generalize w3.heap.size = qf at S4 ⊢; have rgqf := rs_range (S4.out.st.rs ⟨qf, fC frA⟩ (by simp))) | (refine wpList_load_mid rfl 28 _ rfl qf 0 rfl (fC frA) _ rgqf Tryz.underlying28 rfl (size_fr lfrA) ?_))
  refine (D2.out _ S4.out.st.ar (hT.out.below S4.out.bl)).mono ?_
  rintro ee w5 ⟨rfl, n1⟩
  have S5 := Lib.hid (S4.out.nxt n1)
  clear n1 S4 D2
  clear rgqf
  have th := S5.out.box_there lkG
  have S6 := Lib.hid (S5.out.box lkG)
  have sa := size_fa lkG
  have oa := one_fr kG
  clear S5
  go_wp2_with ((with_reducible show wpList _ _ _ _ _ _); first | (refine wpList_store_mid rfl 28 _ _ rfl w5.heap.size 0 (fC kG).toArray rfl rfl th sa oa ?_; clear th sa oa; change wpList _ _ _ _ _ ((w5.alloc (.cells Tryz.zeroCells28 28)).setCells w5.heap.size 0 (fC kG)); generalize (w5.alloc (.cells Tryz.zeroCells28 28)).setCells w5.heap.size 0 (fC kG) = w6 at S6 ⊢; generalize w5.heap.size = qg at S6 ⊢; have rgqg := rs_range (S6.out.st.rs ⟨qg, fC kG⟩ (by simp))) | (refine wpList_load_mid rfl 28 _ rfl qg 0 rfl (fC kG) _ rgqg Tryz.underlying28 rfl (size_fr lkG) ?_))
  refine (D3.out _ S6.out.st.ar (hT.out.below S6.out.bl)).mono ?_
  rintro ee w7 ⟨rfl, n1⟩
  have S7 := Lib.hid (S6.out.nxt n1)
  clear n1 S6 D3
  clear rgqg
  have th := S7.out.box_there lzF
  have S8 := Lib.hid (S7.out.box lzF)
  have sa := size_fa lzF
  have oa := one_fr zF
  clear S7
  go_wp2_with ((with_reducible show wpList _ _ _ _ _ _); first | (refine wpList_store_mid rfl 28 _ _ rfl w7.heap.size 0 (fC zF).toArray rfl rfl th sa oa ?_; clear th sa oa; change wpList _ _ _ _ _ ((w7.alloc (.cells Tryz.zeroCells28 28)).setCells w7.heap.size 0 (fC zF)); generalize (w7.alloc (.cells Tryz.zeroCells28 28)).setCells w7.heap.size 0 (fC zF) = w8 at S8 ⊢; generalize w7.heap.size = qa at S8 ⊢; have rgqg := rs_range (S8.out.st.rs ⟨qg, fC kG⟩ (by simp))) | (refine wpList_load_mid rfl 28 _ rfl qg 0 rfl (fC kG) _ rgqg Tryz.underlying28 rfl (size_fr lkG) ?_))
  refine (D4.out _ S8.out.st.ar (hT.out.below S8.out.bl)).mono ?_
  rintro ee w9 ⟨rfl, n1⟩
  have S9 := Lib.hid (S8.out.nxt n1)
  clear n1 S8 D4
  clear rgqg
  have th := S9.out.box_there lzF
  have S10 := Lib.hid (S9.out.box lzF)
  have sa := size_fa lzF
  have oa := one_fr zF
  clear S9
  go_wp2_with ((with_reducible show wpList _ _ _ _ _ _); first | (refine wpList_store_mid rfl 28 _ _ rfl w9.heap.size 0 (fC zF).toArray rfl rfl th sa oa ?_; clear th sa oa; change wpList _ _ _ _ _ ((w9.alloc (.cells Tryz.zeroCells28 28)).setCells w9.heap.size 0 (fC zF)); generalize (w9.alloc (.cells Tryz.zeroCells28 28)).setCells w9.heap.size 0 (fC zF) = w10 at S10 ⊢; generalize w9.heap.size = qb at S10 ⊢; have rgqg := rs_range (S10.out.st.rs ⟨qg, fC kG⟩ (by simp))) | (refine wpList_load_mid rfl 28 _ rfl qg 0 rfl (fC kG) _ rgqg Tryz.underlying28 rfl (size_fr lkG) ?_))
  refine (D5.out _ S10.out.st.ar (hT.out.below S10.out.bl)).mono ?_
  rintro ee w11 ⟨rfl, n1⟩
  have S11 := Lib.hid (S10.out.nxt n1)
  clear n1 S10 D5
  clear rgqg
  have rgqg := rs_range (S11.out.st.rs ⟨qg, fC kG⟩ (by simp))
  go_wp2_with ((with_reducible show wpList _ _ _ _ _ _); refine wpList_load_mid rfl 28 _ rfl qg 0 rfl (fC kG) _ rgqg Tryz.underlying28 rfl (size_fr lkG) ?_)
  refine (T1.out _ S11.out.st.ar (hT.out.below S11.out.bl)).mono ?_
  rintro ee w12 ⟨rfl, g⟩
  have S12 := Lib.hid (S11.out.below g)
  clear g S11 rgqg T1
  have rgqg := rs_range (S12.out.st.rs ⟨qg, fC kG⟩ (by simp))
  go_wp2_with ((with_reducible show wpList _ _ _ _ _ _); refine wpList_load_mid rfl 28 _ rfl qg 0 rfl (fC kG) _ rgqg Tryz.underlying28 rfl (size_fr lkG) ?_)
  refine (T2.out _ S12.out.st.ar (hT.out.below S12.out.bl)).mono ?_
  rintro ee w13 ⟨rfl, g⟩
  have S13 := Lib.hid (S12.out.below g)
  clear g S12 rgqg T2
  have rgqg := rs_range (S13.out.st.rs ⟨qg, fC kG⟩ (by simp))
  go_wp2_with ((with_reducible show wpList _ _ _ _ _ _); refine wpList_load_mid rfl 28 _ rfl qg 0 rfl (fC kG) _ rgqg Tryz.underlying28 rfl (size_fr lkG) ?_)
  refine (T3.out _ S13.out.st.ar (hT.out.below S13.out.bl)).mono ?_
  rintro ee w14 ⟨rfl, g⟩
  have S14 := Lib.hid (S13.out.below g)
  clear g S13 rgqg T3
  have rgqg := rs_range (S14.out.st.rs ⟨qg, fC kG⟩ (by simp))
  go_wp2_with ((with_reducible show wpList _ _ _ _ _ _); refine wpList_load_mid rfl 28 _ rfl qg 0 rfl (fC kG) _ rgqg Tryz.underlying28 rfl (size_fr lkG) ?_)
  refine (D6.out _ S14.out.st.ar (hT.out.below S14.out.bl)).mono ?_
  rintro ee w15 ⟨rfl, n1⟩
  have S15 := Lib.hid (S14.out.nxt n1)
  clear n1 S14 D6
  clear rgqg
  have th := S15.out.box_there lzF
  have S16 := Lib.hid (S15.out.box lzF)
  have sa := size_fa lzF
  have oa := one_fr zF
  clear S15
  go_wp2_with ((with_reducible show wpList _ _ _ _ _ _); first | (refine wpList_store_mid rfl 28 _ _ rfl w15.heap.size 0 (fC zF).toArray rfl rfl th sa oa ?_; clear th sa oa; change wpList _ _ _ _ _ ((w15.alloc (.cells Tryz.zeroCells28 28)).setCells w15.heap.size 0 (fC zF)); generalize (w15.alloc (.cells Tryz.zeroCells28 28)).setCells w15.heap.size 0 (fC zF) = w16 at S16 ⊢; generalize w15.heap.size = qc at S16 ⊢))
  refine (hFr.out _).mono ?_
  rintro ee w17 ⟨rfl, g⟩
  have S17 := Lib.hid (S16.out.below g)
  clear g S16 
  go_wp2_with fail
  refine (D7.out _ S17.out.st.ar (hT.out.below S17.out.bl)).mono ?_
  rintro ee w18 ⟨rfl, n1⟩
  have S18 := Lib.hid (S17.out.nxt n1)
  clear n1 S17 D7
  have th := S18.out.box_there lkJ
  have S19 := Lib.hid (S18.out.box lkJ)
  have sa := size_fa lkJ
  have oa := one_fr kJ
  clear S18
  go_wp2_with ((with_reducible show wpList _ _ _ _ _ _); first | (refine wpList_store_mid rfl 28 _ _ rfl w18.heap.size 0 (fC kJ).toArray rfl rfl th sa oa ?_; clear th sa oa; change wpList _ _ _ _ _ ((w18.alloc (.cells Tryz.zeroCells28 28)).setCells w18.heap.size 0 (fC kJ)); generalize (w18.alloc (.cells Tryz.zeroCells28 28)).setCells w18.heap.size 0 (fC kJ) = w19 at S19 ⊢; generalize w18.heap.size = qj at S19 ⊢; have rgqj := rs_range (S19.out.st.rs ⟨qj, fC kJ⟩ (by simp))) | (refine wpList_load_mid rfl 28 _ rfl qj 0 rfl (fC kJ) _ rgqj Tryz.underlying28 rfl (size_fr lkJ) ?_))
  refine (C1.out _ S19.out.st.ar (hT.out.below S19.out.bl)).mono ?_
  rintro ee w20 ⟨rfl, g⟩
  have S20 := Lib.hid (S19.out.below g)
  clear g S19 rgqj C1
  have S21 := Lib.hid (S20.out.push (ir 0 0 0 0 0) 30)
  clear S20
  go_upto_region 13 with (fail)
  change Code.wp _ _ _ _ (w20.alloc (.cells (ir 0 0 0 0 0).toArray 30))
  generalize (w20.alloc (.cells (ir 0 0 0 0 0).toArray 30)) = w21 at S21 ⊢
  generalize w20.heap.size = qi at S21 ⊢
  have rgqg := rs_range (S21.out.st.rs ⟨qg, fC kG⟩ (by simp))
  go_wp2_with ((with_reducible show wpList _ _ _ _ _ _); refine wpList_load_mid rfl 28 _ rfl qg 0 rfl (fC kG) _ rgqg Tryz.underlying28 rfl (size_fr lkG) ?_)
  refine (D8.out _ S21.out.st.ar (hT.out.below S21.out.bl)).mono ?_
  rintro ee w22 ⟨rfl, n1⟩
  have S22 := Lib.hid (S21.out.nxt n1)
  clear n1 S21 D8
  clear rgqg
  have th := S22.out.box_there lzF
  have S23 := Lib.hid (S22.out.box lzF)
  have sa := size_fa lzF
  have oa := one_fr zF
  clear S22
  go_wp2_with ((with_reducible show wpList _ _ _ _ _ _); first | (refine wpList_store_mid rfl 28 _ _ rfl w22.heap.size 0 (fC zF).toArray rfl rfl th sa oa ?_; clear th sa oa; change wpList _ _ _ _ _ ((w22.alloc (.cells Tryz.zeroCells28 28)).setCells w22.heap.size 0 (fC zF)); generalize (w22.alloc (.cells Tryz.zeroCells28 28)).setCells w22.heap.size 0 (fC zF) = w23 at S23 ⊢; generalize w22.heap.size = qd at S23 ⊢; have rgqg := rs_range (S23.out.st.rs ⟨qg, fC kG⟩ (by simp))) | (refine wpList_load_mid rfl 28 _ rfl qg 0 rfl (fC kG) _ rgqg Tryz.underlying28 rfl (size_fr lkG) ?_))
  refine (D9.out _ S23.out.st.ar (hT.out.below S23.out.bl)).mono ?_
  rintro ee w24 ⟨rfl, n1⟩
  have S24 := Lib.hid (S23.out.nxt n1)
  clear n1 S23 D9
  clear rgqg
  have th := S24.out.box_there lzF
  have S25 := Lib.hid (S24.out.box lzF)
  have sa := size_fa lzF
  have oa := one_fr zF
  clear S24
  go_wp2_with ((with_reducible show wpList _ _ _ _ _ _); first | (refine wpList_store_mid rfl 28 _ _ rfl w24.heap.size 0 (fC zF).toArray rfl rfl th sa oa ?_; clear th sa oa; change wpList _ _ _ _ _ ((w24.alloc (.cells Tryz.zeroCells28 28)).setCells w24.heap.size 0 (fC zF)); generalize (w24.alloc (.cells Tryz.zeroCells28 28)).setCells w24.heap.size 0 (fC zF) = w25 at S25 ⊢; generalize w24.heap.size = qe at S25 ⊢))
  have rgqg := rs_range (S25.out.st.rs ⟨qg, fC kG⟩ (by simp))
  refine wp_load_mid 28 _ rfl qg 0 rfl (fC kG) _ rgqg Tryz.underlying28 rfl (size_fr lkG) ?_
  clear rgqg
  have th := S25.out.box_there lkG
  have S26 := Lib.hid (S25.out.box lkG)
  have sa := size_fa lkG
  have oa := one_fr kG
  clear S25
  go_wp2_with ((with_reducible show wpList _ _ _ _ _ _); first | (refine wpList_store_mid rfl 28 _ _ rfl w25.heap.size 0 (fC kG).toArray rfl rfl th sa oa ?_; clear th sa oa; change wpList _ _ _ _ _ ((w25.alloc (.cells Tryz.zeroCells28 28)).setCells w25.heap.size 0 (fC kG)); generalize (w25.alloc (.cells Tryz.zeroCells28 28)).setCells w25.heap.size 0 (fC kG) = w26 at S26 ⊢; generalize w25.heap.size = qw at S26 ⊢; have cc := (at_reg (S26.out.st.rs ⟨qw, fC kG⟩ (by simp)) g1.out).2.2.2.2.1; have sf := (S26.out.st.rs ⟨qw, fC kG⟩ (by simp)).2.1; have SP := Lib.hid (show Sk W w1 a mb wb bb c kf kl [⟨qw, fC kWk⟩, ⟨qe, fC zF⟩, ⟨qd, fC zF⟩, ⟨qi, ir 0 0 0 0 0⟩, ⟨qj, fC kJ⟩, ⟨qc, fC zF⟩, ⟨qb, fC zF⟩, ⟨qa, fC zF⟩, ⟨qg, fC kG⟩, ⟨qf, fC frA⟩] (w26.setCell ⟨qw, 12, none⟩ (.int .u16 3)) from (by have k := Sk.cell (L1 := []) S26.out 1 4 _ ⟨256, 0, 256, 320, 3, 0, 0, true⟩ (.int .u16 3) g1.out (by decide) rfl; rw [uWk.out] at k; exact k)); have rgqw := rs_range (SP.out.st.rs ⟨qw, fC kWk⟩ (by simp))) | (refine wpList_load_mid rfl 28 _ rfl qw 0 rfl (fC kWk) _ rgqw Tryz.underlying28 rfl (size_fr lkWk) ?_))
  clear cc sf S26
  refine (DA.out _ SP.out.st.ar (hT.out.below SP.out.bl)).mono ?_
  rintro ee w27 ⟨rfl, n1⟩
  have S27 := Lib.hid (SP.out.nxt n1)
  clear n1 SP DA
  clear rgqw
  have th := S27.out.box_there lzF
  have S28 := Lib.hid (S27.out.box lzF)
  have sa := size_fa lzF
  have oa := one_fr zF
  clear S27
  go_wp2_with ((with_reducible show wpList _ _ _ _ _ _); first | (refine wpList_store_mid rfl 28 _ _ rfl w27.heap.size 0 (fC zF).toArray rfl rfl th sa oa ?_; clear th sa oa; change wpList _ _ _ _ _ ((w27.alloc (.cells Tryz.zeroCells28 28)).setCells w27.heap.size 0 (fC zF)); generalize (w27.alloc (.cells Tryz.zeroCells28 28)).setCells w27.heap.size 0 (fC zF) = w28 at S28 ⊢; generalize w27.heap.size = qs at S28 ⊢; have rgqw := rs_range (S28.out.st.rs ⟨qw, fC kWk⟩ (by simp))) | (refine wpList_load_mid rfl 28 _ rfl qw 0 rfl (fC kWk) _ rgqw Tryz.underlying28 rfl (size_fr lkWk) ?_))
  refine (DB.out _ S28.out.st.ar (hT.out.below S28.out.bl)).mono ?_
  rintro ee w29 ⟨rfl, n1⟩
  have S29 := Lib.hid (S28.out.nxt n1)
  clear n1 S28 DB
  clear rgqw
  have th := S29.out.box_there lkQ
  have S30 := Lib.hid (S29.out.box lkQ)
  have sa := size_fa lkQ
  have oa := one_fr kQ
  clear S29
  go_wp2_with ((with_reducible show wpList _ _ _ _ _ _); first | (refine wpList_store_mid rfl 28 _ _ rfl w29.heap.size 0 (fC kQ).toArray rfl rfl th sa oa ?_; clear th sa oa; change wpList _ _ _ _ _ ((w29.alloc (.cells Tryz.zeroCells28 28)).setCells w29.heap.size 0 (fC kQ)); generalize (w29.alloc (.cells Tryz.zeroCells28 28)).setCells w29.heap.size 0 (fC kQ) = w30 at S30 ⊢; generalize w29.heap.size = qq at S30 ⊢; have rgqg := rs_range (S30.out.st.rs ⟨qg, fC kG⟩ (by simp))) | (refine wpList_load_mid rfl 28 _ rfl qg 0 rfl (fC kG) _ rgqg Tryz.underlying28 rfl (size_fr lkG) ?_))
  refine (DC.out _ S30.out.st.ar (hT.out.below S30.out.bl)).mono ?_
  rintro ee w31 ⟨rfl, n1⟩
  have S31 := Lib.hid (S30.out.nxt n1)
  clear n1 S30 DC
  clear rgqg
  have th := S31.out.box_there lkS
  have S32 := Lib.hid (S31.out.box lkS)
  have sa := size_fa lkS
  have oa := one_fr kS
  clear S31
  go_wp2_with ((with_reducible show wpList _ _ _ _ _ _); first | (refine wpList_store_mid rfl 28 _ _ rfl w31.heap.size 0 (fC kS).toArray rfl rfl th sa oa ?_; clear th sa oa; change wpList _ _ _ _ _ ((w31.alloc (.cells Tryz.zeroCells28 28)).setCells w31.heap.size 0 (fC kS)); generalize (w31.alloc (.cells Tryz.zeroCells28 28)).setCells w31.heap.size 0 (fC kS) = w32 at S32 ⊢; generalize w31.heap.size = qS at S32 ⊢; have rgqg := rs_range (S32.out.st.rs ⟨qg, fC kG⟩ (by simp))) | (refine wpList_load_mid rfl 28 _ rfl qg 0 rfl (fC kG) _ rgqg Tryz.underlying28 rfl (size_fr lkG) ?_))
  refine (DD.out _ S32.out.st.ar (hT.out.below S32.out.bl)).mono ?_
  rintro ee w33 ⟨rfl, n1⟩
  have S33 := Lib.hid (S32.out.nxt n1)
  clear n1 S32 DD
  clear rgqg
  have th := S33.out.box_there lkG
  have S34 := Lib.hid (S33.out.box lkG)
  have sa := size_fa lkG
  have oa := one_fr kG
  clear S33
  go_wp2_with ((with_reducible show wpList _ _ _ _ _ _); first | (refine wpList_store_mid rfl 28 _ _ rfl w33.heap.size 0 (fC kG).toArray rfl rfl th sa oa ?_; clear th sa oa; change wpList _ _ _ _ _ ((w33.alloc (.cells Tryz.zeroCells28 28)).setCells w33.heap.size 0 (fC kG)); generalize (w33.alloc (.cells Tryz.zeroCells28 28)).setCells w33.heap.size 0 (fC kG) = w34 at S34 ⊢; generalize w33.heap.size = qu at S34 ⊢))
  refine (hFr.out _).mono ?_
  rintro ee w35 ⟨rfl, g⟩
  have S35 := Lib.hid (S34.out.below g)
  clear g S34 
  go_wp2_with fail
  refine (C2.out _ S35.out.st.ar (hT.out.below S35.out.bl)).mono ?_
  rintro ee w36 ⟨rfl, g⟩
  have S36 := Lib.hid (S35.out.below g)
  clear g S35 C2
  have S37 := Lib.hid (S36.out.push (ir 0 0 0 0 0) 30)
  clear S36
  go_upto_region 22 with (fail)
  change Code.wp _ _ _ _ (w36.alloc (.cells (ir 0 0 0 0 0).toArray 30))
  generalize (w36.alloc (.cells (ir 0 0 0 0 0).toArray 30)) = w37 at S37 ⊢
  generalize w36.heap.size = qx at S37 ⊢
  have rgqg := rs_range (S37.out.st.rs ⟨qg, fC kG⟩ (by simp))
  go_wp2_with ((with_reducible show wpList _ _ _ _ _ _); refine wpList_load_mid rfl 28 _ rfl qg 0 rfl (fC kG) _ rgqg Tryz.underlying28 rfl (size_fr lkG) ?_)
  refine (DE.out _ S37.out.st.ar (hT.out.below S37.out.bl)).mono ?_
  rintro ee w38 ⟨rfl, n1⟩
  have S38 := Lib.hid (S37.out.nxt n1)
  clear n1 S37 DE
  clear rgqg
  have th := S38.out.box_there lkY
  have S39 := Lib.hid (S38.out.box lkY)
  have sa := size_fa lkY
  have oa := one_fr kY
  clear S38
  go_wp2_with ((with_reducible show wpList _ _ _ _ _ _); first | (refine wpList_store_mid rfl 28 _ _ rfl w38.heap.size 0 (fC kY).toArray rfl rfl th sa oa ?_; clear th sa oa; change wpList _ _ _ _ _ ((w38.alloc (.cells Tryz.zeroCells28 28)).setCells w38.heap.size 0 (fC kY)); generalize (w38.alloc (.cells Tryz.zeroCells28 28)).setCells w38.heap.size 0 (fC kY) = w39 at S39 ⊢; generalize w38.heap.size = qy at S39 ⊢))
  have rgqg := rs_range (S39.out.st.rs ⟨qg, fC kG⟩ (by simp))
  refine wp_load_mid 28 _ rfl qg 0 rfl (fC kG) _ rgqg Tryz.underlying28 rfl (size_fr lkG) ?_
  clear rgqg
  have th := S39.out.box_there lkG
  have S40 := Lib.hid (S39.out.box lkG)
  have sa := size_fa lkG
  have oa := one_fr kG
  clear S39
  go_wp2_with ((with_reducible show wpList _ _ _ _ _ _); first | (refine wpList_store_mid rfl 28 _ _ rfl w39.heap.size 0 (fC kG).toArray rfl rfl th sa oa ?_; clear th sa oa; change wpList _ _ _ _ _ ((w39.alloc (.cells Tryz.zeroCells28 28)).setCells w39.heap.size 0 (fC kG)); generalize (w39.alloc (.cells Tryz.zeroCells28 28)).setCells w39.heap.size 0 (fC kG) = w40 at S40 ⊢; generalize w39.heap.size = qh at S40 ⊢; have th := S40.out.st.there (g := qh) (vs := fC kG) (by simp) 8 8 (by rw [fC_len, lkG]; decide); have SP := Lib.hid (show Sk W w1 a mb wb bb c kf kl [⟨qh, fC kWh⟩, ⟨qy, fC kY⟩, ⟨qx, ir 0 0 0 0 0⟩, ⟨qu, fC kG⟩, ⟨qS, fC kS⟩, ⟨qq, fC kQ⟩, ⟨qs, fC zF⟩, ⟨qw, fC kWk⟩, ⟨qe, fC zF⟩, ⟨qd, fC zF⟩, ⟨qi, ir 0 0 0 0 0⟩, ⟨qj, fC kJ⟩, ⟨qc, fC zF⟩, ⟨qb, fC zF⟩, ⟨qa, fC zF⟩, ⟨qg, fC kG⟩, ⟨qf, fC frA⟩] (w40.setCells qh 8 (Cp.C ⟨0, 21, 0, 2048, 1, 0, 0, true⟩)) from (by have k := Sk.reg (L1 := []) S40.out 1 ⟨0, 21, 0, 2048, 1, 0, 0, true⟩ (by rw [lkG]; decide); rw [uWh.out] at k; exact k)); have s1 := size_ca ⟨0, 21, 0, 2048, 1, 0, 0, true⟩; have o1 := one_cp ⟨0, 21, 0, 2048, 1, 0, 0, true⟩) | (refine wpList_store_mid rfl 25 _ _ rfl qh 8 (Cp.C ⟨0, 21, 0, 2048, 1, 0, 0, true⟩).toArray rfl rfl th s1 o1 ?_; clear th s1 o1; change wpList _ _ _ _ _ (w40.setCells qh 8 (Cp.C ⟨0, 21, 0, 2048, 1, 0, 0, true⟩)); generalize w40.setCells qh 8 (Cp.C ⟨0, 21, 0, 2048, 1, 0, 0, true⟩) = w90 at SP ⊢; have rgqh := rs_range (SP.out.st.rs ⟨qh, fC kWh⟩ (by simp))) | (refine wpList_load_mid rfl 28 _ rfl qh 0 rfl (fC kWh) _ rgqh Tryz.underlying28 rfl (size_fr lkWh) ?_))
  clear S40
  refine (DF.out _ SP.out.st.ar (hT.out.below SP.out.bl)).mono ?_
  rintro ee w41 ⟨rfl, n1⟩
  have S41 := Lib.hid (SP.out.nxt n1)
  clear n1 SP DF
  clear rgqh
  have th := S41.out.box_there lkLg
  have S42 := Lib.hid (S41.out.box lkLg)
  have sa := size_fa lkLg
  have oa := one_fr kLg
  clear S41
  go_wp2_with ((with_reducible show wpList _ _ _ _ _ _); first | (refine wpList_store_mid rfl 28 _ _ rfl w41.heap.size 0 (fC kLg).toArray rfl rfl th sa oa ?_; clear th sa oa; change wpList _ _ _ _ _ ((w41.alloc (.cells Tryz.zeroCells28 28)).setCells w41.heap.size 0 (fC kLg)); generalize (w41.alloc (.cells Tryz.zeroCells28 28)).setCells w41.heap.size 0 (fC kLg) = w42 at S42 ⊢; generalize w41.heap.size = ql at S42 ⊢; have c12 := (at_reg (S42.out.st.rs ⟨qh, fC kWh⟩ (by simp)) h1.out).2.2.2.2.1; have c8 := (at_reg (S42.out.st.rs ⟨qh, fC kWh⟩ (by simp)) h1.out).1; have sf := (S42.out.st.rs ⟨qh, fC kWh⟩ (by simp)).2.1; have SP := Lib.hid (show Sk W w1 a mb wb bb c kf kl [⟨ql, fC kLg⟩, ⟨qh, fC kWb⟩, ⟨qy, fC kY⟩, ⟨qx, ir 0 0 0 0 0⟩, ⟨qu, fC kG⟩, ⟨qS, fC kS⟩, ⟨qq, fC kQ⟩, ⟨qs, fC zF⟩, ⟨qw, fC kWk⟩, ⟨qe, fC zF⟩, ⟨qd, fC zF⟩, ⟨qi, ir 0 0 0 0 0⟩, ⟨qj, fC kJ⟩, ⟨qc, fC zF⟩, ⟨qb, fC zF⟩, ⟨qa, fC zF⟩, ⟨qg, fC kG⟩, ⟨qf, fC frA⟩] ((w42.setCell ⟨qh, 12, none⟩ (.int .u16 1)).setCell ⟨qh, 8, none⟩ (.int .u32 65536)) from (by have k := Sk.cell (L1 := [⟨ql, fC kLg⟩]) S42.out 1 4 _ ⟨0, 21, 0, 2048, 1, 0, 0, true⟩ (.int .u16 1) h1.out (by decide) rfl; rw [uWc.out] at k; have k2 := Sk.cell (L1 := [⟨ql, fC kLg⟩]) k 1 0 _ ⟨65536, 21, 0, 2048, 1, 0, 0, true⟩ (.int .u32 65536) h1.out (by decide) rfl; rw [uWb.out] at k2; exact k2)); have rgqh := rs_range (SP.out.st.rs ⟨qh, fC kWb⟩ (by simp))) | (refine wpList_load_mid rfl 28 _ rfl qh 0 rfl (fC kWb) _ rgqh Tryz.underlying28 rfl (size_fr lkWb) ?_))
  clear c12 c8 sf S42
  refine (DG.out _ SP.out.st.ar (hT.out.below SP.out.bl)).mono ?_
  rintro ee w43 ⟨rfl, n1⟩
  have S43 := Lib.hid (SP.out.nxt n1)
  clear n1 SP DG
  clear rgqh
  have th := S43.out.box_there lzF
  have S44 := Lib.hid (S43.out.box lzF)
  have sa := size_fa lzF
  have oa := one_fr zF
  clear S43
  go_wp2_with ((with_reducible show wpList _ _ _ _ _ _); first | (refine wpList_store_mid rfl 28 _ _ rfl w43.heap.size 0 (fC zF).toArray rfl rfl th sa oa ?_; clear th sa oa; change wpList _ _ _ _ _ ((w43.alloc (.cells Tryz.zeroCells28 28)).setCells w43.heap.size 0 (fC zF)); generalize (w43.alloc (.cells Tryz.zeroCells28 28)).setCells w43.heap.size 0 (fC zF) = w44 at S44 ⊢; generalize w43.heap.size = qm at S44 ⊢))
  have rgqg := rs_range (S44.out.st.rs ⟨qg, fC kG⟩ (by simp))
  refine wp_load_mid 28 _ rfl qg 0 rfl (fC kG) _ rgqg Tryz.underlying28 rfl (size_fr lkG) ?_
  clear rgqg
  have th := S44.out.box_there lkG
  have S45 := Lib.hid (S44.out.box lkG)
  have sa := size_fa lkG
  have oa := one_fr kG
  clear S44
  go_wp2_with ((with_reducible show wpList _ _ _ _ _ _); first | (refine wpList_store_mid rfl 28 _ _ rfl w44.heap.size 0 (fC kG).toArray rfl rfl th sa oa ?_; clear th sa oa; change wpList _ _ _ _ _ ((w44.alloc (.cells Tryz.zeroCells28 28)).setCells w44.heap.size 0 (fC kG)); generalize (w44.alloc (.cells Tryz.zeroCells28 28)).setCells w44.heap.size 0 (fC kG) = w45 at S45 ⊢; generalize w44.heap.size = qt at S45 ⊢; have th := S45.out.st.there (g := qt) (vs := fC kG) (by simp) 40 8 (by rw [fC_len, lkG]; decide); have SP := Lib.hid (show Sk W w1 a mb wb bb c kf kl [⟨qt, fC kTo⟩, ⟨qm, fC zF⟩, ⟨ql, fC kLg⟩, ⟨qh, fC kWb⟩, ⟨qy, fC kY⟩, ⟨qx, ir 0 0 0 0 0⟩, ⟨qu, fC kG⟩, ⟨qS, fC kS⟩, ⟨qq, fC kQ⟩, ⟨qs, fC zF⟩, ⟨qw, fC kWk⟩, ⟨qe, fC zF⟩, ⟨qd, fC zF⟩, ⟨qi, ir 0 0 0 0 0⟩, ⟨qj, fC kJ⟩, ⟨qc, fC zF⟩, ⟨qb, fC zF⟩, ⟨qa, fC zF⟩, ⟨qg, fC kG⟩, ⟨qf, fC frA⟩] (w45.setCells qt 40 (Cp.C ⟨32, 0, 0, 256, 4, 0, 0, true⟩)) from (by have k := Sk.reg (L1 := []) S45.out 5 ⟨32, 0, 0, 256, 4, 0, 0, true⟩ (by rw [lkG]; decide); rw [uTo.out] at k; exact k)); have s1 := size_ca ⟨32, 0, 0, 256, 4, 0, 0, true⟩; have o1 := one_cp ⟨32, 0, 0, 256, 4, 0, 0, true⟩) | (refine wpList_store_mid rfl 25 _ _ rfl qt 40 (Cp.C ⟨32, 0, 0, 256, 4, 0, 0, true⟩).toArray rfl rfl th s1 o1 ?_; clear th s1 o1; change wpList _ _ _ _ _ (w45.setCells qt 40 (Cp.C ⟨32, 0, 0, 256, 4, 0, 0, true⟩)); generalize w45.setCells qt 40 (Cp.C ⟨32, 0, 0, 256, 4, 0, 0, true⟩) = w91 at SP ⊢; have rgqt := rs_range (SP.out.st.rs ⟨qt, fC kTo⟩ (by simp))) | (refine wpList_load_mid rfl 28 _ rfl qt 0 rfl (fC kTo) _ rgqt Tryz.underlying28 rfl (size_fr lkTo) ?_))
  clear S45
  refine (DH.out _ SP.out.st.ar (hT.out.below SP.out.bl)).mono ?_
  rintro ee w46 ⟨rfl, n1⟩
  have S46 := Lib.hid (SP.out.nxt n1)
  clear n1 SP DH
  clear rgqt
  have th := S46.out.box_there lkGo
  have S47 := Lib.hid (S46.out.box lkGo)
  have sa := size_fa lkGo
  have oa := one_fr kGo
  clear S46
  go_wp2_with ((with_reducible show wpList _ _ _ _ _ _); first | (refine wpList_store_mid rfl 28 _ _ rfl w46.heap.size 0 (fC kGo).toArray rfl rfl th sa oa ?_; clear th sa oa; change wpList _ _ _ _ _ ((w46.alloc (.cells Tryz.zeroCells28 28)).setCells w46.heap.size 0 (fC kGo)); generalize (w46.alloc (.cells Tryz.zeroCells28 28)).setCells w46.heap.size 0 (fC kGo) = w47 at S47 ⊢; generalize w46.heap.size = qo at S47 ⊢; have c45 := (at_reg (S47.out.st.rs ⟨qt, fC kTo⟩ (by simp)) t5.out).2.2.2.2.2.1; have sf := (S47.out.st.rs ⟨qt, fC kTo⟩ (by simp)).2.1; have SP := Lib.hid (show Sk W w1 a mb wb bb c kf kl [⟨qo, fC kGo⟩, ⟨qt, fC kTb⟩, ⟨qm, fC zF⟩, ⟨ql, fC kLg⟩, ⟨qh, fC kWb⟩, ⟨qy, fC kY⟩, ⟨qx, ir 0 0 0 0 0⟩, ⟨qu, fC kG⟩, ⟨qS, fC kS⟩, ⟨qq, fC kQ⟩, ⟨qs, fC zF⟩, ⟨qw, fC kWk⟩, ⟨qe, fC zF⟩, ⟨qd, fC zF⟩, ⟨qi, ir 0 0 0 0 0⟩, ⟨qj, fC kJ⟩, ⟨qc, fC zF⟩, ⟨qb, fC zF⟩, ⟨qa, fC zF⟩, ⟨qg, fC kG⟩, ⟨qf, fC frA⟩] (w47.setCell ⟨qt, 45, none⟩ (.int .u16 3)) from (by have k := Sk.cell (L1 := [⟨qo, fC kGo⟩]) S47.out 5 5 _ ⟨32, 0, 0, 256, 4, 3, 0, true⟩ (.int .u16 3) t5.out (by decide) rfl; rw [uTb.out] at k; exact k)); have rgqt := rs_range (SP.out.st.rs ⟨qt, fC kTb⟩ (by simp))) | (refine wpList_load_mid rfl 28 _ rfl qt 0 rfl (fC kTb) _ rgqt Tryz.underlying28 rfl (size_fr lkTb) ?_))
  clear c45 sf S47
  refine (DI.out _ SP.out.st.ar (hT.out.below SP.out.bl)).mono ?_
  rintro ee w48 ⟨rfl, n1⟩
  have S48 := Lib.hid (SP.out.nxt n1)
  clear n1 SP DI
  clear rgqt
  have th := S48.out.box_there lzF
  have S49 := Lib.hid (S48.out.box lzF)
  have sa := size_fa lzF
  have oa := one_fr zF
  clear S48
  go_wp2_with ((with_reducible show wpList _ _ _ _ _ _); first | (refine wpList_store_mid rfl 28 _ _ rfl w48.heap.size 0 (fC zF).toArray rfl rfl th sa oa ?_; clear th sa oa; change wpList _ _ _ _ _ ((w48.alloc (.cells Tryz.zeroCells28 28)).setCells w48.heap.size 0 (fC zF)); generalize (w48.alloc (.cells Tryz.zeroCells28 28)).setCells w48.heap.size 0 (fC zF) = w49 at S49 ⊢; generalize w48.heap.size = qp at S49 ⊢; have f1 : w49.cell? ⟨qo, 128, none⟩ = some (.int .u32 32) := (by have k := (at_reg (S49.out.st.rs ⟨qo, fC kGo⟩ (by simp)) eg.out).1; rw [hcg.out] at k; exact k); have f2 : w49.cell? ⟨qo, 40, none⟩ = some (.int .u32 12) := (by have k := (at_reg (S49.out.st.rs ⟨qo, fC kGo⟩ (by simp)) eh.out).1; rw [hch.out] at k; exact k)))
  clear f1 f2
  obtain ⟨SS, hS0⟩ : ∃ SS : World → Prop, SS = fun w => Sk W w1 a mb wb bb c kf kl [⟨qp, fC zF⟩, ⟨qo, fC kGo⟩, ⟨qt, fC kTb⟩, ⟨qm, fC zF⟩, ⟨ql, fC kLg⟩, ⟨qh, fC kWb⟩, ⟨qy, fC kY⟩, ⟨qx, ir 0 0 0 0 0⟩, ⟨qu, fC kG⟩, ⟨qS, fC kS⟩, ⟨qq, fC kQ⟩, ⟨qs, fC zF⟩, ⟨qw, fC kWk⟩, ⟨qe, fC zF⟩, ⟨qd, fC zF⟩, ⟨qi, ir 0 0 0 0 0⟩, ⟨qj, fC kJ⟩, ⟨qc, fC zF⟩, ⟨qb, fC zF⟩, ⟨qa, fC zF⟩, ⟨qg, fC kG⟩, ⟨qf, fC frA⟩] w := ⟨_, rfl⟩
  have hK : ∀ w, SS w → Sk W w1 a mb wb bb c kf kl [⟨qp, fC zF⟩, ⟨qo, fC kGo⟩, ⟨qt, fC kTb⟩, ⟨qm, fC zF⟩, ⟨ql, fC kLg⟩, ⟨qh, fC kWb⟩, ⟨qy, fC kY⟩, ⟨qx, ir 0 0 0 0 0⟩, ⟨qu, fC kG⟩, ⟨qS, fC kS⟩, ⟨qq, fC kQ⟩, ⟨qs, fC zF⟩, ⟨qw, fC kWk⟩, ⟨qe, fC zF⟩, ⟨qd, fC zF⟩, ⟨qi, ir 0 0 0 0 0⟩, ⟨qj, fC kJ⟩, ⟨qc, fC zF⟩, ⟨qb, fC zF⟩, ⟨qa, fC zF⟩, ⟨qg, fC kG⟩, ⟨qf, fC frA⟩] w := fun w h => by rw [hS0] at h; exact h
  have hS : ∀ u v, SS u → Below u.heap.size u v → SS v := fun u v h k => by rw [hS0] at h ⊢; exact h.below k
  have s0 : SS w49 := by rw [hS0]; exact S49.out
  clear hS0
  obtain ⟨vX, hvX⟩ : ∃ v, v = fV (nxt kG) := ⟨_, rfl⟩
  obtain ⟨vP, hvP⟩ : ∃ v : Value, v = .agg #[.int .u32 12, .int .u8 0, .int .u16 0, .int .u16 64, .int .u16 5, .int .u16 0, .int .u32 0, .bool true] := ⟨_, rfl⟩
  have hf1 : ∀ w, (Instr.field 28 vX 1).run Tryz.prog w = .ok vP w := fun w => by rw [hvX, hvP]; exact kfld1 w
  have hf2 : ∀ w, (Instr.field 25 vP 0).run Tryz.prog w = .ok (.int .u32 12) w := fun w => by rw [hvP]; exact kfld2 w
  obtain ⟨vG, hvG⟩ : ∃ v, v = fV kG := ⟨_, rfl⟩
  have hB1 : ∀ w, (binOp .eql 28 vG vG).run Tryz.prog w = .ok (.bool true) w := fun w => by rw [hvG]; exact fr_eql kG lkG w
  have hG1 : ∀ (x y : Operand) w, (eqGuard .eql 28 x y vG vG).run Tryz.prog w = .ok () w := fun x y w => by rw [hvG]; exact fr_guard kG kG x y w
  have cW := Lib.hid (cls_call (S := SS) fun w hw => (hWo.out w (hT.out.below (hK w hw).bl)).mono fun ee w' k => (⟨k.1, hS _ _ hw k.2⟩ : _ ∧ SS w'))
  have c1 := Lib.hid (cls_call (S := SS) fun w hw => (hN1.out w).mono fun ee w' k => (⟨k.1, hS _ _ hw k.2⟩ : _ ∧ SS w'))
  have c2 := Lib.hid (cls_call (S := SS) fun w hw => (hN2.out w).mono fun ee w' k => (⟨k.1, hS _ _ hw k.2⟩ : _ ∧ SS w'))
  have c3 := Lib.hid (cls_call (S := SS) fun w hw => (hN3.out w).mono fun ee w' k => (⟨k.1, hS _ _ hw k.2⟩ : _ ∧ SS w'))
  have cX := Lib.hid (cls_call (S := SS) fun w hw => (hNx.out w).mono fun e w' k => (⟨by rw [hvX]; exact k.1, hS _ _ hw k.2⟩ : e = .returned vX ∧ SS w'))
  rw [← hvG] at cX
  have lvG : ∀ (o : Oper) (a : Act) (K : Act → Prop) (n q : Nat), (q = qg ∨ q = qu) → o.op = .load 28 (.tmp n) → a.eval (.tmp n) = .pointer (some ⟨q, 0, none⟩) → K (a.put o.dst vG) → o.quiet Tryz.prog a (fun w => ∃ y : Wd SS, w = y.w) K := fun o a K n q hq ho hx hk =>
    quiet_load_mid 28 (.tmp n) ho q 0 hx (fC kG) _ (fun w ⟨y, e⟩ => e ▸ rs_range ((hK _ y.h).st.rs ⟨q, fC kG⟩ (by rcases hq with rfl | rfl <;> simp))) Tryz.underlying28 rfl (size_fr lkG) (by rw [hvG] at hk; exact hk)
  have a0 : ∀ y : Wd SS, y.w.cell? ⟨qg, 24, none⟩ = some (.int .u32 4294967282) := fun y => (at_reg ((hK _ y.h).st.rs ⟨qg, fC kG⟩ (by simp)) g3.out).1
  have a1 : ∀ y : Wd SS, y.w.cell? ⟨qg, 25, none⟩ = some (.int .u8 0) := fun y => (at_reg ((hK _ y.h).st.rs ⟨qg, fC kG⟩ (by simp)) g3.out).2.1
  have a2 : ∀ y : Wd SS, y.w.cell? ⟨qg, 26, none⟩ = some (.int .u16 0) := fun y => (at_reg ((hK _ y.h).st.rs ⟨qg, fC kG⟩ (by simp)) g3.out).2.2.1
  have a3 : ∀ y : Wd SS, y.w.cell? ⟨qg, 27, none⟩ = some (.int .u16 0) := fun y => (at_reg ((hK _ y.h).st.rs ⟨qg, fC kG⟩ (by simp)) g3.out).2.2.2.1
  have a4 : ∀ y : Wd SS, y.w.cell? ⟨qg, 28, none⟩ = some (.int .u16 0) := fun y => (at_reg ((hK _ y.h).st.rs ⟨qg, fC kG⟩ (by simp)) g3.out).2.2.2.2.1
  have a5 : ∀ y : Wd SS, y.w.cell? ⟨qg, 29, none⟩ = some (.int .u16 0) := fun y => (at_reg ((hK _ y.h).st.rs ⟨qg, fC kG⟩ (by simp)) g3.out).2.2.2.2.2.1
  have a6 : ∀ y : Wd SS, y.w.cell? ⟨qg, 30, none⟩ = some (.int .u32 0) := fun y => (at_reg ((hK _ y.h).st.rs ⟨qg, fC kG⟩ (by simp)) g3.out).2.2.2.2.2.2.1
  have a7 : ∀ y : Wd SS, y.w.cell? ⟨qg, 31, none⟩ = some (.bool false) := fun y => (at_reg ((hK _ y.h).st.rs ⟨qg, fC kG⟩ (by simp)) g3.out).2.2.2.2.2.2.2
  have b0 : ∀ y : Wd SS, y.w.cell? ⟨qy, 56, none⟩ = some (.int .u32 64) := fun y => (at_reg ((hK _ y.h).st.rs ⟨qy, fC kY⟩ (by simp)) y7.out).1
  have b1 : ∀ y : Wd SS, y.w.cell? ⟨qy, 57, none⟩ = some (.int .u8 0) := fun y => (at_reg ((hK _ y.h).st.rs ⟨qy, fC kY⟩ (by simp)) y7.out).2.1
  have b2 : ∀ y : Wd SS, y.w.cell? ⟨qy, 58, none⟩ = some (.int .u16 0) := fun y => (at_reg ((hK _ y.h).st.rs ⟨qy, fC kY⟩ (by simp)) y7.out).2.2.1
  have b3 : ∀ y : Wd SS, y.w.cell? ⟨qy, 59, none⟩ = some (.int .u16 0) := fun y => (at_reg ((hK _ y.h).st.rs ⟨qy, fC kY⟩ (by simp)) y7.out).2.2.2.1
  have b4 : ∀ y : Wd SS, y.w.cell? ⟨qy, 60, none⟩ = some (.int .u16 0) := fun y => (at_reg ((hK _ y.h).st.rs ⟨qy, fC kY⟩ (by simp)) y7.out).2.2.2.2.1
  have b5 : ∀ y : Wd SS, y.w.cell? ⟨qy, 61, none⟩ = some (.int .u16 0) := fun y => (at_reg ((hK _ y.h).st.rs ⟨qy, fC kY⟩ (by simp)) y7.out).2.2.2.2.2.1
  have b6 : ∀ y : Wd SS, y.w.cell? ⟨qy, 62, none⟩ = some (.int .u32 0) := fun y => (at_reg ((hK _ y.h).st.rs ⟨qy, fC kY⟩ (by simp)) y7.out).2.2.2.2.2.2.1
  have b7 : ∀ y : Wd SS, y.w.cell? ⟨qy, 63, none⟩ = some (.bool false) := fun y => (at_reg ((hK _ y.h).st.rs ⟨qy, fC kY⟩ (by simp)) y7.out).2.2.2.2.2.2.2
  have d0 : ∀ y : Wd SS, y.w.cell? ⟨ql, 56, none⟩ = some (.int .u32 4294967295) := fun y => (at_reg ((hK _ y.h).st.rs ⟨ql, fC kLg⟩ (by simp)) l7.out).1
  have d1 : ∀ y : Wd SS, y.w.cell? ⟨ql, 57, none⟩ = some (.int .u8 0) := fun y => (at_reg ((hK _ y.h).st.rs ⟨ql, fC kLg⟩ (by simp)) l7.out).2.1
  have d2 : ∀ y : Wd SS, y.w.cell? ⟨ql, 58, none⟩ = some (.int .u16 0) := fun y => (at_reg ((hK _ y.h).st.rs ⟨ql, fC kLg⟩ (by simp)) l7.out).2.2.1
  have d3 : ∀ y : Wd SS, y.w.cell? ⟨ql, 59, none⟩ = some (.int .u16 0) := fun y => (at_reg ((hK _ y.h).st.rs ⟨ql, fC kLg⟩ (by simp)) l7.out).2.2.2.1
  have d4 : ∀ y : Wd SS, y.w.cell? ⟨ql, 60, none⟩ = some (.int .u16 0) := fun y => (at_reg ((hK _ y.h).st.rs ⟨ql, fC kLg⟩ (by simp)) l7.out).2.2.2.2.1
  have d5 : ∀ y : Wd SS, y.w.cell? ⟨ql, 61, none⟩ = some (.int .u16 0) := fun y => (at_reg ((hK _ y.h).st.rs ⟨ql, fC kLg⟩ (by simp)) l7.out).2.2.2.2.2.1
  have d6 : ∀ y : Wd SS, y.w.cell? ⟨ql, 62, none⟩ = some (.int .u32 0) := fun y => (at_reg ((hK _ y.h).st.rs ⟨ql, fC kLg⟩ (by simp)) l7.out).2.2.2.2.2.2.1
  have d7 : ∀ y : Wd SS, y.w.cell? ⟨ql, 63, none⟩ = some (.bool false) := fun y => (at_reg ((hK _ y.h).st.rs ⟨ql, fC kLg⟩ (by simp)) l7.out).2.2.2.2.2.2.2
  have z0 : ∀ y : Wd SS, y.w.cell? ⟨qq, 32, none⟩ = some (.int .u32 256) := fun y => (at_reg ((hK _ y.h).st.rs ⟨qq, fC kQ⟩ (by simp)) q4.out).1
  have z1 : ∀ y : Wd SS, y.w.cell? ⟨qq, 33, none⟩ = some (.int .u8 0) := fun y => (at_reg ((hK _ y.h).st.rs ⟨qq, fC kQ⟩ (by simp)) q4.out).2.1
  have z2 : ∀ y : Wd SS, y.w.cell? ⟨qq, 34, none⟩ = some (.int .u16 256) := fun y => (at_reg ((hK _ y.h).st.rs ⟨qq, fC kQ⟩ (by simp)) q4.out).2.2.1
  have z3 : ∀ y : Wd SS, y.w.cell? ⟨qq, 35, none⟩ = some (.int .u16 320) := fun y => (at_reg ((hK _ y.h).st.rs ⟨qq, fC kQ⟩ (by simp)) q4.out).2.2.2.1
  have z4 : ∀ y : Wd SS, y.w.cell? ⟨qq, 36, none⟩ = some (.int .u16 27) := fun y => (at_reg ((hK _ y.h).st.rs ⟨qq, fC kQ⟩ (by simp)) q4.out).2.2.2.2.1
  have z5 : ∀ y : Wd SS, y.w.cell? ⟨qq, 37, none⟩ = some (.int .u16 0) := fun y => (at_reg ((hK _ y.h).st.rs ⟨qq, fC kQ⟩ (by simp)) q4.out).2.2.2.2.2.1
  have z6 : ∀ y : Wd SS, y.w.cell? ⟨qq, 38, none⟩ = some (.int .u32 0) := fun y => (at_reg ((hK _ y.h).st.rs ⟨qq, fC kQ⟩ (by simp)) q4.out).2.2.2.2.2.2.1
  have z7 : ∀ y : Wd SS, y.w.cell? ⟨qq, 39, none⟩ = some (.bool false) := fun y => (at_reg ((hK _ y.h).st.rs ⟨qq, fC kQ⟩ (by simp)) q4.out).2.2.2.2.2.2.2
  have f1 : ∀ y : Wd SS, y.w.cell? ⟨qg, 128, none⟩ = some (.int .u32 8) := fun y => by have k := (at_reg ((hK _ y.h).st.rs ⟨qg, fC kG⟩ (by simp)) gp.out).1; exact k
  have f2 : ∀ y : Wd SS, y.w.cell? ⟨qj, 128, none⟩ = some (.int .u32 64) := fun y => by have k := (at_reg ((hK _ y.h).st.rs ⟨qj, fC kJ⟩ (by simp)) ej.out).1; rw [hcj.out] at k; exact k
  have f3 : ∀ y : Wd SS, y.w.cell? ⟨qS, 16, none⟩ = some (.int .u32 12) := fun y => by have k := (at_reg ((hK _ y.h).st.rs ⟨qS, fC kS⟩ (by simp)) es.out).1; rw [hcs.out] at k; exact k
  have f4 : ∀ y : Wd SS, y.w.cell? ⟨qS, 128, none⟩ = some (.int .u32 20) := fun y => by have k := (at_reg ((hK _ y.h).st.rs ⟨qS, fC kS⟩ (by simp)) ep.out).1; rw [hcp.out] at k; exact k
  have i0 : ∀ y : Wd SS, y.w.cell? ⟨qx, 0, none⟩ = some (.int .i64 0) := fun y => ((hK _ y.h).st.rs ⟨qx, ir 0 0 0 0 0⟩ (by simp)).2.2 0 _ rfl
  have i1 : ∀ y : Wd SS, y.w.cell? ⟨qx, 1, none⟩ = some (.int .i64 0) := fun y => ((hK _ y.h).st.rs ⟨qx, ir 0 0 0 0 0⟩ (by simp)).2.2 1 _ rfl
  have i2 : ∀ y : Wd SS, y.w.cell? ⟨qx, 2, none⟩ = some (.int .i64 0) := fun y => ((hK _ y.h).st.rs ⟨qx, ir 0 0 0 0 0⟩ (by simp)).2.2 2 _ rfl
  have i3 : ∀ y : Wd SS, y.w.cell? ⟨qx, 3, none⟩ = some (.int .i64 0) := fun y => ((hK _ y.h).st.rs ⟨qx, ir 0 0 0 0 0⟩ (by simp)).2.2 3 _ rfl
  have i4 : ∀ y : Wd SS, y.w.cell? ⟨qx, 4, none⟩ = some (.int .i64 0) := fun y => ((hK _ y.h).st.rs ⟨qx, ir 0 0 0 0 0⟩ (by simp)).2.2 4 _ rfl
  have hE1 : ∀ w, (Op.equalIn 10000 25 (.agg #[.int .u32 4294967282, .int .u8 0, .int .u16 0, .int .u16 0, .int .u16 0, .int .u16 0, .int .u32 0, .bool false]) (.agg #[.int .u32 4294967282, .int .u8 0, .int .u16 0, .int .u16 0, .int .u16 0, .int .u16 0, .int .u32 0, .bool false])).run Tryz.prog w = .ok true w := fun w => (cap_eq 4294967282 0 0 0 0 0 0 false 4294967282 0 0 0 0 0 0 false w).trans (by simp)
  have hE2 : ∀ w, (Op.equalIn 10000 25 (.agg #[.int .u32 64, .int .u8 0, .int .u16 0, .int .u16 0, .int .u16 0, .int .u16 0, .int .u32 0, .bool false]) (.agg #[.int .u32 64, .int .u8 0, .int .u16 0, .int .u16 0, .int .u16 0, .int .u16 0, .int .u32 0, .bool false])).run Tryz.prog w = .ok true w := fun w => (cap_eq 64 0 0 0 0 0 0 false 64 0 0 0 0 0 0 false w).trans (by simp)
  have hE3 : ∀ w, (Op.equalIn 10000 25 (.agg #[.int .u32 4294967295, .int .u8 0, .int .u16 0, .int .u16 0, .int .u16 0, .int .u16 0, .int .u32 0, .bool false]) (.agg #[.int .u32 4294967295, .int .u8 0, .int .u16 0, .int .u16 0, .int .u16 0, .int .u16 0, .int .u32 0, .bool false])).run Tryz.prog w = .ok true w := fun w => (cap_eq 4294967295 0 0 0 0 0 0 false 4294967295 0 0 0 0 0 0 false w).trans (by simp)
  have hI : ∀ w, (Op.equalIn 10000 30 (.agg #[.int .i64 0, .int .i64 0, .int .i64 0, .int .i64 0, .int .i64 0]) (.agg #[.int .i64 0, .int .i64 0, .int .i64 0, .int .i64 0, .int .i64 0])).run Tryz.prog w = .ok true w := fun w => (ins_eq' 9998 0 0 0 0 0 0 0 0 0 0 w).trans (by simp)
  have HS := Lib.hid hS
  have HK := Lib.hid hK
  have HL := Lib.hid lvG
  clear hK hS lvG hvX hvP hvG S49
  simp only [List.append_eq, List.cons_append, List.nil_append]
  refine region_cls_lex SS (by kernel_rfl) (by kernel_rfl) (by kernel_rfl) (HS.out _ _ s0 (Below.refl _ _).drew) ?_
  repeat (first
    | go_big_quiet_skip
    | (go_big_quiet_want
       first
       | (refine HL.out _ _ _ _ _ (.inl rfl) rfl rfl ?_
          simp only [Act.put, List.setIfInBounds_toArray, List.set_cons_zero, List.set_cons_succ]
          go_big_quiet_on)
       | (refine HL.out _ _ _ _ _ (.inr rfl) rfl rfl ?_
          simp only [Act.put, List.setIfInBounds_toArray, List.set_cons_zero, List.set_cons_succ]
          go_big_quiet_on)
       | (go_big_quiet_op
          first
          | go_big_quiet_on
          | (apply Exists.intro
             refine ⟨fun y => ?_, ?_⟩
             · first | exact rfl | with_reducible exact cW.out y | with_reducible exact c1.out y | with_reducible exact c2.out y | with_reducible exact c3.out y | with_reducible exact cX.out y | exact cW.out y | exact c1.out y | exact c2.out y | exact c3.out y | exact cX.out y
             go_big_quiet_on))))
  refine wpQuiet_nil ?_
  intro y
  have kz := Lib.hid (HK.out _ y.h).bl
  generalize y.w = wz at kz ⊢
  go_wp2_with fail
  go_ret
  exact ⟨rfl, kz.out⟩
set_option maxRecDepth 100000 in
theorem lifted (os : Os) (started : os.Started) (H : Type) (enc : TypeId × Value → H) :
    ReturnsInHanded {} Tryz.checked os 8 .any (fun w args => (Rows.coreKnownSpec.pre enc Tryz.prog Tryz.f8 [] false w args ∧ laidMetH Tryz.prog Rows.coreKnownRow.laid w) ∧ sizedMet enc Tryz.prog Tryz.f8 (OpenSpec.ofChange Rows.coreKnownSpec) false w args) (Rows.coreKnownSpec.post enc Tryz.prog Tryz.f8 false true false false) := by
  refine returnsInHanded_of_change_and (C := Tryz.checked) (X := fun w _ => laidMetH Tryz.prog Rows.coreKnownRow.laid w) (fun _ _ _ hh h => h.of_heap hh) own started (by kernel_rfl) Tryz.func8
    (ChangeSpec.witness_at (enc := enc) (C := Tryz.checked) (os := os) (X := fun w _ => laidMetH Tryz.prog Rows.coreKnownRow.laid w) false (laidWorld os) #[] 8 rfl (by kernel_rfl) (by kernel_rfl) (by kernel_rfl) (by kernel_rfl) (by kernel_rfl) (laid_met os _)) ?_
  intro W base args ds gs before hval0 hW _ _ hL _
  have hval : ∀ (j : Nat) t v, Tryz.f8.params[j]? = some t → args[j]? = some v → Value.okWide Tryz.prog W .any base t v := hval0
  have hW' := hW
  obtain ⟨p, q, hA0, hV, rfl, hfz, hnd⟩ := hW
  have hA : DataW.TrodAll enc Tryz.prog W 0 (fun _ => true) true Tryz.f8.params.toList args.toList ds p := hA0
  rw [Tryz.params8] at hA hval
  obtain ⟨rfl, rfl, rfl⟩ := trodAll_none hA
  obtain ⟨rfl, rfl⟩ := trodVars_none hV
  clear hA0 hval0
  refine (walk  W (tabs_of_laid hL)).mono fun e W' ⟨he, bel⟩ => ?_
  subst he
  exact ⟨_, rfl, _, _, _, [], _, [], hW', trodAll_mk1 (shut_bool Tryz.underlying4 _), trodAll_mk0, rfl, bel.frame _, fun h => by cases h⟩
theorem over : Rows.CoreKnownSaid :=
  OpenClaim.holds_of_wide 8 Tryz.f8 rfl rfl rfl rfl rfl rfl rfl ⟨rfl, rfl, rfl, rfl, rfl⟩ rfl rfl rfl rfl rfl (by kernel_rfl) Tryz.func8 (by kernel_rfl)
    (of_decide_eq_true (by kernel_rfl)) (by unfold Func.isWrapper; first | (rw [if_pos (by decide +kernel)]; kernel_rfl) | (rw [if_neg (by decide +kernel)]; exact ⟨rfl, rfl⟩))
    (fun os started H enc _ => lifted os started H enc)
/-- The given statement. -/
theorem proved : Rows.CoreKnownCardSaid :=
  Claim7.holds_tied_plain_at .later [] [.data] true (true, "a811f8ea155858ad6287c3ef8a487e61324b84dc1f446f16a7919a50e5900a6a") false
    over (fun _ h => by cases h) (by kernel_rfl) (fun _ h => by cases h) coreKnown_row_tie rfl ⟨rfl, rfl⟩ (by kernel_rfl) rfl
    (fun f fn hf hfn => by
      obtain rfl : f = 8 := Option.some.inj ((show Tryz.prog.funcNamed "fallow/fallowlaw10.CoreKnown" = some 8 by kernel_rfl).symm.trans hf) |>.symm
      obtain rfl : fn = Tryz.f8 := (Option.some.inj (Tryz.func8.symm.trans hfn)).symm
      exact ⟨by kernel_rfl, fun j t ht => by
        rw [Tryz.params8] at ht
        simp at ht⟩)
    (by kernel_rfl)
end Go.Proofs.YtkmgdfcambdeeaaGreatDoor.cknow
