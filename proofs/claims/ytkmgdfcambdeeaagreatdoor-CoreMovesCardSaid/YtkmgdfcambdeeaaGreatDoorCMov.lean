/- Proved: numbers go through memory as they are: what is stored in bytes, halves, words is loaded as its lowest bits, wherever within the bounds it stands (the card of CoreMoves): for every input; the table of forms is tied to the program's text. -/
import Derived.Test.YtkmgdfcambdeeaaGreatDoorCbV
import Derived.Test.YtkmgdfcambdeeaaGreatDoorTie
import Derived.Test.YtkmgdfcambdeeaaGreatDoorCards
import Derived.BigQuiet
import Derived.SevenTiedAt
import Derived.ProofKit
import Derived.OpenShut
import Derived.ShutString
import Derived.ChangeOld
namespace Go.Proofs.YtkmgdfcambdeeaaGreatDoor.cmov
open Go.ChangeShapes Go.WideShapes Go.ChangeAt Go.RowKit
open Go.ChangeMaps (open_string shut_string)
set_option linter.unusedVariables false
set_option maxRecDepth 100000
set_option maxHeartbeats 16000000 in
theorem walk_0 (v at_ kind : Nat) (lv : v < 4294967296) (la : at_ < 256) (ek : (kind : Int) % 3 = 0) (W : World) (hT : Tabs W) : Calls Tryz.prog 7 #[.int .u32 v, .int .u8 at_, .int .u8 kind] W fun e w' => e = .returned (.bool true) ∧ Below W.heap.size W w' := by
  have hA := Lib.hid (anew_yes 16 W (by decide) (by decide))
  have hFr := Lib.hid frame_any
  have hWk := Lib.hid works10_any
  have hNm := Lib.hid (fun w => pNumber_cp v lv w)
  obtain ⟨z, hz⟩ : ∃ z, z = at_ % 64 := ⟨_, rfl⟩
  have ez : (at_ : Int) % 64 = (z : Int) := by omega
  have lz : z < 64 := by omega
  clear hz la
  obtain ⟨m1, t1, m2, t2⟩ := mvc0 z lz
  obtain ⟨⟨a1, a2, a3, a4⟩, b1, b2, b3, b4⟩ := mv_any (o1 := 20) (o2 := 17) (n := 1) (v := v) (.inl rfl) (.inl rfl) (.inl rfl) rfl rfl (by omega) m1 t1 m2 t2
  have D1 := Lib.hid (fun (w : World) (a mb wb bb c : Nat) (H : ArAt w a mb wb bb c 4096 256 F0 L0) (h : Tabs w) => (show Calls Tryz.prog 12 #[fV (F5 v), iv ⟨20, 5, 1, 0, (z : Nat)⟩, .pointer (some ⟨a, 0, none⟩)] w (Nxt a mb wb bb c 4096 256 F0 (ovr L0 (256 + z) (leB 1 v)) w (.tuple #[fV (nxt (F5 v)), .int .i64 0])) from by
    have k := pDo_any H h (F5 v) (F5_fit lv) ⟨20, 5, 1, 0, (z : Nat)⟩
    rw [a1, a2, a3, a4] at k
    exact k))
  have D2 := Lib.hid (fun (w : World) (a mb wb bb c : Nat) (H : ArAt w a mb wb bb c 4096 256 F0 (ovr L0 (256 + z) (leB 1 v))) (h : Tabs w) => (show Calls Tryz.prog 12 #[fV (nxt (F5 v)), iv ⟨17, 6, 1, 0, (z : Nat)⟩, .pointer (some ⟨a, 0, none⟩)] w (Nxt a mb wb bb c 4096 256 F0 (ovr L0 (256 + z) (leB 1 v)) w (.tuple #[fV ((nxt (nxt (F5 v))).set 6 (numC (v % 256 ^ 1))), .int .i64 0])) from by
    have k := pDo_any H h (nxt (F5 v)) (nxt_fit (F5_fit lv)) ⟨17, 6, 1, 0, (z : Nat)⟩
    rw [b1, b2, b3, b4] at k
    exact k))
  clear m1 t1 m2 t2 a1 a2 a3 a4 b1 b2 b3 b4
  obtain ⟨vn, hvn⟩ : ∃ vn, vn = v % 256 ^ 1 := ⟨_, rfl⟩
  have lvn : vn < 4294967296 := by rw [hvn]; exact Nat.lt_of_le_of_lt (Nat.mod_le _ _) lv
  obtain ⟨RH, hRH⟩ : ∃ R, R = (nxt (nxt (F5 v))).set 6 (numC vn) := ⟨_, rfl⟩
  rw [← hvn, ← hRH] at D2
  have hN2 := Lib.hid (fun w => pNumber_any vn lvn w)
  have lRH : RH.length = 17 := by rw [hRH, List.length_set]; exact (nxt_fit (nxt_fit (F5_fit lv))).len
  have eH6 := Lib.hid (show RH[6]? = some (numC vn) from by rw [hRH]; exact List.getElem?_set_self (by rw [(nxt_fit (nxt_fit (F5_fit lv))).len]; decide))
  have eH5 := Lib.hid (show RH[5]? = some (numC v) from by rw [hRH]; rfl)
  have eH1 := Lib.hid (show RH[1]? = some c1C from by rw [hRH]; rfl)
  have eHp := Lib.hid (show RH[16]? = some ⟨8, 0, 0, 64, 5, 0, 0, true⟩ from by rw [hRH]; kernel_rfl)
  have eF5 := Lib.hid (show (F5 v)[5]? = some (numC v) from rfl)
  have eF1 := Lib.hid (show (F5 v)[1]? = some c1C from rfl)
  have lG : (nxt (F5 v)).length = 17 := (nxt_fit (F5_fit lv)).len
  generalize nxt (F5 v) = RG at *
  obtain ⟨R5, hR5⟩ : ∃ R, R = F5 v := ⟨_, rfl⟩
  have l5 : R5.length = 17 := by rw [hR5]; exact (F5_fit lv).len
  rw [← hR5] at D1 eF5 eF1
  obtain ⟨R0, hR0⟩ : ∃ R, R = frL := ⟨_, rfl⟩
  have l0 : R0.length = 17 := by rw [hR0]; rfl
  have h5 := Lib.hid (show R5 = R0.set 5 (numC v) from by rw [hR5, hR0]; rfl)
  rw [← hR0] at hFr
  clear hR0 hR5 hRH
  have hand := Lib.hid (show (v : Nat) &&& 255 = vn from by rw [hvn, show 256 ^ 1 = 2 ^ 8 from rfl, show 255 = 2 ^ 8 - 1 from rfl, Nat.and_two_pow_sub_one_eq_mod])
  have eAnd : bits .and .u32 (v : Int) 255 = (vn : Int) := (u32_and_nat v 255 lv (by decide)).trans (by rw [hand.out])
  clear hvn
  go_enter Tryz.func7, Tryz.ntmps7
  go_wp2_with fail
  refine hA.out.mono ?_
  rintro e w1 ⟨a, rfl, mb, wb, bb, c, ha, hb1, x1, x2, x3, x4⟩
  have S1 := Lib.hid (St.first (show ArAt w1 a mb wb bb c 4096 256 F0 L0 from ha))
  have hlt := Lib.hid (show a < w1.heap.size ∧ mb < w1.heap.size ∧ wb < w1.heap.size ∧ bb < w1.heap.size from ⟨ha.la, ha.m.lb, ha.m.lw, ha.lb⟩)
  have T1 := Lib.hid (hT.below hb1)
  have hx := Lib.hid (And.intro hb1 (And.intro x3 x4))
  have TB := Lib.hid (fun (L : List Rw) (f : Nat → Bool) (l : List UInt8) (w : World) (S : St w1 a mb wb bb c 4096 256 f l L w) => hT.below (hx.out.1.trans (S.of.below hx.out.1.size hx.out.2.1 hx.out.2.2)))
  clear hA hb1 x1 x2 x3 x4 ha
  go_wp2_with fail
  refine (hWk.out _ T1.out).mono ?_
  rintro e w2 ⟨rfl, g⟩
  have S2 := Lib.hid (S1.out.below g)
  clear g S1 T1 hWk
  go_wp2_with fail
  refine (hFr.out _).mono ?_
  rintro e w3 ⟨rfl, g⟩
  have S3 := Lib.hid (S2.out.below g)
  clear g S2 hFr
  have sz_ := S3.out.of.size
  have ne_ := Lib.hid (fun (x : Rw) (hx : x ∈ []) => (S3.out.rs x hx).1)
  have P4 := S3.out.push (fC zF) 28
  have th : (w3.alloc (.cells Tryz.zeroCells28 28)).there w3.heap.size 0 (fC R0).toArray.size := by
    rw [show (fC R0).toArray.size = 136 from by rw [List.size_toArray, fC_len, l0], zero_fr]
    exact at_there (P4.rs _ (List.mem_cons_self ..)) 136 (by rw [fC_len]; decide)
  have S4 := Lib.hid (P4.putA (fC R0) sz_ (fun x hx => Nat.ne_of_lt (ne_.out x hx)) (by rw [fC_len, fC_len, l0]; rfl) (by have := hlt.out; omega))
  rw [← zero_fr] at S4
  have sa := size_fa l0
  have oa := one_fr R0
  clear P4 ne_ S3
  go_wp2_with ((with_reducible show wpList _ _ _ _ _ _); refine wpList_store_mid rfl 28 _ _ rfl w3.heap.size 0 (fC R0).toArray rfl rfl th sa oa ?_; clear th sa oa; change wpList _ _ _ _ _ ((w3.alloc (.cells Tryz.zeroCells28 28)).setCells w3.heap.size 0 (fC R0)); generalize (w3.alloc (.cells Tryz.zeroCells28 28)).setCells w3.heap.size 0 (fC R0) = w4 at S4 ⊢; generalize w3.heap.size = q at S4 sz_ ⊢)
  refine (hNm.out _).mono ?_
  rintro e w5 ⟨rfl, g⟩
  have S5 := Lib.hid (S4.out.below g)
  have lq := Lib.hid (show q ≠ a ∧ q ≠ mb ∧ q ≠ wb ∧ q ≠ bb from by have := hlt.out; omega)
  clear g S4
  have th := S5.out.there (g := q) (vs := fC R0) (by simp) 40 8 (by rw [fC_len, l0]; decide)
  have S6 := Lib.hid (S5.out.putF 5 (numC v) (by rw [l0]; decide) sz_ (fun x hx => by cases hx) lq.out)
  rw [← h5.out] at S6
  have s1 := size_ca (numC v)
  have o1 := one_cp (numC v)
  clear S5
  go_wp2_with ((with_reducible show wpList _ _ _ _ _ _); first | (refine wpList_store_mid rfl 25 _ _ rfl q 40 (numC v).C.toArray rfl rfl th s1 o1 ?_; clear th s1 o1; change wpList _ _ _ _ _ (w5.setCells q (5 * 8) (numC v).C); generalize w5.setCells q (5 * 8) (numC v).C = w6 at S6 ⊢; have rq := rs_range (S6.out.rs ⟨q, fC R5⟩ (by simp))) | (refine wpList_load_mid rfl 28 _ rfl q 0 rfl (fC R5) _ rq Tryz.underlying28 rfl (size_fr l5) ?_))
  refine (D1.out _ _ _ _ _ _ S6.out.ar (TB.out _ _ _ _ S6.out)).mono ?_
  rintro ee w7 ⟨rfl, n1⟩
  have S7 := Lib.hid (S6.out.nxt n1)
  clear n1 rq S6 D1 sz_
  have sz_ := S7.out.of.size
  have ne_ := Lib.hid (fun (x : Rw) (hx : x ∈ [⟨q, fC R5⟩]) => (S7.out.rs x hx).1)
  have P4 := S7.out.push (fC zF) 28
  have th : (w7.alloc (.cells Tryz.zeroCells28 28)).there w7.heap.size 0 (fC RG).toArray.size := by
    rw [show (fC RG).toArray.size = 136 from by rw [List.size_toArray, fC_len, lG], zero_fr]
    exact at_there (P4.rs _ (List.mem_cons_self ..)) 136 (by rw [fC_len]; decide)
  have S8 := Lib.hid (P4.putA (fC RG) sz_ (fun x hx => Nat.ne_of_lt (ne_.out x hx)) (by rw [fC_len, fC_len, lG]; rfl) (by have := hlt.out; omega))
  rw [← zero_fr] at S8
  have sa := size_fa lG
  have oa := one_fr RG
  clear P4 ne_ S7
  go_wp2_with ((with_reducible show wpList _ _ _ _ _ _); first | (refine wpList_store_mid rfl 28 _ _ rfl w7.heap.size 0 (fC RG).toArray rfl rfl th sa oa ?_; clear th sa oa; change wpList _ _ _ _ _ ((w7.alloc (.cells Tryz.zeroCells28 28)).setCells w7.heap.size 0 (fC RG)); generalize (w7.alloc (.cells Tryz.zeroCells28 28)).setCells w7.heap.size 0 (fC RG) = w8 at S8 ⊢; generalize w7.heap.size = qg at S8 sz_ ⊢; have rg := rs_range (S8.out.rs ⟨qg, fC RG⟩ (by simp))) | (refine wpList_load_mid rfl 28 _ rfl qg 0 rfl (fC RG) _ rg Tryz.underlying28 rfl (size_fr lG) ?_))
  refine (D2.out _ _ _ _ _ _ S8.out.ar (TB.out _ _ _ _ S8.out)).mono ?_
  rintro ee w9 ⟨rfl, n1⟩
  have S9 := Lib.hid (S8.out.nxt n1)
  clear n1 rg S8 D2 sz_
  have sz_ := S9.out.of.size
  have ne_ := Lib.hid (fun (x : Rw) (hx : x ∈ [⟨qg, fC RG⟩, ⟨q, fC R5⟩]) => (S9.out.rs x hx).1)
  have P4 := S9.out.push (fC zF) 28
  have th : (w9.alloc (.cells Tryz.zeroCells28 28)).there w9.heap.size 0 (fC RH).toArray.size := by
    rw [show (fC RH).toArray.size = 136 from by rw [List.size_toArray, fC_len, lRH], zero_fr]
    exact at_there (P4.rs _ (List.mem_cons_self ..)) 136 (by rw [fC_len]; decide)
  have SA := Lib.hid (P4.putA (fC RH) sz_ (fun x hx => Nat.ne_of_lt (ne_.out x hx)) (by rw [fC_len, fC_len, lRH]; rfl) (by have := hlt.out; omega))
  rw [← zero_fr] at SA
  have sa := size_fa lRH
  have oa := one_fr RH
  clear P4 ne_ S9
  go_wp2_with ((with_reducible show wpList _ _ _ _ _ _); (refine wpList_store_mid rfl 28 _ _ rfl w9.heap.size 0 (fC RH).toArray rfl rfl th sa oa ?_; clear th sa oa; change wpList _ _ _ _ _ ((w9.alloc (.cells Tryz.zeroCells28 28)).setCells w9.heap.size 0 (fC RH)); generalize (w9.alloc (.cells Tryz.zeroCells28 28)).setCells w9.heap.size 0 (fC RH) = wA at SA ⊢; generalize w9.heap.size = qh at SA sz_ ⊢))
  clear sz_
  obtain ⟨S, hS0⟩ : ∃ S : World → Prop, S = fun w => RS [⟨qh, fC RH⟩, ⟨q, fC R5⟩] w ∧ Below W.heap.size W w := ⟨_, rfl⟩
  have hK : ∀ w, S w → RS [⟨qh, fC RH⟩, ⟨q, fC R5⟩] w ∧ Below W.heap.size W w := fun w h => by rw [hS0] at h; exact h
  have hSb : ∀ u v, S u → Below u.heap.size u v → S v := fun u v h k => by rw [hS0] at h ⊢; exact ⟨h.1.below k, h.2.trans (k.mono h.2.size)⟩
  have s0 : S wA := by
    rw [hS0]
    refine ⟨fun x hx => SA.out.rs x ?_, hx.out.1.trans (SA.out.of.below hx.out.1.size hx.out.2.1 hx.out.2.2)⟩
    simp only [List.mem_cons, List.not_mem_nil, or_false] at hx ⊢
    rcases hx with rfl | rfl <;> simp
  clear hS0
  have cN := Lib.hid (cls_call (S := S) fun w hw => (hN2.out w).mono fun e w' k => (⟨k.1, hSb _ _ hw k.2⟩ : _ ∧ S w'))
  have hE1 : ∀ w, (Op.equalIn 10000 25 (.agg #[.int .u32 vn, .int .u8 0, .int .u16 0, .int .u16 0, .int .u16 0, .int .u16 0, .int .u32 0, .bool false]) (.agg #[.int .u32 vn, .int .u8 0, .int .u16 0, .int .u16 0, .int .u16 0, .int .u16 0, .int .u32 0, .bool false])).run Tryz.prog w = .ok true w := fun w => (cap_eq vn 0 0 0 0 0 0 false vn 0 0 0 0 0 0 false w).trans (by simp)
  have hE3 : ∀ w, (Op.equalIn 10000 25 (.agg #[.int .u32 v, .int .u8 0, .int .u16 0, .int .u16 0, .int .u16 0, .int .u16 0, .int .u32 0, .bool false]) (.agg #[.int .u32 v, .int .u8 0, .int .u16 0, .int .u16 0, .int .u16 0, .int .u16 0, .int .u32 0, .bool false])).run Tryz.prog w = .ok true w := fun w => (cap_eq v 0 0 0 0 0 0 false v 0 0 0 0 0 0 false w).trans (by simp)
  have hE2 : ∀ w, (Op.equalIn 10000 25 (.agg #[.int .u32 256, .int .u8 0, .int .u16 256, .int .u16 320, .int .u16 27, .int .u16 0, .int .u32 0, .bool true]) (.agg #[.int .u32 256, .int .u8 0, .int .u16 256, .int .u16 320, .int .u16 27, .int .u16 0, .int .u32 0, .bool true])).run Tryz.prog w = .ok true w := fun w => (cap_eq 256 0 256 320 27 0 0 true 256 0 256 320 27 0 0 true w).trans (by simp)
  have a0 : ∀ y : Wd S, y.w.cell? ⟨qh, 48, none⟩ = some (.int .u32 vn) := fun y => (at_reg ((hK _ y.h).1 ⟨qh, fC RH⟩ (by simp)) eH6.out).1
  have a1 : ∀ y : Wd S, y.w.cell? ⟨qh, 49, none⟩ = some (.int .u8 0) := fun y => (at_reg ((hK _ y.h).1 ⟨qh, fC RH⟩ (by simp)) eH6.out).2.1
  have a2 : ∀ y : Wd S, y.w.cell? ⟨qh, 50, none⟩ = some (.int .u16 0) := fun y => (at_reg ((hK _ y.h).1 ⟨qh, fC RH⟩ (by simp)) eH6.out).2.2.1
  have a3 : ∀ y : Wd S, y.w.cell? ⟨qh, 51, none⟩ = some (.int .u16 0) := fun y => (at_reg ((hK _ y.h).1 ⟨qh, fC RH⟩ (by simp)) eH6.out).2.2.2.1
  have a4 : ∀ y : Wd S, y.w.cell? ⟨qh, 52, none⟩ = some (.int .u16 0) := fun y => (at_reg ((hK _ y.h).1 ⟨qh, fC RH⟩ (by simp)) eH6.out).2.2.2.2.1
  have a5 : ∀ y : Wd S, y.w.cell? ⟨qh, 53, none⟩ = some (.int .u16 0) := fun y => (at_reg ((hK _ y.h).1 ⟨qh, fC RH⟩ (by simp)) eH6.out).2.2.2.2.2.1
  have a6 : ∀ y : Wd S, y.w.cell? ⟨qh, 54, none⟩ = some (.int .u32 0) := fun y => (at_reg ((hK _ y.h).1 ⟨qh, fC RH⟩ (by simp)) eH6.out).2.2.2.2.2.2.1
  have a7 : ∀ y : Wd S, y.w.cell? ⟨qh, 55, none⟩ = some (.bool false) := fun y => (at_reg ((hK _ y.h).1 ⟨qh, fC RH⟩ (by simp)) eH6.out).2.2.2.2.2.2.2
  have b0 : ∀ y : Wd S, y.w.cell? ⟨qh, 40, none⟩ = some (.int .u32 v) := fun y => (at_reg ((hK _ y.h).1 ⟨qh, fC RH⟩ (by simp)) eH5.out).1
  have b1 : ∀ y : Wd S, y.w.cell? ⟨qh, 41, none⟩ = some (.int .u8 0) := fun y => (at_reg ((hK _ y.h).1 ⟨qh, fC RH⟩ (by simp)) eH5.out).2.1
  have b2 : ∀ y : Wd S, y.w.cell? ⟨qh, 42, none⟩ = some (.int .u16 0) := fun y => (at_reg ((hK _ y.h).1 ⟨qh, fC RH⟩ (by simp)) eH5.out).2.2.1
  have b3 : ∀ y : Wd S, y.w.cell? ⟨qh, 43, none⟩ = some (.int .u16 0) := fun y => (at_reg ((hK _ y.h).1 ⟨qh, fC RH⟩ (by simp)) eH5.out).2.2.2.1
  have b4 : ∀ y : Wd S, y.w.cell? ⟨qh, 44, none⟩ = some (.int .u16 0) := fun y => (at_reg ((hK _ y.h).1 ⟨qh, fC RH⟩ (by simp)) eH5.out).2.2.2.2.1
  have b5 : ∀ y : Wd S, y.w.cell? ⟨qh, 45, none⟩ = some (.int .u16 0) := fun y => (at_reg ((hK _ y.h).1 ⟨qh, fC RH⟩ (by simp)) eH5.out).2.2.2.2.2.1
  have b6 : ∀ y : Wd S, y.w.cell? ⟨qh, 46, none⟩ = some (.int .u32 0) := fun y => (at_reg ((hK _ y.h).1 ⟨qh, fC RH⟩ (by simp)) eH5.out).2.2.2.2.2.2.1
  have b7 : ∀ y : Wd S, y.w.cell? ⟨qh, 47, none⟩ = some (.bool false) := fun y => (at_reg ((hK _ y.h).1 ⟨qh, fC RH⟩ (by simp)) eH5.out).2.2.2.2.2.2.2
  have d0 : ∀ y : Wd S, y.w.cell? ⟨q, 40, none⟩ = some (.int .u32 v) := fun y => (at_reg ((hK _ y.h).1 ⟨q, fC R5⟩ (by simp)) eF5.out).1
  have d1 : ∀ y : Wd S, y.w.cell? ⟨q, 41, none⟩ = some (.int .u8 0) := fun y => (at_reg ((hK _ y.h).1 ⟨q, fC R5⟩ (by simp)) eF5.out).2.1
  have d2 : ∀ y : Wd S, y.w.cell? ⟨q, 42, none⟩ = some (.int .u16 0) := fun y => (at_reg ((hK _ y.h).1 ⟨q, fC R5⟩ (by simp)) eF5.out).2.2.1
  have d3 : ∀ y : Wd S, y.w.cell? ⟨q, 43, none⟩ = some (.int .u16 0) := fun y => (at_reg ((hK _ y.h).1 ⟨q, fC R5⟩ (by simp)) eF5.out).2.2.2.1
  have d4 : ∀ y : Wd S, y.w.cell? ⟨q, 44, none⟩ = some (.int .u16 0) := fun y => (at_reg ((hK _ y.h).1 ⟨q, fC R5⟩ (by simp)) eF5.out).2.2.2.2.1
  have d5 : ∀ y : Wd S, y.w.cell? ⟨q, 45, none⟩ = some (.int .u16 0) := fun y => (at_reg ((hK _ y.h).1 ⟨q, fC R5⟩ (by simp)) eF5.out).2.2.2.2.2.1
  have d6 : ∀ y : Wd S, y.w.cell? ⟨q, 46, none⟩ = some (.int .u32 0) := fun y => (at_reg ((hK _ y.h).1 ⟨q, fC R5⟩ (by simp)) eF5.out).2.2.2.2.2.2.1
  have d7 : ∀ y : Wd S, y.w.cell? ⟨q, 47, none⟩ = some (.bool false) := fun y => (at_reg ((hK _ y.h).1 ⟨q, fC R5⟩ (by simp)) eF5.out).2.2.2.2.2.2.2
  have f0 : ∀ y : Wd S, y.w.cell? ⟨qh, 8, none⟩ = some (.int .u32 256) := fun y => (at_reg ((hK _ y.h).1 ⟨qh, fC RH⟩ (by simp)) eH1.out).1
  have f1 : ∀ y : Wd S, y.w.cell? ⟨qh, 9, none⟩ = some (.int .u8 0) := fun y => (at_reg ((hK _ y.h).1 ⟨qh, fC RH⟩ (by simp)) eH1.out).2.1
  have f2 : ∀ y : Wd S, y.w.cell? ⟨qh, 10, none⟩ = some (.int .u16 256) := fun y => (at_reg ((hK _ y.h).1 ⟨qh, fC RH⟩ (by simp)) eH1.out).2.2.1
  have f3 : ∀ y : Wd S, y.w.cell? ⟨qh, 11, none⟩ = some (.int .u16 320) := fun y => (at_reg ((hK _ y.h).1 ⟨qh, fC RH⟩ (by simp)) eH1.out).2.2.2.1
  have f4 : ∀ y : Wd S, y.w.cell? ⟨qh, 12, none⟩ = some (.int .u16 27) := fun y => (at_reg ((hK _ y.h).1 ⟨qh, fC RH⟩ (by simp)) eH1.out).2.2.2.2.1
  have f5 : ∀ y : Wd S, y.w.cell? ⟨qh, 13, none⟩ = some (.int .u16 0) := fun y => (at_reg ((hK _ y.h).1 ⟨qh, fC RH⟩ (by simp)) eH1.out).2.2.2.2.2.1
  have f6 : ∀ y : Wd S, y.w.cell? ⟨qh, 14, none⟩ = some (.int .u32 0) := fun y => (at_reg ((hK _ y.h).1 ⟨qh, fC RH⟩ (by simp)) eH1.out).2.2.2.2.2.2.1
  have f7 : ∀ y : Wd S, y.w.cell? ⟨qh, 15, none⟩ = some (.bool true) := fun y => (at_reg ((hK _ y.h).1 ⟨qh, fC RH⟩ (by simp)) eH1.out).2.2.2.2.2.2.2
  have g0 : ∀ y : Wd S, y.w.cell? ⟨q, 8, none⟩ = some (.int .u32 256) := fun y => (at_reg ((hK _ y.h).1 ⟨q, fC R5⟩ (by simp)) eF1.out).1
  have g1 : ∀ y : Wd S, y.w.cell? ⟨q, 9, none⟩ = some (.int .u8 0) := fun y => (at_reg ((hK _ y.h).1 ⟨q, fC R5⟩ (by simp)) eF1.out).2.1
  have g2 : ∀ y : Wd S, y.w.cell? ⟨q, 10, none⟩ = some (.int .u16 256) := fun y => (at_reg ((hK _ y.h).1 ⟨q, fC R5⟩ (by simp)) eF1.out).2.2.1
  have g3 : ∀ y : Wd S, y.w.cell? ⟨q, 11, none⟩ = some (.int .u16 320) := fun y => (at_reg ((hK _ y.h).1 ⟨q, fC R5⟩ (by simp)) eF1.out).2.2.2.1
  have g4 : ∀ y : Wd S, y.w.cell? ⟨q, 12, none⟩ = some (.int .u16 27) := fun y => (at_reg ((hK _ y.h).1 ⟨q, fC R5⟩ (by simp)) eF1.out).2.2.2.2.1
  have g5 : ∀ y : Wd S, y.w.cell? ⟨q, 13, none⟩ = some (.int .u16 0) := fun y => (at_reg ((hK _ y.h).1 ⟨q, fC R5⟩ (by simp)) eF1.out).2.2.2.2.2.1
  have g6 : ∀ y : Wd S, y.w.cell? ⟨q, 14, none⟩ = some (.int .u32 0) := fun y => (at_reg ((hK _ y.h).1 ⟨q, fC R5⟩ (by simp)) eF1.out).2.2.2.2.2.2.1
  have g7 : ∀ y : Wd S, y.w.cell? ⟨q, 15, none⟩ = some (.bool true) := fun y => (at_reg ((hK _ y.h).1 ⟨q, fC R5⟩ (by simp)) eF1.out).2.2.2.2.2.2.2
  have pB : ∀ y : Wd S, y.w.cell? ⟨qh, 128, none⟩ = some (.int .u32 8) := fun y => (at_reg ((hK _ y.h).1 ⟨qh, fC RH⟩ (by simp)) eHp.out).1
  have HS := Lib.hid hSb
  have HK := Lib.hid hK
  clear hK hSb SA TB
  go_wp2_with fail
  refine region_cls S (by kernel_rfl) (by kernel_rfl) (HS.out _ _ s0 (Below.refl _ _).drew) ?_
  repeat (first
    | go_big_quiet_skip
    | (go_big_quiet_want
       go_big_quiet_op
       first
       | go_big_quiet_on
       | (apply Exists.intro
          refine ⟨fun y => ?_, ?_⟩
          · first | exact rfl | with_reducible exact cN.out y | exact cN.out y
          go_big_quiet_on)))
  refine wpQuiet_nil ?_
  intro y
  have hB := Lib.hid (HK.out _ y.h).2
  generalize y.w = wG at hB ⊢
  go_wp2_with fail
  go_ret
  exact ⟨rfl, hB.out⟩
set_option maxHeartbeats 16000000 in
theorem walk_1 (v at_ kind : Nat) (lv : v < 4294967296) (la : at_ < 256) (ek : (kind : Int) % 3 = 1) (W : World) (hT : Tabs W) : Calls Tryz.prog 7 #[.int .u32 v, .int .u8 at_, .int .u8 kind] W fun e w' => e = .returned (.bool true) ∧ Below W.heap.size W w' := by
  have hA := Lib.hid (anew_yes 16 W (by decide) (by decide))
  have hFr := Lib.hid frame_any
  have hWk := Lib.hid works10_any
  have hNm := Lib.hid (fun w => pNumber_cp v lv w)
  obtain ⟨z, hz⟩ : ∃ z, z = at_ % 64 / 2 := ⟨_, rfl⟩
  have ez : ((at_ : Int) % 64).tdiv 2 = (z : Int) := by rw [Int.tdiv_eq_ediv_of_nonneg (by omega)]; omega
  have ez2 : (at_ : Int) % 64 / 2 = (z : Int) := by omega
  have lz : z < 32 := by omega
  clear hz la
  obtain ⟨m1, t1, m2, t2⟩ := mvc1 z lz
  obtain ⟨⟨a1, a2, a3, a4⟩, b1, b2, b3, b4⟩ := mv_any (o1 := 21) (o2 := 18) (n := 2) (v := v) (.inr (.inl rfl)) (.inr (.inl rfl)) (.inr (.inl rfl)) rfl rfl (by omega) m1 t1 m2 t2
  have D1 := Lib.hid (fun (w : World) (a mb wb bb c : Nat) (H : ArAt w a mb wb bb c 4096 256 F0 L0) (h : Tabs w) => (show Calls Tryz.prog 12 #[fV (F5 v), iv ⟨21, 5, 1, 0, (z : Int) * 2⟩, .pointer (some ⟨a, 0, none⟩)] w (Nxt a mb wb bb c 4096 256 F0 (ovr L0 (256 + z * 2) (leB 2 v)) w (.tuple #[fV (nxt (F5 v)), .int .i64 0])) from by
    have k := pDo_any H h (F5 v) (F5_fit lv) ⟨21, 5, 1, 0, (z * 2 : Nat)⟩
    rw [a1, a2, a3, a4] at k
    rw [show (((z * 2 : Nat) : Int)) = (z : Int) * 2 from by omega] at k
    exact k))
  have D2 := Lib.hid (fun (w : World) (a mb wb bb c : Nat) (H : ArAt w a mb wb bb c 4096 256 F0 (ovr L0 (256 + z * 2) (leB 2 v))) (h : Tabs w) => (show Calls Tryz.prog 12 #[fV (nxt (F5 v)), iv ⟨18, 6, 1, 0, (z : Int) * 2⟩, .pointer (some ⟨a, 0, none⟩)] w (Nxt a mb wb bb c 4096 256 F0 (ovr L0 (256 + z * 2) (leB 2 v)) w (.tuple #[fV ((nxt (nxt (F5 v))).set 6 (numC (v % 256 ^ 2))), .int .i64 0])) from by
    have k := pDo_any H h (nxt (F5 v)) (nxt_fit (F5_fit lv)) ⟨18, 6, 1, 0, (z * 2 : Nat)⟩
    rw [b1, b2, b3, b4] at k
    rw [show (((z * 2 : Nat) : Int)) = (z : Int) * 2 from by omega] at k
    exact k))
  clear m1 t1 m2 t2 a1 a2 a3 a4 b1 b2 b3 b4
  obtain ⟨vn, hvn⟩ : ∃ vn, vn = v % 256 ^ 2 := ⟨_, rfl⟩
  have lvn : vn < 4294967296 := by rw [hvn]; exact Nat.lt_of_le_of_lt (Nat.mod_le _ _) lv
  obtain ⟨RH, hRH⟩ : ∃ R, R = (nxt (nxt (F5 v))).set 6 (numC vn) := ⟨_, rfl⟩
  rw [← hvn, ← hRH] at D2
  have hN2 := Lib.hid (fun w => pNumber_any vn lvn w)
  have lRH : RH.length = 17 := by rw [hRH, List.length_set]; exact (nxt_fit (nxt_fit (F5_fit lv))).len
  have eH6 := Lib.hid (show RH[6]? = some (numC vn) from by rw [hRH]; exact List.getElem?_set_self (by rw [(nxt_fit (nxt_fit (F5_fit lv))).len]; decide))
  have eH5 := Lib.hid (show RH[5]? = some (numC v) from by rw [hRH]; rfl)
  have eH1 := Lib.hid (show RH[1]? = some c1C from by rw [hRH]; rfl)
  have eHp := Lib.hid (show RH[16]? = some ⟨8, 0, 0, 64, 5, 0, 0, true⟩ from by rw [hRH]; kernel_rfl)
  have eF5 := Lib.hid (show (F5 v)[5]? = some (numC v) from rfl)
  have eF1 := Lib.hid (show (F5 v)[1]? = some c1C from rfl)
  have lG : (nxt (F5 v)).length = 17 := (nxt_fit (F5_fit lv)).len
  generalize nxt (F5 v) = RG at *
  obtain ⟨R5, hR5⟩ : ∃ R, R = F5 v := ⟨_, rfl⟩
  have l5 : R5.length = 17 := by rw [hR5]; exact (F5_fit lv).len
  rw [← hR5] at D1 eF5 eF1
  obtain ⟨R0, hR0⟩ : ∃ R, R = frL := ⟨_, rfl⟩
  have l0 : R0.length = 17 := by rw [hR0]; rfl
  have h5 := Lib.hid (show R5 = R0.set 5 (numC v) from by rw [hR5, hR0]; rfl)
  rw [← hR0] at hFr
  clear hR0 hR5 hRH
  have hand := Lib.hid (show (v : Nat) &&& 65535 = vn from by rw [hvn, show 256 ^ 2 = 2 ^ 16 from rfl, show 65535 = 2 ^ 16 - 1 from rfl, Nat.and_two_pow_sub_one_eq_mod])
  have eAnd : bits .and .u32 (v : Int) 65535 = (vn : Int) := (u32_and_nat v 65535 lv (by decide)).trans (by rw [hand.out])
  clear hvn
  go_enter Tryz.func7, Tryz.ntmps7
  go_wp2_with fail
  refine hA.out.mono ?_
  rintro e w1 ⟨a, rfl, mb, wb, bb, c, ha, hb1, x1, x2, x3, x4⟩
  have S1 := Lib.hid (St.first (show ArAt w1 a mb wb bb c 4096 256 F0 L0 from ha))
  have hlt := Lib.hid (show a < w1.heap.size ∧ mb < w1.heap.size ∧ wb < w1.heap.size ∧ bb < w1.heap.size from ⟨ha.la, ha.m.lb, ha.m.lw, ha.lb⟩)
  have T1 := Lib.hid (hT.below hb1)
  have hx := Lib.hid (And.intro hb1 (And.intro x3 x4))
  have TB := Lib.hid (fun (L : List Rw) (f : Nat → Bool) (l : List UInt8) (w : World) (S : St w1 a mb wb bb c 4096 256 f l L w) => hT.below (hx.out.1.trans (S.of.below hx.out.1.size hx.out.2.1 hx.out.2.2)))
  clear hA hb1 x1 x2 x3 x4 ha
  go_wp2_with fail
  refine (hWk.out _ T1.out).mono ?_
  rintro e w2 ⟨rfl, g⟩
  have S2 := Lib.hid (S1.out.below g)
  clear g S1 T1 hWk
  go_wp2_with fail
  refine (hFr.out _).mono ?_
  rintro e w3 ⟨rfl, g⟩
  have S3 := Lib.hid (S2.out.below g)
  clear g S2 hFr
  have sz_ := S3.out.of.size
  have ne_ := Lib.hid (fun (x : Rw) (hx : x ∈ []) => (S3.out.rs x hx).1)
  have P4 := S3.out.push (fC zF) 28
  have th : (w3.alloc (.cells Tryz.zeroCells28 28)).there w3.heap.size 0 (fC R0).toArray.size := by
    rw [show (fC R0).toArray.size = 136 from by rw [List.size_toArray, fC_len, l0], zero_fr]
    exact at_there (P4.rs _ (List.mem_cons_self ..)) 136 (by rw [fC_len]; decide)
  have S4 := Lib.hid (P4.putA (fC R0) sz_ (fun x hx => Nat.ne_of_lt (ne_.out x hx)) (by rw [fC_len, fC_len, l0]; rfl) (by have := hlt.out; omega))
  rw [← zero_fr] at S4
  have sa := size_fa l0
  have oa := one_fr R0
  clear P4 ne_ S3
  go_wp2_with ((with_reducible show wpList _ _ _ _ _ _); refine wpList_store_mid rfl 28 _ _ rfl w3.heap.size 0 (fC R0).toArray rfl rfl th sa oa ?_; clear th sa oa; change wpList _ _ _ _ _ ((w3.alloc (.cells Tryz.zeroCells28 28)).setCells w3.heap.size 0 (fC R0)); generalize (w3.alloc (.cells Tryz.zeroCells28 28)).setCells w3.heap.size 0 (fC R0) = w4 at S4 ⊢; generalize w3.heap.size = q at S4 sz_ ⊢)
  refine (hNm.out _).mono ?_
  rintro e w5 ⟨rfl, g⟩
  have S5 := Lib.hid (S4.out.below g)
  have lq := Lib.hid (show q ≠ a ∧ q ≠ mb ∧ q ≠ wb ∧ q ≠ bb from by have := hlt.out; omega)
  clear g S4
  have th := S5.out.there (g := q) (vs := fC R0) (by simp) 40 8 (by rw [fC_len, l0]; decide)
  have S6 := Lib.hid (S5.out.putF 5 (numC v) (by rw [l0]; decide) sz_ (fun x hx => by cases hx) lq.out)
  rw [← h5.out] at S6
  have s1 := size_ca (numC v)
  have o1 := one_cp (numC v)
  clear S5
  go_wp2_with ((with_reducible show wpList _ _ _ _ _ _); first | (refine wpList_store_mid rfl 25 _ _ rfl q 40 (numC v).C.toArray rfl rfl th s1 o1 ?_; clear th s1 o1; change wpList _ _ _ _ _ (w5.setCells q (5 * 8) (numC v).C); generalize w5.setCells q (5 * 8) (numC v).C = w6 at S6 ⊢; have rq := rs_range (S6.out.rs ⟨q, fC R5⟩ (by simp))) | (refine wpList_load_mid rfl 28 _ rfl q 0 rfl (fC R5) _ rq Tryz.underlying28 rfl (size_fr l5) ?_))
  refine (D1.out _ _ _ _ _ _ S6.out.ar (TB.out _ _ _ _ S6.out)).mono ?_
  rintro ee w7 ⟨rfl, n1⟩
  have S7 := Lib.hid (S6.out.nxt n1)
  clear n1 rq S6 D1 sz_
  have sz_ := S7.out.of.size
  have ne_ := Lib.hid (fun (x : Rw) (hx : x ∈ [⟨q, fC R5⟩]) => (S7.out.rs x hx).1)
  have P4 := S7.out.push (fC zF) 28
  have th : (w7.alloc (.cells Tryz.zeroCells28 28)).there w7.heap.size 0 (fC RG).toArray.size := by
    rw [show (fC RG).toArray.size = 136 from by rw [List.size_toArray, fC_len, lG], zero_fr]
    exact at_there (P4.rs _ (List.mem_cons_self ..)) 136 (by rw [fC_len]; decide)
  have S8 := Lib.hid (P4.putA (fC RG) sz_ (fun x hx => Nat.ne_of_lt (ne_.out x hx)) (by rw [fC_len, fC_len, lG]; rfl) (by have := hlt.out; omega))
  rw [← zero_fr] at S8
  have sa := size_fa lG
  have oa := one_fr RG
  clear P4 ne_ S7
  go_wp2_with ((with_reducible show wpList _ _ _ _ _ _); first | (refine wpList_store_mid rfl 28 _ _ rfl w7.heap.size 0 (fC RG).toArray rfl rfl th sa oa ?_; clear th sa oa; change wpList _ _ _ _ _ ((w7.alloc (.cells Tryz.zeroCells28 28)).setCells w7.heap.size 0 (fC RG)); generalize (w7.alloc (.cells Tryz.zeroCells28 28)).setCells w7.heap.size 0 (fC RG) = w8 at S8 ⊢; generalize w7.heap.size = qg at S8 sz_ ⊢; have rg := rs_range (S8.out.rs ⟨qg, fC RG⟩ (by simp))) | (refine wpList_load_mid rfl 28 _ rfl qg 0 rfl (fC RG) _ rg Tryz.underlying28 rfl (size_fr lG) ?_))
  refine (D2.out _ _ _ _ _ _ S8.out.ar (TB.out _ _ _ _ S8.out)).mono ?_
  rintro ee w9 ⟨rfl, n1⟩
  have S9 := Lib.hid (S8.out.nxt n1)
  clear n1 rg S8 D2 sz_
  have sz_ := S9.out.of.size
  have ne_ := Lib.hid (fun (x : Rw) (hx : x ∈ [⟨qg, fC RG⟩, ⟨q, fC R5⟩]) => (S9.out.rs x hx).1)
  have P4 := S9.out.push (fC zF) 28
  have th : (w9.alloc (.cells Tryz.zeroCells28 28)).there w9.heap.size 0 (fC RH).toArray.size := by
    rw [show (fC RH).toArray.size = 136 from by rw [List.size_toArray, fC_len, lRH], zero_fr]
    exact at_there (P4.rs _ (List.mem_cons_self ..)) 136 (by rw [fC_len]; decide)
  have SA := Lib.hid (P4.putA (fC RH) sz_ (fun x hx => Nat.ne_of_lt (ne_.out x hx)) (by rw [fC_len, fC_len, lRH]; rfl) (by have := hlt.out; omega))
  rw [← zero_fr] at SA
  have sa := size_fa lRH
  have oa := one_fr RH
  clear P4 ne_ S9
  go_wp2_with ((with_reducible show wpList _ _ _ _ _ _); (refine wpList_store_mid rfl 28 _ _ rfl w9.heap.size 0 (fC RH).toArray rfl rfl th sa oa ?_; clear th sa oa; change wpList _ _ _ _ _ ((w9.alloc (.cells Tryz.zeroCells28 28)).setCells w9.heap.size 0 (fC RH)); generalize (w9.alloc (.cells Tryz.zeroCells28 28)).setCells w9.heap.size 0 (fC RH) = wA at SA ⊢; generalize w9.heap.size = qh at SA sz_ ⊢))
  clear sz_
  obtain ⟨S, hS0⟩ : ∃ S : World → Prop, S = fun w => RS [⟨qh, fC RH⟩, ⟨q, fC R5⟩] w ∧ Below W.heap.size W w := ⟨_, rfl⟩
  have hK : ∀ w, S w → RS [⟨qh, fC RH⟩, ⟨q, fC R5⟩] w ∧ Below W.heap.size W w := fun w h => by rw [hS0] at h; exact h
  have hSb : ∀ u v, S u → Below u.heap.size u v → S v := fun u v h k => by rw [hS0] at h ⊢; exact ⟨h.1.below k, h.2.trans (k.mono h.2.size)⟩
  have s0 : S wA := by
    rw [hS0]
    refine ⟨fun x hx => SA.out.rs x ?_, hx.out.1.trans (SA.out.of.below hx.out.1.size hx.out.2.1 hx.out.2.2)⟩
    simp only [List.mem_cons, List.not_mem_nil, or_false] at hx ⊢
    rcases hx with rfl | rfl <;> simp
  clear hS0
  have cN := Lib.hid (cls_call (S := S) fun w hw => (hN2.out w).mono fun e w' k => (⟨k.1, hSb _ _ hw k.2⟩ : _ ∧ S w'))
  have hE1 : ∀ w, (Op.equalIn 10000 25 (.agg #[.int .u32 vn, .int .u8 0, .int .u16 0, .int .u16 0, .int .u16 0, .int .u16 0, .int .u32 0, .bool false]) (.agg #[.int .u32 vn, .int .u8 0, .int .u16 0, .int .u16 0, .int .u16 0, .int .u16 0, .int .u32 0, .bool false])).run Tryz.prog w = .ok true w := fun w => (cap_eq vn 0 0 0 0 0 0 false vn 0 0 0 0 0 0 false w).trans (by simp)
  have hE3 : ∀ w, (Op.equalIn 10000 25 (.agg #[.int .u32 v, .int .u8 0, .int .u16 0, .int .u16 0, .int .u16 0, .int .u16 0, .int .u32 0, .bool false]) (.agg #[.int .u32 v, .int .u8 0, .int .u16 0, .int .u16 0, .int .u16 0, .int .u16 0, .int .u32 0, .bool false])).run Tryz.prog w = .ok true w := fun w => (cap_eq v 0 0 0 0 0 0 false v 0 0 0 0 0 0 false w).trans (by simp)
  have hE2 : ∀ w, (Op.equalIn 10000 25 (.agg #[.int .u32 256, .int .u8 0, .int .u16 256, .int .u16 320, .int .u16 27, .int .u16 0, .int .u32 0, .bool true]) (.agg #[.int .u32 256, .int .u8 0, .int .u16 256, .int .u16 320, .int .u16 27, .int .u16 0, .int .u32 0, .bool true])).run Tryz.prog w = .ok true w := fun w => (cap_eq 256 0 256 320 27 0 0 true 256 0 256 320 27 0 0 true w).trans (by simp)
  have a0 : ∀ y : Wd S, y.w.cell? ⟨qh, 48, none⟩ = some (.int .u32 vn) := fun y => (at_reg ((hK _ y.h).1 ⟨qh, fC RH⟩ (by simp)) eH6.out).1
  have a1 : ∀ y : Wd S, y.w.cell? ⟨qh, 49, none⟩ = some (.int .u8 0) := fun y => (at_reg ((hK _ y.h).1 ⟨qh, fC RH⟩ (by simp)) eH6.out).2.1
  have a2 : ∀ y : Wd S, y.w.cell? ⟨qh, 50, none⟩ = some (.int .u16 0) := fun y => (at_reg ((hK _ y.h).1 ⟨qh, fC RH⟩ (by simp)) eH6.out).2.2.1
  have a3 : ∀ y : Wd S, y.w.cell? ⟨qh, 51, none⟩ = some (.int .u16 0) := fun y => (at_reg ((hK _ y.h).1 ⟨qh, fC RH⟩ (by simp)) eH6.out).2.2.2.1
  have a4 : ∀ y : Wd S, y.w.cell? ⟨qh, 52, none⟩ = some (.int .u16 0) := fun y => (at_reg ((hK _ y.h).1 ⟨qh, fC RH⟩ (by simp)) eH6.out).2.2.2.2.1
  have a5 : ∀ y : Wd S, y.w.cell? ⟨qh, 53, none⟩ = some (.int .u16 0) := fun y => (at_reg ((hK _ y.h).1 ⟨qh, fC RH⟩ (by simp)) eH6.out).2.2.2.2.2.1
  have a6 : ∀ y : Wd S, y.w.cell? ⟨qh, 54, none⟩ = some (.int .u32 0) := fun y => (at_reg ((hK _ y.h).1 ⟨qh, fC RH⟩ (by simp)) eH6.out).2.2.2.2.2.2.1
  have a7 : ∀ y : Wd S, y.w.cell? ⟨qh, 55, none⟩ = some (.bool false) := fun y => (at_reg ((hK _ y.h).1 ⟨qh, fC RH⟩ (by simp)) eH6.out).2.2.2.2.2.2.2
  have b0 : ∀ y : Wd S, y.w.cell? ⟨qh, 40, none⟩ = some (.int .u32 v) := fun y => (at_reg ((hK _ y.h).1 ⟨qh, fC RH⟩ (by simp)) eH5.out).1
  have b1 : ∀ y : Wd S, y.w.cell? ⟨qh, 41, none⟩ = some (.int .u8 0) := fun y => (at_reg ((hK _ y.h).1 ⟨qh, fC RH⟩ (by simp)) eH5.out).2.1
  have b2 : ∀ y : Wd S, y.w.cell? ⟨qh, 42, none⟩ = some (.int .u16 0) := fun y => (at_reg ((hK _ y.h).1 ⟨qh, fC RH⟩ (by simp)) eH5.out).2.2.1
  have b3 : ∀ y : Wd S, y.w.cell? ⟨qh, 43, none⟩ = some (.int .u16 0) := fun y => (at_reg ((hK _ y.h).1 ⟨qh, fC RH⟩ (by simp)) eH5.out).2.2.2.1
  have b4 : ∀ y : Wd S, y.w.cell? ⟨qh, 44, none⟩ = some (.int .u16 0) := fun y => (at_reg ((hK _ y.h).1 ⟨qh, fC RH⟩ (by simp)) eH5.out).2.2.2.2.1
  have b5 : ∀ y : Wd S, y.w.cell? ⟨qh, 45, none⟩ = some (.int .u16 0) := fun y => (at_reg ((hK _ y.h).1 ⟨qh, fC RH⟩ (by simp)) eH5.out).2.2.2.2.2.1
  have b6 : ∀ y : Wd S, y.w.cell? ⟨qh, 46, none⟩ = some (.int .u32 0) := fun y => (at_reg ((hK _ y.h).1 ⟨qh, fC RH⟩ (by simp)) eH5.out).2.2.2.2.2.2.1
  have b7 : ∀ y : Wd S, y.w.cell? ⟨qh, 47, none⟩ = some (.bool false) := fun y => (at_reg ((hK _ y.h).1 ⟨qh, fC RH⟩ (by simp)) eH5.out).2.2.2.2.2.2.2
  have d0 : ∀ y : Wd S, y.w.cell? ⟨q, 40, none⟩ = some (.int .u32 v) := fun y => (at_reg ((hK _ y.h).1 ⟨q, fC R5⟩ (by simp)) eF5.out).1
  have d1 : ∀ y : Wd S, y.w.cell? ⟨q, 41, none⟩ = some (.int .u8 0) := fun y => (at_reg ((hK _ y.h).1 ⟨q, fC R5⟩ (by simp)) eF5.out).2.1
  have d2 : ∀ y : Wd S, y.w.cell? ⟨q, 42, none⟩ = some (.int .u16 0) := fun y => (at_reg ((hK _ y.h).1 ⟨q, fC R5⟩ (by simp)) eF5.out).2.2.1
  have d3 : ∀ y : Wd S, y.w.cell? ⟨q, 43, none⟩ = some (.int .u16 0) := fun y => (at_reg ((hK _ y.h).1 ⟨q, fC R5⟩ (by simp)) eF5.out).2.2.2.1
  have d4 : ∀ y : Wd S, y.w.cell? ⟨q, 44, none⟩ = some (.int .u16 0) := fun y => (at_reg ((hK _ y.h).1 ⟨q, fC R5⟩ (by simp)) eF5.out).2.2.2.2.1
  have d5 : ∀ y : Wd S, y.w.cell? ⟨q, 45, none⟩ = some (.int .u16 0) := fun y => (at_reg ((hK _ y.h).1 ⟨q, fC R5⟩ (by simp)) eF5.out).2.2.2.2.2.1
  have d6 : ∀ y : Wd S, y.w.cell? ⟨q, 46, none⟩ = some (.int .u32 0) := fun y => (at_reg ((hK _ y.h).1 ⟨q, fC R5⟩ (by simp)) eF5.out).2.2.2.2.2.2.1
  have d7 : ∀ y : Wd S, y.w.cell? ⟨q, 47, none⟩ = some (.bool false) := fun y => (at_reg ((hK _ y.h).1 ⟨q, fC R5⟩ (by simp)) eF5.out).2.2.2.2.2.2.2
  have f0 : ∀ y : Wd S, y.w.cell? ⟨qh, 8, none⟩ = some (.int .u32 256) := fun y => (at_reg ((hK _ y.h).1 ⟨qh, fC RH⟩ (by simp)) eH1.out).1
  have f1 : ∀ y : Wd S, y.w.cell? ⟨qh, 9, none⟩ = some (.int .u8 0) := fun y => (at_reg ((hK _ y.h).1 ⟨qh, fC RH⟩ (by simp)) eH1.out).2.1
  have f2 : ∀ y : Wd S, y.w.cell? ⟨qh, 10, none⟩ = some (.int .u16 256) := fun y => (at_reg ((hK _ y.h).1 ⟨qh, fC RH⟩ (by simp)) eH1.out).2.2.1
  have f3 : ∀ y : Wd S, y.w.cell? ⟨qh, 11, none⟩ = some (.int .u16 320) := fun y => (at_reg ((hK _ y.h).1 ⟨qh, fC RH⟩ (by simp)) eH1.out).2.2.2.1
  have f4 : ∀ y : Wd S, y.w.cell? ⟨qh, 12, none⟩ = some (.int .u16 27) := fun y => (at_reg ((hK _ y.h).1 ⟨qh, fC RH⟩ (by simp)) eH1.out).2.2.2.2.1
  have f5 : ∀ y : Wd S, y.w.cell? ⟨qh, 13, none⟩ = some (.int .u16 0) := fun y => (at_reg ((hK _ y.h).1 ⟨qh, fC RH⟩ (by simp)) eH1.out).2.2.2.2.2.1
  have f6 : ∀ y : Wd S, y.w.cell? ⟨qh, 14, none⟩ = some (.int .u32 0) := fun y => (at_reg ((hK _ y.h).1 ⟨qh, fC RH⟩ (by simp)) eH1.out).2.2.2.2.2.2.1
  have f7 : ∀ y : Wd S, y.w.cell? ⟨qh, 15, none⟩ = some (.bool true) := fun y => (at_reg ((hK _ y.h).1 ⟨qh, fC RH⟩ (by simp)) eH1.out).2.2.2.2.2.2.2
  have g0 : ∀ y : Wd S, y.w.cell? ⟨q, 8, none⟩ = some (.int .u32 256) := fun y => (at_reg ((hK _ y.h).1 ⟨q, fC R5⟩ (by simp)) eF1.out).1
  have g1 : ∀ y : Wd S, y.w.cell? ⟨q, 9, none⟩ = some (.int .u8 0) := fun y => (at_reg ((hK _ y.h).1 ⟨q, fC R5⟩ (by simp)) eF1.out).2.1
  have g2 : ∀ y : Wd S, y.w.cell? ⟨q, 10, none⟩ = some (.int .u16 256) := fun y => (at_reg ((hK _ y.h).1 ⟨q, fC R5⟩ (by simp)) eF1.out).2.2.1
  have g3 : ∀ y : Wd S, y.w.cell? ⟨q, 11, none⟩ = some (.int .u16 320) := fun y => (at_reg ((hK _ y.h).1 ⟨q, fC R5⟩ (by simp)) eF1.out).2.2.2.1
  have g4 : ∀ y : Wd S, y.w.cell? ⟨q, 12, none⟩ = some (.int .u16 27) := fun y => (at_reg ((hK _ y.h).1 ⟨q, fC R5⟩ (by simp)) eF1.out).2.2.2.2.1
  have g5 : ∀ y : Wd S, y.w.cell? ⟨q, 13, none⟩ = some (.int .u16 0) := fun y => (at_reg ((hK _ y.h).1 ⟨q, fC R5⟩ (by simp)) eF1.out).2.2.2.2.2.1
  have g6 : ∀ y : Wd S, y.w.cell? ⟨q, 14, none⟩ = some (.int .u32 0) := fun y => (at_reg ((hK _ y.h).1 ⟨q, fC R5⟩ (by simp)) eF1.out).2.2.2.2.2.2.1
  have g7 : ∀ y : Wd S, y.w.cell? ⟨q, 15, none⟩ = some (.bool true) := fun y => (at_reg ((hK _ y.h).1 ⟨q, fC R5⟩ (by simp)) eF1.out).2.2.2.2.2.2.2
  have pB : ∀ y : Wd S, y.w.cell? ⟨qh, 128, none⟩ = some (.int .u32 8) := fun y => (at_reg ((hK _ y.h).1 ⟨qh, fC RH⟩ (by simp)) eHp.out).1
  have HS := Lib.hid hSb
  have HK := Lib.hid hK
  clear hK hSb SA TB
  go_wp2_with fail
  refine region_cls S (by kernel_rfl) (by kernel_rfl) (HS.out _ _ s0 (Below.refl _ _).drew) ?_
  repeat (first
    | go_big_quiet_skip
    | (go_big_quiet_want
       go_big_quiet_op
       first
       | go_big_quiet_on
       | (apply Exists.intro
          refine ⟨fun y => ?_, ?_⟩
          · first | exact rfl | with_reducible exact cN.out y | exact cN.out y
          go_big_quiet_on)))
  refine wpQuiet_nil ?_
  intro y
  have hB := Lib.hid (HK.out _ y.h).2
  generalize y.w = wG at hB ⊢
  go_wp2_with fail
  go_ret
  exact ⟨rfl, hB.out⟩
set_option maxHeartbeats 16000000 in
theorem walk_2 (v at_ kind : Nat) (lv : v < 4294967296) (la : at_ < 256) (ek : (kind : Int) % 3 = 2) (W : World) (hT : Tabs W) : Calls Tryz.prog 7 #[.int .u32 v, .int .u8 at_, .int .u8 kind] W fun e w' => e = .returned (.bool true) ∧ Below W.heap.size W w' := by
  have hA := Lib.hid (anew_yes 16 W (by decide) (by decide))
  have hFr := Lib.hid frame_any
  have hWk := Lib.hid works10_any
  have hNm := Lib.hid (fun w => pNumber_cp v lv w)
  obtain ⟨z, hz⟩ : ∃ z, z = at_ % 64 / 4 := ⟨_, rfl⟩
  have ez : ((at_ : Int) % 64).tdiv 4 = (z : Int) := by rw [Int.tdiv_eq_ediv_of_nonneg (by omega)]; omega
  have ez2 : (at_ : Int) % 64 / 4 = (z : Int) := by omega
  have lz : z < 16 := by omega
  clear hz la
  obtain ⟨m1, t1, m2, t2⟩ := mvc2 z lz
  obtain ⟨⟨a1, a2, a3, a4⟩, b1, b2, b3, b4⟩ := mv_any (o1 := 22) (o2 := 19) (n := 4) (v := v) (.inr (.inr rfl)) (.inr (.inr rfl)) (.inr (.inr rfl)) rfl rfl (by omega) m1 t1 m2 t2
  have D1 := Lib.hid (fun (w : World) (a mb wb bb c : Nat) (H : ArAt w a mb wb bb c 4096 256 F0 L0) (h : Tabs w) => (show Calls Tryz.prog 12 #[fV (F5 v), iv ⟨22, 5, 1, 0, (z : Int) * 4⟩, .pointer (some ⟨a, 0, none⟩)] w (Nxt a mb wb bb c 4096 256 F0 (ovr L0 (256 + z * 4) (leB 4 v)) w (.tuple #[fV (nxt (F5 v)), .int .i64 0])) from by
    have k := pDo_any H h (F5 v) (F5_fit lv) ⟨22, 5, 1, 0, (z * 4 : Nat)⟩
    rw [a1, a2, a3, a4] at k
    rw [show (((z * 4 : Nat) : Int)) = (z : Int) * 4 from by omega] at k
    exact k))
  have D2 := Lib.hid (fun (w : World) (a mb wb bb c : Nat) (H : ArAt w a mb wb bb c 4096 256 F0 (ovr L0 (256 + z * 4) (leB 4 v))) (h : Tabs w) => (show Calls Tryz.prog 12 #[fV (nxt (F5 v)), iv ⟨19, 6, 1, 0, (z : Int) * 4⟩, .pointer (some ⟨a, 0, none⟩)] w (Nxt a mb wb bb c 4096 256 F0 (ovr L0 (256 + z * 4) (leB 4 v)) w (.tuple #[fV ((nxt (nxt (F5 v))).set 6 (numC (v % 256 ^ 4))), .int .i64 0])) from by
    have k := pDo_any H h (nxt (F5 v)) (nxt_fit (F5_fit lv)) ⟨19, 6, 1, 0, (z * 4 : Nat)⟩
    rw [b1, b2, b3, b4] at k
    rw [show (((z * 4 : Nat) : Int)) = (z : Int) * 4 from by omega] at k
    exact k))
  clear m1 t1 m2 t2 a1 a2 a3 a4 b1 b2 b3 b4
  obtain ⟨vn, hvn⟩ : ∃ vn, vn = v % 256 ^ 4 := ⟨_, rfl⟩
  have lvn : vn < 4294967296 := by rw [hvn]; exact Nat.lt_of_le_of_lt (Nat.mod_le _ _) lv
  obtain ⟨RH, hRH⟩ : ∃ R, R = (nxt (nxt (F5 v))).set 6 (numC vn) := ⟨_, rfl⟩
  rw [← hvn, ← hRH] at D2
  have hN2 := Lib.hid (fun w => pNumber_any vn lvn w)
  have lRH : RH.length = 17 := by rw [hRH, List.length_set]; exact (nxt_fit (nxt_fit (F5_fit lv))).len
  have eH6 := Lib.hid (show RH[6]? = some (numC vn) from by rw [hRH]; exact List.getElem?_set_self (by rw [(nxt_fit (nxt_fit (F5_fit lv))).len]; decide))
  have eH5 := Lib.hid (show RH[5]? = some (numC v) from by rw [hRH]; rfl)
  have eH1 := Lib.hid (show RH[1]? = some c1C from by rw [hRH]; rfl)
  have eHp := Lib.hid (show RH[16]? = some ⟨8, 0, 0, 64, 5, 0, 0, true⟩ from by rw [hRH]; kernel_rfl)
  have eF5 := Lib.hid (show (F5 v)[5]? = some (numC v) from rfl)
  have eF1 := Lib.hid (show (F5 v)[1]? = some c1C from rfl)
  have lG : (nxt (F5 v)).length = 17 := (nxt_fit (F5_fit lv)).len
  generalize nxt (F5 v) = RG at *
  obtain ⟨R5, hR5⟩ : ∃ R, R = F5 v := ⟨_, rfl⟩
  have l5 : R5.length = 17 := by rw [hR5]; exact (F5_fit lv).len
  rw [← hR5] at D1 eF5 eF1
  obtain ⟨R0, hR0⟩ : ∃ R, R = frL := ⟨_, rfl⟩
  have l0 : R0.length = 17 := by rw [hR0]; rfl
  have h5 := Lib.hid (show R5 = R0.set 5 (numC v) from by rw [hR5, hR0]; rfl)
  rw [← hR0] at hFr
  clear hR0 hR5 hRH
  obtain rfl : v = vn := by rw [hvn]; exact (Nat.mod_eq_of_lt (by simpa using lv)).symm
  clear hvn
  go_enter Tryz.func7, Tryz.ntmps7
  go_wp2_with fail
  refine hA.out.mono ?_
  rintro e w1 ⟨a, rfl, mb, wb, bb, c, ha, hb1, x1, x2, x3, x4⟩
  have S1 := Lib.hid (St.first (show ArAt w1 a mb wb bb c 4096 256 F0 L0 from ha))
  have hlt := Lib.hid (show a < w1.heap.size ∧ mb < w1.heap.size ∧ wb < w1.heap.size ∧ bb < w1.heap.size from ⟨ha.la, ha.m.lb, ha.m.lw, ha.lb⟩)
  have T1 := Lib.hid (hT.below hb1)
  have hx := Lib.hid (And.intro hb1 (And.intro x3 x4))
  have TB := Lib.hid (fun (L : List Rw) (f : Nat → Bool) (l : List UInt8) (w : World) (S : St w1 a mb wb bb c 4096 256 f l L w) => hT.below (hx.out.1.trans (S.of.below hx.out.1.size hx.out.2.1 hx.out.2.2)))
  clear hA hb1 x1 x2 x3 x4 ha
  go_wp2_with fail
  refine (hWk.out _ T1.out).mono ?_
  rintro e w2 ⟨rfl, g⟩
  have S2 := Lib.hid (S1.out.below g)
  clear g S1 T1 hWk
  go_wp2_with fail
  refine (hFr.out _).mono ?_
  rintro e w3 ⟨rfl, g⟩
  have S3 := Lib.hid (S2.out.below g)
  clear g S2 hFr
  have sz_ := S3.out.of.size
  have ne_ := Lib.hid (fun (x : Rw) (hx : x ∈ []) => (S3.out.rs x hx).1)
  have P4 := S3.out.push (fC zF) 28
  have th : (w3.alloc (.cells Tryz.zeroCells28 28)).there w3.heap.size 0 (fC R0).toArray.size := by
    rw [show (fC R0).toArray.size = 136 from by rw [List.size_toArray, fC_len, l0], zero_fr]
    exact at_there (P4.rs _ (List.mem_cons_self ..)) 136 (by rw [fC_len]; decide)
  have S4 := Lib.hid (P4.putA (fC R0) sz_ (fun x hx => Nat.ne_of_lt (ne_.out x hx)) (by rw [fC_len, fC_len, l0]; rfl) (by have := hlt.out; omega))
  rw [← zero_fr] at S4
  have sa := size_fa l0
  have oa := one_fr R0
  clear P4 ne_ S3
  go_wp2_with ((with_reducible show wpList _ _ _ _ _ _); refine wpList_store_mid rfl 28 _ _ rfl w3.heap.size 0 (fC R0).toArray rfl rfl th sa oa ?_; clear th sa oa; change wpList _ _ _ _ _ ((w3.alloc (.cells Tryz.zeroCells28 28)).setCells w3.heap.size 0 (fC R0)); generalize (w3.alloc (.cells Tryz.zeroCells28 28)).setCells w3.heap.size 0 (fC R0) = w4 at S4 ⊢; generalize w3.heap.size = q at S4 sz_ ⊢)
  refine (hNm.out _).mono ?_
  rintro e w5 ⟨rfl, g⟩
  have S5 := Lib.hid (S4.out.below g)
  have lq := Lib.hid (show q ≠ a ∧ q ≠ mb ∧ q ≠ wb ∧ q ≠ bb from by have := hlt.out; omega)
  clear g S4
  have th := S5.out.there (g := q) (vs := fC R0) (by simp) 40 8 (by rw [fC_len, l0]; decide)
  have S6 := Lib.hid (S5.out.putF 5 (numC v) (by rw [l0]; decide) sz_ (fun x hx => by cases hx) lq.out)
  rw [← h5.out] at S6
  have s1 := size_ca (numC v)
  have o1 := one_cp (numC v)
  clear S5
  go_wp2_with ((with_reducible show wpList _ _ _ _ _ _); first | (refine wpList_store_mid rfl 25 _ _ rfl q 40 (numC v).C.toArray rfl rfl th s1 o1 ?_; clear th s1 o1; change wpList _ _ _ _ _ (w5.setCells q (5 * 8) (numC v).C); generalize w5.setCells q (5 * 8) (numC v).C = w6 at S6 ⊢; have rq := rs_range (S6.out.rs ⟨q, fC R5⟩ (by simp))) | (refine wpList_load_mid rfl 28 _ rfl q 0 rfl (fC R5) _ rq Tryz.underlying28 rfl (size_fr l5) ?_))
  refine (D1.out _ _ _ _ _ _ S6.out.ar (TB.out _ _ _ _ S6.out)).mono ?_
  rintro ee w7 ⟨rfl, n1⟩
  have S7 := Lib.hid (S6.out.nxt n1)
  clear n1 rq S6 D1 sz_
  have sz_ := S7.out.of.size
  have ne_ := Lib.hid (fun (x : Rw) (hx : x ∈ [⟨q, fC R5⟩]) => (S7.out.rs x hx).1)
  have P4 := S7.out.push (fC zF) 28
  have th : (w7.alloc (.cells Tryz.zeroCells28 28)).there w7.heap.size 0 (fC RG).toArray.size := by
    rw [show (fC RG).toArray.size = 136 from by rw [List.size_toArray, fC_len, lG], zero_fr]
    exact at_there (P4.rs _ (List.mem_cons_self ..)) 136 (by rw [fC_len]; decide)
  have S8 := Lib.hid (P4.putA (fC RG) sz_ (fun x hx => Nat.ne_of_lt (ne_.out x hx)) (by rw [fC_len, fC_len, lG]; rfl) (by have := hlt.out; omega))
  rw [← zero_fr] at S8
  have sa := size_fa lG
  have oa := one_fr RG
  clear P4 ne_ S7
  go_wp2_with ((with_reducible show wpList _ _ _ _ _ _); first | (refine wpList_store_mid rfl 28 _ _ rfl w7.heap.size 0 (fC RG).toArray rfl rfl th sa oa ?_; clear th sa oa; change wpList _ _ _ _ _ ((w7.alloc (.cells Tryz.zeroCells28 28)).setCells w7.heap.size 0 (fC RG)); generalize (w7.alloc (.cells Tryz.zeroCells28 28)).setCells w7.heap.size 0 (fC RG) = w8 at S8 ⊢; generalize w7.heap.size = qg at S8 sz_ ⊢; have rg := rs_range (S8.out.rs ⟨qg, fC RG⟩ (by simp))) | (refine wpList_load_mid rfl 28 _ rfl qg 0 rfl (fC RG) _ rg Tryz.underlying28 rfl (size_fr lG) ?_))
  refine (D2.out _ _ _ _ _ _ S8.out.ar (TB.out _ _ _ _ S8.out)).mono ?_
  rintro ee w9 ⟨rfl, n1⟩
  have S9 := Lib.hid (S8.out.nxt n1)
  clear n1 rg S8 D2 sz_
  have sz_ := S9.out.of.size
  have ne_ := Lib.hid (fun (x : Rw) (hx : x ∈ [⟨qg, fC RG⟩, ⟨q, fC R5⟩]) => (S9.out.rs x hx).1)
  have P4 := S9.out.push (fC zF) 28
  have th : (w9.alloc (.cells Tryz.zeroCells28 28)).there w9.heap.size 0 (fC RH).toArray.size := by
    rw [show (fC RH).toArray.size = 136 from by rw [List.size_toArray, fC_len, lRH], zero_fr]
    exact at_there (P4.rs _ (List.mem_cons_self ..)) 136 (by rw [fC_len]; decide)
  have SA := Lib.hid (P4.putA (fC RH) sz_ (fun x hx => Nat.ne_of_lt (ne_.out x hx)) (by rw [fC_len, fC_len, lRH]; rfl) (by have := hlt.out; omega))
  rw [← zero_fr] at SA
  have sa := size_fa lRH
  have oa := one_fr RH
  clear P4 ne_ S9
  go_wp2_with ((with_reducible show wpList _ _ _ _ _ _); (refine wpList_store_mid rfl 28 _ _ rfl w9.heap.size 0 (fC RH).toArray rfl rfl th sa oa ?_; clear th sa oa; change wpList _ _ _ _ _ ((w9.alloc (.cells Tryz.zeroCells28 28)).setCells w9.heap.size 0 (fC RH)); generalize (w9.alloc (.cells Tryz.zeroCells28 28)).setCells w9.heap.size 0 (fC RH) = wA at SA ⊢; generalize w9.heap.size = qh at SA sz_ ⊢))
  clear sz_
  obtain ⟨S, hS0⟩ : ∃ S : World → Prop, S = fun w => RS [⟨qh, fC RH⟩, ⟨q, fC R5⟩] w ∧ Below W.heap.size W w := ⟨_, rfl⟩
  have hK : ∀ w, S w → RS [⟨qh, fC RH⟩, ⟨q, fC R5⟩] w ∧ Below W.heap.size W w := fun w h => by rw [hS0] at h; exact h
  have hSb : ∀ u v, S u → Below u.heap.size u v → S v := fun u v h k => by rw [hS0] at h ⊢; exact ⟨h.1.below k, h.2.trans (k.mono h.2.size)⟩
  have s0 : S wA := by
    rw [hS0]
    refine ⟨fun x hx => SA.out.rs x ?_, hx.out.1.trans (SA.out.of.below hx.out.1.size hx.out.2.1 hx.out.2.2)⟩
    simp only [List.mem_cons, List.not_mem_nil, or_false] at hx ⊢
    rcases hx with rfl | rfl <;> simp
  clear hS0
  have cN := Lib.hid (cls_call (S := S) fun w hw => (hN2.out w).mono fun e w' k => (⟨k.1, hSb _ _ hw k.2⟩ : _ ∧ S w'))
  have hE1 : ∀ w, (Op.equalIn 10000 25 (.agg #[.int .u32 v, .int .u8 0, .int .u16 0, .int .u16 0, .int .u16 0, .int .u16 0, .int .u32 0, .bool false]) (.agg #[.int .u32 v, .int .u8 0, .int .u16 0, .int .u16 0, .int .u16 0, .int .u16 0, .int .u32 0, .bool false])).run Tryz.prog w = .ok true w := fun w => (cap_eq v 0 0 0 0 0 0 false v 0 0 0 0 0 0 false w).trans (by simp)
  have hE2 : ∀ w, (Op.equalIn 10000 25 (.agg #[.int .u32 256, .int .u8 0, .int .u16 256, .int .u16 320, .int .u16 27, .int .u16 0, .int .u32 0, .bool true]) (.agg #[.int .u32 256, .int .u8 0, .int .u16 256, .int .u16 320, .int .u16 27, .int .u16 0, .int .u32 0, .bool true])).run Tryz.prog w = .ok true w := fun w => (cap_eq 256 0 256 320 27 0 0 true 256 0 256 320 27 0 0 true w).trans (by simp)
  have a0 : ∀ y : Wd S, y.w.cell? ⟨qh, 48, none⟩ = some (.int .u32 v) := fun y => (at_reg ((hK _ y.h).1 ⟨qh, fC RH⟩ (by simp)) eH6.out).1
  have a1 : ∀ y : Wd S, y.w.cell? ⟨qh, 49, none⟩ = some (.int .u8 0) := fun y => (at_reg ((hK _ y.h).1 ⟨qh, fC RH⟩ (by simp)) eH6.out).2.1
  have a2 : ∀ y : Wd S, y.w.cell? ⟨qh, 50, none⟩ = some (.int .u16 0) := fun y => (at_reg ((hK _ y.h).1 ⟨qh, fC RH⟩ (by simp)) eH6.out).2.2.1
  have a3 : ∀ y : Wd S, y.w.cell? ⟨qh, 51, none⟩ = some (.int .u16 0) := fun y => (at_reg ((hK _ y.h).1 ⟨qh, fC RH⟩ (by simp)) eH6.out).2.2.2.1
  have a4 : ∀ y : Wd S, y.w.cell? ⟨qh, 52, none⟩ = some (.int .u16 0) := fun y => (at_reg ((hK _ y.h).1 ⟨qh, fC RH⟩ (by simp)) eH6.out).2.2.2.2.1
  have a5 : ∀ y : Wd S, y.w.cell? ⟨qh, 53, none⟩ = some (.int .u16 0) := fun y => (at_reg ((hK _ y.h).1 ⟨qh, fC RH⟩ (by simp)) eH6.out).2.2.2.2.2.1
  have a6 : ∀ y : Wd S, y.w.cell? ⟨qh, 54, none⟩ = some (.int .u32 0) := fun y => (at_reg ((hK _ y.h).1 ⟨qh, fC RH⟩ (by simp)) eH6.out).2.2.2.2.2.2.1
  have a7 : ∀ y : Wd S, y.w.cell? ⟨qh, 55, none⟩ = some (.bool false) := fun y => (at_reg ((hK _ y.h).1 ⟨qh, fC RH⟩ (by simp)) eH6.out).2.2.2.2.2.2.2
  have b0 : ∀ y : Wd S, y.w.cell? ⟨qh, 40, none⟩ = some (.int .u32 v) := fun y => (at_reg ((hK _ y.h).1 ⟨qh, fC RH⟩ (by simp)) eH5.out).1
  have b1 : ∀ y : Wd S, y.w.cell? ⟨qh, 41, none⟩ = some (.int .u8 0) := fun y => (at_reg ((hK _ y.h).1 ⟨qh, fC RH⟩ (by simp)) eH5.out).2.1
  have b2 : ∀ y : Wd S, y.w.cell? ⟨qh, 42, none⟩ = some (.int .u16 0) := fun y => (at_reg ((hK _ y.h).1 ⟨qh, fC RH⟩ (by simp)) eH5.out).2.2.1
  have b3 : ∀ y : Wd S, y.w.cell? ⟨qh, 43, none⟩ = some (.int .u16 0) := fun y => (at_reg ((hK _ y.h).1 ⟨qh, fC RH⟩ (by simp)) eH5.out).2.2.2.1
  have b4 : ∀ y : Wd S, y.w.cell? ⟨qh, 44, none⟩ = some (.int .u16 0) := fun y => (at_reg ((hK _ y.h).1 ⟨qh, fC RH⟩ (by simp)) eH5.out).2.2.2.2.1
  have b5 : ∀ y : Wd S, y.w.cell? ⟨qh, 45, none⟩ = some (.int .u16 0) := fun y => (at_reg ((hK _ y.h).1 ⟨qh, fC RH⟩ (by simp)) eH5.out).2.2.2.2.2.1
  have b6 : ∀ y : Wd S, y.w.cell? ⟨qh, 46, none⟩ = some (.int .u32 0) := fun y => (at_reg ((hK _ y.h).1 ⟨qh, fC RH⟩ (by simp)) eH5.out).2.2.2.2.2.2.1
  have b7 : ∀ y : Wd S, y.w.cell? ⟨qh, 47, none⟩ = some (.bool false) := fun y => (at_reg ((hK _ y.h).1 ⟨qh, fC RH⟩ (by simp)) eH5.out).2.2.2.2.2.2.2
  have d0 : ∀ y : Wd S, y.w.cell? ⟨q, 40, none⟩ = some (.int .u32 v) := fun y => (at_reg ((hK _ y.h).1 ⟨q, fC R5⟩ (by simp)) eF5.out).1
  have d1 : ∀ y : Wd S, y.w.cell? ⟨q, 41, none⟩ = some (.int .u8 0) := fun y => (at_reg ((hK _ y.h).1 ⟨q, fC R5⟩ (by simp)) eF5.out).2.1
  have d2 : ∀ y : Wd S, y.w.cell? ⟨q, 42, none⟩ = some (.int .u16 0) := fun y => (at_reg ((hK _ y.h).1 ⟨q, fC R5⟩ (by simp)) eF5.out).2.2.1
  have d3 : ∀ y : Wd S, y.w.cell? ⟨q, 43, none⟩ = some (.int .u16 0) := fun y => (at_reg ((hK _ y.h).1 ⟨q, fC R5⟩ (by simp)) eF5.out).2.2.2.1
  have d4 : ∀ y : Wd S, y.w.cell? ⟨q, 44, none⟩ = some (.int .u16 0) := fun y => (at_reg ((hK _ y.h).1 ⟨q, fC R5⟩ (by simp)) eF5.out).2.2.2.2.1
  have d5 : ∀ y : Wd S, y.w.cell? ⟨q, 45, none⟩ = some (.int .u16 0) := fun y => (at_reg ((hK _ y.h).1 ⟨q, fC R5⟩ (by simp)) eF5.out).2.2.2.2.2.1
  have d6 : ∀ y : Wd S, y.w.cell? ⟨q, 46, none⟩ = some (.int .u32 0) := fun y => (at_reg ((hK _ y.h).1 ⟨q, fC R5⟩ (by simp)) eF5.out).2.2.2.2.2.2.1
  have d7 : ∀ y : Wd S, y.w.cell? ⟨q, 47, none⟩ = some (.bool false) := fun y => (at_reg ((hK _ y.h).1 ⟨q, fC R5⟩ (by simp)) eF5.out).2.2.2.2.2.2.2
  have f0 : ∀ y : Wd S, y.w.cell? ⟨qh, 8, none⟩ = some (.int .u32 256) := fun y => (at_reg ((hK _ y.h).1 ⟨qh, fC RH⟩ (by simp)) eH1.out).1
  have f1 : ∀ y : Wd S, y.w.cell? ⟨qh, 9, none⟩ = some (.int .u8 0) := fun y => (at_reg ((hK _ y.h).1 ⟨qh, fC RH⟩ (by simp)) eH1.out).2.1
  have f2 : ∀ y : Wd S, y.w.cell? ⟨qh, 10, none⟩ = some (.int .u16 256) := fun y => (at_reg ((hK _ y.h).1 ⟨qh, fC RH⟩ (by simp)) eH1.out).2.2.1
  have f3 : ∀ y : Wd S, y.w.cell? ⟨qh, 11, none⟩ = some (.int .u16 320) := fun y => (at_reg ((hK _ y.h).1 ⟨qh, fC RH⟩ (by simp)) eH1.out).2.2.2.1
  have f4 : ∀ y : Wd S, y.w.cell? ⟨qh, 12, none⟩ = some (.int .u16 27) := fun y => (at_reg ((hK _ y.h).1 ⟨qh, fC RH⟩ (by simp)) eH1.out).2.2.2.2.1
  have f5 : ∀ y : Wd S, y.w.cell? ⟨qh, 13, none⟩ = some (.int .u16 0) := fun y => (at_reg ((hK _ y.h).1 ⟨qh, fC RH⟩ (by simp)) eH1.out).2.2.2.2.2.1
  have f6 : ∀ y : Wd S, y.w.cell? ⟨qh, 14, none⟩ = some (.int .u32 0) := fun y => (at_reg ((hK _ y.h).1 ⟨qh, fC RH⟩ (by simp)) eH1.out).2.2.2.2.2.2.1
  have f7 : ∀ y : Wd S, y.w.cell? ⟨qh, 15, none⟩ = some (.bool true) := fun y => (at_reg ((hK _ y.h).1 ⟨qh, fC RH⟩ (by simp)) eH1.out).2.2.2.2.2.2.2
  have g0 : ∀ y : Wd S, y.w.cell? ⟨q, 8, none⟩ = some (.int .u32 256) := fun y => (at_reg ((hK _ y.h).1 ⟨q, fC R5⟩ (by simp)) eF1.out).1
  have g1 : ∀ y : Wd S, y.w.cell? ⟨q, 9, none⟩ = some (.int .u8 0) := fun y => (at_reg ((hK _ y.h).1 ⟨q, fC R5⟩ (by simp)) eF1.out).2.1
  have g2 : ∀ y : Wd S, y.w.cell? ⟨q, 10, none⟩ = some (.int .u16 256) := fun y => (at_reg ((hK _ y.h).1 ⟨q, fC R5⟩ (by simp)) eF1.out).2.2.1
  have g3 : ∀ y : Wd S, y.w.cell? ⟨q, 11, none⟩ = some (.int .u16 320) := fun y => (at_reg ((hK _ y.h).1 ⟨q, fC R5⟩ (by simp)) eF1.out).2.2.2.1
  have g4 : ∀ y : Wd S, y.w.cell? ⟨q, 12, none⟩ = some (.int .u16 27) := fun y => (at_reg ((hK _ y.h).1 ⟨q, fC R5⟩ (by simp)) eF1.out).2.2.2.2.1
  have g5 : ∀ y : Wd S, y.w.cell? ⟨q, 13, none⟩ = some (.int .u16 0) := fun y => (at_reg ((hK _ y.h).1 ⟨q, fC R5⟩ (by simp)) eF1.out).2.2.2.2.2.1
  have g6 : ∀ y : Wd S, y.w.cell? ⟨q, 14, none⟩ = some (.int .u32 0) := fun y => (at_reg ((hK _ y.h).1 ⟨q, fC R5⟩ (by simp)) eF1.out).2.2.2.2.2.2.1
  have g7 : ∀ y : Wd S, y.w.cell? ⟨q, 15, none⟩ = some (.bool true) := fun y => (at_reg ((hK _ y.h).1 ⟨q, fC R5⟩ (by simp)) eF1.out).2.2.2.2.2.2.2
  have pB : ∀ y : Wd S, y.w.cell? ⟨qh, 128, none⟩ = some (.int .u32 8) := fun y => (at_reg ((hK _ y.h).1 ⟨qh, fC RH⟩ (by simp)) eHp.out).1
  have HS := Lib.hid hSb
  have HK := Lib.hid hK
  clear hK hSb SA TB
  go_wp2_with fail
  refine region_cls S (by kernel_rfl) (by kernel_rfl) (HS.out _ _ s0 (Below.refl _ _).drew) ?_
  repeat (first
    | go_big_quiet_skip
    | (go_big_quiet_want
       go_big_quiet_op
       first
       | go_big_quiet_on
       | (apply Exists.intro
          refine ⟨fun y => ?_, ?_⟩
          · first | exact rfl | with_reducible exact cN.out y | exact cN.out y
          go_big_quiet_on)))
  refine wpQuiet_nil ?_
  intro y
  have hB := Lib.hid (HK.out _ y.h).2
  generalize y.w = wG at hB ⊢
  go_wp2_with fail
  go_ret
  exact ⟨rfl, hB.out⟩
theorem walk (v : Int) (wv : (Lit.int .u32 v).wf = true) (at_ : Int) (wat : (Lit.int .u8 at_).wf = true) (kd : Int) (wkd : (Lit.int .u8 kd).wf = true) (W : World) (hT : Tabs W) : Calls Tryz.prog 7 #[.int .u32 v, .int .u8 at_, .int .u8 kd] W fun e w' => e = .returned (.bool true) ∧ Below W.heap.size W w' := by
  have hv := bounds_u32 wv
  obtain ⟨v, rfl⟩ := Int.eq_ofNat_of_zero_le hv.1
  have ha := bounds_u8 wat
  obtain ⟨at_, rfl⟩ := Int.eq_ofNat_of_zero_le ha.1
  have hk := bounds_u8 wkd
  obtain ⟨kd, rfl⟩ := Int.eq_ofNat_of_zero_le hk.1
  have k3 : (kd : Int) % 3 = 0 ∨ (kd : Int) % 3 = 1 ∨ (kd : Int) % 3 = 2 := by omega
  rcases k3 with k3 | k3 | k3
  · exact walk_0 v at_ kd (by omega) (by omega) k3 W hT
  · exact walk_1 v at_ kd (by omega) (by omega) k3 W hT
  · exact walk_2 v at_ kd (by omega) (by omega) k3 W hT
set_option maxRecDepth 100000 in
theorem lifted (os : Os) (started : os.Started) (H : Type) (enc : TypeId × Value → H) :
    ReturnsInHanded {} Tryz.checked os 7 .any (fun w args => (Rows.coreMovesSpec.pre enc Tryz.prog Tryz.f7 [] false w args ∧ laidMetH Tryz.prog Rows.coreMovesRow.laid w) ∧ sizedMet enc Tryz.prog Tryz.f7 (OpenSpec.ofChange Rows.coreMovesSpec) false w args) (Rows.coreMovesSpec.post enc Tryz.prog Tryz.f7 false true false false) := by
  refine returnsInHanded_of_change_and (C := Tryz.checked) (X := fun w _ => laidMetH Tryz.prog Rows.coreMovesRow.laid w) (fun _ _ _ hh h => h.of_heap hh) own started (by kernel_rfl) Tryz.func7
    (ChangeSpec.witness_at (enc := enc) (C := Tryz.checked) (os := os) (X := fun w _ => laidMetH Tryz.prog Rows.coreMovesRow.laid w) false (laidWorld os) #[.int .u32 0, .int .u8 0, .int .u8 0] 8 rfl (by kernel_rfl) (by kernel_rfl) (by kernel_rfl) (by kernel_rfl) (by kernel_rfl) (laid_met os _)) ?_
  intro W base args ds gs before hval0 hW _ _ hL _
  have hval : ∀ (j : Nat) t v, Tryz.f7.params[j]? = some t → args[j]? = some v → Value.okWide Tryz.prog W .any base t v := hval0
  have hW' := hW
  obtain ⟨p, q, hA0, hV, rfl, hfz, hnd⟩ := hW
  have hA : DataW.TrodAll enc Tryz.prog W 0 (fun _ => true) true Tryz.f7.params.toList args.toList ds p := hA0
  rw [Tryz.params7] at hA hval
  obtain ⟨v0, vs0, d0, ds0, p0, q0, hargs, rfl, rfl, h0, r0⟩ := trodAll_cons hA
  obtain ⟨v1, vs1, d1, ds1, p1, q1, rfl, rfl, rfl, h1, r1⟩ := trodAll_cons r0
  obtain ⟨v2, vs2, d2, ds2, p2, q2, rfl, rfl, rfl, h2, r2⟩ := trodAll_cons r1
  obtain ⟨rfl, rfl, rfl⟩ := trodAll_nil r2
  obtain rfl : args = #[v0, v1, v2] := by cases args; simp_all
  obtain ⟨rfl, rfl⟩ := trodVars_none hV
  have k0 := h0
  have lt0 : ∀ x ∈ p0, x.block < W.heap.size := by obtain ⟨m, hm⟩ := k0; exact DataW.trod_lt m _ _ _ hm
  have k1 := h1
  have lt1 : ∀ x ∈ p1, x.block < W.heap.size := by obtain ⟨m, hm⟩ := k1; exact DataW.trod_lt m _ _ _ hm
  have k2 := h2
  have lt2 : ∀ x ∈ p2, x.block < W.heap.size := by obtain ⟨m, hm⟩ := k2; exact DataW.trod_lt m _ _ _ hm
  obtain ⟨v, rfl, rfl, rfl, wv⟩ := open_int Tryz.underlying22 (hval 0 22 v0 rfl rfl) h0
  obtain ⟨at_, rfl, rfl, rfl, wat_⟩ := open_int Tryz.underlying5 (hval 1 5 v1 rfl rfl) h1
  obtain ⟨kind, rfl, rfl, rfl, wkind⟩ := open_int Tryz.underlying5 (hval 2 5 v2 rfl rfl) h2
  clear hA0 hval0
  refine (walk v wv at_ wat_ kind wkind W (tabs_of_laid hL)).mono fun e W' ⟨he, bel⟩ => ?_
  subst he
  exact ⟨_, rfl, _, _, _, [], _, [], hW', trodAll_mk1 (shut_bool Tryz.underlying4 _), (trodAll_cons_mk (Below.trod laidOut (by kernel_rfl) (of_decide_eq_true (by kernel_rfl)) k0 bel lt0) (trodAll_cons_mk (Below.trod laidOut (by kernel_rfl) (of_decide_eq_true (by kernel_rfl)) k1 bel lt1) (trodAll_cons_mk (Below.trod laidOut (by kernel_rfl) (of_decide_eq_true (by kernel_rfl)) k2 bel lt2) trodAll_mk0))), rfl, bel.frame _, fun h => by cases h⟩
theorem over : Rows.CoreMovesSaid :=
  OpenClaim.holds_of_wide 7 Tryz.f7 rfl rfl rfl rfl rfl rfl rfl ⟨rfl, rfl, rfl, rfl, rfl⟩ rfl rfl rfl rfl rfl (by kernel_rfl) Tryz.func7 (by kernel_rfl)
    (of_decide_eq_true (by kernel_rfl)) (by unfold Func.isWrapper; first | (rw [if_pos (by decide +kernel)]; kernel_rfl) | (rw [if_neg (by decide +kernel)]; exact ⟨rfl, rfl⟩))
    (fun os started H enc _ => lifted os started H enc)
/-- The given statement. -/
theorem proved : Rows.CoreMovesCardSaid :=
  Claim7.holds_tied_plain_at .later [] [.data] true (true, "a811f8ea155858ad6287c3ef8a487e61324b84dc1f446f16a7919a50e5900a6a") false
    over (fun _ h => by cases h) (by kernel_rfl) (fun _ h => by cases h) coreMoves_row_tie rfl ⟨rfl, rfl⟩ (by kernel_rfl) rfl
    (fun f fn hf hfn => by
      obtain rfl : f = 7 := Option.some.inj ((show Tryz.prog.funcNamed "fallow/fallowlaw10.CoreMoves" = some 7 by kernel_rfl).symm.trans hf) |>.symm
      obtain rfl : fn = Tryz.f7 := (Option.some.inj (Tryz.func7.symm.trans hfn)).symm
      exact ⟨by kernel_rfl, fun j t ht => by
        rw [Tryz.params7] at ht
        rcases j with _ | _ | _ | j
        · obtain rfl : t = 22 := by simpa using ht.symm
          exact (show Tryz.prog.wantsStandIn 22 = false by kernel_rfl)
        · obtain rfl : t = 5 := by simpa using ht.symm
          exact (show Tryz.prog.wantsStandIn 5 = false by kernel_rfl)
        · obtain rfl : t = 5 := by simpa using ht.symm
          exact (show Tryz.prog.wantsStandIn 5 = false by kernel_rfl)
        · simp at ht⟩)
    (by kernel_rfl)
end Go.Proofs.YtkmgdfcambdeeaaGreatDoor.cmov
