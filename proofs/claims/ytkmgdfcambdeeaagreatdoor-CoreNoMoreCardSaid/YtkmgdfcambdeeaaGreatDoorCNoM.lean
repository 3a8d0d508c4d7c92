/- Proved: what an instruction leaves valid, in a register or in memory, lies within what was valid in a register, or was in memory (the card of CoreNoMore): for every input; the table of forms is tied to the program's text. -/
import Derived.Test.YtkmgdfcambdeeaaGreatDoorCbL
import Derived.Test.YtkmgdfcambdeeaaGreatDoorCbO
import Derived.Test.YtkmgdfcambdeeaaGreatDoorTie
import Derived.Test.YtkmgdfcambdeeaaGreatDoorCards
import Derived.SevenTiedAt
import Derived.ProofKit
import Derived.OpenShut
import Derived.ShutString
import Derived.ChangeOld
namespace Go.Proofs.YtkmgdfcambdeeaaGreatDoor.cnom
open Go.ChangeShapes Go.WideShapes Go.ChangeAt Go.RowKit
open Go.ChangeMaps (open_string shut_string)
set_option linter.unusedVariables false
set_option maxRecDepth 100000
set_option maxHeartbeats 16000000 in
theorem walkN (F : List Cp) (hF : Fit F) (op A B C m : Int) (Al : Option Addr) (len cap : Nat) (hlen : len ≤ 9223372036854775807) (hcap : len ≤ cap) (W : World) (hP : PutsIn W W.heap.size Al len) (hT : Tabs W) :
    Calls Tryz.prog 5 #[fV F, .agg #[.int .i64 op, .int .i64 A, .int .i64 B, .int .i64 C, .int .i64 m], .slice Al len cap] W fun e w' => e = .returned (.bool true) ∧ Below W.heap.size W w' := by
  have k0 := Lib.hid (start_fi F op A B C m W)
  have hM := Lib.hid (fun w h => mem_any Al len cap hlen hcap w h)
  replace hP := Lib.hid hP
  replace hT := Lib.hid hT
  have l0 := hF.len
  obtain ⟨F1, hF1⟩ : ∃ F1, F1 = sIt F 17 := ⟨_, rfl⟩
  have hFh := Lib.hid (show Fit F1 from by rw [hF1]; exact sIt_fit hF 17)
  have lF := hFh.out.len
  have hSo := Lib.hid (fun w => (show Calls Tryz.prog 20 #[fV F] w fun e w' => e = .returned (fV F1) ∧ Below w.heap.size w w' from by rw [hF1]; exact psound_any F hF w))
  have hWk := Lib.hid works10_any
  clear hlen hcap hF hF1
  unfold fV at hSo
  unfold fV
  go_enter Tryz.func5, Tryz.ntmps5
  go_upto_region 1 with (fail)
  generalize ((W.alloc (.cells (fC F).toArray 28)).alloc _) = w1 at k0 ⊢
  go_wp2_with fail
  refine (hM.out w1 ((hP.out.below k0.out.bl).more k0.out.bl.size)).mono ?_
  rintro e w2 ⟨a, mb, wb, bb, c, r, rb, tb, f, l, rfl, hTwo, hb2, hn2⟩
  have B2 := Lib.hid ((Bo.start hTwo hn2 hb2 k0.out (fun x hx => by simp at hx; rcases hx with rfl | rfl <;> simp)).sub (L' := [⟨W.heap.size, fC F⟩, ⟨W.heap.size + 1, ir op A B C m⟩]) (by simp))
  clear hTwo hb2 hn2 k0 hM hP
  go_wp2_with fail
  refine (hWk.out w2 (hT.out.below B2.out.bl)).mono ?_
  rintro ee w3 ⟨rfl, g⟩
  have B3 := Lib.hid (B2.out.below g)
  clear g B2 hWk
  have rg := B3.out.range (g := W.heap.size) (vs := fC F) (by simp)
  go_wp2_with ((with_reducible show wpList _ _ _ _ _ _); refine wpList_load_mid rfl 28 _ rfl W.heap.size 0 rfl (fC F) _ rg Tryz.underlying28 rfl (size_fr l0) ?_)
  refine (hSo.out w3).mono ?_
  rintro ee w4 ⟨rfl, g⟩
  have B4 := Lib.hid (B3.out.below g)
  clear g B3 rg hSo
  have th := B4.out.there (g := W.heap.size) (vs := fC F) (by simp) 0 (fC F1).toArray.size (by rw [List.size_toArray, fC_len, fC_len, l0, lF]; exact Nat.le_refl _)
  have B5 := Lib.hid (B4.out.putA (fun x hx => by simp at hx; subst hx; simp) (fC F1) (by rw [fC_len, fC_len, l0, lF]))
  have sa := size_fa lF
  have oa := one_fr F1
  clear B4
  go_wp2_with ((with_reducible show wpList _ _ _ _ _ _); refine wpList_store_mid rfl 28 _ _ rfl W.heap.size 0 (fC F1).toArray rfl rfl th sa oa ?_; clear th sa oa; change wpList _ _ _ _ _ (w4.setCells W.heap.size 0 (fC F1)); generalize w4.setCells W.heap.size 0 (fC F1) = w5 at B5 ⊢)
  refine (held_any B5.out.ar).mono ?_
  rintro ee w6 ⟨v, rfl, hown, g⟩
  have hMl := Lib.hid (show (helM f l 256).length ≤ 256 from helM_len _ _ _)
  obtain ⟨M, hMd⟩ : ∃ M, M = helM f l 256 := ⟨_, rfl⟩
  rw [← hMd] at hown hMl
  obtain ⟨Am, capm, q, rfl, hAm, B6⟩ := B5.out.list (g0 := W.heap.size) (v0 := fC F1) (by simp) hown g
  replace hAm := Lib.hid hAm
  replace B6 := Lib.hid B6
  replace hMd := Lib.hid hMd
  obtain ⟨nm, hnm⟩ : ∃ n, n = M.length := ⟨_, rfl⟩
  rw [← hnm] at hAm hMl
  replace hnm := Lib.hid hnm
  clear hown g B5
  have hDo := Lib.hid (fun (w : World) (H : ArAt w a mb wb bb c 4096 256 f l) (h : Tabs w) => pDo_any H h F1 hFh.out ⟨op, A, B, C, m⟩)
  have lG : (doF F1 ⟨op, A, B, C, m⟩ 4096 f l).length = 17 := (doF_fit hFh.out _ _ _ _).len
  have fG := Lib.hid (doF_fit hFh.out ⟨op, A, B, C, m⟩ 4096 f l)
  have z1 := Lib.hid (show doT F1 ⟨op, A, B, C, m⟩ 4096 ≠ 0 → doF F1 ⟨op, A, B, C, m⟩ 4096 f l = zF from fun k => if_pos k)
  have z2 := Lib.hid (show doT F1 ⟨op, A, B, C, m⟩ 4096 = 0 → ∀ k, k < 16 → (reg (doF F1 ⟨op, A, B, C, m⟩ 4096 f l) k).va = true → reg (doF F1 ⟨op, A, B, C, m⟩ 4096 f l) k = reg F1 k ∨ (From F1 (reg (doF F1 ⟨op, A, B, C, m⟩ 4096 f l) k) ∨ reg (doF F1 ⟨op, A, B, C, m⟩ 4096 f l) k ∈ M) from fun h k hk hv => by rw [hMd.out]; exact nm_reg hFh.out h k hk hv)
  have z3 := Lib.hid (show doT F1 ⟨op, A, B, C, m⟩ 4096 = 0 → (reg (doF F1 ⟨op, A, B, C, m⟩ 4096 f l) 16).va = true → From F1 (reg (doF F1 ⟨op, A, B, C, m⟩ 4096 f l) 16) from fun h hv => nm_pc hFh.out h hv)
  have z4 := Lib.hid (show doT F1 ⟨op, A, B, C, m⟩ 4096 = 0 → ∀ x, x ∈ helM (doG F1 ⟨op, A, B, C, m⟩ 4096 f) (doL F1 ⟨op, A, B, C, m⟩ 4096 l) 256 → From F1 x ∨ x ∈ M from fun h x hx => by rw [hMd.out]; exact nm_mem hFh.out B6.out.ar.len h x hx)
  clear hMd
  unfold iv at hDo
  generalize doT F1 ⟨op, A, B, C, m⟩ 4096 = t at *
  generalize doF F1 ⟨op, A, B, C, m⟩ 4096 f l = G at *
  generalize doG F1 ⟨op, A, B, C, m⟩ 4096 f = f2 at *
  generalize doL F1 ⟨op, A, B, C, m⟩ 4096 l = l2 at *
  have hB0 := Lib.hid (fun w => fr_eql zF rfl w)
  have hG0 := Lib.hid (fun x y w => fr_guard zF zF x y w)
  have rg := B6.out.range (g := W.heap.size) (vs := fC F1) (by simp)
  have i0 := B6.out.cell (g := W.heap.size + 1) (j := 0) (u := .int .i64 op) (ir op A B C m) (by simp) rfl
  have i1 := B6.out.cell (g := W.heap.size + 1) (j := 1) (u := .int .i64 A) (ir op A B C m) (by simp) rfl
  have i2 := B6.out.cell (g := W.heap.size + 1) (j := 2) (u := .int .i64 B) (ir op A B C m) (by simp) rfl
  have i3 := B6.out.cell (g := W.heap.size + 1) (j := 3) (u := .int .i64 C) (ir op A B C m) (by simp) rfl
  have i4 := B6.out.cell (g := W.heap.size + 1) (j := 4) (u := .int .i64 m) (ir op A B C m) (by simp) rfl
  go_wp2_with ((with_reducible show wpList _ _ _ _ _ _); refine wpList_load_mid rfl 28 _ rfl W.heap.size 0 rfl (fC F1) _ rg Tryz.underlying28 rfl (size_fr lF) ?_)
  refine (hDo.out w6 B6.out.ar (hT.out.below B6.out.bl)).mono ?_
  rintro ee w7 ⟨rfl, g⟩
  have B7 := Lib.hid (B6.out.nxt g)
  clear g B6 rg i0 i1 i2 i3 i4 hDo
  have P4 := B7.out.push (fC zF) 28
  have th : (w7.alloc (.cells Tryz.zeroCells28 28)).there w7.heap.size 0 (fC G).toArray.size := by
    rw [show (fC G).toArray.size = 136 from by rw [List.size_toArray, fC_len, lG], zero_fr]
    exact at_there (P4.rs _ (List.mem_cons_self ..)) 136 (by rw [fC_len]; decide)
  have B8 := Lib.hid (P4.putA (fun x hx => Nat.ne_of_lt (B7.out.lt hx)) (fC G) (by rw [fC_len, fC_len, lG]; rfl))
  rw [← zero_fr] at B8
  have sa := size_fa lG
  have oa := one_fr G
  clear P4 B7
  by_cases ht : t = 0
  case' neg =>
    obtain rfl := z1.out ht
    have t1 : (t != 0) = true := by simp; omega
    clear z1 z2 z3 z4 ht
    go_wp2_with ((with_reducible show wpList _ _ _ _ _ _); refine wpList_store_mid rfl 28 _ _ rfl w7.heap.size 0 (fC zF).toArray rfl rfl th sa oa ?_; clear th sa oa; change wpList _ _ _ _ _ ((w7.alloc (.cells Tryz.zeroCells28 28)).setCells w7.heap.size 0 (fC zF)); generalize (w7.alloc (.cells Tryz.zeroCells28 28)).setCells w7.heap.size 0 (fC zF) = w8 at B8 ⊢; generalize w7.heap.size = qg at B8 ⊢; have rg := B8.out.range (g := qg) (vs := fC zF) (by simp))
    refine wp_load_mid 28 _ rfl qg 0 rfl (fC zF) _ rg Tryz.underlying28 rfl (size_fr rfl) ?_
    clear rg
    have hB1 : ∀ w, (binOp .eql 28 (.agg (fC zF).toArray) (.agg Tryz.zeroCells28)).run Tryz.prog w = .ok (.bool true) w := fun w => by rw [zero_fr]; exact hB0.out w
    have hG1 : ∀ (x y : Operand) w, (eqGuard .eql 28 x y (.agg (fC zF).toArray) (.agg Tryz.zeroCells28)).run Tryz.prog w = .ok () w := fun x y w => by rw [zero_fr]; exact hG0.out x y w
    clear hB0 hG0
    generalize Value.agg (fC zF).toArray = vG at hB1 hG1 ⊢
    go_wp2_with fail
    go_ret
    exact ⟨rfl, B8.out.bl⟩
  case' pos =>
    subst ht
    clear z1 hB0 hG0
    replace z2 := Lib.hid (z2.out rfl)
    replace z3 := Lib.hid (z3.out rfl)
    replace z4 := Lib.hid (z4.out rfl)
    have hFr := Lib.hid (fun (x : Cp) (hx : x.fit) (w : World) (h : (⟨q, fC M⟩ : Rw).at w) (hy : From F1 x ∨ x ∈ M) => pfrom_yes x hx F1 hFh.out M Am nm capm q w hnm.out (by have := hMl.out; omega) hAm.out h hy)
    have hFp := Lib.hid (fun (x : Cp) (hx : x.fit) (w : World) (h : (⟨W.heap.size, fC F1⟩ : Rw).at w) (hy : From F1 x) => pfrom_yes x hx F1 hFh.out [] none 0 0 W.heap.size w rfl (by decide) (fun k => absurd k (by decide)) ⟨h.1, h.2.1, fun j u hu => by simp [fC] at hu⟩ (.inl hy))
    unfold Cp.V Cp.C cv fV at hFr hFp
    rw [← hnm.out]
    go_wp2_with ((with_reducible show wpList _ _ _ _ _ _); refine wpList_store_mid rfl 28 _ _ rfl w7.heap.size 0 (fC G).toArray rfl rfl th sa oa ?_; clear th sa oa; change wpList _ _ _ _ _ ((w7.alloc (.cells Tryz.zeroCells28 28)).setCells w7.heap.size 0 (fC G)); generalize (w7.alloc (.cells Tryz.zeroCells28 28)).setCells w7.heap.size 0 (fC G) = w8 at B8 ⊢; generalize w7.heap.size = qg at B8 ⊢)
    go_loopw [12] (fun i wr => ∃ j : Nat, j ≤ 16 ∧ i = .int .i64 j ∧ Hid (Bo W a mb wb bb c r rb tb f2 l2 f l [⟨qg, fC G⟩, ⟨q, fC M⟩, ⟨W.heap.size, fC F1⟩, ⟨W.heap.size + 1, ir op A B C m⟩] wr)) (fun i _ => 17 - (intOf i).toNat)
    case atStart => exact ⟨0, by omega, rfl, Lib.hid B8.out⟩
    case round =>
      obtain ⟨j, hj, rfl, hI⟩ := hrel
      clear B8
      have B8 := hI
      clear hI
      by_cases hlt : j < 16
      · have jl : (j : Int) < 16 := by omega
        obtain ⟨S, hS0⟩ : ∃ S : World → Prop, S = fun w => Bo W a mb wb bb c r rb tb f2 l2 f l [⟨qg, fC G⟩, ⟨q, fC M⟩, ⟨W.heap.size, fC F1⟩, ⟨W.heap.size + 1, ir op A B C m⟩] w := ⟨_, rfl⟩
        have hK : ∀ w, S w → Bo W a mb wb bb c r rb tb f2 l2 f l [⟨qg, fC G⟩, ⟨q, fC M⟩, ⟨W.heap.size, fC F1⟩, ⟨W.heap.size + 1, ir op A B C m⟩] w := fun w h => by rw [hS0] at h; exact h
        have hS : ∀ u v, S u → Below u.heap.size u v → S v := fun u v h k => by rw [hS0] at h ⊢; exact h.below k
        have s0 : S wr := by rw [hS0]; exact B8.out
        clear hS0
        have rF : ∀ w, (∃ y : Wd S, w = y.w) → w.rangeAt W.heap.size 0 (fC F1) := fun w ⟨y, e⟩ => e ▸ (hK _ y.h).range (by simp)
        have hgG := Lib.hid (reg_get (F := G) (i := j) (by omega))
        have hgF := Lib.hid (reg_get (F := F1) (i := j) (by omega))
        have fd := Lib.hid (fG.out.reg j)
        have hz := Lib.hid (z2.out j hlt)
        obtain ⟨d, hd⟩ : ∃ d, d = reg G j := ⟨_, rfl⟩
        obtain ⟨d', hd'⟩ : ∃ d, d = reg F1 j := ⟨_, rfl⟩
        rw [← hd] at hgG fd hz
        rw [← hd'] at hgF hz
        clear hd hd'
        have hQ := Lib.hid (show ∀ w, S w → (⟨q, fC M⟩ : Rw).at w from fun w h => (hK w h).rs _ (by simp))
        have gg : ∀ (k : Nat) (u : Value), d.C[k]? = some u → ∀ y : Wd S, y.w.cell? ⟨qg, j * 8 + k, none⟩ = some u := fun k u hu y => (hK _ y.h).cell (fC G) (by simp) (fC_at' _ j d hgG.out k u hu)
        obtain ⟨cu, e, b0, t, pm, ty, rs, va⟩ := d
        have c0 : ∀ y : Wd S, y.w.cell? ⟨qg, j * 8, none⟩ = some (.int .u32 cu) := gg 0 _ rfl
        have c1 := gg 1 _ rfl
        have c2 := gg 2 _ rfl
        have c3 := gg 3 _ rfl
        have c4 := gg 4 _ rfl
        have c5 := gg 5 _ rfl
        have c6 := gg 6 _ rfl
        have c7 := gg 7 _ rfl
        clear gg
        have gg : ∀ (k : Nat) (u : Value), d'.C[k]? = some u → ∀ y : Wd S, y.w.cell? ⟨W.heap.size, j * 8 + k, none⟩ = some u := fun k u hu y => (hK _ y.h).cell (fC F1) (by simp) (fC_at' _ j d' hgF.out k u hu)
        obtain ⟨cu', e', b', t', pm', ty', rs', va'⟩ := d'
        have x0 : ∀ y : Wd S, y.w.cell? ⟨W.heap.size, j * 8, none⟩ = some (.int .u32 cu') := gg 0 _ rfl
        have x1 := gg 1 _ rfl
        have x2 := gg 2 _ rfl
        have x3 := gg 3 _ rfl
        have x4 := gg 4 _ rfl
        have x5 := gg 5 _ rfl
        have x6 := gg 6 _ rfl
        have x7 := gg 7 _ rfl
        clear gg
        have HS := Lib.hid hS
        have HK := Lib.hid hK
        clear hK hS B8
        have hund : undef = Value.tuple #[] := rfl
        cases va
        · go_wp2_with fail
          refine region_cls S (by kernel_rfl) (by kernel_rfl) (HS.out _ _ s0 (Below.refl _ _).drew) ?_
          repeat (first
            | go_big_quiet_skip
            | (go_big_quiet_want
               first
               | (refine quiet_load_mid 28 _ rfl W.heap.size 0 rfl (fC F1) _ rF Tryz.underlying28 rfl (size_fr lF) ?_
                  simp only [Act.put, List.setIfInBounds_toArray, List.set_cons_zero, List.set_cons_succ]
                  go_big_quiet_on)
               | (go_big_quiet_op
                  first
                  | go_big_quiet_on
                  | (apply Exists.intro
                     refine ⟨fun y => ?_, ?_⟩
                     · first | exact rfl 
                     go_big_quiet_on))))

          refine wpQuiet_nil ?_
          intro y
          have Bz := Lib.hid (HK.out _ y.h)
          generalize y.w = wz at Bz ⊢
          clear y HS HK hQ c0 c1 c2 c3 c4 c5 c6 c7 x0 x1 x2 x3 x4 x5 x6 x7 s0 rF
          go_wp2_with fail
          go_roundw
          case rel => (repeat apply Exists.intro); exact ⟨⟨j + 1, by omega, by go_num, Lib.hid Bz.out⟩, rfl⟩
          case measure => simp [intOf]; omega
        · have hEq := fun w => cap_eq cu e b0 t pm ty rs true cu' e' b' t' pm' ty' rs' va' w
          obtain ⟨rr, hr⟩ : ∃ r : Bool, r = (((cu : Int) == cu') && (((e : Int) == e') && (((b0 : Int) == b') && (((t : Int) == t') && (((pm : Int) == pm') && (((ty : Int) == ty') && (((rs : Int) == rs') && ((true == va') && true)))))))) := ⟨_, rfl⟩
          rw [← hr] at hEq
          have hz2 := Lib.hid (show rr = false → From F1 ⟨cu, e, b0, t, pm, ty, rs, true⟩ ∨ (⟨cu, e, b0, t, pm, ty, rs, true⟩ : Cp) ∈ M from fun h => by
            rcases hz.out rfl with k | k
            · injection k with e0 e1 e2 e3 e4 e5 e6 e7
              subst e0 e1 e2 e3 e4 e5 e6 e7
              rw [h] at hr
              simp at hr
            · exact k)
          clear hr hz
          cases rr
          · have cW := Lib.hid (cls_call (S := S) fun w hw => (hFr.out _ fd.out w (hQ.out w hw) (hz2.out rfl)).mono fun ee w' k => (⟨k.1, HS.out _ _ hw k.2⟩ : _ ∧ S w'))
            clear hz2
            go_wp2_with fail
            refine region_cls S (by kernel_rfl) (by kernel_rfl) (HS.out _ _ s0 (Below.refl _ _).drew) ?_
            repeat (first
              | go_big_quiet_skip
              | (go_big_quiet_want
                 first
                 | (refine quiet_load_mid 28 _ rfl W.heap.size 0 rfl (fC F1) _ rF Tryz.underlying28 rfl (size_fr lF) ?_
                    simp only [Act.put, List.setIfInBounds_toArray, List.set_cons_zero, List.set_cons_succ]
                    go_big_quiet_on)
                 | (go_big_quiet_op
                    first
                    | go_big_quiet_on
                    | (apply Exists.intro
                       refine ⟨fun y => ?_, ?_⟩
                       · first | exact rfl  | with_reducible exact cW.out y | exact cW.out y
                       go_big_quiet_on))))

            refine wpQuiet_nil ?_
            intro y
            have Bz := Lib.hid (HK.out _ y.h)
            generalize y.w = wz at Bz ⊢
            clear y HS HK hQ cW hEq c0 c1 c2 c3 c4 c5 c6 c7 x0 x1 x2 x3 x4 x5 x6 x7 s0 rF
            go_wp2_with fail
            go_roundw
            case rel => (repeat apply Exists.intro); exact ⟨⟨j + 1, by omega, by go_num, Lib.hid Bz.out⟩, rfl⟩
            case measure => simp [intOf]; omega
          · clear hz2
            go_wp2_with fail
            refine region_cls S (by kernel_rfl) (by kernel_rfl) (HS.out _ _ s0 (Below.refl _ _).drew) ?_
            repeat (first
              | go_big_quiet_skip
              | (go_big_quiet_want
                 first
                 | (refine quiet_load_mid 28 _ rfl W.heap.size 0 rfl (fC F1) _ rF Tryz.underlying28 rfl (size_fr lF) ?_
                    simp only [Act.put, List.setIfInBounds_toArray, List.set_cons_zero, List.set_cons_succ]
                    go_big_quiet_on)
                 | (go_big_quiet_op
                    first
                    | go_big_quiet_on
                    | (apply Exists.intro
                       refine ⟨fun y => ?_, ?_⟩
                       · first | exact rfl 
                       go_big_quiet_on))))

            refine wpQuiet_nil ?_
            intro y
            have Bz := Lib.hid (HK.out _ y.h)
            generalize y.w = wz at Bz ⊢
            clear y HS HK hQ hEq c0 c1 c2 c3 c4 c5 c6 c7 x0 x1 x2 x3 x4 x5 x6 x7 s0 rF
            go_wp2_with fail
            go_roundw
            case rel => (repeat apply Exists.intro); exact ⟨⟨j + 1, by omega, by go_num, Lib.hid Bz.out⟩, rfl⟩
            case measure => simp [intOf]; omega
      · obtain rfl : j = 16 := by omega
        have hgG := Lib.hid (reg_get (F := G) (i := 16) (by omega))
        have fd := Lib.hid (fG.out.reg 16)
        have hz := Lib.hid z3.out
        obtain ⟨d, hd⟩ : ∃ d, d = reg G 16 := ⟨_, rfl⟩
        rw [← hd] at hgG fd hz
        clear hd
        obtain ⟨c0, c1, c2, c3, c4, c5, c6, c7⟩ := B8.out.kr.reg (g := qg) (F := G) (by simp) hgG.out
        simp only [Nat.reduceMul, Nat.reduceAdd] at c0 c1 c2 c3 c4 c5 c6 c7
        have rg := B8.out.range (g := W.heap.size) (vs := fC F1) (by simp)
        have hQp := Lib.hid (B8.out.rs ⟨W.heap.size, fC F1⟩ (by simp))
        obtain ⟨cu, e, b0, t, pm, ty, rs, va⟩ := d
        cases va
        case' false =>
          go_wp2_with fail
          clear rg c0 c1 c2 c3 c4 c5 c6 c7 hQp
        case' true =>
          go_wp2_with fail
          refine wp_load_mid 28 _ rfl W.heap.size 0 rfl (fC F1) _ rg Tryz.underlying28 rfl (size_fr lF) ?_
          clear rg
          go_wp2_with fail
          refine (hFp.out _ fd.out _ hQp.out (hz.out (by trivial))).mono ?_
          rintro ee w9 ⟨rfl, g⟩
          replace B8 := Lib.hid (B8.out.below g)
          clear g c0 c1 c2 c3 c4 c5 c6 c7 hQp
          go_wp2_with fail
        all_goals
          clear hgG fd hz hFp z3
          refine (held_any B8.out.ar).mono ?_
          rintro ee w10 ⟨v, rfl, hown, g⟩
          obtain ⟨M2, hM2⟩ : ∃ M, M = helM f2 l2 256 := ⟨_, rfl⟩
          have hM2l := Lib.hid (show M2.length ≤ 256 from by rw [hM2]; exact helM_len _ _ _)
          have hM2f := Lib.hid (show ∀ x, x ∈ M2 → x.fit from fun x hx => helM_fit (by rw [← hM2]; exact hx))
          rw [← hM2] at hown z4
          obtain ⟨A2, cap2, q2, rfl, hA2, B9⟩ := B8.out.list (g0 := W.heap.size) (v0 := fC F1) (by simp) hown g
          replace hA2 := Lib.hid hA2
          replace B9 := Lib.hid B9
          obtain ⟨n2, hn2⟩ : ∃ n, n = M2.length := ⟨_, rfl⟩
          rw [← hn2] at hA2 hM2l
          replace hn2 := Lib.hid hn2
          clear hown g B8 hM2
          rw [← hn2.out]
          go_wp2_with fail
          go_loopw [14] (fun i wr => ∃ j : Nat, j ≤ n2 ∧ i = .int .i64 j ∧ Hid (Bo W a mb wb bb c r rb tb f2 l2 f l [⟨q2, fC M2⟩, ⟨qg, fC G⟩, ⟨q, fC M⟩, ⟨W.heap.size, fC F1⟩, ⟨W.heap.size + 1, ir op A B C m⟩] wr)) (fun i _ => n2 + 1 - (intOf i).toNat)
          case atStart => exact ⟨0, by omega, rfl, Lib.hid B9.out⟩
          case round =>
            obtain ⟨j, hj2, rfl, hI⟩ := hrel
            clear B9
            have B9 := hI
            clear hI
            have jn : (j : Int) ≤ n2 := by omega
            have lM := hM2l.out
            by_cases hlt2 : j < n2
            · have jl : (j : Int) < n2 := by omega
              obtain rfl := hA2.out (by omega)
              obtain ⟨S, hS0⟩ : ∃ S : World → Prop, S = fun w => Bo W a mb wb bb c r rb tb f2 l2 f l [⟨q2, fC M2⟩, ⟨qg, fC G⟩, ⟨q, fC M⟩, ⟨W.heap.size, fC F1⟩, ⟨W.heap.size + 1, ir op A B C m⟩] w := ⟨_, rfl⟩
              have hK : ∀ w, S w → Bo W a mb wb bb c r rb tb f2 l2 f l [⟨q2, fC M2⟩, ⟨qg, fC G⟩, ⟨q, fC M⟩, ⟨W.heap.size, fC F1⟩, ⟨W.heap.size + 1, ir op A B C m⟩] w := fun w h => by rw [hS0] at h; exact h
              have hS : ∀ u v, S u → Below u.heap.size u v → S v := fun u v h k => by rw [hS0] at h ⊢; exact h.below k
              have s0 : S wr := by rw [hS0]; exact B9.out
              clear hS0
              have rF : ∀ w, (∃ y : Wd S, w = y.w) → w.rangeAt W.heap.size 0 (fC F1) := fun w ⟨y, e⟩ => e ▸ (hK _ y.h).range (by simp)
              have hj3 : j < M2.length := by have := hn2.out; omega
              obtain ⟨d, hm⟩ : ∃ m, m = M2[j] := ⟨_, rfl⟩
              have hgm := Lib.hid (show M2[j]? = some d from by rw [hm, List.getElem?_eq_getElem hj3])
              have fd := Lib.hid (hM2f.out d (by rw [hm]; exact List.getElem_mem _))
              have hz := Lib.hid (z4.out d (by rw [hm]; exact List.getElem_mem _))
              clear hm
              have hQ := Lib.hid (show ∀ w, S w → (⟨q, fC M⟩ : Rw).at w from fun w h => (hK w h).rs _ (by simp))
              have gg : ∀ (k : Nat) (u : Value), d.C[k]? = some u → ∀ y : Wd S, y.w.cell? ⟨q2, j * 8 + k, none⟩ = some u := fun k u hu y => (hK _ y.h).cell (fC M2) (by simp) (fC_at' _ j d hgm.out k u hu)
              obtain ⟨cu, e, b0, t, pm, ty, rs, va⟩ := d
              have c0 : ∀ y : Wd S, y.w.cell? ⟨q2, j * 8, none⟩ = some (.int .u32 cu) := gg 0 _ rfl
              have c1 := gg 1 _ rfl
              have c2 := gg 2 _ rfl
              have c3 := gg 3 _ rfl
              have c4 := gg 4 _ rfl
              have c5 := gg 5 _ rfl
              have c6 := gg 6 _ rfl
              have c7 := gg 7 _ rfl
              clear gg
              have HS := Lib.hid hS
              have HK := Lib.hid hK
              clear hK hS B9
              have cW := Lib.hid (cls_call (S := S) fun w hw => (hFr.out _ fd.out w (hQ.out w hw) hz.out).mono fun ee w' k => (⟨k.1, HS.out _ _ hw k.2⟩ : _ ∧ S w'))
              have hund : undef = Value.tuple #[] := rfl
              go_wp2_with fail
              refine region_cls S (by kernel_rfl) (by kernel_rfl) (HS.out _ _ s0 (Below.refl _ _).drew) ?_
              repeat (first
                | go_big_quiet_skip
                | (go_big_quiet_want
                   first
                   | (refine quiet_load_mid 28 _ rfl W.heap.size 0 rfl (fC F1) _ rF Tryz.underlying28 rfl (size_fr lF) ?_
                      simp only [Act.put, List.setIfInBounds_toArray, List.set_cons_zero, List.set_cons_succ]
                      go_big_quiet_on)
                   | (go_big_quiet_op
                      first
                      | go_big_quiet_on
                      | (apply Exists.intro
                         refine ⟨fun y => ?_, ?_⟩
                         · first | exact rfl  | with_reducible exact cW.out y | exact cW.out y
                         go_big_quiet_on))))

              refine wpQuiet_nil ?_
              intro y
              have Bz := Lib.hid (HK.out _ y.h)
              generalize y.w = wz at Bz ⊢
              clear y HS HK hQ cW c0 c1 c2 c3 c4 c5 c6 c7 s0 rF hz hgm fd
              go_wp2_with fail
              go_roundw
              case rel => (repeat apply Exists.intro); exact ⟨⟨j + 1, by omega, by go_num, Lib.hid Bz.out⟩, rfl⟩
              case measure => simp [intOf]; omega
            · obtain rfl : j = n2 := by omega
              go_wp2_with fail
              go_ret
              exact ⟨rfl, B9.out.bl⟩
theorem walk {H : Type} {enc : TypeId × Value → H} (f : List Cp) (wf : Fit f) (i0 : Int) (wi0 : (Lit.int .i64 i0).wf = true) (i1 : Int) (wi1 : (Lit.int .i64 i1).wf = true) (i2 : Int) (wi2 : (Lit.int .i64 i2).wf = true) (i3 : Int) (wi3 : (Lit.int .i64 i3).wf = true) (i4 : Int) (wi4 : (Lit.int .i64 i4).wf = true) (v2 : Value) {d0 : DataW H} {p0 : List MemPlace} (W : World)
    (hv : Value.okWide Tryz.prog W .any 0 31 v2) (hd : DataW.Trod enc Tryz.prog W 0 (fun _ => true) true 31 v2 d0 p0) (hT : Tabs W) :
    Calls Tryz.prog 5 #[.agg (fC f).toArray, .agg #[.int .i64 i0, .int .i64 i1, .int .i64 i2, .int .i64 i3, .int .i64 i4], v2] W fun e w' => e = .returned (.bool true) ∧ Below W.heap.size W w' := by
  obtain ⟨A, len, cap, rfl, hcap, hm, hP⟩ := puts_of hv hd
  have hlen : len ≤ 9223372036854775807 := by unfold maxLen at hm; omega
  exact walkN f wf i0 i1 i2 i3 i4 A len cap hlen hcap W hP hT
set_option maxRecDepth 100000 in
theorem lifted (os : Os) (started : os.Started) (H : Type) (enc : TypeId × Value → H) :
    ReturnsInHanded {} Tryz.checked os 5 .any (fun w args => (Rows.coreNoMoreSpec.pre enc Tryz.prog Tryz.f5 [] false w args ∧ laidMetH Tryz.prog Rows.coreNoMoreRow.laid w) ∧ sizedMet enc Tryz.prog Tryz.f5 (OpenSpec.ofChange Rows.coreNoMoreSpec) false w args) (Rows.coreNoMoreSpec.post enc Tryz.prog Tryz.f5 false true false false) := by
  refine returnsInHanded_of_change_and (C := Tryz.checked) (X := fun w _ => laidMetH Tryz.prog Rows.coreNoMoreRow.laid w) (fun _ _ _ hh h => h.of_heap hh) own started (by kernel_rfl) Tryz.func5
    (ChangeSpec.witness_at (enc := enc) (C := Tryz.checked) (os := os) (X := fun w _ => laidMetH Tryz.prog Rows.coreNoMoreRow.laid w) false (laidWorld os) #[fV zF, .agg #[.int .i64 0, .int .i64 0, .int .i64 0, .int .i64 0, .int .i64 0], .slice none 0 0] 8 rfl (by kernel_rfl) (by kernel_rfl) (by kernel_rfl) (by kernel_rfl) (by kernel_rfl) (laid_met os _)) ?_
  intro W base args ds gs before hval0 hW _ _ hL _
  have hval : ∀ (j : Nat) t v, Tryz.f5.params[j]? = some t → args[j]? = some v → Value.okWide Tryz.prog W .any base t v := hval0
  have hW' := hW
  obtain ⟨p, q, hA0, hV, rfl, hfz, hnd⟩ := hW
  have hA : DataW.TrodAll enc Tryz.prog W 0 (fun _ => true) true Tryz.f5.params.toList args.toList ds p := hA0
  rw [Tryz.params5] at hA hval
  obtain ⟨v0, vs0, d0, ds0, p0, q0, hargs, rfl, rfl, h0, r0⟩ := trodAll_cons hA
  obtain ⟨v1, vs1, d1, ds1, p1, q1, rfl, rfl, rfl, h1, r1⟩ := trodAll_cons r0
  obtain ⟨v2, vs2, d2, ds2, p2, q2, rfl, rfl, rfl, h2, r2⟩ := trodAll_cons r1
  obtain ⟨rfl, rfl, rfl⟩ := trodAll_nil r2
  obtain rfl : args = #[v0, v1, v2] := by cases args; simp_all
  obtain ⟨rfl, rfl⟩ := trodVars_none hV
  have k0 := h0
  have lt0 : ∀ x ∈ p0, x.block < W.heap.size := by obtain ⟨m, hm⟩ := k0; exact DataW.trod_lt m _ _ _ hm
  have k1 := h1
  have lt1 : ∀ x ∈ p1, x.block < W.heap.size := by obtain ⟨m, hm⟩ := k1; exact DataW.trod_lt m _ _ _ hm
  have k2 := h2
  have lt2 : ∀ x ∈ p2, x.block < W.heap.size := by obtain ⟨m, hm⟩ := k2; exact DataW.trod_lt m _ _ _ hm
  obtain ⟨csf, rfl, hff⟩ := open_flat (ks := frK) 6 (by kernel_rfl) (.inl ⟨_, Tryz.underlying28⟩) (hval 0 28 v0 rfl rfl) h0
  obtain ⟨f, wf, rfl⟩ := frame_of hff
  obtain ⟨csi, rfl, hfi⟩ := open_flat (ks := [some .i64, some .i64, some .i64, some .i64, some .i64]) 6 (by kernel_rfl) (.inl ⟨_, Tryz.underlying30⟩) (hval 1 30 v1 rfl rfl) h1
  obtain ⟨_, _, rfl, ⟨i0, rfl, wi0⟩, _, _, rfl, ⟨i1, rfl, wi1⟩, _, _, rfl, ⟨i2, rfl, wi2⟩, _, _, rfl, ⟨i3, rfl, wi3⟩, _, _, rfl, ⟨i4, rfl, wi4⟩, rfl⟩ := hfi
  clear hA0 hval0
  refine (walk f wf i0 wi0 i1 wi1 i2 wi2 i3 wi3 i4 wi4 v2 W (hval 2 31 v2 rfl rfl) k2 (tabs_of_laid hL)).mono fun e W' ⟨he, bel⟩ => ?_
  subst he
  exact ⟨_, rfl, _, _, _, [], _, [], hW', trodAll_mk1 (shut_bool Tryz.underlying4 _), (trodAll_cons_mk (Below.trod laidOut (by kernel_rfl) (of_decide_eq_true (by kernel_rfl)) k0 bel lt0) (trodAll_cons_mk (Below.trod laidOut (by kernel_rfl) (of_decide_eq_true (by kernel_rfl)) k1 bel lt1) (trodAll_cons_mk (Below.trod laidOut (by kernel_rfl) (of_decide_eq_true (by kernel_rfl)) k2 bel lt2) trodAll_mk0))), rfl, bel.frame _, fun h => by cases h⟩
theorem over : Rows.CoreNoMoreSaid :=
  OpenClaim.holds_of_wide 5 Tryz.f5 rfl rfl rfl rfl rfl rfl rfl ⟨rfl, rfl, rfl, rfl, rfl⟩ rfl rfl rfl rfl rfl (by kernel_rfl) Tryz.func5 (by kernel_rfl)
    (of_decide_eq_true (by kernel_rfl)) (by unfold Func.isWrapper; first | (rw [if_pos (by decide +kernel)]; kernel_rfl) | (rw [if_neg (by decide +kernel)]; exact ⟨rfl, rfl⟩))
    (fun os started H enc _ => lifted os started H enc)
/-- The given statement. -/
theorem proved : Rows.CoreNoMoreCardSaid :=
  Claim7.holds_tied_plain_at .later [] [.data] true (true, "a811f8ea155858ad6287c3ef8a487e61324b84dc1f446f16a7919a50e5900a6a") false
    over (fun _ h => by cases h) (by kernel_rfl) (fun _ h => by cases h) coreNoMore_row_tie rfl ⟨rfl, rfl⟩ (by kernel_rfl) rfl
    (fun f fn hf hfn => by
      obtain rfl : f = 5 := Option.some.inj ((show Tryz.prog.funcNamed "fallow/fallowlaw10.CoreNoMore" = some 5 by kernel_rfl).symm.trans hf) |>.symm
      obtain rfl : fn = Tryz.f5 := (Option.some.inj (Tryz.func5.symm.trans hfn)).symm
      exact ⟨by kernel_rfl, fun j t ht => by
        rw [Tryz.params5] at ht
        rcases j with _ | _ | _ | j
        · obtain rfl : t = 28 := by simpa using ht.symm
          exact (show Tryz.prog.wantsStandIn 28 = false by kernel_rfl)
        · obtain rfl : t = 30 := by simpa using ht.symm
          exact (show Tryz.prog.wantsStandIn 30 = false by kernel_rfl)
        · obtain rfl : t = 31 := by simpa using ht.symm
          exact (show Tryz.prog.wantsStandIn 31 = false by kernel_rfl)
        · simp at ht⟩)
    (by kernel_rfl)
end Go.Proofs.YtkmgdfcambdeeaaGreatDoor.cnom
