/- The laws' own from (layer core): does a capability come of a frame, or of what stood in memory? No statement is proved here. -/
import Derived.Test.YtkmgdfcambdeeaaGreatDoorPCAlP
import Derived.Deep.LoopGhost
import Derived.BigQuiet
namespace Go.Proofs.YtkmgdfcambdeeaaGreatDoor
set_option maxRecDepth 100000
open Go.RowKit
set_option linter.unusedVariables false
theorem pWithin_cp (a b : Cp) (ha : a.fit) (hb : b.fit) (W : World) : Calls Tryz.prog 63 #[a.V, b.V] W fun ee w' => ee = .returned (.bool (a.inn b)) ∧ Below W.heap.size W w' :=
  pWithin_any a.cu a.e a.b a.t a.pm a.ty a.rs a.va b.cu b.e b.b b.t b.pm b.ty b.rs b.va ha.l0 ha.l1 ha.l2 ha.l3 ha.l4 ha.l5 ha.l6 hb.l0 hb.l1 hb.l2 hb.l3 hb.l4 hb.l5 hb.l6 W
theorem start_cf (c : Cp) (F : List Cp) (W : World) : KR W [⟨W.heap.size + 1, fC F⟩, ⟨W.heap.size, c.C⟩] ((W.alloc (.cells c.C.toArray 25)).alloc (.cells (fC F).toArray 28)) := by
  have := ((KR.start (W := W)).push c.C 25).push (fC F) 28
  rw [show (W.alloc (Obj.cells c.C.toArray 25)).heap.size = W.heap.size + 1 from by simp] at this
  exact this
theorem fC_at' (M : List Cp) (i : Nat) (c : Cp) (h : M[i]? = some c) (k : Nat) (u : Value) (hk : c.C[k]? = some u) : (fC M)[i * 8 + k]? = some u := by
  have h8 : k < 8 := by have := (List.getElem?_eq_some_iff.1 hk).1; rwa [Cp.C_len] at this
  rw [fC_at M i k c h8 h]; exact hk
set_option maxHeartbeats 16000000 in
theorem pfrom_yes (c : Cp) (hc : c.fit) (F : List Cp) (hF : Fit F) (M : List Cp) (A : Option Addr) (n cap q : Nat) (W : World) (hn : n = M.length) (hn2 : n ≤ 1000) (hA : 0 < n → A = some ⟨q, 0, none⟩) (hq : (⟨q, fC M⟩ : Rw).at W) (hy : From F c ∨ c ∈ M) :
    Calls Tryz.prog 22 #[c.V, fV F, .slice A n cap] W fun e w' => e = .returned (.bool true) ∧ Below W.heap.size W w' := by
  have kB := start_cf c F W
  have k0 := Lib.hid (show KR W [⟨q, fC M⟩, ⟨W.heap.size + 1, fC F⟩, ⟨W.heap.size, c.C⟩] ((W.alloc (.cells c.C.toArray 25)).alloc (.cells (fC F).toArray 28)) from
    ⟨kB.bl, fun x hx => by
      rcases List.mem_cons.1 hx with rfl | hx
      · exact Rw.below hq kB.bl
      · exact kB.al x hx⟩)
  have hF' := Lib.hid hF
  have hc' := Lib.hid hc
  have lF := hF.len
  have hy0 : ((reg F 16).va && c.inn (reg F 16)) = true ∨ (∃ i, 0 ≤ i ∧ i < 16 ∧ (reg F i).va = true ∧ c.inn (reg F i) = true) ∨ c ∈ M := by
    rcases hy with ⟨j, h1, h2, h3⟩ | h
    · by_cases e : j = 16
      · subst e; exact .inl (by rw [h2, h3]; rfl)
      · exact .inr (.inl ⟨j, Nat.zero_le _, by omega, h2, h3⟩)
    · exact .inr (.inr h)
  replace hy0 := Lib.hid hy0
  have hn' := Lib.hid hn
  have hA' := Lib.hid hA
  clear hy hq kB hF hc hn hA
  obtain ⟨C, hC⟩ : ∃ C, C = c := ⟨_, rfl⟩
  have hC' := Lib.hid hC
  obtain ⟨ku, ke, kb, kt, kp, ky, kr, kv⟩ := c
  rw [← hC] at hy0
  unfold fV
  unfold Cp.V Cp.C cv
  have hWi := Lib.hid (fun (d : Cp) (hd : d.fit) (w : World) => (show Calls Tryz.prog 63 #[.agg #[.int .u32 ku, .int .u8 ke, .int .u16 kb, .int .u16 kt, .int .u16 kp, .int .u16 ky, .int .u32 kr, .bool kv], .agg #[.int .u32 d.cu, .int .u8 d.e, .int .u16 d.b, .int .u16 d.t, .int .u16 d.pm, .int .u16 d.ty, .int .u32 d.rs, .bool d.va]] w fun ee w' => ee = .returned (.bool (C.inn d)) ∧ Below w.heap.size w w' from by
    rw [hC]; exact pWithin_cp _ d hc'.out hd w))
  clear hC
  go_enter Tryz.func22, Tryz.ntmps22
  go_upto_region 1 with (fail)
  change Code.wp _ _ _ _ ((W.alloc (.cells (Cp.C ⟨ku, ke, kb, kt, kp, ky, kr, kv⟩).toArray 25)).alloc (.cells (fC F).toArray 28))
  generalize ((W.alloc (.cells (Cp.C ⟨ku, ke, kb, kt, kp, ky, kr, kv⟩).toArray 25)).alloc (.cells (fC F).toArray 28)) = w1 at k0 ⊢
  have hget := Lib.hid (reg_get (F := F) (i := 16) (by omega))
  have fd := Lib.hid (hF'.out.reg 16)
  obtain ⟨d, hd⟩ : ∃ d, d = reg F 16 := ⟨_, rfl⟩
  rw [← hd] at hget fd hy0
  clear hd
  obtain ⟨c0, c1, c2, c3, c4, c5, c6, c7⟩ := k0.out.reg (g := W.heap.size + 1) (F := F) (by simp) hget.out
  simp only [Nat.reduceMul, Nat.reduceAdd] at c0 c1 c2 c3 c4 c5 c6 c7
  obtain ⟨p0, p1, p2, p3, p4, p5, p6, p7⟩ := k0.out.cap (g := W.heap.size) (cu := ku) (e := ke) (b := kb) (t := kt) (pm := kp) (ty := ky) (rs := kr) (va := kv) (by simp [Cp.C])
  have hWd := Lib.hid (hWi.out d fd.out)
  obtain ⟨cu, e, b, t, pm, ty, rs, va⟩ := d
  have hfin : ∀ (b0 : Bool), b0 = (va && C.inn ⟨cu, e, b, t, pm, ty, rs, va⟩) → (b0 = true ∨ (∃ i, 0 ≤ i ∧ i < 16 ∧ (reg F i).va = true ∧ C.inn (reg F i) = true) ∨ C ∈ M) := fun b0 h => by
    rcases hy0.out with k | k
    · exact .inl (by rw [h]; exact k)
    · exact .inr k
  replace hfin := Lib.hid hfin
  clear hy0
  simp only at hWd
  generalize C.inn ⟨cu, e, b, t, pm, ty, rs, va⟩ = bi at *
  cases va
  case' false =>
    have k1 := Lib.hid k0.out
    have hb := Lib.hid (hfin.out false rfl)
    go_wp2_with fail
    clear c0 c1 c2 c3 c4 c5 c6 c7 p0 p1 p2 p3 p4 p5 p6 p7
  case' true =>
    go_wp2_with fail
    refine (hWd.out w1).mono ?_
    rintro ee w2 ⟨rfl, g⟩
    have k1 := Lib.hid (k0.out.below g)
    have hb := Lib.hid (hfin.out bi (by simp))
    clear g c0 c1 c2 c3 c4 c5 c6 c7 p0 p1 p2 p3 p4 p5 p6 p7
    go_wp2_with fail
  all_goals
    clear k0 hfin hWd
    go_loopw [7, 8] (fun s i wr => ∃ (j : Nat) (b : Bool), j ≤ 16 ∧ s = .bool b ∧ i = .int .i64 j ∧ Hid (KR W [⟨q, fC M⟩, ⟨W.heap.size + 1, fC F⟩, ⟨W.heap.size, Cp.C ⟨ku, ke, kb, kt, kp, ky, kr, kv⟩⟩] wr ∧ (b = true ∨ (∃ i, j ≤ i ∧ i < 16 ∧ (reg F i).va = true ∧ C.inn (reg F i) = true) ∨ C ∈ M))) (fun _ i _ => 17 - (intOf i).toNat)
    case atStart => exact ⟨0, _, by omega, rfl, rfl, Lib.hid ⟨k1.out, hb.out⟩⟩
    case round =>
      obtain ⟨j, b, hj, rfl, rfl, hJ⟩ := hrel
      have kI := Lib.hid hJ.out.1
      have hI := Lib.hid hJ.out.2
      clear hJ k1 hb
      by_cases hlt : j < 16
      · have jl : (j : Int) < 16 := by omega
        obtain ⟨S, hS0⟩ : ∃ S : World → Prop, S = fun w => KR W [⟨q, fC M⟩, ⟨W.heap.size + 1, fC F⟩, ⟨W.heap.size, Cp.C ⟨ku, ke, kb, kt, kp, ky, kr, kv⟩⟩] w := ⟨_, rfl⟩
        have hK : ∀ w, S w → KR W [⟨q, fC M⟩, ⟨W.heap.size + 1, fC F⟩, ⟨W.heap.size, Cp.C ⟨ku, ke, kb, kt, kp, ky, kr, kv⟩⟩] w := fun w h => by rw [hS0] at h; exact h
        have hS : ∀ u v, S u → Below u.heap.size u v → S v := fun u v h k => by rw [hS0] at h ⊢; exact h.below k
        have s0 : S wr := by rw [hS0]; exact kI.out
        clear hS0
        obtain ⟨p0, p1, p2, p3, p4, p5, p6, p7⟩ := cls_cap (S := S) (bx := W.heap.size) (cu := ku) (e := ke) (b := kb) (t := kt) (pm := kp) (ty := ky) (rs := kr) (va := kv) (fun w h => (hK w h).cap (by simp [Cp.C]))
        have hget := Lib.hid (reg_get (F := F) (i := j) (by omega))
        have fd := Lib.hid (hF'.out.reg j)
        obtain ⟨d, hd⟩ : ∃ d, d = reg F j := ⟨_, rfl⟩
        have hnx := Lib.hid (fun (b' : Bool) (h : b' = (b || (d.va && C.inn d))) => (show b' = true ∨ (∃ i, j + 1 ≤ i ∧ i < 16 ∧ (reg F i).va = true ∧ C.inn (reg F i) = true) ∨ C ∈ M from by
          rcases hI.out with k | ⟨i, k1, k2, k3, k4⟩ | k
          · exact .inl (by rw [h, k]; rfl)
          · rcases Nat.eq_or_lt_of_le k1 with e | e
            · subst e
              rw [← hd] at k3 k4
              exact .inl (by rw [h, k3, k4]; simp)
            · exact .inr (.inl ⟨i, e, k2, k3, k4⟩)
          · exact .inr (.inr k)))
        rw [← hd] at hget fd
        clear hd hI
        have hWd := Lib.hid (hWi.out d fd.out)
        have gg : ∀ (k : Nat) (u : Value), d.C[k]? = some u → ∀ y : Wd S, y.w.cell? ⟨W.heap.size + 1, j * 8 + k, none⟩ = some u := fun k u hu y => (hK _ y.h).cell (fC F) (by simp) (fC_at' F j d hget.out k u hu)
        obtain ⟨cu, e, b0, t, pm, ty, rs, va⟩ := d
        have c0 : ∀ y : Wd S, y.w.cell? ⟨W.heap.size + 1, j * 8, none⟩ = some (.int .u32 cu) := gg 0 _ rfl
        have c1 := gg 1 _ rfl
        have c2 := gg 2 _ rfl
        have c3 := gg 3 _ rfl
        have c4 := gg 4 _ rfl
        have c5 := gg 5 _ rfl
        have c6 := gg 6 _ rfl
        have c7 := gg 7 _ rfl
        clear gg
        simp only at hWd
        generalize C.inn ⟨cu, e, b0, t, pm, ty, rs, va⟩ = bi at *
        have cW := Lib.hid (cls_call (S := S) fun w hw => (hWd.out w).mono fun ee w' k => (⟨k.1, hS _ _ hw k.2⟩ : _ ∧ S w'))
        have HS := Lib.hid hS
        have HK := Lib.hid hK
        clear hK hS kI hWd
        have hund : undef = Value.tuple #[] := rfl
        cases b
        · cases va
          all_goals
            go_wp2_with fail
            refine region_cls S (by kernel_rfl) (by kernel_rfl) (HS.out _ _ s0 (Below.refl _ _).drew) ?_
            repeat (first
              | go_big_quiet_skip
              | (go_big_quiet_want
                 go_big_quiet_op
                 first
                 | go_big_quiet_on
                 | (apply Exists.intro
                    refine ⟨fun y => ?_, ?_⟩
                    · first | exact rfl | with_reducible exact cW.out y | exact cW.out y
                    go_big_quiet_on)))

            refine wpQuiet_nil ?_
            intro y
            have kz := Lib.hid (HK.out _ y.h)
            generalize y.w = wz at kz ⊢
            clear y cW HS HK p0 p1 p2 p3 p4 p5 p6 p7 c0 c1 c2 c3 c4 c5 c6 c7 s0
            go_wp2_with fail
            go_roundw
            case rel => (repeat apply Exists.intro); exact ⟨⟨j + 1, _, by omega, rfl, by go_num, Lib.hid ⟨kz.out, hnx.out _ (by simp)⟩⟩, rfl⟩
            case measure => simp [intOf]; omega
        · go_wp2_with fail
          refine region_cls S (by kernel_rfl) (by kernel_rfl) (HS.out _ _ s0 (Below.refl _ _).drew) ?_
          repeat (first
            | go_big_quiet_skip
            | (go_big_quiet_want
               go_big_quiet_op
               first
               | go_big_quiet_on
               | (apply Exists.intro
                  refine ⟨fun y => ?_, ?_⟩
                  · first | exact rfl | with_reducible exact cW.out y | exact cW.out y
                  go_big_quiet_on)))

          refine wpQuiet_nil ?_
          intro y
          have kz := Lib.hid (HK.out _ y.h)
          generalize y.w = wz at kz ⊢
          clear y cW HS HK p0 p1 p2 p3 p4 p5 p6 p7 c0 c1 c2 c3 c4 c5 c6 c7 s0
          go_wp2_with fail
          go_roundw
          case rel => (repeat apply Exists.intro); exact ⟨⟨j + 1, _, by omega, rfl, by go_num, Lib.hid ⟨kz.out, hnx.out _ (by simp)⟩⟩, rfl⟩
          case measure => simp [intOf]; omega
      · obtain rfl : j = 16 := by omega
        have hb2 := Lib.hid (show b = true ∨ ∃ i, 0 ≤ i ∧ M[i]? = some C from by
          rcases hI.out with k | ⟨i, k1, k2, _⟩ | k
          · exact .inl k
          · omega
          · obtain ⟨i, h1, h2⟩ := List.mem_iff_getElem.1 k
            exact .inr ⟨i, Nat.zero_le _, by rw [List.getElem?_eq_getElem h1, h2]⟩)
        clear hI
        go_wp2_with fail
        go_loopw [7, 9] (fun s i wr => ∃ (j : Nat) (b : Bool), j ≤ n ∧ s = .bool b ∧ i = .int .i64 j ∧ Hid (KR W [⟨q, fC M⟩, ⟨W.heap.size + 1, fC F⟩, ⟨W.heap.size, Cp.C ⟨ku, ke, kb, kt, kp, ky, kr, kv⟩⟩] wr ∧ (b = true ∨ ∃ i, j ≤ i ∧ M[i]? = some C))) (fun _ i _ => n + 1 - (intOf i).toNat)
        case atStart => exact ⟨0, b, by omega, rfl, rfl, Lib.hid ⟨kI.out, hb2.out⟩⟩
        case round =>
          obtain ⟨j, b, hj2, rfl, rfl, hJ⟩ := hrel
          have kI := Lib.hid hJ.out.1
          have hI := Lib.hid hJ.out.2
          clear hJ hb2
          have jn : (j : Int) ≤ n := by omega
          by_cases hlt2 : j < n
          · have jl : (j : Int) < n := by omega
            obtain rfl := hA'.out (by omega)
            obtain ⟨S, hS0⟩ : ∃ S : World → Prop, S = fun w => KR W [⟨q, fC M⟩, ⟨W.heap.size + 1, fC F⟩, ⟨W.heap.size, Cp.C ⟨ku, ke, kb, kt, kp, ky, kr, kv⟩⟩] w := ⟨_, rfl⟩
            have hK : ∀ w, S w → KR W [⟨q, fC M⟩, ⟨W.heap.size + 1, fC F⟩, ⟨W.heap.size, Cp.C ⟨ku, ke, kb, kt, kp, ky, kr, kv⟩⟩] w := fun w h => by rw [hS0] at h; exact h
            have hS : ∀ u v, S u → Below u.heap.size u v → S v := fun u v h k => by rw [hS0] at h ⊢; exact h.below k
            have s0 : S wr := by rw [hS0]; exact kI.out
            clear hS0
            obtain ⟨p0, p1, p2, p3, p4, p5, p6, p7⟩ := cls_cap (S := S) (bx := W.heap.size) (cu := ku) (e := ke) (b := kb) (t := kt) (pm := kp) (ty := ky) (rs := kr) (va := kv) (fun w h => (hK w h).cap (by simp [Cp.C]))
            have hj2 : j < M.length := by have := hn'.out; omega
            obtain ⟨m, hm⟩ : ∃ m, m = M[j] := ⟨_, rfl⟩
            have hgm := Lib.hid (show M[j]? = some m from by rw [hm, List.getElem?_eq_getElem hj2])
            have gg : ∀ (k : Nat) (u : Value), m.C[k]? = some u → ∀ y : Wd S, y.w.cell? ⟨q, j * 8 + k, none⟩ = some u := fun k u hu y => (hK _ y.h).cell (fC M) (by simp) (fC_at' M j m hgm.out k u hu)
            clear hm
            obtain ⟨cu, e, b0, t, pm, ty, rs, va⟩ := m
            have c0 : ∀ y : Wd S, y.w.cell? ⟨q, j * 8, none⟩ = some (.int .u32 cu) := gg 0 _ rfl
            have c1 := gg 1 _ rfl
            have c2 := gg 2 _ rfl
            have c3 := gg 3 _ rfl
            have c4 := gg 4 _ rfl
            have c5 := gg 5 _ rfl
            have c6 := gg 6 _ rfl
            have c7 := gg 7 _ rfl
            clear gg
            have hEq := fun w => cap_eq cu e b0 t pm ty rs va ku ke kb kt kp ky kr kv w
            obtain ⟨r, hr⟩ : ∃ r : Bool, r = (((cu : Int) == ku) && (((e : Int) == ke) && (((b0 : Int) == kb) && (((t : Int) == kt) && (((pm : Int) == kp) && (((ty : Int) == ky) && (((rs : Int) == kr) && ((va == kv) && true)))))))) := ⟨_, rfl⟩
            rw [← hr] at hEq
            have hnx := Lib.hid (fun (b' : Bool) (h : b' = (b || r)) => (show b' = true ∨ (∃ i, j + 1 ≤ i ∧ M[i]? = some C) from by
              rcases hI.out with k | ⟨i, k1, k2⟩
              · exact .inl (by rw [h, k]; rfl)
              · rcases Nat.eq_or_lt_of_le k1 with e' | e'
                · subst e'
                  rw [hgm.out, hC'.out] at k2
                  injection k2 with k2
                  injection k2 with e0 e1 e2 e3 e4 e5 e6 e7
                  subst e0 e1 e2 e3 e4 e5 e6 e7
                  exact .inl (by rw [h, hr]; simp)
                · exact .inr ⟨i, e', k2⟩))
            clear hr hI
            have HS := Lib.hid hS
            have HK := Lib.hid hK
            clear hK hS kI
            have hund : undef = Value.tuple #[] := rfl
            cases b
            all_goals
              go_wp2_with fail
              refine region_cls S (by kernel_rfl) (by kernel_rfl) (HS.out _ _ s0 (Below.refl _ _).drew) ?_
              repeat (first
                | go_big_quiet_skip
                | (go_big_quiet_want
                   go_big_quiet_op
                   first
                   | go_big_quiet_on
                   | (apply Exists.intro
                      refine ⟨fun y => ?_, ?_⟩
                      · first | exact rfl
                      go_big_quiet_on)))

              refine wpQuiet_nil ?_
              intro y
              have kz := Lib.hid (HK.out _ y.h)
              generalize y.w = wz at kz ⊢
              clear y HS HK p0 p1 p2 p3 p4 p5 p6 p7 c0 c1 c2 c3 c4 c5 c6 c7 s0 hEq
              go_wp2_with fail
              go_roundw
              case rel => (repeat apply Exists.intro); exact ⟨⟨j + 1, _, by omega, rfl, by go_num, Lib.hid ⟨kz.out, hnx.out _ (by simp)⟩⟩, rfl⟩
              case measure => simp [intOf]; omega
          · obtain rfl : j = n := by omega
            obtain rfl : b = true := by
              rcases hI.out with k | ⟨i, k1, k2⟩
              · exact k
              · have := (List.getElem?_eq_some_iff.1 k2).1
                have := hn'.out
                omega
            go_wp2_with fail
            go_ret
            exact ⟨rfl, kI.out.bl⟩
end Go.Proofs.YtkmgdfcambdeeaaGreatDoor
