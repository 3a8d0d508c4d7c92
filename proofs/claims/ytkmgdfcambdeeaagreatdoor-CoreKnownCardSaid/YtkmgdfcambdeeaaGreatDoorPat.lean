/- Contracts of layer core: further, Next, there, trap. No statement is proved here.; The chapter's frame (layer core). No statement is proved here. -/
import Derived.Test.YtkmgdfcambdeeaaGreatDoorPaf
import Derived.Test.YtkmgdfcambdeeaaGreatDoorPai
import Derived.Test.YtkmgdfcambdeeaaGreatDoorPah
import Derived.Test.YtkmgdfcambdeeaaGreatDoorPas
import Derived.Test.YtkmgdfcambdeeaaGreatDoorPao
import Derived.Test.YtkmgdfcambdeeaaGreatDoorPan
namespace Go.Proofs.YtkmgdfcambdeeaaGreatDoor
set_option maxRecDepth 100000
open Go.RowKit
set_option linter.unusedVariables false
theorem pAddr_cp (c : Cp) (h : c.fit) (n : Nat) (ln : n < 4294967296) (W : World) : Calls Tryz.prog 90 #[c.V, .int .u32 n] W fun ee w' => ee = .returned (cAddr c n).V ∧ Below W.heap.size W w' :=
  pAddr_any c.cu c.e c.b c.t c.pm c.ty c.rs c.va n h.l0 h.l1 h.l2 h.l3 h.l4 h.l5 h.l6 ln W
theorem pHolds_cp (c : Cp) (h : c.fit) (a n : Nat) (la : a < 4294967296) (ln : n < 4294967296) (W : World) : Calls Tryz.prog 82 #[c.V, .agg #[.int .u32 a, .int .u32 n]] W fun ee w' => ee = .returned (.bool (hoP c.lo c.hi a n)) ∧ Below W.heap.size W w' :=
  pHolds_any c.cu c.e c.b c.t c.pm c.ty c.rs c.va a n h.l0 h.l1 h.l2 h.l3 h.l4 h.l5 h.l6 la ln W
/-- A capability, so many words further. -/
def furC (c : Cp) (n : Int) : Cp := cAddr c ((((c.cu : Int) + 4 * (n % 4294967296) % 4294967296) % 4294967296)).toNat
theorem fur_eq (F : List Cp) (n : Int) : fur F n = furC (reg F 16) n := rfl
theorem start_cc (c : Cp) (W : World) : KR W [⟨W.heap.size + 1, zC.C⟩, ⟨W.heap.size, c.C⟩] ((W.alloc (.cells c.C.toArray 25)).alloc (.cells zC.C.toArray 25)) := by
  have := ((KR.start (W := W)).push c.C 25).push zC.C 25
  simp only [World.size_alloc] at this
  exact this
theorem pfur_any (c : Cp) (h : c.fit) (n : Int) (W : World) : Calls Tryz.prog 43 #[c.V, .int .i64 n] W fun e w' => e = .returned (furC c n).V ∧ Below W.heap.size W w' := by
  obtain ⟨N, hN, hN4⟩ : ∃ N : Nat, (((c.cu : Int) + n % 4294967296 * 4 % 4294967296) % 4294967296) = (N : Int) ∧ N < 4294967296 := ⟨(((c.cu : Int) + n % 4294967296 * 4 % 4294967296) % 4294967296).toNat, by omega, by omega⟩
  have hA := Lib.hid (fun w => pAddr_cp c h N hN4 w)
  have he : cAddr c N = furC c n := by unfold furC; rw [show ((((c.cu : Int) + 4 * (n % 4294967296) % 4294967296) % 4294967296)).toNat = N from by omega]
  rw [he] at hA
  obtain ⟨d, hd⟩ : ∃ d, d = furC c n := ⟨_, rfl⟩
  rw [← hd] at hA ⊢
  clear he hN4 hd h
  have k0 := Lib.hid (start_cc c W)
  change Calls Tryz.prog 43 #[.agg #[.int .u32 c.cu, .int .u8 c.e, .int .u16 c.b, .int .u16 c.t, .int .u16 c.pm, .int .u16 c.ty, .int .u32 c.rs, .bool c.va], .int .i64 n] W _
  go_enter Tryz.func43, Tryz.ntmps43
  go_wp2_with fail
  refine (hA.out _).mono ?_
  rintro ee w2 ⟨rfl, h1⟩
  have hk1 := k0.out.below h1
  clear h1 k0 hA
  have r := hk1.there (g := W.heap.size + 1) (vs := zC.C) (by simp) 0 8 (by decide)
  have s1 := size_ca d
  have o1 := one_cp d
  have hf := Lib.hid ((hk1.sub (L' := [⟨W.heap.size + 1, zC.C⟩]) (by simp)).putA d.C (by simp) (by simp) rfl)
  clear hk1
  go_wp2_with ((with_reducible show wpList _ _ _ _ _ _); refine wpList_store_mid rfl 25 _ _ rfl (W.heap.size + 1) 0 d.C.toArray rfl rfl r s1 o1 ?_; clear r s1 o1; change wpList _ _ _ _ _ (w2.setCells (W.heap.size + 1) 0 d.C); generalize w2.setCells (W.heap.size + 1) 0 d.C = wf at hf ⊢)
  exact bodyPost_ret (v := d.V) (res_one Tryz.results43 rfl (load_cp hf.out (List.mem_cons_self ..))) rfl ⟨rfl, hf.out.bl⟩
set_option maxHeartbeats 1000000 in
theorem pNext_any (F : List Cp) (hF : Fit F) (W : World) : Calls Tryz.prog 18 #[fV F] W fun e w' => e = .returned (fV (nxt F)) ∧ Below W.heap.size W w' := by
  have k0 := Lib.hid (start_ff F W)
  have hA := Lib.hid (fun w => pfur_any (reg F 16) (hF.reg 16) 1 w)
  have ga := reg_get (F := F) (i := 16) (by rw [hF.len]; decide)
  have hn0 := Lib.hid (show nxt F = F.set 16 (furC (reg F 16) 1) from rfl)
  obtain ⟨d, hd⟩ : ∃ d, d = furC (reg F 16) 1 := ⟨_, rfl⟩
  rw [← hd] at hA hn0
  clear hd
  generalize reg F 16 = c at *
  have sz := size_fr hF.len
  replace ga := Lib.hid ga
  unfold fV
  go_enter Tryz.func18, Tryz.ntmps18
  go_upto_region 1 with (fail)
  generalize ((W.alloc (.cells (fC F).toArray 28)).alloc _) = w1 at k0 ⊢
  obtain ⟨p0, p1, p2, p3, p4, p5, p6, p7⟩ := k0.out.reg (g := W.heap.size) (F := F) (by simp) ga.out
  simp only [Nat.reduceMul, Nat.reduceAdd] at p0 p1 p2 p3 p4 p5 p6 p7
  go_wp2_with fail
  refine (hA.out _).mono ?_
  rintro ee w2 ⟨rfl, h1⟩
  have hk1 := (k0.out.below h1).swap
  clear h1 k0 hA p0 p1 p2 p3 p4 p5 p6 p7
  have th := hk1.there (g := W.heap.size) (vs := fC F) (by simp) 128 8 (by rw [fC_len, hF.len]; decide)
  have hk2 := Lib.hid (hk1.putF (by simp) (by simp <;> omega) 16 d (by rw [hF.len]; decide))
  clear hk1
  have s1 := size_ca d
  have o1 := one_cp d
  go_upto_region 2 with (refine wpList_store_mid rfl 25 _ _ rfl W.heap.size 128 d.C.toArray rfl rfl th s1 o1 ?_)
  change Code.wp _ _ _ _ (w2.setCells W.heap.size (16 * 8) d.C)
  clear th s1 o1 sz
  generalize w2.setCells W.heap.size (16 * 8) d.C = w3 at hk2 ⊢
  rw [← hn0.out] at hk2
  have hN : (nxt F).length = 17 := by unfold nxt; rw [List.length_set]; exact hF.len
  have sz := size_fr hN
  have sa := size_fa hN
  have o2 := one_fr (nxt F)
  have rg := hk2.out.range (g := W.heap.size) (vs := fC (nxt F)) (by simp)
  have hk3 := hk2.out.swap
  have th := hk3.there (g := W.heap.size + 1) (vs := fC zF) (by simp) 0 136 (by rw [fC_len]; decide)
  have hk4 := Lib.hid (hk3.putA (fC (nxt F)) (by simp) (by simp) (by rw [fC_len, fC_len, hN]; rfl))
  have th' : w3.there (W.heap.size + 1) 0 (fC (nxt F)).toArray.size := by rw [show (fC (nxt F)).toArray.size = 136 from by rw [List.size_toArray, fC_len, hN]]; exact th
  clear hk3 hk2 th
  go_wp2_with (first | (refine wpList_load_mid rfl 28 _ rfl W.heap.size 0 rfl (fC (nxt F)) _ rg Tryz.underlying28 rfl sz ?_) | (refine wpList_store_mid rfl 28 _ _ rfl (W.heap.size + 1) 0 (fC (nxt F)).toArray rfl rfl th' sa o2 ?_))
  clear rg th' sz sa o2
  generalize w3.setCells (W.heap.size + 1) 0 (fC (nxt F)) = w4 at hk4 ⊢
  have ld := load_fr hk4.out (g := W.heap.size + 1) (List.mem_cons_self ..) hN
  refine bodyPost_ret (v := fV (nxt F)) ?_ rfl ⟨rfl, hk4.out.bl⟩
  exact res_one Tryz.results18 rfl ld
end Go.Proofs.YtkmgdfcambdeeaaGreatDoor
namespace Go.Proofs.YtkmgdfcambdeeaaGreatDoor
set_option maxRecDepth 100000
open Go.RowKit
set_option linter.unusedVariables false
/-- The chapter's capabilities: c1, and Pc; its frame. -/
def c1C : Cp := ⟨256, 0, 256, 320, 27, 0, 0, true⟩
def p0C : Cp := ⟨0, 0, 0, 64, 5, 0, 0, true⟩
def frL : List Cp := (zF.set 1 c1C).set 16 p0C
theorem c1C_fit : c1C.fit := ⟨by decide, by decide, by decide, by decide, by decide, by decide, by decide⟩
theorem p0C_fit : p0C.fit := ⟨by decide, by decide, by decide, by decide, by decide, by decide, by decide⟩
theorem zC_fit : zC.fit := ⟨by decide, by decide, by decide, by decide, by decide, by decide, by decide⟩
theorem zF_fit : Fit zF := ⟨rfl, fun c hc => by rw [List.eq_of_mem_replicate hc]; exact zC_fit⟩
theorem frL_fit : Fit frL := (zF_fit.set 1 c1C_fit).set 16 p0C_fit
theorem mk1 (w : World) : Calls Tryz.prog 68 #[.agg #[.int .u32 256, .int .u32 64], .int .u16 27] w fun ee w' => ee = .returned (.tuple #[c1C.V, .bool true]) ∧ Below w.heap.size w w' :=
  (pMake_yes 256 64 27 (by decide) (by decide) (by decide) (by decide +kernel) w).mono fun ee w' h => ⟨h.1.trans (by kernel_rfl), h.2⟩
theorem mk0 (w : World) : Calls Tryz.prog 68 #[.agg #[.int .u32 0, .int .u32 64], .int .u16 5] w fun ee w' => ee = .returned (.tuple #[p0C.V, .bool true]) ∧ Below w.heap.size w w' :=
  (pMake_yes 0 64 5 (by decide) (by decide) (by decide) (by decide +kernel) w).mono fun ee w' h => ⟨h.1.trans (by kernel_rfl), h.2⟩
theorem start_zz (W : World) : KR W [⟨W.heap.size + 1, fC zF⟩, ⟨W.heap.size, fC zF⟩] ((W.alloc (.cells Tryz.zeroCells28 28)).alloc (.cells Tryz.zeroCells28 28)) := by
  have := ((KR.start (W := W)).push (fC zF) 28).push (fC zF) 28
  rw [show (W.alloc (Obj.cells (fC zF).toArray 28)).heap.size = W.heap.size + 1 from by simp, ← zero_fr] at this
  exact this
set_option maxHeartbeats 2000000 in
theorem frame_any (W : World) : Calls Tryz.prog 27 #[] W fun e w' => e = .returned (fV frL) ∧ Below W.heap.size W w' := by
  have k0 := Lib.hid (start_zz W)
  have h1 := Lib.hid mk1
  have h0 := Lib.hid mk0
  obtain ⟨c, hc⟩ : ∃ c, c = c1C := ⟨_, rfl⟩
  obtain ⟨p, hp⟩ : ∃ c, c = p0C := ⟨_, rfl⟩
  obtain ⟨R, hR⟩ : ∃ R, R = frL := ⟨_, rfl⟩
  have hRv := Lib.hid (show R = (zF.set 1 c).set 16 p from by rw [hR, hc, hp]; rfl)
  rw [← hc] at h1
  rw [← hp] at h0
  rw [← hR]
  clear hc hp hR
  go_enter Tryz.func27, Tryz.ntmps27
  go_upto_region 2 with (fail)
  generalize ((W.alloc _).alloc _) = w1 at k0 ⊢
  go_wp2_with fail
  refine (h1.out _).mono ?_
  rintro ee w2 ⟨rfl, g1⟩
  have k1 := k0.out.below g1
  have th := k1.there (g := W.heap.size + 1) (vs := fC zF) (List.mem_cons_self ..) 8 8 (by rw [fC_len]; decide)
  have k2 := Lib.hid (k1.putF (by simp) (by simp) 1 c (by decide))
  have s1 := size_ca c
  have o1 := one_cp c
  clear g1 k0 k1 h1
  go_wp2_with ((with_reducible show wpList _ _ _ _ _ _); refine wpList_store_mid rfl 25 _ _ rfl (W.heap.size + 1) 8 c.C.toArray rfl rfl th s1 o1 ?_; clear th s1 o1; change wpList _ _ _ _ _ (w2.setCells (W.heap.size + 1) (1 * 8) c.C); generalize w2.setCells (W.heap.size + 1) (1 * 8) c.C = w3 at k2 ⊢)
  refine (h0.out _).mono ?_
  rintro ee w4 ⟨rfl, g1⟩
  have k3 := k2.out.below g1
  obtain ⟨Y, hY⟩ : ∃ Y, Y = zF.set 1 c := ⟨_, rfl⟩
  have hYl : Y.length = 17 := by rw [hY, List.length_set]; rfl
  rw [← hY] at k3
  have th := k3.there (g := W.heap.size + 1) (vs := fC Y) (List.mem_cons_self ..) 128 8 (by rw [fC_len, hYl]; decide)
  have k4 := Lib.hid (k3.putF (by simp) (by simp) 16 p (by rw [hYl]; decide))
  have s1 := size_ca p
  have o1 := one_cp p
  obtain ⟨Z, hZ⟩ : ∃ Z, Z = Y.set 16 p := ⟨_, rfl⟩
  have hZl : Z.length = 17 := by rw [hZ, List.length_set]; exact hYl
  rw [← hZ] at k4
  have hZR := Lib.hid (show Z = R from by rw [hZ, hY, hRv.out])
  have sz := size_fr hZl
  have sa := size_fa hZl
  have oZ := one_fr Z
  clear g1 k2 k3 h0 hY hZ
  go_wp2_with ((with_reducible show wpList _ _ _ _ _ _); first | (refine wpList_store_mid rfl 25 _ _ rfl (W.heap.size + 1) 128 p.C.toArray rfl rfl th s1 o1 ?_; clear th s1 o1; change wpList _ _ _ _ _ (w4.setCells (W.heap.size + 1) (16 * 8) p.C); generalize w4.setCells (W.heap.size + 1) (16 * 8) p.C = w5 at k4 ⊢; have rg := k4.out.range (g := W.heap.size + 1) (vs := fC Z) (List.mem_cons_self ..); have th' : w5.there W.heap.size 0 (fC Z).toArray.size := (by rw [show (fC Z).toArray.size = 136 from by rw [List.size_toArray, fC_len, hZl]]; exact k4.out.there (g := W.heap.size) (vs := fC zF) (by simp) 0 136 (by rw [fC_len]; decide)); have k9 := Lib.hid ((k4.out.sub (L' := [⟨W.heap.size, fC zF⟩]) (by simp)).putA (fC Z) (by simp) (by simp) (by rw [fC_len, fC_len, hZl]; rfl))) | (refine wpList_load_mid rfl 28 _ rfl (W.heap.size + 1) 0 rfl (fC Z) _ rg Tryz.underlying28 rfl sz ?_) | (refine wpList_store_mid rfl 28 _ _ rfl W.heap.size 0 (fC Z).toArray rfl rfl th' sa oZ ?_; clear th' rg sa oZ sz; change wpList _ _ _ _ _ (w5.setCells W.heap.size 0 (fC Z)); generalize w5.setCells W.heap.size 0 (fC Z) = wf at k9 ⊢))
  exact bodyPost_ret (v := fV Z) (res_one Tryz.results27 rfl (load_fr k9.out (List.mem_cons_self ..) hZl)) rfl ⟨by rw [hZR.out], k9.out.bl⟩
end Go.Proofs.YtkmgdfcambdeeaaGreatDoor
