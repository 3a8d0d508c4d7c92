/- Contracts of derive's And, Set, Exact, Seal, Open, Build. No statement is proved here.; Contracts of derive's And, Set, Exact, Seal, Open, Build. No statement is proved here. -/
import Derived.Test.YtkmgdfcambdeeaaGreatDoorPam
namespace Go.Proofs.YtkmgdfcambdeeaaGreatDoor
open Go.RowKit
set_option linter.unusedVariables false

theorem pretype_any (cu e b t pm ty rs : Nat) (va : Bool) (kind : Nat) (q : Value) (z : Bool) (W : World) (hq : Ques W q z) :
    Calls Tryz.prog 195 #[.agg #[.int .u32 cu, .int .u8 e, .int .u16 b, .int .u16 t, .int .u16 pm, .int .u16 ty, .int .u32 rs, .bool va], .int .u32 kind, q] W fun ee w' => ee = .returned (.agg #[.int .u32 cu, .int .u8 e, .int .u16 b, .int .u16 t, .int .u16 pm, .int .u16 (if z then kind % 65536 else ty : Nat), .int .u32 rs, .bool (va && z)]) ∧ Below W.heap.size W w' := by
  cases z
  · refine (pretype_no cu e b t pm ty rs va kind q W hq).mono ?_
    rintro ee w' ⟨rfl, h⟩
    exact ⟨by simp, h⟩
  · refine (pretype_yes cu e b t pm ty rs va kind q W hq).mono ?_
    rintro ee w' ⟨rfl, h⟩
    exact ⟨by simp, h⟩

set_option maxHeartbeats 4000000 in
theorem pAnd_any (cu e b t pm ty rs : Nat) (va : Bool) (v : Nat) (l4 : pm < 65536) (W : World) :
    Calls Tryz.prog 147 #[.agg #[.int .u32 cu, .int .u8 e, .int .u16 b, .int .u16 t, .int .u16 pm, .int .u16 ty, .int .u32 rs, .bool va], .int .u32 v] W fun ee w' => ee = .returned (.agg #[.int .u32 cu, .int .u8 e, .int .u16 b, .int .u16 t, .int .u16 (pm &&& (v % 65536) : Nat), .int .u16 ty, .int .u32 rs, .bool (va && decide (ty = 0))]) ∧ Below W.heap.size W w' := by
  have cC := Lib.hid (fun w => pchange_any _ v cu e b t pm ty rs va cu e b t (pm &&& (v % 65536)) ty rs va (mMask cu e b t pm ty rs va v l4) w)
  have cO := Lib.hid (fun w => pOpen_any cu e b t pm ty rs va w)
  have cM := Lib.hid (fun q bq w h => pMark_any cu e b t (pm &&& (v % 65536)) ty rs va q bq w h)
  have K : KS W (W.heap.size + 1) [⟨W.heap.size, cv cu e b t pm ty rs va⟩] ((W.alloc (.cells #[.int .u32 cu, .int .u8 e, .int .u16 b, .int .u16 t, .int .u16 pm, .int .u16 ty, .int .u32 rs, .bool va] 25)).alloc (.cells #[.int .u32 0, .int .u8 0, .int .u16 0, .int .u16 0, .int .u16 0, .int .u16 0, .int .u32 0, .bool false] 25)) := by
    have hk := ((KR.start (W := W)).push (cv cu e b t pm ty rs va) 25).push (cv 0 0 0 0 0 0 0 false) 25
    rw [World.size_alloc] at hk
    exact KS.of hk (by omega) (by simp <;> omega)
  generalize (va && decide (ty = 0)) = q at *
  generalize pm &&& (v % 65536) = x at *
  have tr : ∀ w', (w'.cell? ⟨W.heap.size, 0, none⟩ = some (.int .u32 cu) ∧ w'.cell? ⟨W.heap.size, 1, none⟩ = some (.int .u8 e) ∧ w'.cell? ⟨W.heap.size, 2, none⟩ = some (.int .u16 b) ∧ w'.cell? ⟨W.heap.size, 3, none⟩ = some (.int .u16 t) ∧ w'.cell? ⟨W.heap.size, 4, none⟩ = some (.int .u16 pm) ∧ w'.cell? ⟨W.heap.size, 5, none⟩ = some (.int .u16 ty) ∧ w'.cell? ⟨W.heap.size, 6, none⟩ = some (.int .u32 rs) ∧ w'.cell? ⟨W.heap.size, 7, none⟩ = some (.bool va) ∧ KS W (W.heap.size + 1) [⟨W.heap.size, cv cu e b t pm ty rs va⟩] w') → KS W (W.heap.size + 1) [⟨W.heap.size, cv cu e b t pm ty rs va⟩] w' := fun w h => h.2.2.2.2.2.2.2.2
  have all : ∀ w', KS W (W.heap.size + 1) [⟨W.heap.size, cv cu e b t pm ty rs va⟩] w' → (w'.cell? ⟨W.heap.size, 0, none⟩ = some (.int .u32 cu) ∧ w'.cell? ⟨W.heap.size, 1, none⟩ = some (.int .u8 e) ∧ w'.cell? ⟨W.heap.size, 2, none⟩ = some (.int .u16 b) ∧ w'.cell? ⟨W.heap.size, 3, none⟩ = some (.int .u16 t) ∧ w'.cell? ⟨W.heap.size, 4, none⟩ = some (.int .u16 pm) ∧ w'.cell? ⟨W.heap.size, 5, none⟩ = some (.int .u16 ty) ∧ w'.cell? ⟨W.heap.size, 6, none⟩ = some (.int .u32 rs) ∧ w'.cell? ⟨W.heap.size, 7, none⟩ = some (.bool va) ∧ KS W (W.heap.size + 1) [⟨W.heap.size, cv cu e b t pm ty rs va⟩] w') := fun w h => by
    have p0 : CapAt w (W.heap.size) cu e b t pm ty rs va := h.k.cap (by simp)
    exact ⟨p0.q0, p0.q1, p0.q2, p0.q3, p0.q4, p0.q5, p0.q6, p0.q7, h⟩
  replace tr := Lib.hid tr
  replace all := Lib.hid all
  replace K := Lib.hid K
  go_enter Tryz.func147, Tryz.ntmps147
  go_wp2_with fail
  generalize ((W.alloc (.cells #[.int .u32 cu, .int .u8 e, .int .u16 b, .int .u16 t, .int .u16 pm, .int .u16 ty, .int .u32 rs, .bool va] 25)).alloc (.cells #[.int .u32 0, .int .u8 0, .int .u16 0, .int .u16 0, .int .u16 0, .int .u16 0, .int .u32 0, .bool false] 25)) = W1 at *
  go_region_held3 (fun w' => w'.cell? ⟨W.heap.size, 0, none⟩ = some (.int .u32 cu) ∧ w'.cell? ⟨W.heap.size, 1, none⟩ = some (.int .u8 e) ∧ w'.cell? ⟨W.heap.size, 2, none⟩ = some (.int .u16 b) ∧ w'.cell? ⟨W.heap.size, 3, none⟩ = some (.int .u16 t) ∧ w'.cell? ⟨W.heap.size, 4, none⟩ = some (.int .u16 pm) ∧ w'.cell? ⟨W.heap.size, 5, none⟩ = some (.int .u16 ty) ∧ w'.cell? ⟨W.heap.size, 6, none⟩ = some (.int .u32 rs) ∧ w'.cell? ⟨W.heap.size, 7, none⟩ = some (.bool va) ∧ KS W (W.heap.size + 1) [⟨W.heap.size, cv cu e b t pm ty rs va⟩] w')
    (first | with_reducible exact all.out _ K.out.drew | with_reducible exact k1 | with_reducible exact all.out _ ((tr.out _ (by assumption)).alloc _) | with_reducible exact all.out _ ((tr.out _ (by assumption)).store8 _ _ _ _ _ _ _ _))
    (first
      | (go_at_call 139; ((with_reducible refine (cC.out _).mono ?_); rintro ee Z ⟨rfl, g⟩; have k1 := all.out _ ((tr.out _ (by assumption)).below g); clear g))
      | (go_at_call 142; ((with_reducible refine (cO.out _).mono ?_); rintro ee Z ⟨v_, rfl, hq, g⟩; have k1 := all.out _ ((tr.out _ (by assumption)).below g); clear g; obtain ⟨f_, c_, rfl⟩ := hq.fn; replace hq := Lib.hid hq))
      | (go_at_call 133; ((with_reducible refine (cM.out _ _ _ hq.out).mono ?_); rintro ee X ⟨rfl, g⟩; have k1 := all.out _ ((tr.out _ (by assumption)).below g); clear g; have kk := Lib.hid (tr.out _ k1); obtain ⟨v0, v1, v2, v3, v4, v5, v6, v7, r0, r1, r2, r3, r4, r5, r6, r7, fr⟩ := (tr.out _ k1).cells)))
  have hf := Lib.hid (kk.out.store cu e b t x ty rs q)
  go_wp2_with fail
  change bodyPost _ _ _ _ _ (setRow (W.heap.size + 1) 0 (cv cu e b t x ty rs q) X)
  clear r0 r1 r2 r3 r4 r5 r6 r7 fr
  generalize setRow (W.heap.size + 1) 0 (cv cu e b t x ty rs q) X = w3 at *
  obtain ⟨z0, z1, z2, z3, z4, z5, z6, z7⟩ := hf.out.cap (g := W.heap.size + 1) (List.mem_cons_self ..)
  exact bodyPost_ret (v := .agg #[.int .u32 cu, .int .u8 e, .int .u16 b, .int .u16 t, .int .u16 x, .int .u16 ty, .int .u32 rs, .bool q]) (by simp [results, Tryz.results147, go_sem, z0, z1, z2, z3, z4, z5, z6, z7]) rfl ⟨rfl, hf.out.bl⟩

set_option maxHeartbeats 4000000 in
theorem pSet_any (cu e b t pm ty rs : Nat) (va : Bool) (v : Nat) (l0 : cu < 4294967296) (l1 : e < 256) (l2 : b < 65536) (l3 : t < 65536) (l4 : pm < 65536) (l5 : ty < 65536) (l6 : rs < 4294967296) (lv : v < 4294967296) (W : World) :
    Calls Tryz.prog 145 #[.agg #[.int .u32 cu, .int .u8 e, .int .u16 b, .int .u16 t, .int .u16 pm, .int .u16 ty, .int .u32 rs, .bool va], .int .u32 v] W fun ee w' => ee = .returned (.agg #[.int .u32 cu, .int .u8 (bdE e cu v), .int .u16 (bdB b cu v), .int .u16 (bdT t cu v), .int .u16 pm, .int .u16 ty, .int .u32 rs, .bool (va && decide (ty = 0) && hdP e b t cu v)]) ∧ Below W.heap.size W w' := by
  have cC := Lib.hid (fun w => pchange_any _ v cu e b t pm ty rs va cu (bdE e cu v) (bdB b cu v) (bdT t cu v) pm ty rs va (mBound cu e b t pm ty rs va v l0 l1 l2 l3 l4 l5 l6 lv) w)
  have cO := Lib.hid (fun w => pOpen_any cu e b t pm ty rs va w)
  have cH := Lib.hid (fun w => pHolds_make cu e b t pm ty rs va v l0 l1 l2 l3 l4 l5 l6 lv w)
  have cM := Lib.hid (fun q bq w h => pMark_any cu (bdE e cu v) (bdB b cu v) (bdT t cu v) pm ty rs va q bq w h)
  have K : KS W (W.heap.size + 1) [⟨W.heap.size, cv cu e b t pm ty rs va⟩] ((W.alloc (.cells #[.int .u32 cu, .int .u8 e, .int .u16 b, .int .u16 t, .int .u16 pm, .int .u16 ty, .int .u32 rs, .bool va] 25)).alloc (.cells #[.int .u32 0, .int .u8 0, .int .u16 0, .int .u16 0, .int .u16 0, .int .u16 0, .int .u32 0, .bool false] 25)) := by
    have hk := ((KR.start (W := W)).push (cv cu e b t pm ty rs va) 25).push (cv 0 0 0 0 0 0 0 false) 25
    rw [World.size_alloc] at hk
    exact KS.of hk (by omega) (by simp <;> omega)
  generalize (va && decide (ty = 0)) = q at *
  generalize hdP e b t cu v = z at *
  generalize bdE e cu v = e2 at *
  generalize bdB b cu v = b2 at *
  generalize bdT t cu v = t2 at *
  have tr : ∀ w', (w'.cell? ⟨W.heap.size, 0, none⟩ = some (.int .u32 cu) ∧ w'.cell? ⟨W.heap.size, 1, none⟩ = some (.int .u8 e) ∧ w'.cell? ⟨W.heap.size, 2, none⟩ = some (.int .u16 b) ∧ w'.cell? ⟨W.heap.size, 3, none⟩ = some (.int .u16 t) ∧ w'.cell? ⟨W.heap.size, 4, none⟩ = some (.int .u16 pm) ∧ w'.cell? ⟨W.heap.size, 5, none⟩ = some (.int .u16 ty) ∧ w'.cell? ⟨W.heap.size, 6, none⟩ = some (.int .u32 rs) ∧ w'.cell? ⟨W.heap.size, 7, none⟩ = some (.bool va) ∧ KS W (W.heap.size + 1) [⟨W.heap.size, cv cu e b t pm ty rs va⟩] w') → KS W (W.heap.size + 1) [⟨W.heap.size, cv cu e b t pm ty rs va⟩] w' := fun w h => h.2.2.2.2.2.2.2.2
  have all : ∀ w', KS W (W.heap.size + 1) [⟨W.heap.size, cv cu e b t pm ty rs va⟩] w' → (w'.cell? ⟨W.heap.size, 0, none⟩ = some (.int .u32 cu) ∧ w'.cell? ⟨W.heap.size, 1, none⟩ = some (.int .u8 e) ∧ w'.cell? ⟨W.heap.size, 2, none⟩ = some (.int .u16 b) ∧ w'.cell? ⟨W.heap.size, 3, none⟩ = some (.int .u16 t) ∧ w'.cell? ⟨W.heap.size, 4, none⟩ = some (.int .u16 pm) ∧ w'.cell? ⟨W.heap.size, 5, none⟩ = some (.int .u16 ty) ∧ w'.cell? ⟨W.heap.size, 6, none⟩ = some (.int .u32 rs) ∧ w'.cell? ⟨W.heap.size, 7, none⟩ = some (.bool va) ∧ KS W (W.heap.size + 1) [⟨W.heap.size, cv cu e b t pm ty rs va⟩] w') := fun w h => by
    have p0 : CapAt w (W.heap.size) cu e b t pm ty rs va := h.k.cap (by simp)
    exact ⟨p0.q0, p0.q1, p0.q2, p0.q3, p0.q4, p0.q5, p0.q6, p0.q7, h⟩
  replace tr := Lib.hid tr
  replace all := Lib.hid all
  replace K := Lib.hid K
  go_enter Tryz.func145, Tryz.ntmps145
  go_wp2_with fail
  generalize ((W.alloc (.cells #[.int .u32 cu, .int .u8 e, .int .u16 b, .int .u16 t, .int .u16 pm, .int .u16 ty, .int .u32 rs, .bool va] 25)).alloc (.cells #[.int .u32 0, .int .u8 0, .int .u16 0, .int .u16 0, .int .u16 0, .int .u16 0, .int .u32 0, .bool false] 25)) = W1 at *
  go_region_held3 (fun w' => w'.cell? ⟨W.heap.size, 0, none⟩ = some (.int .u32 cu) ∧ w'.cell? ⟨W.heap.size, 1, none⟩ = some (.int .u8 e) ∧ w'.cell? ⟨W.heap.size, 2, none⟩ = some (.int .u16 b) ∧ w'.cell? ⟨W.heap.size, 3, none⟩ = some (.int .u16 t) ∧ w'.cell? ⟨W.heap.size, 4, none⟩ = some (.int .u16 pm) ∧ w'.cell? ⟨W.heap.size, 5, none⟩ = some (.int .u16 ty) ∧ w'.cell? ⟨W.heap.size, 6, none⟩ = some (.int .u32 rs) ∧ w'.cell? ⟨W.heap.size, 7, none⟩ = some (.bool va) ∧ KS W (W.heap.size + 1) [⟨W.heap.size, cv cu e b t pm ty rs va⟩] w')
    (first | with_reducible exact all.out _ K.out.drew | with_reducible exact k1 | with_reducible exact all.out _ ((tr.out _ (by assumption)).alloc _) | with_reducible exact all.out _ ((tr.out _ (by assumption)).store8 _ _ _ _ _ _ _ _))
    (first
      | (go_at_call 139; ((with_reducible refine (cC.out _).mono ?_); rintro ee Z ⟨rfl, g⟩; have k1 := all.out _ ((tr.out _ (by assumption)).below g); clear g))
      | (go_at_call 142; ((with_reducible refine (cO.out _).mono ?_); rintro ee Z ⟨v_, rfl, hq, g⟩; have k1 := all.out _ ((tr.out _ (by assumption)).below g); clear g; obtain ⟨f_, c_, rfl⟩ := hq.fn; replace hq := Lib.hid hq))
      | (go_at_call 192; ((with_reducible refine (cH.out _).mono ?_); rintro ee Z ⟨v_, rfl, hh, g⟩; replace hq := Lib.hid (hq.out.below g); have k1 := all.out _ ((tr.out _ (by assumption)).below g); clear g; obtain ⟨f_, c_, rfl⟩ := hh.fn; replace hh := Lib.hid hh))
      | (go_at_call 141; ((with_reducible refine (pAll2_any hq.out hh.out _).mono ?_); rintro ee Z ⟨v_, rfl, hqa, g⟩; have k1 := all.out _ ((tr.out _ (by assumption)).below g); clear g; replace hqa := Lib.hid hqa))
      | (go_at_call 133; ((with_reducible refine (cM.out _ _ _ hqa.out).mono ?_); rintro ee X ⟨rfl, g⟩; have k1 := all.out _ ((tr.out _ (by assumption)).below g); clear g; have kk := Lib.hid (tr.out _ k1); obtain ⟨v0, v1, v2, v3, v4, v5, v6, v7, r0, r1, r2, r3, r4, r5, r6, r7, fr⟩ := (tr.out _ k1).cells)))
  have hf := Lib.hid (kk.out.store cu e2 b2 t2 pm ty rs (q && z))
  go_wp2_with fail
  change bodyPost _ _ _ _ _ (setRow (W.heap.size + 1) 0 (cv cu e2 b2 t2 pm ty rs (q && z)) X)
  clear r0 r1 r2 r3 r4 r5 r6 r7 fr
  generalize setRow (W.heap.size + 1) 0 (cv cu e2 b2 t2 pm ty rs (q && z)) X = w3 at *
  obtain ⟨z0, z1, z2, z3, z4, z5, z6, z7⟩ := hf.out.cap (g := W.heap.size + 1) (List.mem_cons_self ..)
  exact bodyPost_ret (v := .agg #[.int .u32 cu, .int .u8 e2, .int .u16 b2, .int .u16 t2, .int .u16 pm, .int .u16 ty, .int .u32 rs, .bool (q && z)]) (by simp [results, Tryz.results145, go_sem, z0, z1, z2, z3, z4, z5, z6, z7]) rfl ⟨rfl, hf.out.bl⟩

set_option maxHeartbeats 4000000 in
theorem pExact_any (cu e b t pm ty rs : Nat) (va : Bool) (v : Nat) (l0 : cu < 4294967296) (l1 : e < 256) (l2 : b < 65536) (l3 : t < 65536) (l4 : pm < 65536) (l5 : ty < 65536) (l6 : rs < 4294967296) (lv : v < 4294967296) (W : World) :
    Calls Tryz.prog 146 #[.agg #[.int .u32 cu, .int .u8 e, .int .u16 b, .int .u16 t, .int .u16 pm, .int .u16 ty, .int .u32 rs, .bool va], .int .u32 v] W fun ee w' => ee = .returned (.agg #[.int .u32 cu, .int .u8 (bdE e cu v), .int .u16 (bdB b cu v), .int .u16 (bdT t cu v), .int .u16 pm, .int .u16 ty, .int .u32 rs, .bool (va && decide (ty = 0) && (hdP e b t cu v && enX cu (cu + v)))]) ∧ Below W.heap.size W w' := by
  have cC := Lib.hid (fun w => pchange_any _ v cu e b t pm ty rs va cu (bdE e cu v) (bdB b cu v) (bdT t cu v) pm ty rs va (mBound cu e b t pm ty rs va v l0 l1 l2 l3 l4 l5 l6 lv) w)
  have cO := Lib.hid (fun w => pOpen_any cu e b t pm ty rs va w)
  have cH := Lib.hid (fun w => pHolds_make cu e b t pm ty rs va v l0 l1 l2 l3 l4 l5 l6 lv w)
  have cX := Lib.hid (fun w => pExact_make cu e b t pm ty rs va v l0 l1 l2 l3 l4 l5 l6 lv w)
  have cM := Lib.hid (fun q bq w h => pMark_any cu (bdE e cu v) (bdB b cu v) (bdT t cu v) pm ty rs va q bq w h)
  have K : KS W (W.heap.size + 1) [⟨W.heap.size, cv cu e b t pm ty rs va⟩] ((W.alloc (.cells #[.int .u32 cu, .int .u8 e, .int .u16 b, .int .u16 t, .int .u16 pm, .int .u16 ty, .int .u32 rs, .bool va] 25)).alloc (.cells #[.int .u32 0, .int .u8 0, .int .u16 0, .int .u16 0, .int .u16 0, .int .u16 0, .int .u32 0, .bool false] 25)) := by
    have hk := ((KR.start (W := W)).push (cv cu e b t pm ty rs va) 25).push (cv 0 0 0 0 0 0 0 false) 25
    rw [World.size_alloc] at hk
    exact KS.of hk (by omega) (by simp <;> omega)
  generalize (va && decide (ty = 0)) = q at *
  generalize hdP e b t cu v = z at *
  generalize enX cu (cu + v) = ex at *
  generalize bdE e cu v = e2 at *
  generalize bdB b cu v = b2 at *
  generalize bdT t cu v = t2 at *
  have tr : ∀ w', (w'.cell? ⟨W.heap.size, 0, none⟩ = some (.int .u32 cu) ∧ w'.cell? ⟨W.heap.size, 1, none⟩ = some (.int .u8 e) ∧ w'.cell? ⟨W.heap.size, 2, none⟩ = some (.int .u16 b) ∧ w'.cell? ⟨W.heap.size, 3, none⟩ = some (.int .u16 t) ∧ w'.cell? ⟨W.heap.size, 4, none⟩ = some (.int .u16 pm) ∧ w'.cell? ⟨W.heap.size, 5, none⟩ = some (.int .u16 ty) ∧ w'.cell? ⟨W.heap.size, 6, none⟩ = some (.int .u32 rs) ∧ w'.cell? ⟨W.heap.size, 7, none⟩ = some (.bool va) ∧ KS W (W.heap.size + 1) [⟨W.heap.size, cv cu e b t pm ty rs va⟩] w') → KS W (W.heap.size + 1) [⟨W.heap.size, cv cu e b t pm ty rs va⟩] w' := fun w h => h.2.2.2.2.2.2.2.2
  have all : ∀ w', KS W (W.heap.size + 1) [⟨W.heap.size, cv cu e b t pm ty rs va⟩] w' → (w'.cell? ⟨W.heap.size, 0, none⟩ = some (.int .u32 cu) ∧ w'.cell? ⟨W.heap.size, 1, none⟩ = some (.int .u8 e) ∧ w'.cell? ⟨W.heap.size, 2, none⟩ = some (.int .u16 b) ∧ w'.cell? ⟨W.heap.size, 3, none⟩ = some (.int .u16 t) ∧ w'.cell? ⟨W.heap.size, 4, none⟩ = some (.int .u16 pm) ∧ w'.cell? ⟨W.heap.size, 5, none⟩ = some (.int .u16 ty) ∧ w'.cell? ⟨W.heap.size, 6, none⟩ = some (.int .u32 rs) ∧ w'.cell? ⟨W.heap.size, 7, none⟩ = some (.bool va) ∧ KS W (W.heap.size + 1) [⟨W.heap.size, cv cu e b t pm ty rs va⟩] w') := fun w h => by
    have p0 : CapAt w (W.heap.size) cu e b t pm ty rs va := h.k.cap (by simp)
    exact ⟨p0.q0, p0.q1, p0.q2, p0.q3, p0.q4, p0.q5, p0.q6, p0.q7, h⟩
  replace tr := Lib.hid tr
  replace all := Lib.hid all
  replace K := Lib.hid K
  go_enter Tryz.func146, Tryz.ntmps146
  go_wp2_with fail
  generalize ((W.alloc (.cells #[.int .u32 cu, .int .u8 e, .int .u16 b, .int .u16 t, .int .u16 pm, .int .u16 ty, .int .u32 rs, .bool va] 25)).alloc (.cells #[.int .u32 0, .int .u8 0, .int .u16 0, .int .u16 0, .int .u16 0, .int .u16 0, .int .u32 0, .bool false] 25)) = W1 at *
  go_region_held3 (fun w' => w'.cell? ⟨W.heap.size, 0, none⟩ = some (.int .u32 cu) ∧ w'.cell? ⟨W.heap.size, 1, none⟩ = some (.int .u8 e) ∧ w'.cell? ⟨W.heap.size, 2, none⟩ = some (.int .u16 b) ∧ w'.cell? ⟨W.heap.size, 3, none⟩ = some (.int .u16 t) ∧ w'.cell? ⟨W.heap.size, 4, none⟩ = some (.int .u16 pm) ∧ w'.cell? ⟨W.heap.size, 5, none⟩ = some (.int .u16 ty) ∧ w'.cell? ⟨W.heap.size, 6, none⟩ = some (.int .u32 rs) ∧ w'.cell? ⟨W.heap.size, 7, none⟩ = some (.bool va) ∧ KS W (W.heap.size + 1) [⟨W.heap.size, cv cu e b t pm ty rs va⟩] w')
    (first | with_reducible exact all.out _ K.out.drew | with_reducible exact k1 | with_reducible exact all.out _ ((tr.out _ (by assumption)).alloc _) | with_reducible exact all.out _ ((tr.out _ (by assumption)).store8 _ _ _ _ _ _ _ _))
    (first
      | (go_at_call 139; ((with_reducible refine (cC.out _).mono ?_); rintro ee Z ⟨rfl, g⟩; have k1 := all.out _ ((tr.out _ (by assumption)).below g); clear g))
      | (go_at_call 142; ((with_reducible refine (cO.out _).mono ?_); rintro ee Z ⟨v_, rfl, hq, g⟩; have k1 := all.out _ ((tr.out _ (by assumption)).below g); clear g; obtain ⟨f_, c_, rfl⟩ := hq.fn; replace hq := Lib.hid hq))
      | (go_at_call 192; ((with_reducible refine (cH.out _).mono ?_); rintro ee Z ⟨v_, rfl, hh, g⟩; replace hq := Lib.hid (hq.out.below g); have k1 := all.out _ ((tr.out _ (by assumption)).below g); clear g; obtain ⟨f_, c_, rfl⟩ := hh.fn; replace hh := Lib.hid hh))
      | (go_at_call 193; ((with_reducible refine (cX.out _).mono ?_); rintro ee Z ⟨v_, rfl, hx, g⟩; replace hq := Lib.hid (hq.out.below g); replace hh := Lib.hid (hh.out.below g); have k1 := all.out _ ((tr.out _ (by assumption)).below g); clear g; obtain ⟨f_, c_, rfl⟩ := hx.fn; replace hx := Lib.hid hx))
      | (go_at_call 141; ((with_reducible refine (pAll3_any hq.out hh.out hx.out _).mono ?_); rintro ee Z ⟨v_, rfl, hqa, g⟩; have k1 := all.out _ ((tr.out _ (by assumption)).below g); clear g; replace hqa := Lib.hid hqa))
      | (go_at_call 133; ((with_reducible refine (cM.out _ _ _ hqa.out).mono ?_); rintro ee X ⟨rfl, g⟩; have k1 := all.out _ ((tr.out _ (by assumption)).below g); clear g; have kk := Lib.hid (tr.out _ k1); obtain ⟨v0, v1, v2, v3, v4, v5, v6, v7, r0, r1, r2, r3, r4, r5, r6, r7, fr⟩ := (tr.out _ k1).cells)))
  have hf := Lib.hid (kk.out.store cu e2 b2 t2 pm ty rs (q && (z && ex)))
  go_wp2_with fail
  change bodyPost _ _ _ _ _ (setRow (W.heap.size + 1) 0 (cv cu e2 b2 t2 pm ty rs (q && (z && ex))) X)
  clear r0 r1 r2 r3 r4 r5 r6 r7 fr
  generalize setRow (W.heap.size + 1) 0 (cv cu e2 b2 t2 pm ty rs (q && (z && ex))) X = w3 at *
  obtain ⟨z0, z1, z2, z3, z4, z5, z6, z7⟩ := hf.out.cap (g := W.heap.size + 1) (List.mem_cons_self ..)
  exact bodyPost_ret (v := .agg #[.int .u32 cu, .int .u8 e2, .int .u16 b2, .int .u16 t2, .int .u16 pm, .int .u16 ty, .int .u32 rs, .bool (q && (z && ex))]) (by simp [results, Tryz.results146, go_sem, z0, z1, z2, z3, z4, z5, z6, z7]) rfl ⟨rfl, hf.out.bl⟩
end Go.Proofs.YtkmgdfcambdeeaaGreatDoor
namespace Go.Proofs.YtkmgdfcambdeeaaGreatDoor
open Go.RowKit
set_option linter.unusedVariables false

set_option maxHeartbeats 4000000 in
theorem pSeal_any (cu e b t pm ty rs : Nat) (va : Bool) (cu' e' b' t' pm' ty' rs' : Nat) (va' : Bool) (l0' : cu' < 4294967296) (l1' : e' < 256) (l2' : b' < 65536) (l3' : t' < 65536) (l4' : pm' < 65536) (l5' : ty' < 65536) (l6' : rs' < 4294967296) (W : World) :
    Calls Tryz.prog 148 #[.agg #[.int .u32 cu, .int .u8 e, .int .u16 b, .int .u16 t, .int .u16 pm, .int .u16 ty, .int .u32 rs, .bool va], .agg #[.int .u32 cu', .int .u8 e', .int .u16 b', .int .u16 t', .int .u16 pm', .int .u16 ty', .int .u32 rs', .bool va']] W fun ee w' => ee = .returned (.agg #[.int .u32 cu, .int .u8 e, .int .u16 b, .int .u16 t, .int .u16 pm, .int .u16 (if (va && decide (ty = 0) && (va' && decide (ty' = 0) && auP e' b' t' cu' pm' cu' 32)) then cu' % 65536 else ty : Nat), .int .u32 rs, .bool (va && (va && decide (ty = 0) && (va' && decide (ty' = 0) && auP e' b' t' cu' pm' cu' 32)))]) ∧ Below W.heap.size W w' := by
  have cO := Lib.hid (fun w => pOpen_any cu e b t pm ty rs va w)
  have cA : ∀ w, Calls Tryz.prog 196 #[.agg #[.int .u32 cu', .int .u8 e', .int .u16 b', .int .u16 t', .int .u16 pm', .int .u16 ty', .int .u32 rs', .bool va'], .int .u32 cu', .int .u16 32] w (QPost w (va' && decide (ty' = 0) && auP e' b' t' cu' pm' cu' 32)) := fun w => pauthority_any cu' e' b' t' pm' ty' rs' va' cu' 32 l0' l1' l2' l3' l4' l5' l6' l0' (by decide) w
  replace cA := Lib.hid cA
  have cM := Lib.hid (fun v w h => pretype_any cu e b t pm ty rs va cu' v (va && decide (ty = 0) && (va' && decide (ty' = 0) && auP e' b' t' cu' pm' cu' 32)) w h)
  have K : KS W (W.heap.size + 1 + 1) [⟨W.heap.size + 1, cv cu' e' b' t' pm' ty' rs' va'⟩, ⟨W.heap.size, cv cu e b t pm ty rs va⟩] (((W.alloc (.cells #[.int .u32 cu, .int .u8 e, .int .u16 b, .int .u16 t, .int .u16 pm, .int .u16 ty, .int .u32 rs, .bool va] 25)).alloc (.cells #[.int .u32 cu', .int .u8 e', .int .u16 b', .int .u16 t', .int .u16 pm', .int .u16 ty', .int .u32 rs', .bool va'] 25)).alloc (.cells #[.int .u32 0, .int .u8 0, .int .u16 0, .int .u16 0, .int .u16 0, .int .u16 0, .int .u32 0, .bool false] 25)) := by
    have hk := (((KR.start (W := W)).push (cv cu e b t pm ty rs va) 25).push (cv cu' e' b' t' pm' ty' rs' va') 25).push (cv 0 0 0 0 0 0 0 false) 25
    rw [World.size_alloc, World.size_alloc] at hk
    exact KS.of hk (by omega) (by simp <;> omega)
  generalize (va && decide (ty = 0)) = q at *
  generalize (va' && decide (ty' = 0) && auP e' b' t' cu' pm' cu' 32) = z at *
  generalize hx : (if (q && z) then cu' % 65536 else ty : Nat) = x at *
  replace hx := Lib.hid hx
  have tr : ∀ w', (w'.cell? ⟨W.heap.size, 0, none⟩ = some (.int .u32 cu) ∧ w'.cell? ⟨W.heap.size, 1, none⟩ = some (.int .u8 e) ∧ w'.cell? ⟨W.heap.size, 2, none⟩ = some (.int .u16 b) ∧ w'.cell? ⟨W.heap.size, 3, none⟩ = some (.int .u16 t) ∧ w'.cell? ⟨W.heap.size, 4, none⟩ = some (.int .u16 pm) ∧ w'.cell? ⟨W.heap.size, 5, none⟩ = some (.int .u16 ty) ∧ w'.cell? ⟨W.heap.size, 6, none⟩ = some (.int .u32 rs) ∧ w'.cell? ⟨W.heap.size, 7, none⟩ = some (.bool va) ∧ w'.cell? ⟨W.heap.size + 1, 0, none⟩ = some (.int .u32 cu') ∧ w'.cell? ⟨W.heap.size + 1, 1, none⟩ = some (.int .u8 e') ∧ w'.cell? ⟨W.heap.size + 1, 2, none⟩ = some (.int .u16 b') ∧ w'.cell? ⟨W.heap.size + 1, 3, none⟩ = some (.int .u16 t') ∧ w'.cell? ⟨W.heap.size + 1, 4, none⟩ = some (.int .u16 pm') ∧ w'.cell? ⟨W.heap.size + 1, 5, none⟩ = some (.int .u16 ty') ∧ w'.cell? ⟨W.heap.size + 1, 6, none⟩ = some (.int .u32 rs') ∧ w'.cell? ⟨W.heap.size + 1, 7, none⟩ = some (.bool va') ∧ KS W (W.heap.size + 1 + 1) [⟨W.heap.size + 1, cv cu' e' b' t' pm' ty' rs' va'⟩, ⟨W.heap.size, cv cu e b t pm ty rs va⟩] w') → KS W (W.heap.size + 1 + 1) [⟨W.heap.size + 1, cv cu' e' b' t' pm' ty' rs' va'⟩, ⟨W.heap.size, cv cu e b t pm ty rs va⟩] w' := fun w h => h.2.2.2.2.2.2.2.2.2.2.2.2.2.2.2.2
  have all : ∀ w', KS W (W.heap.size + 1 + 1) [⟨W.heap.size + 1, cv cu' e' b' t' pm' ty' rs' va'⟩, ⟨W.heap.size, cv cu e b t pm ty rs va⟩] w' → (w'.cell? ⟨W.heap.size, 0, none⟩ = some (.int .u32 cu) ∧ w'.cell? ⟨W.heap.size, 1, none⟩ = some (.int .u8 e) ∧ w'.cell? ⟨W.heap.size, 2, none⟩ = some (.int .u16 b) ∧ w'.cell? ⟨W.heap.size, 3, none⟩ = some (.int .u16 t) ∧ w'.cell? ⟨W.heap.size, 4, none⟩ = some (.int .u16 pm) ∧ w'.cell? ⟨W.heap.size, 5, none⟩ = some (.int .u16 ty) ∧ w'.cell? ⟨W.heap.size, 6, none⟩ = some (.int .u32 rs) ∧ w'.cell? ⟨W.heap.size, 7, none⟩ = some (.bool va) ∧ w'.cell? ⟨W.heap.size + 1, 0, none⟩ = some (.int .u32 cu') ∧ w'.cell? ⟨W.heap.size + 1, 1, none⟩ = some (.int .u8 e') ∧ w'.cell? ⟨W.heap.size + 1, 2, none⟩ = some (.int .u16 b') ∧ w'.cell? ⟨W.heap.size + 1, 3, none⟩ = some (.int .u16 t') ∧ w'.cell? ⟨W.heap.size + 1, 4, none⟩ = some (.int .u16 pm') ∧ w'.cell? ⟨W.heap.size + 1, 5, none⟩ = some (.int .u16 ty') ∧ w'.cell? ⟨W.heap.size + 1, 6, none⟩ = some (.int .u32 rs') ∧ w'.cell? ⟨W.heap.size + 1, 7, none⟩ = some (.bool va') ∧ KS W (W.heap.size + 1 + 1) [⟨W.heap.size + 1, cv cu' e' b' t' pm' ty' rs' va'⟩, ⟨W.heap.size, cv cu e b t pm ty rs va⟩] w') := fun w h => by
    have p0 : CapAt w (W.heap.size) cu e b t pm ty rs va := h.k.cap (by simp)
    have p1 : CapAt w (W.heap.size + 1) cu' e' b' t' pm' ty' rs' va' := h.k.cap (by simp)
    exact ⟨p0.q0, p0.q1, p0.q2, p0.q3, p0.q4, p0.q5, p0.q6, p0.q7, p1.q0, p1.q1, p1.q2, p1.q3, p1.q4, p1.q5, p1.q6, p1.q7, h⟩
  replace tr := Lib.hid tr
  replace all := Lib.hid all
  replace K := Lib.hid K
  go_enter Tryz.func148, Tryz.ntmps148
  go_wp2_with fail
  generalize (((W.alloc (.cells #[.int .u32 cu, .int .u8 e, .int .u16 b, .int .u16 t, .int .u16 pm, .int .u16 ty, .int .u32 rs, .bool va] 25)).alloc (.cells #[.int .u32 cu', .int .u8 e', .int .u16 b', .int .u16 t', .int .u16 pm', .int .u16 ty', .int .u32 rs', .bool va'] 25)).alloc (.cells #[.int .u32 0, .int .u8 0, .int .u16 0, .int .u16 0, .int .u16 0, .int .u16 0, .int .u32 0, .bool false] 25)) = W1 at *
  go_region_held3 (fun w' => w'.cell? ⟨W.heap.size, 0, none⟩ = some (.int .u32 cu) ∧ w'.cell? ⟨W.heap.size, 1, none⟩ = some (.int .u8 e) ∧ w'.cell? ⟨W.heap.size, 2, none⟩ = some (.int .u16 b) ∧ w'.cell? ⟨W.heap.size, 3, none⟩ = some (.int .u16 t) ∧ w'.cell? ⟨W.heap.size, 4, none⟩ = some (.int .u16 pm) ∧ w'.cell? ⟨W.heap.size, 5, none⟩ = some (.int .u16 ty) ∧ w'.cell? ⟨W.heap.size, 6, none⟩ = some (.int .u32 rs) ∧ w'.cell? ⟨W.heap.size, 7, none⟩ = some (.bool va) ∧ w'.cell? ⟨W.heap.size + 1, 0, none⟩ = some (.int .u32 cu') ∧ w'.cell? ⟨W.heap.size + 1, 1, none⟩ = some (.int .u8 e') ∧ w'.cell? ⟨W.heap.size + 1, 2, none⟩ = some (.int .u16 b') ∧ w'.cell? ⟨W.heap.size + 1, 3, none⟩ = some (.int .u16 t') ∧ w'.cell? ⟨W.heap.size + 1, 4, none⟩ = some (.int .u16 pm') ∧ w'.cell? ⟨W.heap.size + 1, 5, none⟩ = some (.int .u16 ty') ∧ w'.cell? ⟨W.heap.size + 1, 6, none⟩ = some (.int .u32 rs') ∧ w'.cell? ⟨W.heap.size + 1, 7, none⟩ = some (.bool va') ∧ KS W (W.heap.size + 1 + 1) [⟨W.heap.size + 1, cv cu' e' b' t' pm' ty' rs' va'⟩, ⟨W.heap.size, cv cu e b t pm ty rs va⟩] w')
    (first | with_reducible exact all.out _ K.out.drew | with_reducible exact k1 | with_reducible exact all.out _ ((tr.out _ (by assumption)).alloc _) | with_reducible exact all.out _ ((tr.out _ (by assumption)).store8 _ _ _ _ _ _ _ _))
    (first
      | (go_at_call 142; ((with_reducible refine (cO.out _).mono ?_); rintro ee Z ⟨v_, rfl, hq, g⟩; have k1 := all.out _ ((tr.out _ (by assumption)).below g); clear g; obtain ⟨f_, c_, rfl⟩ := hq.fn; replace hq := Lib.hid hq))
      | (go_at_call 196; ((with_reducible refine (cA.out _).mono ?_); rintro ee Z ⟨v_, rfl, hh, g⟩; replace hq := Lib.hid (hq.out.below g); have k1 := all.out _ ((tr.out _ (by assumption)).below g); clear g; obtain ⟨f_, c_, rfl⟩ := hh.fn; replace hh := Lib.hid hh))
      | (go_at_call 141; ((with_reducible refine (pAll2_any hq.out hh.out _).mono ?_); rintro ee Z ⟨v_, rfl, hqa, g⟩; have k1 := all.out _ ((tr.out _ (by assumption)).below g); clear g; replace hqa := Lib.hid hqa))
      | (go_at_call 195; ((with_reducible refine (cM.out _ _ hqa.out).mono ?_); rintro ee X ⟨rfl, g⟩; have k1 := all.out _ ((tr.out _ (by assumption)).below g); clear g; have kk := Lib.hid (tr.out _ k1); obtain ⟨v0, v1, v2, v3, v4, v5, v6, v7, r0, r1, r2, r3, r4, r5, r6, r7, fr⟩ := (tr.out _ k1).cells)))
  have hf := Lib.hid (kk.out.store cu e b t pm x rs (va && (q && z)))
  go_wp2_with fail
  change bodyPost _ _ _ _ _ (setRow (W.heap.size + 1 + 1) 0 (cv cu e b t pm x rs (va && (q && z))) X)
  clear r0 r1 r2 r3 r4 r5 r6 r7 fr
  generalize setRow (W.heap.size + 1 + 1) 0 (cv cu e b t pm x rs (va && (q && z))) X = w3 at *
  obtain ⟨z0, z1, z2, z3, z4, z5, z6, z7⟩ := hf.out.cap (g := W.heap.size + 1 + 1) (List.mem_cons_self ..)
  exact bodyPost_ret (v := .agg #[.int .u32 cu, .int .u8 e, .int .u16 b, .int .u16 t, .int .u16 pm, .int .u16 x, .int .u32 rs, .bool (va && (q && z))]) (by simp [results, Tryz.results148, go_sem, z0, z1, z2, z3, z4, z5, z6, z7]) rfl ⟨rfl, hf.out.bl⟩

set_option maxHeartbeats 4000000 in
theorem pOpens_any (cu e b t pm ty rs : Nat) (va : Bool) (cu' e' b' t' pm' ty' rs' : Nat) (va' : Bool) (l5 : ty < 65536) (l0' : cu' < 4294967296) (l1' : e' < 256) (l2' : b' < 65536) (l3' : t' < 65536) (l4' : pm' < 65536) (l5' : ty' < 65536) (l6' : rs' < 4294967296) (W : World) :
    Calls Tryz.prog 149 #[.agg #[.int .u32 cu, .int .u8 e, .int .u16 b, .int .u16 t, .int .u16 pm, .int .u16 ty, .int .u32 rs, .bool va], .agg #[.int .u32 cu', .int .u8 e', .int .u16 b', .int .u16 t', .int .u16 pm', .int .u16 ty', .int .u32 rs', .bool va']] W fun ee w' => ee = .returned (.agg #[.int .u32 cu, .int .u8 e, .int .u16 b, .int .u16 t, .int .u16 pm, .int .u16 (if (va && !decide (ty = 0) && (va' && decide (ty' = 0) && auP e' b' t' cu' pm' ty 64)) then 0 else ty : Nat), .int .u32 rs, .bool (va && (va && !decide (ty = 0) && (va' && decide (ty' = 0) && auP e' b' t' cu' pm' ty 64)))]) ∧ Below W.heap.size W w' := by
  have cA : ∀ w, Calls Tryz.prog 196 #[.agg #[.int .u32 cu', .int .u8 e', .int .u16 b', .int .u16 t', .int .u16 pm', .int .u16 ty', .int .u32 rs', .bool va'], .int .u32 ty, .int .u16 64] w (QPost w (va' && decide (ty' = 0) && auP e' b' t' cu' pm' ty 64)) := fun w => pauthority_any cu' e' b' t' pm' ty' rs' va' ty 64 l0' l1' l2' l3' l4' l5' l6' (by omega) (by decide) w
  replace cA := Lib.hid cA
  have cM : ∀ q w, Ques w q (va && !decide (ty = 0) && (va' && decide (ty' = 0) && auP e' b' t' cu' pm' ty 64)) → Calls Tryz.prog 195 #[.agg #[.int .u32 cu, .int .u8 e, .int .u16 b, .int .u16 t, .int .u16 pm, .int .u16 ty, .int .u32 rs, .bool va], .int .u32 0, q] w fun ee w' => ee = .returned (.agg #[.int .u32 cu, .int .u8 e, .int .u16 b, .int .u16 t, .int .u16 pm, .int .u16 (if (va && !decide (ty = 0) && (va' && decide (ty' = 0) && auP e' b' t' cu' pm' ty 64)) then 0 else ty : Nat), .int .u32 rs, .bool (va && (va && !decide (ty = 0) && (va' && decide (ty' = 0) && auP e' b' t' cu' pm' ty 64)))]) ∧ Below w.heap.size w w' := fun q w h => pretype_any cu e b t pm ty rs va 0 q _ w h
  replace cM := Lib.hid cM
  have hwt : IntKind.u32.wrap (ty : Int) = ty := by rw [IntKind.wrap_u32]; omega
  have K : KS W (W.heap.size + 1 + 1) [⟨W.heap.size + 1, cv cu' e' b' t' pm' ty' rs' va'⟩, ⟨W.heap.size, cv cu e b t pm ty rs va⟩] (((W.alloc (.cells #[.int .u32 cu, .int .u8 e, .int .u16 b, .int .u16 t, .int .u16 pm, .int .u16 ty, .int .u32 rs, .bool va] 25)).alloc (.cells #[.int .u32 cu', .int .u8 e', .int .u16 b', .int .u16 t', .int .u16 pm', .int .u16 ty', .int .u32 rs', .bool va'] 25)).alloc (.cells #[.int .u32 0, .int .u8 0, .int .u16 0, .int .u16 0, .int .u16 0, .int .u16 0, .int .u32 0, .bool false] 25)) := by
    have hk := (((KR.start (W := W)).push (cv cu e b t pm ty rs va) 25).push (cv cu' e' b' t' pm' ty' rs' va') 25).push (cv 0 0 0 0 0 0 0 false) 25
    rw [World.size_alloc, World.size_alloc] at hk
    exact KS.of hk (by omega) (by simp <;> omega)
  have qA : ∀ w, KS W (W.heap.size + 1 + 1) [⟨W.heap.size + 1, cv cu' e' b' t' pm' ty' rs' va'⟩, ⟨W.heap.size, cv cu e b t pm ty rs va⟩] w → Ques w (.func (.func 197) #[] #[.pointer (some ⟨W.heap.size, 0, none⟩)]) (va && !decide (ty = 0)) := fun w k =>
    ⟨_, _, rfl, fun w' => by kernel_rfl, fun w' m => pOpenQ_any _ cu e b t pm ty rs va w' ((k.below m).k.cap (by simp))⟩
  generalize (va && !decide (ty = 0)) = q at *
  generalize (va' && decide (ty' = 0) && auP e' b' t' cu' pm' ty 64) = z at *
  generalize hx : (if (q && z) then 0 else ty : Nat) = x at *
  replace hx := Lib.hid hx
  have tr : ∀ w', (w'.cell? ⟨W.heap.size, 0, none⟩ = some (.int .u32 cu) ∧ w'.cell? ⟨W.heap.size, 1, none⟩ = some (.int .u8 e) ∧ w'.cell? ⟨W.heap.size, 2, none⟩ = some (.int .u16 b) ∧ w'.cell? ⟨W.heap.size, 3, none⟩ = some (.int .u16 t) ∧ w'.cell? ⟨W.heap.size, 4, none⟩ = some (.int .u16 pm) ∧ w'.cell? ⟨W.heap.size, 5, none⟩ = some (.int .u16 ty) ∧ w'.cell? ⟨W.heap.size, 6, none⟩ = some (.int .u32 rs) ∧ w'.cell? ⟨W.heap.size, 7, none⟩ = some (.bool va) ∧ w'.cell? ⟨W.heap.size + 1, 0, none⟩ = some (.int .u32 cu') ∧ w'.cell? ⟨W.heap.size + 1, 1, none⟩ = some (.int .u8 e') ∧ w'.cell? ⟨W.heap.size + 1, 2, none⟩ = some (.int .u16 b') ∧ w'.cell? ⟨W.heap.size + 1, 3, none⟩ = some (.int .u16 t') ∧ w'.cell? ⟨W.heap.size + 1, 4, none⟩ = some (.int .u16 pm') ∧ w'.cell? ⟨W.heap.size + 1, 5, none⟩ = some (.int .u16 ty') ∧ w'.cell? ⟨W.heap.size + 1, 6, none⟩ = some (.int .u32 rs') ∧ w'.cell? ⟨W.heap.size + 1, 7, none⟩ = some (.bool va') ∧ KS W (W.heap.size + 1 + 1) [⟨W.heap.size + 1, cv cu' e' b' t' pm' ty' rs' va'⟩, ⟨W.heap.size, cv cu e b t pm ty rs va⟩] w') → KS W (W.heap.size + 1 + 1) [⟨W.heap.size + 1, cv cu' e' b' t' pm' ty' rs' va'⟩, ⟨W.heap.size, cv cu e b t pm ty rs va⟩] w' := fun w h => h.2.2.2.2.2.2.2.2.2.2.2.2.2.2.2.2
  have all : ∀ w', KS W (W.heap.size + 1 + 1) [⟨W.heap.size + 1, cv cu' e' b' t' pm' ty' rs' va'⟩, ⟨W.heap.size, cv cu e b t pm ty rs va⟩] w' → (w'.cell? ⟨W.heap.size, 0, none⟩ = some (.int .u32 cu) ∧ w'.cell? ⟨W.heap.size, 1, none⟩ = some (.int .u8 e) ∧ w'.cell? ⟨W.heap.size, 2, none⟩ = some (.int .u16 b) ∧ w'.cell? ⟨W.heap.size, 3, none⟩ = some (.int .u16 t) ∧ w'.cell? ⟨W.heap.size, 4, none⟩ = some (.int .u16 pm) ∧ w'.cell? ⟨W.heap.size, 5, none⟩ = some (.int .u16 ty) ∧ w'.cell? ⟨W.heap.size, 6, none⟩ = some (.int .u32 rs) ∧ w'.cell? ⟨W.heap.size, 7, none⟩ = some (.bool va) ∧ w'.cell? ⟨W.heap.size + 1, 0, none⟩ = some (.int .u32 cu') ∧ w'.cell? ⟨W.heap.size + 1, 1, none⟩ = some (.int .u8 e') ∧ w'.cell? ⟨W.heap.size + 1, 2, none⟩ = some (.int .u16 b') ∧ w'.cell? ⟨W.heap.size + 1, 3, none⟩ = some (.int .u16 t') ∧ w'.cell? ⟨W.heap.size + 1, 4, none⟩ = some (.int .u16 pm') ∧ w'.cell? ⟨W.heap.size + 1, 5, none⟩ = some (.int .u16 ty') ∧ w'.cell? ⟨W.heap.size + 1, 6, none⟩ = some (.int .u32 rs') ∧ w'.cell? ⟨W.heap.size + 1, 7, none⟩ = some (.bool va') ∧ KS W (W.heap.size + 1 + 1) [⟨W.heap.size + 1, cv cu' e' b' t' pm' ty' rs' va'⟩, ⟨W.heap.size, cv cu e b t pm ty rs va⟩] w') := fun w h => by
    have p0 : CapAt w (W.heap.size) cu e b t pm ty rs va := h.k.cap (by simp)
    have p1 : CapAt w (W.heap.size + 1) cu' e' b' t' pm' ty' rs' va' := h.k.cap (by simp)
    exact ⟨p0.q0, p0.q1, p0.q2, p0.q3, p0.q4, p0.q5, p0.q6, p0.q7, p1.q0, p1.q1, p1.q2, p1.q3, p1.q4, p1.q5, p1.q6, p1.q7, h⟩
  replace tr := Lib.hid tr
  replace all := Lib.hid all
  replace K := Lib.hid K
  replace qA := Lib.hid qA
  go_enter Tryz.func149, Tryz.ntmps149
  go_wp2_with fail
  generalize (((W.alloc (.cells #[.int .u32 cu, .int .u8 e, .int .u16 b, .int .u16 t, .int .u16 pm, .int .u16 ty, .int .u32 rs, .bool va] 25)).alloc (.cells #[.int .u32 cu', .int .u8 e', .int .u16 b', .int .u16 t', .int .u16 pm', .int .u16 ty', .int .u32 rs', .bool va'] 25)).alloc (.cells #[.int .u32 0, .int .u8 0, .int .u16 0, .int .u16 0, .int .u16 0, .int .u16 0, .int .u32 0, .bool false] 25)) = W1 at *
  go_region_held3 (fun w' => w'.cell? ⟨W.heap.size, 0, none⟩ = some (.int .u32 cu) ∧ w'.cell? ⟨W.heap.size, 1, none⟩ = some (.int .u8 e) ∧ w'.cell? ⟨W.heap.size, 2, none⟩ = some (.int .u16 b) ∧ w'.cell? ⟨W.heap.size, 3, none⟩ = some (.int .u16 t) ∧ w'.cell? ⟨W.heap.size, 4, none⟩ = some (.int .u16 pm) ∧ w'.cell? ⟨W.heap.size, 5, none⟩ = some (.int .u16 ty) ∧ w'.cell? ⟨W.heap.size, 6, none⟩ = some (.int .u32 rs) ∧ w'.cell? ⟨W.heap.size, 7, none⟩ = some (.bool va) ∧ w'.cell? ⟨W.heap.size + 1, 0, none⟩ = some (.int .u32 cu') ∧ w'.cell? ⟨W.heap.size + 1, 1, none⟩ = some (.int .u8 e') ∧ w'.cell? ⟨W.heap.size + 1, 2, none⟩ = some (.int .u16 b') ∧ w'.cell? ⟨W.heap.size + 1, 3, none⟩ = some (.int .u16 t') ∧ w'.cell? ⟨W.heap.size + 1, 4, none⟩ = some (.int .u16 pm') ∧ w'.cell? ⟨W.heap.size + 1, 5, none⟩ = some (.int .u16 ty') ∧ w'.cell? ⟨W.heap.size + 1, 6, none⟩ = some (.int .u32 rs') ∧ w'.cell? ⟨W.heap.size + 1, 7, none⟩ = some (.bool va') ∧ KS W (W.heap.size + 1 + 1) [⟨W.heap.size + 1, cv cu' e' b' t' pm' ty' rs' va'⟩, ⟨W.heap.size, cv cu e b t pm ty rs va⟩] w')
    (first | with_reducible exact all.out _ K.out.drew | with_reducible exact k1 | with_reducible exact all.out _ ((tr.out _ (by assumption)).alloc _) | with_reducible exact all.out _ ((tr.out _ (by assumption)).store8 _ _ _ _ _ _ _ _))
    (first
      | (go_at_call 196; ((with_reducible refine (cA.out _).mono ?_); rintro ee Z ⟨v_, rfl, hh, g⟩; have k1 := all.out _ ((tr.out _ (by assumption)).below g); clear g; obtain ⟨f_, c_, rfl⟩ := hh.fn; replace hh := Lib.hid hh; have hqb := Lib.hid (qA.out _ (tr.out _ k1))))
      | (go_at_call 141; ((with_reducible refine (pAll2_any hqb.out hh.out _).mono ?_); rintro ee Z ⟨v_, rfl, hqa, g⟩; have k1 := all.out _ ((tr.out _ (by assumption)).below g); clear g; replace hqa := Lib.hid hqa))
      | (go_at_call 195; ((with_reducible refine (cM.out _ _ hqa.out).mono ?_); rintro ee X ⟨rfl, g⟩; have k1 := all.out _ ((tr.out _ (by assumption)).below g); clear g; have kk := Lib.hid (tr.out _ k1); obtain ⟨v0, v1, v2, v3, v4, v5, v6, v7, r0, r1, r2, r3, r4, r5, r6, r7, fr⟩ := (tr.out _ k1).cells)))
  have hf := Lib.hid (kk.out.store cu e b t pm x rs (va && (q && z)))
  go_wp2_with fail
  change bodyPost _ _ _ _ _ (setRow (W.heap.size + 1 + 1) 0 (cv cu e b t pm x rs (va && (q && z))) X)
  clear r0 r1 r2 r3 r4 r5 r6 r7 fr
  generalize setRow (W.heap.size + 1 + 1) 0 (cv cu e b t pm x rs (va && (q && z))) X = w3 at *
  obtain ⟨z0, z1, z2, z3, z4, z5, z6, z7⟩ := hf.out.cap (g := W.heap.size + 1 + 1) (List.mem_cons_self ..)
  exact bodyPost_ret (v := .agg #[.int .u32 cu, .int .u8 e, .int .u16 b, .int .u16 t, .int .u16 pm, .int .u16 x, .int .u32 rs, .bool (va && (q && z))]) (by simp [results, Tryz.results149, go_sem, z0, z1, z2, z3, z4, z5, z6, z7]) rfl ⟨rfl, hf.out.bl⟩

set_option maxHeartbeats 4000000 in
theorem pBuild_any (cu e b t pm ty rs : Nat) (va : Bool) (cu' e' b' t' pm' ty' rs' : Nat) (va' : Bool) (l0 : cu < 4294967296) (l1 : e < 256) (l2 : b < 65536) (l3 : t < 65536) (l4 : pm < 65536) (l5 : ty < 65536) (l6 : rs < 4294967296) (l0' : cu' < 4294967296) (l1' : e' < 256) (l2' : b' < 65536) (l3' : t' < 65536) (l4' : pm' < 65536) (l5' : ty' < 65536) (l6' : rs' < 4294967296) (W : World) :
    Calls Tryz.prog 150 #[.agg #[.int .u32 cu, .int .u8 e, .int .u16 b, .int .u16 t, .int .u16 pm, .int .u16 ty, .int .u32 rs, .bool va], .agg #[.int .u32 cu', .int .u8 e', .int .u16 b', .int .u16 t', .int .u16 pm', .int .u16 ty', .int .u32 rs', .bool va']] W fun ee w' => ee = .returned (.agg #[.int .u32 cu, .int .u8 e, .int .u16 b, .int .u16 t, .int .u16 pm, .int .u16 ty, .int .u32 rs, .bool (va' && decide (ty' = 0) && buP e b t pm ty rs (wiP pm pm' (deB e b t cu) (deT e b t cu) (deB e' b' t' cu') (deT e' b' t' cu')))]) ∧ Below W.heap.size W w' := by
  have cO := Lib.hid (fun w => pOpen_any cu' e' b' t' pm' ty' rs' va' w)
  have cM := Lib.hid (fun q bq w h => pMark_any cu e b t pm ty rs va q bq w h)
  have K : KS W (W.heap.size + 1 + 1) [⟨W.heap.size + 1, cv cu' e' b' t' pm' ty' rs' va'⟩, ⟨W.heap.size, cv cu e b t pm ty rs va⟩] (((W.alloc (.cells #[.int .u32 cu, .int .u8 e, .int .u16 b, .int .u16 t, .int .u16 pm, .int .u16 ty, .int .u32 rs, .bool va] 25)).alloc (.cells #[.int .u32 cu', .int .u8 e', .int .u16 b', .int .u16 t', .int .u16 pm', .int .u16 ty', .int .u32 rs', .bool va'] 25)).alloc (.cells #[.int .u32 0, .int .u8 0, .int .u16 0, .int .u16 0, .int .u16 0, .int .u16 0, .int .u32 0, .bool false] 25)) := by
    have hk := (((KR.start (W := W)).push (cv cu e b t pm ty rs va) 25).push (cv cu' e' b' t' pm' ty' rs' va') 25).push (cv 0 0 0 0 0 0 0 false) 25
    rw [World.size_alloc, World.size_alloc] at hk
    exact KS.of hk (by omega) (by simp <;> omega)
  have qA : ∀ w, KS W (W.heap.size + 1 + 1) [⟨W.heap.size + 1, cv cu' e' b' t' pm' ty' rs' va'⟩, ⟨W.heap.size, cv cu e b t pm ty rs va⟩] w → Ques w (.func (.func 198) #[] #[.pointer (some ⟨W.heap.size, 0, none⟩), .pointer (some ⟨W.heap.size + 1, 0, none⟩)]) (buP e b t pm ty rs (wiP pm pm' (deB e b t cu) (deT e b t cu) (deB e' b' t' cu') (deT e' b' t' cu'))) := fun w k =>
    ⟨_, _, rfl, fun w' => by kernel_rfl, fun w' m => pBuild1_any _ _ cu e b t pm ty rs va cu' e' b' t' pm' ty' rs' va' l0 l1 l2 l3 l4 l5 l6 l0' l1' l2' l3' l4' l5' l6' w' ((k.below m).k.cap (by simp)) ((k.below m).k.cap (by simp)) ((k.below m).k.lt (vs := cv cu e b t pm ty rs va) (by simp)) ((k.below m).k.lt (vs := cv cu' e' b' t' pm' ty' rs' va') (by simp))⟩
  generalize (va' && decide (ty' = 0)) = q at *
  generalize buP e b t pm ty rs (wiP pm pm' (deB e b t cu) (deT e b t cu) (deB e' b' t' cu') (deT e' b' t' cu')) = z at *
  have tr : ∀ w', (w'.cell? ⟨W.heap.size, 0, none⟩ = some (.int .u32 cu) ∧ w'.cell? ⟨W.heap.size, 1, none⟩ = some (.int .u8 e) ∧ w'.cell? ⟨W.heap.size, 2, none⟩ = some (.int .u16 b) ∧ w'.cell? ⟨W.heap.size, 3, none⟩ = some (.int .u16 t) ∧ w'.cell? ⟨W.heap.size, 4, none⟩ = some (.int .u16 pm) ∧ w'.cell? ⟨W.heap.size, 5, none⟩ = some (.int .u16 ty) ∧ w'.cell? ⟨W.heap.size, 6, none⟩ = some (.int .u32 rs) ∧ w'.cell? ⟨W.heap.size, 7, none⟩ = some (.bool va) ∧ w'.cell? ⟨W.heap.size + 1, 0, none⟩ = some (.int .u32 cu') ∧ w'.cell? ⟨W.heap.size + 1, 1, none⟩ = some (.int .u8 e') ∧ w'.cell? ⟨W.heap.size + 1, 2, none⟩ = some (.int .u16 b') ∧ w'.cell? ⟨W.heap.size + 1, 3, none⟩ = some (.int .u16 t') ∧ w'.cell? ⟨W.heap.size + 1, 4, none⟩ = some (.int .u16 pm') ∧ w'.cell? ⟨W.heap.size + 1, 5, none⟩ = some (.int .u16 ty') ∧ w'.cell? ⟨W.heap.size + 1, 6, none⟩ = some (.int .u32 rs') ∧ w'.cell? ⟨W.heap.size + 1, 7, none⟩ = some (.bool va') ∧ KS W (W.heap.size + 1 + 1) [⟨W.heap.size + 1, cv cu' e' b' t' pm' ty' rs' va'⟩, ⟨W.heap.size, cv cu e b t pm ty rs va⟩] w') → KS W (W.heap.size + 1 + 1) [⟨W.heap.size + 1, cv cu' e' b' t' pm' ty' rs' va'⟩, ⟨W.heap.size, cv cu e b t pm ty rs va⟩] w' := fun w h => h.2.2.2.2.2.2.2.2.2.2.2.2.2.2.2.2
  have all : ∀ w', KS W (W.heap.size + 1 + 1) [⟨W.heap.size + 1, cv cu' e' b' t' pm' ty' rs' va'⟩, ⟨W.heap.size, cv cu e b t pm ty rs va⟩] w' → (w'.cell? ⟨W.heap.size, 0, none⟩ = some (.int .u32 cu) ∧ w'.cell? ⟨W.heap.size, 1, none⟩ = some (.int .u8 e) ∧ w'.cell? ⟨W.heap.size, 2, none⟩ = some (.int .u16 b) ∧ w'.cell? ⟨W.heap.size, 3, none⟩ = some (.int .u16 t) ∧ w'.cell? ⟨W.heap.size, 4, none⟩ = some (.int .u16 pm) ∧ w'.cell? ⟨W.heap.size, 5, none⟩ = some (.int .u16 ty) ∧ w'.cell? ⟨W.heap.size, 6, none⟩ = some (.int .u32 rs) ∧ w'.cell? ⟨W.heap.size, 7, none⟩ = some (.bool va) ∧ w'.cell? ⟨W.heap.size + 1, 0, none⟩ = some (.int .u32 cu') ∧ w'.cell? ⟨W.heap.size + 1, 1, none⟩ = some (.int .u8 e') ∧ w'.cell? ⟨W.heap.size + 1, 2, none⟩ = some (.int .u16 b') ∧ w'.cell? ⟨W.heap.size + 1, 3, none⟩ = some (.int .u16 t') ∧ w'.cell? ⟨W.heap.size + 1, 4, none⟩ = some (.int .u16 pm') ∧ w'.cell? ⟨W.heap.size + 1, 5, none⟩ = some (.int .u16 ty') ∧ w'.cell? ⟨W.heap.size + 1, 6, none⟩ = some (.int .u32 rs') ∧ w'.cell? ⟨W.heap.size + 1, 7, none⟩ = some (.bool va') ∧ KS W (W.heap.size + 1 + 1) [⟨W.heap.size + 1, cv cu' e' b' t' pm' ty' rs' va'⟩, ⟨W.heap.size, cv cu e b t pm ty rs va⟩] w') := fun w h => by
    have p0 : CapAt w (W.heap.size) cu e b t pm ty rs va := h.k.cap (by simp)
    have p1 : CapAt w (W.heap.size + 1) cu' e' b' t' pm' ty' rs' va' := h.k.cap (by simp)
    exact ⟨p0.q0, p0.q1, p0.q2, p0.q3, p0.q4, p0.q5, p0.q6, p0.q7, p1.q0, p1.q1, p1.q2, p1.q3, p1.q4, p1.q5, p1.q6, p1.q7, h⟩
  replace tr := Lib.hid tr
  replace all := Lib.hid all
  replace K := Lib.hid K
  replace qA := Lib.hid qA
  go_enter Tryz.func150, Tryz.ntmps150
  go_wp2_with fail
  generalize (((W.alloc (.cells #[.int .u32 cu, .int .u8 e, .int .u16 b, .int .u16 t, .int .u16 pm, .int .u16 ty, .int .u32 rs, .bool va] 25)).alloc (.cells #[.int .u32 cu', .int .u8 e', .int .u16 b', .int .u16 t', .int .u16 pm', .int .u16 ty', .int .u32 rs', .bool va'] 25)).alloc (.cells #[.int .u32 0, .int .u8 0, .int .u16 0, .int .u16 0, .int .u16 0, .int .u16 0, .int .u32 0, .bool false] 25)) = W1 at *
  go_region_held3 (fun w' => w'.cell? ⟨W.heap.size, 0, none⟩ = some (.int .u32 cu) ∧ w'.cell? ⟨W.heap.size, 1, none⟩ = some (.int .u8 e) ∧ w'.cell? ⟨W.heap.size, 2, none⟩ = some (.int .u16 b) ∧ w'.cell? ⟨W.heap.size, 3, none⟩ = some (.int .u16 t) ∧ w'.cell? ⟨W.heap.size, 4, none⟩ = some (.int .u16 pm) ∧ w'.cell? ⟨W.heap.size, 5, none⟩ = some (.int .u16 ty) ∧ w'.cell? ⟨W.heap.size, 6, none⟩ = some (.int .u32 rs) ∧ w'.cell? ⟨W.heap.size, 7, none⟩ = some (.bool va) ∧ w'.cell? ⟨W.heap.size + 1, 0, none⟩ = some (.int .u32 cu') ∧ w'.cell? ⟨W.heap.size + 1, 1, none⟩ = some (.int .u8 e') ∧ w'.cell? ⟨W.heap.size + 1, 2, none⟩ = some (.int .u16 b') ∧ w'.cell? ⟨W.heap.size + 1, 3, none⟩ = some (.int .u16 t') ∧ w'.cell? ⟨W.heap.size + 1, 4, none⟩ = some (.int .u16 pm') ∧ w'.cell? ⟨W.heap.size + 1, 5, none⟩ = some (.int .u16 ty') ∧ w'.cell? ⟨W.heap.size + 1, 6, none⟩ = some (.int .u32 rs') ∧ w'.cell? ⟨W.heap.size + 1, 7, none⟩ = some (.bool va') ∧ KS W (W.heap.size + 1 + 1) [⟨W.heap.size + 1, cv cu' e' b' t' pm' ty' rs' va'⟩, ⟨W.heap.size, cv cu e b t pm ty rs va⟩] w')
    (first | with_reducible exact all.out _ K.out.drew | with_reducible exact k1 | with_reducible exact all.out _ ((tr.out _ (by assumption)).alloc _) | with_reducible exact all.out _ ((tr.out _ (by assumption)).store8 _ _ _ _ _ _ _ _))
    (first
      | (go_at_call 142; ((with_reducible refine (cO.out _).mono ?_); rintro ee Z ⟨v_, rfl, hq, g⟩; have k1 := all.out _ ((tr.out _ (by assumption)).below g); clear g; obtain ⟨f_, c_, rfl⟩ := hq.fn; replace hq := Lib.hid hq; have hqb := Lib.hid (qA.out _ (tr.out _ k1))))
      | (go_at_call 141; ((with_reducible refine (pAll2_any hq.out hqb.out _).mono ?_); rintro ee Z ⟨v_, rfl, hqa, g⟩; have k1 := all.out _ ((tr.out _ (by assumption)).below g); clear g; replace hqa := Lib.hid hqa))
      | (go_at_call 133; ((with_reducible refine (cM.out _ _ _ hqa.out).mono ?_); rintro ee X ⟨rfl, g⟩; have k1 := all.out _ ((tr.out _ (by assumption)).below g); clear g; have kk := Lib.hid (tr.out _ k1); obtain ⟨v0, v1, v2, v3, v4, v5, v6, v7, r0, r1, r2, r3, r4, r5, r6, r7, fr⟩ := (tr.out _ k1).cells)))
  have hf := Lib.hid (kk.out.store cu e b t pm ty rs (q && z))
  go_wp2_with fail
  change bodyPost _ _ _ _ _ (setRow (W.heap.size + 1 + 1) 0 (cv cu e b t pm ty rs (q && z)) X)
  clear r0 r1 r2 r3 r4 r5 r6 r7 fr
  generalize setRow (W.heap.size + 1 + 1) 0 (cv cu e b t pm ty rs (q && z)) X = w3 at *
  obtain ⟨z0, z1, z2, z3, z4, z5, z6, z7⟩ := hf.out.cap (g := W.heap.size + 1 + 1) (List.mem_cons_self ..)
  exact bodyPost_ret (v := .agg #[.int .u32 cu, .int .u8 e, .int .u16 b, .int .u16 t, .int .u16 pm, .int .u16 ty, .int .u32 rs, .bool (q && z)]) (by simp [results, Tryz.results150, go_sem, z0, z1, z2, z3, z4, z5, z6, z7]) rfl ⟨rfl, hf.out.bl⟩
end Go.Proofs.YtkmgdfcambdeeaaGreatDoor
