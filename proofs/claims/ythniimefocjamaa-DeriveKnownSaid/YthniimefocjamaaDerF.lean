/- Contract of derive's Addr. No statement is proved here. -/
import Derived.Test.YthniimefocjamaaDerE
import Derived.Deep.RegionHeld3
namespace Go.Proofs.Ythniimefocjamaa
open Go.RowKit
set_option linter.unusedVariables false

set_option maxHeartbeats 4000000 in
theorem pAddr_any (cu e b t pm ty rs : Nat) (va : Bool) (to_ : Nat) (l0 : cu < 4294967296) (l1 : e < 256) (l2 : b < 65536) (l3 : t < 65536) (l4 : pm < 65536) (l5 : ty < 65536) (l6 : rs < 4294967296) (lt : to_ < 4294967296) (W : World) :
    Calls Try.prog 24 #[.agg #[.int .u32 cu, .int .u8 e, .int .u16 b, .int .u16 t, .int .u16 pm, .int .u16 ty, .int .u32 rs, .bool va], .int .u32 to_] W fun ee w' => ee = .returned (.agg #[.int .u32 to_, .int .u8 e, .int .u16 b, .int .u16 t, .int .u16 pm, .int .u16 ty, .int .u32 rs, .bool (va && decide (ty = 0) && kp e b t cu to_)]) ∧ Below W.heap.size W w' := by
  have cC := Lib.hid (fun w => pchange_any _ to_ cu e b t pm ty rs va to_ e b t pm ty rs va (mMove cu e b t pm ty rs va to_) w)
  have cO := Lib.hid (fun w => pOpen_any cu e b t pm ty rs va w)
  have cM := Lib.hid (fun q bq w h => pMark_any to_ e b t pm ty rs va q bq w h)
  have qA : ∀ w, KS W (W.heap.size + 1 + 1) [⟨W.heap.size + 1, [.int .u32 to_]⟩, ⟨W.heap.size, cv cu e b t pm ty rs va⟩] w → Ques w (.func (.func 53) #[] #[.pointer (some ⟨W.heap.size, 0, none⟩), .pointer (some ⟨W.heap.size + 1, 0, none⟩)]) (kp e b t cu to_) := fun w k =>
    ⟨_, _, rfl, fun w' => by kernel_rfl, fun w' m => pAddr1_any _ _ cu e b t pm ty rs va to_ l0 l1 l2 l3 l4 l5 l6 lt w' ((k.below m).k.cap (by simp)) ((k.below m).k.cell [.int .u32 to_] (by simp) rfl)⟩
  have K : KS W (W.heap.size + 1 + 1) [⟨W.heap.size + 1, [.int .u32 to_]⟩, ⟨W.heap.size, cv cu e b t pm ty rs va⟩] (((W.alloc (.cells #[.int .u32 cu, .int .u8 e, .int .u16 b, .int .u16 t, .int .u16 pm, .int .u16 ty, .int .u32 rs, .bool va] 25)).alloc (.cells #[.int .u32 to_] 22)).alloc (.cells #[.int .u32 0, .int .u8 0, .int .u16 0, .int .u16 0, .int .u16 0, .int .u16 0, .int .u32 0, .bool false] 25)) := by
    have hk := (((KR.start (W := W)).push (cv cu e b t pm ty rs va) 25).push [.int .u32 to_] 22).push (cv 0 0 0 0 0 0 0 false) 25
    rw [World.size_alloc, World.size_alloc] at hk
    exact KS.of hk (by omega) (by simp <;> omega)
  generalize kp e b t cu to_ = z at *
  generalize (va && decide (ty = 0)) = q at *
  have tr : ∀ w, (w.cell? ⟨W.heap.size, 0, none⟩ = some (.int .u32 cu) ∧ w.cell? ⟨W.heap.size, 1, none⟩ = some (.int .u8 e) ∧ w.cell? ⟨W.heap.size, 2, none⟩ = some (.int .u16 b) ∧ w.cell? ⟨W.heap.size, 3, none⟩ = some (.int .u16 t) ∧ w.cell? ⟨W.heap.size, 4, none⟩ = some (.int .u16 pm) ∧ w.cell? ⟨W.heap.size, 5, none⟩ = some (.int .u16 ty) ∧ w.cell? ⟨W.heap.size, 6, none⟩ = some (.int .u32 rs) ∧ w.cell? ⟨W.heap.size, 7, none⟩ = some (.bool va) ∧ w.cell? ⟨W.heap.size + 1, 0, none⟩ = some (.int .u32 to_) ∧ KS W (W.heap.size + 1 + 1) [⟨W.heap.size + 1, [.int .u32 to_]⟩, ⟨W.heap.size, cv cu e b t pm ty rs va⟩] w) → KS W (W.heap.size + 1 + 1) [⟨W.heap.size + 1, [.int .u32 to_]⟩, ⟨W.heap.size, cv cu e b t pm ty rs va⟩] w := fun w h => h.2.2.2.2.2.2.2.2.2
  have all : ∀ w, KS W (W.heap.size + 1 + 1) [⟨W.heap.size + 1, [.int .u32 to_]⟩, ⟨W.heap.size, cv cu e b t pm ty rs va⟩] w → (w.cell? ⟨W.heap.size, 0, none⟩ = some (.int .u32 cu) ∧ w.cell? ⟨W.heap.size, 1, none⟩ = some (.int .u8 e) ∧ w.cell? ⟨W.heap.size, 2, none⟩ = some (.int .u16 b) ∧ w.cell? ⟨W.heap.size, 3, none⟩ = some (.int .u16 t) ∧ w.cell? ⟨W.heap.size, 4, none⟩ = some (.int .u16 pm) ∧ w.cell? ⟨W.heap.size, 5, none⟩ = some (.int .u16 ty) ∧ w.cell? ⟨W.heap.size, 6, none⟩ = some (.int .u32 rs) ∧ w.cell? ⟨W.heap.size, 7, none⟩ = some (.bool va) ∧ w.cell? ⟨W.heap.size + 1, 0, none⟩ = some (.int .u32 to_) ∧ KS W (W.heap.size + 1 + 1) [⟨W.heap.size + 1, [.int .u32 to_]⟩, ⟨W.heap.size, cv cu e b t pm ty rs va⟩] w) := fun w h => by
    have p : CapAt w W.heap.size cu e b t pm ty rs va := h.k.cap (by simp)
    exact ⟨p.q0, p.q1, p.q2, p.q3, p.q4, p.q5, p.q6, p.q7, h.k.cell [.int .u32 to_] (by simp) rfl, h⟩
  replace tr := Lib.hid tr
  replace all := Lib.hid all
  replace qA := Lib.hid qA
  replace K := Lib.hid K
  go_enter Try.func24, Try.ntmps24
  go_wp2_with fail
  generalize (((W.alloc (.cells #[.int .u32 cu, .int .u8 e, .int .u16 b, .int .u16 t, .int .u16 pm, .int .u16 ty, .int .u32 rs, .bool va] 25)).alloc (.cells #[.int .u32 to_] 22)).alloc (.cells #[.int .u32 0, .int .u8 0, .int .u16 0, .int .u16 0, .int .u16 0, .int .u16 0, .int .u32 0, .bool false] 25)) = W1 at *
  go_region_held3 (fun w' => w'.cell? ⟨W.heap.size, 0, none⟩ = some (.int .u32 cu) ∧ w'.cell? ⟨W.heap.size, 1, none⟩ = some (.int .u8 e) ∧ w'.cell? ⟨W.heap.size, 2, none⟩ = some (.int .u16 b) ∧ w'.cell? ⟨W.heap.size, 3, none⟩ = some (.int .u16 t) ∧ w'.cell? ⟨W.heap.size, 4, none⟩ = some (.int .u16 pm) ∧ w'.cell? ⟨W.heap.size, 5, none⟩ = some (.int .u16 ty) ∧ w'.cell? ⟨W.heap.size, 6, none⟩ = some (.int .u32 rs) ∧ w'.cell? ⟨W.heap.size, 7, none⟩ = some (.bool va) ∧ w'.cell? ⟨W.heap.size + 1, 0, none⟩ = some (.int .u32 to_) ∧ KS W (W.heap.size + 1 + 1) [⟨W.heap.size + 1, [.int .u32 to_]⟩, ⟨W.heap.size, cv cu e b t pm ty rs va⟩] w')
    (first | with_reducible exact all.out _ K.out.drew | with_reducible exact k1 | with_reducible exact all.out _ ((tr.out _ (by assumption)).alloc _) | with_reducible exact all.out _ ((tr.out _ (by assumption)).store8 _ _ _ _ _ _ _ _))
    (first
      | (go_at_call 56; ((with_reducible refine (cC.out _).mono ?_); rintro ee Z ⟨rfl, g⟩; have k1 := all.out _ ((tr.out _ (by assumption)).below g); clear g))
      | (go_at_call 59; ((with_reducible refine (cO.out _).mono ?_); rintro ee Z ⟨v1, rfl, hq, g⟩; have k1 := all.out _ ((tr.out _ (by assumption)).below g); clear g; obtain ⟨f1, c1, rfl⟩ := hq.fn; replace hq := Lib.hid hq; have hq2 := Lib.hid (qA.out _ (tr.out _ k1))))
      | (go_at_call 58; ((with_reducible refine (pAll2_any hq.out hq2.out _).mono ?_); rintro ee Z ⟨v2, rfl, hq3, g⟩; have k1 := all.out _ ((tr.out _ (by assumption)).below g); clear g; replace hq3 := Lib.hid hq3))
      | (go_at_call 55; ((with_reducible refine (cM.out _ _ _ hq3.out).mono ?_); rintro ee X ⟨rfl, g⟩; have k1 := all.out _ ((tr.out _ (by assumption)).below g); clear g; have kk := Lib.hid (tr.out _ k1); obtain ⟨v0, v1, v2, v3, v4, v5, v6, v7, r0, r1, r2, r3, r4, r5, r6, r7, fr⟩ := (tr.out _ k1).cells)))
  have hf := Lib.hid (kk.out.store to_ e b t pm ty rs (q && z))
  go_wp2_with fail
  change bodyPost _ _ _ _ _ (setRow (W.heap.size + 1 + 1) 0 (cv to_ e b t pm ty rs (q && z)) X)
  clear r0 r1 r2 r3 r4 r5 r6 r7 fr
  generalize setRow (W.heap.size + 1 + 1) 0 (cv to_ e b t pm ty rs (q && z)) X = w3 at *
  obtain ⟨z0, z1, z2, z3, z4, z5, z6, z7⟩ := hf.out.cap (g := W.heap.size + 1 + 1) (List.mem_cons_self ..)
  exact bodyPost_ret (v := .agg #[.int .u32 to_, .int .u8 e, .int .u16 b, .int .u16 t, .int .u16 pm, .int .u16 ty, .int .u32 rs, .bool (q && z)]) (by simp [results, Try.results24, go_sem, z0, z1, z2, z3, z4, z5, z6, z7]) rfl ⟨rfl, hf.out.bl⟩
end Go.Proofs.Ythniimefocjamaa
