/- Contracts of layer asm, the program's side: a jump gets its way. No statement is proved here. -/
import Derived.Test.YtdkggahkfheocaaGreatDoorAsX
import Derived.Test.YtdkggahkfheocaaGreatDoorNew0
namespace Go.Proofs.YtdkggahkfheocaaGreatDoor
set_option maxRecDepth 100000
open Go.RowKit Go.Lib
set_option linter.unusedVariables false

/-- What comes of one jump: what is wrong, or 0, and the words. -/
def linkV (labs : List (List UInt8 × Nat)) (ws : List Int) (k : Nat) (lab : List UInt8) (n : Nat) : Int × List Int := match linkOne labs k (ws.getD k 0) lab n with
  | .error (c, _) => (c, ws)
  | .ok x => (0, ws.set k x)
def LinkPost (W : World) (X : List Rw) (gs mb : Nat) (js : List (Nat × Nat × List UInt8)) (labs : List (List UInt8 × Nat)) (R : Int × List Int) (vw vj : Value) (e : Ending) (w' : World) : Prop :=
  e = .returned (.int .i64 R.1) ∧ PS W X gs mb R.2 js labs vw vj w'
theorem PS.setW {W w : World} {X : List Rw} {gs mb : Nat} {ws : List Int} {js : List (Nat × Nat × List UInt8)} {labs : List (List UInt8 × Nat)} {vj : Value} {g n cap : Nat}
    (h : PS W X gs mb ws js labs (.slice (some ⟨g, 0, none⟩) n cap) vj w) (hn : n = ws.length) (k : Nat) (x : Int) : PS W X gs mb (ws.set k x) js labs (.slice (some ⟨g, 0, none⟩) n cap) vj (w.setCell ⟨g, k, none⟩ (wV x)) := by
  subst hn
  obtain ⟨ho, hgr⟩ := h.ow.stored k (wV x)
  have hd1 : g ≠ gs := fun e => h.d1 (by simp [Value.ownBlock, e])
  refine ⟨h.k.far (h.ow.lt g rfl).1 (fun x hx e => ?_) k _, ?_, h.oj.kept hgr ?_, lm_cell h.m g k _ (fun e => h.d2 (by simp [Value.ownBlock, e])), h.d1, h.d2, h.d3, h.d4, h.d5, h.d6, h.d7, h.hg, h.hm⟩
  · rcases List.mem_cons.1 hx with rfl | hx
    · exact hd1 e.symm
    · exact (h.d6 x hx).1 (by simp [Value.ownBlock, e])
  · rw [List.length_set, List.map_set]
    exact ho
  · cases hv : vj.ownBlock with
    | none => exact .inl rfl
    | some q => exact .inr (fun e => h.d5 g rfl (by rw [hv, e]))
set_option maxHeartbeats 8000000 in
theorem link_any (W w : World) (X : List Rw) (gs mb : Nat) (ws : List Int) (js : List (Nat × Nat × List UInt8)) (labs : List (List UInt8 × Nat)) (vw vj : Value) (h : PS W X gs mb ws js labs vw vj w) (hT : T8 W) (n k : Nat) (lab : List UInt8) (hk : k < ws.length) (hw : ws.length ≤ 4096) (hw32 : W32 ws) (hlab : lab.length ≤ 32768)
    (hp : ∀ p, labF labs lab = some p → p ≤ 4096) (hn : n ≤ 40000) :
    Calls Tryz.prog 48 #[.pointer (some ⟨gs, 0, none⟩), .agg #[.int .i64 n, .int .i64 k, .string ⟨lab.toArray⟩]] w (LinkPost W X gs mb js labs (linkV labs ws k lab n) vw vj) := by
  obtain ⟨D, hD⟩ : ∃ D, D = LinkPost W X gs mb js labs (linkV labs ws k lab n) vw vj := ⟨_, rfl⟩
  rw [← hD]
  replace hD := Lib.hid hD
  obtain ⟨g, cap, rfl, hgb, hgl⟩ := h.ow.form (by omega)
  -- the box of the jump
  have hb0 : Below w.heap.size w (w.alloc (.cells #[.int .i64 n, .int .i64 k, .string ⟨lab.toArray⟩] 89)) := (Below.refl _ _).alloc (Nat.le_refl _) _
  have H1 := h.below hb0
  have KB := h.k.push [.int .i64 n, .int .i64 k, .string ⟨lab.toArray⟩] 89
  obtain ⟨w1, hw1⟩ : ∃ w1, w1 = w.alloc (.cells #[.int .i64 n, .int .i64 k, .string ⟨lab.toArray⟩] 89) := ⟨_, rfl⟩
  have KB1 : KR W (⟨w.heap.size, [.int .i64 n, .int .i64 k, .string ⟨lab.toArray⟩]⟩ :: ⟨gs, [.slice (some ⟨g, 0, none⟩) ws.length cap, .map (some mb), vj]⟩ :: X) w1 := by rw [hw1]; exact KB
  rw [← hw1] at H1
  have hsm : lab.length ≤ maxLen := by unfold maxLen; omega
  have hL := fun (m : Nat) => (H1.below (below_drewN (Below.refl _ _) m)).m.look lab hsm
  obtain ⟨c0, c1, c2, f0, f2⟩ := H1.cells
  have b0 : w1.cell? ⟨w.heap.size, 0, none⟩ = some (.int .i64 n) := KB1.cell _ (List.mem_cons_self ..) rfl
  have b1 : w1.cell? ⟨w.heap.size, 1, none⟩ = some (.int .i64 k) := KB1.cell _ (List.mem_cons_self ..) rfl
  have b2 : w1.cell? ⟨w.heap.size, 2, none⟩ = some (.string ⟨lab.toArray⟩) := KB1.cell _ (List.mem_cons_self ..) rfl
  have hVd : linkV labs ws k lab n = match linkOne labs k (ws.getD k 0) lab n with
    | .error (c, _) => (c, ws)
    | .ok x => (0, ws.set k x) := rfl
  unfold linkOne at hVd
  replace hT := Lib.hid hT
  replace H1 := Lib.hid H1
  replace KB1 := Lib.hid KB1
  clear hb0 KB hsm
  cases hf : labF labs lab with
  | none =>
    rw [hf] at hVd
    simp only [hf, Option.isSome_none, Option.getD_none] at hL
    replace hVd := Lib.hid hVd
    clear hp hf h hk hw hn hlab
    replace hw1 := Lib.hid hw1
    go_enter Tryz.func48, Tryz.ntmps48
    go_wp2_with fail
    rw [← hw1.out]
    clear hw1
    go_quiet (fail)
    go_wp2
    rw [hD.out, hVd.out]
    exact (show _ ∧ _ from ⟨rfl, H1.out.below (below_drewN (Below.refl _ _) _)⟩)
  | some p =>
    have hp4 := hp p hf
    have hgd : ws.getD k 0 = ws[k] := by rw [List.getD_eq_getElem?_getD, List.getElem?_eq_getElem hk]; rfl
    rw [hf, hgd] at hVd
    simp only [hf, Option.isSome_some, Option.getD_some] at hL
    have hbd := hw32 ws[k] (List.getElem_mem hk)
    have hck : ∀ u, PS W X gs mb ws js labs (.slice (some ⟨g, 0, none⟩) ws.length cap) vj u → u.cell? ⟨g, k, none⟩ = some (.int .u32 ws[k]) ∧ u.frozen? ⟨g, k, none⟩ = false := fun u hu => by
      refine ⟨?_, hu.ow.frozenAt k⟩
      rw [hu.ow.cellAt k (by omega), List.getElem?_map, List.getElem?_eq_getElem hk]; rfl
    have hDec := fun u hu => pDecode_any ws[k] hbd.1 hbd.2 u hu
    unfold DecPost at hDec
    generalize ws[k] = x at *
    generalize decW x = i at *
    obtain ⟨op, a, b, c, m⟩ := i
    replace hDec : ∀ u, Tabs u → Calls Tryz.prog 24 #[.int .u32 x] u fun e w' => e = .returned (.agg #[.int .i64 op, .int .i64 a, .int .i64 b, .int .i64 c, .int .i64 m]) ∧ Below u.heap.size u w' := hDec
    have hEnc := fun u hu => pEncode_any op a b c ((p : Int) - (k : Int)) u hu
    replace hVd := Lib.hid hVd
    replace hw1 := Lib.hid hw1
    replace hck := Lib.hid hck
    replace hDec := Lib.hid hDec
    replace hEnc := Lib.hid hEnc
    have hkw : (k : Int) < (ws.length : Int) := by omega
    have hwl : (ws.length : Int) ≤ 4096 := by omega
    have hpi : (p : Int) ≤ 4096 := by omega
    have hkk := Lib.hid hk
    clear hp hf h hw hn hlab hgd hbd hp4 hk
    go_enter Tryz.func48, Tryz.ntmps48
    go_wp2_with fail
    rw [← hw1.out]
    clear hw1
    go_quiet (fail)
    go_wp2_with fail
    generalize hgbe : w.heap.size = gb at *
    obtain ⟨S, hS0⟩ : ∃ S : World → Prop, S = fun u => Below w1.heap.size w1 u := ⟨_, rfl⟩
    have hK : ∀ u, S u → Below w1.heap.size w1 u := fun u hu => by rw [hS0] at hu; exact hu
    have hSt : Stay S := fun u u' hu k => by rw [hS0] at hu ⊢; exact hu.trans (k.mono hu.size)
    have K0 : ∀ m, S (w1.drewN m) := fun m => by rw [hS0]; exact below_drewN (Below.refl _ _) m
    have hgs1 : gs < w1.heap.size := H1.out.k.lt (List.mem_cons_self ..)
    have hg1 : g < w1.heap.size := (H1.out.ow.lt g rfl).2
    have hgb1 : gb < w1.heap.size := KB1.out.lt (List.mem_cons_self ..)
    obtain ⟨e0, e1⟩ := hck.out w1 H1.out
    have K1 : ∀ m, S (w1.drewN m).drew := fun m => by rw [hS0]; exact (below_drewN (Below.refl _ _) m).drew
    clear hS0 hL
    refine region_new (aF := ?aF) S 9 1 (fun _ => [.int .i64 0, .int .i64 0, .int .i64 0, .int .i64 0, .int .i64 0]) w1.heap.size (by kernel_rfl) (by kernel_rfl) (K1 _) (Nat.le_refl _) hSt (fun k o hk ho => ?hN) (fun S' h1 h2 => ?hW) (fun bs w' hb hS hrow hdis => ?hT)
    case hW =>
      have a0 : ∀ y : Wd S', y.w.cell? ⟨gs, 0, none⟩ = some (.slice (some ⟨g, 0, none⟩) ws.length cap) := fun y => ((hK _ (h1 _ y.h)).cell (p := ⟨gs, 0, none⟩) hgs1).trans c0
      have a1 : ∀ y : Wd S', y.w.cell? ⟨gb, 1, none⟩ = some (.int .i64 k) := fun y => ((hK _ (h1 _ y.h)).cell (p := ⟨gb, 1, none⟩) hgb1).trans b1
      have a2 : ∀ y : Wd S', y.w.cell? ⟨g, k, none⟩ = some (.int .u32 x) := fun y => ((hK _ (h1 _ y.h)).cell (p := ⟨g, k, none⟩) hg1).trans e0
      have cD := Lib.hid (cls_call (S := S') fun u hu => (hDec.out u (hT.out.below (H1.out.below (hK _ (h1 _ hu))).k.bl).tabs).mono fun e u' k => (⟨k.1, h2 _ _ hu k.2⟩ : _ ∧ S' u'))
      simp only [List.take_succ_cons, List.take_zero]
      repeat (first
        | go_big_quiet_skip
        | (go_big_quiet_want
           go_big_quiet_op
           first
           | go_big_quiet_on
           | (apply Exists.intro
              refine ⟨fun y => ?_, ?_⟩
              · first | exact rfl | with_reducible exact cD.out y
              go_big_quiet_on)))
      refine wpQuiet_nil ?_
      exact rfl
    case hN =>
      obtain rfl : k = 0 := by omega
      simp only [List.getElem?_cons_succ, List.getElem?_cons_zero, Nat.add_zero, Option.some.injEq] at ho
      subst ho
      exact ⟨rfl, 49, fun a w => by kernel_rfl⟩
    case hT =>
      obtain ⟨b5, rfl⟩ : ∃ b5, bs = [b5] := List.length_eq_one_iff.1 hb
      obtain ⟨r1, r2⟩ := hrow 0 b5 rfl
      have hkr : KR w1 [⟨b5, [.int .i64 0, .int .i64 0, .int .i64 0, .int .i64 0, .int .i64 0]⟩] w' := ⟨hK _ hS, fun x hx => by
        rcases List.mem_cons.1 hx with rfl | hx
        · exact r1
        · cases hx⟩
      clear r1 hS hrow hdis hK hSt K0 K1 e0 e1
      obtain ⟨q0, q1, q2, q3, q4, q5⟩ := hkr.cells5 (g := b5) (List.mem_cons_self ..)
      have hks := hkr.set5 r2 (fun x hx => by cases hx) (.int .i64 op) (.int .i64 a) (.int .i64 b) (.int .i64 c) (.int .i64 m)
      replace hks := Lib.hid hks
      clear hkr
      simp only [List.drop_succ_cons, List.drop_zero, List.take_succ_cons, List.take_zero, putL, ptr]
      go_upto_region 5 with (fail)
      obtain ⟨w5, hw5⟩ : ∃ w5, w5 = (((((w'.setCell ⟨b5, 0, none⟩ (.int .i64 op)).setCell ⟨b5, 1, none⟩ (.int .i64 a)).setCell ⟨b5, 2, none⟩ (.int .i64 b)).setCell ⟨b5, 3, none⟩ (.int .i64 c)).setCell ⟨b5, 4, none⟩ (.int .i64 m)) := ⟨_, rfl⟩
      change Code.wp _ _ _ _ (((((w'.setCell ⟨b5, 0, none⟩ (.int .i64 op)).setCell ⟨b5, 1, none⟩ (.int .i64 a)).setCell ⟨b5, 2, none⟩ (.int .i64 b)).setCell ⟨b5, 3, none⟩ (.int .i64 c)).setCell ⟨b5, 4, none⟩ (.int .i64 m))
      rw [← hw5] at hks
      rw [← hw5]
      clear hw5 q0 q1 q2 q3 q4 q5
      have d1 : w5.cell? ⟨gb, 1, none⟩ = some (.int .i64 k) := (hks.out.bl.cell (p := ⟨gb, 1, none⟩) hgb1).trans b1
      have d4 : w5.cell? ⟨b5, 4, none⟩ = some (.int .i64 m) := hks.out.cell _ (List.mem_cons_self ..) rfl
      have df : w5.frozen? ⟨b5, 4, none⟩ = false := hks.out.soft (List.mem_cons_self ..) _
      have hk6 := hks.out.set r2 (fun x hx => by cases hx) 4 (.int .i64 ((p : Int) - k)) (by simp)
      obtain ⟨w6, hw6⟩ : ∃ w6, w6 = w5.setCell ⟨b5, 4, none⟩ (.int .i64 ((p : Int) - k)) := ⟨_, rfl⟩
      rw [← hw6] at hk6
      replace hk6 : KR w1 [⟨b5, [.int .i64 op, .int .i64 a, .int .i64 b, .int .i64 c, .int .i64 ((p : Int) - k)]⟩] w6 := hk6
      replace hk6 := Lib.hid hk6
      go_upto_region 6 with (fail)
      change Code.wp _ _ _ _ (w5.setCell ⟨b5, 4, none⟩ (.int .i64 ((p : Int) - k)))
      rw [← hw6]
      clear hw6 d1 d4 df hks
      obtain ⟨q0, q1, q2, q3, q4, q5⟩ := hk6.out.cells5 (g := b5) (List.mem_cons_self ..)
      have H6 := H1.out.below hk6.out.bl
      have hE6 := hEnc.out w6 (hT.out.below H6.k.bl).tabs
      cases hm : mayB ⟨op, a, b, c, (p : Int) - k⟩ with
      | false =>
        have hE7 := hE6.mono (R' := fun e u => e = .returned (.tuple #[.int .u32 0, .int .i64 2]) ∧ Below w6.heap.size w6 u) fun e u q => q.at_no hm
        have hVV := Lib.hid (hVd.out.trans (show (_ : Int × List Int) = (3, ws) from by simp only [hm]; rfl))
        replace hE7 := Lib.hid hE7
        replace H6 := Lib.hid H6
        clear hE6 hm
        go_wp2_with (refine hE7.out.mono ?_; rintro e w7 ⟨rfl, k7⟩; have H7 := Lib.hid (H6.out.below k7); clear k7)
        rw [hD.out, hVV.out]
        exact (show _ ∧ _ from ⟨rfl, H7.out⟩)
      | true =>
        have hE7 := hE6.mono (R' := fun e u => e = .returned (.tuple #[.int .u32 (encW ⟨op, a, b, c, (p : Int) - k⟩), .int .i64 0]) ∧ Below w6.heap.size w6 u) fun e u q => q.at_yes hm
        have hVV := Lib.hid (hVd.out.trans (show (_ : Int × List Int) = (0, ws.set k (encW ⟨op, a, b, c, (p : Int) - k⟩)) from by simp only [hm]; rfl))
        generalize encW ⟨op, a, b, c, (p : Int) - k⟩ = z at *
        replace hE7 := Lib.hid hE7
        replace H6 := Lib.hid H6
        clear hE6 hm
        go_wp2_with (refine hE7.out.mono ?_; rintro e w7 ⟨rfl, k7⟩; have H7 := H6.out.below k7; have hb7 := hk6.out.bl.trans (k7.mono hk6.out.bl.size); have s0 : w7.cell? ⟨gs, 0, none⟩ = some (.slice (some ⟨g, 0, none⟩) ws.length cap) := H7.cells.1; have s1 : w7.cell? ⟨gb, 1, none⟩ = some (.int .i64 k) := (hb7.cell (p := ⟨gb, 1, none⟩) hgb1).trans b1; obtain ⟨s2, s3⟩ := hck.out w7 H7; replace H7 := Lib.hid H7; clear k7 hb7)
        go_still_tail 8, (by kernel_rfl)
        change wpList _ _ _ _ _ w7.drew
        have H8 := Lib.hid ((H7.out.below (Below.refl _ _).drew).setW rfl k z)
        go_wp2
        rw [hD.out, hVV.out]
        exact (show _ ∧ _ from ⟨rfl, H8.out⟩)
end Go.Proofs.YtdkggahkfheocaaGreatDoor
