/- Contracts of layer asm, the document's side: what a line's words say. No statement is proved here. -/
import Derived.Test.YtdkggahkfheocaaGreatDoorAsDm
import Derived.Test.YtdkggahkfheocaaGreatDoorAsDa
import Derived.Test.YtdkggahkfheocaaGreatDoorIsU
import Derived.Test.YtdkggahkfheocaaGreatDoorIsS
import Derived.Test.YtdkggahkfheocaaGreatDoorIsR
namespace Go.Proofs.YtdkggahkfheocaaGreatDoor
set_option maxRecDepth 100000
open Go.RowKit Go.Lib
set_option linter.unusedVariables false

def itV (w : Int) (i : Ins) (lab : List UInt8) : List Value := [.int .u32 w, .int .i64 i.op, .int .i64 i.a, .int .i64 i.b, .int .i64 i.c, .int .i64 i.m, .string ⟨lab.toArray⟩]
/-- The texts at A. -/
def TL (w : World) (A : Option Addr) (ts : List (List UInt8)) : Prop := ∃ b, A = some ⟨b, 0, none⟩ ∧ b < w.heap.size ∧ ∀ j t, ts[j]? = some t → w.cell? ⟨b, j, none⟩ = some (strV t)
def RdPost (W : World) (R : Option (Int × Ins × List UInt8)) (e : Ending) (w' : World) : Prop := match R with
  | some (x, i, lab) => e = .returned (.tuple #[.agg (itV x i lab).toArray, .bool true]) ∧ Below W.heap.size W w'
  | none => ∃ x i lab, e = .returned (.tuple #[.agg (itV x i lab).toArray, .bool false]) ∧ Below W.heap.size W w'
theorem RdPost.no {W w' : World} {R : Option (Int × Ins × List UInt8)} {e : Ending} {x : Int} {i : Ins} {lab : List UInt8} (hR : R = none) (he : e = .returned (.tuple #[.agg (itV x i lab).toArray, .bool false])) (k : Below W.heap.size W w') : RdPost W R e w' := by
  subst hR; exact ⟨_, _, _, he, k⟩
theorem RdPost.yes {W w' : World} {R : Option (Int × Ins × List UInt8)} {e : Ending} {x : Int} {i : Ins} {lab : List UInt8} (hR : R = some (x, i, lab)) (he : e = .returned (.tuple #[.agg (itV x i lab).toArray, .bool true])) (k : Below W.heap.size W w') : RdPost W R e w' := by
  subst hR; exact ⟨he, k⟩
theorem docA_reg {op : Int} {x : UInt8} {f : List UInt8} {i : Ins} {lab t : List UInt8} {ts : List (List UInt8)} (hx : preB x = true) (h : regT t = true) : docA op (x :: f) i lab (t :: ts) = docA op f (setF i x (regN t)) lab ts := by
  rw [docA_cons, if_pos hx, if_pos h]
theorem docA_reg0 {op : Int} {x : UInt8} {f : List UInt8} {i : Ins} {lab t : List UInt8} {ts : List (List UInt8)} (hx : preB x = true) (h : regT t = false) : docA op (x :: f) i lab (t :: ts) = none := by
  rw [docA_cons, if_pos hx, if_neg (by rw [h]; decide)]
theorem docA_num {op : Int} {x : UInt8} {f : List UInt8} {i : Ins} {lab t : List UInt8} {ts : List (List UInt8)} (hx : preB x = false) (h : sgnT t = true) : docA op (x :: f) i lab (t :: ts) = docA op f (setF i x (sgnN t)) lab ts := by
  rw [docA_cons, if_neg (by rw [hx]; decide), if_pos h]
theorem docA_lab {op : Int} {x : UInt8} {f : List UInt8} {i : Ins} {lab t : List UInt8} {ts : List (List UInt8)} (hx : preB x = false) (h : sgnT t = false) (hj : jmpB op = true ∧ nameB t = true) : docA op (x :: f) i lab (t :: ts) = docA op f (setF i x (sgnN t)) t ts := by
  rw [docA_cons, if_neg (by rw [hx]; decide), if_neg (by rw [h]; decide), if_pos hj]
theorem docA_no {op : Int} {x : UInt8} {f : List UInt8} {i : Ins} {lab t : List UInt8} {ts : List (List UInt8)} (hx : preB x = false) (h : sgnT t = false) (hj : ¬ (jmpB op = true ∧ nameB t = true)) : docA op (x :: f) i lab (t :: ts) = none := by
  rw [docA_cons, if_neg (by rw [hx]; decide), if_neg (by rw [h]; decide), if_neg hj]
theorem KR.cells7 {W w : World} {L : List Rw} {g : Nat} {v0 v1 v2 v3 v4 v5 v6 : Value} (h : KR W L w) (hx : (⟨g, [v0, v1, v2, v3, v4, v5, v6]⟩ : Rw) ∈ L) :
    (w.cell? ⟨g, 0, none⟩ = some v0 ∧ w.cell? ⟨g, 1, none⟩ = some v1 ∧ w.cell? ⟨g, 2, none⟩ = some v2 ∧ w.cell? ⟨g, 3, none⟩ = some v3 ∧ w.cell? ⟨g, 4, none⟩ = some v4 ∧ w.cell? ⟨g, 5, none⟩ = some v5 ∧ w.cell? ⟨g, 6, none⟩ = some v6) ∧ ∀ j, w.frozen? ⟨g, j, none⟩ = false :=
  ⟨⟨h.cell _ hx rfl, h.cell _ hx rfl, h.cell _ hx rfl, h.cell _ hx rfl, h.cell _ hx rfl, h.cell _ hx rfl, h.cell _ hx rfl⟩, h.soft hx⟩
theorem KR.belowSet {W w : World} {L : List Rw} (h : KR W L w) {g : Nat} (hg : W.heap.size ≤ g) (u0 u1 u2 u3 u4 u5 u6 : Value) :
    Below W.heap.size W (((((((w.setCell ⟨g, 0, none⟩ u0).setCell ⟨g, 1, none⟩ u1).setCell ⟨g, 2, none⟩ u2).setCell ⟨g, 3, none⟩ u3).setCell ⟨g, 4, none⟩ u4).setCell ⟨g, 5, none⟩ u5).setCell ⟨g, 6, none⟩ u6) :=
  ((((((h.bl.setCell (p := ⟨g, 0, none⟩) hg u0).setCell (p := ⟨g, 1, none⟩) hg u1).setCell (p := ⟨g, 2, none⟩) hg u2).setCell (p := ⟨g, 3, none⟩) hg u3).setCell (p := ⟨g, 4, none⟩) hg u4).setCell (p := ⟨g, 5, none⟩) hg u5).setCell (p := ⟨g, 6, none⟩) hg u6
def st7 (w : World) (g : Nat) (u0 u1 u2 u3 u4 u5 u6 : Value) : World := ((((((w.setCell ⟨g, 0, none⟩ u0).setCell ⟨g, 1, none⟩ u1).setCell ⟨g, 2, none⟩ u2).setCell ⟨g, 3, none⟩ u3).setCell ⟨g, 4, none⟩ u4).setCell ⟨g, 5, none⟩ u5).setCell ⟨g, 6, none⟩ u6
theorem KR.set7 {W w : World} {L : List Rw} {g : Nat} {v0 v1 v2 v3 v4 v5 v6 : Value} (h : KR W (⟨g, [v0, v1, v2, v3, v4, v5, v6]⟩ :: L) w) (hg : W.heap.size ≤ g) (hn : ∀ x, x ∈ L → x.g ≠ g) (u0 u1 u2 u3 u4 u5 u6 : Value) :
    KR W (⟨g, [u0, u1, u2, u3, u4, u5, u6]⟩ :: L) (st7 w g u0 u1 u2 u3 u4 u5 u6) :=
  ((((((h.set hg hn 0 u0 (by simp)).set hg hn 1 u1 (by simp)).set hg hn 2 u2 (by simp)).set hg hn 3 u3 (by simp)).set hg hn 4 u4 (by simp)).set hg hn 5 u5 (by simp)).set hg hn 6 u6 (by simp)

set_option maxHeartbeats 8000000 in
theorem rread_any (a : List UInt8) (r : List (List UInt8)) (A : Option Addr) (cap : Nat) (W : World) (hA : TL W A (a :: r)) (hn : r.length ≤ 1048576) (hl : ∀ t, t ∈ r → t.length ≤ 1048576) : Calls Tryz.prog 41 #[.slice A (a :: r).length cap] W (RdPost W (docR (a :: r))) := by
  obtain ⟨R, hR⟩ : ∃ R, R = docR (a :: r) := ⟨_, rfl⟩
  rw [← hR]
  obtain ⟨D, hD⟩ : ∃ D, D = RdPost W R := ⟨_, rfl⟩
  rw [← hD]
  replace hD := Lib.hid hD
  rw [docR_cons] at hR
  obtain ⟨b, rfl, hbW, hc⟩ := hA
  have hc0 := hc 0 a rfl
  have hlen : (a :: r).length = r.length + 1 := rfl
  rw [hlen]
  have hnl := Lib.hid hn
  have hni : (r.length : Int) ≤ 1048576 := by omega
  -- the result's box
  have KZ := (KR.start (W := W)).push [.int .u32 0, .int .i64 0, .int .i64 0, .int .i64 0, .int .i64 0, .int .i64 0, .string ⟨#[]⟩] 75
  have hck := fun (L : List Rw) (u : World) (hu : KR W L u) (j : Nat) (t : List UInt8) (h : (a :: r)[j]? = some t) => show u.cell? ⟨b, j, none⟩ = some (.string ⟨t.toArray⟩) from (hu.bl.cell (p := ⟨b, j, none⟩) hbW).trans (hc j t h)
  replace hck := Lib.hid hck
  obtain ⟨w1, hw1⟩ : ∃ w1, w1 = W.alloc (.cells #[.int .u32 0, .int .i64 0, .int .i64 0, .int .i64 0, .int .i64 0, .int .i64 0, .string ⟨#[]⟩] 75) := ⟨_, rfl⟩
  replace KZ : KR W [⟨W.heap.size, [.int .u32 0, .int .i64 0, .int .i64 0, .int .i64 0, .int .i64 0, .int .i64 0, .string ⟨#[]⟩]⟩] w1 := by rw [hw1]; exact KZ
  have e0 : w1.cell? ⟨b, 0, none⟩ = some (.string ⟨a.toArray⟩) := hck.out _ _ KZ 0 a rfl
  obtain ⟨⟨z0, z1, z2, z3, z4, z5, z6⟩, zf⟩ := KZ.cells7 (List.mem_cons_self ..)
  replace KZ := Lib.hid KZ
  replace hw1 := Lib.hid hw1
  clear hc hc0 hn hbW
  by_cases hwd : a = wordTx
  · rw [if_pos hwd] at hR
    subst hwd
    by_cases h2 : r.length = 1
    · obtain ⟨t, rfl⟩ : ∃ t, r = [t] := List.length_eq_one_iff.1 h2
      have hR2 : R = if valT t 4294967296 = true then some (valN t, Ins.zero, []) else none := by
        rw [hR]
        by_cases hv : valT t 4294967296 = true
        · have hv2 : ([t] : List (List UInt8)).length + 1 = 2 ∧ valT t 4294967296 = true := ⟨rfl, hv⟩
          rw [if_pos hv]; exact if_pos hv2
        · have hv2 : ¬ (([t] : List (List UInt8)).length + 1 = 2 ∧ valT t 4294967296 = true) := fun k => hv k.2
          rw [if_neg hv]; exact if_neg hv2
      have hV2 : ∀ w, Calls Tryz.prog 78 #[.string ⟨t.toArray⟩, .int .u64 4294967296] w fun e w' => e = .returned (.tuple #[.int .u64 (valN t), .bool (valT t 4294967296)]) ∧ w = w' := fun w => rvalue_any ⟨t.toArray⟩ 4294967296 w
      have hvl := valN_low t
      have e1 : w1.cell? ⟨b, 1, none⟩ = some (.string ⟨t.toArray⟩) := hck.out _ _ KZ.out 1 t rfl
      have hvt : valT t 4294967296 = true → valN t < 4294967296 := fun h => by obtain ⟨n, h1, h3, h4⟩ := val_true h; omega
      replace hV2 := Lib.hid hV2
      generalize valN t = vn at *
      have hvl0 : 0 ≤ vn := hvl.1
      have hvl1 : vn < 10000000000 := hvl.2
      unfold wordTx at *
      cases hb : valT t 4294967296 with
      | true =>
        have hv4 := hvt hb
        rw [hb] at hV2
        have hR3 := Lib.hid (show R = some (vn, Ins.zero, []) from hR2.trans (if_pos hb))
        have hwr : vn % 4294967296 = vn := by omega
        clear hvt hb hR2 hR hvl h2 hnl hl
        go_enter Tryz.func41, Tryz.ntmps41
        go_upto_region 1 with (fail)
        rw [← hw1.out]
        clear hw1
        generalize hgr : W.heap.size = gr at *
        go_wp2_with fail
        refine (hV2.out _).mono ?_
        rintro e w2 ⟨rfl, rfl⟩
        go_wp2
        have hE := (KZ.out).set7 (g := gr) (by omega) (fun x hx => by cases hx) (.int .u32 vn) (.int .i64 0) (.int .i64 0) (.int .i64 0) (.int .i64 0) (.int .i64 0) (.string ⟨#[]⟩)
        (try simp only [Exit.inBlock, Exit.then])
        change bodyPost _ _ _ _ _ (st7 w1 gr (.int .u32 vn) (.int .i64 0) (.int .i64 0) (.int .i64 0) (.int .i64 0) (.int .i64 0) (.string ⟨#[]⟩))
        generalize st7 w1 gr (.int .u32 vn) (.int .i64 0) (.int .i64 0) (.int .i64 0) (.int .i64 0) (.int .i64 0) (.string ⟨#[]⟩) = w9 at *
        obtain ⟨⟨y0, y1, y2, y3, y4, y5, y6⟩, -⟩ := hE.cells7 (g := gr) (List.mem_cons_self ..)
        have hb9 := Lib.hid hE.bl
        clear hE
        refine bodyPost_ret (by simp [results, Tryz.results41, go_sem, y0, y1, y2, y3, y4, y5, y6]; try rfl) rfl ?_
        rw [hD.out]
        exact RdPost.yes (x := vn) (i := Ins.zero) (lab := []) hR3.out rfl hb9.out
      | false =>
        rw [hb] at hV2
        have hR3 := Lib.hid (show R = none from hR2.trans (if_neg (by rw [hb]; decide)))
        clear hvt hb hR2 hR hvl h2 hnl hl
        go_enter Tryz.func41, Tryz.ntmps41
        go_upto_region 1 with (fail)
        rw [← hw1.out]
        clear hw1
        generalize hgr : W.heap.size = gr at *
        go_wp2_with fail
        refine (hV2.out _).mono ?_
        rintro e w2 ⟨rfl, rfl⟩
        go_wp2
        have hE := (KZ.out).set7 (g := gr) (by omega) (fun x hx => by cases hx) (.int .u32 (vn % 4294967296)) (.int .i64 0) (.int .i64 0) (.int .i64 0) (.int .i64 0) (.int .i64 0) (.string ⟨#[]⟩)
        (try simp only [Exit.inBlock, Exit.then])
        change bodyPost _ _ _ _ _ (st7 w1 gr (.int .u32 (vn % 4294967296)) (.int .i64 0) (.int .i64 0) (.int .i64 0) (.int .i64 0) (.int .i64 0) (.string ⟨#[]⟩))
        generalize st7 w1 gr (.int .u32 (vn % 4294967296)) (.int .i64 0) (.int .i64 0) (.int .i64 0) (.int .i64 0) (.int .i64 0) (.string ⟨#[]⟩) = w9 at *
        obtain ⟨⟨y0, y1, y2, y3, y4, y5, y6⟩, -⟩ := hE.cells7 (g := gr) (List.mem_cons_self ..)
        have hb9 := Lib.hid hE.bl
        clear hE
        refine bodyPost_ret (by simp [results, Tryz.results41, go_sem, y0, y1, y2, y3, y4, y5, y6]; try rfl) rfl ?_
        rw [hD.out]
        exact RdPost.no (x := vn % 4294967296) (i := Ins.zero) (lab := []) hR3.out rfl hb9.out
    · have hR3 := Lib.hid (show R = none from by rw [hR]; exact if_neg (fun k => h2 (by omega)))
      have h2i : ¬ (r.length : Int) + 1 = 2 := by omega
      unfold wordTx at *
      clear h2 hR hl
      go_enter Tryz.func41, Tryz.ntmps41
      go_upto_region 1 with (fail)
      rw [← hw1.out]
      clear hw1
      generalize hgr : W.heap.size = gr at *
      go_wp2
      have hE := (KZ.out).set7 (g := gr) (by omega) (fun x hx => by cases hx) (.int .u32 0) (.int .i64 0) (.int .i64 0) (.int .i64 0) (.int .i64 0) (.int .i64 0) (.string ⟨#[]⟩)
      (try simp only [Exit.inBlock, Exit.then])
      change bodyPost _ _ _ _ _ (st7 w1 gr (.int .u32 0) (.int .i64 0) (.int .i64 0) (.int .i64 0) (.int .i64 0) (.int .i64 0) (.string ⟨#[]⟩))
      generalize st7 w1 gr (.int .u32 0) (.int .i64 0) (.int .i64 0) (.int .i64 0) (.int .i64 0) (.int .i64 0) (.string ⟨#[]⟩) = w9 at *
      obtain ⟨⟨y0, y1, y2, y3, y4, y5, y6⟩, -⟩ := hE.cells7 (g := gr) (List.mem_cons_self ..)
      have hb9 := Lib.hid hE.bl
      clear hE
      refine bodyPost_ret (by simp [results, Tryz.results41, go_sem, y0, y1, y2, y3, y4, y5, y6]; try rfl) rfl ?_
      rw [hD.out]
      exact RdPost.no (x := 0) (i := Ins.zero) (lab := []) hR3.out rfl hb9.out
  · rw [if_neg hwd] at hR
    have hwf : ((⟨a.toArray⟩ : ByteArray).toList == [119, 111, 114, 100]) = false := by
      rw [Lib.toList_data]
      simpa [wordTx] using hwd
    have hO : ∀ w, Calls Tryz.prog 79 #[.string ⟨a.toArray⟩] w fun e w' => e = .returned (.int .i64 (opAt a)) ∧ w = w' := fun w => rOp_any a w
    have hF := fun w => rForm_any (opAt a) w
    have hfl := form_letters (opAt a)
    have hf3 := form_short (opAt a)
    have hEn := fun (i : Ins) w => rEncode_any i.op i.a i.b i.c i.m w
    have hJ := fun op w => rjumps_any op w
    generalize opAt a = op at *
    obtain ⟨f, hf⟩ : ∃ f, f = formAt op := ⟨_, rfl⟩
    rw [← hf] at hR hF hfl hf3
    obtain ⟨ab, hab⟩ : ∃ ab : ByteArray, ab = ⟨a.toArray⟩ := ⟨_, rfl⟩
    rw [← hab] at hO e0 hwf
    replace hO := Lib.hid hO
    replace hF := Lib.hid hF
    replace hfl := Lib.hid hfl
    replace hEn := Lib.hid hEn
    replace hJ := Lib.hid hJ
    replace hR := Lib.hid hR
    replace hl := Lib.hid hl
    have hfi : (f.length : Int) ≤ 3 := by omega
    clear hwd hf hab
    go_enter Tryz.func41, Tryz.ntmps41
    go_upto_region 1 with (fail)
    rw [← hw1.out]
    clear hw1
    generalize hgr : W.heap.size = gr at *
    go_wp2_with fail
    refine (hO.out _).mono ?_
    rintro e w' ⟨rfl, rfl⟩
    have hgx : gr < w1.heap.size := KZ.out.lt (List.mem_cons_self ..)
    have KX2 := KZ.out.push [.int .u32 0, .int .i64 op, .int .i64 0, .int .i64 0, .int .i64 0, .int .i64 0, .string ⟨#[]⟩] 75
    go_upto_region 7 with (fail)
    obtain ⟨w2, hw2⟩ : ∃ w2, w2 = w1.alloc (.cells #[.int .u32 0, .int .i64 op, .int .i64 0, .int .i64 0, .int .i64 0, .int .i64 0, .string ⟨#[]⟩] 75) := ⟨_, rfl⟩
    replace KX2 : KR W [⟨w1.heap.size, [.int .u32 0, .int .i64 op, .int .i64 0, .int .i64 0, .int .i64 0, .int .i64 0, .string ⟨#[]⟩]⟩, ⟨gr, [.int .u32 0, .int .i64 0, .int .i64 0, .int .i64 0, .int .i64 0, .int .i64 0, .string ⟨#[]⟩]⟩] w2 := by rw [hw2]; exact KX2
    rw [← hw2]
    clear hw2 KZ z0 z1 z2 z3 z4 z5 z6 zf e0 hO hwf
    generalize w1.heap.size = gx at *
    have hset := fun (u : World) (i : Ins) (lab : List UInt8) (x : Int) (K : KR W [⟨gx, itV x i lab⟩, ⟨gr, [.int .u32 0, .int .i64 0, .int .i64 0, .int .i64 0, .int .i64 0, .int .i64 0, .string ⟨#[]⟩]⟩] u) (j : Nat) (v : Value) (hj : j < 7) => K.set (by omega) (fun x hx => by rw [List.mem_singleton] at hx; subst hx; show gr ≠ gx; omega) j v hj
    replace hset := Lib.hid hset
    have c1 : w2.cell? ⟨gx, 1, none⟩ = some (.int .i64 op) := KX2.cell _ (List.mem_cons_self ..) rfl
    obtain ⟨⟨z0, z1, z2, z3, z4, z5, z6⟩, zf⟩ := KX2.cells7 (g := gr) (List.mem_cons_of_mem _ (List.mem_cons_self ..))
    have K2 : KR W [⟨gx, itV 0 ⟨op, 0, 0, 0, 0⟩ []⟩, ⟨gr, [.int .u32 0, .int .i64 0, .int .i64 0, .int .i64 0, .int .i64 0, .int .i64 0, .string ⟨#[]⟩]⟩] w2 := KX2
    replace K2 := Lib.hid K2
    clear KX2
    go_wp2_with fail
    refine (hF.out _).mono ?_
    rintro e w' ⟨rfl, rfl⟩
    clear hF
    by_cases h0 : op = 0
    · have hR3 := Lib.hid (show R = none from by rw [hR.out]; exact if_pos (.inl h0))
      subst h0
      clear hR
      go_wp2
      have hE := (K2.out.swap).set7 (g := gr) (by omega) (fun x hx => by rw [List.mem_singleton] at hx; subst hx; show gx ≠ gr; omega) (.int .u32 0) (.int .i64 0) (.int .i64 0) (.int .i64 0) (.int .i64 0) (.int .i64 0) (.string ⟨#[]⟩)
      (try simp only [Exit.inBlock, Exit.then])
      change bodyPost _ _ _ _ _ (st7 w2 gr (.int .u32 0) (.int .i64 0) (.int .i64 0) (.int .i64 0) (.int .i64 0) (.int .i64 0) (.string ⟨#[]⟩))
      generalize st7 w2 gr (.int .u32 0) (.int .i64 0) (.int .i64 0) (.int .i64 0) (.int .i64 0) (.int .i64 0) (.string ⟨#[]⟩) = w9 at *
      obtain ⟨⟨y0, y1, y2, y3, y4, y5, y6⟩, -⟩ := hE.cells7 (g := gr) (List.mem_cons_self ..)
      have hb9 := Lib.hid hE.bl
      clear hE
      refine bodyPost_ret (by simp [results, Tryz.results41, go_sem, y0, y1, y2, y3, y4, y5, y6]; try rfl) rfl ?_
      rw [hD.out]
      exact RdPost.no (x := 0) (i := Ins.zero) (lab := []) hR3.out rfl hb9.out
    have h0f : (op == 0) = false := by simpa using h0
    by_cases hll : r.length + 1 = 1 + f.length
    rotate_left
    · have hR3 := Lib.hid (show R = none from by rw [hR.out]; exact if_pos (.inr hll))
      have hli : ((r.length : Int) + 1 != 1 + (f.length : Int)) = true := by rw [bne_iff_ne]; omega
      have hli2 : ((r.length : Int) + 1 == 1 + (f.length : Int)) = false := by rw [beq_eq_false_iff_ne]; omega
      have hli3 : ¬ (r.length : Int) + 1 = 1 + (f.length : Int) := by omega
      clear hR hll
      go_wp2
      have hE := (K2.out.swap).set7 (g := gr) (by omega) (fun x hx => by rw [List.mem_singleton] at hx; subst hx; show gx ≠ gr; omega) (.int .u32 0) (.int .i64 0) (.int .i64 0) (.int .i64 0) (.int .i64 0) (.int .i64 0) (.string ⟨#[]⟩)
      (try simp only [Exit.inBlock, Exit.then])
      change bodyPost _ _ _ _ _ (st7 w2 gr (.int .u32 0) (.int .i64 0) (.int .i64 0) (.int .i64 0) (.int .i64 0) (.int .i64 0) (.string ⟨#[]⟩))
      generalize st7 w2 gr (.int .u32 0) (.int .i64 0) (.int .i64 0) (.int .i64 0) (.int .i64 0) (.int .i64 0) (.string ⟨#[]⟩) = w9 at *
      obtain ⟨⟨y0, y1, y2, y3, y4, y5, y6⟩, -⟩ := hE.cells7 (g := gr) (List.mem_cons_self ..)
      have hb9 := Lib.hid hE.bl
      clear hE
      refine bodyPost_ret (by simp [results, Tryz.results41, go_sem, y0, y1, y2, y3, y4, y5, y6]; try rfl) rfl ?_
      rw [hD.out]
      exact RdPost.no (x := 0) (i := Ins.zero) (lab := []) hR3.out rfl hb9.out
    · have hno : ¬ (op = 0 ∨ r.length + 1 ≠ 1 + f.length) := fun k => k.elim h0 (fun k => k hll)
      have hR2 : R = match docA op f ⟨op, 0, 0, 0, 0⟩ [] r with
        | none => none
        | some (i, lab) => if mayB i = true then some (encW i, i, lab) else none := by rw [hR.out]; exact if_neg hno
      have hrf : r.length = f.length := by omega
      have hli : ((r.length : Int) + 1 != 1 + (f.length : Int)) = false := by
        rw [bne_eq_false_iff_eq]; omega
      replace hR2 := Lib.hid hR2
      have hrff := Lib.hid hrf
      clear hR hno hll hrf h0 z0 z1 z2 z3 z4 z5 z6 zf
      go_wp2_with fail
      go_loopw [8, 9, 10, 11] (fun kv s9 s10 s11 wr => ∃ (k : Nat) (i : Ins) (lab : List UInt8), k ≤ f.length ∧ kv = .int .i64 k ∧ Hid (docA op f ⟨op, 0, 0, 0, 0⟩ [] r = docA op (f.drop k) i lab (r.drop k)) ∧ Hid (i.op = op) ∧ Hid (KR W [⟨gx, itV 0 i lab⟩, ⟨gr, [.int .u32 0, .int .i64 0, .int .i64 0, .int .i64 0, .int .i64 0, .int .i64 0, .string ⟨#[]⟩]⟩] wr)) (fun kv _ _ _ _ => f.length - (RowKit.intOf kv).toNat)
      case atStart => exact ⟨0, ⟨op, 0, 0, 0, 0⟩, [], Nat.zero_le _, rfl, Lib.hid rfl, Lib.hid rfl, K2⟩
      case round =>
        obtain ⟨k, i, lab, hk, rfl, hA, hop, HK⟩ := hrel
        by_cases hlt : k < f.length
        · obtain ⟨ch, hch⟩ : ∃ ch, ch = f[k] := ⟨_, rfl⟩
          have hcs := hfl.out f[k] (List.getElem_mem hlt)
          rw [← hch] at hcs
          have hix := index_list f k hlt ch hch
          have hrk : k < r.length := by rw [hrff.out]; exact hlt
          have hdf : f.drop k = ch :: f.drop (k + 1) := by rw [hch]; exact List.drop_eq_getElem_cons hlt
          obtain ⟨t, ht⟩ : ∃ t, t = r[k] := ⟨_, rfl⟩
          have hdr : r.drop k = t :: r.drop (k + 1) := by rw [ht]; exact List.drop_eq_getElem_cons hrk
          have e1 : wr.cell? ⟨b, k + 1, none⟩ = some (.string ⟨t.toArray⟩) := hck.out _ _ HK.out (k + 1) t (by rw [List.getElem?_cons_succ, List.getElem?_eq_getElem hrk, ht])
          have htl : t.length ≤ 1048576 := hl.out t (by rw [ht]; exact List.getElem_mem hrk)
          have hA2 := hA.out
          rw [hdf, hdr] at hA2
          have hkl := Lib.hid (And.intro hk hlt)
          have hlti : (k : Int) < (f.length : Int) := by omega
          have hki : (k : Int) + 1 < (r.length : Int) + 1 := by have := hrff.out; omega
          have hRg : ∀ w, Calls Tryz.prog 80 #[.string ⟨t.toArray⟩] w fun e w' => e = .returned (.tuple #[.int .i64 (regN t), .bool (regT t)]) ∧ w = w' := fun w => rregister_any ⟨t.toArray⟩ w (by rw [size_mk]; omega)
          replace hRg := Lib.hid hRg
          clear hch hdf hdr ht hrk hk
          obtain ⟨⟨x0, x1, x2, x3, x4, x5, x6⟩, xf⟩ := HK.out.cells7 (g := gx) (List.mem_cons_self ..)
          obtain ⟨⟨z0, z1, z2, z3, z4, z5, z6⟩, zf⟩ := HK.out.cells7 (g := gr) (List.mem_cons_of_mem _ (List.mem_cons_self ..))
          have hnx : ¬ gx = gr := by omega
          have hnx2 : ¬ gr = gx := by omega
          rcases hcs with hcl | hcl | hcl | hcl | hcl
          · subst hcl
            have hx2 : ∀ w, (Instr.index 9 (.string ⟨f.toArray⟩) (.int .i64 k)).run Tryz.prog w = .ok (.int .u8 97) w := hix
            cases hb : regT t with
            | true =>
              rw [docA_reg (by decide) hb] at hA2
              have hA3 := Lib.hid hA2
              have HK2 := hset.out _ _ _ _ HK.out 2 (.int .i64 (regN t)) (by omega)
              have HK3 : KR W [⟨gx, itV 0 (setF i 97 (regN t)) lab⟩, ⟨gr, [.int .u32 0, .int .i64 0, .int .i64 0, .int .i64 0, .int .i64 0, .int .i64 0, .string ⟨#[]⟩]⟩] (wr.setCell ⟨gx, 2, none⟩ (.int .i64 (regN t))) := HK2
              have hop2 := Lib.hid (show (setF i 97 (regN t)).op = op from hop.out)
              rw [hb] at hRg
              replace HK3 := Lib.hid HK3
              generalize regN t = v at *
              clear hix hA2 hA HK2 hb z0 z1 z2 z3 z4 z5 z6 zf
              go_wp2_with fail
              refine (hRg.out _).mono ?_
              rintro e w5 ⟨rfl, rfl⟩
              go_wp2
              go_roundw
              case rel => exact ⟨k + 1, _, lab, by have := hkl.out; omega, by go_num, hA3, hop2, HK3⟩
              case measure => have := hkl.out; simp [RowKit.intOf]; omega
            | false =>
              rw [docA_reg0 (by decide) hb] at hA2
              have hR4 := Lib.hid (show R = none from by rw [hR2.out, hA2])
              rw [hb] at hRg
              have HK2 := hset.out _ _ _ _ HK.out 2 (.int .i64 (regN t)) (by omega)
              have HK3 : KR W [⟨gx, itV 0 (setF i 97 (regN t)) lab⟩, ⟨gr, [.int .u32 0, .int .i64 0, .int .i64 0, .int .i64 0, .int .i64 0, .int .i64 0, .string ⟨#[]⟩]⟩] (wr.setCell ⟨gx, 2, none⟩ (.int .i64 (regN t))) := HK2
              replace HK3 := Lib.hid HK3
              generalize regN t = v at *
              clear hix hA2 hA HK2 hb
              go_wp2_with fail
              refine (hRg.out _).mono ?_
              rintro e w5 ⟨rfl, rfl⟩
              go_wp2
              have hE := (HK3.out.swap).set7 (g := gr) (by omega) (fun x hx => by rw [List.mem_singleton] at hx; subst hx; show gx ≠ gr; omega) (.int .u32 0) (.int .i64 0) (.int .i64 0) (.int .i64 0) (.int .i64 0) (.int .i64 0) (.string ⟨#[]⟩)
              (try simp only [Exit.inBlock, Exit.then])
              change bodyPost _ _ _ _ _ (st7 (wr.setCell ⟨gx, 2, none⟩ (.int .i64 v)) gr (.int .u32 0) (.int .i64 0) (.int .i64 0) (.int .i64 0) (.int .i64 0) (.int .i64 0) (.string ⟨#[]⟩))
              generalize st7 (wr.setCell ⟨gx, 2, none⟩ (.int .i64 v)) gr (.int .u32 0) (.int .i64 0) (.int .i64 0) (.int .i64 0) (.int .i64 0) (.int .i64 0) (.string ⟨#[]⟩) = w9 at *
              obtain ⟨⟨y0, y1, y2, y3, y4, y5, y6⟩, -⟩ := hE.cells7 (g := gr) (List.mem_cons_self ..)
              have hb9 := Lib.hid hE.bl
              clear hE
              refine bodyPost_ret (by simp [results, Tryz.results41, go_sem, y0, y1, y2, y3, y4, y5, y6]; try rfl) rfl ?_
              rw [hD.out]
              exact RdPost.no (x := 0) (i := Ins.zero) (lab := []) hR4.out rfl hb9.out
          · subst hcl
            have hx2 : ∀ w, (Instr.index 9 (.string ⟨f.toArray⟩) (.int .i64 k)).run Tryz.prog w = .ok (.int .u8 98) w := hix
            cases hb : regT t with
            | true =>
              rw [docA_reg (by decide) hb] at hA2
              have hA3 := Lib.hid hA2
              have HK2 := hset.out _ _ _ _ HK.out 3 (.int .i64 (regN t)) (by omega)
              have HK3 : KR W [⟨gx, itV 0 (setF i 98 (regN t)) lab⟩, ⟨gr, [.int .u32 0, .int .i64 0, .int .i64 0, .int .i64 0, .int .i64 0, .int .i64 0, .string ⟨#[]⟩]⟩] (wr.setCell ⟨gx, 3, none⟩ (.int .i64 (regN t))) := HK2
              have hop2 := Lib.hid (show (setF i 98 (regN t)).op = op from hop.out)
              rw [hb] at hRg
              replace HK3 := Lib.hid HK3
              generalize regN t = v at *
              clear hix hA2 hA HK2 hb z0 z1 z2 z3 z4 z5 z6 zf
              go_wp2_with fail
              refine (hRg.out _).mono ?_
              rintro e w5 ⟨rfl, rfl⟩
              go_wp2
              go_roundw
              case rel => exact ⟨k + 1, _, lab, by have := hkl.out; omega, by go_num, hA3, hop2, HK3⟩
              case measure => have := hkl.out; simp [RowKit.intOf]; omega
            | false =>
              rw [docA_reg0 (by decide) hb] at hA2
              have hR4 := Lib.hid (show R = none from by rw [hR2.out, hA2])
              rw [hb] at hRg
              have HK2 := hset.out _ _ _ _ HK.out 3 (.int .i64 (regN t)) (by omega)
              have HK3 : KR W [⟨gx, itV 0 (setF i 98 (regN t)) lab⟩, ⟨gr, [.int .u32 0, .int .i64 0, .int .i64 0, .int .i64 0, .int .i64 0, .int .i64 0, .string ⟨#[]⟩]⟩] (wr.setCell ⟨gx, 3, none⟩ (.int .i64 (regN t))) := HK2
              replace HK3 := Lib.hid HK3
              generalize regN t = v at *
              clear hix hA2 hA HK2 hb
              go_wp2_with fail
              refine (hRg.out _).mono ?_
              rintro e w5 ⟨rfl, rfl⟩
              go_wp2
              have hE := (HK3.out.swap).set7 (g := gr) (by omega) (fun x hx => by rw [List.mem_singleton] at hx; subst hx; show gx ≠ gr; omega) (.int .u32 0) (.int .i64 0) (.int .i64 0) (.int .i64 0) (.int .i64 0) (.int .i64 0) (.string ⟨#[]⟩)
              (try simp only [Exit.inBlock, Exit.then])
              change bodyPost _ _ _ _ _ (st7 (wr.setCell ⟨gx, 3, none⟩ (.int .i64 v)) gr (.int .u32 0) (.int .i64 0) (.int .i64 0) (.int .i64 0) (.int .i64 0) (.int .i64 0) (.string ⟨#[]⟩))
              generalize st7 (wr.setCell ⟨gx, 3, none⟩ (.int .i64 v)) gr (.int .u32 0) (.int .i64 0) (.int .i64 0) (.int .i64 0) (.int .i64 0) (.int .i64 0) (.string ⟨#[]⟩) = w9 at *
              obtain ⟨⟨y0, y1, y2, y3, y4, y5, y6⟩, -⟩ := hE.cells7 (g := gr) (List.mem_cons_self ..)
              have hb9 := Lib.hid hE.bl
              clear hE
              refine bodyPost_ret (by simp [results, Tryz.results41, go_sem, y0, y1, y2, y3, y4, y5, y6]; try rfl) rfl ?_
              rw [hD.out]
              exact RdPost.no (x := 0) (i := Ins.zero) (lab := []) hR4.out rfl hb9.out
          · subst hcl
            have hx2 : ∀ w, (Instr.index 9 (.string ⟨f.toArray⟩) (.int .i64 k)).run Tryz.prog w = .ok (.int .u8 99) w := hix
            cases hb : regT t with
            | true =>
              rw [docA_reg (by decide) hb] at hA2
              have hA3 := Lib.hid hA2
              have HK2 := hset.out _ _ _ _ HK.out 4 (.int .i64 (regN t)) (by omega)
              have HK3 : KR W [⟨gx, itV 0 (setF i 99 (regN t)) lab⟩, ⟨gr, [.int .u32 0, .int .i64 0, .int .i64 0, .int .i64 0, .int .i64 0, .int .i64 0, .string ⟨#[]⟩]⟩] (wr.setCell ⟨gx, 4, none⟩ (.int .i64 (regN t))) := HK2
              have hop2 := Lib.hid (show (setF i 99 (regN t)).op = op from hop.out)
              rw [hb] at hRg
              replace HK3 := Lib.hid HK3
              generalize regN t = v at *
              clear hix hA2 hA HK2 hb z0 z1 z2 z3 z4 z5 z6 zf
              go_wp2_with fail
              refine (hRg.out _).mono ?_
              rintro e w5 ⟨rfl, rfl⟩
              go_wp2
              go_roundw
              case rel => exact ⟨k + 1, _, lab, by have := hkl.out; omega, by go_num, hA3, hop2, HK3⟩
              case measure => have := hkl.out; simp [RowKit.intOf]; omega
            | false =>
              rw [docA_reg0 (by decide) hb] at hA2
              have hR4 := Lib.hid (show R = none from by rw [hR2.out, hA2])
              rw [hb] at hRg
              have HK2 := hset.out _ _ _ _ HK.out 4 (.int .i64 (regN t)) (by omega)
              have HK3 : KR W [⟨gx, itV 0 (setF i 99 (regN t)) lab⟩, ⟨gr, [.int .u32 0, .int .i64 0, .int .i64 0, .int .i64 0, .int .i64 0, .int .i64 0, .string ⟨#[]⟩]⟩] (wr.setCell ⟨gx, 4, none⟩ (.int .i64 (regN t))) := HK2
              replace HK3 := Lib.hid HK3
              generalize regN t = v at *
              clear hix hA2 hA HK2 hb
              go_wp2_with fail
              refine (hRg.out _).mono ?_
              rintro e w5 ⟨rfl, rfl⟩
              go_wp2
              have hE := (HK3.out.swap).set7 (g := gr) (by omega) (fun x hx => by rw [List.mem_singleton] at hx; subst hx; show gx ≠ gr; omega) (.int .u32 0) (.int .i64 0) (.int .i64 0) (.int .i64 0) (.int .i64 0) (.int .i64 0) (.string ⟨#[]⟩)
              (try simp only [Exit.inBlock, Exit.then])
              change bodyPost _ _ _ _ _ (st7 (wr.setCell ⟨gx, 4, none⟩ (.int .i64 v)) gr (.int .u32 0) (.int .i64 0) (.int .i64 0) (.int .i64 0) (.int .i64 0) (.int .i64 0) (.string ⟨#[]⟩))
              generalize st7 (wr.setCell ⟨gx, 4, none⟩ (.int .i64 v)) gr (.int .u32 0) (.int .i64 0) (.int .i64 0) (.int .i64 0) (.int .i64 0) (.int .i64 0) (.string ⟨#[]⟩) = w9 at *
              obtain ⟨⟨y0, y1, y2, y3, y4, y5, y6⟩, -⟩ := hE.cells7 (g := gr) (List.mem_cons_self ..)
              have hb9 := Lib.hid hE.bl
              clear hE
              refine bodyPost_ret (by simp [results, Tryz.results41, go_sem, y0, y1, y2, y3, y4, y5, y6]; try rfl) rfl ?_
              rw [hD.out]
              exact RdPost.no (x := 0) (i := Ins.zero) (lab := []) hR4.out rfl hb9.out
          · subst hcl
            have hx2 : ∀ w, (Instr.index 9 (.string ⟨f.toArray⟩) (.int .i64 k)).run Tryz.prog w = .ok (.int .u8 105) w := hix
            have hRn : ∀ w, Calls Tryz.prog 81 #[.string ⟨t.toArray⟩] w fun e w' => e = .returned (.tuple #[.int .i64 (sgnN t), .bool (sgnT t)]) ∧ w = w' := fun w => rnumber_any ⟨t.toArray⟩ w (by rw [size_mk]; omega)
            have hNm : ∀ w, Calls Tryz.prog 51 #[.string ⟨t.toArray⟩] w fun e w' => e = .returned (.bool (nameB t)) ∧ w = w' := fun w => rName8_any ⟨t.toArray⟩ w
            replace hRn := Lib.hid hRn
            replace hNm := Lib.hid hNm
            generalize regN t = rn at *
            generalize regT t = rt at *
            cases hb : sgnT t with
            | true =>
              rw [docA_num (by decide) hb] at hA2
              have hA3 := Lib.hid hA2
              have HK2 := hset.out _ _ _ _ HK.out 5 (.int .i64 (sgnN t)) (by omega)
              have HK3 : KR W [⟨gx, itV 0 (setF i 105 (sgnN t)) lab⟩, ⟨gr, [.int .u32 0, .int .i64 0, .int .i64 0, .int .i64 0, .int .i64 0, .int .i64 0, .string ⟨#[]⟩]⟩] (wr.setCell ⟨gx, 5, none⟩ (.int .i64 (sgnN t))) := HK2
              have hop2 := Lib.hid (show (setF i 105 (sgnN t)).op = op from hop.out)
              rw [hb] at hRn
              generalize sgnN t = v at *
              clear hA2 hA
              clear hix hb HK2 z0 z1 z2 z3 z4 z5 z6 zf
              go_wp2_with fail
              refine (hRg.out _).mono ?_
              rintro e w5 ⟨rfl, rfl⟩
              go_wp2_with fail
              refine (hRn.out _).mono ?_
              rintro e w5 ⟨rfl, rfl⟩
              go_upto_region 17 with (fail)
              change Code.wp _ _ _ _ (wr.setCell ⟨gx, 5, none⟩ (.int .i64 v))
              generalize wr.setCell ⟨gx, 5, none⟩ (.int .i64 v) = w5 at *
              clear x0 x1 x2 x3 x4 x5 x6 xf e1
              replace HK3 := Lib.hid HK3
              go_wp2
              go_roundw
              case rel => exact ⟨k + 1, _, lab, by have := hkl.out; omega, by go_num, hA3, hop2, HK3⟩
              case measure => have := hkl.out; simp [RowKit.intOf]; omega
            | false =>
              have HK2 := hset.out _ _ _ _ HK.out 5 (.int .i64 (sgnN t)) (by omega)
              have HK3 : KR W [⟨gx, itV 0 (setF i 105 (sgnN t)) lab⟩, ⟨gr, [.int .u32 0, .int .i64 0, .int .i64 0, .int .i64 0, .int .i64 0, .int .i64 0, .string ⟨#[]⟩]⟩] (wr.setCell ⟨gx, 5, none⟩ (.int .i64 (sgnN t))) := HK2
              have hlab := fun h => docA_lab (f := f.drop (k + 1)) (i := i) (lab := lab) (ts := r.drop (k + 1)) (x := 105) (op := op) (by decide) hb h
              have hnol := fun h => docA_no (f := f.drop (k + 1)) (i := i) (lab := lab) (ts := r.drop (k + 1)) (x := 105) (op := op) (by decide) hb h
              have hop2 := Lib.hid (show (setF i 105 (sgnN t)).op = op from hop.out)
              rw [hb] at hRn
              generalize sgnN t = v at *
              clear hix hb HK2 z0 z1 z2 z3 z4 z5 z6 zf
              go_wp2_with fail
              refine (hRg.out _).mono ?_
              rintro e w5 ⟨rfl, rfl⟩
              go_wp2_with fail
              refine (hRn.out _).mono ?_
              rintro e w5 ⟨rfl, rfl⟩
              go_upto_region 17 with (fail)
              change Code.wp _ _ _ _ (wr.setCell ⟨gx, 5, none⟩ (.int .i64 v))
              generalize wr.setCell ⟨gx, 5, none⟩ (.int .i64 v) = w5 at *
              clear x0 x1 x2 x3 x4 x5 x6 xf e1
              have y1 : w5.cell? ⟨gx, 1, none⟩ = some (.int .i64 op) := by rw [← hop2.out]; exact HK3.cell _ (List.mem_cons_self ..) rfl
              have hJ2 := Lib.hid (fun w => hJ.out op w)
              cases hj : jmpB op with
              | false =>
                rw [hj] at hJ2
                rw [hnol (fun k => by rw [hj] at k; cases k.1)] at hA2
                have hR4 := Lib.hid (show R = none from by rw [hR2.out, hA2])
                obtain ⟨⟨z0, z1, z2, z3, z4, z5, z6⟩, zf⟩ := HK3.cells7 (g := gr) (List.mem_cons_of_mem _ (List.mem_cons_self ..))
                have HK9 := Lib.hid HK3
                clear hnol hlab hA2 hj HK3
                go_wp2_with fail
                refine (hJ2.out _).mono ?_
                rintro e w6 ⟨rfl, rfl⟩
                go_wp2
                have hE := (HK9.out.swap).set7 (g := gr) (by omega) (fun x hx => by rw [List.mem_singleton] at hx; subst hx; show gx ≠ gr; omega) (.int .u32 0) (.int .i64 0) (.int .i64 0) (.int .i64 0) (.int .i64 0) (.int .i64 0) (.string ⟨#[]⟩)
                (try simp only [Exit.inBlock, Exit.then])
                change bodyPost _ _ _ _ _ (st7 w5 gr (.int .u32 0) (.int .i64 0) (.int .i64 0) (.int .i64 0) (.int .i64 0) (.int .i64 0) (.string ⟨#[]⟩))
                generalize st7 w5 gr (.int .u32 0) (.int .i64 0) (.int .i64 0) (.int .i64 0) (.int .i64 0) (.int .i64 0) (.string ⟨#[]⟩) = w9 at *
                obtain ⟨⟨y0, y1, y2, y3, y4, y5, y6⟩, -⟩ := hE.cells7 (g := gr) (List.mem_cons_self ..)
                have hb9 := Lib.hid hE.bl
                clear hE
                refine bodyPost_ret (by simp [results, Tryz.results41, go_sem, y0, y1, y2, y3, y4, y5, y6]; try rfl) rfl ?_
                rw [hD.out]
                exact RdPost.no (x := 0) (i := Ins.zero) (lab := []) hR4.out rfl hb9.out
              | true =>
                rw [hj] at hJ2
                cases hnb : nameB t with
                | false =>
                  rw [hnb] at hNm
                  rw [hnol (fun k => by rw [hnb] at k; cases k.2)] at hA2
                  have hR4 := Lib.hid (show R = none from by rw [hR2.out, hA2])
                  obtain ⟨⟨z0, z1, z2, z3, z4, z5, z6⟩, zf⟩ := HK3.cells7 (g := gr) (List.mem_cons_of_mem _ (List.mem_cons_self ..))
                  have HK9 := Lib.hid HK3
                  clear hnol hlab hA2 hj hnb HK3
                  go_wp2_with fail
                  refine (hJ2.out _).mono ?_
                  rintro e w6 ⟨rfl, rfl⟩
                  go_wp2_with fail
                  refine (hNm.out _).mono ?_
                  rintro e w6 ⟨rfl, rfl⟩
                  go_wp2
                  have hE := (HK9.out.swap).set7 (g := gr) (by omega) (fun x hx => by rw [List.mem_singleton] at hx; subst hx; show gx ≠ gr; omega) (.int .u32 0) (.int .i64 0) (.int .i64 0) (.int .i64 0) (.int .i64 0) (.int .i64 0) (.string ⟨#[]⟩)
                  (try simp only [Exit.inBlock, Exit.then])
                  change bodyPost _ _ _ _ _ (st7 w5 gr (.int .u32 0) (.int .i64 0) (.int .i64 0) (.int .i64 0) (.int .i64 0) (.int .i64 0) (.string ⟨#[]⟩))
                  generalize st7 w5 gr (.int .u32 0) (.int .i64 0) (.int .i64 0) (.int .i64 0) (.int .i64 0) (.int .i64 0) (.string ⟨#[]⟩) = w9 at *
                  obtain ⟨⟨y0, y1, y2, y3, y4, y5, y6⟩, -⟩ := hE.cells7 (g := gr) (List.mem_cons_self ..)
                  have hb9 := Lib.hid hE.bl
                  clear hE
                  refine bodyPost_ret (by simp [results, Tryz.results41, go_sem, y0, y1, y2, y3, y4, y5, y6]; try rfl) rfl ?_
                  rw [hD.out]
                  exact RdPost.no (x := 0) (i := Ins.zero) (lab := []) hR4.out rfl hb9.out
                | true =>
                  rw [hnb] at hNm
                  rw [hlab ⟨hj, hnb⟩] at hA2
                  have hA3 := Lib.hid hA2
                  have y6 : w5.cell? ⟨gx, 6, none⟩ = some (.string ⟨lab.toArray⟩) := HK3.cell _ (List.mem_cons_self ..) rfl
                  have yf := HK3.soft (List.mem_cons_self ..)
                  have HK4 := hset.out _ _ _ _ HK3 6 (.string ⟨t.toArray⟩) (by omega)
                  have HK5 : KR W [⟨gx, itV 0 (setF i 105 v) t⟩, ⟨gr, [.int .u32 0, .int .i64 0, .int .i64 0, .int .i64 0, .int .i64 0, .int .i64 0, .string ⟨#[]⟩]⟩] (w5.setCell ⟨gx, 6, none⟩ (.string ⟨t.toArray⟩)) := HK4
                  replace HK5 := Lib.hid HK5
                  clear hnol hlab hA2 hj hnb HK3 HK4 hA
                  go_wp2_with fail
                  refine (hJ2.out _).mono ?_
                  rintro e w6 ⟨rfl, rfl⟩
                  go_wp2_with fail
                  refine (hNm.out _).mono ?_
                  rintro e w6 ⟨rfl, rfl⟩
                  go_wp2
                  go_roundw
                  case rel => exact ⟨k + 1, _, t, by have := hkl.out; omega, by go_num, hA3, hop2, HK5⟩
                  case measure => have := hkl.out; simp [RowKit.intOf]; omega
          · subst hcl
            have hx2 : ∀ w, (Instr.index 9 (.string ⟨f.toArray⟩) (.int .i64 k)).run Tryz.prog w = .ok (.int .u8 106) w := hix
            have hRn : ∀ w, Calls Tryz.prog 81 #[.string ⟨t.toArray⟩] w fun e w' => e = .returned (.tuple #[.int .i64 (sgnN t), .bool (sgnT t)]) ∧ w = w' := fun w => rnumber_any ⟨t.toArray⟩ w (by rw [size_mk]; omega)
            have hNm : ∀ w, Calls Tryz.prog 51 #[.string ⟨t.toArray⟩] w fun e w' => e = .returned (.bool (nameB t)) ∧ w = w' := fun w => rName8_any ⟨t.toArray⟩ w
            replace hRn := Lib.hid hRn
            replace hNm := Lib.hid hNm
            generalize regN t = rn at *
            generalize regT t = rt at *
            cases hb : sgnT t with
            | true =>
              rw [docA_num (by decide) hb] at hA2
              have hA3 := Lib.hid hA2
              have HK2 := hset.out _ _ _ _ HK.out 5 (.int .i64 (sgnN t)) (by omega)
              have HK3 : KR W [⟨gx, itV 0 (setF i 106 (sgnN t)) lab⟩, ⟨gr, [.int .u32 0, .int .i64 0, .int .i64 0, .int .i64 0, .int .i64 0, .int .i64 0, .string ⟨#[]⟩]⟩] (wr.setCell ⟨gx, 5, none⟩ (.int .i64 (sgnN t))) := HK2
              have hop2 := Lib.hid (show (setF i 106 (sgnN t)).op = op from hop.out)
              rw [hb] at hRn
              generalize sgnN t = v at *
              clear hA2 hA
              clear hix hb HK2 z0 z1 z2 z3 z4 z5 z6 zf
              go_wp2_with fail
              refine (hRg.out _).mono ?_
              rintro e w5 ⟨rfl, rfl⟩
              go_wp2_with fail
              refine (hRn.out _).mono ?_
              rintro e w5 ⟨rfl, rfl⟩
              go_upto_region 17 with (fail)
              change Code.wp _ _ _ _ (wr.setCell ⟨gx, 5, none⟩ (.int .i64 v))
              generalize wr.setCell ⟨gx, 5, none⟩ (.int .i64 v) = w5 at *
              clear x0 x1 x2 x3 x4 x5 x6 xf e1
              replace HK3 := Lib.hid HK3
              go_wp2
              go_roundw
              case rel => exact ⟨k + 1, _, lab, by have := hkl.out; omega, by go_num, hA3, hop2, HK3⟩
              case measure => have := hkl.out; simp [RowKit.intOf]; omega
            | false =>
              have HK2 := hset.out _ _ _ _ HK.out 5 (.int .i64 (sgnN t)) (by omega)
              have HK3 : KR W [⟨gx, itV 0 (setF i 106 (sgnN t)) lab⟩, ⟨gr, [.int .u32 0, .int .i64 0, .int .i64 0, .int .i64 0, .int .i64 0, .int .i64 0, .string ⟨#[]⟩]⟩] (wr.setCell ⟨gx, 5, none⟩ (.int .i64 (sgnN t))) := HK2
              have hlab := fun h => docA_lab (f := f.drop (k + 1)) (i := i) (lab := lab) (ts := r.drop (k + 1)) (x := 106) (op := op) (by decide) hb h
              have hnol := fun h => docA_no (f := f.drop (k + 1)) (i := i) (lab := lab) (ts := r.drop (k + 1)) (x := 106) (op := op) (by decide) hb h
              have hop2 := Lib.hid (show (setF i 106 (sgnN t)).op = op from hop.out)
              rw [hb] at hRn
              generalize sgnN t = v at *
              clear hix hb HK2 z0 z1 z2 z3 z4 z5 z6 zf
              go_wp2_with fail
              refine (hRg.out _).mono ?_
              rintro e w5 ⟨rfl, rfl⟩
              go_wp2_with fail
              refine (hRn.out _).mono ?_
              rintro e w5 ⟨rfl, rfl⟩
              go_upto_region 17 with (fail)
              change Code.wp _ _ _ _ (wr.setCell ⟨gx, 5, none⟩ (.int .i64 v))
              generalize wr.setCell ⟨gx, 5, none⟩ (.int .i64 v) = w5 at *
              clear x0 x1 x2 x3 x4 x5 x6 xf e1
              have y1 : w5.cell? ⟨gx, 1, none⟩ = some (.int .i64 op) := by rw [← hop2.out]; exact HK3.cell _ (List.mem_cons_self ..) rfl
              have hJ2 := Lib.hid (fun w => hJ.out op w)
              cases hj : jmpB op with
              | false =>
                rw [hj] at hJ2
                rw [hnol (fun k => by rw [hj] at k; cases k.1)] at hA2
                have hR4 := Lib.hid (show R = none from by rw [hR2.out, hA2])
                obtain ⟨⟨z0, z1, z2, z3, z4, z5, z6⟩, zf⟩ := HK3.cells7 (g := gr) (List.mem_cons_of_mem _ (List.mem_cons_self ..))
                have HK9 := Lib.hid HK3
                clear hnol hlab hA2 hj HK3
                go_wp2_with fail
                refine (hJ2.out _).mono ?_
                rintro e w6 ⟨rfl, rfl⟩
                go_wp2
                have hE := (HK9.out.swap).set7 (g := gr) (by omega) (fun x hx => by rw [List.mem_singleton] at hx; subst hx; show gx ≠ gr; omega) (.int .u32 0) (.int .i64 0) (.int .i64 0) (.int .i64 0) (.int .i64 0) (.int .i64 0) (.string ⟨#[]⟩)
                (try simp only [Exit.inBlock, Exit.then])
                change bodyPost _ _ _ _ _ (st7 w5 gr (.int .u32 0) (.int .i64 0) (.int .i64 0) (.int .i64 0) (.int .i64 0) (.int .i64 0) (.string ⟨#[]⟩))
                generalize st7 w5 gr (.int .u32 0) (.int .i64 0) (.int .i64 0) (.int .i64 0) (.int .i64 0) (.int .i64 0) (.string ⟨#[]⟩) = w9 at *
                obtain ⟨⟨y0, y1, y2, y3, y4, y5, y6⟩, -⟩ := hE.cells7 (g := gr) (List.mem_cons_self ..)
                have hb9 := Lib.hid hE.bl
                clear hE
                refine bodyPost_ret (by simp [results, Tryz.results41, go_sem, y0, y1, y2, y3, y4, y5, y6]; try rfl) rfl ?_
                rw [hD.out]
                exact RdPost.no (x := 0) (i := Ins.zero) (lab := []) hR4.out rfl hb9.out
              | true =>
                rw [hj] at hJ2
                cases hnb : nameB t with
                | false =>
                  rw [hnb] at hNm
                  rw [hnol (fun k => by rw [hnb] at k; cases k.2)] at hA2
                  have hR4 := Lib.hid (show R = none from by rw [hR2.out, hA2])
                  obtain ⟨⟨z0, z1, z2, z3, z4, z5, z6⟩, zf⟩ := HK3.cells7 (g := gr) (List.mem_cons_of_mem _ (List.mem_cons_self ..))
                  have HK9 := Lib.hid HK3
                  clear hnol hlab hA2 hj hnb HK3
                  go_wp2_with fail
                  refine (hJ2.out _).mono ?_
                  rintro e w6 ⟨rfl, rfl⟩
                  go_wp2_with fail
                  refine (hNm.out _).mono ?_
                  rintro e w6 ⟨rfl, rfl⟩
                  go_wp2
                  have hE := (HK9.out.swap).set7 (g := gr) (by omega) (fun x hx => by rw [List.mem_singleton] at hx; subst hx; show gx ≠ gr; omega) (.int .u32 0) (.int .i64 0) (.int .i64 0) (.int .i64 0) (.int .i64 0) (.int .i64 0) (.string ⟨#[]⟩)
                  (try simp only [Exit.inBlock, Exit.then])
                  change bodyPost _ _ _ _ _ (st7 w5 gr (.int .u32 0) (.int .i64 0) (.int .i64 0) (.int .i64 0) (.int .i64 0) (.int .i64 0) (.string ⟨#[]⟩))
                  generalize st7 w5 gr (.int .u32 0) (.int .i64 0) (.int .i64 0) (.int .i64 0) (.int .i64 0) (.int .i64 0) (.string ⟨#[]⟩) = w9 at *
                  obtain ⟨⟨y0, y1, y2, y3, y4, y5, y6⟩, -⟩ := hE.cells7 (g := gr) (List.mem_cons_self ..)
                  have hb9 := Lib.hid hE.bl
                  clear hE
                  refine bodyPost_ret (by simp [results, Tryz.results41, go_sem, y0, y1, y2, y3, y4, y5, y6]; try rfl) rfl ?_
                  rw [hD.out]
                  exact RdPost.no (x := 0) (i := Ins.zero) (lab := []) hR4.out rfl hb9.out
                | true =>
                  rw [hnb] at hNm
                  rw [hlab ⟨hj, hnb⟩] at hA2
                  have hA3 := Lib.hid hA2
                  have y6 : w5.cell? ⟨gx, 6, none⟩ = some (.string ⟨lab.toArray⟩) := HK3.cell _ (List.mem_cons_self ..) rfl
                  have yf := HK3.soft (List.mem_cons_self ..)
                  have HK4 := hset.out _ _ _ _ HK3 6 (.string ⟨t.toArray⟩) (by omega)
                  have HK5 : KR W [⟨gx, itV 0 (setF i 106 v) t⟩, ⟨gr, [.int .u32 0, .int .i64 0, .int .i64 0, .int .i64 0, .int .i64 0, .int .i64 0, .string ⟨#[]⟩]⟩] (w5.setCell ⟨gx, 6, none⟩ (.string ⟨t.toArray⟩)) := HK4
                  replace HK5 := Lib.hid HK5
                  clear hnol hlab hA2 hj hnb HK3 HK4 hA
                  go_wp2_with fail
                  refine (hJ2.out _).mono ?_
                  rintro e w6 ⟨rfl, rfl⟩
                  go_wp2_with fail
                  refine (hNm.out _).mono ?_
                  rintro e w6 ⟨rfl, rfl⟩
                  go_wp2
                  go_roundw
                  case rel => exact ⟨k + 1, _, t, by have := hkl.out; omega, by go_num, hA3, hop2, HK5⟩
                  case measure => have := hkl.out; simp [RowKit.intOf]; omega
        · have hke : k = f.length := by omega
          have hA2 := hA.out
          rw [hke, List.drop_length] at hA2
          have hR4 : R = if mayB i = true then some (encW i, i, lab) else none := by rw [hR2.out, hA2]; rfl
          obtain ⟨⟨x0, x1, x2, x3, x4, x5, x6⟩, xf⟩ := HK.out.cells7 (g := gx) (List.mem_cons_self ..)
          have hE := hEn.out i wr
          obtain ⟨iop, ia, ib, ic, im⟩ := i
          simp only at x1 x2 x3 x4 x5 hE
          have hnx : ¬ gx = gr := by omega
          have hnx2 : ¬ gr = gx := by omega
          have hst := fun (u : World) (k : Below wr.heap.size wr u) (x : Int) => hset.out u _ _ _ (HK.out.below k) 0 (.int .u32 x) (by omega)
          replace hst := Lib.hid hst
          clear hA2 hke hk
          cases hm : mayB ⟨iop, ia, ib, ic, im⟩ with
          | false =>
            have hR5 := Lib.hid (show R = none from hR4.trans (if_neg (by rw [hm]; decide)))
            have hE7 := hE.mono (R' := fun e u => e = .returned (.tuple #[.int .u32 0, .int .i64 2]) ∧ Below wr.heap.size wr u) fun e u q => q.at_no hm
            replace hE7 := Lib.hid hE7
            clear hE hm hR4
            go_wp2_with fail
            refine hE7.out.mono ?_
            rintro e w6 ⟨rfl, k6⟩
            have HK6 := HK.out.below k6
            have HK7 := hst.out w6 k6 0
            clear x0 x1 x2 x3 x4 x5 x6 xf k6
            obtain ⟨⟨x0, x1, x2, x3, x4, x5, x6⟩, xf⟩ := HK6.cells7 (g := gx) (List.mem_cons_self ..)
            go_upto_region 30 with (fail)
            change Code.wp _ _ _ _ (w6.setCell ⟨gx, 0, none⟩ (.int .u32 0))
            generalize w6.setCell ⟨gx, 0, none⟩ (.int .u32 0) = w7 at *
            clear x0 x1 x2 x3 x4 x5 x6 xf HK6
            replace HK7 : KR W [⟨gx, itV 0 ⟨iop, ia, ib, ic, im⟩ lab⟩, ⟨gr, [.int .u32 0, .int .i64 0, .int .i64 0, .int .i64 0, .int .i64 0, .int .i64 0, .string ⟨#[]⟩]⟩] w7 := HK7
            obtain ⟨⟨x0, x1, x2, x3, x4, x5, x6⟩, xf⟩ := HK7.cells7 (g := gx) (List.mem_cons_self ..)
            obtain ⟨⟨z0, z1, z2, z3, z4, z5, z6⟩, zf⟩ := HK7.cells7 (g := gr) (List.mem_cons_of_mem _ (List.mem_cons_self ..))
            have HK8 := Lib.hid HK7
            simp only at x1 x2 x3 x4 x5
            clear HK7
            go_wp2
            have hE := (HK8.out.swap).set7 (g := gr) (by omega) (fun x hx => by rw [List.mem_singleton] at hx; subst hx; show gx ≠ gr; omega) (.int .u32 0) (.int .i64 iop) (.int .i64 ia) (.int .i64 ib) (.int .i64 ic) (.int .i64 im) (.string ⟨lab.toArray⟩)
            (try simp only [Exit.inBlock, Exit.then])
            change bodyPost _ _ _ _ _ (st7 w7 gr (.int .u32 0) (.int .i64 iop) (.int .i64 ia) (.int .i64 ib) (.int .i64 ic) (.int .i64 im) (.string ⟨lab.toArray⟩))
            generalize st7 w7 gr (.int .u32 0) (.int .i64 iop) (.int .i64 ia) (.int .i64 ib) (.int .i64 ic) (.int .i64 im) (.string ⟨lab.toArray⟩) = w9 at *
            obtain ⟨⟨y0, y1, y2, y3, y4, y5, y6⟩, -⟩ := hE.cells7 (g := gr) (List.mem_cons_self ..)
            have hb9 := Lib.hid hE.bl
            clear hE
            refine bodyPost_ret (by simp [results, Tryz.results41, go_sem, y0, y1, y2, y3, y4, y5, y6]; try rfl) rfl ?_
            rw [hD.out]
            exact RdPost.no (x := 0) (i := ⟨iop, ia, ib, ic, im⟩) (lab := lab) hR5.out rfl hb9.out
          | true =>
            have hR5 := Lib.hid (show R = some (encW ⟨iop, ia, ib, ic, im⟩, ⟨iop, ia, ib, ic, im⟩, lab) from hR4.trans (if_pos hm))
            have hE7 := hE.mono (R' := fun e u => e = .returned (.tuple #[.int .u32 (encW ⟨iop, ia, ib, ic, im⟩), .int .i64 0]) ∧ Below wr.heap.size wr u) fun e u q => q.at_yes hm
            generalize encW ⟨iop, ia, ib, ic, im⟩ = z at *
            replace hE7 := Lib.hid hE7
            clear hE hm hR4
            go_wp2_with fail
            refine hE7.out.mono ?_
            rintro e w6 ⟨rfl, k6⟩
            have HK6 := HK.out.below k6
            have HK7 := hst.out w6 k6 z
            clear x0 x1 x2 x3 x4 x5 x6 xf k6
            obtain ⟨⟨x0, x1, x2, x3, x4, x5, x6⟩, xf⟩ := HK6.cells7 (g := gx) (List.mem_cons_self ..)
            go_upto_region 30 with (fail)
            change Code.wp _ _ _ _ (w6.setCell ⟨gx, 0, none⟩ (.int .u32 z))
            generalize w6.setCell ⟨gx, 0, none⟩ (.int .u32 z) = w7 at *
            clear x0 x1 x2 x3 x4 x5 x6 xf HK6
            replace HK7 : KR W [⟨gx, itV z ⟨iop, ia, ib, ic, im⟩ lab⟩, ⟨gr, [.int .u32 0, .int .i64 0, .int .i64 0, .int .i64 0, .int .i64 0, .int .i64 0, .string ⟨#[]⟩]⟩] w7 := HK7
            obtain ⟨⟨x0, x1, x2, x3, x4, x5, x6⟩, xf⟩ := HK7.cells7 (g := gx) (List.mem_cons_self ..)
            obtain ⟨⟨z0, z1, z2, z3, z4, z5, z6⟩, zf⟩ := HK7.cells7 (g := gr) (List.mem_cons_of_mem _ (List.mem_cons_self ..))
            have HK8 := Lib.hid HK7
            simp only at x1 x2 x3 x4 x5
            clear HK7
            go_wp2
            have hE := (HK8.out.swap).set7 (g := gr) (by omega) (fun x hx => by rw [List.mem_singleton] at hx; subst hx; show gx ≠ gr; omega) (.int .u32 z) (.int .i64 iop) (.int .i64 ia) (.int .i64 ib) (.int .i64 ic) (.int .i64 im) (.string ⟨lab.toArray⟩)
            (try simp only [Exit.inBlock, Exit.then])
            change bodyPost _ _ _ _ _ (st7 w7 gr (.int .u32 z) (.int .i64 iop) (.int .i64 ia) (.int .i64 ib) (.int .i64 ic) (.int .i64 im) (.string ⟨lab.toArray⟩))
            generalize st7 w7 gr (.int .u32 z) (.int .i64 iop) (.int .i64 ia) (.int .i64 ib) (.int .i64 ic) (.int .i64 im) (.string ⟨lab.toArray⟩) = w9 at *
            obtain ⟨⟨y0, y1, y2, y3, y4, y5, y6⟩, -⟩ := hE.cells7 (g := gr) (List.mem_cons_self ..)
            have hb9 := Lib.hid hE.bl
            clear hE
            refine bodyPost_ret (by simp [results, Tryz.results41, go_sem, y0, y1, y2, y3, y4, y5, y6]; try rfl) rfl ?_
            rw [hD.out]
            exact RdPost.yes (x := z) (i := ⟨iop, ia, ib, ic, im⟩) (lab := lab) hR5.out rfl hb9.out
end Go.Proofs.YtdkggahkfheocaaGreatDoor
