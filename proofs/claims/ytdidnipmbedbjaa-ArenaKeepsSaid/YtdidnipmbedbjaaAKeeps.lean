/- Proved: a sound capability is loaded as it was stored, a number as it was, whatever is stored elsewhere (ArenaKeeps). For every input; no condition. -/
import Derived.Test.YtdidnipmbedbjaaRows
import Derived.Test.YtdidnipmbedbjaaArW
import Derived.Test.YtdidnipmbedbjaaFlat
import Derived.Test.YtdidnipmbedbjaaNums
import Derived.ProofKit
import Derived.OpenShut
import Derived.ShutString
import Derived.ChangeOld
import Derived.Deep.DeepCutAuto
namespace Go.Proofs.Ytdidnipmbedbjaa.akeeps
open Go.ChangeShapes Go.WideShapes Go.ChangeAt Go.RowKit
open Go.ChangeMaps (open_string shut_string)
set_option linter.unusedVariables false

/-- What was laid elsewhere leaves what is here. -/
theorem ovr_far {l b : List UInt8} {k p m : Nat} (hk : p + b.length ≤ l.length) (h : p + b.length ≤ k ∨ k + m ≤ p) : ((ovr l p b).drop k).take m = (l.drop k).take m := by
  have h1 : (l.take p).length = p := by simp; omega
  unfold ovr
  rcases h with h | h
  · rw [List.drop_append, List.drop_append, h1, List.drop_of_length_le (by omega), List.nil_append, List.drop_of_length_le (by omega), List.nil_append, List.drop_drop]
    congr 2
    omega
  · apply List.ext_getElem?
    intro j
    rw [List.getElem?_take, List.getElem?_take, List.getElem?_drop, List.getElem?_drop]
    split
    · rw [List.getElem?_append_left (by omega), List.getElem?_take, if_pos (by omega)]
    · rfl
/-- What must stay: a tag, a capability's bytes, a number. -/
structure Kp (here there : Nat) (z : Bool) (s : List UInt8) (f : Nat → Bool) (l : List UInt8) : Prop where
  tag : f (here / 16) = z
  cap : (l.drop here).take 16 = s
  num : (l.drop there).take 4 = leB 4 305419896
theorem Kp.byte {here there : Nat} {z : Bool} {s : List UInt8} {f : Nat → Bool} {l : List UInt8} (h : Kp here there z s f l) (hl : l.length = 4096) (p v : Nat) (hp : p < 4096) (h1 : p / 16 ≠ here / 16) (h2 : p / 16 ≠ there / 16) (h3 : here % 16 = 0) (h4 : there % 16 = 0) :
    Kp here there z s (stF 4096 f p (putB [] 1 v).length) (stL 4096 l p (putB [] 1 v)) := by
  have e : (putB [] 1 v).length = 1 := by rw [putB_nil]; rfl
  have et : thr 4096 p ((1 : Nat) : Int) = true := thr_iff.2 (by omega)
  refine ⟨?_, ?_, ?_⟩
  · unfold stF
    rw [e, et, if_pos rfl]
    simp only [clr, h.tag]
    rw [show tch p 1 (here / 16) = false from by simp [tch]; omega]
    simp
  · unfold stL
    rw [e, et, if_pos rfl, ovr_far (by omega) (by omega)]
    exact h.cap
  · unfold stL
    rw [e, et, if_pos rfl, ovr_far (by omega) (by omega)]
    exact h.num
theorem capV_bytes (cu e b t pm ty rs : Nat) (va : Bool) (l0 : cu < 4294967296) (l1 : e < 256) (l2 : b < 65536) (l3 : t < 65536) (l4 : pm < 65536) (l5 : ty < 65536) (l6 : rs < 4294967296) (lr : rs < 16777216) (v : Bool) : capV (bytesC cu e b t pm ty rs) v = .agg #[.int .u32 cu, .int .u8 e, .int .u16 b, .int .u16 t, .int .u16 pm, .int .u16 ty, .int .u32 rs, .bool (v && sndP e b t pm ty rs)] := by
  have h := nm_bytes (cu := cu) (e := e) (b := b) (t := t) (pm := pm) (ty := ty) (rs := rs) l0 l1 l2 l3 l4 l5 lr
  unfold capV
  rw [h.1, h.2.1, h.2.2.1, h.2.2.2.1, h.2.2.2.2.1, h.2.2.2.2.2.1, h.2.2.2.2.2.2]
set_option maxRecDepth 100000 in
set_option maxHeartbeats 4000000 in
theorem walkN (cu e b t pm ty rs : Nat) (va : Bool) (x0 x1 : Nat) (l0 : cu < 4294967296) (l1 : e < 256) (l2 : b < 65536) (l3 : t < 65536) (l4 : pm < 65536) (l5 : ty < 65536) (l6 : rs < 4294967296) (h0 : x0 < 256) (h1 : x1 < 256) (A : Option Addr) (len cap : Nat) (hlen : len ≤ 9223372036854775807) (hcap : len ≤ cap) (W : World) (hP : NumsIn W W.heap.size A len .u16) :
    Calls Try.prog 6 #[.agg #[.int .u32 cu, .int .u8 e, .int .u16 b, .int .u16 t, .int .u16 pm, .int .u16 ty, .int .u32 rs, .bool va], .agg #[.int .u8 x0, .int .u8 x1], .slice A len cap] W fun e w' => e = .returned (.bool true) ∧ Below W.heap.size W w' := by
  have K0 := ((KR.start (W := W)).push (cv cu e b t pm ty rs va) 25).push [.int .u8 x0, .int .u8 x1] 67
  have M := Lib.hid (made_any ((W.alloc (.cells (cv cu e b t pm ty rs va).toArray 25)).alloc (.cells [.int .u8 x0, .int .u8 x1].toArray 67)))
  have hSn := Lib.hid (fun w => pSound_any cu e b t pm ty rs va l0 l1 l2 l3 l4 l5 l6 w)
  rw [World.size_alloc] at K0
  replace K0 := Lib.hid K0
  go_enter Try.func6, Try.ntmps6
  go_wp2_with fail
  refine M.out.mono ?_
  rintro e1 W1 ⟨a, rfl, mb, wb, bb, c, h, hb, x1', x2', x3', x4'⟩
  have K1 := Lib.hid (K0.out.below hb)
  have N := Lib.hid (show W.heap.size + 1 < wb ∧ W.heap.size + 1 < bb ∧ W.heap.size + 1 < mb ∧ W.heap.size + 1 < a by simp at x1' x2' x3' x4'; omega)
  have A1 := Lib.hid (show ArAt W1 a mb wb bb c 4096 256 F0 L0 from h)
  clear h hb x1' x2' x3' x4' M K0
  go_wp2_with fail
  refine (awW W1).mono ?_
  rintro e2 W2 ⟨rfl, k⟩
  have K2 := Lib.hid (K1.out.below k)
  have A2 := Lib.hid (A1.out.below k)
  clear k K1 A1
  obtain ⟨q0, q1, q2, q3, q4, q5, q6, q7⟩ := K2.out.cap (g := W.heap.size) (cu := cu) (e := e) (b := b) (t := t) (pm := pm) (ty := ty) (rs := rs) (va := va) (by simp)
  have fz := fun j => K2.out.soft (g := W.heap.size) (vs := cv cu e b t pm ty rs va) (by simp) j
  obtain ⟨z, hz⟩ : ∃ z, z = (va && sndP e b t pm ty rs) := ⟨_, rfl⟩
  go_upto_region 4 with (fail)
  go_cut [26] (fun v w' => KR W [⟨W.heap.size, cv cu e b t pm ty rs z⟩, ⟨W.heap.size + 1, [.int .u8 x0, .int .u8 x1]⟩] w' ∧ ArAt w' a mb wb bb c 4096 256 F0 L0)
  case first =>
    have hset : ∀ X, KR W [⟨W.heap.size + 1, [.int .u8 x0, .int .u8 x1]⟩, ⟨W.heap.size, cv cu e b t pm ty rs va⟩] X → ArAt X a mb wb bb c 4096 256 F0 L0 → KR W [⟨W.heap.size, cv cu e b t pm ty rs z⟩, ⟨W.heap.size + 1, [.int .u8 x0, .int .u8 x1]⟩] (X.setCell ⟨W.heap.size, 7, none⟩ (.bool z)) ∧ ArAt (X.setCell ⟨W.heap.size, 7, none⟩ (.bool z)) a mb wb bb c 4096 256 F0 L0 := fun X hx ha => by
      have hn := N.out
      exact ⟨hx.swap.set (Nat.le_refl _) (by simp) 7 (.bool z) (by simp [cv]), ha.keep (fun k hk => Below.heap_setCell _ _ _ _ (by show k ≠ W.heap.size; omega)) (by simp [World.setCell])⟩
    replace hset := Lib.hid hset
    rcases va with _ | _
    · rw [Bool.false_and] at hz
      subst hz
      go_wp2_with fail
      go_meet
      exact hset.out _ K2.out A2.out
    · rw [Bool.true_and] at hz
      rw [← hz] at hSn
      have hz' := Lib.hid hz
      clear hz
      go_wp2_with fail
      refine (hSn.out _).mono ?_
      rintro e3 W3 ⟨rfl, k⟩
      have fz3 := fun j => (K2.out.below k).soft (g := W.heap.size) (vs := cv cu e b t pm ty rs true) (by simp) j
      have q7' := (K2.out.below k).cell (g := W.heap.size) (j := 7) (u := .bool true) (cv cu e b t pm ty rs true) (by simp) rfl
      have h3 := Lib.hid (hset.out _ (K2.out.below k) (A2.out.below k))
      clear k q0 q1 q2 q3 q4 q5 q6 q7 fz
      go_wp2_with fail
      go_meet
      exact h3.out
  case rest =>
    obtain ⟨K, A⟩ := hcut
    have K3 := Lib.hid K
    have A3 := Lib.hid A
    clear K A K2 A2 q0 q1 q2 q3 q4 q5 q6 q7 fz
    have q6 := K3.out.cell (g := W.heap.size) (j := 6) (u := .int .u32 rs) (cv cu e b t pm ty rs z) (by simp) rfl
    have f6 := K3.out.soft (g := W.heap.size) (vs := cv cu e b t pm ty rs z) (by simp) 6
    obtain ⟨r2, hr⟩ : ∃ r2, r2 = rs % 16777216 := ⟨_, rfl⟩
    have hr2 : (rs : Int) % 16777216 = (r2 : Int) := by omega
    have hr3 := Lib.hid hr
    have hset2 := Lib.hid (show KR W [⟨W.heap.size, cv cu e b t pm ty r2 z⟩, ⟨W.heap.size + 1, [.int .u8 x0, .int .u8 x1]⟩] (wc.setCell ⟨W.heap.size, 6, none⟩ (.int .u32 r2)) ∧ ArAt (wc.setCell ⟨W.heap.size, 6, none⟩ (.int .u32 r2)) a mb wb bb c 4096 256 F0 L0 from by
      have hn := N.out
      exact ⟨K3.out.set (Nat.le_refl _) (by simp) 6 (.int .u32 r2) (by simp [cv]), A3.out.keep (fun k hk => Below.heap_setCell _ _ _ _ (by show k ≠ W.heap.size; omega)) (by simp [World.setCell])⟩)
    have hz' := Lib.hid hz
    clear hr hz K3 A3
    go_upto_region 6 with (fail)
    generalize wc.setCell ⟨W.heap.size, 6, none⟩ (.int .u32 r2) = W5 at *
    obtain ⟨S, hS0⟩ : ∃ S, S = fun w' => KR W [⟨W.heap.size, cv cu e b t pm ty r2 z⟩, ⟨W.heap.size + 1, [.int .u8 x0, .int .u8 x1]⟩] w' ∧ ArAt w' a mb wb bb c 4096 256 F0 L0 := ⟨_, rfl⟩
    have hK : ∀ w', S w' → KR W [⟨W.heap.size, cv cu e b t pm ty r2 z⟩, ⟨W.heap.size + 1, [.int .u8 x0, .int .u8 x1]⟩] w' ∧ ArAt w' a mb wb bb c 4096 256 F0 L0 := fun w' h => by rw [hS0] at h; exact h
    have hS : ∀ w1 w', S w1 → Below w1.heap.size w1 w' → S w' := fun w1 w' h k => by rw [hS0] at h ⊢; exact ⟨h.1.below k, h.2.below k⟩
    have K5 := Lib.hid (show S W5 by rw [hS0]; exact hset2.out)
    clear hS0 hset2 hr2 q6 f6
    have b0 : ∀ y : Wd S, y.w.cell? ⟨W.heap.size + 1, 0, none⟩ = some (.int .u8 x0) := fun y => (hK _ y.h).1.cell (g := W.heap.size + 1) [.int .u8 x0, .int .u8 x1] (by simp) rfl
    have b1 : ∀ y : Wd S, y.w.cell? ⟨W.heap.size + 1, 1, none⟩ = some (.int .u8 x1) := fun y => (hK _ y.h).1.cell (g := W.heap.size + 1) [.int .u8 x0, .int .u8 x1] (by simp) rfl
    have i0 : (x0 : Int) < 256 := by omega
    have i1 : (x1 : Int) < 256 := by omega
    go_wp2_with fail
    refine region_cls S (by kernel_rfl) (by kernel_rfl) (hS _ _ K5.out (Below.refl _ _).drew) ?_
    repeat (first
      | go_big_quiet_skip
      | (go_big_quiet_want
         go_big_quiet_op
         first
         | go_big_quiet_on
         | (apply Exists.intro
            refine ⟨fun y => ?_, ?_⟩
            · first | exact rfl
            go_big_quiet_on)))
    refine wpQuiet_nil ?_
    intro y
    have Ky := Lib.hid (hK _ y.h).1
    have Ay := Lib.hid (hK _ y.h).2
    generalize y.w = wy at *
    clear K5 hK hS b0 b1 y
    obtain ⟨hr, hhr⟩ : ∃ h, h = 16 * x0 := ⟨_, rfl⟩
    obtain ⟨th, hth⟩ : ∃ h, h = 16 * x1 := ⟨_, rfl⟩
    have eh : (16 : Int) * (x0 : Int) = (hr : Int) := by omega
    have et : (16 : Int) * (x1 : Int) = (th : Int) := by omega
    rw [eh, et]
    have X := Lib.hid (show hr % 16 = 0 ∧ th % 16 = 0 ∧ hr ≤ 4080 ∧ th ≤ 4080 from by omega)
    have jh : (hr : Int) ≤ 4080 := by omega
    have jt : (th : Int) ≤ 4080 := by omega
    clear eh et hhr hth i0 i1 h0 h1 S
    by_cases hd : hr = th
    · subst hd
      have hb := Lib.hid Ky.out.bl
      clear Ky Ay
      go_wp2
      go_ret
      exact ⟨rfl, hb.out⟩
    · have hd' : ¬ (hr : Int) = (th : Int) := by omega
      have hdd := Lib.hid hd
      have hsn := Lib.hid (show (z && sndP e b t pm ty r2) = z from by
        rw [hz'.out]
        rcases hv : (va && sndP e b t pm ty rs) with _ | _
        · rfl
        · have h2 : sndP e b t pm ty rs = true := by rcases va with _ | _ <;> simp_all
          have h3 : rs < 16777216 := by have := of_decide_eq_true h2; omega
          rw [hr3.out, Nat.mod_eq_of_lt h3, h2]
          rfl)
      have lr2 := Lib.hid (show r2 < 16777216 from by rw [hr3.out]; omega)
      have Z0 := Lib.hid (show St wy a mb wb bb c 4096 256 F0 L0 [⟨W.heap.size, cv cu e b t pm ty r2 z⟩, ⟨W.heap.size + 1, [.int .u8 x0, .int .u8 x1]⟩] wy from ⟨Ay.out, Of2.refl _ _ _ _, Ky.out.al, fun x hx => by
        have hn := N.out
        simp at hx
        rcases hx with rfl | rfl <;> simp <;> omega⟩)
      have hbl := Lib.hid Ky.out.bl
      clear hd Ay Ky
      go_wp2_with fail
      have h1 := store6 (f' := F0) (l' := ovr L0 th (leB 4 305419896)) Z0.out.ar th 4 305419896 (by have := X.out; omega) (by decide) true (by
        rw [putB_nil]
        have := thr_iff (n := 4096) (at_ := th) (k := 4)
        show (true && thr 4096 th ((4 : Nat) : Int)) = true
        rw [this.2 (by have := X.out; omega)]; rfl) (fun j => stF_F0 _ _ _ j) (by
        unfold stL
        rw [show (putB [] 4 305419896).length = 4 from by rw [putB_nil]; rfl, thr_iff.2 (by have := X.out; omega), if_pos rfl]
        rfl)
      refine h1.mono ?_
      rintro e3 W6 ⟨rfl, k⟩
      have Z1 := Lib.hid (Z0.out.nxt k)
      clear k Z0 h1
      obtain ⟨g0, g1, g2, g3, g4, g5, g6, g7⟩ := Z1.out.rs.cap (g := W.heap.size) (cu := cu) (e := e) (b := b) (t := t) (pm := pm) (ty := ty) (rs := r2) (va := z) (by simp)
      go_wp2_with fail
      have h2 := ascap_any Z1.out.ar cu e b t pm ty r2 z hr l0 l1 l2 l3 l4 l5 (by have := lr2.out; omega) (by have := X.out; omega)
      have eg : grn 4096 hr = true := by
        have := X.out
        have h4 : thr 4096 hr ((16 : Nat) : Int) = true := thr_iff.2 (by omega)
        unfold grn
        rw [decide_eq_true this.1]
        exact h4
      rw [eg, hsn.out] at h2
      refine h2.mono ?_
      rintro e4 W7 ⟨rfl, k⟩
      have Z2 := Lib.hid (Z1.out.nxt k)
      have P2 := Lib.hid (show Kp hr th z (bytesC cu e b t pm ty r2) (scF 4096 F0 hr z) (scL 4096 (ovr L0 th (leB 4 305419896)) hr (bytesC cu e b t pm ty r2)) from by
        have hx := X.out
        have hne := hdd.out
        have l1' : (ovr L0 th (leB 4 305419896)).length = 4096 := (ovr_length (by rw [L0_len, leB_length]; omega)).trans L0_len
        have l2' : (bytesC cu e b t pm ty r2).length = 16 := bytesC_length ..
        unfold scF scL
        rw [if_pos eg, if_pos eg]
        refine ⟨upd_same _ _ _, ?_, ?_⟩
        · rw [ovr_get (by omega) (by omega)]
          exact List.take_of_length_le (by omega)
        · rw [ovr_far (by omega) (by omega), ovr_get (by rw [L0_len]; omega) (by rw [leB_length]; omega)]
          exact List.take_of_length_le (by rw [leB_length]; omega))
      have eg' := Lib.hid eg
      clear k Z1 h2 eg g0 g1 g2 g3 g4 g5 g6 g7
      generalize scF 4096 F0 hr z = f2 at *
      generalize scL 4096 (ovr L0 th (leB 4 305419896)) hr (bytesC cu e b t pm ty r2) = l2' at *
      replace hP := Lib.hid hP
      go_wp2_with fail
      go_loopw [10] (fun i wr => ∃ (k : Nat) (f : Nat → Bool) (l : List UInt8), k ≤ len ∧ k ≤ 30 ∧ i = .int .i64 k ∧ Kp hr th z (bytesC cu e b t pm ty r2) f l ∧ St wy a mb wb bb c 4096 256 f l [⟨W.heap.size, cv cu e b t pm ty r2 z⟩, ⟨W.heap.size + 1, [.int .u8 x0, .int .u8 x1]⟩] wr) (fun i _ => len - (intOf i).toNat)
      case atStart => exact ⟨0, _, _, by omega, by omega, rfl, P2.out, Z2.out⟩
      case round =>
        obtain ⟨k, f, l, hk1, hk2, rfl, P, Z⟩ := hrel
        have P3 := Lib.hid P
        have Z3 := Lib.hid Z
        have B3 := Lib.hid (hbl.out.trans (Z.of.below hbl.out.size (by have := N.out; omega) (by have := N.out; omega)))
        clear P Z P2 Z2
        have jk : (k : Int) ≤ 30 := by omega
        by_cases hk : k < len ∧ k < 30
        · have hk' : (k : Int) < len := by omega
          have hk3 : (k : Int) < 30 := by omega
          obtain ⟨bq, off, rfl, hlt, x, hc, hw⟩ := (hP.out.below B3.out) k hk.1
          have hx := bounds_u16 hw
          obtain ⟨xn, hxn⟩ := Int.eq_ofNat_of_zero_le hx.1
          have hx1 : 0 ≤ x := hx.1
          have hx2 : x < 65536 := by omega
          have hkk := Lib.hid hk
          obtain ⟨pp, hpp⟩ : ∃ p, p = xn % 4096 := ⟨_, rfl⟩
          have ep : x % 4096 = (pp : Int) := by omega
          have hxx := Lib.hid hxn
          have jp : (pp : Int) < 4096 := by omega
          clear hw hx hpp hk hlt hxn
          by_cases c1 : pp / 16 = hr / 16
          · have c1' : (pp : Int) / 16 = (hr : Int) / 16 := by omega
            go_wp2
            go_roundw
            case rel => exact ⟨k + 1, f, l, by omega, by have := hkk.out; omega, by go_num, P3.out, Z3.out⟩
            case measure => simp [intOf]; omega
          · have c1' : ¬ (pp : Int) / 16 = (hr : Int) / 16 := by omega
            by_cases c2 : pp / 16 = th / 16
            · have c2' : (pp : Int) / 16 = (th : Int) / 16 := by omega
              go_wp2
              go_roundw
              case rel => exact ⟨k + 1, f, l, by omega, by have := hkk.out; omega, by go_num, P3.out, Z3.out⟩
              case measure => simp [intOf]; omega
            · have c2' : ¬ (pp : Int) / 16 = (th : Int) / 16 := by omega
              have P4 := Lib.hid (P3.out.byte Z3.out.ar.len pp xn (by omega) c1 c2 X.out.1 X.out.2.1)
              clear c1 c2
              go_wp2_with fail
              have hxy := hxx.out
              subst hxy
              have h3 := astore_any Z3.out.ar 1 xn pp (by omega) (by omega)
              rw [show (isW 1 && thr 4096 pp (putB [] 1 xn).length) = true from by
                rw [putB_nil]
                show (true && thr 4096 pp ((1 : Nat) : Int)) = true
                rw [thr_iff.2 (by omega)]; rfl] at h3
              refine h3.mono ?_
              rintro e5 W8 ⟨rfl, q⟩
              have Z4 := Lib.hid (Z3.out.nxt q)
              clear q h3 Z3
              go_wp2
              go_roundw
              case rel => exact ⟨k + 1, _, _, by omega, by have := hkk.out; omega, by go_num, P4.out, Z4.out⟩
              case measure => simp [intOf]; omega
        · rcases Nat.lt_or_ge k len with hk0 | hk0
          all_goals
            have hk3 : (k : Int) < len → 30 ≤ (k : Int) := fun h => by omega
            have hk4 : (k : Int) < len → decide ((k : Int) < 30) = false := fun h => by simp; omega
            clear hk
            go_wp2_with fail
            have h4 := alcap_yes Z3.out.ar hr (by omega) eg'.out
            rw [P3.out.cap, P3.out.tag, capV_bytes cu e b t pm ty r2 z l0 l1 l2 l3 l4 l5 (by have := lr2.out; omega) lr2.out, hsn.out] at h4
            refine h4.mono ?_
            rintro e5 W8 ⟨rfl, q⟩
            have Z4 := Lib.hid ((Z3.out.below q).push (cv cu e b t pm ty r2 z) 25)
            clear q h4 Z3
            go_wp2_with fail
            have h5 := aload_any Z4.out.ar th 4 (by omega)
            have hg : getB l (th : Int) 4 = 305419896 ∧ inB 4096 th 4 = true := by
              have hi : inB 4096 th 4 = true := by
                unfold inB
                rw [show isW 4 = true from rfl, Bool.true_and]
                simp
                omega
              refine ⟨?_, hi⟩
              unfold getB
              rw [Z4.out.ar.len, if_pos hi]
              show le ((l.drop th).take 4) = _
              rw [P3.out.num, le_leB]
            rw [hg.1, hg.2] at h5
            refine h5.mono ?_
            rintro e6 W9 ⟨rfl, q⟩
            have Z5 := Lib.hid (Z4.out.below q)
            clear q h5 Z4 hg
            have hEq : ∀ w, (Op.equalIn 10000 25 (.agg #[.int .u32 cu, .int .u8 e, .int .u16 b, .int .u16 t, .int .u16 pm, .int .u16 ty, .int .u32 r2, .bool z]) (.agg #[.int .u32 cu, .int .u8 e, .int .u16 b, .int .u16 t, .int .u16 pm, .int .u16 ty, .int .u32 r2, .bool z])).run Try.prog w = .ok true w := fun w => by rw [cap_eq]; simp
            obtain ⟨g0, g1, g2, g3, g4, g5, g6, g7⟩ := Z5.out.rs.cap (g := W.heap.size) (cu := cu) (e := e) (b := b) (t := t) (pm := pm) (ty := ty) (rs := r2) (va := z) (by simp)
            obtain ⟨d0, d1, d2, d3, d4, d5, d6, d7⟩ := Z5.out.rs.cap (g := W8.heap.size) (cu := cu) (e := e) (b := b) (t := t) (pm := pm) (ty := ty) (rs := r2) (va := z) (by simp)
            obtain ⟨q5, hq5⟩ : ∃ q, q = hr + 15 := ⟨_, rfl⟩
            have e15 : (hr : Int) + 15 = (q5 : Int) := by omega
            have hq' := Lib.hid hq5
            clear hq5
            go_wp2_with fail
            have h6 := astore_any Z5.out.ar 1 0 q5 (by have := hq'.out; omega) (by decide)
            refine h6.mono ?_
            rintro e7 W10 ⟨rfl, q⟩
            have hF : stF 4096 f q5 (putB [] 1 0).length (hr / 16) = false := by
              have := hq'.out
              have hx := X.out
              unfold stF
              rw [show (putB [] 1 0).length = 1 from rfl, thr_iff.2 (by omega), if_pos rfl]
              simp [clr, tch]
              omega
            have Z6 := Lib.hid (Z5.out.nxt q)
            clear q h6 Z5 e15 hEq g0 g1 g2 g3 g4 g5 g6 g7 d0 d1 d2 d3 d4 d5 d6 d7
            go_wp2_with fail
            have h7 := alcap_yes Z6.out.ar hr (by omega) eg'.out
            rw [hF] at h7
            unfold capV at h7
            simp only [Bool.false_and] at h7
            generalize (List.take 16 (List.drop hr (stL 4096 l q5 (putB [] 1 0)))) = s7 at *
            refine h7.mono ?_
            rintro e8 W11 ⟨rfl, q⟩
            have Z7 := Lib.hid ((Z6.out.below q).push (cv (nm s7 0 4) (nm s7 4 1) (nm s7 5 2) (nm s7 7 2) (nm s7 9 2) (nm s7 11 2) (nm s7 13 3) false) 25)
            have hB := Lib.hid (hbl.out.trans (Z7.out.of.below hbl.out.size (by have := N.out; omega) (by have := N.out; omega)))
            clear q h7 Z6 Z7 hF
            go_wp2
            go_ret
            exact ⟨rfl, hB.out⟩
set_option maxRecDepth 100000 in
theorem walk (cu : Int) (wcu : (Lit.int .u32 cu).wf = true) (e : Int) (we : (Lit.int .u8 e).wf = true) (b : Int) (wb : (Lit.int .u16 b).wf = true) (t : Int) (wt : (Lit.int .u16 t).wf = true) (pm : Int) (wpm : (Lit.int .u16 pm).wf = true) (ty : Int) (wty : (Lit.int .u16 ty).wf = true) (rs : Int) (wrs : (Lit.int .u32 rs).wf = true) (va : Bool)
    (x0 : Int) (w0 : (Lit.int .u8 x0).wf = true) (x1 : Int) (w1 : (Lit.int .u8 x1).wf = true) {H : Type} {enc : TypeId × Value → H} (v2 : Value) {d2 : DataW H} {p2 : List MemPlace} (W : World)
    (hv : Value.okWide Try.prog W .any 0 68 v2) (hd : DataW.Trod enc Try.prog W 0 (fun _ => true) true 68 v2 d2 p2) :
    Calls Try.prog 6 #[.agg #[.int .u32 cu, .int .u8 e, .int .u16 b, .int .u16 t, .int .u16 pm, .int .u16 ty, .int .u32 rs, .bool va], .agg #[.int .u8 x0, .int .u8 x1], v2] W fun e w' => e = .returned (.bool true) ∧ Below W.heap.size W w' := by
  obtain ⟨A, len, cap, rfl, hcap, hm, hP⟩ := nums_of Try.underlying68 Try.underlying23 (by kernel_rfl) hv hd
  have hlen : len ≤ 9223372036854775807 := by unfold maxLen at hm; omega
  have hcu := bounds_u32 wcu
  obtain ⟨cu, rfl⟩ := Int.eq_ofNat_of_zero_le hcu.1
  have he := bounds_u8 we
  obtain ⟨e, rfl⟩ := Int.eq_ofNat_of_zero_le he.1
  have hb := bounds_u16 wb
  obtain ⟨b, rfl⟩ := Int.eq_ofNat_of_zero_le hb.1
  have ht := bounds_u16 wt
  obtain ⟨t, rfl⟩ := Int.eq_ofNat_of_zero_le ht.1
  have hpm := bounds_u16 wpm
  obtain ⟨pm, rfl⟩ := Int.eq_ofNat_of_zero_le hpm.1
  have hty := bounds_u16 wty
  obtain ⟨ty, rfl⟩ := Int.eq_ofNat_of_zero_le hty.1
  have hrs := bounds_u32 wrs
  obtain ⟨rs, rfl⟩ := Int.eq_ofNat_of_zero_le hrs.1
  have h0 := bounds_u8 w0
  obtain ⟨x0, rfl⟩ := Int.eq_ofNat_of_zero_le h0.1
  have h1 := bounds_u8 w1
  obtain ⟨x1, rfl⟩ := Int.eq_ofNat_of_zero_le h1.1
  exact walkN cu e b t pm ty rs va x0 x1 (by omega) (by omega) (by omega) (by omega) (by omega) (by omega) (by omega) (by omega) (by omega) A len cap hlen hcap W hP
theorem own : ownKnob Try.prog.godebug = none := by kernel_rfl
theorem laidOut : laidOutB Try.prog = true := by kernel_rfl
set_option maxRecDepth 100000 in
theorem lifted (os : Os) (started : os.Started) (H : Type) (enc : TypeId × Value → H) :
    ReturnsInHanded {} Try.checked os 6 .any (Rows.arenaKeepsSpec.pre6 enc Try.prog Try.f6 Rows.arenaKeepsRow.domain false) (Rows.arenaKeepsSpec.post enc Try.prog Try.f6 false true false false) := by
  refine returnsInHanded_of_change (C := Try.checked) own started (by kernel_rfl) Try.func6
    (ChangeSpec.witness6 (enc := enc) (C := Try.checked) false ⟨#[], #[.agg #[.int .u32 0, .int .u8 0, .int .u16 0, .int .u16 0, .int .u16 0, .int .u16 0, .int .u32 0, .bool false], .agg #[.int .u8 0, .int .u8 0], .slice none 0 0], []⟩ 8 (by kernel_rfl) (by kernel_rfl) (by kernel_rfl) (by kernel_rfl)) ?_
  intro W base args ds gs before hval0 hW hcnd hsz
  have hval : ∀ (j : Nat) t v, Try.f6.params[j]? = some t → args[j]? = some v → Value.okWide Try.prog W .any base t v := hval0
  have hW' := hW
  obtain ⟨p, q, hA0, hV, rfl, hfz, hnd⟩ := hW
  have hA : DataW.TrodAll enc Try.prog W 0 (fun _ => true) true Try.f6.params.toList args.toList ds p := hA0
  rw [Try.params6] at hA hval
  obtain ⟨v0, vs0, d0, ds0, p0, q0, hargs, rfl, rfl, h0, r0⟩ := trodAll_cons hA
  obtain ⟨v1, vs1, d1, ds1, p1, q1, rfl, rfl, rfl, h1, r1⟩ := trodAll_cons r0
  obtain ⟨v2, vs2, d2, ds2, p2, q2, rfl, rfl, rfl, h2, r2⟩ := trodAll_cons r1
  obtain ⟨rfl, rfl, rfl⟩ := trodAll_nil r2
  obtain rfl : args = #[v0, v1, v2] := by cases args; simp_all
  obtain ⟨rfl, rfl⟩ := trodVars_none hV
  have k0 := h0
  have lt0 : ∀ x ∈ p0, x.block < W.heap.size := by obtain ⟨m, hm⟩ := k0; exact DataW.trod_lt m _ _ _ hm
  have k1 := h1
  have lt1 : ∀ x ∈ p1, x.block < W.heap.size := by obtain ⟨m, hm⟩ := k1; exact DataW.trod_lt m _ _ _ hm
  have k2 := h2
  have lt2 : ∀ x ∈ p2, x.block < W.heap.size := by obtain ⟨m, hm⟩ := k2; exact DataW.trod_lt m _ _ _ hm
  obtain ⟨csca, rfl, hfca⟩ := open_flat (ks := [some .u32, some .u8, some .u16, some .u16, some .u16, some .u16, some .u32, none]) 6 (by kernel_rfl) (.inl ⟨_, Try.underlying25⟩) (hval 0 25 v0 rfl rfl) h0
  obtain ⟨_, _, rfl, ⟨ca0, rfl, wca0⟩, _, _, rfl, ⟨ca1, rfl, wca1⟩, _, _, rfl, ⟨ca2, rfl, wca2⟩, _, _, rfl, ⟨ca3, rfl, wca3⟩, _, _, rfl, ⟨ca4, rfl, wca4⟩, _, _, rfl, ⟨ca5, rfl, wca5⟩, _, _, rfl, ⟨ca6, rfl, wca6⟩, _, _, rfl, ⟨ca7, rfl⟩, rfl⟩ := hfca
  obtain ⟨csnx, rfl, hfnx⟩ := open_flat (ks := [some .u8, some .u8]) 6 (by kernel_rfl) (.inr ⟨_, _, Try.underlying67⟩) (hval 1 67 v1 rfl rfl) h1
  obtain ⟨_, _, rfl, ⟨nx0, rfl, wnx0⟩, _, _, rfl, ⟨nx1, rfl, wnx1⟩, rfl⟩ := hfnx
  clear hA0 hval0
  refine (walk ca0 wca0 ca1 wca1 ca2 wca2 ca3 wca3 ca4 wca4 ca5 wca5 ca6 wca6 ca7 nx0 wnx0 nx1 wnx1 v2 W (hval 2 68 v2 rfl rfl) k2).mono fun e W' ⟨he, bel⟩ => ?_
  subst he
  exact ⟨_, rfl, _, _, _, [], _, [], hW', trodAll_mk1 (shut_bool Try.underlying4 _), (trodAll_cons_mk (Below.trod laidOut (by kernel_rfl) (of_decide_eq_true (by kernel_rfl)) k0 bel lt0) (trodAll_cons_mk (Below.trod laidOut (by kernel_rfl) (of_decide_eq_true (by kernel_rfl)) k1 bel lt1) (trodAll_cons_mk (Below.trod laidOut (by kernel_rfl) (of_decide_eq_true (by kernel_rfl)) k2 bel lt2) trodAll_mk0))), rfl, bel.frame _, fun h => by cases h⟩
theorem over : Rows.arenaKeepsRow.holds Try.pinned (OpenSpec.ofChange Rows.arenaKeepsSpec) :=
  OpenClaim.holds_of_wide 6 Try.f6 rfl rfl rfl rfl rfl rfl rfl ⟨rfl, rfl, rfl, rfl, rfl⟩ rfl rfl rfl rfl rfl (by kernel_rfl) Try.func6 (by kernel_rfl)
    (of_decide_eq_true (by kernel_rfl)) (by unfold Func.isWrapper; first | (rw [if_pos (by decide +kernel)]; kernel_rfl) | (rw [if_neg (by decide +kernel)]; exact ⟨rfl, rfl⟩))
    (fun os started H enc _ => lifted os started H enc)
/-- The given statement. -/
theorem proved : Rows.ArenaKeepsSaid := over
end Go.Proofs.Ytdidnipmbedbjaa.akeeps
