/- Proved: no store of bytes, of any width, sets a tag, and each clears just those of the granules that it touches (ArenaData, the stage's theorem). For every input; no condition. -/
import Derived.Test.YtdidnipmbedbjaaRows
import Derived.Test.YtdidnipmbedbjaaArW
import Derived.Test.YtdidnipmbedbjaaPut6
import Derived.ProofKit
import Derived.OpenShut
import Derived.ShutString
import Derived.ChangeOld
import Derived.Deep.DeepCutAuto
import Derived.Deep.LoopGhost
namespace Go.Proofs.Ytdidnipmbedbjaa.adata
open Go.ChangeShapes Go.WideShapes Go.ChangeAt Go.RowKit
open Go.ChangeMaps (open_string shut_string)
set_option linter.unusedVariables false

/-- 256 truths, none of them told yet. -/
def z256 : Array Value := Array.replicate 256 (.bool false)
/-- The array of 256 truths at block q reads as f tells. -/
def Arr (W : World) (q : Nat) (f : Nat → Bool) : Prop := ∀ i, i < 256 → W.cell? ⟨q, i, none⟩ = some (.bool (f i)) ∧ W.frozen? ⟨q, i, none⟩ = false
theorem Arr.keep {W W' : World} {q : Nat} {f : Nat → Bool} (h : Arr W q f) (hk : W'.heap[q]? = W.heap[q]?) : Arr W' q f := fun i hi =>
  ⟨(World.cell?_of_block hk).trans (h i hi).1, (World.frozen?_of_block hk).trans (h i hi).2⟩
theorem Arr.store {W : World} {q : Nat} {f : Nat → Bool} (h : Arr W q f) {a : Nat} (ha : a < 256) (v : Bool) : Arr (W.setCell ⟨q, a, none⟩ (.bool v)) q (upd f a v) := fun i hi => by
  refine ⟨?_, (World.frozen?_setCell _ _ _ _).trans (h i hi).2⟩
  by_cases e : i = a
  · subst e
    rw [upd_same]
    exact World.cell?_setCell_same' _ _ _ (by rw [(h i hi).1]; rfl)
  · rw [upd_ne _ _ e, World.cell?_setCell_other _ _ _ _ (fun e' => e (by simpa using (congrArg Addr.off e').symm))]
    exact (h i hi).1
theorem Arr.new (W : World) : Arr (W.alloc (.cells z256 61)) W.heap.size F0 := fun i hi => by
  constructor
  · simp [z256, hi, F0]
  · simp
theorem Arr.ext {W : World} {q : Nat} {f g : Nat → Bool} (h : Arr W q f) (e : ∀ i, i < 256 → f i = g i) : Arr W q g := fun i hi => e i hi ▸ h i hi
/-- An arena whose tags are as f tells, and an array as h tells. -/
structure DI (W1 : World) (a mb wb bb c tb : Nat) (f h : Nat → Bool) (l : List UInt8) (w : World) : Prop where
  ar : ArAt w a mb wb bb c 4096 256 f l
  of : Of2 W1.heap.size wb bb W1 w
  tg : Arr w tb h
  lt : tb < w.heap.size
section
variable {W1 : World} {a mb wb bb c tb : Nat} {f f' h h' : Nat → Bool} {l l' : List UInt8} {w w' : World}
theorem DI.below (d : DI W1 a mb wb bb c tb f h l w) (k : Below w.heap.size w w') : DI W1 a mb wb bb c tb f h l w' :=
  ⟨d.ar.below k, d.of.step (Of2.of_below k), d.tg.keep (k.block _ d.lt), Nat.lt_of_lt_of_le d.lt k.size⟩
theorem DI.nxt (d : DI W1 a mb wb bb c tb f h l w) (hn : tb ≠ wb ∧ tb ≠ bb) (k : ArAt w' a mb wb bb c 4096 256 f' l' ∧ Of2 w.heap.size wb bb w w') : DI W1 a mb wb bb c tb f' h l' w' :=
  ⟨k.1, d.of.step k.2, d.tg.keep (k.2.block _ d.lt hn.1 hn.2), Nat.lt_of_lt_of_le d.lt k.2.size⟩
theorem DI.store (d : DI W1 a mb wb bb c tb f h l w) (hb : W1.heap.size ≤ tb) (hn : tb ≠ a ∧ tb ≠ mb ∧ tb ≠ wb ∧ tb ≠ bb) {k : Nat} (hk : k < 256) (v : Bool) : DI W1 a mb wb bb c tb f (upd h k v) l (w.setCell ⟨tb, k, none⟩ (.bool v)) :=
  ⟨d.ar.keep (fun q hq => Below.heap_setCell _ _ _ _ (by show q ≠ tb; omega)) (by simp [World.setCell]), d.of.setCell (.inl hb) _, d.tg.store hk v, by have := d.lt; simpa [World.setCell] using this⟩
theorem DI.ext (d : DI W1 a mb wb bb c tb f h l w) (e : ∀ i, i < 256 → h i = h' i) : DI W1 a mb wb bb c tb f h' l w := ⟨d.ar, d.of, d.tg.ext e, d.lt⟩
end
theorem tgl_pre (f : Nat → Bool) (a : Nat) {m k : Nat} (hm : m < k) (hf : f (a + m) = true) : (tgl f a k)[(tgl f a m).length]? = some (16 * (a + m)) ∧ (tgl f a m).length < (tgl f a k).length := by
  obtain ⟨d, rfl⟩ : ∃ d, k = m + 1 + d := ⟨k - (m + 1), by omega⟩
  have e : tgl f a (m + 1 + d) = tgl f a m ++ (16 * (a + m) :: tgl f (a + (m + 1)) d) := by
    rw [tgl_add, tgl, hf]; simp
  rw [e]
  refine ⟨by simp, by simp⟩
/-- A list that a call has handed back, as a slice and its cells. -/
theorem list_form {w : World} {base : Nat} {v : Value} {lst : List Nat} (o : w.ownsRow base 22 1 v lst.length (lst.map u32v)) : ∃ Aq c', v = .slice Aq lst.length c' ∧ lst.length ≤ c' ∧ ∀ (i u : Nat), lst[i]? = some u → ∃ q, Aq = some ⟨q, 0, none⟩ ∧ w.cell? ⟨q, i, none⟩ = some (.int .u32 (u : Int)) := by
  rcases o.2 with ⟨rfl, hn⟩ | ⟨q, cap, cur, rfl, h1, h2, h3, _⟩
  · exact ⟨none, 0, by rw [hn], by omega, fun i u hu => by have := (List.getElem?_eq_some_iff.1 hu).1; omega⟩
  · refine ⟨_, cap, rfl, h3, fun i u hu => ⟨q, rfl, ?_⟩⟩
    have := o.cells (g := q) rfl i (u32v u) (by simp [hu])
    rwa [Addr.add_lit, Nat.zero_add] at this
theorem st_data {a mb wb bb c : Nat} {f : Nat → Bool} {l : List UInt8} {w : World} (H : ArAt w a mb wb bb c 4096 256 f l) (n : Nat) (hn : n = 1 ∨ n = 2 ∨ n = 4) (q v : Nat) (lq : q < 4294967296) (lv : v < 4294967296) :
    Calls Try.prog 22 #[.pointer (some ⟨a, 0, none⟩), .int .u32 q, .int .i64 n, .int .u32 v] w fun e w' => ∃ l', e = .returned (.bool (decide ((q : Int) + n ≤ 4096))) ∧ ArAt w' a mb wb bb c 4096 256 (if q + n ≤ 4096 then clr f q n else f) l' ∧ Of2 w.heap.size wb bb w w' := by
  have hw : isW (n : Int) = true := by rcases hn with rfl | rfl | rfl <;> rfl
  refine (astore_any H (n : Int) v q lq lv).mono fun e w' h => ⟨_, ?_, h.2.1.ext (fun j => ?_) rfl, h.2.2⟩
  · rw [h.1, hw, Bool.true_and, putB_nil, if_pos hw]
    exact ret_bool (by simp [thr])
  · rw [putB_nil, if_pos hw]
    show stF 4096 f q n j = _
    unfold stF
    by_cases h2 : q + n ≤ 4096
    · rw [if_pos (thr_iff.2 h2), if_pos h2]
    · rw [if_neg (fun h3 => h2 (thr_iff.1 h3)), if_neg h2]
set_option maxRecDepth 100000 in
set_option maxHeartbeats 4000000 in
theorem walkN (A : Option Addr) (len cap : Nat) (hlen : len ≤ 9223372036854775807) (hcap : len ≤ cap) (W : World) (hP : PutsIn W W.heap.size A len) :
    Calls Try.prog 5 #[.slice A len cap] W fun e w' => e = .returned (.bool true) ∧ Below W.heap.size W w' := by
  have M := Lib.hid (made_any W)
  have hz : ∀ w, (zeroValue 61).run Try.prog w = .ok (.agg z256) w := fun w => by kernel_rfl
  have hP0 := Lib.hid hP
  clear hP
  go_enter Try.func5, Try.ntmps5
  go_wp2_with fail
  refine M.out.mono ?_
  rintro e W1 ⟨a, rfl, mb, wb, bb, c, h, hb, x1, x2, x3, x4⟩
  have A1 := Lib.hid (show ArAt W1 a mb wb bb c 4096 256 F0 L0 from h)
  have N := Lib.hid (And.intro hb (And.intro x3 x4))
  clear h hb x1 x2 x3 x4
  go_wp2_with fail
  refine (awW W1).mono ?_
  rintro e W2 ⟨rfl, k⟩
  have A2 := Lib.hid (And.intro (A1.out.below k) k)
  clear k
  go_wp2_with fail
  obtain ⟨tb, htb⟩ : ∃ tb, tb = W2.heap.size := ⟨_, rfl⟩
  have D0 := Lib.hid (show DI W1 a mb wb bb c tb F0 F0 L0 (W2.alloc (.cells z256 61)) from
    ⟨A2.out.1.alloc _, (Of2.of_below A2.out.2).alloc A2.out.2.size _, by rw [htb]; exact Arr.new W2, by rw [htb]; simp⟩)
  have T := Lib.hid (show W1.heap.size ≤ tb ∧ tb ≠ a ∧ tb ≠ mb ∧ tb ≠ wb ∧ tb ≠ bb from by
    have h1 := A2.out.1.la
    have h2 := A2.out.1.lb
    have h3 := A2.out.1.m.lb
    have h4 := A2.out.1.m.lw
    have h5 := A2.out.2.size
    omega)
  rw [← htb]
  generalize (W2.alloc (.cells z256 61)) = W3 at *
  clear htb A2 A1 hz
  go_loopw [5] (fun i wr => ∃ (k : Nat) (f : Nat → Bool) (l : List UInt8), k ≤ len ∧ k ≤ 40 ∧ i = .int .i64 k ∧ DI W1 a mb wb bb c tb f f l wr) (fun i _ => len - (intOf i).toNat)
  case atStart => exact ⟨0, F0, L0, by omega, by omega, rfl, D0.out⟩
  case round =>
    obtain ⟨k, f, l, hk1, hk2, rfl, D⟩ := hrel
    have D1 := Lib.hid D
    have B1 := Lib.hid (N.out.1.trans (D.of.below N.out.1.size N.out.2.1 N.out.2.2))
    clear D D0
    have jk : (k : Int) ≤ 40 := by omega
    by_cases hk : k < len ∧ k < 40
    · have hk' : (k : Int) < len := by omega
      have hk3 : (k : Int) < 40 := by omega
      have hkk := Lib.hid hk
      obtain ⟨bq, off, rfl, hlt, at_, wd, v, cu, e, b, t, pm, ty, rs, va, hbd, hc⟩ := (hP0.out.below B1.out) k hk.1
      obtain ⟨m0, m1, m2, l0, l1, l2, l3, l4, l5, l6⟩ := hbd
      have c0 : wr.cell? ⟨bq, off + k * 11, none⟩ = some (.int .u16 at_) := hc 0 _ rfl
      have c1 := hc 1 _ rfl
      have c2 := hc 2 _ rfl
      have c3 := hc 3 _ rfl
      have c4 := hc 4 _ rfl
      have c5 := hc 5 _ rfl
      have c6 := hc 6 _ rfl
      have c7 := hc 7 _ rfl
      have c8 := hc 8 _ rfl
      have c9 := hc 9 _ rfl
      have c10 := hc 10 _ rfl
      have K5 := (RS.nil wr).push [.int .u16 at_, .int .u8 wd, .int .u32 v, .int .u32 cu, .int .u8 e, .int .u16 b, .int .u16 t, .int .u16 pm, .int .u16 ty, .int .u32 rs, .bool va] 63
      have D5 := D1.out.below ((Below.refl _ wr).alloc (Nat.le_refl _) (.cells #[.int .u16 at_, .int .u8 wd, .int .u32 v, .int .u32 cu, .int .u8 e, .int .u16 b, .int .u16 t, .int .u16 pm, .int .u16 ty, .int .u32 rs, .bool va] 63))
      have X5 : tb < wr.heap.size ∧ wb < wr.heap.size ∧ bb < wr.heap.size := ⟨D1.out.lt, D1.out.ar.m.lw, D1.out.ar.lb⟩
      replace K5 := Lib.hid K5
      replace D5 := Lib.hid D5
      replace X5 := Lib.hid X5
      clear hc hlt hk D1
      go_upto_region 9 with (fail)
      generalize (wr.alloc (.cells #[.int .u16 at_, .int .u8 wd, .int .u32 v, .int .u32 cu, .int .u8 e, .int .u16 b, .int .u16 t, .int .u16 pm, .int .u16 ty, .int .u32 rs, .bool va] 63)) = W5 at *
      clear c0 c1 c2 c3 c4 c5 c6 c7 c8 c9 c10
      have pc := fun j u hu => K5.out.cell (g := wr.heap.size) (j := j) (u := u) [.int .u16 at_, .int .u8 wd, .int .u32 v, .int .u32 cu, .int .u8 e, .int .u16 b, .int .u16 t, .int .u16 pm, .int .u16 ty, .int .u32 rs, .bool va] (by simp) hu
      have p0 := pc 0 _ rfl
      have p1 := pc 1 _ rfl
      have p2 := pc 2 _ rfl
      have p3 := pc 3 _ rfl
      have p4 := pc 4 _ rfl
      have p5 := pc 5 _ rfl
      have p6 := pc 6 _ rfl
      have p7 := pc 7 _ rfl
      have p8 := pc 8 _ rfl
      have p9 := pc 9 _ rfl
      have p10 := pc 10 _ rfl
      clear pc
      obtain ⟨q, hq⟩ : ∃ q, q = at_ % 4200 := ⟨_, rfl⟩
      have eq1 : (at_ : Int) % 4200 = (q : Int) := by omega
      have jq : (q : Int) < 4200 := by omega
      obtain ⟨m, hm⟩ : ∃ m, m = wd % 4 := ⟨_, rfl⟩
      have em : (wd : Int) % 4 = (m : Int) := by omega
      have jm : m < 4 := by omega
      clear hq hm
      go_upto_if 37 with (fail)
      go_cut [7] (fun v w' => ∃ (f' : Nat → Bool) (l' : List UInt8), DI W1 a mb wb bb c tb f' f' l' w')
      case first =>
        by_cases hm3 : m = 3
        · subst hm3
          obtain ⟨g, hg⟩ : ∃ g, g = q / 16 := ⟨_, rfl⟩
          have eg : (q : Int) / 16 = (g : Int) := by omega
          have jg : (g : Int) < 300 := by omega
          obtain ⟨q2, hq2⟩ : ∃ q2, q2 = 16 * g := ⟨_, rfl⟩
          have eq2 : (g : Int) * 16 = (q2 : Int) := by omega
          have hg2 := Lib.hid hq2
          clear hg hq2
          have eg2 : (q2 : Int) / 16 = (g : Int) := by have := hg2.out; omega
          have hP' := Lib.hid (ascap_any D5.out.ar cu e b t pm ty rs va q2 l0 l1 l2 l3 l4 l5 l6 (by have := hg2.out; omega))
          have hgr := hg2.out
          by_cases hlt : q2 < 4096
          · have er : grn 4096 q2 = true := by
              unfold grn
              rw [decide_eq_true (show q2 % 16 = 0 by omega), Bool.true_and]
              exact (thr_iff (n := 4096) (at_ := q2) (k := 16)).2 (by omega)
            have jl : (q2 : Int) < 4096 := by omega
            have jg2 : g < 256 := by omega
            have er' := Lib.hid er
            clear hgr hlt er
            go_wp2_with fail
            have hP := hP'.out
            rw [er'.out] at hP
            refine hP.mono ?_
            rintro ee W6 ⟨rfl, k6⟩
            have D6 := Lib.hid (D5.out.nxt ⟨T.out.2.2.2.1, T.out.2.2.2.2⟩ k6)
            have K6 := Lib.hid (K5.out.of2 k6.2 (fun x hx => by
              have hx5 := X5.out
              simp at hx
              subst hx
              exact ⟨by show wr.heap.size ≠ wb; omega, by show wr.heap.size ≠ bb; omega⟩))
            have ct := D6.out.tg g jg2
            obtain ⟨ct1, ct2⟩ := ct
            clear hP k6 p0 p1 p2 p3 p4 p5 p6 p7 p8 p9 p10
            have pc := fun j u hu => K6.out.cell (g := wr.heap.size) (j := j) (u := u) [.int .u16 at_, .int .u8 wd, .int .u32 v, .int .u32 cu, .int .u8 e, .int .u16 b, .int .u16 t, .int .u16 pm, .int .u16 ty, .int .u32 rs, .bool va] (by simp) hu
            have p3 := pc 3 _ rfl
            have p4 := pc 4 _ rfl
            have p5 := pc 5 _ rfl
            have p6 := pc 6 _ rfl
            have p7 := pc 7 _ rfl
            have p8 := pc 8 _ rfl
            have p9 := pc 9 _ rfl
            have p10 := pc 10 _ rfl
            clear pc
            have hfin := Lib.hid (fun z (hzz : z = (va && sndP e b t pm ty rs)) => (show DI W1 a mb wb bb c tb (scF 4096 f q2 (va && sndP e b t pm ty rs)) (scF 4096 f q2 (va && sndP e b t pm ty rs)) (scL 4096 l q2 (bytesC cu e b t pm ty rs)) (W6.setCell ⟨tb, g, none⟩ (.bool z)) from by
              subst hzz
              refine (D6.out.store T.out.1 T.out.2 jg2 _).ext fun i hi => ?_
              have hh := hg2.out
              unfold scF
              rw [er'.out, if_pos rfl, show q2 / 16 = g by omega]
              unfold upd
              split
              · rfl
              · simp only [clr, tch]
                rw [Bool.eq_iff_iff]
                simp
                omega))
            rcases va with _ | _
            · go_wp2_with fail
              go_meet
              exact ⟨_, _, hfin.out false rfl⟩
            · have hSn := Lib.hid (fun w => pSound_any cu e b t pm ty rs true l0 l1 l2 l3 l4 l5 l6 w)
              go_wp2_with fail
              refine (hSn.out _).mono ?_
              rintro ee W7 ⟨rfl, k7⟩
              have ct3 := (k7.cell (p := ⟨tb, g, none⟩) (by exact D6.out.lt)).trans ct1
              have ct4 := (k7.frozen (p := ⟨tb, g, none⟩) (by exact D6.out.lt)).trans ct2
              have D7 := Lib.hid (D6.out.below k7)
              have hfin2 := Lib.hid (show DI W1 a mb wb bb c tb (scF 4096 f q2 (true && sndP e b t pm ty rs)) (scF 4096 f q2 (true && sndP e b t pm ty rs)) (scL 4096 l q2 (bytesC cu e b t pm ty rs)) (W7.setCell ⟨tb, g, none⟩ (.bool (sndP e b t pm ty rs))) from by
                refine (D7.out.store T.out.1 T.out.2 jg2 _).ext fun i hi => ?_
                have hh := hg2.out
                unfold scF
                rw [er'.out, if_pos rfl, show q2 / 16 = g by omega, Bool.true_and]
                unfold upd
                split
                · rfl
                · simp only [clr, tch]
                  rw [Bool.eq_iff_iff]
                  simp
                  omega)
              clear k7 hfin ct1 ct2 hSn p3 p4 p5 p6 p7 p8 p9 p10
              go_wp2_with fail
              go_meet
              exact ⟨_, _, hfin2.out⟩
          · have er : grn 4096 q2 = false := by
              unfold grn
              rw [show thr 4096 q2 16 = false from by simp [thr]; omega, Bool.and_false]
            have jl : 4096 ≤ (q2 : Int) := by omega
            have hfin := Lib.hid (fun X (d : DI W1 a mb wb bb c tb (scF 4096 f q2 (va && sndP e b t pm ty rs)) f (scL 4096 l q2 (bytesC cu e b t pm ty rs)) X) => (show DI W1 a mb wb bb c tb (scF 4096 f q2 (va && sndP e b t pm ty rs)) (scF 4096 f q2 (va && sndP e b t pm ty rs)) (scL 4096 l q2 (bytesC cu e b t pm ty rs)) X from d.ext fun i hi => by
              unfold scF
              rw [er, if_neg (by decide)]))
            have er' := Lib.hid er
            clear hgr hlt er
            go_wp2_with fail
            have hP := hP'.out
            rw [er'.out] at hP
            refine hP.mono ?_
            rintro ee W6 ⟨rfl, k6⟩
            have D6 := Lib.hid (D5.out.nxt ⟨T.out.2.2.2.1, T.out.2.2.2.2⟩ k6)
            clear hP k6 p0 p1 p2 p3 p4 p5 p6 p7 p8 p9 p10
            go_wp2_with fail
            go_meet
            exact ⟨_, _, hfin.out W6 D6.out⟩
        · have hms : m = 0 ∨ m = 1 ∨ m = 2 := by omega
          obtain ⟨n, hn⟩ : ∃ n, n = 2 ^ m := ⟨_, rfl⟩
          have hn3 : n = 1 ∨ n = 2 ∨ n = 4 := by rcases hms with rfl | rfl | rfl <;> simp [hn]
          have hS := Lib.hid (st_data D5.out.ar n hn3 q v (by omega) m2)
          obtain ⟨g1, hg1⟩ : ∃ g, g = q / 16 := ⟨_, rfl⟩
          obtain ⟨g2, hg2⟩ : ∃ g, g = (q + n - 1) / 16 := ⟨_, rfl⟩
          have hfin := Lib.hid (fun X l' (d : DI W1 a mb wb bb c tb (clr f q n) (upd (upd f g1 false) g2 false) l' X) => (show DI W1 a mb wb bb c tb (clr f q n) (clr f q n) l' X from d.ext fun i hi => by
            unfold upd
            simp only [clr, tch]
            split
            · rw [Bool.eq_iff_iff]
              simp
              omega
            · split
              · rw [Bool.eq_iff_iff]
                simp
                omega
              · rw [Bool.eq_iff_iff]
                simp
                omega))
          have e1 : (q : Int) / 16 = (g1 : Int) := by omega
          have G := Lib.hid (And.intro hg1 (And.intro hg2 hn3))
          clear hg1 hg2 hn3
          rcases hms with rfl | rfl | rfl
          · have hn' : n = 1 := hn
            subst hn'
            clear hn hm3
            have hgg : g2 = g1 := by have := G.out; omega
            rw [hgg] at hfin
            clear hgg
            by_cases hf : q + 1 ≤ 4096
            · have jf : (q : Int) + 1 ≤ 4096 := by omega
              have k1 : g1 < 256 := by have := G.out; omega
              have k2 : g1 < 256 := by have := G.out; omega
              have e2 : ((q : Int) + 1 - 1) / 16 = (g1 : Int) := by have := G.out; omega
              have hf' := Lib.hid hf
              clear hf
              go_wp2_with fail
              refine hS.out.mono ?_
              rintro ee W6 ⟨l6, rfl, k6⟩
              rw [if_pos hf'.out] at k6
              have D6 := Lib.hid (D5.out.nxt ⟨T.out.2.2.2.1, T.out.2.2.2.2⟩ k6)
              obtain ⟨ct1, ct2⟩ := D6.out.tg g1 k1
              clear k6
              go_upto_region 21 with (fail)
              have D7 := Lib.hid (D6.out.store T.out.1 T.out.2 k1 false)
              generalize W6.setCell ⟨tb, g1, none⟩ (.bool false) = W7 at *
              clear ct1 ct2
              obtain ⟨ct3, ct4⟩ := D7.out.tg g1 k2
              have hE := Lib.hid (hfin.out _ _ (D7.out.store T.out.1 T.out.2 k2 false))
              go_wp2_with fail
              go_meet
              exact ⟨_, _, hE.out⟩
            · have jf : 4097 ≤ (q : Int) + 1 := by omega
              have hf' := Lib.hid hf
              clear hf
              go_wp2_with fail
              refine hS.out.mono ?_
              rintro ee W6 ⟨l6, rfl, k6⟩
              rw [if_neg hf'.out] at k6
              have D6 := Lib.hid (D5.out.nxt ⟨T.out.2.2.2.1, T.out.2.2.2.2⟩ k6)
              clear k6
              go_wp2_with fail
              go_meet
              exact ⟨_, _, D6.out⟩
          · have hn' : n = 2 := hn
            subst hn'
            clear hn hm3
            by_cases hf : q + 2 ≤ 4096
            · have jf : (q : Int) + 2 ≤ 4096 := by omega
              have k1 : g1 < 256 := by have := G.out; omega
              have k2 : g2 < 256 := by have := G.out; omega
              have e2 : ((q : Int) + 2 - 1) / 16 = (g2 : Int) := by have := G.out; omega
              have e3 : ((q : Int) + 1) / 16 = (g2 : Int) := by have := G.out; omega
              have hf' := Lib.hid hf
              clear hf
              go_wp2_with fail
              refine hS.out.mono ?_
              rintro ee W6 ⟨l6, rfl, k6⟩
              rw [if_pos hf'.out] at k6
              have D6 := Lib.hid (D5.out.nxt ⟨T.out.2.2.2.1, T.out.2.2.2.2⟩ k6)
              obtain ⟨ct1, ct2⟩ := D6.out.tg g1 k1
              clear k6
              go_upto_region 21 with (fail)
              have D7 := Lib.hid (D6.out.store T.out.1 T.out.2 k1 false)
              generalize W6.setCell ⟨tb, g1, none⟩ (.bool false) = W7 at *
              clear ct1 ct2
              obtain ⟨ct3, ct4⟩ := D7.out.tg g2 k2
              have hE := Lib.hid (hfin.out _ _ (D7.out.store T.out.1 T.out.2 k2 false))
              go_wp2_with fail
              go_meet
              exact ⟨_, _, hE.out⟩
            · have jf : 4097 ≤ (q : Int) + 2 := by omega
              have hf' := Lib.hid hf
              clear hf
              go_wp2_with fail
              refine hS.out.mono ?_
              rintro ee W6 ⟨l6, rfl, k6⟩
              rw [if_neg hf'.out] at k6
              have D6 := Lib.hid (D5.out.nxt ⟨T.out.2.2.2.1, T.out.2.2.2.2⟩ k6)
              clear k6
              go_wp2_with fail
              go_meet
              exact ⟨_, _, D6.out⟩
          · have hn' : n = 4 := hn
            subst hn'
            clear hn hm3
            by_cases hf : q + 4 ≤ 4096
            · have jf : (q : Int) + 4 ≤ 4096 := by omega
              have k1 : g1 < 256 := by have := G.out; omega
              have k2 : g2 < 256 := by have := G.out; omega
              have e2 : ((q : Int) + 4 - 1) / 16 = (g2 : Int) := by have := G.out; omega
              have e3 : ((q : Int) + 3) / 16 = (g2 : Int) := by have := G.out; omega
              have hf' := Lib.hid hf
              clear hf
              go_wp2_with fail
              refine hS.out.mono ?_
              rintro ee W6 ⟨l6, rfl, k6⟩
              rw [if_pos hf'.out] at k6
              have D6 := Lib.hid (D5.out.nxt ⟨T.out.2.2.2.1, T.out.2.2.2.2⟩ k6)
              obtain ⟨ct1, ct2⟩ := D6.out.tg g1 k1
              clear k6
              go_upto_region 21 with (fail)
              have D7 := Lib.hid (D6.out.store T.out.1 T.out.2 k1 false)
              generalize W6.setCell ⟨tb, g1, none⟩ (.bool false) = W7 at *
              clear ct1 ct2
              obtain ⟨ct3, ct4⟩ := D7.out.tg g2 k2
              have hE := Lib.hid (hfin.out _ _ (D7.out.store T.out.1 T.out.2 k2 false))
              go_wp2_with fail
              go_meet
              exact ⟨_, _, hE.out⟩
            · have jf : 4097 ≤ (q : Int) + 4 := by omega
              have hf' := Lib.hid hf
              clear hf
              go_wp2_with fail
              refine hS.out.mono ?_
              rintro ee W6 ⟨l6, rfl, k6⟩
              rw [if_neg hf'.out] at k6
              have D6 := Lib.hid (D5.out.nxt ⟨T.out.2.2.2.1, T.out.2.2.2.2⟩ k6)
              clear k6
              go_wp2_with fail
              go_meet
              exact ⟨_, _, D6.out⟩
      case rest =>
        obtain ⟨f', l', D⟩ := hcut
        have D6 := Lib.hid D
        clear D D5 K5 p0 p1 p2 p3 p4 p5 p6 p7 p8 p9 p10 eq1 jq em jm
        go_wp2_with fail
        go_loopw [9] (fun p wz => ∃ j : Nat, j ≤ 16 ∧ p = .int .i64 j ∧ DI W1 a mb wb bb c tb f' f' l' wz) (fun p _ => 16 - (intOf p).toNat)
        case atStart => exact ⟨0, by omega, rfl, D6.out⟩
        case round =>
          obtain ⟨j, hj, rfl, Dz⟩ := hrel
          have D7 := Lib.hid Dz
          clear Dz D6
          have jj : (j : Int) ≤ 16 := by omega
          by_cases hj16 : j < 16
          · have jj16 : (j : Int) < 16 := by omega
            go_wp2_with fail
            have hT := atag_any D7.out.ar (by decide) (j : Int) (by omega)
            rw [tgP_page (by omega)] at hT
            refine hT.mono ?_
            intro ee W8 hL
            obtain ⟨vv, rfl, o, kb⟩ := hL
            obtain ⟨Aq, c8, rfl, hc8, hform⟩ := list_form o
            have D8 := Lib.hid (D7.out.below kb)
            have hpre := Lib.hid (fun m (hm : m < 16) => tgl_pre f' (16 * j) hm)
            have hll := tgl_len f' (16 * j) 16
            obtain ⟨lst, hlst⟩ : ∃ lst, lst = tgl f' (16 * j) 16 := ⟨_, rfl⟩
            rw [← hlst] at hform hll hc8 ⊢
            have hl' := Lib.hid hlst
            have hform' := Lib.hid hform
            obtain ⟨ln, hln⟩ : ∃ ln, ln = lst.length := ⟨_, rfl⟩
            rw [← hln] at hll hc8 ⊢
            have hln' := Lib.hid hln
            clear o kb hT D7 hlst hform hln
            have jl : (ln : Int) ≤ 16 := by omega
            go_wp2_with fail
            go_loopw [11, 12] (fun n k wy => ∃ m kk nn : Nat, m ≤ 16 ∧ kk = 16 * j + m ∧ nn = (tgl f' (16 * j) m).length ∧ k = .int .i64 (kk : Int) ∧ n = .int .i64 (nn : Int) ∧ wy = W8) (fun _ k _ => (16 * j + 16) - (intOf k).toNat)
            case atStart => exact ⟨0, 16 * j, 0, by omega, by omega, rfl, by go_num, rfl, rfl⟩
            case round =>
              obtain ⟨m, kk, nn, hm, hkk, hnn, rfl, rfl, rfl⟩ := hrel
              have hnl := tgl_len f' (16 * j) m
              have jn : (nn : Int) ≤ 16 := by omega
              have jk2 : (kk : Int) ≤ 272 := by omega
              have K := Lib.hid (And.intro hkk hnn)
              clear hkk hnl hnn
              by_cases hm16 : m < 16
              · have jm1 : (kk : Int) < 16 * (j : Int) + 16 := by have := K.out.1; omega
                have hk256 : kk < 256 := by have := K.out.1; omega
                obtain ⟨ct1, ct2⟩ := D8.out.tg kk hk256
                have hstep : tgl f' (16 * j) (m + 1) = tgl f' (16 * j) m ++ (if f' (16 * j + m) then [16 * (16 * j + m)] else []) := rfl
                rw [← K.out.1] at hstep
                rcases hv : f' kk with _ | _
                · rw [hv] at ct1 hstep
                  have hs' := Lib.hid hstep
                  clear hstep hv
                  go_wp2_with fail
                  go_roundw
                  case rel => exact ⟨m + 1, kk + 1, nn, by omega, by have := K.out.1; omega, by rw [hs'.out]; simpa using K.out.2, by go_num, rfl, by first | rfl | trivial⟩
                  case measure => simp [intOf]; omega
                · have h1 := hpre.out m hm16 (by rw [← K.out.1]; exact hv)
                  rw [← hl'.out, ← K.out.2, ← hln'.out, ← K.out.1] at h1
                  obtain ⟨q, rfl, hcell⟩ := hform'.out nn _ h1.1
                  have e16 : ((16 * kk : Nat) : Int) = 16 * (kk : Int) := by omega
                  rw [e16] at hcell
                  clear e16
                  have jn2 : (nn : Int) < (ln : Int) := by omega
                  rw [hv] at ct1 hstep
                  have hs' := Lib.hid hstep
                  clear hstep hv h1
                  go_wp2_with fail
                  go_roundw
                  case rel => exact ⟨m + 1, kk + 1, nn + 1, by omega, by have := K.out.1; omega, by rw [hs'.out, List.length_append, ← K.out.2]; simp, by go_num, by go_num, by first | rfl | trivial⟩
                  case measure => simp [intOf]; omega
              · obtain rfl : m = 16 := by omega
                have jm1 : 16 * (j : Int) + 16 ≤ (kk : Int) := by have := K.out.1; omega
                obtain rfl : nn = ln := by rw [K.out.2, hln'.out, hl'.out]
                go_wp2_with fail
                go_roundw
                case rel => exact ⟨j + 1, by omega, by go_num, D8.out⟩
                case measure => simp [intOf]; omega
          · obtain rfl : j = 16 := by omega
            go_wp2_with fail
            go_roundw
            case rel => exact ⟨k + 1, f', l', by omega, by have := hkk.out; omega, by go_num, D7.out⟩
            case measure => simp [intOf]; omega
    · rcases Nat.lt_or_ge k len with hk0 | hk0
      all_goals
        have hk3 : (k : Int) < len → 40 ≤ (k : Int) := fun h => by omega
        have hk4 : (k : Int) < len → decide ((k : Int) < 40) = false := fun h => by simp; omega
        clear hk
        go_wp2
        go_ret
        exact ⟨rfl, B1.out⟩
set_option maxRecDepth 100000 in
theorem walk {H : Type} {enc : TypeId × Value → H} (v0 : Value) {d0 : DataW H} {p0 : List MemPlace} (W : World)
    (hv : Value.okWide Try.prog W .any 0 60 v0) (hd : DataW.Trod enc Try.prog W 0 (fun _ => true) true 60 v0 d0 p0) :
    Calls Try.prog 5 #[v0] W fun e w' => e = .returned (.bool true) ∧ Below W.heap.size W w' := by
  obtain ⟨A, len, cap, rfl, hcap, hm, hP⟩ := puts_of hv hd
  exact walkN A len cap (by unfold maxLen at hm; omega) hcap W hP
theorem own : ownKnob Try.prog.godebug = none := by kernel_rfl
theorem laidOut : laidOutB Try.prog = true := by kernel_rfl
set_option maxRecDepth 100000 in
theorem lifted (os : Os) (started : os.Started) (H : Type) (enc : TypeId × Value → H) :
    ReturnsInHanded {} Try.checked os 5 .any (Rows.arenaDataSpec.pre6 enc Try.prog Try.f5 Rows.arenaDataRow.domain false) (Rows.arenaDataSpec.post enc Try.prog Try.f5 false true false false) := by
  refine returnsInHanded_of_change (C := Try.checked) own started (by kernel_rfl) Try.func5
    (ChangeSpec.witness6 (enc := enc) (C := Try.checked) false ⟨#[], #[.slice none 0 0], []⟩ 8 (by kernel_rfl) (by kernel_rfl) (by kernel_rfl) (by kernel_rfl)) ?_
  intro W base args ds gs before hval0 hW hcnd hsz
  have hval : ∀ (j : Nat) t v, Try.f5.params[j]? = some t → args[j]? = some v → Value.okWide Try.prog W .any base t v := hval0
  have hW' := hW
  obtain ⟨p, q, hA0, hV, rfl, hfz, hnd⟩ := hW
  have hA : DataW.TrodAll enc Try.prog W 0 (fun _ => true) true Try.f5.params.toList args.toList ds p := hA0
  rw [Try.params5] at hA hval
  obtain ⟨v0, vs0, d0, ds0, p0, q0, hargs, rfl, rfl, h0, r0⟩ := trodAll_cons hA
  obtain ⟨rfl, rfl, rfl⟩ := trodAll_nil r0
  obtain rfl : args = #[v0] := by cases args; simp_all
  obtain ⟨rfl, rfl⟩ := trodVars_none hV
  have k0 := h0
  have lt0 : ∀ x ∈ p0, x.block < W.heap.size := by obtain ⟨m, hm⟩ := k0; exact DataW.trod_lt m _ _ _ hm
  clear hA0 hval0
  refine (walk v0 W (hval 0 60 v0 rfl rfl) k0).mono fun e W' ⟨he, bel⟩ => ?_
  subst he
  exact ⟨_, rfl, _, _, _, [], _, [], hW', trodAll_mk1 (shut_bool Try.underlying4 _), (trodAll_cons_mk (Below.trod laidOut (by kernel_rfl) (of_decide_eq_true (by kernel_rfl)) k0 bel lt0) trodAll_mk0), rfl, bel.frame _, fun h => by cases h⟩
theorem over : Rows.arenaDataRow.holds Try.pinned (OpenSpec.ofChange Rows.arenaDataSpec) :=
  OpenClaim.holds_of_wide 5 Try.f5 rfl rfl rfl rfl rfl rfl rfl ⟨rfl, rfl, rfl, rfl, rfl⟩ rfl rfl rfl rfl rfl (by kernel_rfl) Try.func5 (by kernel_rfl)
    (of_decide_eq_true (by kernel_rfl)) (by unfold Func.isWrapper; first | (rw [if_pos (by decide +kernel)]; kernel_rfl) | (rw [if_neg (by decide +kernel)]; exact ⟨rfl, rfl⟩))
    (fun os started H enc _ => lifted os started H enc)
/-- The given statement. -/
theorem proved : Rows.ArenaDataSaid := over
end Go.Proofs.Ytdidnipmbedbjaa.adata
