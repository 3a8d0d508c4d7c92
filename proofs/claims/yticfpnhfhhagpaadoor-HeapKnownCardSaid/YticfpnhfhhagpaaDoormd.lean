/- Contracts of the library's sort at numbers of 32 bits: patterns broken (what is permuted, and no more). No statement is proved here.; Contracts of the library's sort at numbers of 32 bits: the two partitions. No statement is proved here. -/
import Derived.Test.YticfpnhfhhagpaaDoormb
import Derived.Test.YticfpnhfhhagpaaDoormc
import Derived.Laws.Bits64b
import Derived.Laws.BitsLemmas
namespace Go.Proofs.YticfpnhfhhagpaaDoor
set_option maxRecDepth 100000
open Go.RowKit
open Go.Sort (ltInt swp swp_permIn permIn_refl permIn_trans permIn_mono size_swp swp_left swp_right swp_other swo_ltInt PermIn SortedIn)
set_option linter.unusedVariables false

section
variable {w W W' : World} {b q : Nat} {d : Array Int}
theorem pow64 {k : Nat} (h : 2 ^ k ≤ 2305843009213693952) : IntKind.u64.wrap (2 ^ k) = ((2 ^ k : Nat) : Int) := by
  have e : ((2 : Int) ^ k) = ((2 ^ k : Nat) : Int) := by simp
  rw [e, IntKind.wrap_u64]
  generalize 2 ^ k = p at *
  omega
theorem next_pow (n : Nat) (hn : n < 1152921504606846976) (h0 : 0 < n) (w : World) : Calls Tryd.prog 103 #[.int .i64 n] w fun e w' => ∃ M : Nat, e = .returned (.int .u64 M) ∧ 1 ≤ M ∧ M ≤ 2 * n ∧ w = w' := by
  have hL := Lib.hid (blen_any n w hn)
  have h2 := (len_two n (by omega)).2 h0
  have hp := Lib.hid (pow64 (k := Lib.bitLen n) (by omega))
  have h1 := Lib.hid (show 1 ≤ 2 ^ Lib.bitLen n from Nat.one_le_two_pow)
  have h64 := Lib.hid (show Lib.bitLen n ≤ 64 from Nat.le_of_not_lt fun h => by
    have : 2 ^ 64 ≤ 2 ^ Lib.bitLen n := Nat.pow_le_pow_right (by decide) (by omega)
    omega)
  replace h2 := Lib.hid h2
  generalize Lib.bitLen n = K at *
  go_enter Tryd.func103, Tryd.ntmps103
  go_wp2_with fail
  refine hL.out.mono ?_
  rintro e w2 ⟨rfl, rfl⟩
  go_wp2_with fail
  rw [Nat.min_eq_left h64.out, hp.out]
  go_ret
  exact ⟨2 ^ K, rfl, h1.out, h2.out, rfl⟩
/-- A random number of one's own. -/
structure Rnd (W0 : World) (q : Nat) (r : Int) (W : World) : Prop where
  c : W.cell? ⟨q, 0, none⟩ = some (.int .u64 r)
  f : W.frozen? ⟨q, 0, none⟩ = false
  o : Off W0.heap.size q W0 W
theorem Rnd.set {W0 : World} {r : Int} (h : Rnd W0 q r W) (s : Int) : Rnd W0 q s (W.setCell ⟨q, 0, none⟩ (.int .u64 s)).drew :=
  ⟨World.cell?_setCell_same' _ _ _ (by rw [h.c]; rfl), (World.frozen?_setCell _ _ _ _).trans h.f, (h.o.setCell (p := ⟨q, 0, none⟩) (.inr rfl) _).drew⟩
theorem rnd_any {W0 : World} (r : Int) (H : Rnd W0 q r W) : Calls Tryd.prog 104 #[.pointer (some ⟨q, 0, none⟩)] W fun e W' => ∃ s : Int, e = .returned (.int .u64 s) ∧ Rnd W0 q s W' := by
  have hc := H.c
  have hf := H.f
  have hH := Lib.hid H
  clear H
  go_enter Tryd.func104, Tryd.ntmps104
  go_wp2_with fail
  go_region
  obtain ⟨s, hs⟩ : ∃ s, s = bits BinOp.xor IntKind.u64 r (IntKind.u64.wrap (r * 8192)) := ⟨_, rfl⟩
  have h1 := hH.out.set s
  rw [← hs]
  obtain ⟨W1, hW1⟩ : ∃ W1, W1 = (W.setCell ⟨q, 0, none⟩ (.int .u64 s)).drew := ⟨_, rfl⟩
  rw [← hW1] at h1 ⊢
  clear hs hW1 hc hf
  have hc := h1.c
  have hf := h1.f
  replace h1 := Lib.hid h1
  go_wp2_with fail
  go_region
  obtain ⟨s2, hs2⟩ : ∃ s2, s2 = bits BinOp.xor IntKind.u64 s (s / 128) := ⟨_, rfl⟩
  have h2 := h1.out.set s2
  rw [← hs2]
  obtain ⟨W2, hW2⟩ : ∃ W2, W2 = (W1.setCell ⟨q, 0, none⟩ (.int .u64 s2)).drew := ⟨_, rfl⟩
  rw [← hW2] at h2 ⊢
  clear hs2 hW2 hc hf
  have hc := h2.c
  have hf := h2.f
  replace h2 := Lib.hid h2
  go_wp2_with fail
  go_region
  obtain ⟨s3, hs3⟩ : ∃ s3, s3 = bits BinOp.xor IntKind.u64 s2 (IntKind.u64.wrap (s2 * 131072)) := ⟨_, rfl⟩
  have h3 := h2.out.set s3
  rw [← hs3]
  obtain ⟨W3, hW3⟩ : ∃ W3, W3 = (W2.setCell ⟨q, 0, none⟩ (.int .u64 s3)).drew := ⟨_, rfl⟩
  rw [← hW3] at h3 ⊢
  clear hs3 hW3 hc hf
  have hc := h3.c
  replace h3 := Lib.hid h3
  go_wp2_with fail
  go_ret
  exact ⟨s3, rfl, h3.out⟩
theorem and_below (s : Int) (M : Nat) (h1 : 1 ≤ M) (hM : M < 4611686018427387904) : ∃ O : Nat, bits .and .u64 s ((M : Int) - 1) = (O : Int) ∧ O < M := by
  refine ⟨(BitVec.ofInt 64 s &&& BitVec.ofInt 64 ((M : Int) - 1)).toNat, ?_, ?_⟩
  · show IntKind.u64.wrap ((BitVec.ofInt 64 s &&& BitVec.ofInt 64 ((M : Int) - 1)).toNat : Int) = _
    rw [IntKind.wrap_u64]
    have := (BitVec.ofInt 64 s &&& BitVec.ofInt 64 ((M : Int) - 1)).isLt
    omega
  · rw [BitVec.toNat_and]
    have e : (BitVec.ofInt 64 ((M : Int) - 1)).toNat = M - 1 := by
      rw [show ((M : Int) - 1) = ((M - 1 : Nat) : Int) by omega, BitVec.ofInt_natCast, BitVec.toNat_ofNat]
      exact Nat.mod_eq_of_lt (by omega)
    rw [e]
    have := Nat.and_le_right (n := (BitVec.ofInt 64 s).toNat) (m := M - 1)
    omega
/-- The row, and a random number beside it. -/
structure Brk (w : World) (b q : Nat) (d : Array Int) (W : World) : Prop where
  sw : SW w b d W
  rnd : ∃ r, W.cell? ⟨q, 0, none⟩ = some (.int .u64 r) ∧ W.frozen? ⟨q, 0, none⟩ = false
  hq : w.heap.size ≤ q
  hb : b < w.heap.size
theorem Brk.next {r : Int} (H : Brk w b q d W) (k : Rnd W q r W') : Brk w b q d W' :=
  ⟨⟨H.sw.row.off k.o (by have := H.hq; have := H.hb; omega), H.sw.off.trans (Off.of_below (k.o.below (by have := H.sw.off.size; omega) H.hq))⟩, ⟨r, k.c, k.f⟩, H.hq, H.hb⟩
theorem Brk.swap (H : Brk w b q d W) {i j : Nat} (hi : i < d.size) (hj : j < d.size) : Brk w b q (swp d i j) (((W.setCell ⟨b, i, none⟩ (.int .u32 d[j]!)).setCell ⟨b, j, none⟩ (.int .u32 d[i]!)).drew) :=
  ⟨(H.sw.swap hi hj).drew, by
    obtain ⟨r, h1, h2⟩ := H.rnd
    have hn : ∀ k, (⟨q, 0, none⟩ : Addr) ≠ ⟨b, k, none⟩ := fun k e => by
      have := congrArg Addr.block e
      have : q = b := this
      have := H.hq; have := H.hb; omega
    refine ⟨r, ?_, ?_⟩
    · show ((W.setCell ⟨b, i, none⟩ _).setCell ⟨b, j, none⟩ _).cell? _ = _
      rw [World.cell?_setCell_other _ _ _ _ (fun e => hn j e.symm), World.cell?_setCell_other _ _ _ _ (fun e => hn i e.symm)]; exact h1
    · show ((W.setCell ⟨b, i, none⟩ _).setCell ⟨b, j, none⟩ _).frozen? _ = _
      rw [World.frozen?_setCell, World.frozen?_setCell]; exact h2, H.hq, H.hb⟩
def BrkPost (w : World) (b a t : Nat) (d : Array Int) (e : Ending) (W : World) : Prop := ∃ d', PermIn a t d d' ∧ Done w b d' e W
set_option maxHeartbeats 2000000 in
theorem break_any (H : RowU w b d) (cap a L t : Nat) (hL : 8 ≤ L) (hat : a + L = t) (ht : t ≤ d.size) (hs : d.size < 288230376151711744) : Calls Tryd.prog 93 #[.slice (some ⟨b, 0, none⟩) d.size cap, .int .i64 a, .int .i64 t] w (BrkPost w b a t d) := by
  have hN := Lib.hid (fun W => next_pow L (by omega) (by omega) W)
  have hK := Lib.hid (show Brk w b w.heap.size d (w.alloc (.cells #[.int .u64 (L : Int)] 146)) from
    ⟨⟨H.grow ((Below.refl _ _).alloc (Nat.le_refl _) _), (Off.refl _ _ _).alloc (Nat.le_refl _) _⟩, ⟨L, by simp, by simp⟩, Nat.le_refl _, H.lb⟩)
  have e1 : (t : Int) - a = L := by omega
  obtain ⟨Q, hQ⟩ : ∃ Q, Q = L / 4 := ⟨_, rfl⟩
  have e4 : (L : Int).tdiv 4 = Q := by rw [Int.tdiv_eq_ediv_of_nonneg (by omega)]; omega
  have hQ1 : 2 ≤ Q := by omega
  have hQ2 := Lib.hid (show a + Q * 2 + 1 < t by omega)
  have hsz := Lib.hid (And.intro hat ht)
  have hLb : L < 288230376151711744 := by omega
  have htb : t < 288230376151711744 := by omega
  have hab : a < 288230376151711744 := by omega
  have hQb : Q < 288230376151711744 := by omega
  clear H hat ht hQ
  obtain ⟨D, hD⟩ : ∃ D, D = BrkPost w b a t d := ⟨_, rfl⟩
  rw [← hD]
  replace hD := Lib.hid hD
  go_enter Tryd.func93, Tryd.ntmps93
  go_wp2_with fail
  refine (hN.out _).mono ?_
  rintro e w2 ⟨M, rfl, hM1, hM2, hw2⟩
  have hK2 := Lib.hid (show Brk w b w.heap.size d w2 from hw2 ▸ hK.out)
  clear hw2 hK
  have hM3 := Lib.hid (fun s => and_below s M hM1 (by omega))
  have hML := Lib.hid hM2
  clear hM2
  have hMi : M < 4611686018427387904 := by have := hML.out; omega
  generalize w.heap.size = q at *
  go_wp2_with fail
  go_loopw [9, 10] (fun i _ wr => ∃ (x : Nat) (dk : Array Int), i = .int .i64 x ∧ a + Q * 2 - 1 ≤ x ∧ x ≤ a + Q * 2 + 2 ∧ PermIn a t d dk ∧ Brk w b q dk wr) (fun i _ _ => a + Q * 2 + 2 - (intOf i).toNat)
  case atStart => exact ⟨a + Q * 2 - 1, d, by go_num, by omega, by omega, permIn_refl _ _ _, hK2.out⟩
  case round =>
    obtain ⟨x, dk, rfl, hx1, hx2, hP, hB⟩ := hrel
    have hsk := Lib.hid hP.1
    replace hP := Lib.hid hP
    by_cases hlt : x ≤ a + Q * 2 + 1
    · obtain ⟨r, c0, f0⟩ := hB.rnd
      have hR := Lib.hid (rnd_any r ⟨c0, f0, Off.refl _ _ _⟩)
      have hB' := Lib.hid hB
      clear hB c0 f0
      go_wp2_with fail
      refine hR.out.mono ?_
      rintro e w3 ⟨s, rfl, k⟩
      have hB3 := Lib.hid (hB'.out.next k)
      clear k hB'
      obtain ⟨O, hO, hO2⟩ := hM3.out s
      have hO3 : O < 4611686018427387904 := by omega
      replace hO2 := Lib.hid hO2
      rcases Nat.lt_or_ge O L with hOL | hOL
      · obtain ⟨c1, f1⟩ := hB3.out.sw.row.cs x (by have := hsk.out; have := hsz.out; have := hQ2.out; omega)
        obtain ⟨c2, f2⟩ := hB3.out.sw.row.cs (a + O) (by have := hsk.out; have := hsz.out; omega)
        have hSn := Lib.hid (hB3.out.swap (i := x) (j := a + O) (by have := hsk.out; have := hsz.out; have := hQ2.out; omega) (by have := hsk.out; have := hsz.out; omega))
        have hPn := Lib.hid (permIn_trans _ _ _ _ _ hP.out (swp_permIn dk a t x (a + O) (by omega) (by have := hQ2.out; omega) (by omega) (by have := hsz.out; omega) (by have := hsk.out; have := hsz.out; omega)))
        obtain ⟨u, hu⟩ : ∃ u, u = dk[x]! := ⟨_, rfl⟩
        obtain ⟨v, hv⟩ : ∃ v, v = dk[a + O]! := ⟨_, rfl⟩
        rw [← hu] at c1 hSn
        rw [← hv] at c2 hSn
        have hxb := Lib.hid (show x < d.size by have := hsz.out; have := hQ2.out; omega)
        have hyb := Lib.hid (show a + O < d.size by have := hsz.out; omega)
        have hxb' : x < d.size := hxb.out
        have hyb' : a + O < d.size := hyb.out
        by_cases hxy : x = a + O
        · have huv : u = v := by rw [hu, hv, hxy]
          clear hu hv
          subst huv
          subst hxy
          clear c1 f1
          go_wp2_with fail
          go_region
          go_wp2_with fail
          go_roundw
          case rel => exact ⟨a + O + 1, swp dk (a + O) (a + O), by go_num, by omega, by omega, hPn.out, hSn.out⟩
          case measure => first | (simp [intOf]; done) | (simp [intOf]; omega)
        · clear hu hv
          go_wp2_with fail
          go_region
          go_wp2_with fail
          go_roundw
          case rel => exact ⟨x + 1, swp dk x (a + O), by go_num, by omega, by omega, hPn.out, hSn.out⟩
          case measure => first | (simp [intOf]; done) | (simp [intOf]; omega)
      · obtain ⟨y, hy⟩ : ∃ y, y = O - L := ⟨_, rfl⟩
        have hyi : (O : Int) - L = y := by omega
        have hyL : y < L := by have := hML.out; have := hO2.out; omega
        clear hy
        obtain ⟨c1, f1⟩ := hB3.out.sw.row.cs x (by have := hsk.out; have := hsz.out; have := hQ2.out; omega)
        obtain ⟨c2, f2⟩ := hB3.out.sw.row.cs (a + y) (by have := hsk.out; have := hsz.out; omega)
        have hSn := Lib.hid (hB3.out.swap (i := x) (j := a + y) (by have := hsk.out; have := hsz.out; have := hQ2.out; omega) (by have := hsk.out; have := hsz.out; omega))
        have hPn := Lib.hid (permIn_trans _ _ _ _ _ hP.out (swp_permIn dk a t x (a + y) (by omega) (by have := hQ2.out; omega) (by omega) (by have := hsz.out; omega) (by have := hsk.out; have := hsz.out; omega)))
        obtain ⟨u, hu⟩ : ∃ u, u = dk[x]! := ⟨_, rfl⟩
        obtain ⟨v, hv⟩ : ∃ v, v = dk[a + y]! := ⟨_, rfl⟩
        rw [← hu] at c1 hSn
        rw [← hv] at c2 hSn
        have hxb := Lib.hid (show x < d.size by have := hsz.out; have := hQ2.out; omega)
        have hyb := Lib.hid (show a + y < d.size by have := hsz.out; omega)
        have hxb' : x < d.size := hxb.out
        have hyb' : a + y < d.size := hyb.out
        by_cases hxy : x = a + y
        · have huv : u = v := by rw [hu, hv, hxy]
          clear hu hv
          subst huv
          subst hxy
          clear c1 f1
          go_wp2_with fail
          go_region
          go_wp2_with fail
          go_roundw
          case rel => exact ⟨a + y + 1, swp dk (a + y) (a + y), by go_num, by omega, by omega, hPn.out, hSn.out⟩
          case measure => first | (simp [intOf]; done) | (simp [intOf]; omega)
        · clear hu hv
          go_wp2_with fail
          go_region
          go_wp2_with fail
          go_roundw
          case rel => exact ⟨x + 1, swp dk x (a + y), by go_num, by omega, by omega, hPn.out, hSn.out⟩
          case measure => first | (simp [intOf]; done) | (simp [intOf]; omega)
    · obtain rfl : x = a + Q * 2 + 2 := by omega
      go_wp2_with fail
      rw [hD.out]
      refine bodyPost_ret (results_none rfl _ _ _) rfl ?_
      exact ⟨dk, hP.out, rfl, hB.sw⟩
end
end Go.Proofs.YticfpnhfhhagpaaDoor
namespace Go.Proofs.YticfpnhfhhagpaaDoor
set_option maxRecDepth 100000
open Go.RowKit
open Go.Sort (ltInt swp swp_permIn permIn_refl permIn_trans permIn_mono size_swp swp_left swp_right swp_other swo_ltInt PermIn SortedIn scanUp scanDown scanUp_spec scanDown_spec partLoop partLoop_eq partEqLoop partEqLoop_eq)
set_option linter.unusedVariables false

section
variable {w : World} {b : Nat} {d : Array Int}
theorem up_go {p : Int → Bool} {d : Array Int} {i j : Nat} (h : i ≤ j) (hp : p d[i]! = true) : scanUp p d j i = scanUp p d j (i + 1) := by rw [scanUp.eq_def, if_pos (by simp [h, hp])]
theorem up_stop {p : Int → Bool} {d : Array Int} {i j : Nat} (h : ¬ i ≤ j ∨ p d[i]! = false) : scanUp p d j i = i := by rw [scanUp.eq_def, if_neg (by rcases h with h | h <;> simp [h])]
theorem down_go {p : Int → Bool} {d : Array Int} {i j : Nat} (h : i ≤ j + 1) (hp : p d[j + 1]! = true) : scanDown p d i (j + 1) = scanDown p d i j := by
  rw [scanDown.eq_def]; exact if_pos (by simp [h, hp])
theorem down_stop {p : Int → Bool} {d : Array Int} {i j : Nat} (h : ¬ i ≤ j ∨ p d[j]! = false) (hi : 1 ≤ i) : scanDown p d i j = j := by
  cases j with
  | zero => rfl
  | succ j => rw [scanDown.eq_def]; exact if_neg (by rcases h with h | h <;> simp [h])
/-- One round of either. -/
theorem round_of {p q : Int → Bool} (hq : ∀ x, q x = !p x) {d : Array Int} {i j : Nat} (h1 : 1 ≤ i) (h2 : i ≤ j + 1) : ∃ I J, scanUp p d j i = I ∧ scanDown q d I j = J ∧ i ≤ I ∧ I ≤ j + 1 ∧ I ≤ J + 1 ∧ J ≤ j ∧ I ≠ J := by
  refine ⟨_, _, rfl, rfl, (scanUp_spec p d j _ i rfl).1, (scanUp_spec p d j _ i rfl).2.1 h2, ?_, (scanDown_spec q d _ j).1, fun e => ?_⟩
  · exact (scanDown_spec q d _ j).2.1 ((scanUp_spec p d j _ i rfl).2.1 h2)
  · have a1 := (scanDown_spec q d (scanUp p d j i) j).1
    have a2 := (scanUp_spec p d j _ i rfl).2.2.2 (by omega)
    have a0 := (scanUp_spec p d j _ i rfl).1
    have a3 := (scanDown_spec q d (scanUp p d j i) j).2.2.2 (by omega) (by omega)
    rw [← e, hq, a2] at a3
    cases a3
theorem part_out {a i j I J : Nat} {d : Array Int} (hI : scanUp (fun x => ltInt x d[a]!) d j i = I) (hJ : scanDown (fun x => !ltInt x d[a]!) d I j = J) (h : J < I) : partLoop ltInt a i j d = (J, d) := by rw [partLoop_eq, hI, hJ, if_pos h]
theorem part_go {a i j I J : Nat} {d : Array Int} (hI : scanUp (fun x => ltInt x d[a]!) d j i = I) (hJ : scanDown (fun x => !ltInt x d[a]!) d I j = J) (h : ¬ J < I) : partLoop ltInt a i j d = partLoop ltInt a (I + 1) (J - 1) (swp d I J) := by rw [partLoop_eq, hI, hJ, if_neg h]
theorem parteq_out {a i j I J : Nat} {d : Array Int} (hI : scanUp (fun x => !ltInt d[a]! x) d j i = I) (hJ : scanDown (fun x => ltInt d[a]! x) d I j = J) (h : J < I) : partEqLoop ltInt a i j d = (I, d) := by rw [partEqLoop_eq, hI, hJ, if_pos h]
theorem parteq_go {a i j I J : Nat} {d : Array Int} (hI : scanUp (fun x => !ltInt d[a]! x) d j i = I) (hJ : scanDown (fun x => ltInt d[a]! x) d I j = J) (h : ¬ J < I) : partEqLoop ltInt a i j d = partEqLoop ltInt a (I + 1) (J - 1) (swp d I J) := by rw [partEqLoop_eq, hI, hJ, if_neg h]
def PartPost (w : World) (b T1 : Nat) (T3 : Array Int) (e : Ending) (W : World) : Prop := ∃ v : Bool, e = .returned (.tuple #[.int .i64 T1, .bool v]) ∧ SW w b T3 W
set_option maxHeartbeats 4000000 in
theorem part_any (H : RowU w b d) (cap a t p : Nat) (hap : a ≤ p) (hpt : p < t) (hat : a + 1 < t) (ht : t ≤ d.size) (hs : d.size < 288230376151711744) : Calls Tryd.prog 99 #[.slice (some ⟨b, 0, none⟩) d.size cap, .int .i64 a, .int .i64 t, .int .i64 p] w
    (PartPost w b (partLoop ltInt a (a + 1) (t - 1) (swp d a p)).1 (swp (partLoop ltInt a (a + 1) (t - 1) (swp d a p)).2 (partLoop ltInt a (a + 1) (t - 1) (swp d a p)).1 a)) := by
  obtain ⟨⟨T1, T2⟩, hT⟩ : ∃ T, partLoop ltInt a (a + 1) (t - 1) (swp d a p) = T := ⟨_, rfl⟩
  rw [hT]
  show Calls Tryd.prog 99 _ _ (PartPost w b T1 (swp T2 T1 a))
  obtain ⟨D, hD⟩ : ∃ D, D = PartPost w b T1 (swp T2 T1 a) := ⟨_, rfl⟩
  rw [← hD]
  replace hD := Lib.hid hD
  have hL := Lib.hid less_any
  obtain ⟨j, hj⟩ : ∃ j, t = j + 1 := ⟨t - 1, by omega⟩
  subst hj
  rw [Nat.add_sub_cancel] at hT
  replace hT := Lib.hid hT
  have hS := Lib.hid (SW.refl H)
  obtain ⟨dk, hdk⟩ : ∃ dk, dk = d := ⟨_, rfl⟩
  rw [← hdk] at hS
  have hsz : dk.size = d.size := by rw [hdk]
  rw [← hdk] at hT
  clear hdk H
  obtain ⟨c1, f1⟩ := hS.out.row.cs a (by omega)
  obtain ⟨c2, f2⟩ := hS.out.row.cs p (by omega)
  have hSn := Lib.hid ((hS.out.swap (i := a) (j := p) (by omega) (by omega)).drew)
  obtain ⟨u, hu⟩ : ∃ u, u = dk[a]! := ⟨_, rfl⟩
  obtain ⟨v, hv⟩ : ∃ v, v = dk[p]! := ⟨_, rfl⟩
  rw [← hu] at c1 hSn
  rw [← hv] at c2 hSn
  have hsz' := Lib.hid hsz
  clear hsz hS
  go_enter Tryd.func99, Tryd.ntmps99
  go_upto_region 1 with (fail)
  go_cut [0] (fun v w' => v = .slice (some ⟨b, 0, none⟩) d.size cap ∧ SW w b (swp dk a p) w')
  case first =>
    by_cases hxy : a = p
    · have huv : u = v := by rw [hu, hv, hxy]
      clear hu hv
      subst huv
      subst hxy
      clear c1 f1
      go_wp2_with fail
      go_region
      go_wp2_with fail
      go_meet
      exact ⟨rfl, hSn.out⟩
    · clear hu hv
      go_wp2_with fail
      go_region
      go_wp2_with fail
      go_meet
      exact ⟨rfl, hSn.out⟩
  case rest =>
    obtain ⟨rfl, hS⟩ := hcut
    have hsz : (swp dk a p).size = d.size := by rw [size_swp]; exact hsz'.out
    clear hu hv c1 c2 f1 f2 hSn
    generalize swp dk a p = dk at *
    replace hS := Lib.hid hS
    obtain ⟨i, hi⟩ : ∃ i, i = a + 1 := ⟨_, rfl⟩
    rw [← hi] at hT
    have hii : (a : Int) + 1 = i := by omega
    have hib : i < 288230376151711744 := by omega
    have h1 : a + 1 ≤ i := by omega
    have h2 : i ≤ j + 1 := by omega
    obtain ⟨J0, hJ0⟩ : ∃ J0, J0 = j := ⟨_, rfl⟩
    have hjJ : j ≤ J0 := by omega
    have haj : a ≤ j := by omega
    have hJ0d : J0 + 1 ≤ d.size := by omega
    clear hi hJ0
    obtain ⟨I2, J2, hI2, hJ2, k1, k2, k3, k4, k5⟩ := round_of (p := fun x => ltInt x dk[a]!) (q := fun x => !ltInt x dk[a]!) (fun _ => rfl) (d := dk) (i := i) (j := j) (by omega) h2
    replace hI2 := Lib.hid hI2
    replace hJ2 := Lib.hid hJ2
    obtain ⟨g0, f0⟩ := hS.out.row.cs a (by omega)
    obtain ⟨pv, hpv⟩ : ∃ pv, pv = dk[a]! := ⟨_, rfl⟩
    rw [← hpv] at g0
    replace g0 := Lib.hid g0
    replace hpv := Lib.hid hpv
    go_upto_block 0 with (fail)
    go_cut [10] (fun v w' => v = .int .i64 I2 ∧ SW w b dk w')
    case first =>
      go_wp2_with fail
      go_loopw [10] (fun v wr => ∃ x : Nat, v = .int .i64 x ∧ i ≤ x ∧ x ≤ j + 1 ∧ scanUp (fun x => ltInt x dk[a]!) dk j x = I2 ∧ SW w b dk wr) (fun v _ => j + 1 - (intOf v).toNat)
      case atStart => exact ⟨i, by go_num, by omega, by omega, hI2.out, hS.out⟩
      case round =>
        obtain ⟨x, rfl, x1, x2, hR, hSx⟩ := hrel
        replace hR := Lib.hid hR
        by_cases hxy : x ≤ j
        · obtain ⟨c0, _⟩ := hSx.row.cs a (by omega)
          obtain ⟨c1, _⟩ := hSx.row.cs x (by omega)
          rw [← hpv.out] at c0
          obtain ⟨xv, hxv⟩ : ∃ xv, xv = dk[x]! := ⟨_, rfl⟩
          rw [← hxv] at c1
          replace hxv := Lib.hid hxv
          have hSy := Lib.hid hSx
          clear hSx
          go_wp2_with fail
          go_quiet ((go_at_call 97; exact Calls.quiet_of_same (hL.out _ _ _)))
          cases hl : ltInt xv pv
          · have hl' := Lib.hid (show (fun x => ltInt x dk[a]!) dk[x]! = false by show ltInt dk[x]! dk[a]! = _; rw [← hxv.out, ← hpv.out, hl]; try rfl)
            have hRn := Lib.hid ((up_stop (p := fun x => ltInt x dk[a]!) (.inr hl'.out)).symm.trans hR.out)
            clear c0 c1
            have hE := hRn.out
            subst hE
            go_wp2_with fail
            go_meet
            exact ⟨rfl, hSy.out.drewN nq⟩
          · have hl' := Lib.hid (show (fun x => ltInt x dk[a]!) dk[x]! = true by show ltInt dk[x]! dk[a]! = _; rw [← hxv.out, ← hpv.out, hl]; try rfl)
            have hRn := Lib.hid ((up_go (p := fun x => ltInt x dk[a]!) hxy hl'.out).symm.trans hR.out)
            clear c0 c1
            go_wp2_with fail
            go_roundw
            case rel => exact ⟨x + 1, by go_num, by omega, by omega, hRn.out, hSy.out.drewN nq⟩
            case measure => first | (simp [intOf]; done) | (simp [intOf]; omega)
        · have hg : decide ((x : Int) ≤ j) = false := by rw [decide_eq_false_iff_not]; omega
          have hRn := Lib.hid ((up_stop (p := fun x => ltInt x dk[a]!) (.inl hxy)).symm.trans hR.out)
          replace hSx := Lib.hid hSx
          have hE := hRn.out
          subst hE
          go_wp2_with fail
          go_quiet (fail)
          go_wp2_with fail
          go_meet
          exact ⟨rfl, hSx.out.drewN nq⟩
    case rest =>
      clear hS
      rename_i wu
      obtain ⟨rfl, hS⟩ := hcut
      replace hS := Lib.hid hS
      go_upto_block 2 with (fail)
      go_cut [11] (fun v w' => v = .int .i64 J2 ∧ SW w b dk w')
      case first =>
        go_wp2_with fail
        go_loopw [11] (fun v wr => ∃ y : Nat, v = .int .i64 y ∧ I2 ≤ y + 1 ∧ y ≤ j ∧ scanDown (fun x => !ltInt x dk[a]!) dk I2 y = J2 ∧ SW w b dk wr) (fun v _ => (intOf v).toNat)
        case atStart => exact ⟨j, by go_num, by omega, by omega, hJ2.out, hS.out⟩
        case round =>
          obtain ⟨y, rfl, y1, y2, hR, hSx⟩ := hrel
          replace hR := Lib.hid hR
          by_cases hxy : I2 ≤ y
          · obtain ⟨c0, _⟩ := hSx.row.cs a (by omega)
            obtain ⟨c1, _⟩ := hSx.row.cs y (by omega)
            rw [← hpv.out] at c0
            obtain ⟨xv, hxv⟩ : ∃ xv, xv = dk[y]! := ⟨_, rfl⟩
            rw [← hxv] at c1
            replace hxv := Lib.hid hxv
            have hSy := Lib.hid hSx
            clear hSx
            go_wp2_with fail
            go_quiet ((go_at_call 97; exact Calls.quiet_of_same (hL.out _ _ _)))
            cases hl : ltInt xv pv
            · have hl' := Lib.hid (show (fun x => !ltInt x dk[a]!) dk[y]! = true by show (!ltInt dk[y]! dk[a]!) = _; rw [← hxv.out, ← hpv.out, hl]; try rfl)
              obtain ⟨z, rfl⟩ : ∃ z, y = z + 1 := ⟨y - 1, by omega⟩
              have hRn := Lib.hid ((down_go (p := fun x => !ltInt x dk[a]!) hxy hl'.out).symm.trans hR.out)
              clear c0 c1
              go_wp2_with fail
              go_roundw
              case rel => exact ⟨z, by go_num, by omega, by omega, hRn.out, hSy.out.drewN nq⟩
              case measure => first | (simp [intOf]; done) | (simp [intOf]; omega)
            · have hl' := Lib.hid (show (fun x => !ltInt x dk[a]!) dk[y]! = false by show (!ltInt dk[y]! dk[a]!) = _; rw [← hxv.out, ← hpv.out, hl]; try rfl)
              have hRn := Lib.hid ((down_stop (p := fun x => !ltInt x dk[a]!) (.inr hl'.out) (by omega)).symm.trans hR.out)
              clear c0 c1
              have hE := hRn.out
              subst hE
              go_wp2_with fail
              go_meet
              exact ⟨rfl, hSy.out.drewN nq⟩
          · have hg : decide ((I2 : Int) ≤ y) = false := by rw [decide_eq_false_iff_not]; omega
            have hRn := Lib.hid ((down_stop (p := fun x => !ltInt x dk[a]!) (.inl hxy) (by omega)).symm.trans hR.out)
            replace hSx := Lib.hid hSx
            have hE := hRn.out
            subst hE
            go_wp2_with fail
            go_quiet (fail)
            go_wp2_with fail
            go_meet
            exact ⟨rfl, hSx.out.drewN nq⟩
      case rest =>
        clear hS
        rename_i wd
        obtain ⟨rfl, hS⟩ := hcut
        replace hS := Lib.hid hS
        by_cases hIJ : J2 < I2
        · have hg : (J2 : Int) < I2 := by omega
          have hTT := (part_out hI2.out hJ2.out hIJ).symm.trans hT.out
          have hT1 := congrArg Prod.fst hTT
          have hT2 := congrArg Prod.snd hTT
          replace hT1 : J2 = T1 := hT1
          replace hT2 : dk = T2 := hT2
          subst hT1
          subst hT2
          obtain ⟨c1, f1⟩ := hS.out.row.cs J2 (by omega)
          obtain ⟨c2, f2⟩ := hS.out.row.cs a (by omega)
          have hSn := Lib.hid ((hS.out.swap (i := J2) (j := a) (by omega) (by omega)).drew)
          obtain ⟨u, hu⟩ : ∃ u, u = dk[J2]! := ⟨_, rfl⟩
          obtain ⟨v, hv⟩ : ∃ v, v = dk[a]! := ⟨_, rfl⟩
          rw [← hu] at c1 hSn
          rw [← hv] at c2 hSn
          by_cases hxy : J2 = a
          · have huv : u = v := by rw [hu, hv, hxy]
            clear hu hv
            subst huv
            subst hxy
            clear c1 f1
            go_wp2_with fail
            go_region
            go_wp2_with fail
            rw [hD.out]
            exact ⟨_, rfl, hSn.out⟩
          · clear hu hv
            go_wp2_with fail
            go_region
            go_wp2_with fail
            rw [hD.out]
            exact ⟨_, rfl, hSn.out⟩
        · have hg : ¬ (J2 : Int) < I2 := by omega
          have hRn := Lib.hid ((part_go hI2.out hJ2.out hIJ).symm.trans hT.out)
          obtain ⟨c1, f1⟩ := hS.out.row.cs I2 (by omega)
          obtain ⟨c2, f2⟩ := hS.out.row.cs J2 (by omega)
          have hSn := Lib.hid ((hS.out.swap (i := I2) (j := J2) (by omega) (by omega)).drew)
          obtain ⟨u, hu⟩ : ∃ u, u = dk[I2]! := ⟨_, rfl⟩
          obtain ⟨v, hv⟩ : ∃ v, v = dk[J2]! := ⟨_, rfl⟩
          rw [← hu] at c1 hSn
          rw [← hv] at c2 hSn
          clear hu hv
          have hsz2 := Lib.hid (show (swp dk I2 J2).size = d.size by rw [size_swp]; exact hsz)
          have hne : ¬ I2 = J2 := k5
          go_wp2_with fail
          go_region
          go_wp2_with fail
          go_loopw [10, 11] (fun v v' wr => ∃ (i j : Nat) (dk : Array Int), v = .int .i64 i ∧ v' = .int .i64 j ∧ a + 1 ≤ i ∧ i ≤ j + 1 ∧ a ≤ j ∧ j < J0 + 1 ∧ dk.size = d.size ∧ SW w b dk wr ∧ partLoop ltInt a i j dk = (T1, T2)) (fun v _ _ => J0 + 2 - (intOf v).toNat)
          case atStart => exact ⟨I2 + 1, J2 - 1, swp dk I2 J2, by go_num, by go_num, by omega, by omega, by omega, by omega, hsz2.out, hSn.out, hRn.out⟩
          case round =>
            clear hRn hSn hsz2 hT hS hI2 hJ2 k1 k2 k3 k4 k5 c1 c2 f1 f2 hpv g0 hg hIJ hne h1 h2 hjJ haj hsz
            obtain ⟨i, j, dk, rfl, rfl, h1, h2, haj, hjJ, hsz, hS, hT⟩ := hrel
            replace hS := Lib.hid hS
            replace hT := Lib.hid hT
            obtain ⟨I2, J2, hI2, hJ2, k1, k2, k3, k4, k5⟩ := round_of (p := fun x => ltInt x dk[a]!) (q := fun x => !ltInt x dk[a]!) (fun _ => rfl) (d := dk) (i := i) (j := j) (by omega) h2
            replace hI2 := Lib.hid hI2
            replace hJ2 := Lib.hid hJ2
            obtain ⟨g0, f0⟩ := hS.out.row.cs a (by omega)
            obtain ⟨pv, hpv⟩ : ∃ pv, pv = dk[a]! := ⟨_, rfl⟩
            rw [← hpv] at g0
            replace g0 := Lib.hid g0
            replace hpv := Lib.hid hpv
            go_upto_block 6 with (fail)
            go_cut [10] (fun v w' => v = .int .i64 I2 ∧ SW w b dk w')
            case first =>
              go_wp2_with fail
              go_loopw [10] (fun v wr => ∃ x : Nat, v = .int .i64 x ∧ i ≤ x ∧ x ≤ j + 1 ∧ scanUp (fun x => ltInt x dk[a]!) dk j x = I2 ∧ SW w b dk wr) (fun v _ => j + 1 - (intOf v).toNat)
              case atStart => exact ⟨i, by go_num, by omega, by omega, hI2.out, hS.out⟩
              case round =>
                obtain ⟨x, rfl, x1, x2, hR, hSx⟩ := hrel
                replace hR := Lib.hid hR
                by_cases hxy : x ≤ j
                · obtain ⟨c0, _⟩ := hSx.row.cs a (by omega)
                  obtain ⟨c1, _⟩ := hSx.row.cs x (by omega)
                  rw [← hpv.out] at c0
                  obtain ⟨xv, hxv⟩ : ∃ xv, xv = dk[x]! := ⟨_, rfl⟩
                  rw [← hxv] at c1
                  replace hxv := Lib.hid hxv
                  have hSy := Lib.hid hSx
                  clear hSx
                  go_wp2_with fail
                  go_quiet ((go_at_call 97; exact Calls.quiet_of_same (hL.out _ _ _)))
                  cases hl : ltInt xv pv
                  · have hl' := Lib.hid (show (fun x => ltInt x dk[a]!) dk[x]! = false by show ltInt dk[x]! dk[a]! = _; rw [← hxv.out, ← hpv.out, hl]; try rfl)
                    have hRn := Lib.hid ((up_stop (p := fun x => ltInt x dk[a]!) (.inr hl'.out)).symm.trans hR.out)
                    clear c0 c1
                    have hE := hRn.out
                    subst hE
                    go_wp2_with fail
                    go_meet
                    exact ⟨rfl, hSy.out.drewN nq⟩
                  · have hl' := Lib.hid (show (fun x => ltInt x dk[a]!) dk[x]! = true by show ltInt dk[x]! dk[a]! = _; rw [← hxv.out, ← hpv.out, hl]; try rfl)
                    have hRn := Lib.hid ((up_go (p := fun x => ltInt x dk[a]!) hxy hl'.out).symm.trans hR.out)
                    clear c0 c1
                    go_wp2_with fail
                    go_roundw
                    case rel => exact ⟨x + 1, by go_num, by omega, by omega, hRn.out, hSy.out.drewN nq⟩
                    case measure => first | (simp [intOf]; done) | (simp [intOf]; omega)
                · have hg : decide ((x : Int) ≤ j) = false := by rw [decide_eq_false_iff_not]; omega
                  have hRn := Lib.hid ((up_stop (p := fun x => ltInt x dk[a]!) (.inl hxy)).symm.trans hR.out)
                  replace hSx := Lib.hid hSx
                  have hE := hRn.out
                  subst hE
                  go_wp2_with fail
                  go_quiet (fail)
                  go_wp2_with fail
                  go_meet
                  exact ⟨rfl, hSx.out.drewN nq⟩
            case rest =>
              clear hS
              rename_i wu
              obtain ⟨rfl, hS⟩ := hcut
              replace hS := Lib.hid hS
              go_upto_block 8 with (fail)
              go_cut [11] (fun v w' => v = .int .i64 J2 ∧ SW w b dk w')
              case first =>
                go_wp2_with fail
                go_loopw [11] (fun v wr => ∃ y : Nat, v = .int .i64 y ∧ I2 ≤ y + 1 ∧ y ≤ j ∧ scanDown (fun x => !ltInt x dk[a]!) dk I2 y = J2 ∧ SW w b dk wr) (fun v _ => (intOf v).toNat)
                case atStart => exact ⟨j, by go_num, by omega, by omega, hJ2.out, hS.out⟩
                case round =>
                  obtain ⟨y, rfl, y1, y2, hR, hSx⟩ := hrel
                  replace hR := Lib.hid hR
                  by_cases hxy : I2 ≤ y
                  · obtain ⟨c0, _⟩ := hSx.row.cs a (by omega)
                    obtain ⟨c1, _⟩ := hSx.row.cs y (by omega)
                    rw [← hpv.out] at c0
                    obtain ⟨xv, hxv⟩ : ∃ xv, xv = dk[y]! := ⟨_, rfl⟩
                    rw [← hxv] at c1
                    replace hxv := Lib.hid hxv
                    have hSy := Lib.hid hSx
                    clear hSx
                    go_wp2_with fail
                    go_quiet ((go_at_call 97; exact Calls.quiet_of_same (hL.out _ _ _)))
                    cases hl : ltInt xv pv
                    · have hl' := Lib.hid (show (fun x => !ltInt x dk[a]!) dk[y]! = true by show (!ltInt dk[y]! dk[a]!) = _; rw [← hxv.out, ← hpv.out, hl]; try rfl)
                      obtain ⟨z, rfl⟩ : ∃ z, y = z + 1 := ⟨y - 1, by omega⟩
                      have hRn := Lib.hid ((down_go (p := fun x => !ltInt x dk[a]!) hxy hl'.out).symm.trans hR.out)
                      clear c0 c1
                      go_wp2_with fail
                      go_roundw
                      case rel => exact ⟨z, by go_num, by omega, by omega, hRn.out, hSy.out.drewN nq⟩
                      case measure => first | (simp [intOf]; done) | (simp [intOf]; omega)
                    · have hl' := Lib.hid (show (fun x => !ltInt x dk[a]!) dk[y]! = false by show (!ltInt dk[y]! dk[a]!) = _; rw [← hxv.out, ← hpv.out, hl]; try rfl)
                      have hRn := Lib.hid ((down_stop (p := fun x => !ltInt x dk[a]!) (.inr hl'.out) (by omega)).symm.trans hR.out)
                      clear c0 c1
                      have hE := hRn.out
                      subst hE
                      go_wp2_with fail
                      go_meet
                      exact ⟨rfl, hSy.out.drewN nq⟩
                  · have hg : decide ((I2 : Int) ≤ y) = false := by rw [decide_eq_false_iff_not]; omega
                    have hRn := Lib.hid ((down_stop (p := fun x => !ltInt x dk[a]!) (.inl hxy) (by omega)).symm.trans hR.out)
                    replace hSx := Lib.hid hSx
                    have hE := hRn.out
                    subst hE
                    go_wp2_with fail
                    go_quiet (fail)
                    go_wp2_with fail
                    go_meet
                    exact ⟨rfl, hSx.out.drewN nq⟩
              case rest =>
                clear hS
                rename_i wd
                obtain ⟨rfl, hS⟩ := hcut
                replace hS := Lib.hid hS
                by_cases hIJ : J2 < I2
                · have hg : (J2 : Int) < I2 := by omega
                  have hTT := (part_out hI2.out hJ2.out hIJ).symm.trans hT.out
                  have hT1 := congrArg Prod.fst hTT
                  have hT2 := congrArg Prod.snd hTT
                  replace hT1 : J2 = T1 := hT1
                  replace hT2 : dk = T2 := hT2
                  subst hT1
                  subst hT2
                  obtain ⟨c1, f1⟩ := hS.out.row.cs J2 (by omega)
                  obtain ⟨c2, f2⟩ := hS.out.row.cs a (by omega)
                  have hSn := Lib.hid ((hS.out.swap (i := J2) (j := a) (by omega) (by omega)).drew)
                  obtain ⟨u, hu⟩ : ∃ u, u = dk[J2]! := ⟨_, rfl⟩
                  obtain ⟨v, hv⟩ : ∃ v, v = dk[a]! := ⟨_, rfl⟩
                  rw [← hu] at c1 hSn
                  rw [← hv] at c2 hSn
                  by_cases hxy : J2 = a
                  · have huv : u = v := by rw [hu, hv, hxy]
                    clear hu hv
                    subst huv
                    subst hxy
                    clear c1 f1
                    go_wp2_with fail
                    go_region
                    go_wp2_with fail
                    rw [hD.out]
                    exact ⟨_, rfl, hSn.out⟩
                  · clear hu hv
                    go_wp2_with fail
                    go_region
                    go_wp2_with fail
                    rw [hD.out]
                    exact ⟨_, rfl, hSn.out⟩
                · have hg : ¬ (J2 : Int) < I2 := by omega
                  have hRn := Lib.hid ((part_go hI2.out hJ2.out hIJ).symm.trans hT.out)
                  obtain ⟨c1, f1⟩ := hS.out.row.cs I2 (by omega)
                  obtain ⟨c2, f2⟩ := hS.out.row.cs J2 (by omega)
                  have hSn := Lib.hid ((hS.out.swap (i := I2) (j := J2) (by omega) (by omega)).drew)
                  obtain ⟨u, hu⟩ : ∃ u, u = dk[I2]! := ⟨_, rfl⟩
                  obtain ⟨v, hv⟩ : ∃ v, v = dk[J2]! := ⟨_, rfl⟩
                  rw [← hu] at c1 hSn
                  rw [← hv] at c2 hSn
                  clear hu hv
                  have hsz2 := Lib.hid (show (swp dk I2 J2).size = d.size by rw [size_swp]; exact hsz)
                  have hne : ¬ I2 = J2 := k5
                  go_wp2_with fail
                  go_region
                  go_wp2_with fail
                  go_roundw
                  case rel => exact ⟨I2 + 1, J2 - 1, swp dk I2 J2, by go_num, by go_num, by omega, by omega, by omega, by omega, hsz2.out, hSn.out, hRn.out⟩
                  case measure => first | (simp [intOf]; done) | (simp [intOf]; omega)
/-- Into those that are equal and those that are greater. -/
def EqPost (w : World) (b T1 : Nat) (T3 : Array Int) (e : Ending) (W : World) : Prop := e = .returned (.int .i64 T1) ∧ SW w b T3 W
set_option maxHeartbeats 4000000 in
theorem parteq_any (H : RowU w b d) (cap a t p : Nat) (hap : a ≤ p) (hpt : p < t) (hat : a + 1 < t) (ht : t ≤ d.size) (hs : d.size < 288230376151711744) : Calls Tryd.prog 98 #[.slice (some ⟨b, 0, none⟩) d.size cap, .int .i64 a, .int .i64 t, .int .i64 p] w
    (EqPost w b (partEqLoop ltInt a (a + 1) (t - 1) (swp d a p)).1 (partEqLoop ltInt a (a + 1) (t - 1) (swp d a p)).2) := by
  obtain ⟨⟨T1, T2⟩, hT⟩ : ∃ T, partEqLoop ltInt a (a + 1) (t - 1) (swp d a p) = T := ⟨_, rfl⟩
  rw [hT]
  show Calls Tryd.prog 98 _ _ (EqPost w b T1 T2)
  obtain ⟨D, hD⟩ : ∃ D, D = EqPost w b T1 T2 := ⟨_, rfl⟩
  rw [← hD]
  replace hD := Lib.hid hD
  have hL := Lib.hid less_any
  obtain ⟨j, hj⟩ : ∃ j, t = j + 1 := ⟨t - 1, by omega⟩
  subst hj
  rw [Nat.add_sub_cancel] at hT
  replace hT := Lib.hid hT
  have hS := Lib.hid (SW.refl H)
  obtain ⟨dk, hdk⟩ : ∃ dk, dk = d := ⟨_, rfl⟩
  rw [← hdk] at hS
  have hsz : dk.size = d.size := by rw [hdk]
  rw [← hdk] at hT
  clear hdk H
  obtain ⟨c1, f1⟩ := hS.out.row.cs a (by omega)
  obtain ⟨c2, f2⟩ := hS.out.row.cs p (by omega)
  have hSn := Lib.hid ((hS.out.swap (i := a) (j := p) (by omega) (by omega)).drew)
  obtain ⟨u, hu⟩ : ∃ u, u = dk[a]! := ⟨_, rfl⟩
  obtain ⟨v, hv⟩ : ∃ v, v = dk[p]! := ⟨_, rfl⟩
  rw [← hu] at c1 hSn
  rw [← hv] at c2 hSn
  have hsz' := Lib.hid hsz
  clear hsz hS
  go_enter Tryd.func98, Tryd.ntmps98
  go_upto_region 1 with (fail)
  go_cut [0] (fun v w' => v = .slice (some ⟨b, 0, none⟩) d.size cap ∧ SW w b (swp dk a p) w')
  case first =>
    by_cases hxy : a = p
    · have huv : u = v := by rw [hu, hv, hxy]
      clear hu hv
      subst huv
      subst hxy
      clear c1 f1
      go_wp2_with fail
      go_region
      go_wp2_with fail
      go_meet
      exact ⟨rfl, hSn.out⟩
    · clear hu hv
      go_wp2_with fail
      go_region
      go_wp2_with fail
      go_meet
      exact ⟨rfl, hSn.out⟩
  case rest =>
    obtain ⟨rfl, hS⟩ := hcut
    have hsz : (swp dk a p).size = d.size := by rw [size_swp]; exact hsz'.out
    clear hu hv c1 c2 f1 f2 hSn
    generalize swp dk a p = dk at *
    replace hS := Lib.hid hS
    obtain ⟨i, hi⟩ : ∃ i, i = a + 1 := ⟨_, rfl⟩
    rw [← hi] at hT
    have hii : (a : Int) + 1 = i := by omega
    have hib : i < 288230376151711744 := by omega
    have h1 : a + 1 ≤ i := by omega
    have h2 : i ≤ j + 1 := by omega
    obtain ⟨J0, hJ0⟩ : ∃ J0, J0 = j := ⟨_, rfl⟩
    have hjJ : j < J0 + 1 := by omega
    have haj : a ≤ j := by omega
    have hJ0d : J0 + 1 ≤ d.size := by omega
    clear hi hJ0
    go_wp2_with fail
    go_loopw [9, 10] (fun v v' wr => ∃ (i j : Nat) (dk : Array Int), v = .int .i64 i ∧ v' = .int .i64 j ∧ a + 1 ≤ i ∧ i ≤ j + 1 ∧ a ≤ j ∧ j < J0 + 1 ∧ dk.size = d.size ∧ SW w b dk wr ∧ partEqLoop ltInt a i j dk = (T1, T2)) (fun v _ _ => J0 + 2 - (intOf v).toNat)
    case atStart => exact ⟨i, j, dk, by go_num, by go_num, by omega, by omega, by omega, by omega, hsz, hS.out, hT.out⟩
    case round =>
      clear hT hS h1 h2 hjJ haj hsz
      obtain ⟨i, j, dk, rfl, rfl, h1, h2, haj, hjJ, hsz, hS, hT⟩ := hrel
      replace hS := Lib.hid hS
      replace hT := Lib.hid hT
      obtain ⟨I2, J2, hI2, hJ2, k1, k2, k3, k4, k5⟩ := round_of (p := fun x => !ltInt dk[a]! x) (q := fun x => ltInt dk[a]! x) (fun _ => (Bool.not_not _).symm) (d := dk) (i := i) (j := j) (by omega) h2
      replace hI2 := Lib.hid hI2
      replace hJ2 := Lib.hid hJ2
      obtain ⟨g0, f0⟩ := hS.out.row.cs a (by omega)
      obtain ⟨pv, hpv⟩ : ∃ pv, pv = dk[a]! := ⟨_, rfl⟩
      rw [← hpv] at g0
      replace g0 := Lib.hid g0
      replace hpv := Lib.hid hpv
      go_upto_block 2 with (fail)
      go_cut [9] (fun v w' => v = .int .i64 I2 ∧ SW w b dk w')
      case first =>
        go_wp2_with fail
        go_loopw [9] (fun v wr => ∃ x : Nat, v = .int .i64 x ∧ i ≤ x ∧ x ≤ j + 1 ∧ scanUp (fun x => !ltInt dk[a]! x) dk j x = I2 ∧ SW w b dk wr) (fun v _ => j + 1 - (intOf v).toNat)
        case atStart => exact ⟨i, by go_num, by omega, by omega, hI2.out, hS.out⟩
        case round =>
          obtain ⟨x, rfl, x1, x2, hR, hSx⟩ := hrel
          replace hR := Lib.hid hR
          by_cases hxy : x ≤ j
          · obtain ⟨c0, _⟩ := hSx.row.cs a (by omega)
            obtain ⟨c1, _⟩ := hSx.row.cs x (by omega)
            rw [← hpv.out] at c0
            obtain ⟨xv, hxv⟩ : ∃ xv, xv = dk[x]! := ⟨_, rfl⟩
            rw [← hxv] at c1
            replace hxv := Lib.hid hxv
            have hSy := Lib.hid hSx
            clear hSx
            go_wp2_with fail
            go_quiet ((go_at_call 97; exact Calls.quiet_of_same (hL.out _ _ _)))
            cases hl : ltInt pv xv
            · have hl' := Lib.hid (show (fun x => !ltInt dk[a]! x) dk[x]! = true by show (!ltInt dk[a]! dk[x]!) = _; rw [← hxv.out, ← hpv.out, hl]; try rfl)
              have hRn := Lib.hid ((up_go (p := fun x => !ltInt dk[a]! x) hxy hl'.out).symm.trans hR.out)
              clear c0 c1
              go_wp2_with fail
              go_roundw
              case rel => exact ⟨x + 1, by go_num, by omega, by omega, hRn.out, hSy.out.drewN nq⟩
              case measure => first | (simp [intOf]; done) | (simp [intOf]; omega)
            · have hl' := Lib.hid (show (fun x => !ltInt dk[a]! x) dk[x]! = false by show (!ltInt dk[a]! dk[x]!) = _; rw [← hxv.out, ← hpv.out, hl]; try rfl)
              have hRn := Lib.hid ((up_stop (p := fun x => !ltInt dk[a]! x) (.inr hl'.out)).symm.trans hR.out)
              clear c0 c1
              have hE := hRn.out
              subst hE
              go_wp2_with fail
              go_meet
              exact ⟨rfl, hSy.out.drewN nq⟩
          · have hg : decide ((x : Int) ≤ j) = false := by rw [decide_eq_false_iff_not]; omega
            have hRn := Lib.hid ((up_stop (p := fun x => !ltInt dk[a]! x) (.inl hxy)).symm.trans hR.out)
            replace hSx := Lib.hid hSx
            have hE := hRn.out
            subst hE
            go_wp2_with fail
            go_quiet (fail)
            go_wp2_with fail
            go_meet
            exact ⟨rfl, hSx.out.drewN nq⟩
      case rest =>
        clear hS
        rename_i wu
        obtain ⟨rfl, hS⟩ := hcut
        replace hS := Lib.hid hS
        go_upto_block 4 with (fail)
        go_cut [10] (fun v w' => v = .int .i64 J2 ∧ SW w b dk w')
        case first =>
          go_wp2_with fail
          go_loopw [10] (fun v wr => ∃ y : Nat, v = .int .i64 y ∧ I2 ≤ y + 1 ∧ y ≤ j ∧ scanDown (fun x => ltInt dk[a]! x) dk I2 y = J2 ∧ SW w b dk wr) (fun v _ => (intOf v).toNat)
          case atStart => exact ⟨j, by go_num, by omega, by omega, hJ2.out, hS.out⟩
          case round =>
            obtain ⟨y, rfl, y1, y2, hR, hSx⟩ := hrel
            replace hR := Lib.hid hR
            by_cases hxy : I2 ≤ y
            · obtain ⟨c0, _⟩ := hSx.row.cs a (by omega)
              obtain ⟨c1, _⟩ := hSx.row.cs y (by omega)
              rw [← hpv.out] at c0
              obtain ⟨xv, hxv⟩ : ∃ xv, xv = dk[y]! := ⟨_, rfl⟩
              rw [← hxv] at c1
              replace hxv := Lib.hid hxv
              have hSy := Lib.hid hSx
              clear hSx
              go_wp2_with fail
              go_quiet ((go_at_call 97; exact Calls.quiet_of_same (hL.out _ _ _)))
              cases hl : ltInt pv xv
              · have hl' := Lib.hid (show (fun x => ltInt dk[a]! x) dk[y]! = false by show ltInt dk[a]! dk[y]! = _; rw [← hxv.out, ← hpv.out, hl]; try rfl)
                have hRn := Lib.hid ((down_stop (p := fun x => ltInt dk[a]! x) (.inr hl'.out) (by omega)).symm.trans hR.out)
                clear c0 c1
                have hE := hRn.out
                subst hE
                go_wp2_with fail
                go_meet
                exact ⟨rfl, hSy.out.drewN nq⟩
              · have hl' := Lib.hid (show (fun x => ltInt dk[a]! x) dk[y]! = true by show ltInt dk[a]! dk[y]! = _; rw [← hxv.out, ← hpv.out, hl]; try rfl)
                obtain ⟨z, rfl⟩ : ∃ z, y = z + 1 := ⟨y - 1, by omega⟩
                have hRn := Lib.hid ((down_go (p := fun x => ltInt dk[a]! x) hxy hl'.out).symm.trans hR.out)
                clear c0 c1
                go_wp2_with fail
                go_roundw
                case rel => exact ⟨z, by go_num, by omega, by omega, hRn.out, hSy.out.drewN nq⟩
                case measure => first | (simp [intOf]; done) | (simp [intOf]; omega)
            · have hg : decide ((I2 : Int) ≤ y) = false := by rw [decide_eq_false_iff_not]; omega
              have hRn := Lib.hid ((down_stop (p := fun x => ltInt dk[a]! x) (.inl hxy) (by omega)).symm.trans hR.out)
              replace hSx := Lib.hid hSx
              have hE := hRn.out
              subst hE
              go_wp2_with fail
              go_quiet (fail)
              go_wp2_with fail
              go_meet
              exact ⟨rfl, hSx.out.drewN nq⟩
        case rest =>
          clear hS
          rename_i wd
          obtain ⟨rfl, hS⟩ := hcut
          replace hS := Lib.hid hS
          by_cases hIJ : J2 < I2
          · have hg : (J2 : Int) < I2 := by omega
            have hTT := (parteq_out hI2.out hJ2.out hIJ).symm.trans hT.out
            have hT1 := congrArg Prod.fst hTT
            have hT2 := congrArg Prod.snd hTT
            replace hT1 : I2 = T1 := hT1
            replace hT2 : dk = T2 := hT2
            subst hT1
            subst hT2
            go_wp2_with fail
            rw [hD.out]
            exact ⟨rfl, hS.out⟩
          · have hg : ¬ (J2 : Int) < I2 := by omega
            have hRn := Lib.hid ((parteq_go hI2.out hJ2.out hIJ).symm.trans hT.out)
            obtain ⟨c1, f1⟩ := hS.out.row.cs I2 (by omega)
            obtain ⟨c2, f2⟩ := hS.out.row.cs J2 (by omega)
            have hSn := Lib.hid ((hS.out.swap (i := I2) (j := J2) (by omega) (by omega)).drew)
            obtain ⟨u, hu⟩ : ∃ u, u = dk[I2]! := ⟨_, rfl⟩
            obtain ⟨v, hv⟩ : ∃ v, v = dk[J2]! := ⟨_, rfl⟩
            rw [← hu] at c1 hSn
            rw [← hv] at c2 hSn
            clear hu hv
            have hsz2 := Lib.hid (show (swp dk I2 J2).size = d.size by rw [size_swp]; exact hsz)
            have hne : ¬ I2 = J2 := k5
            go_wp2_with fail
            go_region
            go_wp2_with fail
            go_roundw
            case rel => (repeat apply Exists.intro); exact ⟨⟨I2 + 1, J2 - 1, swp dk I2 J2, by go_num, by go_num, by omega, by omega, by omega, by omega, hsz2.out, hSn.out, hRn.out⟩, rfl⟩
            case measure => first | (simp [intOf]; done) | (simp [intOf]; omega)
end
end Go.Proofs.YticfpnhfhhagpaaDoor
