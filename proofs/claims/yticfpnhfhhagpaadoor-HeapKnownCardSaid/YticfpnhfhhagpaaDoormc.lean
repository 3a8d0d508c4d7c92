/- Contracts of the library's sort at numbers of 32 bits: heap sort, a range turned round. No statement is proved here.; Contracts of the library's sort at numbers of 32 bits: a range turned round; the pivot's choice (where it lies, and no more). No statement is proved here.; The library's contract of math/bits.Len, laid over this translation; what it tells. No statement is proved here. -/
import Derived.Test.YticfpnhfhhagpaaDoormb
import Derived.Test.YticfpnhfhhagpaaDoorma
import Derived.Shelf.Small.Bits
import Derived.Sort.AssemblyPlain
namespace Go.Proofs.YticfpnhfhhagpaaDoor
set_option maxRecDepth 100000
open Go.RowKit
open Go.Sort (ltInt swp swp_permIn permIn_refl permIn_trans permIn_mono size_swp swp_left swp_right swp_other swo_ltInt PermIn SortedIn siftDown heapBuild heapPop heapSort reverseLoop reverseRange)
set_option linter.unusedVariables false

section
variable {w : World} {b : Nat} {d : Array Int}
theorem sd_end {hi F r : Nat} {d : Array Int} (h : 2 * r + 1 ≥ hi) : siftDown ltInt hi F r d = d := by rw [siftDown.eq_def, dif_pos h]
theorem sd_right {hi F r : Nat} {d : Array Int} (h : 2 * r + 1 + 1 < hi) (hl : ltInt d[F + (2 * r + 1)]! d[F + (2 * r + 1) + 1]! = true) :
    siftDown ltInt hi F r d = if ltInt d[F + r]! d[F + (2 * r + 1 + 1)]! then siftDown ltInt hi F (2 * r + 1 + 1) (swp d (F + r) (F + (2 * r + 1 + 1))) else d := by
  rw [siftDown.eq_def, dif_neg (by omega), if_pos (by simp [h, hl])]
  show (if (!ltInt d[F + r]! d[F + (2 * r + 2)]!) = true then d else _) = if ltInt d[F + r]! d[F + (2 * r + 2)]! = true then _ else d
  cases ltInt d[F + r]! d[F + (2 * r + 2)]!
  · simp
  · simp only [Bool.not_true, Bool.false_eq_true, if_false, if_true]; exact dif_pos (show 2 * r + 2 < hi by omega)
theorem sd_left {hi F r : Nat} {d : Array Int} (h : 2 * r + 1 < hi) (hl : ¬ 2 * r + 1 + 1 < hi ∨ ltInt d[F + (2 * r + 1)]! d[F + (2 * r + 1) + 1]! = false) :
    siftDown ltInt hi F r d = if ltInt d[F + r]! d[F + (2 * r + 1)]! then siftDown ltInt hi F (2 * r + 1) (swp d (F + r) (F + (2 * r + 1))) else d := by
  rw [siftDown.eq_def, dif_neg (by omega), if_neg (by rcases hl with h | h <;> simp [h])]
  cases ltInt d[F + r]! d[F + (2 * r + 1)]! <;> simp
set_option maxHeartbeats 2000000 in
theorem sift_any (H : RowU w b d) (cap lo hi F : Nat) (hF : F + hi ≤ d.size) (hlo : lo ≤ d.size) (hs : d.size < 1152921504606846976) : Calls Tryd.prog 102 #[.slice (some ⟨b, 0, none⟩) d.size cap, .int .i64 lo, .int .i64 hi, .int .i64 F] w (Done w b (siftDown ltInt hi F lo d)) := by
  obtain ⟨T, hT⟩ : ∃ T, T = siftDown ltInt hi F lo d := ⟨_, rfl⟩
  have hL := Lib.hid less_any
  have h0 := Lib.hid (show SW w b d w ∧ siftDown ltInt hi F lo d = T from ⟨SW.refl H, hT.symm⟩)
  rw [← hT]
  clear H hT
  obtain ⟨D, hD⟩ : ∃ D, D = Done w b T := ⟨_, rfl⟩
  rw [← hD]
  replace hD := Lib.hid hD
  go_enter Tryd.func102, Tryd.ntmps102
  go_wp2_with fail
  go_loopw [8, 9] (fun i _ wr => ∃ (r : Nat) (dk : Array Int), i = .int .i64 r ∧ r ≤ d.size ∧ dk.size = d.size ∧ SW w b dk wr ∧ siftDown ltInt hi F r dk = T) (fun i _ _ => d.size - (intOf i).toNat)
  case atStart => exact ⟨lo, d, rfl, hlo, rfl, h0.out.1, h0.out.2⟩
  case round =>
    obtain ⟨r, dk, rfl, hr, hsz, hS, hR⟩ := hrel
    replace hS := Lib.hid hS
    replace hR := Lib.hid hR
    obtain ⟨c, hc⟩ : ∃ c, c = 2 * r + 1 := ⟨_, rfl⟩
    have hci : 2 * (r : Int) + 1 = c := by omega
    have hcb : c < 4611686018427387904 := by omega
    replace hc := Lib.hid hc
    by_cases he : hi ≤ c
    · have hE := (sd_end (by have := hc.out; omega)).symm.trans hR.out
      subst hE
      have hg : (hi : Int) ≤ c := by omega
      go_wp2_with fail
      rw [hD.out]
      exact bodyPost_ret (results_none rfl _ _ _) rfl ⟨rfl, hS.out⟩
    · have hge : ¬ (hi : Int) ≤ c := by omega
      by_cases hr2 : c + 1 < hi
      · have hg2 : (c : Int) + 1 < hi := by omega
        obtain ⟨g1, k1⟩ := hS.out.row.cs (F + c) (by omega)
        obtain ⟨g2, k2⟩ := hS.out.row.cs (F + c + 1) (by omega)
        go_wp2_with fail
        go_quiet ((go_at_call 97; exact Calls.quiet_of_same (hL.out _ _ _)))
        clear g1 g2 k1 k2
        have hSq := Lib.hid (hS.out.drewN nq)
        generalize wr.drewN nq = wr2 at *
        clear hS
        cases hl : ltInt dk[F + c]! dk[F + c + 1]!
        · have hEQ := Lib.hid (sd_left (hi := hi) (F := F) (r := r) (d := dk) (by have := hc.out; omega) (.inr (by rw [← hc.out]; exact hl)))
          rw [← hc.out] at hEQ
          replace hl := Lib.hid hl
          obtain ⟨g1, k1⟩ := hSq.out.row.cs (F + r) (by omega)
          obtain ⟨g2, k2⟩ := hSq.out.row.cs (F + c) (by omega)
          go_wp2_with fail
          go_quiet ((go_at_call 97; exact Calls.quiet_of_same (hL.out _ _ _)))
          cases hm : ltInt dk[F + r]! dk[F + c]!
          · have hRf := Lib.hid (hEQ.out.symm.trans hR.out)
            rw [hm] at hRf
            have hE := hRf.out
            replace hE : dk = T := hE
            subst hE
            clear g1 g2 k1 k2
            have hSf := Lib.hid (hSq.out.drewN nq)
            go_wp2_with fail
            rw [hD.out]
            exact bodyPost_ret (results_none rfl _ _ _) rfl ⟨rfl, hSf.out⟩
          · have hRf := Lib.hid (hEQ.out.symm.trans hR.out)
            rw [hm] at hRf
            replace hRf := Lib.hid (show siftDown ltInt hi F (c) (swp dk (F + r) (F + (c))) = T from hRf.out)
            have hSn := Lib.hid ((hSq.out.drewN nq).swap (i := F + r) (j := F + (c)) (by omega) (by omega))
            obtain ⟨wq, hwq⟩ : ∃ wq, wq = wr2.drewN nq := ⟨_, rfl⟩
            have c1' : wq.cell? ⟨b, F + r, none⟩ = some (.int .u32 dk[F + r]!) := by rw [hwq]; exact g1
            have c2' : wq.cell? ⟨b, F + (c), none⟩ = some (.int .u32 dk[F + (c)]!) := by rw [hwq]; exact g2
            have f1' : wq.frozen? ⟨b, F + r, none⟩ = false := by rw [hwq]; exact k1
            have f2' : wq.frozen? ⟨b, F + (c), none⟩ = false := by rw [hwq]; exact k2
            rw [← hwq] at hSn ⊢
            clear g1 g2 k1 k2 hwq
            go_wp2_with fail
            go_region
            go_wp2_with fail
            go_roundw
            case rel => exact ⟨c, swp dk (F + r) (F + (c)), by go_num, by omega, by rw [size_swp]; exact hsz, hSn.out.drew, hRf.out⟩
            case measure => first | (simp [intOf]; done) | (simp [intOf]; omega)
        · have hEQ := Lib.hid (sd_right (hi := hi) (F := F) (r := r) (d := dk) (by have := hc.out; omega) (by rw [← hc.out]; exact hl))
          rw [← hc.out] at hEQ
          replace hl := Lib.hid hl
          obtain ⟨g1, k1⟩ := hSq.out.row.cs (F + r) (by omega)
          obtain ⟨g2, k2⟩ := hSq.out.row.cs (F + (c + 1)) (by omega)
          go_wp2_with fail
          go_quiet ((go_at_call 97; exact Calls.quiet_of_same (hL.out _ _ _)))
          cases hm : ltInt dk[F + r]! dk[F + (c + 1)]!
          · have hRf := Lib.hid (hEQ.out.symm.trans hR.out)
            rw [hm] at hRf
            have hE := hRf.out
            replace hE : dk = T := hE
            subst hE
            clear g1 g2 k1 k2
            have hSf := Lib.hid (hSq.out.drewN nq)
            go_wp2_with fail
            rw [hD.out]
            exact bodyPost_ret (results_none rfl _ _ _) rfl ⟨rfl, hSf.out⟩
          · have hRf := Lib.hid (hEQ.out.symm.trans hR.out)
            rw [hm] at hRf
            replace hRf := Lib.hid (show siftDown ltInt hi F ((c + 1)) (swp dk (F + r) (F + ((c + 1)))) = T from hRf.out)
            have hSn := Lib.hid ((hSq.out.drewN nq).swap (i := F + r) (j := F + ((c + 1))) (by omega) (by omega))
            obtain ⟨wq, hwq⟩ : ∃ wq, wq = wr2.drewN nq := ⟨_, rfl⟩
            have c1' : wq.cell? ⟨b, F + r, none⟩ = some (.int .u32 dk[F + r]!) := by rw [hwq]; exact g1
            have c2' : wq.cell? ⟨b, F + ((c + 1)), none⟩ = some (.int .u32 dk[F + ((c + 1))]!) := by rw [hwq]; exact g2
            have f1' : wq.frozen? ⟨b, F + r, none⟩ = false := by rw [hwq]; exact k1
            have f2' : wq.frozen? ⟨b, F + ((c + 1)), none⟩ = false := by rw [hwq]; exact k2
            rw [← hwq] at hSn ⊢
            clear g1 g2 k1 k2 hwq
            go_wp2_with fail
            go_region
            go_wp2_with fail
            go_roundw
            case rel => exact ⟨(c + 1), swp dk (F + r) (F + ((c + 1))), by go_num, by omega, by rw [size_swp]; exact hsz, hSn.out.drew, hRf.out⟩
            case measure => first | (simp [intOf]; done) | (simp [intOf]; omega)
      · have hg2 : decide ((c : Int) + 1 < hi) = false := by rw [decide_eq_false_iff_not]; omega
        have hEQ := Lib.hid (sd_left (hi := hi) (F := F) (r := r) (d := dk) (by have := hc.out; omega) (.inl (by have := hc.out; omega)))
        rw [← hc.out] at hEQ
        go_wp2_with fail
        go_quiet (fail)
        have hSq := Lib.hid (hS.out.drewN nq)
        generalize wr.drewN nq = wr2 at *
        clear hS
        obtain ⟨g1, k1⟩ := hSq.out.row.cs (F + r) (by omega)
        obtain ⟨g2, k2⟩ := hSq.out.row.cs (F + c) (by omega)
        go_wp2_with fail
        go_quiet ((go_at_call 97; exact Calls.quiet_of_same (hL.out _ _ _)))
        cases hm : ltInt dk[F + r]! dk[F + c]!
        · have hRf := Lib.hid (hEQ.out.symm.trans hR.out)
          rw [hm] at hRf
          have hE := hRf.out
          replace hE : dk = T := hE
          subst hE
          clear g1 g2 k1 k2
          have hSf := Lib.hid (hSq.out.drewN nq)
          go_wp2_with fail
          rw [hD.out]
          exact bodyPost_ret (results_none rfl _ _ _) rfl ⟨rfl, hSf.out⟩
        · have hRf := Lib.hid (hEQ.out.symm.trans hR.out)
          rw [hm] at hRf
          replace hRf := Lib.hid (show siftDown ltInt hi F (c) (swp dk (F + r) (F + (c))) = T from hRf.out)
          have hSn := Lib.hid ((hSq.out.drewN nq).swap (i := F + r) (j := F + (c)) (by omega) (by omega))
          obtain ⟨wq, hwq⟩ : ∃ wq, wq = wr2.drewN nq := ⟨_, rfl⟩
          have c1' : wq.cell? ⟨b, F + r, none⟩ = some (.int .u32 dk[F + r]!) := by rw [hwq]; exact g1
          have c2' : wq.cell? ⟨b, F + (c), none⟩ = some (.int .u32 dk[F + (c)]!) := by rw [hwq]; exact g2
          have f1' : wq.frozen? ⟨b, F + r, none⟩ = false := by rw [hwq]; exact k1
          have f2' : wq.frozen? ⟨b, F + (c), none⟩ = false := by rw [hwq]; exact k2
          rw [← hwq] at hSn ⊢
          clear g1 g2 k1 k2 hwq
          go_wp2_with fail
          go_region
          go_wp2_with fail
          go_roundw
          case rel => exact ⟨c, swp dk (F + r) (F + (c)), by go_num, by omega, by rw [size_swp]; exact hsz, hSn.out.drew, hRf.out⟩
          case measure => first | (simp [intOf]; done) | (simp [intOf]; omega)
theorem build_succ (hi F n : Nat) (d : Array Int) : heapBuild ltInt hi F (n + 1) d = heapBuild ltInt hi F n (siftDown ltInt hi F n d) := rfl
theorem pop_succ (F n : Nat) (d : Array Int) : heapPop ltInt F (n + 1) d = heapPop ltInt F n (siftDown ltInt n F 0 (swp d F (F + n))) := rfl
theorem Done.sw {W : World} {e : Ending} (h : Done w b d e W) : SW w b d W := h.2
theorem sift_size (hi F lo : Nat) (d : Array Int) : (siftDown ltInt hi F lo d).size = d.size := by
  suffices h : ∀ n lo (d : Array Int), hi - lo ≤ n → (siftDown ltInt hi F lo d).size = d.size from h _ lo d (Nat.le_refl _)
  intro n
  induction n with
  | zero => intro lo d h; rw [sd_end (by omega)]
  | succ n ih =>
    intro lo d h
    by_cases h0 : 2 * lo + 1 ≥ hi
    · rw [sd_end h0]
    · by_cases h1 : 2 * lo + 1 + 1 < hi ∧ ltInt d[F + (2 * lo + 1)]! d[F + (2 * lo + 1) + 1]! = true
      · rw [sd_right h1.1 h1.2]
        split
        · rw [ih _ _ (by omega), size_swp]
        · rfl
      · rw [sd_left (by omega) (by
          by_cases h2 : 2 * lo + 1 + 1 < hi
          · exact .inr (by simpa [h2] using h1)
          · exact .inl h2)]
        split
        · rw [ih _ _ (by omega), size_swp]
        · rfl
set_option maxHeartbeats 2000000 in
theorem heap_any (H : RowU w b d) (cap a L t : Nat) (hL : 1 ≤ L) (ht : a + L = t) (hd : t ≤ d.size) (hs : d.size < 1152921504606846976) : Calls Tryd.prog 92 #[.slice (some ⟨b, 0, none⟩) d.size cap, .int .i64 a, .int .i64 t] w (Done w b (heapSort ltInt d a t)) := by
  have hT : heapPop ltInt a L (heapBuild ltInt L a ((L - 1) / 2 + 1) d) = heapSort ltInt d a t := by
    unfold heapSort
    rw [show t - a = L by omega]
  obtain ⟨T, hT2⟩ : ∃ T, T = heapSort ltInt d a t := ⟨_, rfl⟩
  rw [← hT2] at hT ⊢
  replace hT := Lib.hid hT
  have hSft := Lib.hid (fun (W : World) (dk : Array Int) (H : RowU W b dk) (lo hi : Nat) (h1 : dk.size = d.size) (h2 : a + hi ≤ d.size) (h3 : lo ≤ d.size) => (show Calls Tryd.prog 102 #[.slice (some ⟨b, 0, none⟩) d.size cap, .int .i64 lo, .int .i64 hi, .int .i64 a] W (Done W b (siftDown ltInt hi a lo dk)) from by
    have := sift_any H cap lo hi a (by omega) (by omega) (by omega)
    rwa [h1] at this))
  have h0 := Lib.hid (SW.refl H)
  clear H hT2
  obtain ⟨D, hD⟩ : ∃ D, D = Done w b T := ⟨_, rfl⟩
  rw [← hD]
  replace hD := Lib.hid hD
  have e1 : (t : Int) - a = L := by omega
  obtain ⟨k0, hk0⟩ : ∃ k0, k0 = (L - 1) / 2 := ⟨_, rfl⟩
  have e2 : ((L : Int) - 1).tdiv 2 = k0 := by
    rw [Int.tdiv_eq_ediv_of_nonneg (by omega)]
    omega
  have hk1 : k0 < L := by omega
  rw [← hk0] at hT
  clear hk0
  replace ht := Lib.hid ht
  go_enter Tryd.func92, Tryd.ntmps92
  go_wp2_with fail
  go_loopw [9] (fun i wr => ∃ (k : Nat) (dk : Array Int), i = .int .i64 ((k : Int) - 1) ∧ k ≤ k0 + 1 ∧ dk.size = d.size ∧ SW w b dk wr ∧ heapPop ltInt a L (heapBuild ltInt L a k dk) = T) (fun i _ => (intOf i + 1).toNat)
  case atStart => exact ⟨k0 + 1, d, by go_num, by omega, rfl, h0.out, hT.out⟩
  case round =>
    obtain ⟨k, dk, hi, hk, hsz, hS, hR⟩ := hrel
    replace hS := Lib.hid hS
    replace hR := Lib.hid hR
    rcases k with _ | k
    · replace hi := hi.trans (show Value.int .i64 (((0 : Nat) : Int) - 1) = .int .i64 (-1) from rfl)
      subst hi
      go_wp2_with fail
      have hR0 := Lib.hid (show heapPop ltInt a L dk = T from hR.out)
      clear hR h0 hT
      go_loopw [10] (fun i wr => ∃ (k : Nat) (dk : Array Int), i = .int .i64 ((k : Int) - 1) ∧ k ≤ L ∧ dk.size = d.size ∧ SW w b dk wr ∧ heapPop ltInt a k dk = T) (fun i _ => (intOf i + 1).toNat)
      case atStart => exact ⟨L, dk, by go_num, by omega, hsz, hS.out, hR0.out⟩
      case round =>
        clear hR0 hS hsz dk
        obtain ⟨k, dk, hi, hk, hsz, hS, hR⟩ := hrel
        replace hS := Lib.hid hS
        replace hR := Lib.hid hR
        rcases k with _ | k
        · replace hi := hi.trans (show Value.int .i64 (((0 : Nat) : Int) - 1) = .int .i64 (-1) from rfl)
          subst hi
          go_wp2_with fail
          rw [hD.out]
          have hE := hR.out
          replace hE : dk = T := hE
          subst hE
          exact bodyPost_ret (results_none rfl _ _ _) rfl ⟨rfl, hS.out⟩
        · replace hi := hi.trans (show Value.int .i64 (((k + 1 : Nat) : Int) - 1) = .int .i64 (k : Int) from by congr 1; omega)
          subst hi
          have hak := Lib.hid (show a + k < d.size by have := ht.out; omega)
          obtain ⟨c1, f1⟩ := hS.out.row.cs a (by have := hak.out; omega)
          obtain ⟨c2, f2⟩ := hS.out.row.cs (a + k) (by have := hak.out; omega)
          have hSn := Lib.hid ((hS.out.swap (i := a) (j := a + k) (by have := hak.out; omega) (by have := hak.out; omega)).drew)
          replace hsz := Lib.hid hsz
          by_cases hk0' : k = 0
          · subst hk0'
            have hC := Lib.hid (show Calls Tryd.prog 102 #[.slice (some ⟨b, 0, none⟩) d.size cap, .int .i64 0, .int .i64 0, .int .i64 a] _ _ from hSft.out _ _ hSn.out.row 0 0 (by rw [size_swp]; exact hsz.out) (by have := ht.out; omega) (by omega))

            rw [show ((0 : Nat) : Int) = 0 from rfl]
            simp only [Nat.add_zero] at hC hSn c1 c2 f1 f2
            go_wp2_with fail
            go_region
            go_wp2_with fail
            refine hC.out.mono ?_
            rintro e w2 ⟨rfl, s2⟩
            have hS2 := Lib.hid (hSn.out.step s2)
            clear s2
            go_wp2_with fail
            go_roundw
            case rel => exact ⟨0, siftDown ltInt 0 a 0 (swp dk a (a + 0)), rfl, by omega, by rw [sift_size, size_swp]; exact hsz.out, hS2.out, hR.out⟩
            case measure => first | (simp [intOf]; done) | (simp [intOf]; omega)
          · have hC := Lib.hid (show Calls Tryd.prog 102 #[.slice (some ⟨b, 0, none⟩) d.size cap, .int .i64 0, .int .i64 k, .int .i64 a] _ _ from hSft.out _ _ hSn.out.row 0 k (by rw [size_swp]; exact hsz.out) (by have := ht.out; omega) (by omega))
            go_wp2_with fail
            go_region
            go_wp2_with fail
            refine hC.out.mono ?_
            rintro e w2 ⟨rfl, s2⟩
            have hS2 := Lib.hid (hSn.out.step s2)
            clear s2
            go_wp2_with fail
            go_roundw
            case rel => exact ⟨k, siftDown ltInt k a 0 (swp dk a (a + k)), rfl, by omega, by rw [sift_size, size_swp]; exact hsz.out, hS2.out, hR.out⟩
            case measure => first | (simp [intOf]; done) | (simp [intOf]; omega)
    · replace hi := hi.trans (show Value.int .i64 (((k + 1 : Nat) : Int) - 1) = .int .i64 (k : Int) from by congr 1; omega)
      subst hi
      have hC := Lib.hid (hSft.out wr dk hS.out.row k L hsz (by have := ht.out; omega) (by omega))
      go_wp2_with fail
      refine hC.out.mono ?_
      rintro e w2 ⟨rfl, s2⟩
      have hS2 := Lib.hid (hS.out.step s2)
      clear s2
      go_wp2_with fail
      go_roundw
      case rel => exact ⟨k, siftDown ltInt L a k dk, rfl, by omega, by rw [sift_size]; exact hsz, hS2.out, hR.out⟩
      case measure => first | (simp [intOf]; done) | (simp [intOf]; omega)
end
end Go.Proofs.YticfpnhfhhagpaaDoor
namespace Go.Proofs.YticfpnhfhhagpaaDoor
set_option maxRecDepth 100000
open Go.RowKit
open Go.Sort (ltInt swp swp_permIn permIn_refl permIn_trans permIn_mono size_swp swp_left swp_right swp_other swo_ltInt PermIn SortedIn reverseLoop reverseRange)
set_option linter.unusedVariables false

section
variable {w W W' : World} {b q : Nat} {d : Array Int}
theorem rev_go {i j : Nat} {d : Array Int} (h : i < j) : reverseLoop i j d = reverseLoop (i + 1) (j - 1) (swp d i j) := by rw [reverseLoop.eq_def, if_pos h]
theorem rev_end {i j : Nat} {d : Array Int} (h : ¬ i < j) : reverseLoop i j d = d := by rw [reverseLoop.eq_def, if_neg h]
set_option maxHeartbeats 2000000 in
theorem reverse_any (H : RowU w b d) (cap a t : Nat) (hat : a < t) (ht : t ≤ d.size) (hs : d.size < 1152921504606846976) : Calls Tryd.prog 95 #[.slice (some ⟨b, 0, none⟩) d.size cap, .int .i64 a, .int .i64 t] w (Done w b (reverseRange d a t)) := by
  obtain ⟨T, hT⟩ : ∃ T, T = reverseRange d a t := ⟨_, rfl⟩
  have h0 := Lib.hid (show SW w b d w ∧ reverseLoop a (t - 1) d = T from ⟨SW.refl H, hT.symm⟩)
  rw [← hT]
  clear H hT
  obtain ⟨D, hD⟩ : ∃ D, D = Done w b T := ⟨_, rfl⟩
  rw [← hD]
  replace hD := Lib.hid hD
  obtain ⟨j0, hj0⟩ : ∃ j0, t = j0 + 1 := ⟨t - 1, by omega⟩
  subst hj0
  rw [Nat.add_sub_cancel] at h0
  go_enter Tryd.func95, Tryd.ntmps95
  go_wp2_with fail
  go_loopw [6, 7] (fun i j wr => ∃ (x y : Nat) (dk : Array Int), i = .int .i64 x ∧ j = .int .i64 y ∧ x ≤ d.size ∧ y < d.size ∧ dk.size = d.size ∧ SW w b dk wr ∧ reverseLoop x y dk = T) (fun i _ _ => d.size - (intOf i).toNat)
  case atStart => exact ⟨a, j0, d, rfl, by go_num, by omega, by omega, rfl, h0.out.1, h0.out.2⟩
  case round =>
    obtain ⟨x, y, dk, rfl, rfl, hx, hy, hsz, hS, hR⟩ := hrel
    replace hS := Lib.hid hS
    replace hR := Lib.hid hR
    by_cases hlt : x < y
    · have hRn := Lib.hid ((rev_go hlt).symm.trans hR.out)
      obtain ⟨c1, f1⟩ := hS.out.row.cs x (by omega)
      obtain ⟨c2, f2⟩ := hS.out.row.cs y (by omega)
      have hSn := Lib.hid ((hS.out.swap (i := x) (j := y) (by omega) (by omega)).drew)
      replace hsz := Lib.hid hsz
      obtain ⟨u, hu⟩ : ∃ u, u = dk[x]! := ⟨_, rfl⟩
      obtain ⟨v, hv⟩ : ∃ v, v = dk[y]! := ⟨_, rfl⟩
      rw [← hu] at c1 hSn
      rw [← hv] at c2 hSn
      clear hu hv
      have hne : ¬ x = y := by omega
      go_wp2_with fail
      go_region
      go_wp2_with fail
      go_roundw
      case rel => exact ⟨x + 1, y - 1, swp dk x y, by go_num, by go_num, by omega, by omega, by rw [size_swp]; exact hsz.out, hSn.out, hRn.out⟩
      case measure => first | (simp [intOf]; done) | (simp [intOf]; omega)
    · have hE := (rev_end hlt).symm.trans hR.out
      subst hE
      go_wp2_with fail
      rw [hD.out]
      exact bodyPost_ret (results_none rfl _ _ _) rfl ⟨rfl, hS.out⟩

/-- A counter of one's own. -/
def Ctr (W : World) (q : Nat) : Prop := ∃ s : Int, W.cell? ⟨q, 0, none⟩ = some (.int .i64 s) ∧ W.frozen? ⟨q, 0, none⟩ = false
theorem Ctr.set (h : Ctr W q) (s : Int) : Ctr (W.setCell ⟨q, 0, none⟩ (.int .i64 s)) q := by
  obtain ⟨x, h1, h2⟩ := h
  exact ⟨s, World.cell?_setCell_same' _ _ _ (by rw [h1]; rfl), (World.frozen?_setCell _ _ _ _).trans h2⟩
/-- What is asked while a pivot is chosen: a row, and a counter beside it. -/
structure Piv (w : World) (b q : Nat) (d : Array Int) (W : World) : Prop where
  row : RowU W b d
  ctr : Ctr W q
  off : Off w.heap.size q w W
  ne : b ≠ q
theorem Piv.step {W2 : World} (h : Piv w b q d W) (k : Piv W b q d W2) : Piv w b q d W2 := ⟨k.row, k.ctr, h.off.step k.off, h.ne⟩
theorem Piv.start (h : RowU W b d) (c : Ctr W q) (hn : b ≠ q) : Piv W b q d W := ⟨h, c, Off.refl _ _ _, hn⟩
theorem Piv.again (h : Piv w b q d W) : Piv W b q d W := Piv.start h.row h.ctr h.ne
set_option maxHeartbeats 1000000 in
theorem order2_any (H : Piv w b q d w) (cap x y : Nat) (hx : x < d.size) (hy : y < d.size) : Calls Tryd.prog 108 #[.slice (some ⟨b, 0, none⟩) d.size cap, .int .i64 x, .int .i64 y, .pointer (some ⟨q, 0, none⟩)] w fun e W => ∃ u v : Nat, e = .returned (.tuple #[.int .i64 u, .int .i64 v]) ∧ ((u = x ∧ v = y) ∨ (u = y ∧ v = x)) ∧ Piv w b q d W := by
  have hL := Lib.hid less_any
  obtain ⟨c1, f1⟩ := H.row.cs x hx
  obtain ⟨c2, f2⟩ := H.row.cs y hy
  obtain ⟨s, c3, f3⟩ := H.ctr
  have hH := Lib.hid H
  clear H
  obtain ⟨v1, hv1⟩ : ∃ v1, v1 = d[x]! := ⟨_, rfl⟩
  obtain ⟨v2, hv2⟩ : ∃ v2, v2 = d[y]! := ⟨_, rfl⟩
  rw [← hv1] at c1
  rw [← hv2] at c2
  clear hv1 hv2
  go_enter Tryd.func108, Tryd.ntmps108
  go_wp2_with fail
  go_quiet ((go_at_call 97; exact Calls.quiet_of_same (hL.out _ _ _)))
  have hP := Lib.hid (show Piv w b q d (w.drewN nq) from ⟨hH.out.row.drewN nq, ⟨s, c3, f3⟩, (Off.refl _ _ _).drewN nq, hH.out.ne⟩)
  cases ltInt v2 v1
  · go_wp2_with fail
    go_ret2
    exact ⟨x, y, rfl, .inl ⟨rfl, rfl⟩, hP.out⟩
  · have hQ := Lib.hid (fun z : Int => (show Piv w b q d ((w.drewN nq).setCell ⟨q, 0, none⟩ (.int .i64 z)) from
      ⟨hP.out.row.off ((Off.refl (w.drewN nq).heap.size q (w.drewN nq)).setCell (p := ⟨q, 0, none⟩) (.inr rfl) _) hH.out.ne, hP.out.ctr.set z, hP.out.off.setCell (p := ⟨q, 0, none⟩) (.inr rfl) _, hH.out.ne⟩))
    go_wp2_with fail
    go_ret2
    exact ⟨y, x, rfl, .inr ⟨rfl, rfl⟩, hQ.out _⟩
theorem median_any (H : Piv w b q d w) (cap x y z : Nat) (hx : x < d.size) (hy : y < d.size) (hz : z < d.size) : Calls Tryd.prog 106 #[.slice (some ⟨b, 0, none⟩) d.size cap, .int .i64 x, .int .i64 y, .int .i64 z, .pointer (some ⟨q, 0, none⟩)] w fun e W => ∃ u : Nat, e = .returned (.int .i64 u) ∧ (u = x ∨ u = y ∨ u = z) ∧ Piv w b q d W := by
  have hO := Lib.hid (fun (W : World) (h : Piv W b q d W) (x y : Nat) (hx : x < d.size) (hy : y < d.size) => order2_any h cap x y hx hy)
  have hH := Lib.hid H
  clear H
  go_enter Tryd.func106, Tryd.ntmps106
  go_wp2_with fail
  refine (hO.out _ hH.out x y hx hy).mono ?_
  rintro e w1 ⟨x1, y1, rfl, h1, p1⟩
  replace h1 := Lib.hid h1
  have hP1 := Lib.hid p1
  clear p1
  go_wp2_with fail
  refine (hO.out _ hP1.out.again y1 z (by have := h1.out; omega) hz).mono ?_
  rintro e w2 ⟨y2, z2, rfl, h2, p2⟩
  replace h2 := Lib.hid h2
  have hP2 := Lib.hid (hP1.out.step p2)
  clear p2
  go_wp2_with fail
  refine (hO.out _ hP2.out.again x1 y2 (by have := h1.out; omega) (by have := h1.out; have := h2.out; omega)).mono ?_
  rintro e w3 ⟨x3, y3, rfl, h3, p3⟩
  replace h3 := Lib.hid h3
  have hP3 := Lib.hid (hP2.out.step p3)
  clear p3
  go_wp2_with fail
  go_ret
  exact ⟨y3, rfl, by have := h1.out; have := h2.out; have := h3.out; omega, hP3.out⟩
theorem adjacent_any (H : Piv w b q d w) (cap x : Nat) (hx0 : 1 ≤ x) (hx : x + 1 < d.size) (hs : d.size < 1152921504606846976) : Calls Tryd.prog 105 #[.slice (some ⟨b, 0, none⟩) d.size cap, .int .i64 x, .pointer (some ⟨q, 0, none⟩)] w fun e W => ∃ u : Nat, e = .returned (.int .i64 u) ∧ x ≤ u + 1 ∧ u ≤ x + 1 ∧ Piv w b q d W := by
  obtain ⟨y, rfl⟩ : ∃ y, x = y + 1 := ⟨x - 1, by omega⟩
  have hM := Lib.hid (median_any H cap y (y + 1) (y + 2) (by omega) (by omega) (by omega))
  have e2 : ((y + 1 + 1 : Nat) : Int) = ((y + 2 : Nat) : Int) := by omega
  go_enter Tryd.func105, Tryd.ntmps105
  go_wp2_with fail
  refine (hM.out).mono ?_
  rintro e w1 ⟨u, rfl, h, p⟩
  replace h := Lib.hid h
  have hP := Lib.hid p
  clear p
  go_wp2_with fail
  go_ret
  exact ⟨u, rfl, by have := h.out; omega, by have := h.out; omega, hP.out⟩
def PivPost (w : World) (a t : Nat) (e : Ending) (W : World) : Prop := ∃ (p : Nat) (h : Int), e = .returned (.tuple #[.int .i64 p, .int .i64 h]) ∧ a ≤ p ∧ p < t ∧ Below w.heap.size w W
set_option maxHeartbeats 2000000 in
theorem pivot_any (H : RowU w b d) (cap a L t : Nat) (hL : 8 ≤ L) (hat : a + L = t) (ht : t ≤ d.size) (hs : d.size < 288230376151711744) : Calls Tryd.prog 94 #[.slice (some ⟨b, 0, none⟩) d.size cap, .int .i64 a, .int .i64 t] w (PivPost w a t) := by
  have hb := H.lb
  have hK := Lib.hid (show Piv (w.alloc (.cells #[.int .i64 0] 3)) b w.heap.size d (w.alloc (.cells #[.int .i64 0] 3)) from
    Piv.start (H.grow ((Below.refl _ _).alloc (Nat.le_refl _) _)) ⟨0, by simp, by simp⟩ (by omega))
  have hbel := Lib.hid (show Below w.heap.size w (w.alloc (.cells #[.int .i64 0] 3)) from (Below.refl _ _).alloc (Nat.le_refl _) _)
  have hM := Lib.hid (fun (W : World) (h : Piv W b w.heap.size d W) (x y z : Nat) (hx : x < d.size) (hy : y < d.size) (hz : z < d.size) => median_any h cap x y z hx hy hz)
  have hA := Lib.hid (fun (W : World) (h : Piv W b w.heap.size d W) (x : Nat) (hx0 : 1 ≤ x) (hx : x + 1 < d.size) => adjacent_any h cap x hx0 hx (by omega))
  have e1 : (t : Int) - a = L := by omega
  obtain ⟨Q, hQ⟩ : ∃ Q, Q = L / 4 := ⟨_, rfl⟩
  have e4 : (L : Int).tdiv 4 = Q := by rw [Int.tdiv_eq_ediv_of_nonneg (by omega)]; omega
  have hQ1 : 2 ≤ Q := by omega
  obtain ⟨i0, hi0⟩ : ∃ i0, i0 = a + Q := ⟨_, rfl⟩
  obtain ⟨j0, hj0⟩ : ∃ j0, j0 = a + Q * 2 := ⟨_, rfl⟩
  obtain ⟨k0, hk0⟩ : ∃ k0, k0 = a + Q * 3 := ⟨_, rfl⟩
  have ei : (a : Int) + Q = i0 := by omega
  have ej : (a : Int) + Q * 2 = j0 := by omega
  have ek : (a : Int) + Q * 3 = k0 := by omega
  have hQ2 := Lib.hid (show a ≤ i0 ∧ i0 < t ∧ a ≤ j0 ∧ j0 < t ∧ a ≤ k0 ∧ k0 < t ∧ t ≤ d.size by omega)
  have hQ3 := Lib.hid (show 50 ≤ L → a + 12 ≤ i0 ∧ a + 12 ≤ j0 ∧ a + 12 ≤ k0 ∧ i0 + 1 < t ∧ j0 + 1 < t ∧ k0 + 1 < t by omega)
  have hib : i0 < 288230376151711744 := by omega
  have hjb : j0 < 288230376151711744 := by omega
  have hkb : k0 < 288230376151711744 := by omega
  clear hi0 hj0 hk0
  have hLb : L < 288230376151711744 := by omega
  have htb : t < 288230376151711744 := by omega
  have hab : a < 288230376151711744 := by omega
  have hQb : Q < 288230376151711744 := by omega
  clear H hat ht hQ hb
  obtain ⟨D, hD⟩ : ∃ D, D = PivPost w a t := ⟨_, rfl⟩
  rw [← hD]
  replace hD := Lib.hid hD
  by_cases h50 : 50 ≤ L
  · have h50' := Lib.hid (hQ3.out h50)
    go_enter Tryd.func94, Tryd.ntmps94
    go_wp2_with fail
    refine (hA.out _ hK.out i0 (by have := h50'.out; omega) (by have := h50'.out; have := hQ2.out; omega)).mono ?_
    rintro e w1 ⟨i, rfl, hi1, hi2, p1⟩
    have hP1 := Lib.hid p1
    clear p1
    go_wp2_with fail
    refine (hA.out _ hP1.out.again j0 (by have := h50'.out; omega) (by have := h50'.out; have := hQ2.out; omega)).mono ?_
    rintro e w2 ⟨j, rfl, hj1, hj2, p2⟩
    have hP2 := Lib.hid (hP1.out.step p2)
    clear p2
    go_wp2_with fail
    refine (hA.out _ hP2.out.again k0 (by have := h50'.out; omega) (by have := h50'.out; have := hQ2.out; omega)).mono ?_
    rintro e w3 ⟨k, rfl, hk1, hk2, p3⟩
    have hP3 := Lib.hid (hP2.out.step p3)
    clear p3
    go_wp2_with fail
    refine (hM.out _ hP3.out.again i j k (by have := h50'.out; have := hQ2.out; omega) (by have := h50'.out; have := hQ2.out; omega) (by have := h50'.out; have := hQ2.out; omega)).mono ?_
    rintro e w4 ⟨m, rfl, hm, p4⟩
    have hP4 := Lib.hid (hP3.out.step p4)
    have hm2 := Lib.hid (show a ≤ m ∧ m < t by have := h50'.out; have := hQ2.out; omega)
    clear p4 hm
    obtain ⟨s, c0, f0⟩ := hP4.out.ctr
    have hB := Lib.hid (show Below w.heap.size w w4 from hbel.out.trans (hP4.out.off.below (by simp) (Nat.le_refl _)))
    by_cases h0 : s = 0
    · subst h0
      go_wp2_with fail
      rw [hD.out]
      exact ⟨m, _, rfl, hm2.out.1, hm2.out.2, hB.out⟩
    · have h0' : (s == 0) = false := by simpa using h0
      by_cases h12 : s = 12
      · subst h12
        go_wp2_with fail
        rw [hD.out]
        exact ⟨m, _, rfl, hm2.out.1, hm2.out.2, hB.out⟩
      · have h12' : (s == 12) = false := by simpa using h12
        go_wp2_with fail
        rw [hD.out]
        exact ⟨m, _, rfl, hm2.out.1, hm2.out.2, hB.out⟩
  · go_enter Tryd.func94, Tryd.ntmps94
    go_wp2_with fail
    refine (hM.out _ hK.out i0 j0 k0 (by have := hQ2.out; omega) (by have := hQ2.out; omega) (by have := hQ2.out; omega)).mono ?_
    rintro e w4 ⟨m, rfl, hm, p4⟩
    have hP4 := Lib.hid p4
    have hm2 := Lib.hid (show a ≤ m ∧ m < t by have := hQ2.out; omega)
    clear p4 hm
    obtain ⟨s, c0, f0⟩ := hP4.out.ctr
    have hB := Lib.hid (show Below w.heap.size w w4 from hbel.out.trans (hP4.out.off.below (by simp) (Nat.le_refl _)))
    by_cases h0 : s = 0
    · subst h0
      go_wp2_with fail
      rw [hD.out]
      exact ⟨m, _, rfl, hm2.out.1, hm2.out.2, hB.out⟩
    · have h0' : (s == 0) = false := by simpa using h0
      by_cases h12 : s = 12
      · subst h12
        go_wp2_with fail
        rw [hD.out]
        exact ⟨m, _, rfl, hm2.out.1, hm2.out.2, hB.out⟩
      · have h12' : (s == 12) = false := by simpa using h12
        go_wp2_with fail
        rw [hD.out]
        exact ⟨m, _, rfl, hm2.out.1, hm2.out.2, hB.out⟩
end
end Go.Proofs.YticfpnhfhhagpaaDoor
namespace Go.Proofs.YticfpnhfhhagpaaDoor
set_option maxRecDepth 100000
open Go.Shelf
set_option linter.unusedVariables false

def len_ren : Go.Shelf.Ren := ⟨fun | 125 => 90 | 128 => 100 | 129 => 101 | n => n, fun | 3 => 3 | 4 => 4 | 5 => 5 | 9 => 9 | 46 => 130 | 51 => 24 | 53 => 38 | n => n, fun | n => n⟩
theorem len_lays : Go.Proofs.Lays.n125 Tryd.prog len_ren := {
  mixed := by kernel_rfl
  f125 := Tryd.func90.trans (congrArg some (by kernel_rfl))
  f128 := Tryd.func100.trans (congrArg some (by kernel_rfl))
  f129 := Tryd.func101.trans (congrArg some (by kernel_rfl))
  t3 := Tryd.underlying3
  a3 := Tryd.isAgg3
  z3 := Tryd.sizeOf3
  v3 := Tryd.zeroValue3
  t4 := Tryd.underlying4
  a4 := Tryd.isAgg4
  z4 := Tryd.sizeOf4
  v4 := Tryd.zeroValue4
  t5 := Tryd.underlying5
  a5 := Tryd.isAgg5
  z5 := Tryd.sizeOf5
  v5 := Tryd.zeroValue5
  t9 := Tryd.underlying9
  a9 := Tryd.isAgg9
  z9 := Tryd.sizeOf9
  v9 := Tryd.zeroValue9
  t46 := Tryd.underlying130
  a46 := Tryd.isAgg130
  z46 := Tryd.sizeOf130
  v46 := Tryd.zeroValue130
  t51 := Tryd.underlying24
  a51 := Tryd.isAgg24
  z51 := Tryd.sizeOf24
  v51 := Tryd.zeroValue24
  t53 := Tryd.underlying38
  a53 := Tryd.isAgg38
  z53 := Tryd.sizeOf38
  v53 := Tryd.zeroValue38 }
theorem len_two : ∀ n : Nat, n < 18446744073709551616 → n < 2 ^ Lib.bitLen n ∧ (0 < n → 2 ^ Lib.bitLen n ≤ 2 * n) := fun n => by
  induction n using Nat.strongRecOn with
  | _ n ih =>
    intro hn
    by_cases h0 : n = 0
    · subst h0; exact ⟨by decide, fun h => absurd h (by decide)⟩
    · by_cases h1 : n = 1
      · subst h1; exact ⟨by decide, fun _ => by decide⟩
      · have h := ih (n / 2) (by omega) (by omega)
        rw [Lib.bitLen_half n h0 (by omega), Nat.add_comm 1, Nat.pow_succ]
        generalize 2 ^ Lib.bitLen (n / 2) = p at *
        have := h.2 (by omega)
        constructor <;> omega
theorem blen_any (n : Nat) (w : World) (hn : n < 1152921504606846976) : Calls Tryd.prog 90 #[.int .u64 n] w fun e w' => e = .returned (.int .i64 (Lib.bitLen n : Nat)) ∧ w' = w := by
  have h := Any.bits_Len len_lays (n : Int) w (by omega) (by omega)
  rw [Int.toNat_natCast] at h
  exact h
end Go.Proofs.YticfpnhfhhagpaaDoor
