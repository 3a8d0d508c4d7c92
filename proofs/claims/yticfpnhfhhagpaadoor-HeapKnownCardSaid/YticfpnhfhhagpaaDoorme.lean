/- Contracts of the library's sort at numbers of 32 bits: what is nearly sorted. No statement is proved here.; Contracts of the library's sort at numbers of 32 bits: the sort whole. No statement is proved here. -/
import Derived.Test.YticfpnhfhhagpaaDoormb
import Derived.Test.YticfpnhfhhagpaaDoormc
import Derived.Test.YticfpnhfhhagpaaDoormd
namespace Go.Proofs.YticfpnhfhhagpaaDoor
set_option maxRecDepth 100000
open Go.RowKit
open Go.Sort (ltInt swp swp_permIn permIn_refl permIn_trans permIn_mono size_swp swp_left swp_right swp_other swo_ltInt PermIn SortedIn scanSorted shiftDown shiftUp partialIns partialInsertionSort fixDown fixUp partialIns_succ)
set_option linter.unusedVariables false

section
variable {w : World} {b : Nat} {d : Array Int}
theorem ss_go {t i : Nat} {d : Array Int} (h : i < t) (hp : ltInt d[i]! d[i - 1]! = false) : scanSorted ltInt d t i = scanSorted ltInt d t (i + 1) := by rw [scanSorted.eq_def, if_pos (by simp [h, hp])]
theorem ss_stop {t i : Nat} {d : Array Int} (h : ¬ i < t ∨ ltInt d[i]! d[i - 1]! = true) : scanSorted ltInt d t i = i := by rw [scanSorted.eq_def, if_neg (by rcases h with h | h <;> simp [h])]
theorem ss_le {t : Nat} {d : Array Int} : ∀ n i : Nat, t - i ≤ n → i ≤ t → i ≤ scanSorted ltInt d t i ∧ scanSorted ltInt d t i ≤ t
  | 0, i, h, h2 => by rw [ss_stop (.inl (by omega))]; exact ⟨Nat.le_refl _, h2⟩
  | n + 1, i, h, h2 => by
    by_cases hl : i < t
    · cases hp : ltInt d[i]! d[i - 1]!
      · rw [ss_go hl hp]; have := ss_le (t := t) (d := d) n (i + 1) (by omega) (by omega); omega
      · rw [ss_stop (.inr hp)]; omega
    · rw [ss_stop (.inl hl)]; omega
theorem sdn_stop {j : Nat} {d : Array Int} (h : ltInt d[j + 1]! d[j]! = false) : shiftDown ltInt (j + 1) d = d := by
  rw [shiftDown.eq_def]; exact if_pos (by simp [h])
theorem sdn_go {j : Nat} {d : Array Int} (h : ltInt d[j + 1]! d[j]! = true) : shiftDown ltInt (j + 1) d = shiftDown ltInt j (swp d (j + 1) j) := by
  rw [shiftDown.eq_def]; exact if_neg (by simp [h])
theorem sup_end {t j : Nat} {d : Array Int} (h : ¬ j < t) : shiftUp ltInt t j d = d := by rw [shiftUp.eq_def, if_neg h]
theorem sup_stop {t j : Nat} {d : Array Int} (h : j < t) (hl : ltInt d[j]! d[j - 1]! = false) : shiftUp ltInt t j d = d := by rw [shiftUp.eq_def, if_pos h, if_pos (by simp [hl])]
theorem sup_go {t j : Nat} {d : Array Int} (h : j < t) (hl : ltInt d[j]! d[j - 1]! = true) : shiftUp ltInt t j d = shiftUp ltInt t (j + 1) (swp d j (j - 1)) := by rw [shiftUp.eq_def, if_pos h, if_neg (by simp [hl])]
theorem sdn_size : ∀ (j : Nat) (d : Array Int), (shiftDown ltInt j d).size = d.size
  | 0, d => rfl
  | j + 1, d => by
    cases h : ltInt d[j + 1]! d[j]!
    · rw [sdn_stop h]
    · rw [sdn_go h, sdn_size j, size_swp]
theorem sup_size (t : Nat) : ∀ (n j : Nat) (d : Array Int), t - j ≤ n → (shiftUp ltInt t j d).size = d.size
  | 0, j, d, h => by rw [sup_end (by omega)]
  | n + 1, j, d, h => by
    by_cases hj : j < t
    · cases hl : ltInt d[j]! d[j - 1]!
      · rw [sup_stop hj hl]
      · rw [sup_go hj hl, sup_size t n _ _ (by omega), size_swp]
    · rw [sup_end hj]
def ParPost (w : World) (b : Nat) (T1 : Array Int) (T2 : Bool) (e : Ending) (W : World) : Prop := e = .returned (.bool T2) ∧ SW w b T1 W
set_option maxHeartbeats 4000000 in
theorem partial_any (H : RowU w b d) (cap a t : Nat) (hat : a < t) (ht : t ≤ d.size) (hs : d.size < 288230376151711744) : Calls Tryd.prog 96 #[.slice (some ⟨b, 0, none⟩) d.size cap, .int .i64 a, .int .i64 t] w
    (ParPost w b (partialInsertionSort ltInt d a t).1 (partialInsertionSort ltInt d a t).2) := by
  obtain ⟨⟨T1, T2⟩, hT⟩ : ∃ T, partialInsertionSort ltInt d a t = T := ⟨_, rfl⟩
  rw [hT]
  show Calls Tryd.prog 96 _ _ (ParPost w b T1 T2)
  obtain ⟨D, hD⟩ : ∃ D, D = ParPost w b T1 T2 := ⟨_, rfl⟩
  rw [← hD]
  replace hD := Lib.hid hD
  have hL := Lib.hid less_any
  replace hT := Lib.hid (show partialIns ltInt a t 5 (a + 1) d = (T1, T2) from hT)
  have hS := Lib.hid (SW.refl H)
  clear H
  obtain ⟨L, hLL⟩ : ∃ L, a + L = t := ⟨t - a, by omega⟩
  have e1 : (t : Int) - a = L := by omega
  have hLb : L < 288230376151711744 := by omega
  have htb : t < 288230376151711744 := by omega
  have hab : a < 288230376151711744 := by omega
  replace hLL := Lib.hid hLL
  go_enter Tryd.func96, Tryd.ntmps96
  go_wp2_with fail
  go_loopw [7, 8, 9, 10] (fun v7 v8 _ _ wr => ∃ (i c : Nat) (dk : Array Int), v7 = .int .i64 i ∧ v8 = .int .i64 c ∧ c ≤ 5 ∧ a + 1 ≤ i ∧ i ≤ t ∧ dk.size = d.size ∧ SW w b dk wr ∧ partialIns ltInt a t (5 - c) i dk = (T1, T2)) (fun _ v8 _ _ _ => 5 - (intOf v8).toNat)
  case atStart => exact ⟨a + 1, 0, d, by go_num, rfl, by omega, by omega, by omega, rfl, hS.out, hT.out⟩
  case round =>
    clear hS hT
    obtain ⟨i, c, dk, rfl, rfl, hc, h1, h2, hsz, hS, hT⟩ := hrel
    replace hS := Lib.hid hS
    by_cases hc5 : c = 5
    · subst hc5
      have hT1 := congrArg Prod.fst hT
      have hT2 := congrArg Prod.snd hT
      replace hT1 : dk = T1 := hT1
      replace hT2 : false = T2 := hT2
      subst hT1
      subst hT2
      go_wp2_with fail
      rw [hD.out]
      exact ⟨rfl, hS.out⟩
    · obtain ⟨s, hs5⟩ : ∃ s, 5 - c = s + 1 := ⟨4 - c, by omega⟩
      rw [hs5, partialIns_succ] at hT
      obtain ⟨I2, hI2⟩ : ∃ I2, scanSorted ltInt dk t i = I2 := ⟨_, rfl⟩
      have hle := ss_le (t := t) (d := dk) _ i (Nat.le_refl _) h2
      rw [hI2] at hT hle
      obtain ⟨k1, k2⟩ := hle
      replace hT := Lib.hid hT
      replace hI2 := Lib.hid hI2
      replace hs5 := Lib.hid hs5
      have hc4 : (c : Int) < 5 := by omega
      clear hc5
      go_upto_block 2 with (fail)
      go_cut [7] (fun v w' => v = .int .i64 I2 ∧ SW w b dk w')
      case first =>
        go_wp2_with fail
        go_loopw [7] (fun v wr => ∃ x : Nat, v = .int .i64 x ∧ a + 1 ≤ x ∧ x ≤ t ∧ scanSorted ltInt dk t x = I2 ∧ SW w b dk wr) (fun v _ => t - (intOf v).toNat)
        case atStart => exact ⟨i, rfl, h1, h2, hI2.out, hS.out⟩
        case round =>
          obtain ⟨x, rfl, x1, x2, hR, hSx⟩ := hrel
          replace hR := Lib.hid hR
          by_cases hxy : x < t
          · obtain ⟨y, rfl⟩ : ∃ y, x = y + 1 := ⟨x - 1, by omega⟩
            obtain ⟨c0, _⟩ := hSx.row.cs y (by omega)
            obtain ⟨c1, _⟩ := hSx.row.cs (y + 1) (by omega)
            obtain ⟨u, hu⟩ : ∃ u, u = dk[y]! := ⟨_, rfl⟩
            obtain ⟨v, hv⟩ : ∃ v, v = dk[y + 1]! := ⟨_, rfl⟩
            rw [← hu] at c0
            rw [← hv] at c1
            have hl' := Lib.hid (show ltInt dk[y + 1]! dk[y + 1 - 1]! = ltInt v u by rw [Nat.add_sub_cancel, hu, hv])
            have hSy := Lib.hid hSx
            clear hSx hu hv
            have hxi : (y : Int) + 1 < t := by omega
            go_wp2_with fail
            go_quiet ((go_at_call 97; exact Calls.quiet_of_same (hL.out _ _ _)))
            cases hl : ltInt v u
            · rw [hl] at hl'
              have hRn := Lib.hid ((ss_go hxy hl'.out).symm.trans hR.out)
              clear c0 c1
              go_wp2_with fail
              go_roundw
              case rel => exact ⟨y + 1 + 1, by go_num, by omega, by omega, hRn.out, hSy.out.drewN nq⟩
              case measure => first | (simp [intOf]; done) | (simp [intOf]; omega)
            · rw [hl] at hl'
              have hRn := Lib.hid ((ss_stop (.inr hl'.out)).symm.trans hR.out)
              have hE := hRn.out
              subst hE
              clear c0 c1
              go_wp2_with fail
              go_meet
              exact ⟨by go_num, hSy.out.drewN nq⟩
          · have hg : decide ((x : Int) < t) = false := by rw [decide_eq_false_iff_not]; omega
            have hRn := Lib.hid ((ss_stop (.inl hxy)).symm.trans hR.out)
            replace hSx := Lib.hid hSx
            have hE := hRn.out
            subst hE
            go_wp2_with fail
            go_quiet (fail)
            go_wp2_with fail
            go_meet
            exact ⟨rfl, hSx.out.drewN nq⟩
      case rest =>
        clear hS
        obtain ⟨rfl, hS⟩ := hcut
        replace hS := Lib.hid hS
        by_cases hIt : I2 = t
        · have hT' := hT.out
          rw [if_pos hIt] at hT'
          have hT1 := congrArg Prod.fst hT'
          have hT2 := congrArg Prod.snd hT'
          replace hT1 : dk = T1 := hT1
          replace hT2 : true = T2 := hT2
          subst hT1
          subst hT2
          clear hT'
          have hg : ((I2 : Int) == t) = true := by rw [hIt]; simp
          replace hIt := Lib.hid hIt
          go_wp2_with fail
          rw [hD.out]
          exact ⟨rfl, hS.out⟩
        · have hg : ((I2 : Int) == t) = false := by simp; omega
          have hT' := hT.out
          rw [if_neg hIt] at hT'
          by_cases h50 : t - a < 50
          · rw [if_pos h50] at hT'
            have hT1 := congrArg Prod.fst hT'
            have hT2 := congrArg Prod.snd hT'
            replace hT1 : dk = T1 := hT1
            replace hT2 : false = T2 := hT2
            subst hT1
            subst hT2
            clear hT'
            have hg2 : (L : Int) < 50 := by have := hLL.out; omega
            go_wp2_with fail
            rw [hD.out]
            exact ⟨rfl, hS.out⟩
          · rw [if_neg h50] at hT'
            replace hT' := Lib.hid hT'
            have hg2 : ¬ (L : Int) < 50 := by have := hLL.out; omega
            obtain ⟨I, rfl⟩ : ∃ I, I2 = I + 1 := ⟨I2 - 1, by omega⟩
            rw [Nat.add_sub_cancel] at hT'
            have hIb : (I : Int) + 1 < t := by omega
            have hle2 := Lib.hid (And.intro k1 k2)
            obtain ⟨c1, f1⟩ := hS.out.row.cs (I + 1) (by omega)
            obtain ⟨c2, f2⟩ := hS.out.row.cs I (by omega)
            have hSn := Lib.hid ((hS.out.swap (i := I + 1) (j := I) (by omega) (by omega)).drew)
            obtain ⟨u, hu⟩ : ∃ u, u = dk[I + 1]! := ⟨_, rfl⟩
            obtain ⟨v, hv⟩ : ∃ v, v = dk[I]! := ⟨_, rfl⟩
            rw [← hu] at c1 hSn
            rw [← hv] at c2 hSn
            clear hu hv
            have hsz2 : (swp dk (I + 1) I).size = d.size := by rw [size_swp]; exact hsz
            clear hsz
            have hta : t - a ≥ 50 := by omega
            clear h50
            obtain ⟨d2, hd2⟩ : ∃ d2, d2 = swp dk (I + 1) I := ⟨_, rfl⟩
            rw [← hd2] at hT' hSn hsz2
            obtain ⟨d3, hd3⟩ : ∃ d3, d3 = fixDown ltInt a (I + 1) d2 := ⟨_, rfl⟩
            have hsz3 : d3.size = d.size := by
              rw [hd3]; unfold fixDown; split
              · rw [sdn_size]; exact hsz2
              · exact hsz2
            rw [← hd3] at hT'
            replace hd3 := Lib.hid hd3
            replace hsz2 := Lib.hid hsz2
            replace hsz3 := Lib.hid hsz3
            clear hd2
            go_wp2_with fail
            go_region
            generalize World.drew _ = wa at hSn ⊢
            clear c1 c2 f1 f2
            go_upto_if 61 with (fail)
            go_cut [0] (fun v w' => v = .slice (some ⟨b, 0, none⟩) d.size cap ∧ SW w b d3 w')
            case first =>
              by_cases hI2a : 2 ≤ I + 1 - a
              · have hg3 : 2 ≤ (I : Int) + 1 - a := by omega
                have h3 := hd3.out
                unfold fixDown at h3
                rw [if_pos (by omega), Nat.add_sub_cancel] at h3
                replace h3 := Lib.hid h3.symm
                go_wp2_with fail
                go_loopw [9] (fun v wr => ∃ (y : Nat) (dm : Array Int), v = .int .i64 y ∧ y ≤ I ∧ dm.size = d.size ∧ SW w b dm wr ∧ shiftDown ltInt y dm = d3) (fun v _ => (intOf v).toNat)
                case atStart => exact ⟨I, d2, by go_num, by omega, hsz2.out, hSn.out, h3.out⟩
                case round =>
                  obtain ⟨y, dm, rfl, hy, hsm, hSm, hR⟩ := hrel
                  rcases y with _ | y
                  · have hE := hR
                    replace hE : dm = d3 := hE
                    subst hE
                    replace hSm := Lib.hid hSm
                    rw [show ((0 : Nat) : Int) = 0 from rfl]
                    go_wp2_with fail
                    go_meet
                    exact ⟨rfl, hSm.out⟩
                  · obtain ⟨c1, f1⟩ := hSm.row.cs (y + 1) (by omega)
                    obtain ⟨c2, f2⟩ := hSm.row.cs y (by omega)
                    have hSs := Lib.hid (fun n : Nat => ((hSm.drewN n).swap (i := y + 1) (j := y) (by omega) (by omega)).drew)
                    obtain ⟨u, hu⟩ : ∃ u, u = dm[y + 1]! := ⟨_, rfl⟩
                    obtain ⟨v, hv⟩ : ∃ v, v = dm[y]! := ⟨_, rfl⟩
                    rw [← hu] at c1 hSs
                    rw [← hv] at c2 hSs
                    have hl' := Lib.hid (show ltInt dm[y + 1]! dm[y]! = ltInt u v by rw [hu, hv])
                    replace hSm := Lib.hid hSm
                    replace hR := Lib.hid hR
                    clear hu hv
                    go_wp2_with fail
                    go_quiet ((go_at_call 97; exact Calls.quiet_of_same (hL.out _ _ _)))
                    cases hl : ltInt u v
                    · rw [hl] at hl'
                      have hE := (sdn_stop hl'.out).symm.trans hR.out
                      subst hE
                      clear c1 c2 f1 f2
                      go_wp2_with fail
                      go_meet
                      exact ⟨rfl, hSm.out.drewN nq⟩
                    · rw [hl] at hl'
                      have hRn := Lib.hid ((sdn_go hl'.out).symm.trans hR.out)
                      have hSn2 := Lib.hid (hSs.out nq)
                      have c1' : (wr.drewN nq).cell? ⟨b, y + 1, none⟩ = some (.int .u32 u) := c1
                      have c2' : (wr.drewN nq).cell? ⟨b, y, none⟩ = some (.int .u32 v) := c2
                      have f1' : (wr.drewN nq).frozen? ⟨b, y + 1, none⟩ = false := f1
                      have f2' : (wr.drewN nq).frozen? ⟨b, y, none⟩ = false := f2
                      clear c1 c2 f1 f2 hSs hSm
                      generalize wr.drewN nq = wq at *
                      go_wp2_with fail
                      go_region
                      go_wp2_with fail
                      go_roundw
                      case rel => exact ⟨y, swp dm (y + 1) y, by go_num, by omega, by rw [size_swp]; exact hsm, hSn2.out, hRn.out⟩
                      case measure => first | (simp [intOf]; done) | (simp [intOf]; omega)
              · have hg3 : ¬ 2 ≤ (I : Int) + 1 - a := by omega
                have h3 := hd3.out
                unfold fixDown at h3
                rw [if_neg (by omega)] at h3
                subst h3
                go_wp2_with fail
                go_meet
                exact ⟨rfl, hSn.out⟩
            case rest =>
              clear hSn wa
              obtain ⟨rfl, hS3⟩ := hcut
              replace hS3 := Lib.hid hS3
              obtain ⟨d4, hd4⟩ : ∃ d4, d4 = fixUp ltInt t (I + 1) d3 := ⟨_, rfl⟩
              have hsz4 : d4.size = d.size := by
                rw [hd4]; unfold fixUp; split
                · rw [sup_size _ _ _ _ (Nat.le_refl _)]; exact hsz3.out
                · exact hsz3.out
              rw [← hd4] at hT'
              replace hd4 := Lib.hid hd4
              replace hsz4 := Lib.hid hsz4
              clear hd3
              have hs' : s = 5 - (c + 1) := by have := hs5.out; omega
              rw [hs'] at hT'
              by_cases hI2t : 2 ≤ t - (I + 1)
              · have hg3 : 2 ≤ (t : Int) - ((I : Int) + 1) := by omega
                have h4 := hd4.out
                unfold fixUp at h4
                rw [if_pos (by omega)] at h4
                replace h4 := Lib.hid h4.symm
                go_wp2_with fail
                go_loopw [10] (fun v wr => ∃ (y : Nat) (dm : Array Int), v = .int .i64 y ∧ 1 ≤ y ∧ y ≤ t ∧ dm.size = d.size ∧ SW w b dm wr ∧ shiftUp ltInt t y dm = d4) (fun v _ => t - (intOf v).toNat)
                case atStart => exact ⟨I + 1 + 1, d3, by go_num, by omega, by omega, hsz3.out, hS3.out, h4.out⟩
                case round =>
                  obtain ⟨y, dm, rfl, hy0, hy, hsm, hSm, hR⟩ := hrel
                  obtain ⟨y, rfl⟩ : ∃ z, y = z + 1 := ⟨y - 1, by omega⟩
                  by_cases hyt : y + 1 < t
                  · have hyi : (y : Int) + 1 < t := by omega
                    obtain ⟨c1, f1⟩ := hSm.row.cs (y + 1) (by omega)
                    obtain ⟨c2, f2⟩ := hSm.row.cs y (by omega)
                    have hSs := Lib.hid (fun n : Nat => ((hSm.drewN n).swap (i := y + 1) (j := y) (by omega) (by omega)).drew)
                    obtain ⟨u, hu⟩ : ∃ u, u = dm[y + 1]! := ⟨_, rfl⟩
                    obtain ⟨v, hv⟩ : ∃ v, v = dm[y]! := ⟨_, rfl⟩
                    rw [← hu] at c1 hSs
                    rw [← hv] at c2 hSs
                    have hl' := Lib.hid (show ltInt dm[y + 1]! dm[y + 1 - 1]! = ltInt u v by rw [Nat.add_sub_cancel, hu, hv])
                    replace hSm := Lib.hid hSm
                    replace hR := Lib.hid hR
                    clear hu hv
                    go_wp2_with fail
                    go_quiet ((go_at_call 97; exact Calls.quiet_of_same (hL.out _ _ _)))
                    cases hl : ltInt u v
                    · rw [hl] at hl'
                      have hE := (sup_stop hyt hl'.out).symm.trans hR.out
                      subst hE
                      clear c1 c2 f1 f2
                      go_wp2_with fail
                      go_roundw
                      case rel => exact ⟨I + 1, c + 1, _, by go_num, by go_num, by omega, by omega, by omega, hsz4.out, hSm.out.drewN nq, hT'.out⟩
                      case measure => first | (simp [intOf]; done) | (simp [intOf]; omega)
                    · rw [hl] at hl'
                      have hRn := Lib.hid ((sup_go hyt hl'.out).symm.trans hR.out)
                      rw [Nat.add_sub_cancel] at hRn
                      have hSn2 := Lib.hid (hSs.out nq)
                      have c1' : (wr.drewN nq).cell? ⟨b, y + 1, none⟩ = some (.int .u32 u) := c1
                      have c2' : (wr.drewN nq).cell? ⟨b, y, none⟩ = some (.int .u32 v) := c2
                      have f1' : (wr.drewN nq).frozen? ⟨b, y + 1, none⟩ = false := f1
                      have f2' : (wr.drewN nq).frozen? ⟨b, y, none⟩ = false := f2
                      clear c1 c2 f1 f2 hSs hSm
                      generalize wr.drewN nq = wq at *
                      go_wp2_with fail
                      go_region
                      go_wp2_with fail
                      go_roundw
                      case rel => exact ⟨y + 1 + 1, swp dm (y + 1) y, by go_num, by omega, by omega, by rw [size_swp]; exact hsm, hSn2.out, hRn.out⟩
                      case measure => first | (simp [intOf]; done) | (simp [intOf]; omega)
                  · have hyi : ¬ (y : Int) + 1 < t := by omega
                    have hE := (sup_end hyt).symm.trans hR
                    subst hE
                    replace hSm := Lib.hid hSm
                    go_wp2_with fail
                    go_roundw
                    case rel => exact ⟨I + 1, c + 1, _, by go_num, by go_num, by omega, by omega, by omega, hsz4.out, hSm.out, hT'.out⟩
                    case measure => first | (simp [intOf]; done) | (simp [intOf]; omega)
              · have hg3 : ¬ 2 ≤ (t : Int) - ((I : Int) + 1) := by omega
                have h4 := hd4.out
                unfold fixUp at h4
                rw [if_neg (by omega)] at h4
                subst h4
                go_wp2_with fail
                go_roundw
                case rel => exact ⟨I + 1, c + 1, _, by go_num, by go_num, by omega, by omega, by omega, hsz4.out, hS3.out, hT'.out⟩
                case measure => first | (simp [intOf]; done) | (simp [intOf]; omega)
end
end Go.Proofs.YticfpnhfhhagpaaDoor
namespace Go.Proofs.YticfpnhfhhagpaaDoor
set_option maxRecDepth 100000
open Go.RowKit
open Go.Sort (ltInt swp permIn_refl permIn_trans permIn_mono swo_ltInt PermIn SortedIn insertionSort heapSort reverseRange partialInsertionSort partition partitionEqual partLoop partEqLoop insertionSort_holds heapSort_holds reverseRange_holds partialInsertionSort_holds partition_holds partitionEqual_holds partition_fst partition_arr round_eq round_part)
set_option linter.unusedVariables false

section
variable {w W W' : World} {b A T x y : Nat} {d dk d1 : Array Int}
/-- What holds while the sort goes on: if what is left is sorted, all is. -/
structure PI (w : World) (b A T : Nat) (d : Array Int) (x y : Nat) (dk : Array Int) (W : World) : Prop where
  sw : SW w b dk W
  ax : A ≤ x
  xy : x ≤ y
  yt : y ≤ T
  td : T ≤ d.size
  sz : dk.size = d.size
  bel : Go.Sort.Below ltInt x y dk
  fin : ∀ R, PermIn x y dk R → SortedIn ltInt x y R → PermIn A T d R ∧ SortedIn ltInt A T R
def PdqPost (w : World) (b A T : Nat) (d : Array Int) (e : Ending) (W : World) : Prop := e = .returned (.tuple #[]) ∧ ∃ R, SW w b R W ∧ PermIn A T d R ∧ SortedIn ltInt A T R
theorem PI.perm (H : PI w b A T d x y dk W) (hp : PermIn x y dk d1) (s : SW W b d1 W') : PI w b A T d x y d1 W' :=
  ⟨H.sw.step s, H.ax, H.xy, H.yt, H.td, hp.1.trans H.sz, H.bel.perm (by have := H.yt; have := H.td; have := H.sz; omega) hp, fun R hR hs => H.fin R (permIn_trans _ _ _ _ _ hp hR) hs⟩
theorem PI.below (H : PI w b A T d x y dk W) (k : Below W.heap.size W W') : PI w b A T d x y dk W' := H.perm (permIn_refl _ _ _) ((SW.refl H.sw.row).below k)
theorem PI.done {e : Ending} (H : PI w b A T d x y dk W) (hp : PermIn x y dk d1) (hs : SortedIn ltInt x y d1) (s : SW W b d1 W') (he : e = .returned (.tuple #[])) : PdqPost w b A T d e W' :=
  ⟨he, d1, H.sw.step s, H.fin d1 hp hs⟩
/-- One contract of each, at a row as long as the first one. -/
structure Callees (b n cap : Nat) : Prop where
  ins : ∀ (W : World) (dk : Array Int), RowU W b dk → dk.size = n → ∀ x y : Nat, x ≤ y → y ≤ n → Calls Tryd.prog 91 #[.slice (some ⟨b, 0, none⟩) n cap, .int .i64 x, .int .i64 y] W (Done W b (insertionSort ltInt dk x y))
  heap : ∀ (W : World) (dk : Array Int), RowU W b dk → dk.size = n → ∀ x y : Nat, x < y → y ≤ n → Calls Tryd.prog 92 #[.slice (some ⟨b, 0, none⟩) n cap, .int .i64 x, .int .i64 y] W (Done W b (heapSort ltInt dk x y))
  brk : ∀ (W : World) (dk : Array Int), RowU W b dk → dk.size = n → ∀ x y : Nat, x + 8 ≤ y → y ≤ n → Calls Tryd.prog 93 #[.slice (some ⟨b, 0, none⟩) n cap, .int .i64 x, .int .i64 y] W (BrkPost W b x y dk)
  piv : ∀ (W : World) (dk : Array Int), RowU W b dk → dk.size = n → ∀ x y : Nat, x + 8 ≤ y → y ≤ n → Calls Tryd.prog 94 #[.slice (some ⟨b, 0, none⟩) n cap, .int .i64 x, .int .i64 y] W (PivPost W x y)
  rev : ∀ (W : World) (dk : Array Int), RowU W b dk → dk.size = n → ∀ x y : Nat, x < y → y ≤ n → Calls Tryd.prog 95 #[.slice (some ⟨b, 0, none⟩) n cap, .int .i64 x, .int .i64 y] W (Done W b (reverseRange dk x y))
  par : ∀ (W : World) (dk : Array Int), RowU W b dk → dk.size = n → ∀ x y : Nat, x < y → y ≤ n → Calls Tryd.prog 96 #[.slice (some ⟨b, 0, none⟩) n cap, .int .i64 x, .int .i64 y] W (ParPost W b (partialInsertionSort ltInt dk x y).1 (partialInsertionSort ltInt dk x y).2)
  peq : ∀ (W : World) (dk : Array Int), RowU W b dk → dk.size = n → ∀ x y p : Nat, x ≤ p → p < y → x + 1 < y → y ≤ n → Calls Tryd.prog 98 #[.slice (some ⟨b, 0, none⟩) n cap, .int .i64 x, .int .i64 y, .int .i64 p] W (EqPost W b (partitionEqual ltInt dk x y p).1 (partitionEqual ltInt dk x y p).2)
  prt : ∀ (W : World) (dk : Array Int), RowU W b dk → dk.size = n → ∀ x y p : Nat, x ≤ p → p < y → x + 1 < y → y ≤ n → Calls Tryd.prog 99 #[.slice (some ⟨b, 0, none⟩) n cap, .int .i64 x, .int .i64 y, .int .i64 p] W (PartPost W b (partition ltInt dk x y p).1 (partition ltInt dk x y p).2.2)
theorem callees (b n cap : Nat) (hn : n < 288230376151711744) : Callees b n cap where
  ins := fun W dk H hk x y hxy hy => by subst hk; exact insert_any H cap x y hxy hy (by omega)
  heap := fun W dk H hk x y hxy hy => by subst hk; exact heap_any H cap x (y - x) y (by omega) (by omega) hy (by omega)
  brk := fun W dk H hk x y hxy hy => by subst hk; exact break_any H cap x (y - x) y (by omega) (by omega) hy hn
  piv := fun W dk H hk x y hxy hy => by subst hk; exact pivot_any H cap x (y - x) y (by omega) (by omega) hy hn
  rev := fun W dk H hk x y hxy hy => by subst hk; exact reverse_any H cap x y hxy hy (by omega)
  par := fun W dk H hk x y hxy hy => by subst hk; exact partial_any H cap x y hxy hy hn
  peq := fun W dk H hk x y p h1 h2 h3 hy => by subst hk; exact parteq_any H cap x y p h1 h2 h3 hy hn
  prt := fun W dk H hk x y p h1 h2 h3 hy => by subst hk; rw [partition_fst, partition_arr]; exact part_any H cap x y p h1 h2 h3 hy hn
set_option maxHeartbeats 8000000 in
theorem pdq_any (b cap N : Nat) (hN : N < 288230376151711744) : ∀ (n : Nat) (d : Array Int) (w : World), RowU w b d → d.size = N → ∀ A T lim : Nat, T - A ≤ n → A ≤ T → T ≤ N → lim < 288230376151711744 → Go.Sort.Below ltInt A T d →
    Calls Tryd.prog 89 #[.slice (some ⟨b, 0, none⟩) N cap, .int .i64 A, .int .i64 T, .int .i64 lim] w (PdqPost w b A T d) := by
  intro n
  induction n using Nat.strongRecOn with
  | _ n ih =>
    intro d w H hdN A T lim hn hAT hT hlim hB
    have hC := callees b N cap hN
    have hI := Lib.hid hC.ins
    have hH := Lib.hid hC.heap
    have hBr := Lib.hid hC.brk
    have hPv := Lib.hid hC.piv
    have hRv := Lib.hid hC.rev
    have hPr := Lib.hid hC.par
    have hPe := Lib.hid hC.peq
    have hPt := Lib.hid hC.prt
    have hL := Lib.hid less_any
    have hSelf := Lib.hid (fun (W : World) (dk : Array Int) (H : RowU W b dk) (hk : dk.size = N) (x y l : Nat) (h1 : y - x < n) (h2 : x ≤ y) (h3 : y ≤ N) (h4 : l < 288230376151711744) (h5 : Go.Sort.Below ltInt x y dk) => ih (y - x) h1 dk W H hk x y l (Nat.le_refl _) h2 h3 h4 h5)
    have h0 := Lib.hid (show PI w b A T d A T d w from ⟨SW.refl H, Nat.le_refl _, hAT, Nat.le_refl _, by omega, rfl, hB, fun R h1 h2 => ⟨h1, h2⟩⟩)
    obtain ⟨D, hD⟩ : ∃ D, D = PdqPost w b A T d := ⟨_, rfl⟩
    rw [← hD]
    replace hD := Lib.hid hD
    clear H hB hC ih
    have hTb : T < 288230376151711744 := by omega
    go_enter Tryd.func89, Tryd.ntmps89
    go_wp2_with fail
    go_loopw [1, 2, 3, 8, 9, 10, 11, 12, 13, 14, 15, 16, 17, 18] (fun v1 v2 v3 v8 v9 _ _ _ _ _ _ _ _ _ wr => ∃ (x y l : Nat) (wb wp : Bool) (dk : Array Int), v1 = .int .i64 x ∧ v2 = .int .i64 y ∧ v3 = .int .i64 l ∧ v8 = .bool wb ∧ v9 = .bool wp ∧ l < 288230376151711744 ∧ PI w b A T d x y dk wr) (fun v1 v2 _ _ _ _ _ _ _ _ _ _ _ _ _ => (intOf v2 - intOf v1).toNat)
    case atStart => exact ⟨A, T, lim, true, true, d, rfl, rfl, rfl, rfl, rfl, hlim, h0.out⟩
    case round =>
      clear h0
      obtain ⟨x, y, l, wb, wp, dk, rfl, rfl, rfl, rfl, rfl, hl, P⟩ := hrel
      have hxy := P.xy
      have hyT := P.yt
      have hAx := P.ax
      have hsz : dk.size = N := P.sz.trans hdN
      replace P := Lib.hid P
      obtain ⟨L, hL'⟩ : ∃ L, x + L = y := ⟨y - x, by omega⟩
      have e1 : (y : Int) - x = L := by omega
      have hLb : L < 288230376151711744 := by omega
      have hyb : y < 288230376151711744 := by omega
      have hxb : x < 288230376151711744 := by omega
      replace hL' := Lib.hid hL'
      by_cases h12 : L ≤ 12
      · have hg : (L : Int) ≤ 12 := by omega
        have hc := Lib.hid (hI.out _ _ P.out.sw.row hsz x y hxy (by omega))
        go_wp2_with fail
        refine hc.out.mono ?_
        rintro e w2 ⟨rfl, s⟩
        have hp := insertionSort_holds swo_ltInt dk x y hxy (by omega)
        have hF := Lib.hid (P.out.done hp.1 hp.2 s rfl)
        clear hp s
        go_wp2_with fail
        rw [hD.out]
        exact bodyPost_ret (results_none rfl _ _ _) rfl hF.out
      · have hg : ¬ (L : Int) ≤ 12 := by omega
        have hxy2 : x + 13 ≤ y := by have := hL'.out; omega
        by_cases hl0 : l = 0
        · subst hl0
          have hc := Lib.hid (hH.out _ _ P.out.sw.row hsz x y (by omega) (by omega))
          rw [show ((0 : Nat) : Int) = 0 from rfl]
          go_wp2_with fail
          refine hc.out.mono ?_
          rintro e w2 ⟨rfl, s⟩
          have hp := heapSort_holds swo_ltInt dk x y hxy (by omega)
          have hF := Lib.hid (P.out.done hp.1 hp.2 s rfl)
          clear hp s
          go_wp2_with fail
          rw [hD.out]
          exact bodyPost_ret (results_none rfl _ _ _) rfl hF.out
        · have hgl : ((l : Int) == 0) = false := by simp; omega
          go_upto_if 35 with (fail)
          go_cut [3] (fun v w' => ∃ (l' : Nat) (d1 : Array Int), v = .int .i64 l' ∧ l' < 288230376151711744 ∧ PI w b A T d x y d1 w')
          case first =>
            cases wb
            · have hc := Lib.hid (hBr.out _ _ P.out.sw.row hsz x y (by omega) (by omega))
              go_wp2_with fail
              refine hc.out.mono ?_
              rintro e w2 ⟨d1, hp, rfl, s⟩
              have hF := Lib.hid (P.out.perm hp s)
              clear hp s
              go_wp2_with fail
              go_meet
              exact ⟨l - 1, d1, by go_num, by omega, hF.out⟩
            · go_wp2_with fail
              go_meet
              exact ⟨l, dk, rfl, hl, P.out⟩
          case rest =>
            clear P hsz hgl hl0 hl
            obtain ⟨l, dk, rfl, hl, P⟩ := hcut
            have hsz : dk.size = N := P.sz.trans hdN
            replace P := Lib.hid P
            have hc := Lib.hid (hPv.out _ _ P.out.sw.row hsz x y (by omega) (by omega))
            go_wp2_with fail
            refine hc.out.mono ?_
            rintro e w2 ⟨p, h, rfl, hp1, hp2, k⟩
            have hF := Lib.hid (P.out.below k)
            clear k P hc
            go_upto_if 50 with (fail)
            go_cut [11, 12] (fun v11 v12 w' => ∃ (p : Nat) (h : Int) (d1 : Array Int), v11 = .int .i64 p ∧ v12 = .int .i64 h ∧ x ≤ p ∧ p < y ∧ PI w b A T d x y d1 w')
            case first =>
              by_cases hh : h = 2
              · subst hh
                have hc := Lib.hid (hRv.out _ _ hF.out.sw.row hsz x y (by omega) (by omega))
                go_wp2_with fail
                refine hc.out.mono ?_
                rintro e w3 ⟨rfl, s⟩
                have hG := Lib.hid (hF.out.perm (reverseRange_holds dk x y hxy (by omega)) s)
                clear s
                go_wp2_with fail
                go_meet
                exact ⟨(y - 1) - (p - x), 1, _, by go_num, rfl, by omega, by omega, hG.out⟩
              · have hh' : (h == 2) = false := by simpa using hh
                go_wp2_with fail
                go_meet
                exact ⟨p, h, dk, rfl, rfl, hp1, hp2, hF.out⟩
            case rest =>
              clear hF hsz hp1 hp2
              obtain ⟨p, h, dk, rfl, rfl, hp1, hp2, P⟩ := hcut
              have hsz : dk.size = N := P.sz.trans hdN
              replace P := Lib.hid P
              go_upto_region 15 with (fail)
              go_cut [68] (fun v w' => ∃ q : Bool, v = .bool q ∧ wc = w')
              case first =>
                cases wb
                · go_wp2_with fail
                  go_meet
                  exact ⟨_, rfl, rfl⟩
                · cases wp
                  · go_wp2_with fail
                    go_meet
                    exact ⟨_, rfl, rfl⟩
                  · obtain ⟨hv, hhv⟩ : ∃ hv, (h == 1) = hv := ⟨_, rfl⟩
                    go_wp2_with fail
                    go_meet
                    exact ⟨hv, rfl, rfl⟩
              case rest =>
                obtain ⟨q, rfl, rfl⟩ := hcut
                go_upto_if 68 with (fail)
                go_cut [0] (fun v w' => v = .slice (some ⟨b, 0, none⟩) N cap ∧ ∃ d1, PI w b A T d x y d1 w')
                case first =>
                  cases q
                  · go_wp2_with fail
                    go_meet
                    exact ⟨rfl, dk, P.out⟩
                  · have hc := Lib.hid (hPr.out _ _ P.out.sw.row hsz x y (by omega) (by omega))
                    have hp := partialInsertionSort_holds swo_ltInt dk x y (by omega) (by omega) P.out.bel
                    obtain ⟨⟨d1, r⟩, hd1⟩ : ∃ r, r = partialInsertionSort ltInt dk x y := ⟨_, rfl⟩
                    rw [← hd1] at hp hc
                    replace hp := Lib.hid hp
                    clear hd1
                    go_wp2_with fail
                    refine hc.out.mono ?_
                    rintro e w3 ⟨rfl, s⟩
                    cases r
                    · have hG := Lib.hid (P.out.perm hp.out.1 s)
                      clear s
                      go_wp2_with fail
                      go_meet
                      exact ⟨rfl, d1, hG.out⟩
                    · have hF := Lib.hid (P.out.done hp.out.1 (hp.out.2 rfl) s rfl)
                      clear s
                      go_wp2_with fail
                      rw [hD.out]
                      (try simp only [Exit.inBlock, Exit.then]); exact bodyPost_ret (results_none rfl _ _ _) rfl hF.out
                case rest =>
                  clear P hsz
                  obtain ⟨rfl, dk, P⟩ := hcut
                  have hsz : dk.size = N := P.sz.trans hdN
                  replace P := Lib.hid P
                  go_upto_region 17 with (fail)
                  go_cut [87] (fun v w' => ∃ q : Bool, v = .bool q ∧ (q = true → 0 < x ∧ ltInt dk[x - 1]! dk[p]! = false) ∧ PI w b A T d x y dk w')
                  case first =>
                    by_cases hx0 : 0 < x
                    · have hxi : (0 : Int) < x := by omega
                      obtain ⟨z, rfl⟩ : ∃ z, x = z + 1 := ⟨x - 1, by omega⟩
                      obtain ⟨c1, f1⟩ := P.out.sw.row.cs z (by omega)
                      obtain ⟨c2, f2⟩ := P.out.sw.row.cs p (by omega)
                      obtain ⟨u, hu⟩ : ∃ u, u = dk[z]! := ⟨_, rfl⟩
                      obtain ⟨v, hv⟩ : ∃ v, v = dk[p]! := ⟨_, rfl⟩
                      rw [← hu] at c1
                      rw [← hv] at c2
                      have hlt := Lib.hid (show ltInt dk[z + 1 - 1]! dk[p]! = ltInt u v by rw [Nat.add_sub_cancel, hu, hv])
                      clear hu hv
                      go_wp2_with fail
                      go_quiet ((go_at_call 97; exact Calls.quiet_of_same (hL.out _ _ _)))
                      have hQ := Lib.hid (P.out.below (below_drewN (Below.refl _ _) nq))
                      go_wp2_with fail
                      go_meet
                      exact ⟨_, rfl, fun hq => ⟨by omega, hlt.out.trans (by simpa using hq)⟩, hQ.out⟩
                    · obtain rfl : x = 0 := by omega
                      have hg0 : decide ((0 : Int) < ((0 : Nat) : Int)) = false := by simp
                      rw [show ((0 : Nat) : Int) = 0 from rfl] at *
                      go_wp2_with fail
                      go_quiet (fail)
                      have hQ := Lib.hid (P.out.below (below_drewN (Below.refl _ _) nq))
                      go_wp2_with fail
                      go_meet
                      exact ⟨false, rfl, (fun hq => by cases hq), hQ.out⟩
                  case rest =>
                    clear P
                    obtain ⟨q, rfl, hq, P⟩ := hcut
                    replace P := Lib.hid P
                    cases q
                    · clear hq
                      have hc := Lib.hid (hPt.out _ _ P.out.sw.row hsz x y p hp1 hp2 (by omega) (by omega))
                      obtain ⟨⟨m, ap, d4⟩, hd4⟩ : ∃ r, r = partition ltInt dk x y p := ⟨_, rfl⟩
                      have hr := round_part swo_ltInt (partition_holds ltInt) hp1 hp2 (by omega) P.out.bel hd4.symm
                      rw [← hd4] at hc
                      replace hc := Lib.hid (show Calls Tryd.prog 99 #[.slice (some ⟨b, 0, none⟩) N cap, .int .i64 x, .int .i64 y, .int .i64 p] _ (PartPost _ b m d4) from hc.out)
                      clear hd4
                      obtain ⟨r1, r2, r3, r4, r5, r6, r7⟩ := hr
                      replace r6 := Lib.hid r6
                      replace r7 := Lib.hid r7
                      replace r4 := Lib.hid r4
                      replace r5 := Lib.hid r5
                      go_wp2_with fail
                      refine hc.out.mono ?_
                      rintro e w3 ⟨v, rfl, s⟩
                      have hs4 := Lib.hid (P.out.sw.step s)
                      clear s
                      obtain ⟨A1, hA1⟩ : ∃ A1, x + A1 = m := ⟨m - x, by omega⟩
                      obtain ⟨B1, hB1⟩ : ∃ B1, m + B1 = y := ⟨y - m, by omega⟩
                      have eA : (m : Int) - x = A1 := by omega
                      have eB : (y : Int) - m = B1 := by omega
                      have hA1b : A1 < 288230376151711744 := by omega
                      have hB1b : B1 < 288230376151711744 := by omega
                      have hmb : m < 288230376151711744 := by omega
                      have e8 : (L : Int).tdiv 8 = ((L / 8 : Nat) : Int) := by rw [Int.tdiv_eq_ediv_of_nonneg (by omega)]; omega
                      replace hA1 := Lib.hid hA1
                      replace hB1 := Lib.hid hB1
                      by_cases hAB : A1 < B1
                      · have hgA : (A1 : Int) < B1 := by omega
                        have hS1 := Lib.hid (hSelf.out w3 d4 hs4.out.row (r3.trans hsz) x m l (by omega) r1 (by omega) hl r4.out)
                        go_wp2_with fail
                        refine hS1.out.mono ?_
                        rintro e w4 ⟨rfl, R, s, hp, hs⟩
                        have h6 := r6.out R hp hs
                        have hPn := Lib.hid (show PI w b A T d (m + 1) y R w4 from ⟨hs4.out.step s, by omega, by omega, hyT, by omega, hp.1.trans (r3.trans (hsz.trans hdN.symm)), h6.1, fun R2 k1 k2 => P.out.fin R2 (h6.2 R2 k1 k2).1 (h6.2 R2 k1 k2).2⟩)
                        clear s hp hs h6
                        go_wp2_with fail
                        go_roundw
                        case rel => exact ⟨m + 1, y, l, _, _, R, by go_num, rfl, rfl, rfl, rfl, hl, hPn.out⟩
                        case measure => first | (simp [intOf]; done) | (simp [intOf]; omega)
                      · have hgA : ¬ (A1 : Int) < B1 := by omega
                        have hS1 := Lib.hid (hSelf.out w3 d4 hs4.out.row (r3.trans hsz) (m + 1) y l (by omega) (by omega) (by omega) hl r5.out)
                        go_wp2_with fail
                        refine hS1.out.mono ?_
                        rintro e w4 ⟨rfl, R, s, hp, hs⟩
                        have h6 := r7.out R hp hs
                        have hPn := Lib.hid (show PI w b A T d x m R w4 from ⟨hs4.out.step s, by omega, by omega, by omega, by omega, hp.1.trans (r3.trans (hsz.trans hdN.symm)), h6.1, fun R2 k1 k2 => P.out.fin R2 (h6.2 R2 k1 k2).1 (h6.2 R2 k1 k2).2⟩)
                        clear s hp hs h6
                        go_wp2_with fail
                        go_roundw
                        case rel => exact ⟨x, m, l, _, _, R, rfl, rfl, rfl, rfl, rfl, hl, hPn.out⟩
                        case measure => first | (simp [intOf]; done) | (simp [intOf]; omega)
                    · obtain ⟨hx0, hlt⟩ := hq rfl
                      have hc := Lib.hid (hPe.out _ _ P.out.sw.row hsz x y p hp1 hp2 (by omega) (by omega))
                      obtain ⟨⟨m, d4⟩, hd4⟩ : ∃ r, r = partitionEqual ltInt dk x y p := ⟨_, rfl⟩
                      have hr := round_eq swo_ltInt (partitionEqual_holds ltInt) hx0 hp1 hp2 (by omega) P.out.bel hlt hd4.symm
                      rw [← hd4] at hc
                      replace hc := Lib.hid (show Calls Tryd.prog 98 #[.slice (some ⟨b, 0, none⟩) N cap, .int .i64 x, .int .i64 y, .int .i64 p] _ (EqPost _ b m d4) from hc.out)
                      clear hd4 hlt hq
                      obtain ⟨r1, r2, r3, r4, r5⟩ := hr
                      go_wp2_with fail
                      refine hc.out.mono ?_
                      rintro e w3 ⟨rfl, s⟩
                      have hPn := Lib.hid (show PI w b A T d m y d4 w3 from ⟨P.out.sw.step s, by omega, by omega, hyT, by omega, r3.trans (hsz.trans hdN.symm), r4, fun R2 k1 k2 => P.out.fin R2 (r5 R2 k1 k2).1 (r5 R2 k1 k2).2⟩)
                      clear s r4 r5
                      go_wp2_with fail
                      go_roundw
                      case rel => exact ⟨m, y, l, _, _, d4, rfl, rfl, rfl, rfl, rfl, hl, hPn.out⟩
                      case measure => first | (simp [intOf]; done) | (simp [intOf]; omega)
end
end Go.Proofs.YticfpnhfhhagpaaDoor
