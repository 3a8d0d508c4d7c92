/- The document's Assemble. No statement is proved here. -/
import Derived.Test.YtdkggahkfheocaaGreatDoorAqF
import Derived.Test.YtdkggahkfheocaaGreatDoorAqB
import Derived.Test.YtdkggahkfheocaaGreatDoorAqA
import Derived.Deep.DeepCutAuto
namespace Go.Proofs.YtdkggahkfheocaaGreatDoor
set_option maxRecDepth 100000
open Go.RowKit Go.Lib
set_option linter.unusedVariables false
set_option linter.unusedSimpArgs false

def itC (x : Int × Ins × List UInt8 × Nat) : List Value := itV x.1 x.2.1 x.2.2.1
def sh (x : Int × Ins × List UInt8 × Nat) : Int × List UInt8 × Nat := (x.1, x.2.2.1, x.2.2.2)
theorem flat7 : ∀ (its : List (Int × Ins × List UInt8 × Nat)) (j t : Nat) (h : j < its.length), t < 7 → (its.flatMap itC)[j * 7 + t]? = (itC its[j])[t]?
  | [], j, t, h, _ => by simp at h
  | x :: r, 0, t, h, ht => by
    rw [List.flatMap_cons, Nat.zero_mul, Nat.zero_add, List.getElem?_append_left (by simp [itC, itV]; omega)]
    rfl
  | x :: r, j + 1, t, h, ht => by
    have hl : (itC x).length = 7 := by simp [itC, itV]
    rw [List.flatMap_cons, List.getElem?_append_right (by rw [hl]; omega), hl, show (j + 1) * 7 + t - 7 = j * 7 + t from by omega, flat7 r j t (by simpa using h) ht]
    rfl
def asOf (its : List (Int × Ins × List UInt8 × Nat)) (lb : List (List UInt8 × Nat)) : AS := ⟨its.map (fun x => (x.1, x.2.2.1, x.2.2.2)), lb.reverse⟩
def RW (iA iB : List (Int × Ins × List UInt8 × Nat)) (lA lB : List (List UInt8 × Nat)) (ls : List (List UInt8)) (os : List Int) (vi va vn vp vl vo : Value) : List Ow :=
  [⟨75, 7, vi, iA.length, iA.flatMap itC⟩, ⟨3, 1, va, iB.length, iB.map (fun x => .int .i64 (x.2.2.2 : Int))⟩, ⟨9, 1, vn, lA.length, lA.map (fun x => strV x.1)⟩, ⟨3, 1, vp, lB.length, lB.map (fun x => .int .i64 (x.2 : Int))⟩, ⟨9, 1, vl, ls.length, ls.map strV⟩, ⟨24, 1, vo, os.length, os.map wV⟩]
structure DInv (its : List (Int × Ins × List UInt8 × Nat)) (lb : List (List UInt8 × Nat)) (k : Nat) : Prop where
  n : its.length ≤ 4096
  l : lb.length ≤ k
  i : ∀ x, x ∈ its → (0 ≤ x.1 ∧ x.1 < 4294967296) ∧ x.2.2.1.length ≤ 32 ∧ x.2.2.2 ≤ 40000 ∧ (x.2.2.1 ≠ [] → x.2.1 = decW x.1)
  p : ∀ x, x ∈ lb → x.2 ≤ 4096
  d : (lb.map (·.1)).Nodup
def DPost (W : World) (R : Except (Int × Nat) (List Int)) (e : Ending) (w' : World) : Prop := match R with
  | .error (c, n) => ∃ g, e = .returned (.tuple #[.slice none 0 0, .pointer (some ⟨g, 0, none⟩)]) ∧ FA w' g c n ∧ Below W.heap.size W w'
  | .ok ws => ∃ v, e = .returned (.tuple #[v, .pointer none]) ∧ w'.ownsRow W.heap.size 24 1 v ws.length (ws.map wV) ∧ Below W.heap.size W w' ∧ ws.length ≤ 4096
theorem DPost.err {W w w' : World} {R : Except (Int × Nat) (List Int)} {e : Ending} {c : Int} {n : Nat} (hR : R = .error (c, n)) (k : Below W.heap.size W w) (he : e = .returned (.tuple #[.slice none 0 0, .pointer (some ⟨w.heap.size, 0, none⟩)])) (hw : w' = w.alloc (.cells #[.int .i64 c, .int .i64 (n : Int)] 54)) : DPost W R e w' := by
  subst hR hw
  exact ⟨_, he, ⟨by simp, by simp, by simp⟩, k.alloc k.size _⟩
theorem DPost.err' {W w w' : World} {R : Except (Int × Nat) (List Int)} {e : Ending} {c : Int} {n g : Nat} (hR : R = .error (c, n)) (k : Below W.heap.size W w) (hg : g = w.heap.size) (he : e = .returned (.tuple #[.slice none 0 0, .pointer (some ⟨g, 0, none⟩)])) (hw : w' = w.alloc (.cells #[.int .i64 c, .int .i64 (n : Int)] 54)) : DPost W R e w' := by
  subst hg; exact DPost.err hR k he hw
theorem DPost.err2 {W w w' : World} {R : Except (Int × Nat) (List Int)} {e : Ending} {c : Int} {n g : Nat} (hR : R = .error (c, n)) (k : Below W.heap.size W w) (hg : g = w.heap.size) (he : e = .returned (.tuple #[.slice none 0 0, .pointer (some ⟨g, 0, none⟩)])) (hw : w' = (w.alloc (.cells #[.int .i64 c, .int .i64 (n : Int)] 54)).drew) : DPost W R e w' := by
  subst hR hw hg
  exact ⟨_, he, ⟨by simp, by simp, by simp⟩, (k.alloc k.size _).drew⟩
theorem infoI : (Tryz.prog.info? 75).map (fun i => (i.zero, i.size, i.bytes)) = some (some (.agg #[.int .u32 0, .int .i64 0, .int .i64 0, .int .i64 0, .int .i64 0, .int .i64 0, .string ⟨#[]⟩]), 7, 64) := by kernel_rfl
theorem infoN : (Tryz.prog.info? 3).map (fun i => (i.zero, i.size, i.bytes)) = some (some (.int .i64 0), 1, 8) := by kernel_rfl
theorem docR_facts {a : List UInt8} {r : List (List UInt8)} {x : Int} {i : Ins} {lab : List UInt8} (h : docR (a :: r) = some (x, i, lab)) : (0 ≤ x ∧ x < 4294967296) ∧ lab.length ≤ 32 ∧ (lab ≠ [] → i = decW x) := by
  have hr := doc_read a r
  rw [h] at hr
  have hr' : readP (a :: r) = some (x, lab) := hr
  refine ⟨readP_low hr', ?_, fun hl => ?_⟩
  · rcases readP_lab hr' with e | e
    · rw [e]; simp
    · exact name_len32 e
  · rw [docR_cons] at h
    split at h
    · split at h
      · simp only [Option.some.injEq, Prod.mk.injEq] at h
        exact absurd h.2.2.symm hl
      · cases h
    · split at h
      · cases h
      · split at h
        · cases h
        · split at h
          · rename_i hm
            simp only [Option.some.injEq, Prod.mk.injEq] at h
            obtain ⟨rfl, rfl, -⟩ := h
            exact (dec_enc hm).symm
          · cases h
theorem OL.start {W w : World} {ls : List (List UInt8)} {vl : Value} (b : Below W.heap.size W w) (h : w.ownsRow W.heap.size 9 1 vl ls.length (ls.map strV)) : OL W (RW [] [] [] [] ls [] (.slice none 0 0) (.slice none 0 0) (.slice none 0 0) (.slice none 0 0) vl (.slice none 0 0)) w := by
  refine ⟨b, fun i x hx => ?_, fun i j a c hij ha hc k hk => ?_⟩
  · match i, hx with
    | 0, hx => cases hx; exact World.ownsRow_nil _ _ _ _
    | 1, hx => cases hx; exact World.ownsRow_nil _ _ _ _
    | 2, hx => cases hx; exact World.ownsRow_nil _ _ _ _
    | 3, hx => cases hx; exact World.ownsRow_nil _ _ _ _
    | 4, hx => cases hx; exact h
    | 5, hx => cases hx; exact World.ownsRow_nil _ _ _ _
    | n + 6, hx => simp [RW] at hx
  · have none : ∀ (j : Nat) (c : Ow), j ≠ 4 → (RW [] [] [] [] ls [] (.slice none 0 0) (.slice none 0 0) (.slice none 0 0) (.slice none 0 0) vl (.slice none 0 0))[j]? = some c → c.v.ownBlock = Option.none := fun j c hj hc => by
      match j, hj, hc with
      | 0, _, hc => cases hc; rfl
      | 1, _, hc => cases hc; rfl
      | 2, _, hc => cases hc; rfl
      | 3, _, hc => cases hc; rfl
      | 4, hj, _ => exact absurd rfl hj
      | 5, _, hc => cases hc; rfl
      | n + 6, _, hc => simp [RW] at hc
    by_cases h4 : i = 4
    · rw [none j c (by omega) hc]; simp
    · rw [none i a h4 ha] at hk; cases hk

set_option maxHeartbeats 16000000 in
theorem rasm_any (t : List UInt8) (W : World) (ht : t.length ≤ 9223372036854775807) : Calls Tryz.prog 18 #[.string ⟨t.toArray⟩] W (DPost W (asmL t)) := by
  obtain ⟨R, hR⟩ : ∃ R, R = asmL t := ⟨_, rfl⟩
  rw [← hR]
  obtain ⟨D, hD⟩ : ∃ D, D = DPost W R := ⟨_, rfl⟩
  rw [← hD]
  replace hD := Lib.hid hD
  have hund : undef = Value.tuple #[] := rfl
  unfold asmL at hR
  by_cases hlong : 32768 < t.length
  · rw [if_pos hlong] at hR
    have hli : (32768 : Int) < (t.length : Int) := by omega
    replace hR := Lib.hid hR
    clear hlong
    go_enter Tryz.func18, Tryz.ntmps18
    go_wp2
    rw [hD.out]
    exact DPost.err hR.out (Below.refl _ _) rfl rfl
  · rw [if_neg hlong] at hR
    have hli : (t.length : Int) ≤ 32768 := by omega
    have hL := Lib.hid (rlines_any t (by omega) W)
    have hlm := lines_mem t
    have hln := lines_len t
    have hcl := List.count_le_length (a := (10 : UInt8)) (l := t)
    generalize linesL t = ls at *
    have hts : Hid (∀ l, l ∈ ls → l.length ≤ 32768) := Lib.hid (fun l h => by have := hlm l h; omega)
    have hl0 : 0 < ls.length := by omega
    have hl3 : ls.length ≤ 32769 := by omega
    have hlli : (ls.length : Int) ≤ 32769 := by omega
    replace hR := Lib.hid hR
    have hlll := Lib.hid (And.intro hl0 hl3)
    obtain ⟨sti, sth, st0, st1, st2⟩ := info_parts infoS
    obtain ⟨iti, ith, it0, it1, it2⟩ := info_parts infoI
    obtain ⟨ini, inh, in0, in1, in2⟩ := info_parts infoN
    obtain ⟨wwi, wwh, ww0, ww1, ww2⟩ := info_parts infoW
    clear hlong hlm hln hcl hl0 hl3 ht
    go_enter Tryz.func18, Tryz.ntmps18
    go_wp2_with fail
    refine hL.out.mono ?_
    rintro e w1 ⟨vl, rfl, ho, k1⟩
    obtain ⟨gl, cl, rfl, -, -⟩ := ho.form hlll.out.1
    have H0 := Lib.hid (OL.start k1 ho)
    clear hL ho k1
    go_wp2_with fail
    go_loopw [4, 5, 6, 7, 9, 10, 11, 12, 13] (fun vi va vn vp iv v10 v11 v12 v13 wr => ∃ (k : Nat) (its : List (Int × Ins × List UInt8 × Nat)) (lb : List (List UInt8 × Nat)), k ≤ ls.length ∧ iv = .int .i64 k ∧ Hid (takeAll ⟨[], []⟩ 0 (ls.map bareL) = takeAll (asOf its lb) k ((ls.drop k).map bareL)) ∧ Hid (DInv its lb k) ∧ Hid (OL W (RW its its lb lb ls [] vi va vn vp (.slice (some ⟨gl, 0, none⟩) ls.length cl) (.slice none 0 0)) wr)) (fun _ _ _ _ iv _ _ _ _ _ => ls.length - (RowKit.intOf iv).toNat)
    case atStart => exact ⟨0, [], [], Nat.zero_le _, rfl, Lib.hid (by rw [List.drop_zero]; rfl), Lib.hid ⟨Nat.zero_le _, Nat.le_refl _, (fun x hx => by cases hx), (fun x hx => by cases hx), List.nodup_nil⟩, H0⟩
    case round =>
      obtain ⟨k, its, lb, hk, rfl, hA, hI, HO⟩ := hrel
      by_cases hlt : k < ls.length
      · have c0 : wr.cell? ⟨gl, k, none⟩ = some (.string ⟨ls[k].toArray⟩) := by
          have h4 := HO.out.o 4 _ rfl
          rw [h4.cellAt k (by show k < ls.length * 1; omega)]
          show (ls.map strV)[k]? = _
          rw [List.getElem?_map, List.getElem?_eq_getElem hlt]; rfl
        have hdr : ls.drop k = ls[k] :: ls.drop (k + 1) := List.drop_eq_getElem_cons hlt
        have hl1 := hts.out ls[k] (List.getElem_mem hlt)
        have hA1 := hA.out
        rw [hdr, List.map_cons, takeAll] at hA1
        generalize ls[k] = l0 at *
        have hcut : (cutA l0 59).length ≤ 32768 := Nat.le_trans (List.takeWhile_sublist _).length_le hl1
        have hRm := Lib.hid (rremark_any l0 (by omega) wr)
        have hWd := Lib.hid (fun w => rwords_any (cutA l0 59) (by omega) w)
        have hwl := words_len8 (cutA l0 59)
        have hwm := words_mem (cutA l0 59)
        have hkl := Lib.hid (And.intro hk hlt)
        have hki : (k : Int) < (ls.length : Int) := by omega
        have hE := fun h => line_empty (asOf its lb) k l0 h
        have hLb := fun nm h1 h2 => line_label (asOf its lb) k l0 nm h1 h2
        have hWo := fun a r h1 h2 => line_word (asOf its lb) k l0 a r h1 h2
        have hal : (asOf its lb).its.length = its.length := by simp [asOf]
        have hRt : ∀ c, takeAll ⟨[], []⟩ 0 (ls.map bareL) = .error (c, k) → R = .error (c, k) := fun c h => by rw [hR.out, h]
        generalize bareL l0 = bl at *
        obtain ⟨ts, hts2⟩ : ∃ ts, ts = wordsL (cutA l0 59) := ⟨_, rfl⟩
        rw [← hts2] at hWd hwl hwm hE hLb hWo
        generalize cutA l0 59 = cu at *
        clear hdr hl1 hk
        cases ts with
        | nil =>
          have hT := hE rfl
          rw [hT, if_pos rfl] at hA1
          replace hA1 := Lib.hid hA1
          clear hE hLb hWo hT hwl hwm hts2 hcut hRt hal hA
          go_wp2_with fail
          refine hRm.out.mono ?_
          rintro e w' ⟨rfl, rfl⟩
          go_wp2_with fail
          refine (hWd.out _).mono ?_
          rintro e w2 ⟨v, rfl, ho, k2⟩
          obtain ⟨A2, cap2, rfl, -, -⟩ := own_slice ho
          have HO2 := Lib.hid (HO.out.below k2)
          have hI2 := Lib.hid (show DInv its lb (k + 1) from ⟨hI.out.n, by have := hI.out.l; omega, hI.out.i, hI.out.p, hI.out.d⟩)
          clear ho k2 c0
          go_wp2
          go_roundw
          case rel => exact ⟨k + 1, its, lb, by have := hkl.out; omega, by go_num, hA1, hI2, HO2⟩
          case measure => have := hkl.out; simp [RowKit.intOf]; omega
        | cons a r =>
          have hrn : r.length ≤ 32768 := by have := hwl.2; simp only [List.length_cons] at this; omega
          have hal2 : a.length ≤ 32768 := by have := hwl.1 a (List.mem_cons_self ..); omega
          have hrl : ∀ t, t ∈ r → t.length ≤ 1048576 := fun t ht => by have := hwl.1 t (List.mem_cons_of_mem _ ht); omega
          have ha0 : 0 < a.length := List.length_pos_iff.2 (hwm a (List.mem_cons_self ..)).1
          have hC := Lib.hid (fun A cap w h => rread_any a r A cap w h (by omega) hrl)
          have hrni : (r.length : Int) ≤ 32768 := by omega
          clear hwl hwm hts2 hE
          go_wp2_with fail
          refine hRm.out.mono ?_
          rintro e w' ⟨rfl, rfl⟩
          go_wp2_with fail
          refine (hWd.out _).mono ?_
          rintro e w2 ⟨v, rfl, ho, k2⟩
          obtain ⟨A2, cap2, rfl, hTL⟩ := own_TL ho (by simp)
          obtain ⟨bt, rfl, hbt, hct⟩ := id hTL
          have HO2 := Lib.hid (HO.out.below k2)
          have e0 : w2.cell? ⟨bt, 0, none⟩ = some (.string ⟨a.toArray⟩) := hct 0 a rfl
          have hlen : (a :: r).length = r.length + 1 := rfl
          rw [hlen]
          replace hTL := Lib.hid hTL
          have hsza : (⟨a.toArray⟩ : ByteArray).size = a.length := size_mk a
          clear ho k2 c0 hct hRm hWd
          have hai : (a.length : Int) ≤ 32768 := by omega
          have ha0i : 0 < (a.length : Int) := by omega
          obtain ⟨m, hm⟩ : ∃ m, a.length = m + 1 := ⟨a.length - 1, by omega⟩
          have hmi : (a.length : Int) - 1 = (m : Int) := by omega
          have hml : m < a.length := by omega
          have hix := index_list a m hml a[m] rfl
          have hsl := fun w => slice_pre a m (by omega) w
          have hap : a = a.take m ++ [a[m]] := by
            rw [← List.take_succ_eq_append_getElem hml, ← hm, List.take_length]
          by_cases hL3 : r = [] ∧ a[m] = 58 ∧ nameB (a.take m) = true
          · obtain ⟨rfl, h58, hnm⟩ := hL3
            have hT := hLb (a.take m) (by rw [← h58, ← hap]) hnm
            have hci : (a[m].toNat : Int) = 58 := by rw [h58]; rfl
            have hcb : ((a[m].toNat : Int) == 58) = true := by rw [h58]; rfl
            have hNm : ∀ w, Calls Tryz.prog 51 #[.string ⟨(a.take m).toArray⟩] w fun e w' => e = .returned (.bool true) ∧ w = w' := fun w => (rName8_any ⟨(a.take m).toArray⟩ w).mono fun e w' h => ⟨by rw [h.1]; exact congrArg _ (congrArg _ hnm), h.2⟩
            have hFi := fun (w : World) (v : Value) (ho : w.ownsRow W.heap.size 9 1 v lb.length (lb.map (fun x => strV x.1))) => rfind_any (lb.map (·.1)) v W.heap.size (a.take m) w (by rw [List.length_map, List.map_map]; exact ho) (by rw [List.length_map]; have := hI.out.l; have := hkl.out; have := hlll.out; omega)
            have hnl : (a.take m).length ≤ 32768 := by simp; omega
            generalize a[m] = ch at *
            generalize a.take m = nm at *
            replace hNm := Lib.hid hNm
            rcases lab_find lb nm hI.out.d with ⟨hf1, hf2⟩ | ⟨q, p, hf1, hfq, hf2⟩
            · have hfi : findI (lb.map (·.1)) nm = -1 := by unfold findI; rw [hf1]
              rw [hfi] at hFi
              rw [show (asOf its lb).labs = lb.reverse from rfl, hf2] at hT
              rw [hT, hal] at hA1
              have hA2 := Lib.hid (show takeAll ⟨[], []⟩ 0 (ls.map bareL) = takeAll (asOf its (lb ++ [(nm, its.length)])) (k + 1) ((ls.drop (k + 1)).map bareL) from by
                rw [hA1, if_pos (by rfl)]
                simp [asOf])
              have hI2 := Lib.hid (show DInv its (lb ++ [(nm, its.length)]) (k + 1) from ⟨hI.out.n, by have := hI.out.l; simp; omega, hI.out.i, fun x hx => by
                rcases List.mem_append.1 hx with hx | hx
                · exact hI.out.p x hx
                · rw [List.mem_singleton] at hx; subst hx; exact hI.out.n, by
                rw [List.map_append]
                refine List.nodup_append.2 ⟨hI.out.d, by simp, fun u hu v hv e => ?_⟩
                simp at hv
                subst hv
                subst e
                exact findN_none _ _ hf1 hu⟩)
              have hF2 := Lib.hid (hFi w2 _ (HO2.out.o 2 _ rfl))
              have hlbl := hI.out.l
              obtain ⟨Ai, ci, hvi, -, -⟩ := own_slice (HO2.out.o 0 _ rfl)
              simp only at hvi
              subst hvi
              clear hT hA1 hA hLb hWo hRt hFi hf1 hf2 hfi hap hal hC hI hnm h58 hcut
              go_wp2_with fail
              refine (hNm.out _).mono ?_
              rintro e w' ⟨rfl, rfl⟩
              go_wp2_with fail
              refine hF2.out.mono ?_
              rintro e w' ⟨rfl, rfl⟩
              go_wp2_with (at_builtin; refine wpList_append_lies _ rfl _ _ 52 rfl W.heap.size 9 sti (.string ⟨#[]⟩) 1 16 Tryz.underlying52 sth st0 st1 st2 rfl (by decide) _ _ _ rfl ((HO2.out.o 2 _ rfl).alloc _) ⟨w2.heap.size, 0, none⟩ 1 1 [.string ⟨nm.toArray⟩] rfl rfl ?c1 ?c2 (by decide) ?c3 ?c4 ?c5 _ rfl ?_)
              case c1 =>
                intro i u hu
                match i, hu with
                | 0, hu => simp [itV] at hu; subst hu; simp [Addr.add]
              case c2 => intro u hu; simp [itV] at hu; first | (subst hu; rfl) | (rcases hu with rfl | rfl | rfl | rfl | rfl | rfl | rfl <;> rfl)
              case c3 => have := hI2.out.n; have := hlbl; have := hkl.out; have := hlll.out; unfold maxLen; omega
              case c4 => have := hI2.out.n; have := hlbl; have := hkl.out; have := hlll.out; omega
              case c5 => have := HO2.out.b.size; simp; omega
              intro g cap w7 hown' hgrow hwhere hglt
              have H7 := (HO2.out.below ((Below.refl _ _).alloc (Nat.le_refl _) (.cells #[.string ⟨nm.toArray⟩] 9))).grow (i := 2) rfl (show w7.ownsRow W.heap.size 9 1 (.slice (some ⟨g, 0, none⟩) (lb ++ [(nm, its.length)]).length cap) (lb ++ [(nm, its.length)]).length ((lb ++ [(nm, its.length)]).map (fun x => strV x.1)) from by rw [List.length_append, List.map_append]; exact hown') hgrow (hwhere.imp id (fun e => by rw [e]; simp))
              replace H7 : OL W (RW its its (lb ++ [(nm, its.length)]) lb ls [] _ _ (.slice (some ⟨g, 0, none⟩) (lb ++ [(nm, its.length)]).length cap) _ _ _) w7 := H7
              rw [List.length_append, List.length_singleton] at H7
              replace H7 := Lib.hid H7
              clear hown' hgrow hwhere hglt
              clear e0
              go_wp2_with (at_builtin; refine wpList_append_lies _ rfl _ _ 92 rfl W.heap.size 3 ini (.int .i64 0) 1 8 Tryz.underlying92 inh in0 in1 in2 rfl (by decide) _ _ _ rfl ((H7.out.o 3 _ rfl).alloc _) ⟨w7.heap.size, 0, none⟩ 1 1 [.int .i64 (its.length : Int)] rfl rfl ?c1 ?c2 (by decide) ?c3 ?c4 ?c5 _ rfl ?_)
              case c1 =>
                intro i u hu
                match i, hu with
                | 0, hu => simp [itV] at hu; subst hu; simp [Addr.add]
              case c2 => intro u hu; simp [itV] at hu; first | (subst hu; rfl) | (rcases hu with rfl | rfl | rfl | rfl | rfl | rfl | rfl <;> rfl)
              case c3 => have := hI2.out.n; have := hlbl; have := hkl.out; have := hlll.out; unfold maxLen; omega
              case c4 => have := hI2.out.n; have := hlbl; have := hkl.out; have := hlll.out; omega
              case c5 => have := H7.out.b.size; simp; omega
              intro g2 cap3 w8 hown' hgrow hwhere hglt
              have H8 := (H7.out.below ((Below.refl _ _).alloc (Nat.le_refl _) (.cells #[.int .i64 (its.length : Int)] 3))).grow (i := 3) rfl (show w8.ownsRow W.heap.size 3 1 (.slice (some ⟨g2, 0, none⟩) (lb ++ [(nm, its.length)]).length cap3) (lb ++ [(nm, its.length)]).length ((lb ++ [(nm, its.length)]).map (fun x => .int .i64 (x.2 : Int))) from by rw [List.length_append, List.map_append]; exact hown') hgrow (hwhere.imp id (fun e => by rw [e]; simp))
              replace H8 : OL W (RW its its (lb ++ [(nm, its.length)]) (lb ++ [(nm, its.length)]) ls [] _ _ _ (.slice (some ⟨g2, 0, none⟩) (lb ++ [(nm, its.length)]).length cap3) _ _) w8 := H8
              rw [List.length_append, List.length_singleton] at H8
              replace H8 := Lib.hid H8
              clear hown' hgrow hwhere hglt
              go_wp2
              go_roundw
              case rel => exact ⟨k + 1, its, lb ++ [(nm, its.length)], by have := hkl.out; omega, by go_num, hA2, hI2, H8⟩
              case measure => have := hkl.out; simp [RowKit.intOf]; omega
            · have hfi : findI (lb.map (·.1)) nm = (q : Int) := by unfold findI; rw [hf1]
              rw [hfi] at hFi
              rw [show (asOf its lb).labs = lb.reverse from rfl, hf2] at hT
              have hT2 := hT.trans (if_pos rfl)
              rw [hT2] at hA1
              have hRe := Lib.hid (hRt 11 (hA1.trans (if_neg (show ¬ (11 : Int) = 0 by decide))))
              clear hT2
              have hF2 := Lib.hid (hFi w2 _ (HO2.out.o 2 _ rfl))
              have hb2 := Lib.hid HO2.out.b
              have hqi : (0 : Int) ≤ (q : Int) := by omega
              clear hT hA1 hA hLb hWo hRt hFi hf1 hf2 hfi hap hal hC hI hnm h58 hcut hfq
              go_wp2_with fail
              refine (hNm.out _).mono ?_
              rintro e w' ⟨rfl, rfl⟩
              go_wp2_with fail
              refine hF2.out.mono ?_
              rintro e w' ⟨rfl, rfl⟩
              go_wp2
              rw [hD.out]
              exact DPost.err hRe.out hb2.out rfl rfl
          · have hcond : r ≠ [] ∨ hasSuffix a [58] = false ∨ nameB (trimSuffix a [58]) = false := by
              by_cases hr : r = []
              · by_cases hs : hasSuffix a [58] = true
                · right; right
                  have he := suffix_is a hs
                  rw [hap] at he
                  have h2 := List.append_inj' he rfl
                  rw [← hap] at h2
                  rw [← h2.1]
                  rcases Bool.eq_false_or_eq_true (nameB (a.take m)) with q | q
                  · exact absurd ⟨hr, by simpa using h2.2, q⟩ hL3
                  · exact q
                · exact .inr (.inl (by simpa using hs))
              · exact .inl hr
            have hT := hWo a r rfl hcond
            rw [hT] at hA1
            have hNm : ∀ w, Calls Tryz.prog 51 #[.string ⟨(a.take m).toArray⟩] w fun e w' => e = .returned (.bool (nameB (a.take m))) ∧ w = w' := fun w => rName8_any ⟨(a.take m).toArray⟩ w
            have hdf := fun x i lab h => docR_facts (a := a) (r := r) (x := x) (i := i) (lab := lab) h
            generalize docR (a :: r) = Rd at *
            generalize a[m] = ch at *
            generalize a.take m = nm at *
            replace hNm := Lib.hid hNm
            replace hA1 := Lib.hid hA1
            replace hdf := Lib.hid hdf
            clear hT hLb hWo hap hcond hcut
            go_upto_region 14 with (fail)
            go_cut [66] (fun v w' => v = .bool false ∧ w2 = w')
            case first =>
              clear hA1 hdf hC hRt hA
              by_cases hr : r = []
              · subst hr
                by_cases h58 : ch = 58
                · have hci : (ch.toNat : Int) = 58 := by rw [h58]; rfl
                  have hcb : ((ch.toNat : Int) == 58) = true := by rw [h58]; rfl
                  have hnf : nameB nm = false := by
                    rcases Bool.eq_false_or_eq_true (nameB nm) with q | q
                    · exact absurd ⟨rfl, h58, q⟩ hL3
                    · exact q
                  rw [hnf] at hNm
                  clear hL3 h58 hnf
                  go_wp2_with fail
                  refine (hNm.out _).mono ?_
                  rintro e w' ⟨rfl, rfl⟩
                  go_wp2_with fail
                  go_meet
                  exact ⟨rfl, by first | rfl | trivial⟩
                · have hci : ¬ (ch.toNat : Int) = 58 := fun e => h58 (UInt8.toNat_inj.1 (by
                    have h : ch.toNat = 58 := by omega
                    rw [h]; rfl))
                  have hcb : ((ch.toNat : Int) == 58) = false := by rw [beq_eq_false_iff_ne]; exact hci
                  clear hL3 h58
                  go_wp2_with fail
                  go_meet
                  exact ⟨rfl, by first | rfl | trivial⟩
              · have hr1 : ((r.length : Int) + 1 == 1) = false := by
                  have : 0 < r.length := List.length_pos_iff.2 hr
                  rw [beq_eq_false_iff_ne]; omega
                have hr2 : ¬ (r.length : Int) + 1 = 1 := by
                  have : 0 < r.length := List.length_pos_iff.2 hr
                  omega
                clear hL3 hr
                go_wp2_with fail
                go_meet
                exact ⟨rfl, by first | rfl | trivial⟩
            case rest =>
              obtain ⟨rfl, rfl⟩ := hcut
              have hC1 := hC.out (some ⟨bt, 0, none⟩) cap2 w2 hTL.out
              rw [hlen] at hC1
              cases Rd with
              | none =>
                unfold RdPost at hC1
                have hRe := Lib.hid (hRt 4 (hA1.out.trans (if_neg (show ¬ (4 : Int) = 0 by decide))))
                have hb2 := Lib.hid HO2.out.b
                replace hC1 := Lib.hid hC1
                clear hA1 hA hRt hC hdf hL3 hI hNm
                go_wp2_with fail
                refine hC1.out.mono ?_
                rintro e w3 ⟨x, i, lab, rfl, k3⟩
                have hb3 := Lib.hid (hb2.out.trans (k3.mono hb2.out.size))
                clear k3 hC1
                unfold itV
                go_wp2
                rw [hD.out]
                exact DPost.err' hRe.out (hb3.out.alloc hb3.out.size _) (by simp) rfl rfl
              | some z =>
                obtain ⟨x, i, lab⟩ := z
                unfold RdPost at hC1
                have hf := hdf.out x i lab rfl
                replace hC1 := Lib.hid hC1
                by_cases h4 : its.length = 4096
                · have hRe := Lib.hid (hRt 3 (by
                    have h1 := hA1.out
                    simp only [hal] at h1
                    rw [if_pos h4] at h1
                    exact h1.trans (if_neg (show ¬ (3 : Int) = 0 by decide))))
                  have hb2 := Lib.hid HO2.out.b
                  have h4i : (4096 : Int) ≤ (its.length : Int) := by omega
                  have hvi := own_slice (HO2.out.o 0 _ rfl)
                  obtain ⟨Ai, ci, hvi, -, -⟩ := hvi
                  simp only at hvi
                  subst hvi
                  clear hA1 hA hRt hC hdf hL3 hI hNm hf h4
                  go_wp2_with fail
                  refine hC1.out.mono ?_
                  rintro e w3 ⟨rfl, k3⟩
                  have hb3 := Lib.hid (hb2.out.trans (k3.mono hb2.out.size))
                  clear k3 hC1
                  unfold itV
                  go_wp2
                  rw [hD.out]
                  exact DPost.err' hRe.out (hb3.out.alloc hb3.out.size _) (by simp) rfl rfl
                · have hA2 := Lib.hid (show takeAll ⟨[], []⟩ 0 (ls.map bareL) = takeAll (asOf (its ++ [(x, i, lab, k)]) lb) (k + 1) ((ls.drop (k + 1)).map bareL) from by
                    have h1 := hA1.out
                    simp only [hal] at h1
                    rw [if_neg h4] at h1
                    rw [h1, if_pos (by rfl)]
                    simp [asOf])
                  have hI2 := Lib.hid (show DInv (its ++ [(x, i, lab, k)]) lb (k + 1) from ⟨by have := hI.out.n; simp; omega, by have := hI.out.l; omega, fun y hy => by
                    rcases List.mem_append.1 hy with hy | hy
                    · exact hI.out.i y hy
                    · rw [List.mem_singleton] at hy; subst hy
                      exact ⟨hf.1, hf.2.1, by have := hkl.out; have := hlll.out; show k ≤ 40000; omega, hf.2.2⟩, hI.out.p, hI.out.d⟩)
                  have hin := Lib.hid (show its.length < 4096 from by have := hI.out.n; omega)
                  have h4i : ¬ (4096 : Int) ≤ (its.length : Int) := by have := hI.out.n; omega
                  have h4j : (its.length : Int) < 4096 := by have := hI.out.n; omega
                  have hvi := own_slice (HO2.out.o 0 _ rfl)
                  obtain ⟨Ai, ci, hvi, -, -⟩ := hvi
                  simp only at hvi
                  subst hvi
                  clear hA1 hA hRt hC hdf hL3 hI hNm hf h4
                  go_wp2_with fail
                  refine hC1.out.mono ?_
                  rintro e w3 ⟨rfl, k3⟩
                  have HO3 := HO2.out.below k3
                  have HO4 := HO3.below ((Below.refl _ _).alloc (Nat.le_refl _) (.cells #[.int .u32 x, .int .i64 i.op, .int .i64 i.a, .int .i64 i.b, .int .i64 i.c, .int .i64 i.m, .string ⟨lab.toArray⟩] 75))
                  have c0 : (w3.alloc (.cells #[.int .u32 x, .int .i64 i.op, .int .i64 i.a, .int .i64 i.b, .int .i64 i.c, .int .i64 i.m, .string ⟨lab.toArray⟩] 75)).cell? ⟨w3.heap.size, 0, none⟩ = some (.int .u32 x) := by simp
                  have c1 : (w3.alloc (.cells #[.int .u32 x, .int .i64 i.op, .int .i64 i.a, .int .i64 i.b, .int .i64 i.c, .int .i64 i.m, .string ⟨lab.toArray⟩] 75)).cell? ⟨w3.heap.size, 1, none⟩ = some (.int .i64 i.op) := by simp
                  have c2 : (w3.alloc (.cells #[.int .u32 x, .int .i64 i.op, .int .i64 i.a, .int .i64 i.b, .int .i64 i.c, .int .i64 i.m, .string ⟨lab.toArray⟩] 75)).cell? ⟨w3.heap.size, 2, none⟩ = some (.int .i64 i.a) := by simp
                  have c3 : (w3.alloc (.cells #[.int .u32 x, .int .i64 i.op, .int .i64 i.a, .int .i64 i.b, .int .i64 i.c, .int .i64 i.m, .string ⟨lab.toArray⟩] 75)).cell? ⟨w3.heap.size, 3, none⟩ = some (.int .i64 i.b) := by simp
                  have c4 : (w3.alloc (.cells #[.int .u32 x, .int .i64 i.op, .int .i64 i.a, .int .i64 i.b, .int .i64 i.c, .int .i64 i.m, .string ⟨lab.toArray⟩] 75)).cell? ⟨w3.heap.size, 4, none⟩ = some (.int .i64 i.c) := by simp
                  have c5 : (w3.alloc (.cells #[.int .u32 x, .int .i64 i.op, .int .i64 i.a, .int .i64 i.b, .int .i64 i.c, .int .i64 i.m, .string ⟨lab.toArray⟩] 75)).cell? ⟨w3.heap.size, 5, none⟩ = some (.int .i64 i.m) := by simp
                  have c6 : (w3.alloc (.cells #[.int .u32 x, .int .i64 i.op, .int .i64 i.a, .int .i64 i.b, .int .i64 i.c, .int .i64 i.m, .string ⟨lab.toArray⟩] 75)).cell? ⟨w3.heap.size, 6, none⟩ = some (.string ⟨lab.toArray⟩) := by simp
                  replace HO4 := Lib.hid HO4
                  clear k3 hC1 HO3
                  unfold itV
                  go_upto_region 20 with (fail)
                  generalize (w3.alloc (.cells #[.int .u32 x, .int .i64 i.op, .int .i64 i.a, .int .i64 i.b, .int .i64 i.c, .int .i64 i.m, .string ⟨lab.toArray⟩] 75)) = w4 at *
                  generalize w3.heap.size = gx at *
                  go_wp2_with (at_builtin; refine wpList_append_lies _ rfl _ _ 91 rfl W.heap.size 75 iti (.agg #[.int .u32 0, .int .i64 0, .int .i64 0, .int .i64 0, .int .i64 0, .int .i64 0, .string ⟨#[]⟩]) 7 64 Tryz.underlying91 ith it0 it1 it2 rfl (by decide) _ _ _ rfl ((HO4.out.o 0 _ rfl).alloc _) ⟨w4.heap.size, 0, none⟩ 1 1 (itV x i lab) rfl rfl ?c1 ?c2 (by decide) ?c3 ?c4 ?c5 _ rfl ?_)
                  case c1 =>
                    intro i u hu
                    match i, hu with
                    | 0, hu => simp [itV] at hu; subst hu; simp [Addr.add]
                    | 1, hu => simp [itV] at hu; subst hu; simp [Addr.add]
                    | 2, hu => simp [itV] at hu; subst hu; simp [Addr.add]
                    | 3, hu => simp [itV] at hu; subst hu; simp [Addr.add]
                    | 4, hu => simp [itV] at hu; subst hu; simp [Addr.add]
                    | 5, hu => simp [itV] at hu; subst hu; simp [Addr.add]
                    | 6, hu => simp [itV] at hu; subst hu; simp [Addr.add]
                  case c2 => intro u hu; simp [itV] at hu; first | (subst hu; rfl) | (rcases hu with rfl | rfl | rfl | rfl | rfl | rfl | rfl <;> rfl)
                  case c3 => have := hin.out; have := hkl.out; have := hlll.out; unfold maxLen; omega
                  case c4 => have := hin.out; have := hkl.out; have := hlll.out; omega
                  case c5 => have := HO4.out.b.size; simp; omega
                  intro g cap w7 hown' hgrow hwhere hglt
                  have H7 := (HO4.out.below ((Below.refl _ _).alloc (Nat.le_refl _) (.cells #[.int .u32 x, .int .i64 i.op, .int .i64 i.a, .int .i64 i.b, .int .i64 i.c, .int .i64 i.m, .string ⟨lab.toArray⟩] 75))).grow (i := 0) rfl (show w7.ownsRow W.heap.size 75 7 (.slice (some ⟨g, 0, none⟩) (its ++ [(x, i, lab, k)]).length cap) (its ++ [(x, i, lab, k)]).length ((its ++ [(x, i, lab, k)]).flatMap itC) from by
                    rw [List.length_append, List.flatMap_append]
                    simpa [itC] using hown') hgrow (hwhere.imp id (fun e => by rw [e]; simp))
                  replace H7 : OL W (RW (its ++ [(x, i, lab, k)]) its lb lb ls [] (.slice (some ⟨g, 0, none⟩) (its ++ [(x, i, lab, k)]).length cap) _ _ _ _ _) w7 := H7
                  rw [List.length_append, List.length_singleton] at H7
                  replace H7 := Lib.hid H7
                  clear c0 c1 c2 c3 c4 c5 c6
                  clear hown' hgrow hwhere hglt
                  go_wp2_with (at_builtin; refine wpList_append_lies _ rfl _ _ 92 rfl W.heap.size 3 ini (.int .i64 0) 1 8 Tryz.underlying92 inh in0 in1 in2 rfl (by decide) _ _ _ rfl ((H7.out.o 1 _ rfl).alloc _) ⟨w7.heap.size, 0, none⟩ 1 1 [.int .i64 (k : Int)] rfl rfl ?c1 ?c2 (by decide) ?c3 ?c4 ?c5 _ rfl ?_)
                  case c1 =>
                    intro i u hu
                    match i, hu with
                    | 0, hu => simp [itV] at hu; subst hu; simp [Addr.add]
                  case c2 => intro u hu; simp [itV] at hu; first | (subst hu; rfl) | (rcases hu with rfl | rfl | rfl | rfl | rfl | rfl | rfl <;> rfl)
                  case c3 => have := hin.out; have := hkl.out; have := hlll.out; unfold maxLen; omega
                  case c4 => have := hin.out; have := hkl.out; have := hlll.out; omega
                  case c5 => have := H7.out.b.size; simp; omega
                  intro g2 cap3 w8 hown' hgrow hwhere hglt
                  have H8 := (H7.out.below ((Below.refl _ _).alloc (Nat.le_refl _) (.cells #[.int .i64 (k : Int)] 3))).grow (i := 1) rfl (show w8.ownsRow W.heap.size 3 1 (.slice (some ⟨g2, 0, none⟩) (its ++ [(x, i, lab, k)]).length cap3) (its ++ [(x, i, lab, k)]).length ((its ++ [(x, i, lab, k)]).map (fun x => .int .i64 (x.2.2.2 : Int))) from by rw [List.length_append, List.map_append]; exact hown') hgrow (hwhere.imp id (fun e => by rw [e]; simp))
                  replace H8 : OL W (RW (its ++ [(x, i, lab, k)]) (its ++ [(x, i, lab, k)]) lb lb ls [] _ (.slice (some ⟨g2, 0, none⟩) (its ++ [(x, i, lab, k)]).length cap3) _ _ _ _) w8 := H8
                  rw [List.length_append, List.length_singleton] at H8
                  replace H8 := Lib.hid H8
                  clear hown' hgrow hwhere hglt
                  go_wp2
                  go_roundw
                  case rel => exact ⟨k + 1, its ++ [(x, i, lab, k)], lb, by have := hkl.out; omega, by go_num, hA2, hI2, H8⟩
                  case measure => have := hkl.out; simp [RowKit.intOf]; omega
      · have hke : k = ls.length := by omega
        have hA1 := hA.out
        rw [hke, List.drop_length] at hA1
        have hRl : Hid (R = linkAll lb.reverse 0 ((its.drop 0).map sh)) := Lib.hid (by
          rw [hR.out, hA1]; rfl)
        have hlbl : lb.length ≤ 32769 := by have := hI.out.l; have := hlll.out; omega
        have hlb3 := Lib.hid hlbl
        have hn4 : (its.length : Int) ≤ 4096 := by have := hI.out.n; omega
        have hFi := Lib.hid (fun (nm : List UInt8) (w : World) (v : Value) (ho : w.ownsRow W.heap.size 9 1 v lb.length (lb.map (fun x => strV x.1))) => rfind_any (lb.map (·.1)) v W.heap.size nm w (by rw [List.length_map, List.map_map]; exact ho) (by rw [List.length_map]; omega))
        obtain ⟨Ai, ci, hvi, -, -⟩ := own_slice (HO.out.o 0 _ rfl)
        simp only at hvi
        subst hvi
        obtain ⟨Aa, ca, hvi, -, -⟩ := own_slice (HO.out.o 1 _ rfl)
        simp only at hvi
        subst hvi
        obtain ⟨Ap, cp, hvi, -, -⟩ := own_slice (HO.out.o 3 _ rfl)
        simp only at hvi
        subst hvi
        clear hA hA1 hR hlbl hts hlll hke
        go_wp2_with fail
        go_loopw [14, 15, 16, 17, 18, 19] (fun vo iv _ _ _ _ wr => ∃ (j : Nat) (os : List Int), j ≤ its.length ∧ iv = .int .i64 j ∧ Hid (R = match linkAll lb.reverse j ((its.drop j).map sh) with | .ok l => .ok (os ++ l) | .error e => .error e) ∧ Hid (os.length = j) ∧ Hid (OL W (RW its its lb lb ls os (.slice Ai its.length ci) (.slice Aa its.length ca) u6 (.slice Ap lb.length cp) (.slice (some ⟨gl, 0, none⟩) ls.length cl) vo) wr)) (fun _ iv _ _ _ _ _ => its.length - (RowKit.intOf iv).toNat)
        case atStart => exact ⟨0, [], Nat.zero_le _, rfl, Lib.hid (by rw [hRl.out]; cases linkAll lb.reverse 0 ((its.drop 0).map sh) <;> rfl), Lib.hid rfl, HO⟩
        case round =>
          clear HO hRl
          obtain ⟨j, os, hj, rfl, hS, hol, HO⟩ := hrel
          by_cases hjt : j < its.length
          · obtain ⟨gi, ci', hvi, -, -⟩ := (HO.out.o 0 _ rfl).form (by show 0 < its.length; omega)
            simp only [Value.slice.injEq, true_and] at hvi
            obtain ⟨rfl, rfl⟩ := hvi
            obtain ⟨ga, ca', hvi, -, -⟩ := (HO.out.o 1 _ rfl).form (by show 0 < its.length; omega)
            simp only [Value.slice.injEq, true_and] at hvi
            obtain ⟨rfl, rfl⟩ := hvi
            have hji : (j : Int) < (its.length : Int) := by omega
            have hjl := Lib.hid (And.intro hj hjt)
            have hce := Lib.hid (fun t (ht : t < 7) => show wr.cell? ⟨gi, j * 7 + t, none⟩ = (itC its[j])[t]? from by rw [(HO.out.o 0 _ rfl).cellAt (j * 7 + t) (by show j * 7 + t < its.length * 7; omega)]; exact flat7 its j t hjt ht)
            have hme := hI.out.i its[j] (List.getElem_mem hjt)
            have hdr : its.drop j = its[j] :: its.drop (j + 1) := List.drop_eq_getElem_cons hjt
            have hS1 := hS.out
            rw [hdr, List.map_cons] at hS1
            have e3 : its[j]? = some its[j] := List.getElem?_eq_getElem hjt
            have at1 := (HO.out.o 1 _ rfl).cellAt j (by show j < its.length * 1; omega)
            replace at1 : wr.cell? _ = (its.map (fun x => (.int .i64 (x.2.2.2 : Int) : Value)))[j]? := at1
            rw [List.getElem?_map, e3] at at1
            generalize its[j] = z at *
            obtain ⟨x, i, lab, n⟩ := z
            have c0 : wr.cell? ⟨gi, j * 7, none⟩ = some (.int .u32 x) := hce.out 0 (by omega)
            have c1 : wr.cell? ⟨gi, j * 7 + 1, none⟩ = some (.int .i64 i.op) := hce.out 1 (by omega)
            have c2 : wr.cell? ⟨gi, j * 7 + 2, none⟩ = some (.int .i64 i.a) := hce.out 2 (by omega)
            have c3 : wr.cell? ⟨gi, j * 7 + 3, none⟩ = some (.int .i64 i.b) := hce.out 3 (by omega)
            have c4 : wr.cell? ⟨gi, j * 7 + 4, none⟩ = some (.int .i64 i.c) := hce.out 4 (by omega)
            have c5 : wr.cell? ⟨gi, j * 7 + 5, none⟩ = some (.int .i64 i.m) := hce.out 5 (by omega)
            have c6 : wr.cell? ⟨gi, j * 7 + 6, none⟩ = some (.string ⟨lab.toArray⟩) := hce.out 6 (by omega)
            have kbx : ∀ l : List UInt8, Hid (Below wr.heap.size wr (wr.alloc (.cells #[.int .u32 x, .int .i64 i.op, .int .i64 i.a, .int .i64 i.b, .int .i64 i.c, .int .i64 i.m, .string ⟨l.toArray⟩] 75))) := fun l => Lib.hid ((Below.refl _ _).alloc (Nat.le_refl _) _)
            by_cases hlab : lab = []
            · subst hlab
              have HO4 := Lib.hid (HO.out.below (kbx []).out)
              have hS2 := Lib.hid (show R = match linkAll lb.reverse (j + 1) ((its.drop (j + 1)).map sh) with | .ok l => .ok ((os ++ [x]) ++ l) | .error e => .error e from by
                rw [hS1]
                show (match linkAll lb.reverse j ((x, [], n) :: (its.drop (j + 1)).map sh) with | Except.ok l => Except.ok (os ++ l) | Except.error e => Except.error e) = _
                rw [linkAll, if_pos rfl]
                cases linkAll lb.reverse (j + 1) ((its.drop (j + 1)).map sh) with
                | ok l => simp
                | error e => rfl)
              have b0 : (wr.alloc (.cells #[.int .u32 x, .int .i64 i.op, .int .i64 i.a, .int .i64 i.b, .int .i64 i.c, .int .i64 i.m, .string ⟨([] : List UInt8).toArray⟩] 75)).cell? ⟨wr.heap.size, 0, none⟩ = some (.int .u32 x) := by simp
              have b6 : (wr.alloc (.cells #[.int .u32 x, .int .i64 i.op, .int .i64 i.a, .int .i64 i.b, .int .i64 i.c, .int .i64 i.m, .string ⟨([] : List UInt8).toArray⟩] 75)).cell? ⟨wr.heap.size, 6, none⟩ = some (.string ⟨([] : List UInt8).toArray⟩) := by simp
              clear hme e3 hdr kbx hS1 hS hce at1
              go_upto_region 31 with (fail)
              clear c0 c1 c2 c3 c4 c5 c6
              generalize (wr.alloc (.cells #[.int .u32 x, .int .i64 i.op, .int .i64 i.a, .int .i64 i.b, .int .i64 i.c, .int .i64 i.m, .string ⟨([] : List UInt8).toArray⟩] 75)) = w4 at *
              generalize wr.heap.size = gx at *
              go_wp2_with (at_builtin; refine wpList_append_lies _ rfl _ _ 22 rfl W.heap.size 24 wwi (.int .u32 0) 1 4 Tryz.underlying22 wwh ww0 ww1 ww2 rfl (by decide) _ _ _ rfl ((HO4.out.o 5 _ rfl).alloc _) ⟨w4.heap.size, 0, none⟩ 1 1 [.int .u32 x] rfl rfl ?c1 ?c2 (by decide) ?c3 ?c4 ?c5 _ rfl ?_)
              case c1 =>
                intro i u hu
                match i, hu with
                | 0, hu => simp [itV] at hu; subst hu; simp [Addr.add]
              case c2 => intro u hu; simp [itV] at hu; first | (subst hu; rfl) | (rcases hu with rfl | rfl | rfl | rfl | rfl | rfl | rfl <;> rfl)
              case c3 => have := hol.out; have := hjl.out; have := hI.out.n; unfold maxLen; omega
              case c4 => have := hol.out; have := hjl.out; have := hI.out.n; omega
              case c5 => have := HO4.out.b.size; simp; omega
              intro g cap w7 hown' hgrow hwhere hglt
              have H8 := (HO4.out.below ((Below.refl _ _).alloc (Nat.le_refl _) (.cells #[.int .u32 x] 24))).grow (i := 5) rfl (show w7.ownsRow W.heap.size 24 1 (.slice (some ⟨g, 0, none⟩) (os ++ [x]).length cap) (os ++ [x]).length ((os ++ [x]).map wV) from by rw [List.length_append, List.map_append]; exact hown') hgrow (hwhere.imp id (fun e => by rw [e]; simp))
              replace H8 : OL W (RW its its lb lb ls (os ++ [x]) _ _ _ _ _ (.slice (some ⟨g, 0, none⟩) (os ++ [x]).length cap)) w7 := H8
              rw [List.length_append, List.length_singleton] at H8
              replace H8 := Lib.hid H8
              have hol2 := Lib.hid (show (os ++ [x]).length = j + 1 from by rw [List.length_append, hol.out]; rfl)
              clear b0 b6
              clear hown' hgrow hwhere hglt
              go_wp2
              go_roundw
              case rel => exact ⟨j + 1, os ++ [x], by have := hjl.out; omega, by go_num, hS2, hol2, H8⟩
              case measure => have := hjl.out; simp [RowKit.intOf]; omega
            · have hix := hme.2.2.2 hlab
              have hlo : linkAll lb.reverse j ((x, lab, n) :: (its.drop (j + 1)).map sh) = match linkOne lb.reverse j x lab n with
                | .error e => .error e
                | .ok y => (match linkAll lb.reverse (j + 1) ((its.drop (j + 1)).map sh) with
                  | .ok l => .ok (y :: l)
                  | .error e => .error e) := by rw [linkAll, if_neg hlab]; cases linkOne lb.reverse j x lab n <;> rfl
              have hb4 := Lib.hid (HO.out.below (kbx lab).out).b
              have hF2 := Lib.hid (hFi.out lab _ _ ((HO.out.below (kbx lab).out).o 2 _ rfl))
              replace hS1 : R = match linkAll lb.reverse j ((x, lab, n) :: (its.drop (j + 1)).map sh) with | Except.ok l => Except.ok (os ++ l) | Except.error e => Except.error e := hS1
              rw [hlo] at hS1
              unfold linkOne at hS1
              replace hix : i = decW x := hix
              rw [← hix] at hS1
              replace at1 : wr.cell? ⟨ga, j, none⟩ = some (.int .i64 (n : Int)) := at1
              have hga : ga < wr.heap.size := ((HO.out.o 1 _ rfl).lt ga rfl).2
              have hie : lab.isEmpty = false := by simpa using hlab
              rcases lab_find lb lab hI.out.d with ⟨hf1, hf2⟩ | ⟨q, p, hf1, hfq, hf2⟩
              · have hfi : findI (lb.map (·.1)) lab = -1 := by unfold findI; rw [hf1]
                have hF3 := hF2.out
                rw [hfi] at hF3
                replace hF3 := Lib.hid hF3
                rw [hf2] at hS1
                have hRe := Lib.hid (show R = .error (9, n) from hS1)
                have at4 : (wr.alloc (.cells #[.int .u32 x, .int .i64 i.op, .int .i64 i.a, .int .i64 i.b, .int .i64 i.c, .int .i64 i.m, .string ⟨lab.toArray⟩] 75)).cell? ⟨ga, j, none⟩ = some (.int .i64 (n : Int)) := ((kbx lab).out.cell hga).trans at1
                have b6 : (wr.alloc (.cells #[.int .u32 x, .int .i64 i.op, .int .i64 i.a, .int .i64 i.b, .int .i64 i.c, .int .i64 i.m, .string ⟨lab.toArray⟩] 75)).cell? ⟨wr.heap.size, 6, none⟩ = some (.string ⟨lab.toArray⟩) := by simp
                clear hme e3 hdr kbx hS1 hS hce hlo hF2 hFi hix hf1 hf2 hfi hlab
                go_wp2_with fail
                refine hF3.out.mono ?_
                rintro e w' ⟨rfl, rfl⟩
                go_wp2_with fail
                go_region
                all_goals
                  go_wp2
                  rw [hD.out]
                  exact DPost.err2 hRe.out hb4.out (by first | rfl | simp) rfl (by first | rfl | simp)
              · have hfi : findI (lb.map (·.1)) lab = (q : Int) := by unfold findI; rw [hf1]
                have hF3 := hF2.out
                rw [hfi] at hF3
                replace hF3 := Lib.hid hF3
                rw [hf2] at hS1
                have hql : q < lb.length := (List.getElem?_eq_some_iff.1 hfq).1
                obtain ⟨gp, cp', hvi, -, -⟩ := (HO.out.o 3 _ rfl).form (by show 0 < lb.length; omega)
                simp only [Value.slice.injEq, true_and] at hvi
                obtain ⟨rfl, rfl⟩ := hvi
                have hgp : gp < wr.heap.size := ((HO.out.o 3 _ rfl).lt gp rfl).2
                have pc := (HO.out.o 3 _ rfl).cellAt q (by show q < lb.length * 1; omega)
                replace pc : wr.cell? ⟨gp, q, none⟩ = (lb.map (fun x => (.int .i64 (x.2 : Int) : Value)))[q]? := pc
                rw [List.getElem?_map, hfq] at pc
                replace pc : wr.cell? ⟨gp, q, none⟩ = some (.int .i64 (p : Int)) := pc
                have hp4 := hI.out.p (lab, p) (List.mem_of_getElem? hfq)
                replace hp4 : (p : Int) ≤ 4096 := by have : p ≤ 4096 := hp4; omega
                have hqi : (q : Int) < (lb.length : Int) := by omega
                have hq0 : (0 : Int) ≤ (q : Int) := by omega
                have hqn : ¬ (q : Int) < 0 := by omega
                obtain ⟨m, hm⟩ : ∃ m, m = (p : Int) - (j : Int) := ⟨_, rfl⟩
                have hEn := fun w => rEncode_any i.op i.a i.b i.c m w
                simp only [← hm] at hS1
                have pc4 : (wr.alloc (.cells #[.int .u32 x, .int .i64 i.op, .int .i64 i.a, .int .i64 i.b, .int .i64 i.c, .int .i64 i.m, .string ⟨lab.toArray⟩] 75)).cell? ⟨gp, q, none⟩ = some (.int .i64 (p : Int)) := ((kbx lab).out.cell hgp).trans pc
                have b6 : (wr.alloc (.cells #[.int .u32 x, .int .i64 i.op, .int .i64 i.a, .int .i64 i.b, .int .i64 i.c, .int .i64 i.m, .string ⟨lab.toArray⟩] 75)).cell? ⟨wr.heap.size, 6, none⟩ = some (.string ⟨lab.toArray⟩) := by simp
                have kbm : Hid (Below wr.heap.size wr (wr.alloc (.cells #[.int .u32 x, .int .i64 i.op, .int .i64 i.a, .int .i64 i.b, .int .i64 i.c, .int .i64 m, .string ⟨lab.toArray⟩] 75))) := Lib.hid ((Below.refl _ _).alloc (Nat.le_refl _) _)
                have hbm := Lib.hid (HO.out.below kbm.out).b
                have atm : (wr.alloc (.cells #[.int .u32 x, .int .i64 i.op, .int .i64 i.a, .int .i64 i.b, .int .i64 i.c, .int .i64 m, .string ⟨lab.toArray⟩] 75)).cell? ⟨ga, j, none⟩ = some (.int .i64 (n : Int)) := (kbm.out.cell hga).trans at1
                have hmw : wrap64 ((p : Int) - (j : Int)) = m := by rw [hm]; exact IntWalk.wrap64_in _ ⟨by omega, by omega⟩
                clear hme e3 hdr kbx hS hce hlo hF2 hFi hix hf1 hf2 hfi hlab hfq
                cases hmay : mayB ⟨i.op, i.a, i.b, i.c, m⟩ with
                | false =>
                  have hRe := Lib.hid (show R = .error (3, n) from by rw [hS1, if_neg (by rw [hmay]; decide)])
                  have hE := Lib.hid (fun w => (hEn w).mono (fun e w' he => EncPost.at_no he hmay))
                  clear hS1 hEn hmay
                  go_wp2_with fail
                  refine hF3.out.mono ?_
                  rintro e w' ⟨rfl, rfl⟩
                  go_wp2_with fail
                  subst hm
                  refine (hE.out _).mono ?_
                  rintro e w5 ⟨rfl, k5⟩
                  have hb5 := Lib.hid (hbm.out.trans (k5.mono hbm.out.size))
                  have at5 : w5.cell? ⟨ga, j, none⟩ = some (.int .i64 (n : Int)) := (k5.cell (by simp; omega)).trans atm
                  clear k5 hE hF3 HO pc4 pc at1 atm b6 kbm hmw hbm c0 c1 c2 c3 c4 c5 c6
                  go_wp2_with fail
                  go_region
                  all_goals
                    go_wp2
                    rw [hD.out]
                    exact DPost.err2 hRe.out hb5.out (by first | rfl | simp) rfl (by first | rfl | simp)
                | true =>
                  have hS2 := Lib.hid (show R = match linkAll lb.reverse (j + 1) ((its.drop (j + 1)).map sh) with | .ok l => .ok ((os ++ [encW ⟨i.op, i.a, i.b, i.c, m⟩]) ++ l) | .error e => .error e from by
                    rw [hS1, if_pos hmay]
                    cases linkAll lb.reverse (j + 1) ((its.drop (j + 1)).map sh) with
                    | ok l => simp
                    | error e => rfl)
                  have hE := Lib.hid (fun w => (hEn w).mono (fun e w' he => EncPost.at_yes he hmay))
                  generalize encW ⟨i.op, i.a, i.b, i.c, m⟩ = y at *
                  clear hS1 hEn hmay
                  go_wp2_with fail
                  refine hF3.out.mono ?_
                  rintro e w' ⟨rfl, rfl⟩
                  go_wp2_with fail
                  subst hm
                  refine (hE.out _).mono ?_
                  rintro e w5 ⟨rfl, k5⟩
                  have k6 : Hid (Below wr.heap.size wr (w5.setCell ⟨wr.heap.size, 0, none⟩ (.int .u32 y))) := Lib.hid ((kbm.out.trans (k5.mono (by simp))).setCell (Nat.le_refl _) _)
                  have HO6 := Lib.hid (HO.out.below k6.out)
                  have b0 : w5.cell? ⟨wr.heap.size, 0, none⟩ = some (.int .u32 x) := (k5.cell (by simp)).trans (by simp)
                  have f0 : w5.frozen? ⟨wr.heap.size, 0, none⟩ = false := (k5.frozen (by simp)).trans (by simp)
                  have b8 : (w5.setCell ⟨wr.heap.size, 0, none⟩ (.int .u32 y)).cell? ⟨wr.heap.size, 0, none⟩ = some (.int .u32 y) := World.cell?_setCell_same _ _ _ b0
                  clear k5 k6 hE hF3 HO pc4 pc at1 atm b6 kbm hmw
                  go_upto_region 40 with (fail)
                  clear c0 c1 c2 c3 c4 c5 c6 b0 f0
                  generalize (w5.setCell ⟨wr.heap.size, 0, none⟩ (.int .u32 y)) = w4 at *
                  generalize wr.heap.size = gx at *
                  go_wp2_with (at_builtin; refine wpList_append_lies _ rfl _ _ 22 rfl W.heap.size 24 wwi (.int .u32 0) 1 4 Tryz.underlying22 wwh ww0 ww1 ww2 rfl (by decide) _ _ _ rfl ((HO6.out.o 5 _ rfl).alloc _) ⟨w4.heap.size, 0, none⟩ 1 1 [.int .u32 y] rfl rfl ?c1 ?c2 (by decide) ?c3 ?c4 ?c5 _ rfl ?_)
                  case c1 =>
                    intro i u hu
                    match i, hu with
                    | 0, hu => simp [itV] at hu; subst hu; simp [Addr.add]
                  case c2 => intro u hu; simp [itV] at hu; first | (subst hu; rfl) | (rcases hu with rfl | rfl | rfl | rfl | rfl | rfl | rfl <;> rfl)
                  case c3 => have := hol.out; have := hjl.out; have := hI.out.n; unfold maxLen; omega
                  case c4 => have := hol.out; have := hjl.out; have := hI.out.n; omega
                  case c5 => have := HO6.out.b.size; simp; omega
                  intro g cap w7 hown' hgrow hwhere hglt
                  have H8 := (HO6.out.below ((Below.refl _ _).alloc (Nat.le_refl _) (.cells #[.int .u32 y] 24))).grow (i := 5) rfl (show w7.ownsRow W.heap.size 24 1 (.slice (some ⟨g, 0, none⟩) (os ++ [y]).length cap) (os ++ [y]).length ((os ++ [y]).map wV) from by rw [List.length_append, List.map_append]; exact hown') hgrow (hwhere.imp id (fun e => by rw [e]; simp))
                  replace H8 : OL W (RW its its lb lb ls (os ++ [y]) _ _ _ _ _ (.slice (some ⟨g, 0, none⟩) (os ++ [y]).length cap)) w7 := H8
                  rw [List.length_append, List.length_singleton] at H8
                  replace H8 := Lib.hid H8
                  have hol2 := Lib.hid (show (os ++ [y]).length = j + 1 from by rw [List.length_append, hol.out]; rfl)
                  clear b8
                  clear hown' hgrow hwhere hglt
                  go_wp2
                  go_roundw
                  case rel => exact ⟨j + 1, os ++ [y], by have := hjl.out; omega, by go_num, hS2, hol2, H8⟩
                  case measure => have := hjl.out; simp [RowKit.intOf]; omega
          · have hje : j = its.length := by omega
            have hS1 := hS.out
            rw [hje, List.drop_length] at hS1
            have hRo := Lib.hid (show R = .ok os from by rw [hS1]; simp [linkAll])
            have hoe := Lib.hid (show os.length ≤ 4096 from by have := hol.out; have := hI.out.n; omega)
            clear hS1 hS hje
            go_wp2
            rw [hD.out, hRo.out]
            exact ⟨_, rfl, HO.out.o 5 _ rfl, HO.out.b, hoe.out⟩
end Go.Proofs.YtdkggahkfheocaaGreatDoor
