/- Contracts of layer asm, the document's side: the word of a text. No statement is proved here.; Contracts of layer asm, the document's side: a source's lines, a line without its remark, a name among names. No statement is proved here.; Plain words for layer asm, the document's side: what a line is, read word by word; labels among names; rows of a call's own, beside one another. No statement is proved here. -/
import Derived.Test.YtdkggahkfheocaaGreatDoorAsDr
import Derived.Test.YtdkggahkfheocaaGreatDoorAsL
import Derived.Test.YtdkggahkfheocaaGreatDoorAqE
namespace Go.Proofs.YtdkggahkfheocaaGreatDoor
set_option maxRecDepth 100000
open Go.RowKit Go.Lib
set_option linter.unusedVariables false

theorem wordsF_len : ∀ (l w : List UInt8), (∀ x, x ∈ wordsF w l → x.length ≤ w.length + l.length) ∧ (wordsF w l).length ≤ w.length + l.length
  | [], w => by
    unfold wordsF
    split
    · exact ⟨fun x hx => (by cases hx), Nat.zero_le _⟩
    · rename_i h
      refine ⟨fun x hx => ?_, ?_⟩
      · rw [List.mem_singleton] at hx; subst hx; simp
      · have : 0 < w.length := List.length_pos_iff.2 h
        simp only [List.length_cons, List.length_nil]; omega
  | c :: l, w => by
    have h0 := wordsF_len l []
    have h1 := wordsF_len l (w ++ [c])
    simp only [List.length_append, List.length_cons, List.length_nil] at h0 h1 ⊢
    unfold wordsF
    split
    · split
      · exact ⟨fun x hx => by have := h0.1 x hx; omega, by omega⟩
      · rename_i h
        have hp : 0 < w.length := List.length_pos_iff.2 h
        refine ⟨fun x hx => ?_, by simp only [List.length_cons]; omega⟩
        rcases List.mem_cons.1 hx with rfl | hx
        · omega
        · have := h0.1 x hx; omega
    · exact ⟨fun x hx => by have := h1.1 x hx; omega, by omega⟩
theorem words_len8 (l : List UInt8) : (∀ x, x ∈ wordsL l → x.length ≤ l.length) ∧ (wordsL l).length ≤ l.length := by
  have := wordsF_len l []
  unfold wordsL
  simpa using this
theorem own_TL {w : World} {base : Nat} {v : Value} {ts : List (List UInt8)} (h : w.ownsRow base 9 1 v ts.length (ts.map strV)) (hn : 0 < ts.length) : ∃ A cap, v = .slice A ts.length cap ∧ TL w A ts := by
  obtain ⟨g, cap, rfl, hb, hg⟩ := h.form hn
  refine ⟨_, cap, rfl, g, rfl, hg, fun j t ht => ?_⟩
  have hj : j < ts.length := (List.getElem?_eq_some_iff.1 ht).1
  rw [h.cellAt j (by omega), List.getElem?_map, ht]
  rfl
theorem TL.below {w w' : World} {A : Option Addr} {ts : List (List UInt8)} (h : TL w A ts) (k : Below w.heap.size w w') : TL w' A ts := by
  obtain ⟨b, e, hb, hc⟩ := h
  exact ⟨b, e, Nat.lt_of_lt_of_le hb k.size, fun j t ht => (k.cell (p := ⟨b, j, none⟩) hb).trans (hc j t ht)⟩
theorem readP_nil : readP [] = none := by decide
theorem lineV_none {l : List UInt8} (h : readP (wordsL l) = none) : lineV l = (0, 4) := by unfold lineV; rw [h]
set_option maxHeartbeats 2000000 in
theorem rline_any (l : List UInt8) (hl : l.length ≤ 1048576) (W : World) : Calls Tryz.prog 16 #[.string ⟨l.toArray⟩] W fun e w' => e = .returned (.tuple #[.int .u32 (lineV l).1, .int .i64 (lineV l).2]) ∧ Below W.heap.size W w' := by
  have hW := rwords_any l hl W
  have hwl := words_len8 l
  obtain ⟨ts, hts⟩ : ∃ ts, ts = wordsL l := ⟨_, rfl⟩
  have hund : undef = Value.tuple #[] := rfl
  rw [← hts] at hW hwl
  cases ts with
  | nil =>
    rw [lineV_none (by rw [← hts]; exact readP_nil)]
    replace hW := Lib.hid hW
    clear hts hwl hl
    go_enter Tryz.func16, Tryz.ntmps16
    go_wp2_with fail
    refine hW.out.mono ?_
    rintro e w1 ⟨v, rfl, ho, k1⟩
    obtain ⟨A, cap, rfl, -, -⟩ := own_slice ho
    go_wp2
    go_ret2
    exact ⟨rfl, k1⟩
  | cons a r =>
    have hn : r.length ≤ 1048576 := by have := hwl.2; simp only [List.length_cons] at this; omega
    have hrl : ∀ t, t ∈ r → t.length ≤ 1048576 := fun t ht => by have := hwl.1 t (List.mem_cons_of_mem _ ht); omega
    have hRd := doc_read a r
    have hC := fun A cap w h => rread_any a r A cap w h hn hrl
    have hlen : (a :: r).length = r.length + 1 := rfl
    have hni : (r.length : Int) ≤ 1048576 := by omega
    have hpl := fun (h : ∃ x, readP (wordsL l) = some (x, [])) => h
    unfold lineV
    rw [← hts]
    have hlab : ∀ x lab, readP (a :: r) = some (x, lab) → lab ≠ [] → printL x ≠ l := fun x lab h1 h2 h3 => by
      have hx := readP_low h1
      have := read_print x hx.1 hx.2
      rw [h3, ← hts, h1] at this
      exact h2 (Prod.mk.inj (Option.some.inj this)).2
    have hlow : ∀ x lab, readP (a :: r) = some (x, lab) → 0 ≤ x ∧ x < 4294967296 := fun x lab h => readP_low h
    rw [hRd] at hlab hlow ⊢
    generalize docR (a :: r) = R at *
    replace hW := Lib.hid hW
    replace hC := Lib.hid hC
    clear hts hwl hl hrl hRd hpl
    cases R with
    | none =>
      clear hlab hlow
      simp only [Option.map_none]
      go_enter Tryz.func16, Tryz.ntmps16
      go_wp2_with fail
      refine hW.out.mono ?_
      rintro e w1 ⟨v, rfl, ho, k1⟩
      obtain ⟨A, cap, rfl, hT⟩ := own_TL ho (by simp)
      have hC1 := hC.out A cap w1 hT
      unfold RdPost at hC1
      rw [hlen] at hC1 ⊢
      replace hC1 := Lib.hid hC1
      have hb1 := Lib.hid k1
      clear ho k1 hT hW hC
      go_wp2_with fail
      refine hC1.out.mono ?_
      rintro e w2 ⟨x, i, lab, rfl, k2⟩
      have hb2 := Lib.hid (hb1.out.trans (k2.mono hb1.out.size))
      clear k2 hC1
      unfold itV
      go_wp2
      go_ret2
      exact ⟨rfl, hb2.out.alloc hb2.out.size _⟩
    | some z =>
      obtain ⟨x, i, lab⟩ := z
      simp only [Option.map_some]
      have hlw := hlow x lab rfl
      have hP := fun w => rprint_any x hlw.1 hlw.2 w
      by_cases hlb : lab = []
      · subst hlb
        by_cases hp : printL x = l
        · rw [if_pos hp]
          rw [hp] at hP
          replace hP := Lib.hid hP
          have hll : (l == l) = true := by simp
          clear hlab hlow hlw hp
          go_enter Tryz.func16, Tryz.ntmps16
          go_wp2_with fail
          refine hW.out.mono ?_
          rintro e w1 ⟨v, rfl, ho, k1⟩
          obtain ⟨A, cap, rfl, hT⟩ := own_TL ho (by simp)
          have hC1 := hC.out A cap w1 hT
          unfold RdPost at hC1
          rw [hlen] at hC1 ⊢
          replace hC1 := Lib.hid hC1
          have hb1 := Lib.hid k1
          clear ho k1 hT hW hC
          go_wp2_with fail
          refine hC1.out.mono ?_
          rintro e w2 ⟨rfl, k2⟩
          have hb2 := Lib.hid (hb1.out.trans (k2.mono hb1.out.size))
          clear k2 hC1
          unfold itV
          go_wp2_with fail
          refine (hP.out _).mono ?_
          rintro e w3 ⟨rfl, k3⟩
          have hb2' := hb2.out.alloc hb2.out.size (.cells #[.int .u32 x, .int .i64 i.op, .int .i64 i.a, .int .i64 i.b, .int .i64 i.c, .int .i64 i.m, .string ⟨#[]⟩] 75)
          have hb3 := Lib.hid (hb2'.trans (k3.mono hb2'.size))
          have c0 : w3.cell? ⟨w2.heap.size, 0, none⟩ = some (.int .u32 x) := (k3.cell (p := ⟨w2.heap.size, 0, none⟩) (by simp)).trans (by simp)
          clear k3 hP hb2'
          go_wp2
          go_ret2
          exact ⟨rfl, hb3.out⟩
        · rw [if_neg hp]
          have hf : (printL x == l) = false := by simpa using hp
          have hf2 : (printL x != l) = true := by rw [bne, hf]; rfl
          generalize printL x = q at *
          replace hP := Lib.hid hP
          clear hlab hlow hlw hp
          go_enter Tryz.func16, Tryz.ntmps16
          go_wp2_with fail
          refine hW.out.mono ?_
          rintro e w1 ⟨v, rfl, ho, k1⟩
          obtain ⟨A, cap, rfl, hT⟩ := own_TL ho (by simp)
          have hC1 := hC.out A cap w1 hT
          unfold RdPost at hC1
          rw [hlen] at hC1 ⊢
          replace hC1 := Lib.hid hC1
          have hb1 := Lib.hid k1
          clear ho k1 hT hW hC
          go_wp2_with fail
          refine hC1.out.mono ?_
          rintro e w2 ⟨rfl, k2⟩
          have hb2 := Lib.hid (hb1.out.trans (k2.mono hb1.out.size))
          clear k2 hC1
          unfold itV
          go_wp2_with fail
          refine (hP.out _).mono ?_
          rintro e w3 ⟨rfl, k3⟩
          have hb2' := hb2.out.alloc hb2.out.size (.cells #[.int .u32 x, .int .i64 i.op, .int .i64 i.a, .int .i64 i.b, .int .i64 i.c, .int .i64 i.m, .string ⟨#[]⟩] 75)
          have hb3 := Lib.hid (hb2'.trans (k3.mono hb2'.size))
          clear k3 hP hb2'
          go_wp2
          go_ret2
          exact ⟨rfl, hb3.out⟩
      · rw [if_neg (hlab x lab rfl hlb)]
        have f2 : lab.isEmpty = false := by simpa using hlb
        clear hlab hlow hlw hP hlb
        go_enter Tryz.func16, Tryz.ntmps16
        go_wp2_with fail
        refine hW.out.mono ?_
        rintro e w1 ⟨v, rfl, ho, k1⟩
        obtain ⟨A, cap, rfl, hT⟩ := own_TL ho (by simp)
        have hC1 := hC.out A cap w1 hT
        unfold RdPost at hC1
        rw [hlen] at hC1 ⊢
        replace hC1 := Lib.hid hC1
        have hb1 := Lib.hid k1
        clear ho k1 hT hW hC
        go_wp2_with fail
        refine hC1.out.mono ?_
        rintro e w2 ⟨rfl, k2⟩
        have hb2 := Lib.hid (hb1.out.trans (k2.mono hb1.out.size))
        clear k2 hC1
        unfold itV
        go_wp2
        go_ret2
        exact ⟨rfl, hb2.out.alloc hb2.out.size _⟩
end Go.Proofs.YtdkggahkfheocaaGreatDoor
namespace Go.Proofs.YtdkggahkfheocaaGreatDoor
set_option maxRecDepth 100000
open Go.RowKit Go.Lib
set_option linter.unusedVariables false

theorem slice_mid (l : List UInt8) (a b : Nat) (h1 : a ≤ b) (h2 : b ≤ l.length) (w : World) : (Instr.slice 9 (.string ⟨l.toArray⟩) (some (.int .i64 (a : Int))) (some (.int .i64 (b : Int))) none).run Tryz.prog w = .ok (.string ⟨((l.drop a).take (b - a)).toArray⟩) w := by
  rw [run_slice_string w 9 ⟨l.toArray⟩ .i64 .i64 a b Tryz.underlying9 (by omega) (by omega) (by rw [size_mk]; omega)]
  congr 2
  rw [Lib.extract_eq, show ((a : Int)).toNat = a from by omega, show ((b : Int)).toNat = b from by omega]
theorem slice_pre (l : List UInt8) (b : Nat) (h2 : b ≤ l.length) (w : World) : (Instr.slice 9 (.string ⟨l.toArray⟩) none (some (.int .i64 (b : Int))) none).run Tryz.prog w = .ok (.string ⟨(l.take b).toArray⟩) w := by
  rw [run_slice_string_h w 9 ⟨l.toArray⟩ Tryz.underlying9 .i64 b (by omega) (by rw [size_mk]; omega)]
  congr 2
  rw [Lib.extract_eq, show ((b : Int)).toNat = b from by omega]
  simp
theorem slice_suf (l : List UInt8) (a : Nat) (h2 : a ≤ l.length) (w : World) : (Instr.slice 9 (.string ⟨l.toArray⟩) (some (.int .i64 (a : Int))) none none).run Tryz.prog w = .ok (.string ⟨(l.drop a).toArray⟩) w := by
  rw [run_slice_string_l w 9 ⟨l.toArray⟩ Tryz.underlying9 .i64 a (by omega) (by rw [size_mk]; omega)]
  congr 2
  rw [Lib.extract_eq, show ((a : Int)).toNat = a from by omega, size_mk]
  have e : (l.drop a).take (l.length - a) = l.drop a := List.take_of_length_le (by simp)
  show (⟨((l.drop a).take (l.length - a)).toArray⟩ : ByteArray) = _
  rw [e]
set_option maxHeartbeats 2000000 in
theorem rremark_any (l : List UInt8) (hl : l.length ≤ 1048576) (W : World) : Calls Tryz.prog 50 #[.string ⟨l.toArray⟩] W fun e w' => e = .returned (.string ⟨(cutA l 59).toArray⟩) ∧ W = w' := by
  obtain ⟨D, hD⟩ : ∃ D : Ending → World → Prop, D = fun e w' => e = .returned (.string ⟨(cutA l 59).toArray⟩) ∧ W = w' := ⟨_, rfl⟩
  rw [← hD]
  replace hD := Lib.hid hD
  have hli : (l.length : Int) ≤ 1048576 := by omega
  have hsz : (⟨l.toArray⟩ : ByteArray).size = l.length := size_mk l
  clear hl
  go_enter Tryz.func50, Tryz.ntmps50
  go_wp2
  go_loop [3] (fun i => ∃ k : Nat, k ≤ l.length ∧ i = .int .i64 k ∧ Hid (∀ j, j < k → l[j]? ≠ some 59)) (fun i => l.length - (RowKit.intOf i).toNat)
  case atStart => exact ⟨0, by omega, rfl, Lib.hid (fun j hj => absurd hj (by omega))⟩
  case round =>
    obtain ⟨k, hk, rfl, hn⟩ := hrel
    by_cases hlt : k < l.length
    · obtain ⟨ch, hch⟩ : ∃ ch, ch = l[k] := ⟨_, rfl⟩
      have hix := index_list l k hlt ch hch
      have hg : l[k]? = some ch := by rw [List.getElem?_eq_getElem hlt, hch]
      by_cases h59 : ch = 59
      · have hsl := fun w => slice_pre l k hk w
        have hE := Lib.hid (show l.take k = cutA l 59 from ((span_at l 59 k (by rw [hg, h59]) hn.out).1).symm)
        have hci : (ch.toNat : Int) = 59 := by rw [h59]; rfl
        have hcb : ((ch.toNat : Int) == 59) = true := by rw [h59]; rfl
        clear hch hg h59
        go_wp2
        rw [hD.out]
        exact ⟨by rw [← hE.out], rfl⟩
      · have hci : ¬ (ch.toNat : Int) = 59 := fun e => h59 (UInt8.toNat_inj.1 (by
          have h : ch.toNat = 59 := by omega
          rw [h]; rfl))
        have hcb : ((ch.toNat : Int) == 59) = false := by rw [beq_eq_false_iff_ne]; exact hci
        have hn2 : Hid (∀ j, j < k + 1 → l[j]? ≠ some 59) := Lib.hid (fun j hj e => by
          rcases Nat.lt_or_ge j k with h | h
          · exact hn.out j h e
          · obtain rfl : j = k := by omega
            rw [hg] at e; exact h59 (Option.some.inj e))
        clear hch hg h59
        go_wp2
        go_round
        case rel => exact ⟨k + 1, by omega, by go_num, hn2⟩
        case measure => simp [RowKit.intOf]; omega
    · have hE := Lib.hid (show cutA l 59 = l from (span_none l 59 (fun j e => by
        rcases Nat.lt_or_ge j k with h | h
        · exact hn.out j h e
        · rw [List.getElem?_eq_none (by omega)] at e; cases e)).1)
      go_wp2
      rw [hD.out]
      exact ⟨by rw [hE.out], rfl⟩
/-- The first of some names that is s. -/
def findN : List (List UInt8) → List UInt8 → Option Nat
  | [], _ => none
  | n :: r, s => if n = s then some 0 else (findN r s).map (· + 1)
def findI (ns : List (List UInt8)) (s : List UInt8) : Int := match findN ns s with
  | some k => (k : Int)
  | none => -1
theorem findN_hit : ∀ (ns : List (List UInt8)) (s : List UInt8) (k : Nat), ns[k]? = some s → (∀ j, j < k → ns[j]? ≠ some s) → findN ns s = some k
  | [], s, k, h, _ => by simp at h
  | n :: r, s, 0, h, _ => by
    simp only [List.getElem?_cons_zero, Option.some.injEq] at h
    rw [findN, if_pos h]
  | n :: r, s, k + 1, h, hj => by
    have h0 : n ≠ s := fun e => hj 0 (by omega) (by rw [e]; rfl)
    rw [findN, if_neg h0, findN_hit r s k (by simpa using h) (fun j hl => by have := hj (j + 1) (by omega); simpa using this)]
    rfl
theorem findN_miss (ns : List (List UInt8)) (s : List UInt8) (h : ∀ j : Nat, ns[j]? ≠ some s) : findN ns s = none := by
  induction ns with
  | nil => rfl
  | cons n r ih =>
    rw [findN, if_neg (fun e => h 0 (by rw [e]; rfl)), ih (fun j => by have := h (j + 1); simpa using this)]
    rfl
set_option maxHeartbeats 2000000 in
theorem rfind_any (ns : List (List UInt8)) (v : Value) (base : Nat) (s : List UInt8) (W : World) (ho : W.ownsRow base 9 1 v ns.length (ns.map strV)) (hn : ns.length ≤ 1048576) :
    Calls Tryz.prog 52 #[v, .string ⟨s.toArray⟩] W fun e w' => e = .returned (.int .i64 (findI ns s)) ∧ W = w' := by
  obtain ⟨D, hD⟩ : ∃ D : Ending → World → Prop, D = fun e w' => e = .returned (.int .i64 (findI ns s)) ∧ W = w' := ⟨_, rfl⟩
  rw [← hD]
  replace hD := Lib.hid hD
  obtain ⟨A, cap, rfl, -, -⟩ := own_slice ho
  have hcell := Lib.hid (fun k (hk : k < ns.length) => show ∃ b, A = some ⟨b, 0, none⟩ ∧ W.cell? ⟨b, k, none⟩ = some (.string ⟨ns[k].toArray⟩) from by
    obtain ⟨g, cap', hv, -, -⟩ := ho.form (by omega)
    simp only [Value.slice.injEq, true_and] at hv
    obtain ⟨rfl, rfl⟩ := hv
    exact ⟨g, rfl, by rw [ho.cellAt k (by omega), List.getElem?_map, List.getElem?_eq_getElem hk]; rfl⟩)
  have hni : (ns.length : Int) ≤ 1048576 := by omega
  clear ho hn
  go_enter Tryz.func52, Tryz.ntmps52
  go_wp2
  go_loop [5] (fun i => ∃ k : Nat, k ≤ ns.length ∧ i = .int .i64 k ∧ Hid (∀ j, j < k → ns[j]? ≠ some s)) (fun i => ns.length - (RowKit.intOf i).toNat)
  case atStart => exact ⟨0, by omega, rfl, Lib.hid (fun j hj => absurd hj (by omega))⟩
  case round =>
    obtain ⟨k, hk, rfl, hm⟩ := hrel
    by_cases hlt : k < ns.length
    · obtain ⟨b, rfl, c0⟩ := hcell.out k hlt
      have hg : ns[k]? = some ns[k] := List.getElem?_eq_getElem hlt
      generalize ns[k] = x at *
      by_cases hx : x = s
      · have hE := Lib.hid (show (k : Int) = findI ns s from by unfold findI; rw [findN_hit ns s k (by rw [hg, hx]) hm.out])
        subst hx
        have hxx : (x == x) = true := by simp
        clear hg
        go_wp2
        rw [hD.out]
        exact ⟨by rw [← hE.out], rfl⟩
      · have hxf : (x == s) = false := by simpa using hx
        have hm2 : Hid (∀ j, j < k + 1 → ns[j]? ≠ some s) := Lib.hid (fun j hj e => by
          rcases Nat.lt_or_ge j k with h | h
          · exact hm.out j h e
          · obtain rfl : j = k := by omega
            rw [hg] at e; exact hx (Option.some.inj e))
        clear hg hx
        go_wp2
        go_round
        case rel => exact ⟨k + 1, by omega, by go_num, hm2⟩
        case measure => simp [RowKit.intOf]; omega
    · have hE := Lib.hid (show (-1 : Int) = findI ns s from by
        unfold findI
        rw [findN_miss ns s (fun j e => by
          rcases Nat.lt_or_ge j k with h | h
          · exact hm.out j h e
          · rw [List.getElem?_eq_none (by omega)] at e; cases e)])
      go_wp2
      rw [hD.out]
      exact ⟨by rw [← hE.out], rfl⟩
theorem linesF_pre : ∀ (l cur : List UInt8) (k : Nat), k ≤ l.length → (∀ j, j < k → l[j]? ≠ some 10) → linesF cur l = linesF (cur ++ l.take k) (l.drop k)
  | l, cur, 0, _, _ => by simp
  | [], cur, k + 1, h, _ => by simp at h
  | c :: l, cur, k + 1, h, hn => by
    have hc : c ≠ 10 := fun e => hn 0 (by omega) (by rw [e]; rfl)
    rw [linesF, if_neg hc, linesF_pre l (cur ++ [c]) k (by simp at h; omega) (fun j hj => by have := hn (j + 1) (by omega); simpa using this)]
    simp
set_option maxHeartbeats 4000000 in
theorem rlines_any (l : List UInt8) (hl : l.length ≤ 1048576) (W : World) : Calls Tryz.prog 49 #[.string ⟨l.toArray⟩] W fun e w' => ∃ v, e = .returned v ∧ w'.ownsRow W.heap.size 9 1 v (linesL l).length ((linesL l).map strV) ∧ Below W.heap.size W w' := by
  obtain ⟨D, hD⟩ : ∃ D : Ending → World → Prop, D = fun e w' => ∃ v, e = .returned v ∧ w'.ownsRow W.heap.size 9 1 v (linesL l).length ((linesL l).map strV) ∧ Below W.heap.size W w' := ⟨_, rfl⟩
  rw [← hD]
  replace hD := Lib.hid hD
  obtain ⟨i0, hi, hz0, hz1, hz2⟩ := info_parts infoS
  have hli : (l.length : Int) ≤ 1048576 := by omega
  have hll := Lib.hid hl
  have hsz : (⟨l.toArray⟩ : ByteArray).size = l.length := size_mk l
  clear hl
  go_enter Tryz.func49, Tryz.ntmps49
  go_wp2
  go_loopw [3, 4, 5] (fun o fr i wr => ∃ (a k : Nat) (xs : List (List UInt8)), a ≤ k ∧ k ≤ l.length ∧ fr = .int .i64 a ∧ i = .int .i64 k ∧ Hid (linesL l = xs ++ linesF ((l.drop a).take (k - a)) (l.drop k)) ∧ Hid (xs.length ≤ k) ∧ Hid (wr.ownsRow W.heap.size 9 1 o xs.length (xs.map strV)) ∧ Hid (Below W.heap.size W wr)) (fun _ _ i _ => l.length - (RowKit.intOf i).toNat)
  case atStart => exact ⟨0, 0, [], Nat.le_refl _, Nat.zero_le _, rfl, rfl, Lib.hid rfl, Lib.hid (Nat.le_refl _), Lib.hid (World.ownsRow_nil _ _ _ _), Lib.hid (Below.refl _ _)⟩
  case round =>
    obtain ⟨a, k, xs, ha, hk, rfl, rfl, hx, hn, hO, hb⟩ := hrel
    by_cases hlt : k < l.length
    · obtain ⟨ch, hch⟩ : ∃ ch, ch = l[k] := ⟨_, rfl⟩
      have hix := index_list l k hlt ch hch
      have hsl := fun w => slice_mid l a k ha hk w
      have hdr : l.drop k = ch :: l.drop (k + 1) := by rw [hch]; exact List.drop_eq_getElem_cons hlt
      have hx2 := hx.out
      rw [hdr, linesF] at hx2
      have htk : (l.drop a).take (k + 1 - a) = (l.drop a).take (k - a) ++ [ch] := by
        rw [show k + 1 - a = (k - a) + 1 from by omega, List.take_succ_eq_append_getElem (by simp; omega)]
        congr 2
        rw [List.getElem_drop, hch]
        congr 1
        omega
      have hkl := Lib.hid (And.intro ha (And.intro hk hlt))
      have hlti : (k : Int) < (l.length : Int) := by omega
      by_cases h10 : ch = 10
      · rw [if_pos h10] at hx2
        have hcb : ((ch.toNat : Int) == 10) = true := by rw [h10]; rfl
        have hci : (ch.toNat : Int) = 10 := by rw [h10]; rfl
        obtain ⟨cw, hcw⟩ : ∃ cw, cw = (l.drop a).take (k - a) := ⟨_, rfl⟩
        rw [← hcw] at hx2 hsl
        have hx3 := Lib.hid (show linesL l = (xs ++ [cw]) ++ linesF ((l.drop (k + 1)).take (k + 1 - (k + 1))) (l.drop (k + 1)) by rw [hx2, Nat.sub_self, List.take_zero]; simp)
        clear hch hdr hk h10 hx2 hcw htk ha
        go_wp2_with (at_builtin; refine wpList_append_lies _ rfl _ _ 52 rfl W.heap.size 9 i0 (.string ⟨#[]⟩) 1 16 Tryz.underlying52 hi hz0 hz1 hz2 rfl (by decide) _ _ _ rfl (hO.out.alloc _) ⟨wr.heap.size, 0, none⟩ 1 1 [.string ⟨cw.toArray⟩] rfl rfl ?c1 ?c2 (by decide) ?c3 ?c4 ?c5 _ rfl ?_)
        case c1 =>
          intro i u hu
          match i, hu with
          | 0, hu => simp at hu; subst hu; simp [Addr.add]
        case c2 => intro u hu; simp at hu; subst hu; rfl
        case c3 => have := hn.out; have := hll.out; have := hkl.out; unfold maxLen; omega
        case c4 => have := hn.out; have := hll.out; have := hkl.out; omega
        case c5 => have := hb.out.size; simp; omega
        · intro g cap w7 hown' hgrow hwhere hglt
          have hlo := hO.out.lt
          have hb7 := Lib.hid (below_grown (hb.out.alloc hb.out.size _) hgrow (fun q hq => (hlo q hq).1))
          have hO7 : w7.ownsRow W.heap.size 9 1 (.slice (some ⟨g, 0, none⟩) (xs.length + 1) cap) (xs ++ [cw]).length ((xs ++ [cw]).map strV) := by
            rw [List.map_append, List.length_append]; exact hown'
          replace hO7 := Lib.hid hO7
          clear hown' hgrow hwhere hglt hlo
          go_wp2
          go_roundw
          case rel => exact ⟨k + 1, k + 1, xs ++ [cw], Nat.le_refl _, by have := hkl.out; omega, by go_num, by go_num, hx3, Lib.hid (by have := hn.out; simp; omega), hO7, hb7⟩
          case measure => have := hkl.out; simp [RowKit.intOf]; omega
      · rw [if_neg h10, ← htk] at hx2
        have hci : ¬ (ch.toNat : Int) = 10 := fun e => h10 (UInt8.toNat_inj.1 (by
          have h : ch.toNat = 10 := by omega
          rw [h]; rfl))
        have hcb : ((ch.toNat : Int) == 10) = false := by rw [beq_eq_false_iff_ne]; exact hci
        replace hx2 := Lib.hid hx2
        clear hch hdr hk h10 htk hsl
        go_wp2
        go_roundw
        case rel => exact ⟨a, k + 1, xs, by omega, by have := hkl.out; omega, rfl, by go_num, hx2, Lib.hid (by have := hn.out; omega), hO, hb⟩
        case measure => have := hkl.out; simp [RowKit.intOf]; omega
    · have hke : k = l.length := by omega
      have hx2 := hx.out
      have ecw : (l.drop a).take (k - a) = l.drop a := by rw [hke]; exact List.take_of_length_le (by simp)
      rw [ecw, hke, List.drop_length, linesF] at hx2
      have hsl := fun w => slice_suf l a (by omega) w
      obtain ⟨cw, hcw⟩ : ∃ cw, cw = l.drop a := ⟨_, rfl⟩
      rw [← hcw] at hx2 hsl
      replace hx2 := Lib.hid hx2
      have hai : (a : Int) ≤ (l.length : Int) := by omega
      have hk2 := Lib.hid hk
      clear hcw hke ecw
      go_wp2_with (at_builtin; refine wpList_append_lies _ rfl _ _ 52 rfl W.heap.size 9 i0 (.string ⟨#[]⟩) 1 16 Tryz.underlying52 hi hz0 hz1 hz2 rfl (by decide) _ _ _ rfl (hO.out.alloc _) ⟨wr.heap.size, 0, none⟩ 1 1 [.string ⟨cw.toArray⟩] rfl rfl ?c1 ?c2 (by decide) ?c3 ?c4 ?c5 _ rfl ?_)
      case c1 =>
        intro i u hu
        match i, hu with
        | 0, hu => simp at hu; subst hu; simp [Addr.add]
      case c2 => intro u hu; simp at hu; subst hu; rfl
      case c3 => have := hn.out; have := hll.out; have := hk2.out; unfold maxLen; omega
      case c4 => have := hn.out; have := hll.out; have := hk2.out; omega
      case c5 => have := hb.out.size; simp; omega
      · intro g cap w7 hown' hgrow hwhere hglt
        have hlo := hO.out.lt
        have hb7 := Lib.hid (below_grown (hb.out.alloc hb.out.size _) hgrow (fun q hq => (hlo q hq).1))
        have hO7 : w7.ownsRow W.heap.size 9 1 (.slice (some ⟨g, 0, none⟩) (xs.length + 1) cap) (xs ++ [cw]).length ((xs ++ [cw]).map strV) := by
          rw [List.map_append, List.length_append]; exact hown'
        replace hO7 := Lib.hid hO7
        clear hown' hgrow hwhere hglt hlo
        go_wp2
        rw [hD.out, hx2.out]
        exact ⟨_, rfl, hO7.out, hb7.out⟩
end Go.Proofs.YtdkggahkfheocaaGreatDoor
namespace Go.Proofs.YtdkggahkfheocaaGreatDoor
set_option maxRecDepth 100000
open Go.RowKit Go.Lib
set_option linter.unusedVariables false

theorem wordsF_has : ∀ (l w : List UInt8) (c : UInt8), c ≠ 32 → (c ∈ w ∨ c ∈ l) → ∃ t, t ∈ wordsF w l ∧ c ∈ t
  | [], w, c, hc, h => by
    rcases h with h | h
    · unfold wordsF
      rw [if_neg (fun e => by rw [e] at h; cases h)]
      exact ⟨w, List.mem_cons_self .., h⟩
    · cases h
  | d :: l, w, c, hc, h => by
    unfold wordsF
    by_cases hd : d = 32
    · rw [if_pos hd]
      have hl : c ∈ w ∨ c ∈ l := by
        rcases h with h | h
        · exact .inl h
        · rcases List.mem_cons.1 h with rfl | h
          · exact absurd hd hc
          · exact .inr h
      by_cases hw : w = []
      · rw [if_pos hw]
        rcases hl with h | h
        · rw [hw] at h; cases h
        · exact wordsF_has l [] c hc (.inr h)
      · rw [if_neg hw]
        rcases hl with h | h
        · exact ⟨w, List.mem_cons_self .., h⟩
        · obtain ⟨t, h1, h2⟩ := wordsF_has l [] c hc (.inr h)
          exact ⟨t, List.mem_cons_of_mem _ h1, h2⟩
    · rw [if_neg hd]
      refine wordsF_has l (w ++ [d]) c hc ?_
      rcases h with h | h
      · exact .inl (List.mem_append.2 (.inl h))
      · rcases List.mem_cons.1 h with rfl | h
        · exact .inl (List.mem_append.2 (.inr (List.mem_cons_self ..)))
        · exact .inr h
theorem words_has (s : List UInt8) (c : UInt8) (hc : c ≠ 32) (h : c ∈ s) : ∃ t, t ∈ wordsL s ∧ c ∈ t := wordsF_has s [] c hc (.inr h)
theorem words_one (t : List UInt8) (h1 : t ≠ []) (h2 : Bare t) : wordsL t = [t] := by
  have := words_join t [] ⟨h1, h2⟩ (fun y hy => by cases hy)
  simpa [join, joinTail] using this
theorem words_blank (s : List UInt8) (h : wordsL s = []) : ∀ x, x ∈ s → x = 32 := fun x hx => by
  by_cases hc : x = 32
  · exact hc
  · obtain ⟨t, ht, -⟩ := words_has s x hc hx
    rw [h] at ht; cases ht
/-- What has no blank at its ends. -/
theorem trim_ends (s : List UInt8) : trimB s 32 = [] ∨ ((∃ c r, trimB s 32 = c :: r ∧ c ≠ 32) ∧ ∃ p d, trimB s 32 = p ++ [d] ∧ d ≠ 32) := by
  unfold trimB
  rcases trim_head (trimRightB s 32) with h | ⟨c, r, h, hc⟩
  · exact .inl h
  · refine .inr ⟨⟨c, r, h, hc⟩, ?_⟩
    have hne : trimRightB s 32 ≠ [] := fun e => by rw [e] at h; simp [trimLeftB] at h
    have hl : (trimRightB s 32).getLast hne ≠ 32 := by
      unfold trimRightB at hne ⊢
      rw [List.getLast_reverse]
      have := List.head_dropWhile_not (fun x : UInt8 => x == 32) (l := s.reverse) (by simpa using hne)
      simpa using this
    have hsuf : (c :: r) <:+ trimRightB s 32 := by rw [← h]; exact List.dropWhile_suffix _
    refine ⟨(c :: r).dropLast, (c :: r).getLast (by simp), ?_, ?_⟩
    · rw [h]; exact (List.dropLast_concat_getLast _).symm
    · rw [hsuf.getLast (by simp)]
      exact hl
theorem one_word (s : List UInt8) (t : List UInt8) (h : wordsL (trimB s 32) = [t]) : trimB s 32 = t := by
  rcases trim_ends s with e | ⟨⟨c, r, e, hc⟩, p, d, e2, hd⟩
  · rw [e] at h; cases h
  · obtain ⟨q, hq⟩ : ∃ q, q = trimB s 32 := ⟨_, rfl⟩
    rw [← hq] at h e e2 ⊢
    have hlt : trimLeftB q 32 = q := by rw [e]; unfold trimLeftB; rw [List.dropWhile_cons_of_neg (by simpa using hc)]
    have hw := words_tok q
    rw [h] at hw
    split at hw
    · cases hw
    · simp only [List.cons.injEq] at hw
      obtain ⟨h1, h2⟩ := hw
      have hspl : q = q.takeWhile (· != 32) ++ q.dropWhile (· != 32) := (List.takeWhile_append_dropWhile).symm
      have htk : tok q = q.takeWhile (· != 32) := by unfold tok; rw [hlt]
      have hrs : rest q = (q.dropWhile (· != 32)).drop 1 := by unfold rest; rw [hlt]
      rcases drop_head q with h3 | ⟨r', h3⟩
      · rw [h3, List.append_nil] at hspl
        rw [h1, htk, ← hspl]
      · exfalso
        rw [hrs, h3] at h2
        have hb := words_blank r' h2.symm
        have hlast : d ∈ (32 :: r' : List UInt8) := by
          rw [h3, e2] at hspl
          have h4 : (p ++ [d]).getLast? = some d := by simp
          rw [hspl] at h4
          rw [List.getLast?_append] at h4
          simp only [List.getLast?_cons, Option.some_or, Option.some.injEq] at h4
          have : d = (r'.getLast?).getD 32 := h4.symm
          cases hr : r'.getLast? with
          | none => rw [hr] at this; rw [this]; exact List.mem_cons_self ..
          | some z => rw [hr] at this; rw [this]; exact List.mem_cons_of_mem _ (List.mem_of_getLast? hr)
        rcases List.mem_cons.1 hlast with h5 | h5
        · exact hd h5
        · exact hd (hb d h5)
theorem no_words (s : List UInt8) (h : wordsL (trimB s 32) = []) : trimB s 32 = [] := by
  rcases trim_ends s with e | ⟨⟨c, r, e, hc⟩, -⟩
  · exact e
  · exfalso
    obtain ⟨t, ht, -⟩ := words_has (trimB s 32) c hc (by rw [e]; exact List.mem_cons_self ..)
    rw [h] at ht; cases ht
/-! A word with a colon says nothing. -/
theorem dec_nocol (n : Nat) : (58 : UInt8) ∉ decDigits n := fun h => by have := digits_mem n 58 h; revert this; decide
theorem int_nocol {t : List UInt8} {v : Int} (h : intL t = some v) : (58 : UInt8) ∉ t := by
  obtain ⟨e, -, -⟩ := intL_some.1 h
  rw [← e]
  intro hm
  exact (ink_not (itoa_ink v 58 hm)).2.2.2 rfl
theorem num_nocol {c : Bool} {t : List UInt8} {v : Int} (h : numP c t = some v) : (58 : UInt8) ∉ t := by
  unfold numP at h
  split at h
  · split at h
    · rename_i d
      intro hm
      rcases List.mem_cons.1 hm with e | hm
      · exact absurd e (by decide)
      · exact int_nocol h hm
    · cases h
  · exact int_nocol h
theorem name_nocol {t : List UInt8} (h : nameB t = true) : (58 : UInt8) ∉ t := fun hm => by
  unfold nameB at h
  simp only [Bool.and_eq_true] at h
  have := List.all_eq_true.1 h.1.2 58 hm
  exact absurd this (by decide)
theorem name_bare {t : List UInt8} (h : nameB t = true) : t ≠ [] ∧ Bare t := by
  unfold nameB at h
  simp only [Bool.and_eq_true, decide_eq_true_eq] at h
  refine ⟨fun e => by rw [e] at h; simp at h, fun x hx e => ?_⟩
  subst e
  have := List.all_eq_true.1 h.1.2 32 hx
  exact absurd this (by decide)
theorem args_nocol (op : Int) : ∀ (f : List UInt8) (i : Ins) (lab : List UInt8) (ts : List (List UInt8)) (i' : Ins) (lab' : List UInt8) (r : List (List UInt8)), argsP op f i lab ts = some (i', lab', r) → ∀ t, t ∈ ts → (58 : UInt8) ∈ t → t ∈ r
  | [], i, lab, ts, i', lab', r, h, t, ht, hm => by
    simp only [argsP, Option.some.injEq, Prod.mk.injEq] at h
    rw [← h.2.2]; exact ht
  | x :: f, i, lab, [], i', lab', r, h, t, ht, hm => by cases ht
  | x :: f, i, lab, a :: ts, i', lab', r, h, t, ht, hm => by
    rw [argsP_cons] at h
    split at h
    · rename_i hc
      rcases List.mem_cons.1 ht with rfl | ht
      · exact absurd hm (name_nocol hc.2.2)
      · exact args_nocol op f _ _ _ _ _ _ h t ht hm
    · split at h
      · cases h
      · rename_i v hv
        rcases List.mem_cons.1 ht with rfl | ht
        · exact absurd hm (num_nocol hv)
        · exact args_nocol op f _ _ _ _ _ _ h t ht hm
theorem op_nocol {a : List UInt8} (h : opAt a ≠ 0) : (58 : UInt8) ∉ a := by
  intro hm
  have hall : nameL.all (fun l => !l.contains 58) = true := by decide
  apply h
  unfold opAt
  cases hk : nameL.findIdx? (· == a) with
  | none => rfl
  | some k =>
    exfalso
    obtain ⟨hlt, he, -⟩ := List.findIdx?_eq_some_iff_getElem.1 hk
    have hk2 : nameL[k] = a := by simpa using he
    have := List.all_eq_true.1 hall a (by rw [← hk2]; exact List.getElem_mem hlt)
    simp [hm] at this
theorem read_nocol (ts : List (List UInt8)) (h : ∃ t, t ∈ ts ∧ (58 : UInt8) ∈ t) : readP ts = none := by
  obtain ⟨t, ht, hm⟩ := h
  cases ts with
  | nil => cases ht
  | cons a r =>
    rw [readP_cons]
    by_cases hw : a = wordTx
    · rw [if_pos hw]
      have hr : t ∈ r := by
        rcases List.mem_cons.1 ht with e | h
        · rw [e, hw] at hm; exact absurd hm (by decide)
        · exact h
      cases r with
      | nil => cases hr
      | cons b q =>
        show rawR (rawW b) q = none
        unfold rawR
        cases hb : rawW b with
        | none => rfl
        | some v =>
          simp only
          rw [if_neg]
          intro hq
          subst hq
          rw [List.mem_singleton] at hr
          subst hr
          unfold rawW at hb
          cases hi : intL t with
          | none => rw [hi] at hb; cases hb
          | some u => exact int_nocol hi hm
    · rw [if_neg hw]
      by_cases h0 : opAt a = 0
      · rw [h0, show formAt 0 = [] from by decide]
        simp only [argsP, insR, zero_ins]
        rfl
      · have hr : t ∈ r := by
          rcases List.mem_cons.1 ht with e | h
          · rw [e] at hm; exact absurd hm (op_nocol h0)
          · exact h
        cases hA : argsP (opAt a) (formAt (opAt a)) ⟨opAt a, 0, 0, 0, 0⟩ [] r with
        | none => rfl
        | some z =>
          obtain ⟨i, lab, q⟩ := z
          have := args_nocol _ _ _ _ _ _ _ _ hA t hr hm
          simp only [insR]
          rw [if_neg]
          rintro ⟨-, hq⟩
          rw [hq] at this; cases this
/-! What a line is. -/
theorem suffix_is (s : List UInt8) (h : hasSuffix s [58] = true) : s = trimSuffix s [58] ++ [58] := by
  have h2 := h
  unfold hasSuffix at h2
  obtain ⟨p, rfl⟩ := List.isSuffixOf_iff_suffix.1 h2
  rw [(suffix_app p 58).2]
theorem line_empty (st : AS) (n : Nat) (l : List UInt8) (h : wordsL (cutA l 59) = []) : takeL st n (bareL l) = (0, st) := by
  have e : bareL l = [] := no_words _ (by rw [words_trim]; exact h)
  rw [e]; exact take_none st n
/-- A line that is a label's. -/
theorem line_label (st : AS) (n : Nat) (l nm : List UInt8) (h : wordsL (cutA l 59) = [nm ++ [58]]) (hn : nameB nm = true) : takeL st n (bareL l) = if (labF st.labs nm).isSome then (11, st) else (0, { st with labs := (nm, st.its.length) :: st.labs }) := by
  have e : bareL l = nm ++ [58] := one_word _ _ (by rw [words_trim]; exact h)
  obtain ⟨h1, h2⟩ := suffix_app nm 58
  rw [e]
  unfold takeL
  rw [if_neg (by simp), if_pos h1, h2, if_pos hn]
/-- A line that is none. -/
theorem line_word (st : AS) (n : Nat) (l a : List UInt8) (r : List (List UInt8)) (h : wordsL (cutA l 59) = a :: r) (hn : r ≠ [] ∨ hasSuffix a [58] = false ∨ nameB (trimSuffix a [58]) = false) :
    takeL st n (bareL l) = match docR (a :: r) with
      | none => (4, st)
      | some (x, i, lab) => if st.its.length = 4096 then (3, st) else (0, { st with its := st.its ++ [(x, lab, n)] }) := by
  have hw : wordsL (bareL l) = a :: r := by rw [← h]; exact words_trim _
  have hne : bareL l ≠ [] := fun e => by rw [e] at hw; cases hw
  have hr := doc_read a r
  unfold takeL
  rw [if_neg hne]
  by_cases hs : hasSuffix (bareL l) [58] = true
  · rw [if_pos hs]
    have he := suffix_is _ hs
    have hno : readP (a :: r) = none := by
      rw [← hw]
      exact read_nocol _ (words_has _ 58 (by decide) (by rw [he]; simp))
    rw [hno] at hr
    have hd : docR (a :: r) = none := by
      cases hq : docR (a :: r) with
      | none => rfl
      | some z => rw [hq] at hr; cases hr
    rw [hd]
    rw [if_neg]
    intro hnm
    have hb := name_bare hnm
    have hone : wordsL (bareL l) = [bareL l] := words_one _ hne (fun x hx => by
      rw [he] at hx
      rcases List.mem_append.1 hx with hx | hx
      · exact hb.2 x hx
      · rw [List.mem_singleton] at hx; subst hx; decide)
    rw [hw] at hone
    simp only [List.cons.injEq] at hone
    rcases hn with hn | hn | hn
    · exact hn hone.2
    · rw [hone.1, hs] at hn; cases hn
    · rw [hone.1, hnm] at hn; cases hn
  · rw [if_neg hs, hw, hr]
    cases docR (a :: r) with
    | none => rfl
    | some z => rfl
/-! Labels among names. -/
theorem labF_mem : ∀ (labs : List (List UInt8 × Nat)) (s : List UInt8) (p : Nat), (labs.map (·.1)).Nodup → (s, p) ∈ labs → labF labs s = some p
  | [], s, p, _, h => by cases h
  | (n, q) :: r, s, p, hd, h => by
    simp only [List.map_cons, List.nodup_cons] at hd
    rcases List.mem_cons.1 h with e | h
    · simp only [Prod.mk.injEq] at e
      rw [labF, if_pos e.1.symm, e.2]
    · rw [labF, if_neg (fun e => hd.1 (by rw [e]; exact List.mem_map_of_mem (f := (·.1)) h))]
      exact labF_mem r s p hd.2 h
theorem findN_some : ∀ (ns : List (List UInt8)) (s : List UInt8) (k : Nat), findN ns s = some k → ns[k]? = some s
  | [], s, k, h => by cases h
  | n :: r, s, k, h => by
    rw [findN] at h
    split at h
    · rename_i e; cases h; rw [e]; rfl
    · cases hr : findN r s with
      | none => rw [hr] at h; cases h
      | some q =>
        rw [hr] at h
        cases h
        simpa using findN_some r s q hr
theorem findN_none : ∀ (ns : List (List UInt8)) (s : List UInt8), findN ns s = none → s ∉ ns
  | [], s, _ => by simp
  | n :: r, s, h => by
    rw [findN] at h
    split at h
    · cases h
    · rename_i hne
      cases hr : findN r s with
      | none =>
        intro hm
        rcases List.mem_cons.1 hm with e | hm
        · exact hne e.symm
        · exact findN_none r s hr hm
      | some q => rw [hr] at h; cases h
/-- What find tells of the labels. -/
theorem lab_find (lb : List (List UInt8 × Nat)) (s : List UInt8) (hd : (lb.map (·.1)).Nodup) :
    (findN (lb.map (·.1)) s = none ∧ labF lb.reverse s = none) ∨ ∃ q p, findN (lb.map (·.1)) s = some q ∧ lb[q]? = some (s, p) ∧ labF lb.reverse s = some p := by
  have hdr : (lb.reverse.map (·.1)).Nodup := by rw [List.map_reverse]; unfold List.Nodup; rw [List.pairwise_reverse]; exact hd.imp (fun h => Ne.symm h)
  cases hf : findN (lb.map (·.1)) s with
  | none =>
    refine .inl ⟨rfl, labF_none fun x hx e => ?_⟩
    exact findN_none _ _ hf (by rw [← e]; exact List.mem_map_of_mem (List.mem_reverse.1 hx))
  | some q =>
    have h1 := findN_some _ _ _ hf
    rw [List.getElem?_map] at h1
    obtain ⟨⟨n, p⟩, h2, h3⟩ := Option.map_eq_some_iff.1 h1
    simp only at h3
    subst h3
    exact .inr ⟨q, p, rfl, h2, labF_mem _ _ _ hdr (List.mem_reverse.2 (List.mem_of_getElem? h2))⟩
/-! Rows of a call's own, beside one another. -/
structure Ow where
  ty : TypeId
  sz : Nat
  v : Value
  n : Nat
  xs : List Value
structure OL (W : World) (L : List Ow) (w : World) : Prop where
  b : Below W.heap.size W w
  o : ∀ (i : Nat) (x : Ow), L[i]? = some x → w.ownsRow W.heap.size x.ty x.sz x.v x.n x.xs
  d : ∀ (i j : Nat) (a c : Ow), i ≠ j → L[i]? = some a → L[j]? = some c → ∀ k, a.v.ownBlock = some k → c.v.ownBlock ≠ some k
section
variable {W w w' : World} {L : List Ow}
theorem OL.below (h : OL W L w) (k : Below w.heap.size w w') : OL W L w' := ⟨h.b.trans (k.mono h.b.size), fun i x hx => owns_below (h.o i x hx) k, h.d⟩
theorem OL.grow {i : Nat} {a : Ow} (h : OL W L w) (hi : L[i]? = some a) {g n' cap : Nat} {xs' : List Value} (ho : w'.ownsRow W.heap.size a.ty a.sz (.slice (some ⟨g, 0, none⟩) n' cap) n' xs') (hgr : w.grownBy w' a.v.ownBlock) (hwh : a.v.ownBlock = some g ∨ w.heap.size ≤ g) :
    OL W (L.set i ⟨a.ty, a.sz, .slice (some ⟨g, 0, none⟩) n' cap, n', xs'⟩) w' := by
  have hlo := (h.o i a hi).lt
  have hil : i < L.length := (List.getElem?_eq_some_iff.1 hi).1
  have hown : ∀ (j : Nat) (c : Ow), j ≠ i → L[j]? = some c → ∀ k, c.v.ownBlock = some k → k ≠ g ∧ some k ≠ a.v.ownBlock := fun j c hj hc k hk => by
    refine ⟨fun e => ?_, fun e => h.d i j a c (Ne.symm hj) hi hc k e.symm hk⟩
    subst e
    rcases hwh with q | q
    · exact h.d i j a c (Ne.symm hj) hi hc k q hk
    · have := ((h.o j c hc).lt k hk).2; omega
  refine ⟨below_grown h.b hgr (fun k hk => (hlo k hk).1), fun j x hx => ?_, fun j1 j2 x y hne hx hy k hk => ?_⟩
  · by_cases hj : j = i
    · subst hj
      rw [List.getElem?_set_self hil] at hx
      cases hx
      exact ho
    · rw [List.getElem?_set_ne (Ne.symm hj)] at hx
      refine (h.o j x hx).kept hgr ?_
      cases hv : x.v.ownBlock with
      | none => exact .inl rfl
      | some q => exact .inr (hown j x hj hx q hv).2
  · by_cases h1 : j1 = i
    · subst h1
      rw [List.getElem?_set_self hil] at hx
      cases hx
      rw [List.getElem?_set_ne hne] at hy
      simp only [Value.ownBlock, Option.some.injEq] at hk
      subst hk
      intro e
      exact (hown j2 y (Ne.symm hne) hy _ e).1 rfl
    · rw [List.getElem?_set_ne (Ne.symm h1)] at hx
      by_cases h2 : j2 = i
      · subst h2
        rw [List.getElem?_set_self hil] at hy
        cases hy
        intro e
        simp only [Value.ownBlock, Option.some.injEq] at e
        exact (hown j1 x h1 hx k hk).1 e.symm
      · rw [List.getElem?_set_ne (Ne.symm h2)] at hy
        exact h.d j1 j2 x y hne hx hy k hk
end
end Go.Proofs.YtdkggahkfheocaaGreatDoor
