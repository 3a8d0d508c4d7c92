/- Contracts of layer asm, the document's side: the word of a text. No statement is proved here. -/
import Derived.Test.YtdkggahkfheocaaGreatDoorAsDr
namespace Go.Proofs.YtdkggahkfheocaaGreatDoor
set_option maxRecDepth 100000
open Go.RowKit Go.Lib
set_option linter.unusedVariables false

theorem wordsF_len : ∀ (l w : List UInt8), (∀ x, x ∈ wordsF w l → x.length ≤ w.length + l.length) ∧ (wordsF w l).length ≤ w.length + l.length
  | [], w => by
    unfold wordsF
    split
    · exact ⟨fun x hx => (by cases hx), Nat.zero_le _⟩
    · rename_i h
      refine ⟨fun x hx => ?_, ?_⟩
      · rw [List.mem_singleton] at hx; subst hx; simp
      · have : 0 < w.length := List.length_pos_iff.2 h
        simp only [List.length_cons, List.length_nil]; omega
  | c :: l, w => by
    have h0 := wordsF_len l []
    have h1 := wordsF_len l (w ++ [c])
    simp only [List.length_append, List.length_cons, List.length_nil] at h0 h1 ⊢
    unfold wordsF
    split
    · split
      · exact ⟨fun x hx => by have := h0.1 x hx; omega, by omega⟩
      · rename_i h
        have hp : 0 < w.length := List.length_pos_iff.2 h
        refine ⟨fun x hx => ?_, by simp only [List.length_cons]; omega⟩
        rcases List.mem_cons.1 hx with rfl | hx
        · omega
        · have := h0.1 x hx; omega
    · exact ⟨fun x hx => by have := h1.1 x hx; omega, by omega⟩
theorem words_len8 (l : List UInt8) : (∀ x, x ∈ wordsL l → x.length ≤ l.length) ∧ (wordsL l).length ≤ l.length := by
  have := wordsF_len l []
  unfold wordsL
  simpa using this
theorem own_TL {w : World} {base : Nat} {v : Value} {ts : List (List UInt8)} (h : w.ownsRow base 9 1 v ts.length (ts.map strV)) (hn : 0 < ts.length) : ∃ A cap, v = .slice A ts.length cap ∧ TL w A ts := by
  obtain ⟨g, cap, rfl, hb, hg⟩ := h.form hn
  refine ⟨_, cap, rfl, g, rfl, hg, fun j t ht => ?_⟩
  have hj : j < ts.length := (List.getElem?_eq_some_iff.1 ht).1
  rw [h.cellAt j (by omega), List.getElem?_map, ht]
  rfl
theorem TL.below {w w' : World} {A : Option Addr} {ts : List (List UInt8)} (h : TL w A ts) (k : Below w.heap.size w w') : TL w' A ts := by
  obtain ⟨b, e, hb, hc⟩ := h
  exact ⟨b, e, Nat.lt_of_lt_of_le hb k.size, fun j t ht => (k.cell (p := ⟨b, j, none⟩) hb).trans (hc j t ht)⟩
theorem readP_nil : readP [] = none := by decide
theorem lineV_none {l : List UInt8} (h : readP (wordsL l) = none) : lineV l = (0, 4) := by unfold lineV; rw [h]
set_option maxHeartbeats 2000000 in
theorem rline_any (l : List UInt8) (hl : l.length ≤ 1048576) (W : World) : Calls Tryz.prog 16 #[.string ⟨l.toArray⟩] W fun e w' => e = .returned (.tuple #[.int .u32 (lineV l).1, .int .i64 (lineV l).2]) ∧ Below W.heap.size W w' := by
  have hW := rwords_any l hl W
  have hwl := words_len8 l
  obtain ⟨ts, hts⟩ : ∃ ts, ts = wordsL l := ⟨_, rfl⟩
  have hund : undef = Value.tuple #[] := rfl
  rw [← hts] at hW hwl
  cases ts with
  | nil =>
    rw [lineV_none (by rw [← hts]; exact readP_nil)]
    replace hW := Lib.hid hW
    clear hts hwl hl
    go_enter Tryz.func16, Tryz.ntmps16
    go_wp2_with fail
    refine hW.out.mono ?_
    rintro e w1 ⟨v, rfl, ho, k1⟩
    obtain ⟨A, cap, rfl, -, -⟩ := own_slice ho
    go_wp2
    go_ret2
    exact ⟨rfl, k1⟩
  | cons a r =>
    have hn : r.length ≤ 1048576 := by have := hwl.2; simp only [List.length_cons] at this; omega
    have hrl : ∀ t, t ∈ r → t.length ≤ 1048576 := fun t ht => by have := hwl.1 t (List.mem_cons_of_mem _ ht); omega
    have hRd := doc_read a r
    have hC := fun A cap w h => rread_any a r A cap w h hn hrl
    have hlen : (a :: r).length = r.length + 1 := rfl
    have hni : (r.length : Int) ≤ 1048576 := by omega
    have hpl := fun (h : ∃ x, readP (wordsL l) = some (x, [])) => h
    unfold lineV
    rw [← hts]
    have hlab : ∀ x lab, readP (a :: r) = some (x, lab) → lab ≠ [] → printL x ≠ l := fun x lab h1 h2 h3 => by
      have hx := readP_low h1
      have := read_print x hx.1 hx.2
      rw [h3, ← hts, h1] at this
      exact h2 (Prod.mk.inj (Option.some.inj this)).2
    have hlow : ∀ x lab, readP (a :: r) = some (x, lab) → 0 ≤ x ∧ x < 4294967296 := fun x lab h => readP_low h
    rw [hRd] at hlab hlow ⊢
    generalize docR (a :: r) = R at *
    replace hW := Lib.hid hW
    replace hC := Lib.hid hC
    clear hts hwl hl hrl hRd hpl
    cases R with
    | none =>
      clear hlab hlow
      simp only [Option.map_none]
      go_enter Tryz.func16, Tryz.ntmps16
      go_wp2_with fail
      refine hW.out.mono ?_
      rintro e w1 ⟨v, rfl, ho, k1⟩
      obtain ⟨A, cap, rfl, hT⟩ := own_TL ho (by simp)
      have hC1 := hC.out A cap w1 hT
      unfold RdPost at hC1
      rw [hlen] at hC1 ⊢
      replace hC1 := Lib.hid hC1
      have hb1 := Lib.hid k1
      clear ho k1 hT hW hC
      go_wp2_with fail
      refine hC1.out.mono ?_
      rintro e w2 ⟨x, i, lab, rfl, k2⟩
      have hb2 := Lib.hid (hb1.out.trans (k2.mono hb1.out.size))
      clear k2 hC1
      unfold itV
      go_wp2
      go_ret2
      exact ⟨rfl, hb2.out.alloc hb2.out.size _⟩
    | some z =>
      obtain ⟨x, i, lab⟩ := z
      simp only [Option.map_some]
      have hlw := hlow x lab rfl
      have hP := fun w => rprint_any x hlw.1 hlw.2 w
      by_cases hlb : lab = []
      · subst hlb
        by_cases hp : printL x = l
        · rw [if_pos hp]
          rw [hp] at hP
          replace hP := Lib.hid hP
          have hll : (l == l) = true := by simp
          clear hlab hlow hlw hp
          go_enter Tryz.func16, Tryz.ntmps16
          go_wp2_with fail
          refine hW.out.mono ?_
          rintro e w1 ⟨v, rfl, ho, k1⟩
          obtain ⟨A, cap, rfl, hT⟩ := own_TL ho (by simp)
          have hC1 := hC.out A cap w1 hT
          unfold RdPost at hC1
          rw [hlen] at hC1 ⊢
          replace hC1 := Lib.hid hC1
          have hb1 := Lib.hid k1
          clear ho k1 hT hW hC
          go_wp2_with fail
          refine hC1.out.mono ?_
          rintro e w2 ⟨rfl, k2⟩
          have hb2 := Lib.hid (hb1.out.trans (k2.mono hb1.out.size))
          clear k2 hC1
          unfold itV
          go_wp2_with fail
          refine (hP.out _).mono ?_
          rintro e w3 ⟨rfl, k3⟩
          have hb2' := hb2.out.alloc hb2.out.size (.cells #[.int .u32 x, .int .i64 i.op, .int .i64 i.a, .int .i64 i.b, .int .i64 i.c, .int .i64 i.m, .string ⟨#[]⟩] 75)
          have hb3 := Lib.hid (hb2'.trans (k3.mono hb2'.size))
          have c0 : w3.cell? ⟨w2.heap.size, 0, none⟩ = some (.int .u32 x) := (k3.cell (p := ⟨w2.heap.size, 0, none⟩) (by simp)).trans (by simp)
          clear k3 hP hb2'
          go_wp2
          go_ret2
          exact ⟨rfl, hb3.out⟩
        · rw [if_neg hp]
          have hf : (printL x == l) = false := by simpa using hp
          have hf2 : (printL x != l) = true := by rw [bne, hf]; rfl
          generalize printL x = q at *
          replace hP := Lib.hid hP
          clear hlab hlow hlw hp
          go_enter Tryz.func16, Tryz.ntmps16
          go_wp2_with fail
          refine hW.out.mono ?_
          rintro e w1 ⟨v, rfl, ho, k1⟩
          obtain ⟨A, cap, rfl, hT⟩ := own_TL ho (by simp)
          have hC1 := hC.out A cap w1 hT
          unfold RdPost at hC1
          rw [hlen] at hC1 ⊢
          replace hC1 := Lib.hid hC1
          have hb1 := Lib.hid k1
          clear ho k1 hT hW hC
          go_wp2_with fail
          refine hC1.out.mono ?_
          rintro e w2 ⟨rfl, k2⟩
          have hb2 := Lib.hid (hb1.out.trans (k2.mono hb1.out.size))
          clear k2 hC1
          unfold itV
          go_wp2_with fail
          refine (hP.out _).mono ?_
          rintro e w3 ⟨rfl, k3⟩
          have hb2' := hb2.out.alloc hb2.out.size (.cells #[.int .u32 x, .int .i64 i.op, .int .i64 i.a, .int .i64 i.b, .int .i64 i.c, .int .i64 i.m, .string ⟨#[]⟩] 75)
          have hb3 := Lib.hid (hb2'.trans (k3.mono hb2'.size))
          clear k3 hP hb2'
          go_wp2
          go_ret2
          exact ⟨rfl, hb3.out⟩
      · rw [if_neg (hlab x lab rfl hlb)]
        have f2 : lab.isEmpty = false := by simpa using hlb
        clear hlab hlow hlw hP hlb
        go_enter Tryz.func16, Tryz.ntmps16
        go_wp2_with fail
        refine hW.out.mono ?_
        rintro e w1 ⟨v, rfl, ho, k1⟩
        obtain ⟨A, cap, rfl, hT⟩ := own_TL ho (by simp)
        have hC1 := hC.out A cap w1 hT
        unfold RdPost at hC1
        rw [hlen] at hC1 ⊢
        replace hC1 := Lib.hid hC1
        have hb1 := Lib.hid k1
        clear ho k1 hT hW hC
        go_wp2_with fail
        refine hC1.out.mono ?_
        rintro e w2 ⟨rfl, k2⟩
        have hb2 := Lib.hid (hb1.out.trans (k2.mono hb1.out.size))
        clear k2 hC1
        unfold itV
        go_wp2
        go_ret2
        exact ⟨rfl, hb2.out.alloc hb2.out.size _⟩
end Go.Proofs.YtdkggahkfheocaaGreatDoor
