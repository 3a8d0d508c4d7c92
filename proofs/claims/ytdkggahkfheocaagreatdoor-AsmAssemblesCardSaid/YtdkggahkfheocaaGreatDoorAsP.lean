/- Contracts of layer asm, the program's side: the text of a word. No statement is proved here. -/
import Derived.Test.YtdkggahkfheocaaGreatDoorAsO
import Derived.Test.YtdkggahkfheocaaGreatDoorAsB
import Derived.Test.YtdkggahkfheocaaGreatDoorAsI
import Derived.Test.YtdkggahkfheocaaGreatDoorIsD
namespace Go.Proofs.YtdkggahkfheocaaGreatDoor
set_option maxRecDepth 100000
open Go.RowKit Go.Lib
set_option linter.unusedVariables false

def val (i : Ins) (x : UInt8) : Int := if x = 97 then i.a else if x = 98 then i.b else if x = 99 then i.c else i.m
def preL (x : UInt8) : List UInt8 := if x = 97 ∨ x = 98 ∨ x = 99 then [99] else []
def partL (i : Ins) (x : UInt8) : List UInt8 := preL x ++ itoa (val i x)
/-- What an instruction's text is made of. -/
def partsL (i : Ins) : List (List UInt8) := nameAt i.op :: (formAt i.op).map (partL i)
/-- A word's text. -/
def printL (w : Int) : List UInt8 := if (decW w).op = 0 then join [[119, 111, 114, 100], decDigits w.toNat] [32] else join (partsL (decW w)) [32]

theorem infoS : (Tryz.prog.info? 9).map (fun i => (i.zero, i.size, i.bytes)) = some (some (.string ⟨#[]⟩), 1, 16) := by kernel_rfl
theorem strings_len (xs : List (List UInt8)) (k : Nat) (hx : ∀ x, x ∈ xs → x.length ≤ k) : lens xs ≤ k * xs.length := by
  induction xs with
  | nil => simp [lens]
  | cons a t ih =>
    have h1 := hx a (List.mem_cons_self ..)
    have h2 := ih fun x h => hx x (List.mem_cons_of_mem _ h)
    simp only [lens, List.map_cons, List.sum_cons, List.length_cons] at h2 ⊢
    rw [Nat.mul_add, Nat.mul_one]
    omega
theorem sjoin_any (base : Nat) (v : Value) (xs : List (List UInt8)) (w : World) (h : w.ownsRow base 9 1 v xs.length (xs.map strV)) (h0 : xs ≠ []) (h4 : xs.length ≤ 10) (hx : ∀ x, x ∈ xs → x.length ≤ 100) :
    Calls Tryz.prog 68 #[v, .string ⟨#[32]⟩] w fun e w' => e = .returned (.string ⟨(join xs [32]).toArray⟩) ∧ Below w.heap.size w w' := by
  have hpos : 0 < xs.length := by cases xs with
    | nil => exact absurd rfl h0
    | cons a t => simp
  rcases h.2 with ⟨-, hn⟩ | ⟨g, cap, cur, rfl, hb, hg, hnc, hcm, hcs, htake⟩
  · omega
  have hm : ((xs.map fun x => (⟨x.toArray⟩ : ByteArray)).map (·.data.toList)) = xs := by
    rw [List.map_map]
    exact (List.map_congr_left (fun x _ => by simp)).trans (List.map_id xs)
  have hl : (xs.map fun x => (⟨x.toArray⟩ : ByteArray)).length = xs.length := List.length_map ..
  have hJ := Tryz.strings_Join g 0 cap (xs.map fun x => (⟨x.toArray⟩ : ByteArray)) ⟨#[32]⟩ w (fun j x hj => by
    rw [List.getElem?_map] at hj
    obtain ⟨y, hy, rfl⟩ := Option.map_eq_some_iff.1 hj
    have hjl := (List.getElem?_eq_some_iff.1 hy).1
    rw [Nat.zero_add, h.cellAt j (by omega), List.getElem?_map, hy]; rfl) (Array.getElem?_eq_some_iff.1 hg).1 (by rw [hl]; omega) (by rw [hl]; exact hnc) (by
    rw [hm]
    cases xs with
    | nil => exact absurd rfl h0
    | cons a t =>
      rw [join_length]
      have := strings_len (a :: t) 100 hx
      simp only [List.length_cons] at this h4
      simp
      omega)
  rw [hm, hl] at hJ
  exact hJ
theorem join_any (base : Nat) (v : Value) (xs : List (List UInt8)) (w : World) (h : w.ownsRow base 9 1 v xs.length (xs.map strV)) (h0 : xs ≠ []) (h4 : xs.length ≤ 10) (hx : ∀ x, x ∈ xs → x.length ≤ 100) :
    Calls Tryz.prog 25 #[v] w fun e w' => e = .returned (.string ⟨(join xs [32]).toArray⟩) ∧ Below w.heap.size w w' := by
  have hJ := Lib.hid (sjoin_any base v xs w h h0 h4 hx)
  clear h h0 h4 hx
  go_enter Tryz.func25, Tryz.ntmps25
  go_wp2_with (refine hJ.out.mono ?_; rintro e w' ⟨rfl, k⟩; replace k := Lib.hid k)
  go_ret
  exact ⟨rfl, k.out⟩

theorem dec_small (x : Int) (c : UInt8) : -524288 ≤ val (decW x) c ∧ val (decW x) c ≤ 524287 := by
  rcases decW_zero_or x with h | ⟨hm, -⟩
  · rw [h]; unfold val Ins.zero; dsimp only; repeat' split
    all_goals omega
  · obtain ⟨k1, k2, ha, hb, hc, hmm⟩ := may_parts hm
    have a1 := fld_in ha; have b1 := fld_in hb; have c1 := fld_in hc; have m1 := imm_in hmm
    have m2 : -524288 ≤ (decW x).m ∧ (decW x).m ≤ 524287 := by
      cases h6 : (formAt (decW x).op).contains 106 with
      | true => exact m1.1 h6
      | false =>
        cases h5 : (formAt (decW x).op).contains 105 with
        | true => have := m1.2.1 h6 h5; omega
        | false => have := m1.2.2 h6 h5; omega
    unfold val
    repeat' split
    all_goals omega
theorem names_short : ∀ f, f ∈ nameL → f.length ≤ 10 := by decide
theorem name_short (op : Int) : (nameAt op).length ≤ 10 := by
  unfold nameAt
  split
  · rename_i h
    rw [List.getD_eq_getElem?_getD]
    cases hx : nameL[op.toNat]? with
    | none => simp
    | some f => exact names_short f (List.mem_of_getElem? hx)
  · simp
theorem part_short (x : Int) (c : UInt8) : (partL (decW x) c).length ≤ 22 := by
  have h := dec_small x c
  have := Lib.itoa_length_le (val (decW x) c) (by omega) (by omega)
  unfold partL preL
  split <;> simp <;> omega
theorem parts_short (x : Int) : (partsL (decW x)).length ≤ 10 ∧ ∀ y, y ∈ partsL (decW x) → y.length ≤ 100 := by
  have hf := form_short (decW x).op
  refine ⟨by unfold partsL; simp; omega, fun y hy => ?_⟩
  unfold partsL at hy
  rcases List.mem_cons.1 hy with rfl | hy
  · have := name_short (decW x).op; omega
  · obtain ⟨c, _, rfl⟩ := List.mem_map.1 hy
    have := part_short x c; omega

set_option maxHeartbeats 8000000 in
theorem print_any (x : Int) (h0 : 0 ≤ x) (h1 : x < 4294967296) (W : World) (hT : T8 W) : Calls Tryz.prog 10 #[.int .u32 x] W fun e w' => e = .returned (.string ⟨(printL x).toArray⟩) ∧ Below W.heap.size W w' := by
  obtain ⟨D, hD⟩ : ∃ D : Ending → World → Prop, D = fun e w' => e = .returned (.string ⟨(printL x).toArray⟩) ∧ Below W.heap.size W w' := ⟨_, rfl⟩
  rw [← hD]
  replace hD := Lib.hid hD
  have hDec := pDecode_any x h0 h1 W hT.tabs
  unfold DecPost at hDec
  have hP : printL x = if (decW x).op = 0 then join [[119, 111, 114, 100], decDigits x.toNat] [32] else join (partsL (decW x)) [32] := rfl
  have hps := parts_short x
  have hvs := fun c => dec_small x c
  have hsh := fun c => part_short x c
  generalize decW x = i at *
  obtain ⟨op, a, b, c, m⟩ := i
  replace hDec : Calls Tryz.prog 24 #[.int .u32 x] W fun e w' => e = .returned (.agg #[.int .i64 op, .int .i64 a, .int .i64 b, .int .i64 c, .int .i64 m]) ∧ Below W.heap.size W w' := hDec
  replace hDec := Lib.hid hDec
  replace hps := Lib.hid hps
  replace hvs := Lib.hid hvs
  replace hsh := Lib.hid hsh
  by_cases hop : op = 0
  · subst hop
    rw [if_pos rfl] at hP
    obtain ⟨n, hn⟩ : ∃ n : Nat, x = n := ⟨x.toNat, by omega⟩
    have hFm := Lib.hid (fun w h => formatUint_any n (by omega) w h)
    have hpn : printL x = join [[119, 111, 114, 100], decDigits n] [32] := by rw [hP, hn]; rfl
    have hdl : (decDigits n).length ≤ 20 := by rw [decDigits_length]; exact Lib.nDigits_le20 n (by omega)
    replace hP := Lib.hid hpn
    have hT' := Lib.hid hT
    have hJ := Lib.hid (fun base v w h => join_any base v [[119, 111, 114, 100], decDigits n] w h (by simp) (by simp) (fun y hy => by
      simp at hy; rcases hy with rfl | rfl
      · simp
      · omega))
    clear hT hpn hdl hps hvs hsh
    rw [hn] at h0 h1 hDec ⊢
    clear hn
    go_enter Tryz.func10, Tryz.ntmps10
    go_wp2_with fail
    refine hDec.out.mono ?_
    rintro e w1 ⟨rfl, k1⟩
    have k2 := k1.alloc k1.size (.cells #[.int .i64 0, .int .i64 a, .int .i64 b, .int .i64 c, .int .i64 m] 49)
    obtain ⟨w2, hw2⟩ : ∃ w2, w2 = w1.alloc (.cells #[.int .i64 0, .int .i64 a, .int .i64 b, .int .i64 c, .int .i64 m] 49) := ⟨_, rfl⟩
    rw [← hw2] at k2
    have hF2 := hFm.out w2 (hT'.out.below k2)
    replace hF2 := Lib.hid hF2
    replace k2 := Lib.hid k2
    replace hw2 := Lib.hid hw2
    clear k1
    go_wp2_with fail
    rw [← hw2.out]
    refine hF2.out.mono ?_
    rintro e w3 ⟨rfl, k3⟩
    have k4 := Lib.hid (k2.out.trans (k3.mono k2.out.size))
    clear k3 hw2
    go_wp2_with fail
    have hO := World.ownsRow_lit (e := 9) (size := 1) w3 #[.string ⟨#[119, 111, 114, 100]⟩, .string ⟨(decDigits n).toArray⟩] 2 k4.out.size (by unfold maxLen; omega) rfl
    refine (hJ.out W.heap.size _ _ hO).mono ?_
    rintro e w4 ⟨rfl, k5⟩
    have k6 := Lib.hid ((k4.out.alloc k4.out.size _).trans (k5.mono (by have := k4.out.size; simp; omega)))
    clear k5 hO
    go_wp2
    rw [hD.out]
    exact ⟨by rw [hP.out]; rfl, k6.out⟩
  · rw [if_neg hop] at hP
    have hopf : (op == 0) = false := by simpa using hop
    have hfl := form_letters op
    have hF := fun w h => Form_any op w h
    have hN := fun w h => Name_any op w h
    have hpl : partsL ⟨op, a, b, c, m⟩ = nameAt op :: (formAt op).map (partL ⟨op, a, b, c, m⟩) := rfl
    have hf3 := form_short op
    obtain ⟨f, hf⟩ : ∃ f, f = formAt op := ⟨_, rfl⟩
    rw [← hf] at hfl hF hpl hf3
    generalize hnm : nameAt op = nm at *
    replace hP := Lib.hid hP
    replace hF := Lib.hid hF
    replace hN := Lib.hid hN
    replace hfl := Lib.hid hfl
    replace hpl := Lib.hid hpl
    replace hf3 := Lib.hid hf3
    have hT' := Lib.hid hT
    have hJ := Lib.hid (fun base v w h => join_any base v (partsL ⟨op, a, b, c, m⟩) w h (by rw [hpl.out]; simp) hps.out.1 hps.out.2)
    have hx01 := Lib.hid (And.intro h0 h1)
    obtain ⟨i0, hi, hz0, hz1, hz2⟩ := info_parts infoS
    clear hT hop hf hnm h0 h1
    go_enter Tryz.func10, Tryz.ntmps10
    go_wp2_with fail
    refine hDec.out.mono ?_
    rintro e w1 ⟨rfl, k1⟩
    have K1 := (KR.mk k1 (fun y hy => by cases hy) : KR W [] w1).push [.int .i64 op, .int .i64 a, .int .i64 b, .int .i64 c, .int .i64 m] 49
    obtain ⟨w2, hw2⟩ : ∃ w2, w2 = w1.alloc (.cells #[.int .i64 op, .int .i64 a, .int .i64 b, .int .i64 c, .int .i64 m] 49) := ⟨_, rfl⟩
    replace K1 : KR W [⟨w1.heap.size, ri ⟨op, a, b, c, m⟩⟩] w2 := by rw [hw2]; exact K1
    have hN2 := hN.out w2 (hT'.out.below K1.bl).tabs
    have c0 : w2.cell? ⟨w1.heap.size, 0, none⟩ = some (.int .i64 op) := K1.cell _ (List.mem_cons_self ..) rfl
    replace hN2 := Lib.hid hN2
    replace hw2 := Lib.hid hw2
    replace K1 := Lib.hid K1
    have hsz := Lib.hid k1.size
    clear k1
    have c1 : (w1.alloc (.cells #[.int .i64 op, .int .i64 a, .int .i64 b, .int .i64 c, .int .i64 m] 49)).cell? ⟨w1.heap.size, 0, none⟩ = some (.int .i64 op) := by rw [← hw2.out]; exact c0
    go_wp2_with fail
    rw [← hw2.out]
    refine hN2.out.mono ?_
    rintro e w' ⟨rfl, rfl⟩
    clear hN2 hw2 c0 c1
    generalize w1.heap.size = gi at *
    have K2 := K1.out.alloc (.cells #[.string ⟨nm.toArray⟩] 9)
    have hO2 := World.ownsRow_lit (e := 9) (size := 1) w2 #[.string ⟨nm.toArray⟩] 1 K1.out.bl.size (by unfold maxLen; omega) rfl
    obtain ⟨w3, hw3⟩ : ∃ w3, w3 = w2.alloc (.cells #[.string ⟨nm.toArray⟩] 9) := ⟨_, rfl⟩
    rw [← hw3] at K2 hO2
    have hF3 := hF.out w3 (hT'.out.below K2.bl).tabs
    have c0 : w3.cell? ⟨gi, 0, none⟩ = some (.int .i64 op) := K2.cell _ (List.mem_cons_self ..) rfl
    have hne : w2.heap.size ≠ gi := by have := K1.out.lt (List.mem_cons_self ..); omega
    have hlt3 : w2.heap.size < w3.heap.size := by rw [hw3]; simp
    replace hF3 := Lib.hid hF3
    replace K2 := Lib.hid K2
    replace hO2 := Lib.hid hO2
    replace hw3 := Lib.hid hw3
    replace hne := Lib.hid hne
    replace hlt3 := Lib.hid hlt3
    have c1 : (w2.alloc (.cells #[.string ⟨nm.toArray⟩] 9)).cell? ⟨gi, 0, none⟩ = some (.int .i64 op) := by rw [← hw3.out]; exact c0
    go_wp2_with fail
    rw [← hw3.out]
    refine hF3.out.mono ?_
    rintro e w' ⟨rfl, rfl⟩
    clear hF3 hw3 c0 c1 K1
    generalize w2.heap.size = gs at *
    have H0 := LP.start K2.out ⟨f.toArray⟩
    go_wp2_with fail
    have hO3 : (w3.iter ⟨f.toArray⟩ 0).ownsRow W.heap.size 9 1 (.slice (some ⟨gs, 0, none⟩) 1 1) 1 [.string ⟨nm.toArray⟩] := owns_below hO2.out ((Below.refl _ _).alloc (Nat.le_refl _) _)
    obtain ⟨it, hit⟩ : ∃ it, it = w3.heap.size := ⟨_, rfl⟩
    obtain ⟨w4, hw4⟩ : ∃ w4, w4 = w3.iter ⟨f.toArray⟩ 0 := ⟨_, rfl⟩
    have hne2 : gs ≠ it := by have := hlt3.out; omega
    rw [← hit, ← hw4] at H0
    rw [← hw4] at hO3
    rw [← hit, ← hw4]
    replace H0 := Lib.hid H0
    replace hO3 := Lib.hid hO3
    replace hne2 := Lib.hid hne2
    clear hw4 hit hO2 K2 hlt3
    go_loopw [4] (fun v wr => ∃ (p : Nat) (xs : List (List UInt8)), p ≤ f.length ∧ Hid (xs = nm :: (f.take p).map (partL ⟨op, a, b, c, m⟩)) ∧ Hid (wr.ownsRow W.heap.size 9 1 v xs.length (xs.map strV)) ∧ Hid (v.ownBlock ≠ some gi ∧ v.ownBlock ≠ some it) ∧ Hid (LP W [⟨gi, ri ⟨op, a, b, c, m⟩⟩] it ⟨f.toArray⟩ p wr)) (fun _ wr => f.length - wr.iterPos it)
    case atStart => exact ⟨0, [nm], Nat.zero_le _, Lib.hid rfl, hO3, Lib.hid ⟨by simpa [Value.ownBlock] using hne.out, by simpa [Value.ownBlock] using hne2.out⟩, H0⟩
    case round =>
      obtain ⟨p, xs, hp, hxs, hO, hd, HL⟩ := hrel
      by_cases hlt : p < f.length
      · obtain ⟨ch, hch⟩ : ∃ ch, ch = f[p] := ⟨_, rfl⟩
        have hcs := hfl.out f[p] (List.getElem_mem hlt)
        rw [← hch] at hcs
        rcases hcs with hcl | hcl | hcl | hcl | hcl
        · subst hcl
          have hnx := next_at (P := Tryz.prog) 97 97 HL.out.i hlt hch rfl (by decide)
          have hpart : partL ⟨op, a, b, c, m⟩ 97 = [99] ++ itoa a := rfl
          have hvb : -524288 ≤ a ∧ a ≤ 524287 := hvs.out 97
          have hI := fun w h => itoa_any a (by omega) (by omega) w h
          have hil := Lib.itoa_length_le a (by omega) (by omega)
          have hadd : ∀ w, (Op.stringOp .add ⟨#[99]⟩ ⟨(itoa a).toArray⟩).run Tryz.prog w = .ok (.string ⟨(partL ⟨op, a, b, c, m⟩ 97).toArray⟩) w := fun w => by
            rw [hpart]
            exact run_string_add_lists w [99] (itoa a) (by simp) (by omega)
          have hxs2 : xs ++ [partL ⟨op, a, b, c, m⟩ 97] = nm :: (f.take (p + 1)).map (partL ⟨op, a, b, c, m⟩) := by
            rw [List.take_succ_eq_append_getElem hlt, ← hch, List.map_append, hxs.out]; rfl
          generalize partL ⟨op, a, b, c, m⟩ 97 = pt at *
          replace hI := Lib.hid hI
          replace hxs2 := Lib.hid hxs2
          have hpp := Lib.hid (And.intro hp hlt)
          have H2 := HL.out.next (p + 1)
          have hO2 := owns_iter hO.out hd.out.2 ⟨f.toArray⟩ (p + 1)
          have hI2 := hI.out _ (hT'.out.below H2.k.bl)
          have c0 : (wr.iterAt it ⟨f.toArray⟩ (p + 1)).cell? ⟨gi, 1, none⟩ = some (.int .i64 a) := H2.k.cell _ (List.mem_cons_self ..) rfl
          replace hI2 := Lib.hid hI2
          replace hO2 := Lib.hid hO2
          replace H2 := Lib.hid H2
          have hxl := Lib.hid (show xs.length ≤ 4 by rw [hxs.out]; simp; have := hf3.out; omega)
          clear hch hp hlt hpart hvb hil
          go_wp2_with fail
          refine (partOf8_a gi _).mono ?_
          rintro e w' ⟨rfl, rfl⟩
          go_wp2_with fail
          refine hI2.out.mono ?_
          rintro e w5 ⟨rfl, k5⟩
          have H3 := H2.out.below k5
          have hO3 := owns_below hO2.out k5
          replace H3 := Lib.hid H3
          replace hO3 := Lib.hid hO3
          clear k5 c0
          go_wp2_with (at_builtin; refine wpList_append_lies _ rfl _ _ 52 rfl W.heap.size 9 i0 (.string ⟨#[]⟩) 1 16 Tryz.underlying52 hi hz0 hz1 hz2 rfl (by decide) _ _ _ rfl (hO3.out.alloc _) ⟨w5.heap.size, 0, none⟩ 1 1 [.string ⟨pt.toArray⟩] rfl rfl ?c1 ?c2 (by decide) ?c3 ?c4 ?c5 _ rfl ?_)
          case c1 =>
            intro i u hu
            match i, hu with
            | 0, hu => simp at hu; subst hu; simp [Addr.add]
          case c2 => intro u hu; simp at hu; subst hu; rfl
          case c3 => have := hxl.out; unfold maxLen; omega
          case c4 => have := hxl.out; omega
          case c5 => have := H3.out.k.bl.size; simp; omega
          · intro g cap w7 hown' hgrow hwhere hglt
            have hlo := hO3.out.lt
            have H4 := (H3.out.below ((Below.refl _ _).alloc (Nat.le_refl _) _)).grown hgrow (fun q hq => (hlo q hq).1) (fun y hy => by simp at hy; subst hy; exact hd.out.1) hd.out.2
            have hO4 : w7.ownsRow W.heap.size 9 1 (.slice (some ⟨g, 0, none⟩) (xs.length + 1) cap) (xs ++ [pt]).length ((xs ++ [pt]).map strV) := by
              rw [List.map_append, List.length_append]; exact hown'
            have hd4 : (Value.slice (some ⟨g, 0, none⟩) (xs.length + 1) cap).ownBlock ≠ some gi ∧ (Value.slice (some ⟨g, 0, none⟩) (xs.length + 1) cap).ownBlock ≠ some it := by
              have h1 := H3.out.k.lt (List.mem_cons_self ..)
              have h2 := H3.out.lt
              simp only [Value.ownBlock, ne_eq, Option.some.injEq]
              rcases hwhere with h | h
              · exact ⟨fun e => hd.out.1 (by rw [h, e]), fun e => hd.out.2 (by rw [h, e])⟩
              · (try simp at h); omega
            replace H4 := Lib.hid H4
            replace hO4 := Lib.hid hO4
            replace hd4 := Lib.hid hd4
            clear hown' hgrow hwhere hglt hlo
            go_wp2
            refine ⟨⟨p + 1, xs ++ [pt], by have := hpp.out; omega, hxs2, hO4, hd4, H4⟩, ?_⟩
            rw [H4.out.pos, HL.out.pos]
            have := hpp.out
            omega
        · subst hcl
          have hnx := next_at (P := Tryz.prog) 98 98 HL.out.i hlt hch rfl (by decide)
          have hpart : partL ⟨op, a, b, c, m⟩ 98 = [99] ++ itoa b := rfl
          have hvb : -524288 ≤ b ∧ b ≤ 524287 := hvs.out 98
          have hI := fun w h => itoa_any b (by omega) (by omega) w h
          have hil := Lib.itoa_length_le b (by omega) (by omega)
          have hadd : ∀ w, (Op.stringOp .add ⟨#[99]⟩ ⟨(itoa b).toArray⟩).run Tryz.prog w = .ok (.string ⟨(partL ⟨op, a, b, c, m⟩ 98).toArray⟩) w := fun w => by
            rw [hpart]
            exact run_string_add_lists w [99] (itoa b) (by simp) (by omega)
          have hxs2 : xs ++ [partL ⟨op, a, b, c, m⟩ 98] = nm :: (f.take (p + 1)).map (partL ⟨op, a, b, c, m⟩) := by
            rw [List.take_succ_eq_append_getElem hlt, ← hch, List.map_append, hxs.out]; rfl
          generalize partL ⟨op, a, b, c, m⟩ 98 = pt at *
          replace hI := Lib.hid hI
          replace hxs2 := Lib.hid hxs2
          have hpp := Lib.hid (And.intro hp hlt)
          have H2 := HL.out.next (p + 1)
          have hO2 := owns_iter hO.out hd.out.2 ⟨f.toArray⟩ (p + 1)
          have hI2 := hI.out _ (hT'.out.below H2.k.bl)
          have c0 : (wr.iterAt it ⟨f.toArray⟩ (p + 1)).cell? ⟨gi, 2, none⟩ = some (.int .i64 b) := H2.k.cell _ (List.mem_cons_self ..) rfl
          replace hI2 := Lib.hid hI2
          replace hO2 := Lib.hid hO2
          replace H2 := Lib.hid H2
          have hxl := Lib.hid (show xs.length ≤ 4 by rw [hxs.out]; simp; have := hf3.out; omega)
          clear hch hp hlt hpart hvb hil
          go_wp2_with fail
          refine (partOf8_b gi _).mono ?_
          rintro e w' ⟨rfl, rfl⟩
          go_wp2_with fail
          refine hI2.out.mono ?_
          rintro e w5 ⟨rfl, k5⟩
          have H3 := H2.out.below k5
          have hO3 := owns_below hO2.out k5
          replace H3 := Lib.hid H3
          replace hO3 := Lib.hid hO3
          clear k5 c0
          go_wp2_with (at_builtin; refine wpList_append_lies _ rfl _ _ 52 rfl W.heap.size 9 i0 (.string ⟨#[]⟩) 1 16 Tryz.underlying52 hi hz0 hz1 hz2 rfl (by decide) _ _ _ rfl (hO3.out.alloc _) ⟨w5.heap.size, 0, none⟩ 1 1 [.string ⟨pt.toArray⟩] rfl rfl ?c1 ?c2 (by decide) ?c3 ?c4 ?c5 _ rfl ?_)
          case c1 =>
            intro i u hu
            match i, hu with
            | 0, hu => simp at hu; subst hu; simp [Addr.add]
          case c2 => intro u hu; simp at hu; subst hu; rfl
          case c3 => have := hxl.out; unfold maxLen; omega
          case c4 => have := hxl.out; omega
          case c5 => have := H3.out.k.bl.size; simp; omega
          · intro g cap w7 hown' hgrow hwhere hglt
            have hlo := hO3.out.lt
            have H4 := (H3.out.below ((Below.refl _ _).alloc (Nat.le_refl _) _)).grown hgrow (fun q hq => (hlo q hq).1) (fun y hy => by simp at hy; subst hy; exact hd.out.1) hd.out.2
            have hO4 : w7.ownsRow W.heap.size 9 1 (.slice (some ⟨g, 0, none⟩) (xs.length + 1) cap) (xs ++ [pt]).length ((xs ++ [pt]).map strV) := by
              rw [List.map_append, List.length_append]; exact hown'
            have hd4 : (Value.slice (some ⟨g, 0, none⟩) (xs.length + 1) cap).ownBlock ≠ some gi ∧ (Value.slice (some ⟨g, 0, none⟩) (xs.length + 1) cap).ownBlock ≠ some it := by
              have h1 := H3.out.k.lt (List.mem_cons_self ..)
              have h2 := H3.out.lt
              simp only [Value.ownBlock, ne_eq, Option.some.injEq]
              rcases hwhere with h | h
              · exact ⟨fun e => hd.out.1 (by rw [h, e]), fun e => hd.out.2 (by rw [h, e])⟩
              · (try simp at h); omega
            replace H4 := Lib.hid H4
            replace hO4 := Lib.hid hO4
            replace hd4 := Lib.hid hd4
            clear hown' hgrow hwhere hglt hlo
            go_wp2
            refine ⟨⟨p + 1, xs ++ [pt], by have := hpp.out; omega, hxs2, hO4, hd4, H4⟩, ?_⟩
            rw [H4.out.pos, HL.out.pos]
            have := hpp.out
            omega
        · subst hcl
          have hnx := next_at (P := Tryz.prog) 99 99 HL.out.i hlt hch rfl (by decide)
          have hpart : partL ⟨op, a, b, c, m⟩ 99 = [99] ++ itoa c := rfl
          have hvb : -524288 ≤ c ∧ c ≤ 524287 := hvs.out 99
          have hI := fun w h => itoa_any c (by omega) (by omega) w h
          have hil := Lib.itoa_length_le c (by omega) (by omega)
          have hadd : ∀ w, (Op.stringOp .add ⟨#[99]⟩ ⟨(itoa c).toArray⟩).run Tryz.prog w = .ok (.string ⟨(partL ⟨op, a, b, c, m⟩ 99).toArray⟩) w := fun w => by
            rw [hpart]
            exact run_string_add_lists w [99] (itoa c) (by simp) (by omega)
          have hxs2 : xs ++ [partL ⟨op, a, b, c, m⟩ 99] = nm :: (f.take (p + 1)).map (partL ⟨op, a, b, c, m⟩) := by
            rw [List.take_succ_eq_append_getElem hlt, ← hch, List.map_append, hxs.out]; rfl
          generalize partL ⟨op, a, b, c, m⟩ 99 = pt at *
          replace hI := Lib.hid hI
          replace hxs2 := Lib.hid hxs2
          have hpp := Lib.hid (And.intro hp hlt)
          have H2 := HL.out.next (p + 1)
          have hO2 := owns_iter hO.out hd.out.2 ⟨f.toArray⟩ (p + 1)
          have hI2 := hI.out _ (hT'.out.below H2.k.bl)
          have c0 : (wr.iterAt it ⟨f.toArray⟩ (p + 1)).cell? ⟨gi, 3, none⟩ = some (.int .i64 c) := H2.k.cell _ (List.mem_cons_self ..) rfl
          replace hI2 := Lib.hid hI2
          replace hO2 := Lib.hid hO2
          replace H2 := Lib.hid H2
          have hxl := Lib.hid (show xs.length ≤ 4 by rw [hxs.out]; simp; have := hf3.out; omega)
          clear hch hp hlt hpart hvb hil
          go_wp2_with fail
          refine (partOf8_c gi _).mono ?_
          rintro e w' ⟨rfl, rfl⟩
          go_wp2_with fail
          refine hI2.out.mono ?_
          rintro e w5 ⟨rfl, k5⟩
          have H3 := H2.out.below k5
          have hO3 := owns_below hO2.out k5
          replace H3 := Lib.hid H3
          replace hO3 := Lib.hid hO3
          clear k5 c0
          go_wp2_with (at_builtin; refine wpList_append_lies _ rfl _ _ 52 rfl W.heap.size 9 i0 (.string ⟨#[]⟩) 1 16 Tryz.underlying52 hi hz0 hz1 hz2 rfl (by decide) _ _ _ rfl (hO3.out.alloc _) ⟨w5.heap.size, 0, none⟩ 1 1 [.string ⟨pt.toArray⟩] rfl rfl ?c1 ?c2 (by decide) ?c3 ?c4 ?c5 _ rfl ?_)
          case c1 =>
            intro i u hu
            match i, hu with
            | 0, hu => simp at hu; subst hu; simp [Addr.add]
          case c2 => intro u hu; simp at hu; subst hu; rfl
          case c3 => have := hxl.out; unfold maxLen; omega
          case c4 => have := hxl.out; omega
          case c5 => have := H3.out.k.bl.size; simp; omega
          · intro g cap w7 hown' hgrow hwhere hglt
            have hlo := hO3.out.lt
            have H4 := (H3.out.below ((Below.refl _ _).alloc (Nat.le_refl _) _)).grown hgrow (fun q hq => (hlo q hq).1) (fun y hy => by simp at hy; subst hy; exact hd.out.1) hd.out.2
            have hO4 : w7.ownsRow W.heap.size 9 1 (.slice (some ⟨g, 0, none⟩) (xs.length + 1) cap) (xs ++ [pt]).length ((xs ++ [pt]).map strV) := by
              rw [List.map_append, List.length_append]; exact hown'
            have hd4 : (Value.slice (some ⟨g, 0, none⟩) (xs.length + 1) cap).ownBlock ≠ some gi ∧ (Value.slice (some ⟨g, 0, none⟩) (xs.length + 1) cap).ownBlock ≠ some it := by
              have h1 := H3.out.k.lt (List.mem_cons_self ..)
              have h2 := H3.out.lt
              simp only [Value.ownBlock, ne_eq, Option.some.injEq]
              rcases hwhere with h | h
              · exact ⟨fun e => hd.out.1 (by rw [h, e]), fun e => hd.out.2 (by rw [h, e])⟩
              · (try simp at h); omega
            replace H4 := Lib.hid H4
            replace hO4 := Lib.hid hO4
            replace hd4 := Lib.hid hd4
            clear hown' hgrow hwhere hglt hlo
            go_wp2
            refine ⟨⟨p + 1, xs ++ [pt], by have := hpp.out; omega, hxs2, hO4, hd4, H4⟩, ?_⟩
            rw [H4.out.pos, HL.out.pos]
            have := hpp.out
            omega
        · subst hcl
          have hnx := next_at (P := Tryz.prog) 105 105 HL.out.i hlt hch rfl (by decide)
          have hpart : partL ⟨op, a, b, c, m⟩ 105 = [] ++ itoa m := rfl
          have hvb : -524288 ≤ m ∧ m ≤ 524287 := hvs.out 105
          have hI := fun w h => itoa_any m (by omega) (by omega) w h
          have hil := Lib.itoa_length_le m (by omega) (by omega)
          have hadd : ∀ w, (Op.stringOp .add ⟨#[]⟩ ⟨(itoa m).toArray⟩).run Tryz.prog w = .ok (.string ⟨(partL ⟨op, a, b, c, m⟩ 105).toArray⟩) w := fun w => by
            rw [hpart]
            exact run_string_add_lists w [] (itoa m) (by simp) (by omega)
          have hxs2 : xs ++ [partL ⟨op, a, b, c, m⟩ 105] = nm :: (f.take (p + 1)).map (partL ⟨op, a, b, c, m⟩) := by
            rw [List.take_succ_eq_append_getElem hlt, ← hch, List.map_append, hxs.out]; rfl
          generalize partL ⟨op, a, b, c, m⟩ 105 = pt at *
          replace hI := Lib.hid hI
          replace hxs2 := Lib.hid hxs2
          have hpp := Lib.hid (And.intro hp hlt)
          have H2 := HL.out.next (p + 1)
          have hO2 := owns_iter hO.out hd.out.2 ⟨f.toArray⟩ (p + 1)
          have hI2 := hI.out _ (hT'.out.below H2.k.bl)
          have c0 : (wr.iterAt it ⟨f.toArray⟩ (p + 1)).cell? ⟨gi, 4, none⟩ = some (.int .i64 m) := H2.k.cell _ (List.mem_cons_self ..) rfl
          replace hI2 := Lib.hid hI2
          replace hO2 := Lib.hid hO2
          replace H2 := Lib.hid H2
          have hxl := Lib.hid (show xs.length ≤ 4 by rw [hxs.out]; simp; have := hf3.out; omega)
          clear hch hp hlt hpart hvb hil
          go_wp2_with fail
          refine (partOf8_m gi 105 (.inl rfl) _).mono ?_
          rintro e w' ⟨rfl, rfl⟩
          go_wp2_with fail
          refine hI2.out.mono ?_
          rintro e w5 ⟨rfl, k5⟩
          have H3 := H2.out.below k5
          have hO3 := owns_below hO2.out k5
          replace H3 := Lib.hid H3
          replace hO3 := Lib.hid hO3
          clear k5 c0
          go_wp2_with (at_builtin; refine wpList_append_lies _ rfl _ _ 52 rfl W.heap.size 9 i0 (.string ⟨#[]⟩) 1 16 Tryz.underlying52 hi hz0 hz1 hz2 rfl (by decide) _ _ _ rfl (hO3.out.alloc _) ⟨w5.heap.size, 0, none⟩ 1 1 [.string ⟨pt.toArray⟩] rfl rfl ?c1 ?c2 (by decide) ?c3 ?c4 ?c5 _ rfl ?_)
          case c1 =>
            intro i u hu
            match i, hu with
            | 0, hu => simp at hu; subst hu; simp [Addr.add]
          case c2 => intro u hu; simp at hu; subst hu; rfl
          case c3 => have := hxl.out; unfold maxLen; omega
          case c4 => have := hxl.out; omega
          case c5 => have := H3.out.k.bl.size; simp; omega
          · intro g cap w7 hown' hgrow hwhere hglt
            have hlo := hO3.out.lt
            have H4 := (H3.out.below ((Below.refl _ _).alloc (Nat.le_refl _) _)).grown hgrow (fun q hq => (hlo q hq).1) (fun y hy => by simp at hy; subst hy; exact hd.out.1) hd.out.2
            have hO4 : w7.ownsRow W.heap.size 9 1 (.slice (some ⟨g, 0, none⟩) (xs.length + 1) cap) (xs ++ [pt]).length ((xs ++ [pt]).map strV) := by
              rw [List.map_append, List.length_append]; exact hown'
            have hd4 : (Value.slice (some ⟨g, 0, none⟩) (xs.length + 1) cap).ownBlock ≠ some gi ∧ (Value.slice (some ⟨g, 0, none⟩) (xs.length + 1) cap).ownBlock ≠ some it := by
              have h1 := H3.out.k.lt (List.mem_cons_self ..)
              have h2 := H3.out.lt
              simp only [Value.ownBlock, ne_eq, Option.some.injEq]
              rcases hwhere with h | h
              · exact ⟨fun e => hd.out.1 (by rw [h, e]), fun e => hd.out.2 (by rw [h, e])⟩
              · (try simp at h); omega
            replace H4 := Lib.hid H4
            replace hO4 := Lib.hid hO4
            replace hd4 := Lib.hid hd4
            clear hown' hgrow hwhere hglt hlo
            go_wp2
            refine ⟨⟨p + 1, xs ++ [pt], by have := hpp.out; omega, hxs2, hO4, hd4, H4⟩, ?_⟩
            rw [H4.out.pos, HL.out.pos]
            have := hpp.out
            omega
        · subst hcl
          have hnx := next_at (P := Tryz.prog) 106 106 HL.out.i hlt hch rfl (by decide)
          have hpart : partL ⟨op, a, b, c, m⟩ 106 = [] ++ itoa m := rfl
          have hvb : -524288 ≤ m ∧ m ≤ 524287 := hvs.out 106
          have hI := fun w h => itoa_any m (by omega) (by omega) w h
          have hil := Lib.itoa_length_le m (by omega) (by omega)
          have hadd : ∀ w, (Op.stringOp .add ⟨#[]⟩ ⟨(itoa m).toArray⟩).run Tryz.prog w = .ok (.string ⟨(partL ⟨op, a, b, c, m⟩ 106).toArray⟩) w := fun w => by
            rw [hpart]
            exact run_string_add_lists w [] (itoa m) (by simp) (by omega)
          have hxs2 : xs ++ [partL ⟨op, a, b, c, m⟩ 106] = nm :: (f.take (p + 1)).map (partL ⟨op, a, b, c, m⟩) := by
            rw [List.take_succ_eq_append_getElem hlt, ← hch, List.map_append, hxs.out]; rfl
          generalize partL ⟨op, a, b, c, m⟩ 106 = pt at *
          replace hI := Lib.hid hI
          replace hxs2 := Lib.hid hxs2
          have hpp := Lib.hid (And.intro hp hlt)
          have H2 := HL.out.next (p + 1)
          have hO2 := owns_iter hO.out hd.out.2 ⟨f.toArray⟩ (p + 1)
          have hI2 := hI.out _ (hT'.out.below H2.k.bl)
          have c0 : (wr.iterAt it ⟨f.toArray⟩ (p + 1)).cell? ⟨gi, 4, none⟩ = some (.int .i64 m) := H2.k.cell _ (List.mem_cons_self ..) rfl
          replace hI2 := Lib.hid hI2
          replace hO2 := Lib.hid hO2
          replace H2 := Lib.hid H2
          have hxl := Lib.hid (show xs.length ≤ 4 by rw [hxs.out]; simp; have := hf3.out; omega)
          clear hch hp hlt hpart hvb hil
          go_wp2_with fail
          refine (partOf8_m gi 106 (.inr rfl) _).mono ?_
          rintro e w' ⟨rfl, rfl⟩
          go_wp2_with fail
          refine hI2.out.mono ?_
          rintro e w5 ⟨rfl, k5⟩
          have H3 := H2.out.below k5
          have hO3 := owns_below hO2.out k5
          replace H3 := Lib.hid H3
          replace hO3 := Lib.hid hO3
          clear k5 c0
          go_wp2_with (at_builtin; refine wpList_append_lies _ rfl _ _ 52 rfl W.heap.size 9 i0 (.string ⟨#[]⟩) 1 16 Tryz.underlying52 hi hz0 hz1 hz2 rfl (by decide) _ _ _ rfl (hO3.out.alloc _) ⟨w5.heap.size, 0, none⟩ 1 1 [.string ⟨pt.toArray⟩] rfl rfl ?c1 ?c2 (by decide) ?c3 ?c4 ?c5 _ rfl ?_)
          case c1 =>
            intro i u hu
            match i, hu with
            | 0, hu => simp at hu; subst hu; simp [Addr.add]
          case c2 => intro u hu; simp at hu; subst hu; rfl
          case c3 => have := hxl.out; unfold maxLen; omega
          case c4 => have := hxl.out; omega
          case c5 => have := H3.out.k.bl.size; simp; omega
          · intro g cap w7 hown' hgrow hwhere hglt
            have hlo := hO3.out.lt
            have H4 := (H3.out.below ((Below.refl _ _).alloc (Nat.le_refl _) _)).grown hgrow (fun q hq => (hlo q hq).1) (fun y hy => by simp at hy; subst hy; exact hd.out.1) hd.out.2
            have hO4 : w7.ownsRow W.heap.size 9 1 (.slice (some ⟨g, 0, none⟩) (xs.length + 1) cap) (xs ++ [pt]).length ((xs ++ [pt]).map strV) := by
              rw [List.map_append, List.length_append]; exact hown'
            have hd4 : (Value.slice (some ⟨g, 0, none⟩) (xs.length + 1) cap).ownBlock ≠ some gi ∧ (Value.slice (some ⟨g, 0, none⟩) (xs.length + 1) cap).ownBlock ≠ some it := by
              have h1 := H3.out.k.lt (List.mem_cons_self ..)
              have h2 := H3.out.lt
              simp only [Value.ownBlock, ne_eq, Option.some.injEq]
              rcases hwhere with h | h
              · exact ⟨fun e => hd.out.1 (by rw [h, e]), fun e => hd.out.2 (by rw [h, e])⟩
              · (try simp at h); omega
            replace H4 := Lib.hid H4
            replace hO4 := Lib.hid hO4
            replace hd4 := Lib.hid hd4
            clear hown' hgrow hwhere hglt hlo
            go_wp2
            refine ⟨⟨p + 1, xs ++ [pt], by have := hpp.out; omega, hxs2, hO4, hd4, H4⟩, ?_⟩
            rw [H4.out.pos, HL.out.pos]
            have := hpp.out
            omega
      · have hpe : p = f.length := by omega
        have hnx := next_end (P := Tryz.prog) HL.out.i hlt
        have hxe : xs = partsL ⟨op, a, b, c, m⟩ := by rw [hxs.out, hpl.out, hpe, List.take_length]
        have hJ2 := hJ.out W.heap.size _ _ (by rw [← hxe]; exact hO.out)
        replace hJ2 := Lib.hid hJ2
        clear hxe hpe hlt hp
        go_wp2_with (refine hJ2.out.mono ?_; rintro e w5 ⟨rfl, k5⟩; replace k5 := Lib.hid (HL.out.below k5).k.bl)
        rw [hD.out]
        exact ⟨by rw [hP.out]; rfl, k5.out⟩
end Go.Proofs.YtdkggahkfheocaaGreatDoor
