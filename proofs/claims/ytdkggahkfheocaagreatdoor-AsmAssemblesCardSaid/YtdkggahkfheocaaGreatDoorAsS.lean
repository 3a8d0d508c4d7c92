/- Contracts of layer asm, the document's side: the text of a word, and of many. No statement is proved here. -/
import Derived.Test.YtdkggahkfheocaaGreatDoorAsQ
import Derived.Test.YtdkggahkfheocaaGreatDoorAsD
import Derived.Test.YtdkggahkfheocaaGreatDoorIsV
namespace Go.Proofs.YtdkggahkfheocaaGreatDoor
set_option maxRecDepth 100000
open Go.RowKit Go.Lib
set_option linter.unusedVariables false

/-- What has been written when p letters are done. -/
def curL (i : Ins) (p : Nat) : List UInt8 := nameAt i.op ++ joinTail [32] (((formAt i.op).take p).map (partL i))
theorem cur_all (i : Ins) : curL i (formAt i.op).length = join (partsL i) [32] := by
  unfold curL partsL
  rw [List.take_length, join_cons]
theorem cur_next (i : Ins) (f : List UInt8) (hf : f = formAt i.op) (p : Nat) (h : p < f.length) : curL i (p + 1) = curL i p ++ ([32] ++ partL i f[p]) := by
  subst hf
  unfold curL
  rw [List.take_succ_eq_append_getElem h, List.map_append]
  simp [joinTail, List.append_assoc]
theorem cur_short (x : Int) (p : Nat) : (curL (decW x) p).length ≤ 100 := by
  have hf := form_short (decW x).op
  have h1 := name_short (decW x).op
  unfold curL
  rw [List.length_append, joinTail_length, List.length_map]
  have h2 := strings_len (((formAt (decW x).op).take p).map (partL (decW x))) 22 (fun y hy => by
    obtain ⟨c, _, rfl⟩ := List.mem_map.1 hy
    exact part_short x c)
  rw [List.length_map, List.length_take] at h2
  rw [List.length_take]
  simp only [List.length_cons, List.length_nil]
  omega
theorem fld_small (x : Int) : 0 ≤ (decW x).a ∧ (decW x).a ≤ 15 ∧ 0 ≤ (decW x).b ∧ (decW x).b ≤ 15 ∧ 0 ≤ (decW x).c ∧ (decW x).c ≤ 15 := by
  rcases decW_zero_or x with h | ⟨hm, -⟩
  · rw [h]; decide
  · obtain ⟨k1, k2, ha, hb, hc, hmm⟩ := may_parts hm
    have a1 := fld_in ha; have b1 := fld_in hb; have c1 := fld_in hc
    omega

theorem index_list (l : List UInt8) (p : Nat) (h : p < l.length) (ch : UInt8) (hc : ch = l[p]) : ∀ w, (Instr.index 9 (.string ⟨l.toArray⟩) (.int .i64 p)).run Tryz.prog w = .ok (.int .u8 (ch.toNat : Int)) w := fun w => by
  rw [run_index_string w 9 ⟨l.toArray⟩ .i64 p Tryz.underlying9]
  have hz : (⟨l.toArray⟩ : ByteArray).size = l.length := size_mk l
  rw [dif_pos (by rw [hz]; omega)]
  have e : (⟨l.toArray⟩ : ByteArray)[((p : Int)).toNat]'(by rw [hz]; simpa using h) = l[p] := by
    show l.toArray[((p : Int)).toNat]'(by simpa using h) = l[p]
    simp
  rw [e, hc]
set_option maxHeartbeats 8000000 in
theorem rprint_any (x : Int) (h0 : 0 ≤ x) (h1 : x < 4294967296) (W : World) : Calls Tryz.prog 11 #[.int .u32 x] W fun e w' => e = .returned (.string ⟨(printL x).toArray⟩) ∧ Below W.heap.size W w' := by
  obtain ⟨D, hD⟩ : ∃ D : Ending → World → Prop, D = fun e w' => e = .returned (.string ⟨(printL x).toArray⟩) ∧ Below W.heap.size W w' := ⟨_, rfl⟩
  rw [← hD]
  replace hD := Lib.hid hD
  have hDec := rDecode_any x h0 h1 W
  unfold DecPost at hDec
  have hP : printL x = if (decW x).op = 0 then join [[119, 111, 114, 100], decDigits x.toNat] [32] else join (partsL (decW x)) [32] := rfl
  have hvs := fun c => dec_small x c
  have hcs := fun p => cur_short x p
  have hfs := fld_small x
  generalize decW x = i at *
  obtain ⟨op, a, b, c, m⟩ := i
  replace hDec : Calls Tryz.prog 31 #[.int .u32 x] W fun e w' => e = .returned (.agg #[.int .i64 op, .int .i64 a, .int .i64 b, .int .i64 c, .int .i64 m]) ∧ Below W.heap.size W w' := hDec
  replace hDec := Lib.hid hDec
  replace hvs := Lib.hid hvs
  replace hcs := Lib.hid hcs
  replace hfs := Lib.hid hfs
  by_cases hop : op = 0
  · subst hop
    rw [if_pos rfl] at hP
    have hdl : (decDigits x.toNat).length ≤ 20 := by rw [decDigits_length]; exact Lib.nDigits_le20 _ (by omega)
    have hDg := Lib.hid (fun w => rdigits_any x h0 (by omega) w)
    have hadd : ∀ w, (Op.stringOp .add ⟨#[119, 111, 114, 100, 32]⟩ ⟨(decDigits x.toNat).toArray⟩).run Tryz.prog w = .ok (.string ⟨(printL x).toArray⟩) w := fun w => by
      rw [hP, join_cons]
      refine (run_string_add_lists w [119, 111, 114, 100, 32] (decDigits x.toNat) (by simp) (by omega)).trans ?_
      simp [joinTail]
    replace hP := Lib.hid hP
    clear hdl hcs hvs hfs
    go_enter Tryz.func11, Tryz.ntmps11
    go_wp2_with fail
    refine hDec.out.mono ?_
    rintro e w1 ⟨rfl, k1⟩
    have k2 := k1.alloc k1.size (.cells #[.int .i64 0, .int .i64 a, .int .i64 b, .int .i64 c, .int .i64 m] 49)
    replace k2 := Lib.hid k2
    clear k1
    go_wp2_with (go_at_call 32; refine (hDg.out _).mono ?_; rintro e w3 ⟨rfl, k3⟩; replace k3 := Lib.hid (k2.out.trans (k3.mono k2.out.size)))
    rw [hD.out]
    exact ⟨rfl, k3.out⟩
  · rw [if_neg hop] at hP
    have hopf : (op == 0) = false := by simpa using hop
    have hfl := form_letters op
    have hF := fun w => rForm_any op w
    have hN := fun w => rName_any op w
    have hf3 := form_short op
    have hca := cur_all ⟨op, a, b, c, m⟩
    have hc0 : curL ⟨op, a, b, c, m⟩ 0 = nameAt op := by unfold curL; simp [joinTail]
    dsimp only at hca
    obtain ⟨f, hf⟩ : ∃ f, f = formAt op := ⟨_, rfl⟩
    have hcn := cur_next ⟨op, a, b, c, m⟩ f hf
    simp only [← hf] at hfl hF hf3 hca
    have hlf : (f.length : Int) ≤ 3 := by omega
    replace hP := Lib.hid (hP.trans hca.symm)
    replace hF := Lib.hid hF
    replace hN := Lib.hid hN
    replace hfl := Lib.hid hfl
    replace hcn := Lib.hid hcn
    replace hc0 := Lib.hid hc0
    clear hop hf hca
    have hx01 := Lib.hid (And.intro h0 h1)
    clear h0 h1
    go_enter Tryz.func11, Tryz.ntmps11
    go_wp2_with fail
    refine hDec.out.mono ?_
    rintro e w1 ⟨rfl, k1⟩
    have K1 := (KR.mk k1 (fun y hy => by cases hy) : KR W [] w1).push [.int .i64 op, .int .i64 a, .int .i64 b, .int .i64 c, .int .i64 m] 49
    obtain ⟨w2, hw2⟩ : ∃ w2, w2 = w1.alloc (.cells #[.int .i64 op, .int .i64 a, .int .i64 b, .int .i64 c, .int .i64 m] 49) := ⟨_, rfl⟩
    replace K1 : KR W [⟨w1.heap.size, ri ⟨op, a, b, c, m⟩⟩] w2 := by rw [hw2]; exact K1
    have c0 : w2.cell? ⟨w1.heap.size, 0, none⟩ = some (.int .i64 op) := K1.cell _ (List.mem_cons_self ..) rfl
    have c1 : (w1.alloc (.cells #[.int .i64 op, .int .i64 a, .int .i64 b, .int .i64 c, .int .i64 m] 49)).cell? ⟨w1.heap.size, 0, none⟩ = some (.int .i64 op) := by rw [← hw2]; exact c0
    replace hw2 := Lib.hid hw2
    replace K1 := Lib.hid K1
    clear k1
    go_wp2_with fail
    rw [← hw2.out]
    refine (hN.out _).mono ?_
    rintro e w' ⟨rfl, rfl⟩
    clear hw2 c1
    generalize w1.heap.size = gi at *
    go_wp2_with fail
    refine (hF.out _).mono ?_
    rintro e w' ⟨rfl, rfl⟩
    clear c0
    rw [← hc0.out]
    have hfz : (⟨f.toArray⟩ : ByteArray).size = f.length := size_mk f
    go_wp2
    go_loopw [4, 6] (fun s k wr => ∃ p : Nat, p ≤ f.length ∧ k = .int .i64 p ∧ s = .string ⟨(curL ⟨op, a, b, c, m⟩ p).toArray⟩ ∧ Hid (KR W [⟨gi, ri ⟨op, a, b, c, m⟩⟩] wr)) (fun _ k _ => f.length - (RowKit.intOf k).toNat)
    case atStart => exact ⟨0, Nat.zero_le _, rfl, rfl, K1⟩
    case round =>
      obtain ⟨p, hp, rfl, rfl, hK⟩ := hrel
      by_cases hlt : p < f.length
      · have hnx := hcn.out p hlt
        obtain ⟨ch, hch⟩ : ∃ ch, ch = f[p] := ⟨_, rfl⟩
        have hcl := hfl.out f[p] (List.getElem_mem hlt)
        rw [← hch] at hcl hnx
        have hcur := hcs.out p
        have hcur2 := hcs.out (p + 1)
        have hix := index_list f p hlt ch hch
        rcases hcl with hcl | hcl | hcl | hcl | hcl
        · subst hcl
          have hx2 : ∀ w, (Instr.index 9 (.string ⟨f.toArray⟩) (.int .i64 p)).run Tryz.prog w = .ok (.int .u8 97) w := hix
          have hb : 0 ≤ a ∧ a ≤ 15 := by have := hfs.out; have := hvs.out 105; simp only [val] at this; simp at this; omega
          have hnx2 : curL ⟨op, a, b, c, m⟩ (p + 1) = curL ⟨op, a, b, c, m⟩ p ++ [32, 99] ++ decDigits a.toNat := by
            rw [hnx, List.append_assoc]
            simp [partL, preL, val, itoa_nonneg' (v := a) (by omega)]
          have hlt2 : (decDigits a.toNat).length ≤ 21 := by rw [decDigits_length]; have := Lib.nDigits_le20 a.toNat (by omega); omega
          have hpp := Lib.hid (And.intro hp hlt)
          have c0 : wr.cell? ⟨gi, 1, none⟩ = some (.int .i64 a) := hK.out.cell _ (List.mem_cons_self ..) rfl
          have hG := Lib.hid (fun w => rdigits_any a (by omega) (by omega) w)
          generalize curL ⟨op, a, b, c, m⟩ p = cur at *
          have hadd1 : ∀ w, (Op.stringOp .add ⟨cur.toArray⟩ ⟨#[32, 99]⟩).run Tryz.prog w = .ok (.string ⟨(cur ++ [32, 99]).toArray⟩) w := fun w => run_string_add_lists w cur [32, 99] (by omega) (by simp)
          have hadd2 : ∀ w, (Op.stringOp .add ⟨(cur ++ [32, 99]).toArray⟩ ⟨(decDigits a.toNat).toArray⟩).run Tryz.prog w = .ok (.string ⟨(curL ⟨op, a, b, c, m⟩ (p + 1)).toArray⟩) w := fun w => by
            rw [hnx2]
            exact run_string_add_lists w (cur ++ [32, 99]) (decDigits a.toNat) (by rw [List.length_append]; simp; omega) (by omega)
          obtain ⟨mid, hmid⟩ : ∃ mid, mid = cur ++ [32, 99] := ⟨_, rfl⟩
          rw [← hmid] at hadd1 hadd2
          have h0v : 0 ≤ a := by omega
          have h1v : a ≤ 524287 := by omega
          obtain ⟨nxt, hnxt⟩ : ∃ nxt, nxt = curL ⟨op, a, b, c, m⟩ (p + 1) := ⟨_, rfl⟩
          rw [← hnxt] at hadd2
          replace hnxt := Lib.hid hnxt
          clear hix hch hnx hnx2 hlt2 hp hcur hcur2 hmid hb
          go_wp2_with (refine (hG.out _).mono ?_; rintro e w5 ⟨rfl, k5⟩; have hK5 := Lib.hid (hK.out.below k5); clear k5)
          go_roundw
          case rel => exact ⟨p + 1, by have := hpp.out; omega, by go_num, by rw [hnxt.out], hK5⟩
          case measure => have := hpp.out; simp [RowKit.intOf]; omega
        · subst hcl
          have hx2 : ∀ w, (Instr.index 9 (.string ⟨f.toArray⟩) (.int .i64 p)).run Tryz.prog w = .ok (.int .u8 98) w := hix
          have hb : 0 ≤ b ∧ b ≤ 15 := by have := hfs.out; have := hvs.out 105; simp only [val] at this; simp at this; omega
          have hnx2 : curL ⟨op, a, b, c, m⟩ (p + 1) = curL ⟨op, a, b, c, m⟩ p ++ [32, 99] ++ decDigits b.toNat := by
            rw [hnx, List.append_assoc]
            simp [partL, preL, val, itoa_nonneg' (v := b) (by omega)]
          have hlt2 : (decDigits b.toNat).length ≤ 21 := by rw [decDigits_length]; have := Lib.nDigits_le20 b.toNat (by omega); omega
          have hpp := Lib.hid (And.intro hp hlt)
          have c0 : wr.cell? ⟨gi, 2, none⟩ = some (.int .i64 b) := hK.out.cell _ (List.mem_cons_self ..) rfl
          have hG := Lib.hid (fun w => rdigits_any b (by omega) (by omega) w)
          generalize curL ⟨op, a, b, c, m⟩ p = cur at *
          have hadd1 : ∀ w, (Op.stringOp .add ⟨cur.toArray⟩ ⟨#[32, 99]⟩).run Tryz.prog w = .ok (.string ⟨(cur ++ [32, 99]).toArray⟩) w := fun w => run_string_add_lists w cur [32, 99] (by omega) (by simp)
          have hadd2 : ∀ w, (Op.stringOp .add ⟨(cur ++ [32, 99]).toArray⟩ ⟨(decDigits b.toNat).toArray⟩).run Tryz.prog w = .ok (.string ⟨(curL ⟨op, a, b, c, m⟩ (p + 1)).toArray⟩) w := fun w => by
            rw [hnx2]
            exact run_string_add_lists w (cur ++ [32, 99]) (decDigits b.toNat) (by rw [List.length_append]; simp; omega) (by omega)
          obtain ⟨mid, hmid⟩ : ∃ mid, mid = cur ++ [32, 99] := ⟨_, rfl⟩
          rw [← hmid] at hadd1 hadd2
          have h0v : 0 ≤ b := by omega
          have h1v : b ≤ 524287 := by omega
          obtain ⟨nxt, hnxt⟩ : ∃ nxt, nxt = curL ⟨op, a, b, c, m⟩ (p + 1) := ⟨_, rfl⟩
          rw [← hnxt] at hadd2
          replace hnxt := Lib.hid hnxt
          clear hix hch hnx hnx2 hlt2 hp hcur hcur2 hmid hb
          go_wp2_with (refine (hG.out _).mono ?_; rintro e w5 ⟨rfl, k5⟩; have hK5 := Lib.hid (hK.out.below k5); clear k5)
          go_roundw
          case rel => exact ⟨p + 1, by have := hpp.out; omega, by go_num, by rw [hnxt.out], hK5⟩
          case measure => have := hpp.out; simp [RowKit.intOf]; omega
        · subst hcl
          have hx2 : ∀ w, (Instr.index 9 (.string ⟨f.toArray⟩) (.int .i64 p)).run Tryz.prog w = .ok (.int .u8 99) w := hix
          have hb : 0 ≤ c ∧ c ≤ 15 := by have := hfs.out; have := hvs.out 105; simp only [val] at this; simp at this; omega
          have hnx2 : curL ⟨op, a, b, c, m⟩ (p + 1) = curL ⟨op, a, b, c, m⟩ p ++ [32, 99] ++ decDigits c.toNat := by
            rw [hnx, List.append_assoc]
            simp [partL, preL, val, itoa_nonneg' (v := c) (by omega)]
          have hlt2 : (decDigits c.toNat).length ≤ 21 := by rw [decDigits_length]; have := Lib.nDigits_le20 c.toNat (by omega); omega
          have hpp := Lib.hid (And.intro hp hlt)
          have c0 : wr.cell? ⟨gi, 3, none⟩ = some (.int .i64 c) := hK.out.cell _ (List.mem_cons_self ..) rfl
          have hG := Lib.hid (fun w => rdigits_any c (by omega) (by omega) w)
          generalize curL ⟨op, a, b, c, m⟩ p = cur at *
          have hadd1 : ∀ w, (Op.stringOp .add ⟨cur.toArray⟩ ⟨#[32, 99]⟩).run Tryz.prog w = .ok (.string ⟨(cur ++ [32, 99]).toArray⟩) w := fun w => run_string_add_lists w cur [32, 99] (by omega) (by simp)
          have hadd2 : ∀ w, (Op.stringOp .add ⟨(cur ++ [32, 99]).toArray⟩ ⟨(decDigits c.toNat).toArray⟩).run Tryz.prog w = .ok (.string ⟨(curL ⟨op, a, b, c, m⟩ (p + 1)).toArray⟩) w := fun w => by
            rw [hnx2]
            exact run_string_add_lists w (cur ++ [32, 99]) (decDigits c.toNat) (by rw [List.length_append]; simp; omega) (by omega)
          obtain ⟨mid, hmid⟩ : ∃ mid, mid = cur ++ [32, 99] := ⟨_, rfl⟩
          rw [← hmid] at hadd1 hadd2
          have h0v : 0 ≤ c := by omega
          have h1v : c ≤ 524287 := by omega
          obtain ⟨nxt, hnxt⟩ : ∃ nxt, nxt = curL ⟨op, a, b, c, m⟩ (p + 1) := ⟨_, rfl⟩
          rw [← hnxt] at hadd2
          replace hnxt := Lib.hid hnxt
          clear hix hch hnx hnx2 hlt2 hp hcur hcur2 hmid hb
          go_wp2_with (refine (hG.out _).mono ?_; rintro e w5 ⟨rfl, k5⟩; have hK5 := Lib.hid (hK.out.below k5); clear k5)
          go_roundw
          case rel => exact ⟨p + 1, by have := hpp.out; omega, by go_num, by rw [hnxt.out], hK5⟩
          case measure => have := hpp.out; simp [RowKit.intOf]; omega
        · subst hcl
          have hx2 : ∀ w, (Instr.index 9 (.string ⟨f.toArray⟩) (.int .i64 p)).run Tryz.prog w = .ok (.int .u8 105) w := hix
          have hb : -524288 ≤ m ∧ m ≤ 524287 := by have := hfs.out; have := hvs.out 105; simp only [val] at this; simp at this; omega
          have hnx2 : curL ⟨op, a, b, c, m⟩ (p + 1) = curL ⟨op, a, b, c, m⟩ p ++ [32] ++ itoa m := by
            rw [hnx, List.append_assoc]
            simp [partL, preL, val]
          have hlt2 : (itoa m).length ≤ 21 := Lib.itoa_length_le m (by omega) (by omega)
          have hpp := Lib.hid (And.intro hp hlt)
          have c0 : wr.cell? ⟨gi, 4, none⟩ = some (.int .i64 m) := hK.out.cell _ (List.mem_cons_self ..) rfl
          have hG := Lib.hid (fun w => rsigned_any m (by omega) (by omega) w)
          generalize curL ⟨op, a, b, c, m⟩ p = cur at *
          have hadd1 : ∀ w, (Op.stringOp .add ⟨cur.toArray⟩ ⟨#[32]⟩).run Tryz.prog w = .ok (.string ⟨(cur ++ [32]).toArray⟩) w := fun w => run_string_add_lists w cur [32] (by omega) (by simp)
          have hadd2 : ∀ w, (Op.stringOp .add ⟨(cur ++ [32]).toArray⟩ ⟨(itoa m).toArray⟩).run Tryz.prog w = .ok (.string ⟨(curL ⟨op, a, b, c, m⟩ (p + 1)).toArray⟩) w := fun w => by
            rw [hnx2]
            exact run_string_add_lists w (cur ++ [32]) (itoa m) (by rw [List.length_append]; simp; omega) (by omega)
          obtain ⟨mid, hmid⟩ : ∃ mid, mid = cur ++ [32] := ⟨_, rfl⟩
          rw [← hmid] at hadd1 hadd2
          have h0v : -524288 ≤ m := by omega
          have h1v : m ≤ 524287 := by omega
          obtain ⟨nxt, hnxt⟩ : ∃ nxt, nxt = curL ⟨op, a, b, c, m⟩ (p + 1) := ⟨_, rfl⟩
          rw [← hnxt] at hadd2
          replace hnxt := Lib.hid hnxt
          clear hix hch hnx hnx2 hlt2 hp hcur hcur2 hmid hb
          go_wp2_with (refine (hG.out _).mono ?_; rintro e w5 ⟨rfl, k5⟩; have hK5 := Lib.hid (hK.out.below k5); clear k5)
          go_roundw
          case rel => exact ⟨p + 1, by have := hpp.out; omega, by go_num, by rw [hnxt.out], hK5⟩
          case measure => have := hpp.out; simp [RowKit.intOf]; omega
        · subst hcl
          have hx2 : ∀ w, (Instr.index 9 (.string ⟨f.toArray⟩) (.int .i64 p)).run Tryz.prog w = .ok (.int .u8 106) w := hix
          have hb : -524288 ≤ m ∧ m ≤ 524287 := by have := hfs.out; have := hvs.out 105; simp only [val] at this; simp at this; omega
          have hnx2 : curL ⟨op, a, b, c, m⟩ (p + 1) = curL ⟨op, a, b, c, m⟩ p ++ [32] ++ itoa m := by
            rw [hnx, List.append_assoc]
            simp [partL, preL, val]
          have hlt2 : (itoa m).length ≤ 21 := Lib.itoa_length_le m (by omega) (by omega)
          have hpp := Lib.hid (And.intro hp hlt)
          have c0 : wr.cell? ⟨gi, 4, none⟩ = some (.int .i64 m) := hK.out.cell _ (List.mem_cons_self ..) rfl
          have hG := Lib.hid (fun w => rsigned_any m (by omega) (by omega) w)
          generalize curL ⟨op, a, b, c, m⟩ p = cur at *
          have hadd1 : ∀ w, (Op.stringOp .add ⟨cur.toArray⟩ ⟨#[32]⟩).run Tryz.prog w = .ok (.string ⟨(cur ++ [32]).toArray⟩) w := fun w => run_string_add_lists w cur [32] (by omega) (by simp)
          have hadd2 : ∀ w, (Op.stringOp .add ⟨(cur ++ [32]).toArray⟩ ⟨(itoa m).toArray⟩).run Tryz.prog w = .ok (.string ⟨(curL ⟨op, a, b, c, m⟩ (p + 1)).toArray⟩) w := fun w => by
            rw [hnx2]
            exact run_string_add_lists w (cur ++ [32]) (itoa m) (by rw [List.length_append]; simp; omega) (by omega)
          obtain ⟨mid, hmid⟩ : ∃ mid, mid = cur ++ [32] := ⟨_, rfl⟩
          rw [← hmid] at hadd1 hadd2
          have h0v : -524288 ≤ m := by omega
          have h1v : m ≤ 524287 := by omega
          obtain ⟨nxt, hnxt⟩ : ∃ nxt, nxt = curL ⟨op, a, b, c, m⟩ (p + 1) := ⟨_, rfl⟩
          rw [← hnxt] at hadd2
          replace hnxt := Lib.hid hnxt
          clear hix hch hnx hnx2 hlt2 hp hcur hcur2 hmid hb
          go_wp2_with (refine (hG.out _).mono ?_; rintro e w5 ⟨rfl, k5⟩; have hK5 := Lib.hid (hK.out.below k5); clear k5)
          go_roundw
          case rel => exact ⟨p + 1, by have := hpp.out; omega, by go_num, by rw [hnxt.out], hK5⟩
          case measure => have := hpp.out; simp [RowKit.intOf]; omega
      · have hpe : p = f.length := by omega
        subst hpe
        go_wp2
        rw [hD.out]
        exact ⟨by rw [hP.out]; rfl, hK.out.bl⟩

set_option maxHeartbeats 2000000 in
theorem rdis_any (ws : List Int) (A : Option Addr) (cap : Nat) (W : World) (hA : WL W W.heap.size A ws) (hw : W32 ws) (hl : ws.length ≤ 100) :
    Calls Tryz.prog 13 #[.slice A ws.length cap] W fun e w' => e = .returned (.string ⟨(disL ws).toArray⟩) ∧ Below W.heap.size W w' := by
  have hA' := Lib.hid hA
  have hw' := Lib.hid hw
  have hll := Lib.hid hl
  have hl1 : (ws.length : Int) ≤ 100 := by omega
  clear hA hw
  go_enter Tryz.func13, Tryz.ntmps13
  go_wp2
  go_loopw [3, 4] (fun s i wr => ∃ p : Nat, p ≤ ws.length ∧ i = .int .i64 p ∧ s = .string ⟨(disL (ws.take p)).toArray⟩ ∧ Hid (Below W.heap.size W wr)) (fun _ i _ => ws.length - (RowKit.intOf i).toNat)
  case atStart => exact ⟨0, Nat.zero_le _, rfl, rfl, Lib.hid (Below.refl _ _)⟩
  case round =>
    obtain ⟨p, hp, rfl, rfl, hb⟩ := hrel
    by_cases hlt : p < ws.length
    · obtain ⟨b, off, rfl, hbb, hc⟩ := hA'.out (by omega)
      have hcp := hc p ws[p] (List.getElem?_eq_getElem hlt)
      have hbd := hw'.out ws[p] (List.getElem_mem hlt)
      have hP := fun w => rprint_any ws[p] hbd.1 hbd.2 w
      have hps := print_short ws[p] hbd.1 hbd.2
      have hdt := disL_take ws p hlt
      have hdl := dis_short (ws.take p) (fun x hx => hw'.out x (List.mem_of_mem_take hx))
      have hcw : wr.cell? ⟨b, off + p, none⟩ = some (.int .u32 ws[p]) := (hb.out.cell (p := ⟨b, off + p, none⟩) hbb).trans hcp
      generalize ws[p] = x at *
      rw [List.length_take] at hdl
      generalize disL (ws.take p) = cur at *
      obtain ⟨mid, hmid⟩ : ∃ mid, mid = cur ++ printL x := ⟨_, rfl⟩
      obtain ⟨nxt, hnxt⟩ : ∃ nxt, nxt = disL (ws.take (p + 1)) := ⟨_, rfl⟩
      have hadd1 : ∀ w, (Op.stringOp .add ⟨cur.toArray⟩ ⟨(printL x).toArray⟩).run Tryz.prog w = .ok (.string ⟨mid.toArray⟩) w := fun w => by
        rw [hmid]; exact run_string_add_lists w cur (printL x) (by omega) (by omega)
      have hadd2 : ∀ w, (Op.stringOp .add ⟨mid.toArray⟩ ⟨#[10]⟩).run Tryz.prog w = .ok (.string ⟨nxt.toArray⟩) w := fun w => by
        rw [hnxt, hdt, ← List.append_assoc, ← hmid]
        exact run_string_add_lists w mid [10] (by rw [hmid, List.length_append]; omega) (by simp)
      have hpl := Lib.hid (And.intro hp hlt)
      replace hP := Lib.hid (hP wr)
      replace hnxt := Lib.hid hnxt
      clear hc hcp hbd hps hdt hdl hp hmid
      go_wp2_with (refine hP.out.mono ?_; rintro e w1 ⟨rfl, k1⟩; replace k1 := Lib.hid (hb.out.trans (k1.mono hb.out.size)))
      go_roundw
      case rel => exact ⟨p + 1, by have := hpl.out; omega, by go_num, by rw [hnxt.out], k1⟩
      case measure => have := hpl.out; simp [RowKit.intOf]; omega
    · have hpe : p = ws.length := by omega
      have hte := Lib.hid (show disL (ws.take p) = disL ws by rw [hpe, List.take_length])
      go_wp2
      go_ret
      exact ⟨by rw [hte.out]; rfl, hb.out⟩
end Go.Proofs.YtdkggahkfheocaaGreatDoor
