/- Contracts of caps' lay and Bytes. No statement is proved here. -/
import Derived.Test.YtpopfmboonjplaaCapR
import Derived.Test.YtpopfmboonjplaaOctD
namespace Go.Proofs.Ytpopfmboonjplaa
open Go.RowKit
set_option linter.unusedVariables false

/-- The bytes of some fields, one behind the other. -/
def preF : List (Nat × Nat) → List UInt8
  | [] => []
  | p :: fs => leB p.1 p.2 ++ preF fs
theorem preF_snoc : ∀ (fs : List (Nat × Nat)) (p : Nat × Nat), preF (fs ++ [p]) = preF fs ++ leB p.1 p.2
  | [], p => by simp [preF]
  | q :: fs, p => by simp [preF, preF_snoc fs p]
theorem preF_append : ∀ (fs gs : List (Nat × Nat)), preF (fs ++ gs) = preF fs ++ preF gs
  | [], gs => rfl
  | q :: fs, gs => by simp [preF, preF_append fs gs]
theorem preF_step {fs : List (Nat × Nat)} {j : Nat} {p : Nat × Nat} (h : fs[j]? = some p) : preF (fs.take (j + 1)) = preF (fs.take j) ++ leB p.1 p.2 := by
  rw [List.take_add_one, h]; exact preF_snoc _ _
theorem preF_le (fs : List (Nat × Nat)) (j : Nat) : (preF (fs.take j)).length ≤ (preF fs).length := by
  conv => rhs; rw [← List.take_append_drop j fs, preF_append]
  simp

/-- The fields lie in block fb. -/
def FieldsAt (w : World) (fb : Nat) (fs : List (Nat × Nat)) : Prop := ∀ j p, fs[j]? = some p → w.cell? ⟨fb, j * 2, none⟩ = some (.int .i64 (p.1 : Nat)) ∧ w.cell? ⟨fb, j * 2 + 1, none⟩ = some (.int .u32 (p.2 : Nat))

theorem play_any (fb : Nat) (fs : List (Nat × Nat)) (w : World) (hw : ∀ p ∈ fs, isW (p.1 : Nat) = true ∧ p.2 < 4294967296) (hl : (preF fs).length = 16) (hfb : fb < w.heap.size) (hn : fs.length ≤ 16) (hc : FieldsAt w fb fs) :
    Calls Try.prog 40 #[.slice (some ⟨fb, 0, none⟩) fs.length fs.length] w fun e w' => e = .returned (.string ⟨(preF fs).toArray⟩) ∧ Below w.heap.size w w' := by
  have hmk : ∀ w : World, (Instr.makeSlice 28 (.int .i64 16) (.int .i64 16)).run Try.prog w = .ok (.slice (some ⟨w.heap.size, 0, none⟩) 16 16) (w.alloc (.cells (madeCells #[.int .u8 0] 16) 5)) := run_make_row' (P := Try.prog) 28 5 (.int .u8 0) 1 Try.underlying28 info8 rfl .i64 .i64 16 (by omega) (by omega)
  have h0 : Has (w.alloc (.cells (madeCells #[.int .u8 0] 16) 5)) w.heap.size 0 (List.replicate 16 0) := fun j u hu => by
    rw [Nat.zero_add]
    have hj : j < 16 := by simpa using (List.getElem?_eq_some_iff.1 hu).1
    obtain rfl : u = 0 := by
      obtain ⟨h1, h2⟩ := List.getElem?_eq_some_iff.1 hu
      rw [List.getElem_replicate] at h2
      exact h2.symm
    rw [World.cell?_alloc_at (hn := rfl), World.frozen?_alloc_at (hn := rfl)]
    refine ⟨?_, rfl⟩
    rw [← Array.getElem?_toList, toList_madeCells_one, List.getElem?_replicate, if_pos hj]
    rfl
  replace h0 := Lib.hid h0
  have hb0 := Lib.hid ((Below.refl w.heap.size w).alloc (Nat.le_refl _) (.cells (madeCells #[.int .u8 0] 16) 5))
  have hs0 := Lib.hid (show w.heap.size < (w.alloc (.cells (madeCells #[.int .u8 0] 16) 5)).heap.size from by simp)
  have hW := Lib.hid hw
  have hL := Lib.hid hl
  have hC := Lib.hid hc
  clear hw hl hc
  go_enter Try.func40, Try.ntmps40
  go_wp2_with fail
  go_loopw [4, 10] (fun at_ i wr => ∃ j : Nat, j ≤ fs.length ∧ i = .int .i64 j ∧ at_ = .int .i64 (preF (fs.take j)).length ∧ Has wr w.heap.size 0 (preF (fs.take j) ++ List.replicate (16 - (preF (fs.take j)).length) 0) ∧ Below w.heap.size w wr ∧ w.heap.size < wr.heap.size) (fun _ i _ => fs.length - (intOf i).toNat)
  case atStart => exact ⟨0, by omega, rfl, rfl, h0.out, hb0.out, hs0.out⟩
  case round =>
    obtain ⟨j, hj, rfl, rfl, hh, hb, hs⟩ := hrel
    by_cases hlt : j < fs.length
    · obtain ⟨p, hp⟩ : ∃ p, fs[j]? = some p := ⟨fs[j], List.getElem?_eq_getElem hlt⟩
      obtain ⟨c0, c1⟩ := hC.out j p hp
      replace c0 : wr.cell? ⟨fb, j * 2, none⟩ = some (.int .i64 (p.1 : Nat)) := (hb.cell hfb).trans c0
      replace c1 : wr.cell? ⟨fb, j * 2 + 1, none⟩ = some (.int .u32 (p.2 : Nat)) := (hb.cell hfb).trans c1
      have hp16 := preF_le fs (j + 1)
      have hst := preF_step hp
      have hwp := hW.out p (List.mem_of_getElem? hp)
      obtain ⟨wd, v⟩ := p
      have hk4 := isW_cases hwp.1
      rw [hst, List.length_append, leB_length, hL.out] at hp16
      replace hst := Lib.hid hst
      have hcl : (preF (fs.take j) ++ List.replicate (16 - (preF (fs.take j)).length) (0 : UInt8)).length = 16 := by simp; omega
      have hq : Has (wr.alloc (.cells #[.int .i64 (wd : Nat), .int .u32 (v : Nat)] 87)) w.heap.size 0 (preF (fs.take j) ++ List.replicate (16 - (preF (fs.take j)).length) 0) := hh.below ((Below.refl wr.heap.size wr).alloc (Nat.le_refl _) _) hs
      have hset := set_any w.heap.size 0 (preF (fs.take j) ++ List.replicate (16 - (preF (fs.take j)).length) 0) [] 16 (preF (fs.take j)).length wd v (wr.alloc (.cells #[.int .i64 (wd : Nat), .int .u32 (v : Nat)] 87)) (by omega) (by omega) (by omega) hwp.2 (by rw [List.append_nil]; exact hq)
      rw [hcl] at hset
      have hsb : setB (preF (fs.take j) ++ List.replicate (16 - (preF (fs.take j)).length) 0) (preF (fs.take j)).length wd v = preF (fs.take j) ++ leB wd v ++ List.replicate (16 - ((preF (fs.take j)).length + wd)) 0 := by
        unfold setB
        rw [hcl, show inB 16 ((preF (fs.take j)).length : Nat) (wd : Nat) = true from by simp [inB, hwp.1]; omega, if_pos rfl]
        simp only [Int.toNat_natCast]
        rw [List.take_left', List.drop_append, List.drop_eq_nil_of_le (by omega), List.nil_append, List.drop_replicate]
        · congr 2; omega
        · rfl
      rw [List.append_nil, hsb] at hset
      replace hset := Lib.hid hset
      have hbq := Lib.hid (hb.alloc (Nat.le_of_lt hs) (.cells #[.int .i64 (wd : Nat), .int .u32 (v : Nat)] 87))
      have hd0 : (wr.alloc (.cells #[.int .i64 (wd : Nat), .int .u32 (v : Nat)] 87)).cell? ⟨wr.heap.size, 0, none⟩ = some (.int .i64 (wd : Nat)) := by simp [go_sem]
      have hsq := Lib.hid (show wr.heap.size < (wr.alloc (.cells #[.int .i64 (wd : Nat), .int .u32 (v : Nat)] 87)).heap.size from by simp)
      clear hsb hq hcl hwp hh hb
      replace hp16 := Lib.hid hp16
      generalize hPL : (preF (fs.take j)).length = L at *
      go_wp2_with fail
      refine hset.out.mono ?_
      rintro e' w2 ⟨rfl, g1, g2, g3⟩
      have d0 : w2.cell? ⟨wr.heap.size, 0, none⟩ = some (.int .i64 (wd : Nat)) := ((g2 ⟨wr.heap.size, 0, none⟩ (by show wr.heap.size ≠ _; omega)).1).trans hd0
      have hb2 := Lib.hid (hbq.out.trans g3)
      have hs2 := Lib.hid (Nat.lt_trans hs (Nat.lt_of_lt_of_le hsq.out g3.size))
      replace g1 := Lib.hid g1
      have hL16 : L + wd ≤ 16 := hp16.out
      clear g2 g3 hset hd0 hbq hsq c0 c1
      go_wp2_with fail
      go_roundw
      case rel => 
        refine ⟨j + 1, by omega, by go_num, ?_, ?_, hb2.out, hs2.out⟩
        · rw [hst.out, List.length_append, leB_length, hPL]; rfl
        · rw [hst.out, List.length_append, leB_length, hPL]; exact g1.out
      case measure => simp [intOf]; omega
    · obtain rfl : j = fs.length := by omega
      rw [List.take_length] at hh
      have hl16 := hL.out
      rw [hl16, show List.replicate (16 - 16) (0 : UInt8) = [] from rfl, List.append_nil] at hh
      have hcv := has_conv 16 hh
      rw [hl16] at hcv
      replace hb := Lib.hid hb
      clear hh
      go_wp2_with fail
      go_ret
      exact ⟨rfl, hb.out⟩

theorem leB_3 (n : Nat) : leB 2 n ++ leB 1 (n / 65536) = leB 3 n := by
  simp [leB, Nat.div_div_eq_div_mul]
theorem pBytes_any (cu e b t pm ty rs : Nat) (va : Bool) (l0 : cu < 4294967296) (l1 : e < 256) (l2 : b < 65536) (l3 : t < 65536) (l4 : pm < 65536) (l5 : ty < 65536) (l6 : rs < 4294967296) (W : World) : Calls Try.prog 13 #[.agg #[.int .u32 cu, .int .u8 e, .int .u16 b, .int .u16 t, .int .u16 pm, .int .u16 ty, .int .u32 rs, .bool va]] W fun ee w' => ee = .returned (.string ⟨(bytesC cu e b t pm ty rs).toArray⟩) ∧ Below W.heap.size W w' := by
  have hP : preF [(4, cu), (1, e), (2, b), (2, t), (2, pm), (2, ty), (2, rs), (1, rs / 65536)] = bytesC cu e b t pm ty rs := by
    simp only [preF, bytesC, List.append_assoc, List.append_nil]
    rw [leB_3]
  have hl := Lib.hid (fun w fb hfb hc => play_any fb [(4, cu), (1, e), (2, b), (2, t), (2, pm), (2, ty), (2, rs), (1, rs / 65536)] w (by
    intro p hp
    simp at hp
    rcases hp with rfl | rfl | rfl | rfl | rfl | rfl | rfl | rfl <;> exact ⟨rfl, by show _ < 4294967296; omega⟩) (by rw [hP, bytesC_length]) hfb (by simp) hc)
  rw [hP] at hl
  clear hP
  go_enter Try.func13, Try.ntmps13
  go_wp2_with fail
  have hF : FieldsAt ((W.alloc (.cells #[.int .u32 cu, .int .u8 e, .int .u16 b, .int .u16 t, .int .u16 pm, .int .u16 ty, .int .u32 rs, .bool va] 25)).alloc (.cells #[.int .i64 4, .int .u32 cu, .int .i64 1, .int .u32 e, .int .i64 2, .int .u32 b, .int .i64 2, .int .u32 t, .int .i64 2, .int .u32 pm, .int .i64 2, .int .u32 ty, .int .i64 2, .int .u32 rs, .int .i64 1, .int .u32 ((rs : Int) / 65536)] 87)) (W.heap.size + 1) [(4, cu), (1, e), (2, b), (2, t), (2, pm), (2, ty), (2, rs), (1, rs / 65536)] := by
    intro j p hp
    have hj : j < 8 := by simpa using (List.getElem?_eq_some_iff.1 hp).1
    have : j = 0 ∨ j = 1 ∨ j = 2 ∨ j = 3 ∨ j = 4 ∨ j = 5 ∨ j = 6 ∨ j = 7 := by omega
    rcases this with rfl | rfl | rfl | rfl | rfl | rfl | rfl | rfl <;> (simp at hp; subst hp; rw [World.cell?_alloc_at (hn := by simp), World.cell?_alloc_at (hn := by simp)]; exact ⟨rfl, rfl⟩)
  have hb := Lib.hid (((Below.refl W.heap.size W).alloc (Nat.le_refl _) (.cells #[.int .u32 cu, .int .u8 e, .int .u16 b, .int .u16 t, .int .u16 pm, .int .u16 ty, .int .u32 rs, .bool va] 25)).alloc (by simp) (.cells #[.int .i64 4, .int .u32 cu, .int .i64 1, .int .u32 e, .int .i64 2, .int .u32 b, .int .i64 2, .int .u32 t, .int .i64 2, .int .u32 pm, .int .i64 2, .int .u32 ty, .int .i64 2, .int .u32 rs, .int .i64 1, .int .u32 ((rs : Int) / 65536)] 87))
  refine (hl.out _ _ (by simp) hF).mono ?_
  rintro ee w1 ⟨rfl, h1⟩
  replace h1 := Lib.hid h1
  clear hF
  go_wp2_with fail
  go_ret
  exact ⟨rfl, hb.out.trans (h1.out.mono hb.out.size)⟩
end Go.Proofs.Ytpopfmboonjplaa
