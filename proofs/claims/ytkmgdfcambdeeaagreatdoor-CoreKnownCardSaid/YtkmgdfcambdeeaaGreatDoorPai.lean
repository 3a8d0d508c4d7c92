/- Contracts of caps' lay and Bytes. No statement is proved here.; Contracts of caps' IsNumber, Holds, Meets, Within, Make. No statement is proved here.; A capability's bytes, and back: plain lemmas; and the law's own 'sound'. No statement is proved here. -/
import Derived.Laws.BitsAllLaws
import Derived.Test.YtkmgdfcambdeeaaGreatDoorPaa
import Derived.Test.YtkmgdfcambdeeaaGreatDoorPaf
import Derived.Test.YtkmgdfcambdeeaaGreatDoorPah
import Derived.Test.YtkmgdfcambdeeaaGreatDoorPag
namespace Go.Proofs.YtkmgdfcambdeeaaGreatDoor
open Go.RowKit
set_option linter.unusedVariables false

/-- The bytes of some fields, one behind the other. -/
def preF : List (Nat × Nat) → List UInt8
  | [] => []
  | p :: fs => leB p.1 p.2 ++ preF fs
theorem preF_snoc : ∀ (fs : List (Nat × Nat)) (p : Nat × Nat), preF (fs ++ [p]) = preF fs ++ leB p.1 p.2
  | [], p => by simp [preF]
  | q :: fs, p => by simp [preF, preF_snoc fs p]
theorem preF_append : ∀ (fs gs : List (Nat × Nat)), preF (fs ++ gs) = preF fs ++ preF gs
  | [], gs => rfl
  | q :: fs, gs => by simp [preF, preF_append fs gs]
theorem preF_step {fs : List (Nat × Nat)} {j : Nat} {p : Nat × Nat} (h : fs[j]? = some p) : preF (fs.take (j + 1)) = preF (fs.take j) ++ leB p.1 p.2 := by
  rw [List.take_add_one, h]; exact preF_snoc _ _
theorem preF_le (fs : List (Nat × Nat)) (j : Nat) : (preF (fs.take j)).length ≤ (preF fs).length := by
  conv => rhs; rw [← List.take_append_drop j fs, preF_append]
  simp

/-- The fields lie in block fb. -/
def FieldsAt (w : World) (fb : Nat) (fs : List (Nat × Nat)) : Prop := ∀ j p, fs[j]? = some p → w.cell? ⟨fb, j * 2, none⟩ = some (.int .i64 (p.1 : Nat)) ∧ w.cell? ⟨fb, j * 2 + 1, none⟩ = some (.int .u32 (p.2 : Nat))

theorem play_any (fb : Nat) (fs : List (Nat × Nat)) (w : World) (hw : ∀ p ∈ fs, isW (p.1 : Nat) = true ∧ p.2 < 4294967296) (hl : (preF fs).length = 16) (hfb : fb < w.heap.size) (hn : fs.length ≤ 16) (hc : FieldsAt w fb fs) :
    Calls Tryz.prog 128 #[.slice (some ⟨fb, 0, none⟩) fs.length fs.length] w fun e w' => e = .returned (.string ⟨(preF fs).toArray⟩) ∧ Below w.heap.size w w' := by
  have hmk : ∀ w : World, (Instr.makeSlice 97 (.int .i64 16) (.int .i64 16)).run Tryz.prog w = .ok (.slice (some ⟨w.heap.size, 0, none⟩) 16 16) (w.alloc (.cells (madeCells #[.int .u8 0] 16) 5)) := run_make_row' (P := Tryz.prog) 97 5 (.int .u8 0) 1 Tryz.underlying97 info8 rfl .i64 .i64 16 (by omega) (by omega)
  have h0 : Has (w.alloc (.cells (madeCells #[.int .u8 0] 16) 5)) w.heap.size 0 (List.replicate 16 0) := fun j u hu => by
    rw [Nat.zero_add]
    have hj : j < 16 := by simpa using (List.getElem?_eq_some_iff.1 hu).1
    obtain rfl : u = 0 := by
      obtain ⟨h1, h2⟩ := List.getElem?_eq_some_iff.1 hu
      rw [List.getElem_replicate] at h2
      exact h2.symm
    rw [World.cell?_alloc_at (hn := rfl), World.frozen?_alloc_at (hn := rfl)]
    refine ⟨?_, rfl⟩
    rw [← Array.getElem?_toList, toList_madeCells_one, List.getElem?_replicate, if_pos hj]
    rfl
  replace h0 := Lib.hid h0
  have hb0 := Lib.hid ((Below.refl w.heap.size w).alloc (Nat.le_refl _) (.cells (madeCells #[.int .u8 0] 16) 5))
  have hs0 := Lib.hid (show w.heap.size < (w.alloc (.cells (madeCells #[.int .u8 0] 16) 5)).heap.size from by simp)
  have hW := Lib.hid hw
  have hL := Lib.hid hl
  have hC := Lib.hid hc
  clear hw hl hc
  go_enter Tryz.func128, Tryz.ntmps128
  go_wp2_with fail
  go_loopw [4, 10] (fun at_ i wr => ∃ j : Nat, j ≤ fs.length ∧ i = .int .i64 j ∧ at_ = .int .i64 (preF (fs.take j)).length ∧ Has wr w.heap.size 0 (preF (fs.take j) ++ List.replicate (16 - (preF (fs.take j)).length) 0) ∧ Below w.heap.size w wr ∧ w.heap.size < wr.heap.size) (fun _ i _ => fs.length - (intOf i).toNat)
  case atStart => exact ⟨0, by omega, rfl, rfl, h0.out, hb0.out, hs0.out⟩
  case round =>
    obtain ⟨j, hj, rfl, rfl, hh, hb, hs⟩ := hrel
    by_cases hlt : j < fs.length
    · obtain ⟨p, hp⟩ : ∃ p, fs[j]? = some p := ⟨fs[j], List.getElem?_eq_getElem hlt⟩
      obtain ⟨c0, c1⟩ := hC.out j p hp
      replace c0 : wr.cell? ⟨fb, j * 2, none⟩ = some (.int .i64 (p.1 : Nat)) := (hb.cell hfb).trans c0
      replace c1 : wr.cell? ⟨fb, j * 2 + 1, none⟩ = some (.int .u32 (p.2 : Nat)) := (hb.cell hfb).trans c1
      have hp16 := preF_le fs (j + 1)
      have hst := preF_step hp
      have hwp := hW.out p (List.mem_of_getElem? hp)
      obtain ⟨wd, v⟩ := p
      have hk4 := isW_cases hwp.1
      rw [hst, List.length_append, leB_length, hL.out] at hp16
      replace hst := Lib.hid hst
      have hcl : (preF (fs.take j) ++ List.replicate (16 - (preF (fs.take j)).length) (0 : UInt8)).length = 16 := by simp; omega
      have hq : Has (wr.alloc (.cells #[.int .i64 (wd : Nat), .int .u32 (v : Nat)] 178)) w.heap.size 0 (preF (fs.take j) ++ List.replicate (16 - (preF (fs.take j)).length) 0) := hh.below ((Below.refl wr.heap.size wr).alloc (Nat.le_refl _) _) hs
      have hset := set_any w.heap.size 0 (preF (fs.take j) ++ List.replicate (16 - (preF (fs.take j)).length) 0) [] 16 (preF (fs.take j)).length wd v (wr.alloc (.cells #[.int .i64 (wd : Nat), .int .u32 (v : Nat)] 178)) (by omega) (by omega) (by omega) hwp.2 (by rw [List.append_nil]; exact hq)
      rw [hcl] at hset
      have hsb : setB (preF (fs.take j) ++ List.replicate (16 - (preF (fs.take j)).length) 0) (preF (fs.take j)).length wd v = preF (fs.take j) ++ leB wd v ++ List.replicate (16 - ((preF (fs.take j)).length + wd)) 0 := by
        unfold setB
        rw [hcl, show inB 16 ((preF (fs.take j)).length : Nat) (wd : Nat) = true from by simp [inB, hwp.1]; omega, if_pos rfl]
        simp only [Int.toNat_natCast]
        rw [List.take_left', List.drop_append, List.drop_eq_nil_of_le (by omega), List.nil_append, List.drop_replicate]
        · congr 2; omega
        · rfl
      rw [List.append_nil, hsb] at hset
      replace hset := Lib.hid hset
      have hbq := Lib.hid (hb.alloc (Nat.le_of_lt hs) (.cells #[.int .i64 (wd : Nat), .int .u32 (v : Nat)] 178))
      have hd0 : (wr.alloc (.cells #[.int .i64 (wd : Nat), .int .u32 (v : Nat)] 178)).cell? ⟨wr.heap.size, 0, none⟩ = some (.int .i64 (wd : Nat)) := by simp [go_sem]
      have hsq := Lib.hid (show wr.heap.size < (wr.alloc (.cells #[.int .i64 (wd : Nat), .int .u32 (v : Nat)] 178)).heap.size from by simp)
      clear hsb hq hcl hwp hh hb
      replace hp16 := Lib.hid hp16
      generalize hPL : (preF (fs.take j)).length = L at *
      go_wp2_with fail
      refine hset.out.mono ?_
      rintro e' w2 ⟨rfl, g1, g2, g3⟩
      have d0 : w2.cell? ⟨wr.heap.size, 0, none⟩ = some (.int .i64 (wd : Nat)) := ((g2 ⟨wr.heap.size, 0, none⟩ (by show wr.heap.size ≠ _; omega)).1).trans hd0
      have hb2 := Lib.hid (hbq.out.trans g3)
      have hs2 := Lib.hid (Nat.lt_trans hs (Nat.lt_of_lt_of_le hsq.out g3.size))
      replace g1 := Lib.hid g1
      have hL16 : L + wd ≤ 16 := hp16.out
      clear g2 g3 hset hd0 hbq hsq c0 c1
      go_wp2_with fail
      go_roundw
      case rel => 
        refine ⟨j + 1, by omega, by go_num, ?_, ?_, hb2.out, hs2.out⟩
        · rw [hst.out, List.length_append, leB_length, hPL]; rfl
        · rw [hst.out, List.length_append, leB_length, hPL]; exact g1.out
      case measure => simp [intOf]; omega
    · obtain rfl : j = fs.length := by omega
      rw [List.take_length] at hh
      have hl16 := hL.out
      rw [hl16, show List.replicate (16 - 16) (0 : UInt8) = [] from rfl, List.append_nil] at hh
      have hcv := has_conv 16 hh
      rw [hl16] at hcv
      replace hb := Lib.hid hb
      clear hh
      go_wp2_with fail
      go_ret
      exact ⟨rfl, hb.out⟩

theorem leB_3 (n : Nat) : leB 2 n ++ leB 1 (n / 65536) = leB 3 n := by
  simp [leB, Nat.div_div_eq_div_mul]
theorem pBytes_any (cu e b t pm ty rs : Nat) (va : Bool) (l0 : cu < 4294967296) (l1 : e < 256) (l2 : b < 65536) (l3 : t < 65536) (l4 : pm < 65536) (l5 : ty < 65536) (l6 : rs < 4294967296) (W : World) : Calls Tryz.prog 73 #[.agg #[.int .u32 cu, .int .u8 e, .int .u16 b, .int .u16 t, .int .u16 pm, .int .u16 ty, .int .u32 rs, .bool va]] W fun ee w' => ee = .returned (.string ⟨(bytesC cu e b t pm ty rs).toArray⟩) ∧ Below W.heap.size W w' := by
  have hP : preF [(4, cu), (1, e), (2, b), (2, t), (2, pm), (2, ty), (2, rs), (1, rs / 65536)] = bytesC cu e b t pm ty rs := by
    simp only [preF, bytesC, List.append_assoc, List.append_nil]
    rw [leB_3]
  have hl := Lib.hid (fun w fb hfb hc => play_any fb [(4, cu), (1, e), (2, b), (2, t), (2, pm), (2, ty), (2, rs), (1, rs / 65536)] w (by
    intro p hp
    simp at hp
    rcases hp with rfl | rfl | rfl | rfl | rfl | rfl | rfl | rfl <;> exact ⟨rfl, by show _ < 4294967296; omega⟩) (by rw [hP, bytesC_length]) hfb (by simp) hc)
  rw [hP] at hl
  clear hP
  go_enter Tryz.func73, Tryz.ntmps73
  go_wp2_with fail
  have hF : FieldsAt ((W.alloc (.cells #[.int .u32 cu, .int .u8 e, .int .u16 b, .int .u16 t, .int .u16 pm, .int .u16 ty, .int .u32 rs, .bool va] 25)).alloc (.cells #[.int .i64 4, .int .u32 cu, .int .i64 1, .int .u32 e, .int .i64 2, .int .u32 b, .int .i64 2, .int .u32 t, .int .i64 2, .int .u32 pm, .int .i64 2, .int .u32 ty, .int .i64 2, .int .u32 rs, .int .i64 1, .int .u32 ((rs : Int) / 65536)] 178)) (W.heap.size + 1) [(4, cu), (1, e), (2, b), (2, t), (2, pm), (2, ty), (2, rs), (1, rs / 65536)] := by
    intro j p hp
    have hj : j < 8 := by simpa using (List.getElem?_eq_some_iff.1 hp).1
    have : j = 0 ∨ j = 1 ∨ j = 2 ∨ j = 3 ∨ j = 4 ∨ j = 5 ∨ j = 6 ∨ j = 7 := by omega
    rcases this with rfl | rfl | rfl | rfl | rfl | rfl | rfl | rfl <;> (simp at hp; subst hp; rw [World.cell?_alloc_at (hn := by simp), World.cell?_alloc_at (hn := by simp)]; exact ⟨rfl, rfl⟩)
  have hb := Lib.hid (((Below.refl W.heap.size W).alloc (Nat.le_refl _) (.cells #[.int .u32 cu, .int .u8 e, .int .u16 b, .int .u16 t, .int .u16 pm, .int .u16 ty, .int .u32 rs, .bool va] 25)).alloc (by simp) (.cells #[.int .i64 4, .int .u32 cu, .int .i64 1, .int .u32 e, .int .i64 2, .int .u32 b, .int .i64 2, .int .u32 t, .int .i64 2, .int .u32 pm, .int .i64 2, .int .u32 ty, .int .i64 2, .int .u32 rs, .int .i64 1, .int .u32 ((rs : Int) / 65536)] 178))
  refine (hl.out _ _ (by simp) hF).mono ?_
  rintro ee w1 ⟨rfl, h1⟩
  replace h1 := Lib.hid h1
  clear hF
  go_wp2_with fail
  go_ret
  exact ⟨rfl, hb.out.trans (h1.out.mono hb.out.size)⟩
end Go.Proofs.YtkmgdfcambdeeaaGreatDoor
namespace Go.Proofs.YtkmgdfcambdeeaaGreatDoor
open Go.RowKit
set_option linter.unusedVariables false

theorem cap_eq' (d : Nat) (cu e b t pm ty rs : Int) (va : Bool) (cu' e' b' t' pm' ty' rs' : Int) (va' : Bool) (w : World) :
    (Op.equalIn (d + 1 + 1) 25 (.agg #[.int .u32 cu, .int .u8 e, .int .u16 b, .int .u16 t, .int .u16 pm, .int .u16 ty, .int .u32 rs, .bool va]) (.agg #[.int .u32 cu', .int .u8 e', .int .u16 b', .int .u16 t', .int .u16 pm', .int .u16 ty', .int .u32 rs', .bool va'])).run Tryz.prog w = .ok ((cu == cu') && ((e == e') && ((b == b') && ((t == t') && ((pm == pm') && ((ty == ty') && ((rs == rs') && ((va == va') && true)))))))) w := by
  rw [run_equalIn_struct w (d + 1) 25 _ _ (by kernel_rfl) (by kernel_rfl)]
  have hf : (Tryz.prog.fieldsOf 25).toList.map (fun f => (f.name, f.type, f.offset)) = [("Cursor", 22, 0), ("E", 5, 1), ("B", 23, 2), ("T", 23, 3), ("Perms", 23, 4), ("Type", 23, 5), ("Rest", 22, 6), ("Valid", 4, 7)] := by kernel_rfl
  have i32 : ∀ (x y : Int) w, (Op.equalIn (d + 1) 22 (.int .u32 x) (.int .u32 y)).run Tryz.prog w = .ok (x == y) w := fun x y w => run_equalIn_int w d 22 .u32 .u32 x y (by kernel_rfl)
  have i8 : ∀ (x y : Int) w, (Op.equalIn (d + 1) 5 (.int .u8 x) (.int .u8 y)).run Tryz.prog w = .ok (x == y) w := fun x y w => run_equalIn_int w d 5 .u8 .u8 x y (by kernel_rfl)
  have i16 : ∀ (x y : Int) w, (Op.equalIn (d + 1) 23 (.int .u16 x) (.int .u16 y)).run Tryz.prog w = .ok (x == y) w := fun x y w => run_equalIn_int w d 23 .u16 .u16 x y (by kernel_rfl)
  have ib : ∀ (x y : Bool) w, (Op.equalIn (d + 1) 4 (.bool x) (.bool y)).run Tryz.prog w = .ok (x == y) w := fun x y w => run_equalIn_bool w d 4 x y (by kernel_rfl)
  generalize (Tryz.prog.fieldsOf 25).toList = fs at *
  obtain ⟨f0, fs, rfl, hf0, hf⟩ := List.map_eq_cons_iff.1 hf
  obtain ⟨f1, fs, rfl, hf1, hf⟩ := List.map_eq_cons_iff.1 hf
  obtain ⟨f2, fs, rfl, hf2, hf⟩ := List.map_eq_cons_iff.1 hf
  obtain ⟨f3, fs, rfl, hf3, hf⟩ := List.map_eq_cons_iff.1 hf
  obtain ⟨f4, fs, rfl, hf4, hf⟩ := List.map_eq_cons_iff.1 hf
  obtain ⟨f5, fs, rfl, hf5, hf⟩ := List.map_eq_cons_iff.1 hf
  obtain ⟨f6, fs, rfl, hf6, hf⟩ := List.map_eq_cons_iff.1 hf
  obtain ⟨f7, fs, rfl, hf7, hf⟩ := List.map_eq_cons_iff.1 hf
  obtain rfl := List.map_eq_nil_iff.1 hf
  simp only [Prod.mk.injEq] at hf0 hf1 hf2 hf3 hf4 hf5 hf6 hf7
  refine eqF_step hf0 (by decide) (by kernel_rfl) (by kernel_rfl) (i32 _ _ _) ?_
  refine eqF_step hf1 (by decide) (by kernel_rfl) (by kernel_rfl) (i8 _ _ _) ?_
  refine eqF_step hf2 (by decide) (by kernel_rfl) (by kernel_rfl) (i16 _ _ _) ?_
  refine eqF_step hf3 (by decide) (by kernel_rfl) (by kernel_rfl) (i16 _ _ _) ?_
  refine eqF_step hf4 (by decide) (by kernel_rfl) (by kernel_rfl) (i16 _ _ _) ?_
  refine eqF_step hf5 (by decide) (by kernel_rfl) (by kernel_rfl) (i16 _ _ _) ?_
  refine eqF_step hf6 (by decide) (by kernel_rfl) (by kernel_rfl) (i32 _ _ _) ?_
  exact eqF_step hf7 (by decide) (by kernel_rfl) (by kernel_rfl) (ib _ _ _) eqF_nil
/-- Two capabilities are compared. -/
theorem cap_eq (cu e b t pm ty rs : Int) (va : Bool) (cu' e' b' t' pm' ty' rs' : Int) (va' : Bool) (w : World) :
    (Op.equalIn 10000 25 (.agg #[.int .u32 cu, .int .u8 e, .int .u16 b, .int .u16 t, .int .u16 pm, .int .u16 ty, .int .u32 rs, .bool va]) (.agg #[.int .u32 cu', .int .u8 e', .int .u16 b', .int .u16 t', .int .u16 pm', .int .u16 ty', .int .u32 rs', .bool va'])).run Tryz.prog w = .ok ((cu == cu') && ((e == e') && ((b == b') && ((t == t') && ((pm == pm') && ((ty == ty') && ((rs == rs') && ((va == va') && true)))))))) w := cap_eq' 9998 cu e b t pm ty rs va cu' e' b' t' pm' ty' rs' va' w

theorem pIsNumber_any (cu e b t pm ty rs : Nat) (va : Bool) (l0 : cu < 4294967296) (l1 : e < 256) (l2 : b < 65536) (l3 : t < 65536) (l4 : pm < 65536) (l5 : ty < 65536) (l6 : rs < 4294967296) (W : World) : Calls Tryz.prog 152 #[.agg #[.int .u32 cu, .int .u8 e, .int .u16 b, .int .u16 t, .int .u16 pm, .int .u16 ty, .int .u32 rs, .bool va]] W fun ee w' => ee = .returned (.bool (isNumP e b t pm ty rs va)) ∧ Below W.heap.size W w' := by
  have hN := Lib.hid (fun w => pNumber_any cu l0 w)
  have fN : ∀ w, (w.cell? ⟨W.heap.size, 0, none⟩ = some (.int .u32 cu) ∧ w.cell? ⟨W.heap.size, 1, none⟩ = some (.int .u8 e) ∧ w.cell? ⟨W.heap.size, 2, none⟩ = some (.int .u16 b) ∧ w.cell? ⟨W.heap.size, 3, none⟩ = some (.int .u16 t) ∧ w.cell? ⟨W.heap.size, 4, none⟩ = some (.int .u16 pm) ∧ w.cell? ⟨W.heap.size, 5, none⟩ = some (.int .u16 ty) ∧ w.cell? ⟨W.heap.size, 6, none⟩ = some (.int .u32 rs) ∧ w.cell? ⟨W.heap.size, 7, none⟩ = some (.bool va) ∧ SB1 W w) → Calls Tryz.prog 28 #[.int .u32 cu] w fun ee w' => ee = .returned (.agg #[.int .u32 cu, .int .u8 0, .int .u16 0, .int .u16 0, .int .u16 0, .int .u16 0, .int .u32 0, .bool false]) ∧ (w'.cell? ⟨W.heap.size, 0, none⟩ = some (.int .u32 cu) ∧ w'.cell? ⟨W.heap.size, 1, none⟩ = some (.int .u8 e) ∧ w'.cell? ⟨W.heap.size, 2, none⟩ = some (.int .u16 b) ∧ w'.cell? ⟨W.heap.size, 3, none⟩ = some (.int .u16 t) ∧ w'.cell? ⟨W.heap.size, 4, none⟩ = some (.int .u16 pm) ∧ w'.cell? ⟨W.heap.size, 5, none⟩ = some (.int .u16 ty) ∧ w'.cell? ⟨W.heap.size, 6, none⟩ = some (.int .u32 rs) ∧ w'.cell? ⟨W.heap.size, 7, none⟩ = some (.bool va) ∧ SB1 W w') := fun w h => (hN.out w).mono fun ee w' ⟨h1, h2⟩ => by
    obtain ⟨c0, c1, c2, c3, c4, c5, c6, c7, hb⟩ := h
    exact ⟨h1, (h2.cell hb.2).trans c0, (h2.cell hb.2).trans c1, (h2.cell hb.2).trans c2, (h2.cell hb.2).trans c3, (h2.cell hb.2).trans c4, (h2.cell hb.2).trans c5, (h2.cell hb.2).trans c6, (h2.cell hb.2).trans c7, hb.below h2⟩
  have hEq := fun w => cap_eq cu e b t pm ty rs va cu 0 0 0 0 0 0 false w
  have hz : ((cu : Int) == cu && (((e : Int) == 0) && (((b : Int) == 0) && (((t : Int) == 0) && (((pm : Int) == 0) && (((ty : Int) == 0) && (((rs : Int) == 0) && ((va == false) && true)))))))) = isNumP e b t pm ty rs va := by
    rw [Bool.eq_iff_iff]; simp [isNumP]
  rw [hz] at hEq
  clear hz
  generalize isNumP e b t pm ty rs va = z at *
  replace fN := Lib.hid fN
  clear hN
  have h0 : (W.alloc (.cells #[.int .u32 cu, .int .u8 e, .int .u16 b, .int .u16 t, .int .u16 pm, .int .u16 ty, .int .u32 rs, .bool va] 25)).cell? ⟨W.heap.size, 0, none⟩ = some (.int .u32 cu) ∧ (W.alloc (.cells #[.int .u32 cu, .int .u8 e, .int .u16 b, .int .u16 t, .int .u16 pm, .int .u16 ty, .int .u32 rs, .bool va] 25)).cell? ⟨W.heap.size, 1, none⟩ = some (.int .u8 e) ∧ (W.alloc (.cells #[.int .u32 cu, .int .u8 e, .int .u16 b, .int .u16 t, .int .u16 pm, .int .u16 ty, .int .u32 rs, .bool va] 25)).cell? ⟨W.heap.size, 2, none⟩ = some (.int .u16 b) ∧ (W.alloc (.cells #[.int .u32 cu, .int .u8 e, .int .u16 b, .int .u16 t, .int .u16 pm, .int .u16 ty, .int .u32 rs, .bool va] 25)).cell? ⟨W.heap.size, 3, none⟩ = some (.int .u16 t) ∧ (W.alloc (.cells #[.int .u32 cu, .int .u8 e, .int .u16 b, .int .u16 t, .int .u16 pm, .int .u16 ty, .int .u32 rs, .bool va] 25)).cell? ⟨W.heap.size, 4, none⟩ = some (.int .u16 pm) ∧ (W.alloc (.cells #[.int .u32 cu, .int .u8 e, .int .u16 b, .int .u16 t, .int .u16 pm, .int .u16 ty, .int .u32 rs, .bool va] 25)).cell? ⟨W.heap.size, 5, none⟩ = some (.int .u16 ty) ∧ (W.alloc (.cells #[.int .u32 cu, .int .u8 e, .int .u16 b, .int .u16 t, .int .u16 pm, .int .u16 ty, .int .u32 rs, .bool va] 25)).cell? ⟨W.heap.size, 6, none⟩ = some (.int .u32 rs) ∧ (W.alloc (.cells #[.int .u32 cu, .int .u8 e, .int .u16 b, .int .u16 t, .int .u16 pm, .int .u16 ty, .int .u32 rs, .bool va] 25)).cell? ⟨W.heap.size, 7, none⟩ = some (.bool va) ∧ SB1 W (W.alloc (.cells #[.int .u32 cu, .int .u8 e, .int .u16 b, .int .u16 t, .int .u16 pm, .int .u16 ty, .int .u32 rs, .bool va] 25)) := ⟨by simp [go_sem], by simp [go_sem], by simp [go_sem], by simp [go_sem], by simp [go_sem], by simp [go_sem], by simp [go_sem], by simp [go_sem], (Below.refl _ _).alloc (Nat.le_refl _) _, by simp⟩
  go_enter Tryz.func152, Tryz.ntmps152
  go_wp2_with fail
  generalize (W.alloc (.cells #[.int .u32 cu, .int .u8 e, .int .u16 b, .int .u16 t, .int .u16 pm, .int .u16 ty, .int .u32 rs, .bool va] 25)) = W1 at *
  obtain ⟨c0, c1, c2, c3, c4, c5, c6, c7, hb⟩ := h0
  go_region_held3 (fun w' => w'.cell? ⟨W.heap.size, 0, none⟩ = some (.int .u32 cu) ∧ w'.cell? ⟨W.heap.size, 1, none⟩ = some (.int .u8 e) ∧ w'.cell? ⟨W.heap.size, 2, none⟩ = some (.int .u16 b) ∧ w'.cell? ⟨W.heap.size, 3, none⟩ = some (.int .u16 t) ∧ w'.cell? ⟨W.heap.size, 4, none⟩ = some (.int .u16 pm) ∧ w'.cell? ⟨W.heap.size, 5, none⟩ = some (.int .u16 ty) ∧ w'.cell? ⟨W.heap.size, 6, none⟩ = some (.int .u32 rs) ∧ w'.cell? ⟨W.heap.size, 7, none⟩ = some (.bool va) ∧ SB1 W w')
    (first | exact ⟨c0, c1, c2, c3, c4, c5, c6, c7, hb.drew⟩ | exact k1 | go_keep)
    (first | (go_at_call 28; refine (fN.out _ ?_).mono ?_; (first | assumption | simp [*]); rintro ee w1' ⟨rfl, k1⟩))
  obtain ⟨_, _, _, _, _, _, _, _, hk⟩ := k1
  replace hk := Lib.hid hk
  go_wp2_with fail
  go_ret
  exact ⟨rfl, hk.out.1⟩
theorem pHolds_any (cu e b t pm ty rs : Nat) (va : Bool) (at_ sz : Nat) (l0 : cu < 4294967296) (l1 : e < 256) (l2 : b < 65536) (l3 : t < 65536) (l4 : pm < 65536) (l5 : ty < 65536) (l6 : rs < 4294967296) (la : at_ < 4294967296) (lz : sz < 4294967296) (W : World) : Calls Tryz.prog 82 #[.agg #[.int .u32 cu, .int .u8 e, .int .u16 b, .int .u16 t, .int .u16 pm, .int .u16 ty, .int .u32 rs, .bool va], .agg #[.int .u32 at_, .int .u32 sz]] W fun ee w' => ee = .returned (.bool (hoP (deB e b t cu) (deT e b t cu) at_ sz)) ∧ Below W.heap.size W w' := by
  have hR := Lib.hid (fun w => pRange_any cu e b t pm ty rs va l0 l1 l2 l3 l4 l5 l6 w)
  have hbd := de_bounds e b t cu
  have hE := Lib.hid (fun w => pend_any at_ sz w la lz)
  generalize deB e b t cu = x at *
  generalize deT e b t cu = y at *
  obtain ⟨b1, b2, b3, b4⟩ := hbd
  have hb := Lib.hid (((Below.refl W.heap.size W).alloc (Nat.le_refl _) (.cells #[.int .u32 cu, .int .u8 e, .int .u16 b, .int .u16 t, .int .u16 pm, .int .u16 ty, .int .u32 rs, .bool va] 25)).alloc (by simp) (.cells #[.int .u32 at_, .int .u32 sz] 122))
  by_cases hx : x ≤ at_
  · go_enter Tryz.func82, Tryz.ntmps82
    go_wp2_with fail
    refine (hR.out _).mono ?_
    rintro e' w1 ⟨rfl, h1⟩
    have p0 : w1.cell? ⟨W.heap.size + 1, 0, none⟩ = some (.int .u32 at_) := (h1.cell (by simp)).trans (by simp [go_sem])
    have p1 : w1.cell? ⟨W.heap.size + 1, 1, none⟩ = some (.int .u32 sz) := (h1.cell (by simp)).trans (by simp [go_sem])
    replace hb := Lib.hid (hb.out.trans (h1.mono hb.out.size))
    clear h1
    go_wp2_with fail
    refine (hE.out _).mono ?_
    rintro e' w2 ⟨rfl, h2⟩
    replace hb := Lib.hid (hb.out.trans (h2.mono hb.out.size))
    clear h2 p0 p1
    go_wp2_with fail
    all_goals go_ret
    all_goals
      refine ⟨ret_bool ?_, hb.out⟩
      rw [Bool.eq_iff_iff]
      simp only [hoP, decide_eq_true_eq]
      omega
  · go_enter Tryz.func82, Tryz.ntmps82
    go_wp2_with fail
    refine (hR.out _).mono ?_
    rintro e' w1 ⟨rfl, h1⟩
    have p0 : w1.cell? ⟨W.heap.size + 1, 0, none⟩ = some (.int .u32 at_) := (h1.cell (by simp)).trans (by simp [go_sem])
    have p1 : w1.cell? ⟨W.heap.size + 1, 1, none⟩ = some (.int .u32 sz) := (h1.cell (by simp)).trans (by simp [go_sem])
    replace hb := Lib.hid (hb.out.trans (h1.mono hb.out.size))
    clear h1
    go_wp2_with fail
    all_goals go_ret
    all_goals
      refine ⟨ret_bool ?_, hb.out⟩
      rw [Bool.eq_iff_iff]
      simp only [hoP, decide_eq_true_eq, Bool.false_eq_true, false_iff]
      omega

/-- What is kept beside the cells of a second box. -/
def SB3 (W w : World) : Prop := Below W.heap.size W w ∧ W.heap.size + 1 < w.heap.size
theorem SB3.drew {W w : World} (h : SB3 W w) : SB3 W w.drew := ⟨h.1.drew, h.2⟩
theorem SB3.below {W w w' : World} (h : SB3 W w) (k : Below w.heap.size w w') : SB3 W w' := ⟨h.1.trans (k.mono (by have := h.2; omega)), Nat.lt_of_lt_of_le h.2 k.size⟩

theorem andn_zero {a b : Nat} (ha : a < 65536) (hb : b < 65536) : a &&& (65535 - b) = 0 ↔ a &&& b = a := by
  have e : ∀ j, (65535 - b).testBit j = (decide (j < 16) && !b.testBit j) := fun j => by
    rw [show 65535 - b = 2 ^ 16 - (b + 1) from by omega]; exact Nat.testBit_two_pow_sub_succ hb j
  have ht : ∀ j, ¬ j < 16 → a.testBit j = false := fun j hj => Nat.testBit_lt_two_pow (Nat.lt_of_lt_of_le ha (show 2 ^ 16 ≤ 2 ^ j from Nat.pow_le_pow_right (by decide) (by omega)))
  constructor
  · intro h
    apply Nat.eq_of_testBit_eq
    intro j
    have := congrArg (fun n => n.testBit j) h
    simp only [Nat.testBit_and, e, Nat.zero_testBit] at this
    rw [Nat.testBit_and]
    by_cases hj : j < 16
    · cases h1 : a.testBit j <;> cases h2 : b.testBit j <;> simp_all
    · simp [ht j hj]
  · intro h
    apply Nat.eq_of_testBit_eq
    intro j
    have := congrArg (fun n => n.testBit j) h
    simp only [Nat.testBit_and] at this
    rw [Nat.testBit_and, e, Nat.zero_testBit]
    cases h1 : a.testBit j <;> cases h2 : b.testBit j <;> simp_all

set_option maxHeartbeats 1000000 in
theorem pWithin_any (cu e b t pm ty rs : Nat) (va : Bool) (cu' e' b' t' pm' ty' rs' : Nat) (va' : Bool) (l0 : cu < 4294967296) (l1 : e < 256) (l2 : b < 65536) (l3 : t < 65536) (l4 : pm < 65536) (l5 : ty < 65536) (l6 : rs < 4294967296) (l0' : cu' < 4294967296) (l1' : e' < 256) (l2' : b' < 65536) (l3' : t' < 65536) (l4' : pm' < 65536) (l5' : ty' < 65536) (l6' : rs' < 4294967296) (W : World) : Calls Tryz.prog 63 #[.agg #[.int .u32 cu, .int .u8 e, .int .u16 b, .int .u16 t, .int .u16 pm, .int .u16 ty, .int .u32 rs, .bool va], .agg #[.int .u32 cu', .int .u8 e', .int .u16 b', .int .u16 t', .int .u16 pm', .int .u16 ty', .int .u32 rs', .bool va']] W fun ee w' => ee = .returned (.bool (wiP pm pm' (deB e b t cu) (deT e b t cu) (deB e' b' t' cu') (deT e' b' t' cu'))) ∧ Below W.heap.size W w' := by
  have hR := Lib.hid (fun w => pRange_any cu e b t pm ty rs va l0 l1 l2 l3 l4 l5 l6 w)
  have hR' := Lib.hid (fun w => pRange_any cu' e' b' t' pm' ty' rs' va' l0' l1' l2' l3' l4' l5' l6' w)
  have hand := u16_andNot_nat pm pm' l4 l4'
  have hbd := de_bounds e b t cu
  have hbd' := de_bounds e' b' t' cu'
  generalize deB e b t cu = x at *
  generalize deT e b t cu = y at *
  generalize deB e' b' t' cu' = x' at *
  generalize deT e' b' t' cu' = y' at *
  have hw : wiP pm pm' x y x' y' = (decide (pm &&& (65535 - pm') = 0) && (decide (y ≤ x) || (decide (x' ≤ x) && decide (y ≤ y')))) := by
    rw [Bool.eq_iff_iff]; simp [wiP, andn_zero l4 l4']
  rw [hw]
  clear hw
  generalize pm &&& (65535 - pm') = q at *
  obtain ⟨b1, b2, b3, b4⟩ := hbd
  obtain ⟨c1, c2, c3, c4⟩ := hbd'
  have hs0 := Lib.hid (show W.heap.size + 1 < ((W.alloc (.cells #[.int .u32 cu, .int .u8 e, .int .u16 b, .int .u16 t, .int .u16 pm, .int .u16 ty, .int .u32 rs, .bool va] 25)).alloc (.cells #[.int .u32 cu', .int .u8 e', .int .u16 b', .int .u16 t', .int .u16 pm', .int .u16 ty', .int .u32 rs', .bool va'] 25)).heap.size from by simp)
  have hb0 := Lib.hid (((Below.refl W.heap.size W).alloc (Nat.le_refl _) (.cells #[.int .u32 cu, .int .u8 e, .int .u16 b, .int .u16 t, .int .u16 pm, .int .u16 ty, .int .u32 rs, .bool va] 25)).alloc (by simp) (.cells #[.int .u32 cu', .int .u8 e', .int .u16 b', .int .u16 t', .int .u16 pm', .int .u16 ty', .int .u32 rs', .bool va'] 25))
  go_enter Tryz.func63, Tryz.ntmps63
  go_wp2_with fail
  refine (hR.out _).mono ?_
  rintro ee w1 ⟨rfl, h1⟩

  have p0 : w1.cell? ⟨W.heap.size + 1, 0, none⟩ = some (.int .u32 cu') := (h1.cell (by simp <;> omega)).trans (by simp [go_sem])
  have p1 : w1.cell? ⟨W.heap.size + 1, 1, none⟩ = some (.int .u8 e') := (h1.cell (by simp <;> omega)).trans (by simp [go_sem])
  have p2 : w1.cell? ⟨W.heap.size + 1, 2, none⟩ = some (.int .u16 b') := (h1.cell (by simp <;> omega)).trans (by simp [go_sem])
  have p3 : w1.cell? ⟨W.heap.size + 1, 3, none⟩ = some (.int .u16 t') := (h1.cell (by simp <;> omega)).trans (by simp [go_sem])
  have p4 : w1.cell? ⟨W.heap.size + 1, 4, none⟩ = some (.int .u16 pm') := (h1.cell (by simp <;> omega)).trans (by simp [go_sem])
  have p5 : w1.cell? ⟨W.heap.size + 1, 5, none⟩ = some (.int .u16 ty') := (h1.cell (by simp <;> omega)).trans (by simp [go_sem])
  have p6 : w1.cell? ⟨W.heap.size + 1, 6, none⟩ = some (.int .u32 rs') := (h1.cell (by simp <;> omega)).trans (by simp [go_sem])
  have p7 : w1.cell? ⟨W.heap.size + 1, 7, none⟩ = some (.bool va') := (h1.cell (by simp <;> omega)).trans (by simp [go_sem])
  have r4 : w1.cell? ⟨W.heap.size, 4, none⟩ = some (.int .u16 pm) := (h1.cell (by simp <;> omega)).trans (by simp [go_sem])
  have hs := Lib.hid (show W.heap.size + 1 < w1.heap.size from Nat.lt_of_lt_of_le hs0.out h1.size)
  have hb := Lib.hid (hb0.out.trans (h1.mono hb0.out.size))
  clear h1 hs0 hb0
  go_wp2_with fail
  refine (hR'.out _).mono ?_
  rintro ee w2 ⟨rfl, h2⟩
  have hs' := hs.out
  replace r4 : w2.cell? ⟨W.heap.size, 4, none⟩ = some (.int .u16 pm) := (h2.cell (by show W.heap.size < _; omega)).trans r4
  replace p4 : w2.cell? ⟨W.heap.size + 1, 4, none⟩ = some (.int .u16 pm') := (h2.cell (by show W.heap.size + 1 < _; omega)).trans p4
  replace hb := Lib.hid (hb.out.trans (h2.mono hb.out.size))
  clear h2 p0 p1 p2 p3 p5 p6 p7 hs hs'
  go_wp2_with fail
  all_goals go_ret
  all_goals
    refine ⟨ret_bool (Bool.eq_iff_iff.2 ?_), hb.out⟩
    simp <;> omega

end Go.Proofs.YtkmgdfcambdeeaaGreatDoor
namespace Go.Proofs.YtkmgdfcambdeeaaGreatDoor
open Go.RowKit
set_option linter.unusedVariables false

theorem piece {a k : Nat} (A M R : List UInt8) (ha : A.length = a) (hm : M.length = k) : ((A ++ (M ++ R)).drop a).take k = M := by
  subst ha hm
  rw [List.drop_left, List.take_left]
theorem nm_piece {a k v : Nat} {l : List UInt8} (A R : List UInt8) (hl : l = A ++ (leB k v ++ R)) (ha : A.length = a) (hv : v < 256 ^ k) : nm l a k = v := by
  unfold nm
  rw [hl, piece A (leB k v) R ha (leB_length k v), le_leB, Nat.mod_eq_of_lt hv]

section
variable {cu e b t pm ty rs : Nat} (l0 : cu < 4294967296) (l1 : e < 256) (l2 : b < 65536) (l3 : t < 65536) (l4 : pm < 65536) (l5 : ty < 65536) (l6 : rs < 16777216)
include l0 l1 l2 l3 l4 l5 l6
theorem nm_bytes : nm (bytesC cu e b t pm ty rs) 0 4 = cu ∧ nm (bytesC cu e b t pm ty rs) 4 1 = e ∧ nm (bytesC cu e b t pm ty rs) 5 2 = b ∧ nm (bytesC cu e b t pm ty rs) 7 2 = t ∧ nm (bytesC cu e b t pm ty rs) 9 2 = pm ∧ nm (bytesC cu e b t pm ty rs) 11 2 = ty ∧ nm (bytesC cu e b t pm ty rs) 13 3 = rs := by
  refine ⟨?_, ?_, ?_, ?_, ?_, ?_, ?_⟩
  · exact nm_piece [] (leB 1 e ++ leB 2 b ++ leB 2 t ++ leB 2 pm ++ leB 2 ty ++ leB 3 rs) (by simp [bytesC, List.append_assoc]) rfl (by simpa using l0)
  · exact nm_piece (leB 4 cu) (leB 2 b ++ leB 2 t ++ leB 2 pm ++ leB 2 ty ++ leB 3 rs) (by simp [bytesC, List.append_assoc]) (by simp [leB_length]) (by simpa using l1)
  · exact nm_piece (leB 4 cu ++ leB 1 e) (leB 2 t ++ leB 2 pm ++ leB 2 ty ++ leB 3 rs) (by simp [bytesC, List.append_assoc]) (by simp [leB_length]) (by simpa using l2)
  · exact nm_piece (leB 4 cu ++ leB 1 e ++ leB 2 b) (leB 2 pm ++ leB 2 ty ++ leB 3 rs) (by simp [bytesC, List.append_assoc]) (by simp [leB_length]) (by simpa using l3)
  · exact nm_piece (leB 4 cu ++ leB 1 e ++ leB 2 b ++ leB 2 t) (leB 2 ty ++ leB 3 rs) (by simp [bytesC, List.append_assoc]) (by simp [leB_length]) (by simpa using l4)
  · exact nm_piece (leB 4 cu ++ leB 1 e ++ leB 2 b ++ leB 2 t ++ leB 2 pm) (leB 3 rs) (by simp [bytesC, List.append_assoc]) (by simp [leB_length]) (by simpa using l5)
  · exact nm_piece (leB 4 cu ++ leB 1 e ++ leB 2 b ++ leB 2 t ++ leB 2 pm ++ leB 2 ty) [] (by simp [bytesC, List.append_assoc]) (by simp [leB_length]) (by simpa using l6)
end

end Go.Proofs.YtkmgdfcambdeeaaGreatDoor
