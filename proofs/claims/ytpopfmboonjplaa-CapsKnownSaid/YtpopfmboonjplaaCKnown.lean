/- Proved: the chapter's examples of caps (CapsKnown). Closed: no input, no condition. -/
import Derived.Test.YtpopfmboonjplaaRows
import Derived.Test.YtpopfmboonjplaaCapW
import Derived.Test.YtpopfmboonjplaaCapN
import Derived.Test.YtpopfmboonjplaaCapK
import Derived.Test.YtpopfmboonjplaaFlat
import Derived.Test.YtpopfmboonjplaaAny
import Derived.ProofKit
import Derived.OpenShut
import Derived.ShutString
import Derived.ChangeOld
namespace Go.Proofs.Ytpopfmboonjplaa.cknown
open Go.ChangeShapes Go.WideShapes Go.ChangeAt Go.RowKit
open Go.ChangeMaps (open_string shut_string)
set_option linter.unusedVariables false
set_option linter.unusedSimpArgs false

/-- Boxes of capabilities that are kept. -/
structure Bx where
  g : Nat
  cu : Nat
  e : Nat
  b : Nat
  t : Nat
  pm : Nat
  ty : Nat
  rs : Nat
  va : Bool
def Bx.at (x : Bx) (w : World) : Prop := CapAt w x.g x.cu x.e x.b x.t x.pm x.ty x.rs x.va ∧ x.g < w.heap.size
structure KL (W : World) (L : List Bx) (w : World) : Prop where
  bl : Below W.heap.size W w
  al : ∀ x, x ∈ L → x.at w
section
variable {W w w' : World} {L : List Bx}
theorem KL.start : KL W [] W := ⟨Below.refl _ _, fun x h => by cases h⟩
theorem KL.below (h : KL W L w) (k : Below w.heap.size w w') : KL W L w' :=
  ⟨h.bl.trans (k.mono h.bl.size), fun x hx => ⟨(h.al x hx).1.below k (h.al x hx).2, Nat.lt_of_lt_of_le (h.al x hx).2 k.size⟩⟩
theorem KL.alloc (h : KL W L w) (ob : Obj) : KL W L (w.alloc ob) := h.below ((Below.refl _ _).alloc (Nat.le_refl _) ob)
theorem KL.drew (h : KL W L w) : KL W L w.drew := ⟨h.bl.drew, fun x hx => ⟨(h.al x hx).1.drew, (h.al x hx).2⟩⟩
theorem KL.push (h : KL W L w) (cu e b t pm ty rs : Nat) (va : Bool) : KL W (⟨w.heap.size, cu, e, b, t, pm, ty, rs, va⟩ :: L) (w.alloc (.cells #[.int .u32 cu, .int .u8 e, .int .u16 b, .int .u16 t, .int .u16 pm, .int .u16 ty, .int .u32 rs, .bool va] 25)) :=
  ⟨(h.alloc _).bl, fun x hx => by
    rcases List.mem_cons.1 hx with rfl | hx
    · exact ⟨CapAt.make w cu e b t pm ty rs va, by simp⟩
    · exact (h.alloc _).al x hx⟩
end
theorem zconv (n : Nat) (w : World) : (convert 28 9 (.slice (some ⟨w.heap.size, 0, none⟩) n n)).run Try.prog (w.alloc (.cells (madeCells #[.int .u8 0] n) 5)) = .ok (.string ⟨(List.replicate n 0).toArray⟩) (w.alloc (.cells (madeCells #[.int .u8 0] n) 5)) := by
  have h := run_convert_bytes_back (P := Try.prog) (w.alloc (.cells (madeCells #[.int .u8 0] n) 5)) 28 9 5 ⟨w.heap.size, 0, none⟩ n (List.replicate n 0) Try.underlying28 Try.underlying5 Try.underlying9 (fun j hj => by
    rw [Addr.add_lit, Nat.zero_add]
    have hj4 : j < n := by simpa using hj
    rw [World.cell?_alloc_at (hn := rfl), ← Array.getElem?_toList, toList_madeCells_one, List.getElem?_replicate, if_pos hj4, List.getElem_replicate]
    rfl)
  rwa [List.length_replicate] at h
theorem has_put {w : World} {b j : Nat} {l : List UInt8} (h : Has w b 0 l) (u : UInt8) (hj : j < l.length) : Has (w.setCell ⟨b, j, none⟩ (.int .u8 (u.toNat : Int))) b 0 (l.set j u) := fun i v hv => by
  rw [Nat.zero_add, World.frozen?_setCell]
  have hi : i < l.length := by have := (List.getElem?_eq_some_iff.1 hv).1; simpa using this
  have hf := (h i (l[i]) (List.getElem?_eq_getElem hi))
  rw [Nat.zero_add] at hf
  refine ⟨?_, hf.2⟩
  by_cases e : i = j
  · subst e
    rw [List.getElem?_set_self hj] at hv
    cases hv
    exact World.cell?_setCell_same' _ _ _ (by rw [hf.1]; rfl)
  · rw [List.getElem?_set_ne (fun k => e k.symm), List.getElem?_eq_getElem hi] at hv
    cases hv
    rw [World.cell?_setCell_other _ _ _ _ (fun k => e (by injection k with k1 k2; exact k2.symm))]
    exact hf.1

theorem fill_step : ∀ j, j < 16 → (List.replicate j (255 : UInt8) ++ List.replicate (16 - j) 0).set j 255 = List.replicate (j + 1) 255 ++ List.replicate (16 - (j + 1)) 0 := by decide
theorem fill_at : ∀ j, j < 16 → (List.replicate j (255 : UInt8) ++ List.replicate (16 - j) 0)[j]? = some 0 := by decide
theorem KL.fill {W w : World} (h : KL W [] w) {g : Nat} (hg : W.heap.size ≤ g) (j : Nat) (u : Value) : KL W [] (w.setCell ⟨g, j, none⟩ u) := ⟨h.bl.setCell hg u, fun x hx => by cases hx⟩

/-- The row of 14 noughts is still there. -/
structure ZB (b : Nat) (w : World) : Prop where
  c : ∀ j, j < 14 → w.cell? ⟨b, j, none⟩ = some (.int .u8 0)
  n : b < w.heap.size
theorem ZB.below {b : Nat} {w w' : World} (h : ZB b w) (k : Below w.heap.size w w') : ZB b w' := ⟨fun j hj => (k.cell (p := ⟨b, j, none⟩) h.n).trans (h.c j hj), Nat.lt_of_lt_of_le h.n k.size⟩
theorem ZB.first (w : World) : ZB w.heap.size (w.alloc (.cells (madeCells #[.int .u8 0] 14) 5)) := ⟨fun j hj => by
  rw [World.cell?_alloc_at (hn := rfl), ← Array.getElem?_toList, toList_madeCells_one, List.getElem?_replicate, if_pos hj], by simp⟩
theorem ZB.made {w w' : World} (k : Below (w.alloc (.cells (madeCells #[.int .u8 0] 14) 5)).heap.size (w.alloc (.cells (madeCells #[.int .u8 0] 14) 5)) w') : ZB w.heap.size w' := (ZB.first w).below k
theorem ZB.conv {b : Nat} {w : World} (h : ZB b w) : (convert 28 9 (.slice (some ⟨b, 0, none⟩) 14 14)).run Try.prog w = .ok (.string ⟨(List.replicate 14 (0 : UInt8)).toArray⟩) w := by
  have h := run_convert_bytes_back (P := Try.prog) w 28 9 5 ⟨b, 0, none⟩ 14 (List.replicate 14 0) Try.underlying28 Try.underlying5 Try.underlying9 (fun j hj => by
    rw [Addr.add_lit, Nat.zero_add, h.c j (by simpa using hj), List.getElem_replicate]
    rfl)
  rwa [List.length_replicate] at h

theorem wpAny_listed {P : Program} {md : Region.Mode} {ops : Array Oper} {Q : Exit → Act → World → Prop} {f : Nat} {s s' : Array Bool} {a : Act} {w : World} (hs : s = s') (h : wpAny P md ops Q f s' a w) : wpAny P md ops Q f s a w := hs ▸ h
theorem tail_suff {P : Program} {l : List Oper} {Q : Exit → Act → World → Prop} {f : Nat} {s : Array Bool} {a : Act} {w : World} (S : World → Prop) (d1 d2 d3 d4 d5 : Nat) (x1 x2 x4 x5 : Value) (n g : Nat) (s' : Array Bool) (hg : l.length - n = g)
    (hs : Region.seqB .any l.toArray g n s' = true)
    (L : ∀ v Z, S Z → wpList P l.toArray Q (l.drop n) (((((a.put (some d1) x1).put (some d2) x2).put (some d3) v).put (some d4) x4).put (some d5) x5) Z)
    (H : (∀ v Z, S Z → wpAny P .any l.toArray Q g s' (((((a.put (some d1) x1).put (some d2) x2).put (some d3) v).put (some d4) x4).put (some d5) x5) Z) → wpAny P .any l.toArray Q f s a w) : wpAny P .any l.toArray Q f s a w :=
  H fun v Z hZ => by
    have hl : (l.drop n).length = g := by rw [List.length_drop]; exact hg
    have := wpAny_of_seq (md := .any) (Q' := Q) (l.drop n) n s' _ Z (fun j => by simp [List.getElem?_drop]) (by rw [hl]; exact hs) (L v Z hZ)
    rwa [hl] at this

set_option maxRecDepth 100000 in
set_option maxHeartbeats 40000000 in
theorem walk (W : World) : Calls Try.prog 3 #[] W fun e w' => e = .returned (.bool true) ∧ Below W.heap.size W w' := by
  have hmk15 : ∀ w : World, (Instr.makeSlice 28 (.int .i64 15) (.int .i64 15)).run Try.prog w = .ok (.slice (some ⟨w.heap.size, 0, none⟩) 15 15) (w.alloc (.cells (madeCells #[.int .u8 0] 15) 5)) := run_make_row' (P := Try.prog) 28 5 (.int .u8 0) 1 Try.underlying28 info8 rfl .i64 .i64 15 (by omega) (by omega)
  have hmk16 : ∀ w : World, (Instr.makeSlice 28 (.int .i64 16) (.int .i64 16)).run Try.prog w = .ok (.slice (some ⟨w.heap.size, 0, none⟩) 16 16) (w.alloc (.cells (madeCells #[.int .u8 0] 16) 5)) := run_make_row' (P := Try.prog) 28 5 (.int .u8 0) 1 Try.underlying28 info8 rfl .i64 .i64 16 (by omega) (by omega)
  have hO1 := Lib.hid (fun w => pOf_no ⟨(List.replicate 15 (0 : UInt8)).toArray⟩ true (by decide) (by decide) w)
  have K := KL.start (W := W)
  have hz := zconv 15 W
  go_enter Try.func3, Try.ntmps3
  go_wp2_with fail
  refine (hO1.out _).mono ?_
  rintro e w1 ⟨rfl, g⟩
  replace K := (K.alloc _).below g
  clear g hz hO1 hmk15
  go_upto_region 2 with (fail)
  replace K := K.alloc (.cells #[.int .u32 0, .int .u8 0, .int .u16 0, .int .u16 0, .int .u16 0, .int .u16 0, .int .u32 0, .bool false] 25)
  generalize w1.alloc (.cells #[.int .u32 0, .int .u8 0, .int .u16 0, .int .u16 0, .int .u16 0, .int .u16 0, .int .u32 0, .bool false] 25) = X1 at *
  have hz := zconv 16 X1
  replace K := K.alloc (.cells (madeCells #[.int .u8 0] 16) 5)
  have hcb := fun (w : World) (s : ByteArray) => Lib.run_convert_string_bytes (P := Try.prog) w 9 28 5 s Try.underlying9 Try.underlying28 Try.underlying5
  replace K := Lib.hid K
  go_upto_region 3 with (fail)
  have hh := bw_has (X1.alloc (.cells (madeCells #[.int .u8 0] 16) 5)) 5 [0, 0, 0, 0, 0, 0, 0, 0, 0, 0, 0, 0, 0, 0, 0, 0]
  have hbw := bw_below (X1.alloc (.cells (madeCells #[.int .u8 0] 16) 5)) 5 ⟨#[0, 0, 0, 0, 0, 0, 0, 0, 0, 0, 0, 0, 0, 0, 0, 0]⟩
  have hsz : (X1.alloc (.cells (madeCells #[.int .u8 0] 16) 5)).heap.size = X1.heap.size + 1 := by simp
  have hlt : X1.heap.size + 1 < (Lib.bytesWorld (X1.alloc (.cells (madeCells #[.int .u8 0] 16) 5)) 5 ⟨#[0, 0, 0, 0, 0, 0, 0, 0, 0, 0, 0, 0, 0, 0, 0, 0]⟩).heap.size := by
    rw [Lib.bytesWorld_size]; simp
  have hW1 : W.heap.size ≤ X1.heap.size + 1 := by have := K.out.bl.size; simp at this; omega
  replace K := K.out.below hbw
  have hgc := grownCap_ge (X1.alloc (.cells (madeCells #[.int .u8 0] 16) 5)) 16 0 5
  rw [hsz] at hh
  generalize Lib.bytesWorld (X1.alloc (.cells (madeCells #[.int .u8 0] 16) 5)) 5 ⟨#[0, 0, 0, 0, 0, 0, 0, 0, 0, 0, 0, 0, 0, 0, 0, 0]⟩ = V at *
  generalize grownCap (X1.alloc (.cells (madeCells #[.int .u8 0] 16) 5)) 16 0 5 = cp at *
  generalize X1.heap.size + 1 = g1 at *
  clear hz hsz hbw hcb
  replace K := Lib.hid K
  replace hh := Lib.hid hh
  go_wp2_with fail
  go_loopw [4] (fun i wr => ∃ j : Nat, j ≤ 16 ∧ i = .int .i64 j ∧ Has wr g1 0 (List.replicate j 255 ++ List.replicate (16 - j) 0) ∧ KL W [] wr ∧ g1 < wr.heap.size) (fun i _ => 16 - (intOf i).toNat)
  case atStart => exact ⟨0, by omega, rfl, hh.out, K.out, hlt⟩
  case round =>
    obtain ⟨j, hj, rfl, hr, hk, hs⟩ := hrel
    by_cases hlt2 : j < 16
    · have hlt' : (j : Int) < 16 := by omega
      have hp := has_put hr 255 (j := j) (by simp; omega)
      rw [fill_step j hlt2] at hp
      have hc := hr j 0 (fill_at j hlt2)
      rw [Nat.zero_add] at hc
      obtain ⟨hc1, hc2⟩ := hc
      replace hp := Lib.hid hp
      replace hk := Lib.hid hk
      clear hr
      go_wp2_with fail
      go_roundw
      case rel => exact ⟨j + 1, by omega, by go_num, hp.out, hk.out.fill hW1 _ _, by simpa using hs⟩
      case measure => simp [intOf]; omega
    · obtain rfl : j = 16 := by omega
      have hcv : (convert 28 9 (.slice (some ⟨g1, 0, none⟩) 16 cp)).run Try.prog wr = .ok (.string ⟨#[255, 255, 255, 255, 255, 255, 255, 255, 255, 255, 255, 255, 255, 255, 255, 255]⟩) wr := has_conv cp (l := [255, 255, 255, 255, 255, 255, 255, 255, 255, 255, 255, 255, 255, 255, 255, 255]) hr
      replace hk := Lib.hid hk
      clear hr hh K
      have hO2 := fun w => pOf_yes [255, 255, 255, 255, 255, 255, 255, 255, 255, 255, 255, 255, 255, 255, 255, 255] true rfl w
      rw [show nm [255, 255, 255, 255, 255, 255, 255, 255, 255, 255, 255, 255, 255, 255, 255, 255] 0 4 = 4294967295 from by decide +kernel, show nm [255, 255, 255, 255, 255, 255, 255, 255, 255, 255, 255, 255, 255, 255, 255, 255] 4 1 = 255 from by decide +kernel, show nm [255, 255, 255, 255, 255, 255, 255, 255, 255, 255, 255, 255, 255, 255, 255, 255] 5 2 = 65535 from by decide +kernel, show nm [255, 255, 255, 255, 255, 255, 255, 255, 255, 255, 255, 255, 255, 255, 255, 255] 7 2 = 65535 from by decide +kernel, show nm [255, 255, 255, 255, 255, 255, 255, 255, 255, 255, 255, 255, 255, 255, 255, 255] 9 2 = 65535 from by decide +kernel, show nm [255, 255, 255, 255, 255, 255, 255, 255, 255, 255, 255, 255, 255, 255, 255, 255] 11 2 = 65535 from by decide +kernel, show nm [255, 255, 255, 255, 255, 255, 255, 255, 255, 255, 255, 255, 255, 255, 255, 255] 13 3 = 16777215 from by decide +kernel, show sndP 255 65535 65535 65535 65535 16777215 = false from by decide +kernel, Bool.and_false] at hO2
      replace hO2 := Lib.hid hO2
      have hO3 := fun w => pOf_yes [0, 0, 0, 0, 0, 0, 0, 0, 0, 0, 0, 0, 0, 0, 0, 0] true rfl w
      rw [show nm [0, 0, 0, 0, 0, 0, 0, 0, 0, 0, 0, 0, 0, 0, 0, 0] 0 4 = 0 from by decide +kernel, show nm [0, 0, 0, 0, 0, 0, 0, 0, 0, 0, 0, 0, 0, 0, 0, 0] 4 1 = 0 from by decide +kernel, show nm [0, 0, 0, 0, 0, 0, 0, 0, 0, 0, 0, 0, 0, 0, 0, 0] 5 2 = 0 from by decide +kernel, show nm [0, 0, 0, 0, 0, 0, 0, 0, 0, 0, 0, 0, 0, 0, 0, 0] 7 2 = 0 from by decide +kernel, show nm [0, 0, 0, 0, 0, 0, 0, 0, 0, 0, 0, 0, 0, 0, 0, 0] 9 2 = 0 from by decide +kernel, show nm [0, 0, 0, 0, 0, 0, 0, 0, 0, 0, 0, 0, 0, 0, 0, 0] 11 2 = 0 from by decide +kernel, show nm [0, 0, 0, 0, 0, 0, 0, 0, 0, 0, 0, 0, 0, 0, 0, 0] 13 3 = 0 from by decide +kernel, show sndP 0 0 0 0 0 0 = true from by decide +kernel, Bool.and_true] at hO3
      replace hO3 := Lib.hid hO3
      go_wp2_with fail
      refine (hO2.out _).mono ?_
      rintro e w2 ⟨rfl, g⟩
      replace hk := Lib.hid (hk.out.below g)
      clear g hcv
      go_upto_region 8 with (fail)
      replace hk := Lib.hid (hk.out.push 4294967295 255 65535 65535 65535 65535 16777215 false)
      generalize w2.alloc (.cells #[.int .u32 4294967295, .int .u8 255, .int .u16 65535, .int .u16 65535, .int .u16 65535, .int .u16 65535, .int .u32 16777215, .bool false] 25) = X2 at *
      generalize w2.heap.size = g5 at *
      have hz := zconv 16 X2
      replace hk := Lib.hid (hk.out.alloc (.cells (madeCells #[.int .u8 0] 16) 5))
      go_wp2_with fail
      refine (hO3.out _).mono ?_
      rintro e w3 ⟨rfl, g⟩
      replace hk := Lib.hid (hk.out.below g)
      clear g
      clear hz
      go_upto_region 9 with (fail)
      replace hk := Lib.hid (hk.out.push 0 0 0 0 0 0 0 true)
      generalize w3.alloc (.cells #[.int .u32 0, .int .u8 0, .int .u16 0, .int .u16 0, .int .u16 0, .int .u16 0, .int .u32 0, .bool true] 25) = X3 at *
      generalize w3.heap.size = g7 at *
      have hM1 := Lib.hid (fun w => pMake_no 1 2147483649 1 (by decide) (by decide) (by decide) (by decide +kernel) w)
      go_wp2_with fail
      refine (hM1.out _).mono ?_
      rintro e w4 ⟨rfl, g⟩
      replace hk := Lib.hid (hk.out.below g)
      clear g
      go_upto_region 10 with (fail)
      replace hk := Lib.hid (hk.out.alloc (.cells #[.int .u32 0, .int .u8 0, .int .u16 0, .int .u16 0, .int .u16 0, .int .u16 0, .int .u32 0, .bool false] 25))
      generalize w4.alloc (.cells #[.int .u32 0, .int .u8 0, .int .u16 0, .int .u16 0, .int .u16 0, .int .u16 0, .int .u32 0, .bool false] 25) = X4 at *
      have hM2 := Lib.hid (fun w => pMake_no 256 64 256 (by decide) (by decide) (by decide) (by decide +kernel) w)
      go_wp2_with fail
      refine (hM2.out _).mono ?_
      rintro e w5 ⟨rfl, g⟩
      replace hk := Lib.hid (hk.out.below g)
      clear g
      go_upto_region 11 with (fail)
      replace hk := Lib.hid (hk.out.alloc (.cells #[.int .u32 0, .int .u8 0, .int .u16 0, .int .u16 0, .int .u16 0, .int .u16 0, .int .u32 0, .bool false] 25))
      generalize w5.alloc (.cells #[.int .u32 0, .int .u8 0, .int .u16 0, .int .u16 0, .int .u16 0, .int .u16 0, .int .u32 0, .bool false] 25) = X5 at *
      have hM3 := fun w => pMake_yes 256 64 1 (by decide) (by decide) (by decide) (by decide +kernel) w
      rw [show enE 256 (256 + 64) = 0 from by decide +kernel, show enB 256 (256 + 64) = 256 from by decide +kernel, show enT 256 (256 + 64) = 320 from by decide +kernel] at hM3
      replace hM3 := Lib.hid hM3
      go_wp2_with fail
      refine (hM3.out _).mono ?_
      rintro e w6 ⟨rfl, g⟩
      replace hk := Lib.hid (hk.out.below g)
      clear g
      go_upto_region 12 with (fail)
      replace hk := Lib.hid (hk.out.push 256 0 256 320 1 0 0 true)
      generalize w6.alloc (.cells #[.int .u32 256, .int .u8 0, .int .u16 256, .int .u16 320, .int .u16 1, .int .u16 0, .int .u32 0, .bool true] 25) = X6 at *
      generalize w6.heap.size = g13 at *
      obtain ⟨d0, d1, d2, d3, d4, d5, d6, d7⟩ := (hk.out.al _ (List.mem_cons_self ..)).1
      go_upto_region 14 with (fail)
      clear d0 d1 d2 d3 d4 d5 d6 d7
      replace hk := Lib.hid (hk.out.push 256 0 256 320 3 0 0 true)
      generalize X6.alloc (.cells #[.int .u32 256, .int .u8 0, .int .u16 256, .int .u16 320, .int .u16 3, .int .u16 0, .int .u32 0, .bool true] 25) = X7 at *
      generalize X6.heap.size = g15 at *
      have hN5 := Lib.hid (fun w => pNumber_any 5 (by decide) w)
      go_wp2_with fail
      refine (hN5.out _).mono ?_
      rintro e w7 ⟨rfl, g⟩
      replace hk := Lib.hid (hk.out.below g)
      clear g
      go_upto_region 16 with (fail)
      replace hk := Lib.hid (hk.out.push 5 0 0 0 0 0 0 true)
      generalize w7.alloc (.cells #[.int .u32 5, .int .u8 0, .int .u16 0, .int .u16 0, .int .u16 0, .int .u16 0, .int .u32 0, .bool true] 25) = X8 at *
      generalize w7.heap.size = g16 at *
      have hM4 := fun w => pMake_yes 0 2147483648 255 (by decide) (by decide) (by decide) (by decide +kernel) w
      rw [show enE 0 (0 + 2147483648) = 20 from by decide +kernel, show enB 0 (0 + 2147483648) = 0 from by decide +kernel, show enT 0 (0 + 2147483648) = 2048 from by decide +kernel] at hM4
      replace hM4 := Lib.hid hM4
      go_wp2_with fail
      refine (hM4.out _).mono ?_
      rintro e w8 ⟨rfl, g⟩
      replace hk := Lib.hid (hk.out.below g)
      clear g
      go_upto_region 17 with (fail)
      replace hk := Lib.hid (hk.out.push 0 20 0 2048 255 0 0 true)
      generalize w8.alloc (.cells #[.int .u32 0, .int .u8 20, .int .u16 0, .int .u16 2048, .int .u16 255, .int .u16 0, .int .u32 0, .bool true] 25) = X9 at *
      generalize w8.heap.size = g17 at *
      have hR := fun w => pRange_any 0 20 0 2048 255 0 0 true (by decide) (by decide) (by decide) (by decide) (by decide) (by decide) (by decide) w
      rw [show deB 20 0 2048 0 = 0 from by decide +kernel, show deT 20 0 2048 0 = 2147483648 from by decide +kernel] at hR
      replace hR := Lib.hid hR
      obtain ⟨d0, d1, d2, d3, d4, d5, d6, d7⟩ := (hk.out.al _ (List.mem_cons_self ..)).1
      go_wp2_with fail
      refine (hR.out _).mono ?_
      rintro e w9 ⟨rfl, g⟩
      replace hk := Lib.hid (hk.out.below g)
      clear g
      clear d0 d1 d2 d3 d4 d5 d6 d7
      go_upto_region 18 with (fail)
      clear hM1 hM2 hM3 hM4 hO2 hO3 hN5 hR hmk16
      have cW := Lib.hid (fun w => works_any w)
      have cI := fun w => pWithin_any 256 0 256 320 1 0 0 true 256 0 256 320 3 0 0 true (by decide) (by decide) (by decide) (by decide) (by decide) (by decide) (by decide) (by decide) (by decide) (by decide) (by decide) (by decide) (by decide) (by decide) w
      have cJ := fun w => pWithin_any 256 0 256 320 3 0 0 true 256 0 256 320 1 0 0 true (by decide) (by decide) (by decide) (by decide) (by decide) (by decide) (by decide) (by decide) (by decide) (by decide) (by decide) (by decide) (by decide) (by decide) w
      rw [show deB 0 256 320 256 = 256 from by decide +kernel, show deT 0 256 320 256 = 320 from by decide +kernel] at cI cJ
      rw [show wiP 1 3 256 320 256 320 = true from by decide +kernel] at cI
      rw [show wiP 3 1 256 320 256 320 = false from by decide +kernel] at cJ
      have cK := fun w => pIsNumber_any 5 0 0 0 0 0 0 true (by decide) (by decide) (by decide) (by decide) (by decide) (by decide) (by decide) w
      rw [show isNumP 0 0 0 0 0 0 true = false from by decide +kernel] at cK
      have cB := fun w => pBytes_any 258 0 0 0 0 0 0 false (by decide) (by decide) (by decide) (by decide) (by decide) (by decide) (by decide) w
      rw [show bytesC 258 0 0 0 0 0 0 = [2, 1, 0, 0, 0, 0, 0, 0, 0, 0, 0, 0, 0, 0, 0, 0] from by decide +kernel] at cB
      have cI' : ∀ w : World, Calls Try.prog 11 #[.agg #[.int .u32 256, .int .u8 0, .int .u16 256, .int .u16 320, .int .u16 1, .int .u16 0, .int .u32 0, .bool true], .agg #[.int .u32 256, .int .u8 0, .int .u16 256, .int .u16 320, .int .u16 3, .int .u16 0, .int .u32 0, .bool true]] w fun ee w' => ee = .returned (.bool true) ∧ Below w.heap.size w w' := cI
      have cJ' : ∀ w : World, Calls Try.prog 11 #[.agg #[.int .u32 256, .int .u8 0, .int .u16 256, .int .u16 320, .int .u16 3, .int .u16 0, .int .u32 0, .bool true], .agg #[.int .u32 256, .int .u8 0, .int .u16 256, .int .u16 320, .int .u16 1, .int .u16 0, .int .u32 0, .bool true]] w fun ee w' => ee = .returned (.bool false) ∧ Below w.heap.size w w' := cJ
      have cK' : ∀ w : World, Calls Try.prog 12 #[.agg #[.int .u32 5, .int .u8 0, .int .u16 0, .int .u16 0, .int .u16 0, .int .u16 0, .int .u32 0, .bool true]] w fun ee w' => ee = .returned (.bool false) ∧ Below w.heap.size w w' := cK
      have cN' : ∀ w : World, Calls Try.prog 8 #[.int .u32 258] w fun ee w' => ee = .returned (.agg #[.int .u32 258, .int .u8 0, .int .u16 0, .int .u16 0, .int .u16 0, .int .u16 0, .int .u32 0, .bool false]) ∧ Below w.heap.size w w' := fun w => pNumber_any 258 (by decide) w
      have cB' : ∀ w : World, Calls Try.prog 13 #[.agg #[.int .u32 258, .int .u8 0, .int .u16 0, .int .u16 0, .int .u16 0, .int .u16 0, .int .u32 0, .bool false]] w fun ee w' => ee = .returned (.string ⟨#[2, 1, 0, 0, 0, 0, 0, 0, 0, 0, 0, 0, 0, 0, 0, 0]⟩) ∧ Below w.heap.size w w' := cB
      clear cI cJ cK cB
      have cI := Lib.hid cI'
      clear cI'
      have cJ := Lib.hid cJ'
      clear cJ'
      have cK := Lib.hid cK'
      clear cK'
      have cB := Lib.hid cB'
      clear cB'
      have cN := Lib.hid cN'
      clear cN'
      have hmk14 : ∀ w : World, (Instr.makeSlice 28 (.int .i64 14) (.int .i64 14)).run Try.prog w = .ok (.slice (some ⟨w.heap.size, 0, none⟩) 14 14) (w.alloc (.cells (madeCells #[.int .u8 0] 14) 5)) := run_make_row' (P := Try.prog) 28 5 (.int .u8 0) 1 Try.underlying28 info8 rfl .i64 .i64 14 (by omega) (by omega)
      have hz14 := zconv 14
      have hcat : (⟨#[2, 1]⟩ : ByteArray) ++ ⟨#[0, 0, 0, 0, 0, 0, 0, 0, 0, 0, 0, 0, 0, 0]⟩ = ⟨#[2, 1, 0, 0, 0, 0, 0, 0, 0, 0, 0, 0, 0, 0, 0, 0]⟩ := str_cat [2, 1] [0, 0, 0, 0, 0, 0, 0, 0, 0, 0, 0, 0, 0, 0]
      obtain ⟨S, hS0⟩ : ∃ S, S = KL W [⟨g17, 0, 20, 0, 2048, 255, 0, 0, true⟩, ⟨g16, 5, 0, 0, 0, 0, 0, 0, true⟩, ⟨g15, 256, 0, 256, 320, 3, 0, 0, true⟩, ⟨g13, 256, 0, 256, 320, 1, 0, 0, true⟩, ⟨g7, 0, 0, 0, 0, 0, 0, 0, true⟩, ⟨g5, 4294967295, 255, 65535, 65535, 65535, 65535, 16777215, false⟩] := ⟨_, rfl⟩
      have hK : ∀ w', S w' → KL W [⟨g17, 0, 20, 0, 2048, 255, 0, 0, true⟩, ⟨g16, 5, 0, 0, 0, 0, 0, 0, true⟩, ⟨g15, 256, 0, 256, 320, 3, 0, 0, true⟩, ⟨g13, 256, 0, 256, 320, 1, 0, 0, true⟩, ⟨g7, 0, 0, 0, 0, 0, 0, 0, true⟩, ⟨g5, 4294967295, 255, 65535, 65535, 65535, 65535, 16777215, false⟩] w' := fun w' h => by rw [← hS0]; exact h
      have hS : ∀ w1 w', S w1 → Below w1.heap.size w1 w' → S w' := fun w1 w' h k => by rw [hS0] at h ⊢; exact h.below k
      have hS2 : ∀ w1 ob, S w1 → S (w1.alloc ob) := fun w1 ob h => hS _ _ h ((Below.refl _ _).alloc (Nat.le_refl _) ob)
      have K2 := Lib.hid (hS _ _ (by rw [hS0]; exact hk.out) (Below.refl _ _).drew)
      clear hS0 hk
      have b13 := fun (y : Wd S) => ((hK _ y.h).al ⟨g13, 256, 0, 256, 320, 1, 0, 0, true⟩ (by simp)).1
      have b15 := fun (y : Wd S) => ((hK _ y.h).al ⟨g15, 256, 0, 256, 320, 3, 0, 0, true⟩ (by simp)).1
      have b16 := fun (y : Wd S) => ((hK _ y.h).al ⟨g16, 5, 0, 0, 0, 0, 0, 0, true⟩ (by simp)).1
      have b7 := fun (y : Wd S) => ((hK _ y.h).al ⟨g7, 0, 0, 0, 0, 0, 0, 0, true⟩ (by simp)).1
      have b5 := fun (y : Wd S) => ((hK _ y.h).al ⟨g5, 4294967295, 255, 65535, 65535, 65535, 65535, 16777215, false⟩ (by simp)).1
      have a13_0 : ∀ y : Wd S, y.w.cell? ⟨g13, 0, none⟩ = some (.int .u32 256) := fun y => (b13 y).q0
      have a13_1 : ∀ y : Wd S, y.w.cell? ⟨g13, 1, none⟩ = some (.int .u8 0) := fun y => (b13 y).q1
      have a13_2 : ∀ y : Wd S, y.w.cell? ⟨g13, 2, none⟩ = some (.int .u16 256) := fun y => (b13 y).q2
      have a13_3 : ∀ y : Wd S, y.w.cell? ⟨g13, 3, none⟩ = some (.int .u16 320) := fun y => (b13 y).q3
      have a13_4 : ∀ y : Wd S, y.w.cell? ⟨g13, 4, none⟩ = some (.int .u16 1) := fun y => (b13 y).q4
      have a13_5 : ∀ y : Wd S, y.w.cell? ⟨g13, 5, none⟩ = some (.int .u16 0) := fun y => (b13 y).q5
      have a13_6 : ∀ y : Wd S, y.w.cell? ⟨g13, 6, none⟩ = some (.int .u32 0) := fun y => (b13 y).q6
      have a13_7 : ∀ y : Wd S, y.w.cell? ⟨g13, 7, none⟩ = some (.bool true) := fun y => (b13 y).q7
      have a15_0 : ∀ y : Wd S, y.w.cell? ⟨g15, 0, none⟩ = some (.int .u32 256) := fun y => (b15 y).q0
      have a15_1 : ∀ y : Wd S, y.w.cell? ⟨g15, 1, none⟩ = some (.int .u8 0) := fun y => (b15 y).q1
      have a15_2 : ∀ y : Wd S, y.w.cell? ⟨g15, 2, none⟩ = some (.int .u16 256) := fun y => (b15 y).q2
      have a15_3 : ∀ y : Wd S, y.w.cell? ⟨g15, 3, none⟩ = some (.int .u16 320) := fun y => (b15 y).q3
      have a15_4 : ∀ y : Wd S, y.w.cell? ⟨g15, 4, none⟩ = some (.int .u16 3) := fun y => (b15 y).q4
      have a15_5 : ∀ y : Wd S, y.w.cell? ⟨g15, 5, none⟩ = some (.int .u16 0) := fun y => (b15 y).q5
      have a15_6 : ∀ y : Wd S, y.w.cell? ⟨g15, 6, none⟩ = some (.int .u32 0) := fun y => (b15 y).q6
      have a15_7 : ∀ y : Wd S, y.w.cell? ⟨g15, 7, none⟩ = some (.bool true) := fun y => (b15 y).q7
      have a16_0 : ∀ y : Wd S, y.w.cell? ⟨g16, 0, none⟩ = some (.int .u32 5) := fun y => (b16 y).q0
      have a16_1 : ∀ y : Wd S, y.w.cell? ⟨g16, 1, none⟩ = some (.int .u8 0) := fun y => (b16 y).q1
      have a16_2 : ∀ y : Wd S, y.w.cell? ⟨g16, 2, none⟩ = some (.int .u16 0) := fun y => (b16 y).q2
      have a16_3 : ∀ y : Wd S, y.w.cell? ⟨g16, 3, none⟩ = some (.int .u16 0) := fun y => (b16 y).q3
      have a16_4 : ∀ y : Wd S, y.w.cell? ⟨g16, 4, none⟩ = some (.int .u16 0) := fun y => (b16 y).q4
      have a16_5 : ∀ y : Wd S, y.w.cell? ⟨g16, 5, none⟩ = some (.int .u16 0) := fun y => (b16 y).q5
      have a16_6 : ∀ y : Wd S, y.w.cell? ⟨g16, 6, none⟩ = some (.int .u32 0) := fun y => (b16 y).q6
      have a16_7 : ∀ y : Wd S, y.w.cell? ⟨g16, 7, none⟩ = some (.bool true) := fun y => (b16 y).q7
      have a7_7 : ∀ y : Wd S, y.w.cell? ⟨g7, 7, none⟩ = some (.bool true) := fun y => (b7 y).q7
      have a5_7 : ∀ y : Wd S, y.w.cell? ⟨g5, 7, none⟩ = some (.bool false) := fun y => (b5 y).q7
      clear b13 b15 b16 b7 b5
      have dW := Lib.hid (cls_bel hS cW.out)
      have dI := Lib.hid (cls_bel hS cI.out)
      have dJ := Lib.hid (cls_bel hS cJ.out)
      have dK := Lib.hid (cls_bel hS cK.out)
      clear cW cI cJ cK
      refine region_cls_any S 46 (by kernel_rfl) (by kernel_rfl) K2.out ?_
      simp only [List.append_eq, List.cons_append, List.nil_append, List.take_succ_cons, List.take_zero]
      repeat (first
        | go_big_quiet_skip
        | (go_big_quiet_want
           go_big_quiet_op
           first
           | go_big_quiet_on
           | (apply Exists.intro
              refine ⟨fun y => ?_, ?_⟩
              · first | exact rfl | with_reducible exact dW.out y | with_reducible exact dI.out y | with_reducible exact dJ.out y | with_reducible exact dK.out y
              go_big_quiet_on)))
      refine wpQuiet_nil ?_
      intro y
      have hs := hS _ _ y.h (Below.refl _ _)
      obtain ⟨Z, hZ⟩ : ∃ Z : World, Z = y.w := ⟨_, rfl⟩
      rw [← hZ] at hs ⊢
      clear hZ y
      simp only [List.length_cons, List.length_nil, Nat.reduceAdd, Nat.reduceSub]
      refine wpAny_listed (s' := #[true, true, true, true, true, true, true, true, true, true, true, true, true, true, true, true, true, true, true, true, true, true, true, true, true, true, true, true, true, true, true, true, true, true, true, true, true, true, true, true, true, true, true, true, true, true, false, false, false, false, false, false, false, false, false, false, false, false, false, false, false, false, false, false, false, false]) (by kernel_rfl) ?_
      refine wpAny_ready (rs := [46]) (by kernel_rfl) (by simp) (AllReady.cons rfl (fun K hK => ?_) AllReady.nil)
      replace hK := Lib.hid hK
      go_simp
      refine hK.out _ _ ?_
      clear hK K
      try simp only [Act.put, List.getElem_toArray, List.getElem_cons_zero, List.getElem_cons_succ, List.setIfInBounds_toArray, List.set_cons_zero, List.set_cons_succ]
      refine tail_suff S 125 126 127 128 129 (.agg #[.int .u32 258, .int .u8 0, .int .u16 0, .int .u16 0, .int .u16 0, .int .u16 0, .int .u32 0, .bool false]) (.string ⟨#[2, 1, 0, 0, 0, 0, 0, 0, 0, 0, 0, 0, 0, 0, 0, 0]⟩) (.string ⟨#[0, 0, 0, 0, 0, 0, 0, 0, 0, 0, 0, 0, 0, 0]⟩) (.string ⟨#[2, 1, 0, 0, 0, 0, 0, 0, 0, 0, 0, 0, 0, 0, 0, 0]⟩) 52 14 #[true, true, true, true, true, true, true, true, true, true, true, true, true, true, true, true, true, true, true, true, true, true, true, true, true, true, true, true, true, true, true, true, true, true, true, true, true, true, true, true, true, true, true, true, true, true, true, true, true, true, true, true, false, false, false, false, false, false, false, false, false, false, false, false, false, false] (by kernel_rfl) (by kernel_rfl) ?_ (fun LEAF => ?_)
      · intro v Z hs
        simp only [Act.put, List.getElem_toArray, List.getElem_cons_zero, List.getElem_cons_succ, List.setIfInBounds_toArray, List.set_cons_zero, List.set_cons_succ]
        simp only [List.drop_succ_cons, List.drop_zero]
        have hfin := Lib.hid (hK _ hs).bl
        go_wp2
        go_ret
        exact ⟨rfl, hfin.out⟩
      · simp only [Act.put, List.getElem_toArray, List.getElem_cons_zero, List.getElem_cons_succ, List.setIfInBounds_toArray, List.set_cons_zero, List.set_cons_succ] at LEAF
        refine wpAny_ready (rs := [47, 49]) (by kernel_rfl) (by simp) (AllReady.cons rfl (fun K hK => ?_) (AllReady.cons rfl (fun K hK => ?_) AllReady.nil))
        · skip
          replace hK := Lib.hid hK
          go_simp
          refine (cN.out _).mono ?_
          rintro ee Z1 ⟨rfl, g⟩
          replace hs := hS _ _ hs g
          clear g
          go_simp
          refine hK.out _ _ ?_
          clear hK K
          try simp only [Act.put, List.getElem_toArray, List.getElem_cons_zero, List.getElem_cons_succ, List.setIfInBounds_toArray, List.set_cons_zero, List.set_cons_succ]
          refine wpAny_ready (rs := [48, 49]) (by kernel_rfl) (by simp) (AllReady.cons rfl (fun K hK => ?_) (AllReady.cons rfl (fun K hK => ?_) AllReady.nil))
          · skip
            replace hK := Lib.hid hK
            go_simp
            refine (cB.out _).mono ?_
            rintro ee Z2 ⟨rfl, g⟩
            replace hs := hS _ _ hs g
            clear g
            go_simp
            refine hK.out _ _ ?_
            clear hK K
            try simp only [Act.put, List.getElem_toArray, List.getElem_cons_zero, List.getElem_cons_succ, List.setIfInBounds_toArray, List.set_cons_zero, List.set_cons_succ]
            refine wpAny_ready (rs := [49]) (by kernel_rfl) (by simp) (AllReady.cons rfl (fun K hK => ?_) AllReady.nil)
            replace hK := Lib.hid hK
            go_simp
            have hz := ZB.first Z2
            replace hs := hS2 _ (.cells (madeCells #[.int .u8 0] 14) 5) hs
            refine hK.out _ _ ?_
            clear hK K
            try simp only [Act.put, List.getElem_toArray, List.getElem_cons_zero, List.getElem_cons_succ, List.setIfInBounds_toArray, List.set_cons_zero, List.set_cons_succ]
            generalize Z2.alloc (.cells (madeCells #[.int .u8 0] 14) 5) = Z3 at *
            generalize Z2.heap.size = b at *
            refine wpAny_ready (rs := [50]) (by kernel_rfl) (by simp) (AllReady.cons rfl (fun K hK => ?_) AllReady.nil)
            have hc := hz.conv
            replace hK := Lib.hid hK
            go_simp
            refine hK.out _ _ ?_
            clear hK K
            try simp only [Act.put, List.getElem_toArray, List.getElem_cons_zero, List.getElem_cons_succ, List.setIfInBounds_toArray, List.set_cons_zero, List.set_cons_succ]
            clear hc
            refine wpAny_ready (rs := [51]) (by kernel_rfl) (by simp) (AllReady.cons rfl (fun K hK => ?_) AllReady.nil)
            replace hK := Lib.hid hK
            go_simp
            refine hK.out _ _ ?_
            clear hK K
            try simp only [Act.put, List.getElem_toArray, List.getElem_cons_zero, List.getElem_cons_succ, List.setIfInBounds_toArray, List.set_cons_zero, List.set_cons_succ]
            exact LEAF _ _ hs
          · skip
            replace hK := Lib.hid hK
            go_simp
            have hz := ZB.first Z1
            replace hs := hS2 _ (.cells (madeCells #[.int .u8 0] 14) 5) hs
            refine hK.out _ _ ?_
            clear hK K
            try simp only [Act.put, List.getElem_toArray, List.getElem_cons_zero, List.getElem_cons_succ, List.setIfInBounds_toArray, List.set_cons_zero, List.set_cons_succ]
            generalize Z1.alloc (.cells (madeCells #[.int .u8 0] 14) 5) = Z2 at *
            generalize Z1.heap.size = b at *
            refine wpAny_ready (rs := [48, 50]) (by kernel_rfl) (by simp) (AllReady.cons rfl (fun K hK => ?_) (AllReady.cons rfl (fun K hK => ?_) AllReady.nil))
            · skip
              replace hK := Lib.hid hK
              go_simp
              refine (cB.out _).mono ?_
              rintro ee Z3 ⟨rfl, g⟩
              replace hs := hS _ _ hs g
              replace hz := hz.below g
              clear g
              go_simp
              refine hK.out _ _ ?_
              clear hK K
              try simp only [Act.put, List.getElem_toArray, List.getElem_cons_zero, List.getElem_cons_succ, List.setIfInBounds_toArray, List.set_cons_zero, List.set_cons_succ]
              refine wpAny_ready (rs := [50]) (by kernel_rfl) (by simp) (AllReady.cons rfl (fun K hK => ?_) AllReady.nil)
              have hc := hz.conv
              replace hK := Lib.hid hK
              go_simp
              refine hK.out _ _ ?_
              clear hK K
              try simp only [Act.put, List.getElem_toArray, List.getElem_cons_zero, List.getElem_cons_succ, List.setIfInBounds_toArray, List.set_cons_zero, List.set_cons_succ]
              clear hc
              refine wpAny_ready (rs := [51]) (by kernel_rfl) (by simp) (AllReady.cons rfl (fun K hK => ?_) AllReady.nil)
              replace hK := Lib.hid hK
              go_simp
              refine hK.out _ _ ?_
              clear hK K
              try simp only [Act.put, List.getElem_toArray, List.getElem_cons_zero, List.getElem_cons_succ, List.setIfInBounds_toArray, List.set_cons_zero, List.set_cons_succ]
              exact LEAF _ _ hs
            · skip
              have hc := hz.conv
              replace hK := Lib.hid hK
              go_simp
              refine hK.out _ _ ?_
              clear hK K
              try simp only [Act.put, List.getElem_toArray, List.getElem_cons_zero, List.getElem_cons_succ, List.setIfInBounds_toArray, List.set_cons_zero, List.set_cons_succ]
              clear hc
              refine wpAny_ready (rs := [48, 51]) (by kernel_rfl) (by simp) (AllReady.cons rfl (fun K hK => ?_) (AllReady.cons rfl (fun K hK => ?_) AllReady.nil))
              · skip
                replace hK := Lib.hid hK
                go_simp
                refine (cB.out _).mono ?_
                rintro ee Z4 ⟨rfl, g⟩
                replace hs := hS _ _ hs g
                replace hz := hz.below g
                clear g
                go_simp
                refine hK.out _ _ ?_
                clear hK K
                try simp only [Act.put, List.getElem_toArray, List.getElem_cons_zero, List.getElem_cons_succ, List.setIfInBounds_toArray, List.set_cons_zero, List.set_cons_succ]
                refine wpAny_ready (rs := [51]) (by kernel_rfl) (by simp) (AllReady.cons rfl (fun K hK => ?_) AllReady.nil)
                replace hK := Lib.hid hK
                go_simp
                refine hK.out _ _ ?_
                clear hK K
                try simp only [Act.put, List.getElem_toArray, List.getElem_cons_zero, List.getElem_cons_succ, List.setIfInBounds_toArray, List.set_cons_zero, List.set_cons_succ]
                exact LEAF _ _ hs
              · skip
                replace hK := Lib.hid hK
                go_simp
                refine hK.out _ _ ?_
                clear hK K
                try simp only [Act.put, List.getElem_toArray, List.getElem_cons_zero, List.getElem_cons_succ, List.setIfInBounds_toArray, List.set_cons_zero, List.set_cons_succ]
                refine wpAny_ready (rs := [48]) (by kernel_rfl) (by simp) (AllReady.cons rfl (fun K hK => ?_) AllReady.nil)
                replace hK := Lib.hid hK
                go_simp
                refine (cB.out _).mono ?_
                rintro ee Z5 ⟨rfl, g⟩
                replace hs := hS _ _ hs g
                replace hz := hz.below g
                clear g
                go_simp
                refine hK.out _ _ ?_
                clear hK K
                try simp only [Act.put, List.getElem_toArray, List.getElem_cons_zero, List.getElem_cons_succ, List.setIfInBounds_toArray, List.set_cons_zero, List.set_cons_succ]
                exact LEAF _ _ hs
        · skip
          replace hK := Lib.hid hK
          go_simp
          have hz := ZB.first Z
          replace hs := hS2 _ (.cells (madeCells #[.int .u8 0] 14) 5) hs
          refine hK.out _ _ ?_
          clear hK K
          try simp only [Act.put, List.getElem_toArray, List.getElem_cons_zero, List.getElem_cons_succ, List.setIfInBounds_toArray, List.set_cons_zero, List.set_cons_succ]
          generalize Z.alloc (.cells (madeCells #[.int .u8 0] 14) 5) = Z1 at *
          generalize Z.heap.size = b at *
          refine wpAny_ready (rs := [47, 50]) (by kernel_rfl) (by simp) (AllReady.cons rfl (fun K hK => ?_) (AllReady.cons rfl (fun K hK => ?_) AllReady.nil))
          · skip
            replace hK := Lib.hid hK
            go_simp
            refine (cN.out _).mono ?_
            rintro ee Z2 ⟨rfl, g⟩
            replace hs := hS _ _ hs g
            replace hz := hz.below g
            clear g
            go_simp
            refine hK.out _ _ ?_
            clear hK K
            try simp only [Act.put, List.getElem_toArray, List.getElem_cons_zero, List.getElem_cons_succ, List.setIfInBounds_toArray, List.set_cons_zero, List.set_cons_succ]
            refine wpAny_ready (rs := [48, 50]) (by kernel_rfl) (by simp) (AllReady.cons rfl (fun K hK => ?_) (AllReady.cons rfl (fun K hK => ?_) AllReady.nil))
            · skip
              replace hK := Lib.hid hK
              go_simp
              refine (cB.out _).mono ?_
              rintro ee Z3 ⟨rfl, g⟩
              replace hs := hS _ _ hs g
              replace hz := hz.below g
              clear g
              go_simp
              refine hK.out _ _ ?_
              clear hK K
              try simp only [Act.put, List.getElem_toArray, List.getElem_cons_zero, List.getElem_cons_succ, List.setIfInBounds_toArray, List.set_cons_zero, List.set_cons_succ]
              refine wpAny_ready (rs := [50]) (by kernel_rfl) (by simp) (AllReady.cons rfl (fun K hK => ?_) AllReady.nil)
              have hc := hz.conv
              replace hK := Lib.hid hK
              go_simp
              refine hK.out _ _ ?_
              clear hK K
              try simp only [Act.put, List.getElem_toArray, List.getElem_cons_zero, List.getElem_cons_succ, List.setIfInBounds_toArray, List.set_cons_zero, List.set_cons_succ]
              clear hc
              refine wpAny_ready (rs := [51]) (by kernel_rfl) (by simp) (AllReady.cons rfl (fun K hK => ?_) AllReady.nil)
              replace hK := Lib.hid hK
              go_simp
              refine hK.out _ _ ?_
              clear hK K
              try simp only [Act.put, List.getElem_toArray, List.getElem_cons_zero, List.getElem_cons_succ, List.setIfInBounds_toArray, List.set_cons_zero, List.set_cons_succ]
              exact LEAF _ _ hs
            · skip
              have hc := hz.conv
              replace hK := Lib.hid hK
              go_simp
              refine hK.out _ _ ?_
              clear hK K
              try simp only [Act.put, List.getElem_toArray, List.getElem_cons_zero, List.getElem_cons_succ, List.setIfInBounds_toArray, List.set_cons_zero, List.set_cons_succ]
              clear hc
              refine wpAny_ready (rs := [48, 51]) (by kernel_rfl) (by simp) (AllReady.cons rfl (fun K hK => ?_) (AllReady.cons rfl (fun K hK => ?_) AllReady.nil))
              · skip
                replace hK := Lib.hid hK
                go_simp
                refine (cB.out _).mono ?_
                rintro ee Z4 ⟨rfl, g⟩
                replace hs := hS _ _ hs g
                replace hz := hz.below g
                clear g
                go_simp
                refine hK.out _ _ ?_
                clear hK K
                try simp only [Act.put, List.getElem_toArray, List.getElem_cons_zero, List.getElem_cons_succ, List.setIfInBounds_toArray, List.set_cons_zero, List.set_cons_succ]
                refine wpAny_ready (rs := [51]) (by kernel_rfl) (by simp) (AllReady.cons rfl (fun K hK => ?_) AllReady.nil)
                replace hK := Lib.hid hK
                go_simp
                refine hK.out _ _ ?_
                clear hK K
                try simp only [Act.put, List.getElem_toArray, List.getElem_cons_zero, List.getElem_cons_succ, List.setIfInBounds_toArray, List.set_cons_zero, List.set_cons_succ]
                exact LEAF _ _ hs
              · skip
                replace hK := Lib.hid hK
                go_simp
                refine hK.out _ _ ?_
                clear hK K
                try simp only [Act.put, List.getElem_toArray, List.getElem_cons_zero, List.getElem_cons_succ, List.setIfInBounds_toArray, List.set_cons_zero, List.set_cons_succ]
                refine wpAny_ready (rs := [48]) (by kernel_rfl) (by simp) (AllReady.cons rfl (fun K hK => ?_) AllReady.nil)
                replace hK := Lib.hid hK
                go_simp
                refine (cB.out _).mono ?_
                rintro ee Z5 ⟨rfl, g⟩
                replace hs := hS _ _ hs g
                replace hz := hz.below g
                clear g
                go_simp
                refine hK.out _ _ ?_
                clear hK K
                try simp only [Act.put, List.getElem_toArray, List.getElem_cons_zero, List.getElem_cons_succ, List.setIfInBounds_toArray, List.set_cons_zero, List.set_cons_succ]
                exact LEAF _ _ hs
          · skip
            have hc := hz.conv
            replace hK := Lib.hid hK
            go_simp
            refine hK.out _ _ ?_
            clear hK K
            try simp only [Act.put, List.getElem_toArray, List.getElem_cons_zero, List.getElem_cons_succ, List.setIfInBounds_toArray, List.set_cons_zero, List.set_cons_succ]
            clear hc
            refine wpAny_ready (rs := [47, 51]) (by kernel_rfl) (by simp) (AllReady.cons rfl (fun K hK => ?_) (AllReady.cons rfl (fun K hK => ?_) AllReady.nil))
            · skip
              replace hK := Lib.hid hK
              go_simp
              refine (cN.out _).mono ?_
              rintro ee Z3 ⟨rfl, g⟩
              replace hs := hS _ _ hs g
              replace hz := hz.below g
              clear g
              go_simp
              refine hK.out _ _ ?_
              clear hK K
              try simp only [Act.put, List.getElem_toArray, List.getElem_cons_zero, List.getElem_cons_succ, List.setIfInBounds_toArray, List.set_cons_zero, List.set_cons_succ]
              refine wpAny_ready (rs := [48, 51]) (by kernel_rfl) (by simp) (AllReady.cons rfl (fun K hK => ?_) (AllReady.cons rfl (fun K hK => ?_) AllReady.nil))
              · skip
                replace hK := Lib.hid hK
                go_simp
                refine (cB.out _).mono ?_
                rintro ee Z4 ⟨rfl, g⟩
                replace hs := hS _ _ hs g
                replace hz := hz.below g
                clear g
                go_simp
                refine hK.out _ _ ?_
                clear hK K
                try simp only [Act.put, List.getElem_toArray, List.getElem_cons_zero, List.getElem_cons_succ, List.setIfInBounds_toArray, List.set_cons_zero, List.set_cons_succ]
                refine wpAny_ready (rs := [51]) (by kernel_rfl) (by simp) (AllReady.cons rfl (fun K hK => ?_) AllReady.nil)
                replace hK := Lib.hid hK
                go_simp
                refine hK.out _ _ ?_
                clear hK K
                try simp only [Act.put, List.getElem_toArray, List.getElem_cons_zero, List.getElem_cons_succ, List.setIfInBounds_toArray, List.set_cons_zero, List.set_cons_succ]
                exact LEAF _ _ hs
              · skip
                replace hK := Lib.hid hK
                go_simp
                refine hK.out _ _ ?_
                clear hK K
                try simp only [Act.put, List.getElem_toArray, List.getElem_cons_zero, List.getElem_cons_succ, List.setIfInBounds_toArray, List.set_cons_zero, List.set_cons_succ]
                refine wpAny_ready (rs := [48]) (by kernel_rfl) (by simp) (AllReady.cons rfl (fun K hK => ?_) AllReady.nil)
                replace hK := Lib.hid hK
                go_simp
                refine (cB.out _).mono ?_
                rintro ee Z5 ⟨rfl, g⟩
                replace hs := hS _ _ hs g
                replace hz := hz.below g
                clear g
                go_simp
                refine hK.out _ _ ?_
                clear hK K
                try simp only [Act.put, List.getElem_toArray, List.getElem_cons_zero, List.getElem_cons_succ, List.setIfInBounds_toArray, List.set_cons_zero, List.set_cons_succ]
                exact LEAF _ _ hs
            · skip
              replace hK := Lib.hid hK
              go_simp
              refine hK.out _ _ ?_
              clear hK K
              try simp only [Act.put, List.getElem_toArray, List.getElem_cons_zero, List.getElem_cons_succ, List.setIfInBounds_toArray, List.set_cons_zero, List.set_cons_succ]
              refine wpAny_ready (rs := [47]) (by kernel_rfl) (by simp) (AllReady.cons rfl (fun K hK => ?_) AllReady.nil)
              replace hK := Lib.hid hK
              go_simp
              refine (cN.out _).mono ?_
              rintro ee Z4 ⟨rfl, g⟩
              replace hs := hS _ _ hs g
              replace hz := hz.below g
              clear g
              go_simp
              refine hK.out _ _ ?_
              clear hK K
              try simp only [Act.put, List.getElem_toArray, List.getElem_cons_zero, List.getElem_cons_succ, List.setIfInBounds_toArray, List.set_cons_zero, List.set_cons_succ]
              refine wpAny_ready (rs := [48]) (by kernel_rfl) (by simp) (AllReady.cons rfl (fun K hK => ?_) AllReady.nil)
              replace hK := Lib.hid hK
              go_simp
              refine (cB.out _).mono ?_
              rintro ee Z5 ⟨rfl, g⟩
              replace hs := hS _ _ hs g
              replace hz := hz.below g
              clear g
              go_simp
              refine hK.out _ _ ?_
              clear hK K
              try simp only [Act.put, List.getElem_toArray, List.getElem_cons_zero, List.getElem_cons_succ, List.setIfInBounds_toArray, List.set_cons_zero, List.set_cons_succ]
              exact LEAF _ _ hs
end Go.Proofs.Ytpopfmboonjplaa.cknown
