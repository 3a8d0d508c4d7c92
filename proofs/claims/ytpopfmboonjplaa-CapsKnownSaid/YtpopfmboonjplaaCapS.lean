/- Contracts of the document's answers for layer caps: Of, IsNumber, Range, Within, Holds, Meets, Make. No statement is proved here. -/
import Derived.Test.YtpopfmboonjplaaCapR
import Derived.Test.YtpopfmboonjplaaBndR
namespace Go.Proofs.Ytpopfmboonjplaa
open Go.RowKit
set_option linter.unusedVariables false

/-- The number of some bytes, from a place on. -/
def nm (l : List UInt8) (a k : Nat) : Nat := le ((l.drop a).take k)
theorem nm_lt (l : List UInt8) (a k : Nat) : nm l a k < 256 ^ k := by
  have h := le_lt ((l.drop a).take k)
  exact Nat.lt_of_lt_of_le h (Nat.pow_le_pow_right (by decide) (by simp; omega))

def isNumP (e b t pm ty rs : Nat) (va : Bool) : Bool := decide (e = 0 ∧ b = 0 ∧ t = 0 ∧ pm = 0 ∧ ty = 0 ∧ rs = 0 ∧ va = false)
/-- Some cells of a block, stored one behind the other. -/
def setRow (b : Nat) : Nat → List Value → World → World
  | _, [], w => w
  | i, v :: vs, w => setRow b (i + 1) vs (w.setCell ⟨b, i, none⟩ v)
theorem setRow_before (b : Nat) : ∀ (vs : List Value) (i k : Nat) (w : World), k < i → (setRow b i vs w).cell? ⟨b, k, none⟩ = w.cell? ⟨b, k, none⟩
  | [], i, k, w, _ => rfl
  | v :: vs, i, k, w, h => by
    rw [setRow, setRow_before b vs (i + 1) k _ (by omega)]
    exact World.cell?_setCell_other _ _ _ _ (by simp <;> omega)
theorem setRow_cell (b : Nat) : ∀ (vs : List Value) (i j : Nat) (u : Value) (w : World), (∀ j, j < vs.length → (w.cell? ⟨b, i + j, none⟩).isSome = true) → vs[j]? = some u → (setRow b i vs w).cell? ⟨b, i + j, none⟩ = some u
  | [], i, j, u, w, _, hu => by simp at hu
  | v :: vs, i, 0, u, w, h, hu => by
    rw [setRow, setRow_before b vs (i + 1) (i + 0) _ (by omega)]
    simp at hu
    subst hu
    exact World.cell?_setCell_same' _ _ _ (h 0 (by simp))
  | v :: vs, i, j + 1, u, w, h, hu => by
    rw [setRow, show i + (j + 1) = i + 1 + j from by omega]
    refine setRow_cell b vs (i + 1) j u _ (fun j' hj' => ?_) (by simpa using hu)
    rw [World.cell?_setCell_other _ _ _ _ (by simp <;> omega), show i + 1 + j' = i + (j' + 1) from by omega]
    exact h (j' + 1) (by simp <;> omega)

theorem rOf_no (s : ByteArray) (va : Bool) (W : World) (h : ¬ s.size = 16) :
    Calls Try.prog 80 #[.string s, .bool va] W fun e' w' => e' = .returned (.tuple #[.agg #[.int .u32 0, .int .u8 0, .int .u16 0, .int .u16 0, .int .u16 0, .int .u16 0, .int .u32 0, .bool false], .bool false]) ∧ Below W.heap.size W w' := by
  have h16 : ¬ (s.size : Int) = 16 := by omega
  go_enter Try.func80, Try.ntmps80
  go_wp2_with fail
  exact bodyPost_ret (v := .tuple #[.agg #[.int .u32 0, .int .u8 0, .int .u16 0, .int .u16 0, .int .u16 0, .int .u16 0, .int .u32 0, .bool false], .bool false]) (by simp [results, Try.results80, go_sem]) rfl ⟨rfl, by go_grown⟩
theorem rOf_yes (l : List UInt8) (va : Bool) (W : World) (hl : l.length = 16) :
    Calls Try.prog 80 #[.string ⟨l.toArray⟩, .bool va] W fun e' w' => e' = .returned (.tuple #[.agg #[.int .u32 (nm l 0 4), .int .u8 (nm l 4 1), .int .u16 (nm l 5 2), .int .u16 (nm l 7 2), .int .u16 (nm l 9 2), .int .u16 (nm l 11 2), .int .u32 (nm l 13 3), .bool (va && sndP (nm l 4 1) (nm l 5 2) (nm l 7 2) (nm l 9 2) (nm l 11 2) (nm l 13 3))], .bool true]) ∧ Below W.heap.size W w' := by
  have hT := Lib.hid (fun a k w hk ha => taken_any l a k w hk (by omega) ha)
  have n0 := nm_lt l 0 4
  have n1 := nm_lt l 4 1
  have n2 := nm_lt l 5 2
  have n3 := nm_lt l 7 2
  have n4 := nm_lt l 9 2
  have n5 := nm_lt l 11 2
  have n6 := nm_lt l 13 3
  simp only [Nat.reducePow] at n0 n1 n2 n3 n4 n5 n6
  have h16 : (l.length : Int) = 16 := by omega
  have hc := Lib.hid hl
  have t0 := Lib.hid (fun w => hT.out 0 4 w (by omega) (by omega))
  have t1 := Lib.hid (fun w => hT.out 4 1 w (by omega) (by omega))
  have t2 := Lib.hid (fun w => hT.out 5 2 w (by omega) (by omega))
  have t3 := Lib.hid (fun w => hT.out 7 2 w (by omega) (by omega))
  have t4 := Lib.hid (fun w => hT.out 9 2 w (by omega) (by omega))
  have t5 := Lib.hid (fun w => hT.out 11 2 w (by omega) (by omega))
  have t6 := Lib.hid (fun w => hT.out 13 3 w (by omega) (by omega))
  rw [show le ((l.drop 0).take 4) = nm l 0 4 from rfl] at t0
  rw [show le ((l.drop 4).take 1) = nm l 4 1 from rfl] at t1
  rw [show le ((l.drop 5).take 2) = nm l 5 2 from rfl] at t2
  rw [show le ((l.drop 7).take 2) = nm l 7 2 from rfl] at t3
  rw [show le ((l.drop 9).take 2) = nm l 9 2 from rfl] at t4
  rw [show le ((l.drop 11).take 2) = nm l 11 2 from rfl] at t5
  rw [show le ((l.drop 13).take 3) = nm l 13 3 from rfl] at t6
  have hS := Lib.hid (fun cu va w => rSound_any cu (nm l 4 1) (nm l 5 2) (nm l 7 2) (nm l 9 2) (nm l 11 2) (nm l 13 3) va w)
  generalize sndP (nm l 4 1) (nm l 5 2) (nm l 7 2) (nm l 9 2) (nm l 11 2) (nm l 13 3) = z at *
  generalize nm l 0 4 = m0 at *
  generalize nm l 4 1 = m1 at *
  generalize nm l 5 2 = m2 at *
  generalize nm l 7 2 = m3 at *
  generalize nm l 9 2 = m4 at *
  generalize nm l 11 2 = m5 at *
  generalize nm l 13 3 = m6 at *
  clear hl hT
  cases va
  · go_enter Try.func80, Try.ntmps80
    go_wp2_with fail
    refine (t0.out _).mono ?_
    rintro e' w1 ⟨rfl, rfl⟩
    go_wp2_with fail
    refine (t1.out _).mono ?_
    rintro e' w1 ⟨rfl, rfl⟩
    go_wp2_with fail
    refine (t2.out _).mono ?_
    rintro e' w1 ⟨rfl, rfl⟩
    go_wp2_with fail
    refine (t3.out _).mono ?_
    rintro e' w1 ⟨rfl, rfl⟩
    go_wp2_with fail
    refine (t4.out _).mono ?_
    rintro e' w1 ⟨rfl, rfl⟩
    go_wp2_with fail
    refine (t5.out _).mono ?_
    rintro e' w1 ⟨rfl, rfl⟩
    go_wp2_with fail
    refine (t6.out _).mono ?_
    rintro e' w1 ⟨rfl, rfl⟩
    go_wp2_with fail
    exact bodyPost_ret (v := .tuple #[.agg #[.int .u32 m0, .int .u8 m1, .int .u16 m2, .int .u16 m3, .int .u16 m4, .int .u16 m5, .int .u32 m6, .bool false], .bool true]) (by simp [results, Try.results80, go_sem]) rfl ⟨rfl, by go_grown⟩
  · go_enter Try.func80, Try.ntmps80
    go_wp2_with fail
    refine (t0.out _).mono ?_
    rintro e' w1 ⟨rfl, rfl⟩
    go_wp2_with fail
    refine (t1.out _).mono ?_
    rintro e' w1 ⟨rfl, rfl⟩
    go_wp2_with fail
    refine (t2.out _).mono ?_
    rintro e' w1 ⟨rfl, rfl⟩
    go_wp2_with fail
    refine (t3.out _).mono ?_
    rintro e' w1 ⟨rfl, rfl⟩
    go_wp2_with fail
    refine (t4.out _).mono ?_
    rintro e' w1 ⟨rfl, rfl⟩
    go_wp2_with fail
    refine (t5.out _).mono ?_
    rintro e' w1 ⟨rfl, rfl⟩
    go_wp2_with fail
    refine (t6.out _).mono ?_
    rintro e' w1 ⟨rfl, rfl⟩
    go_wp2_with fail
    refine (hS.out m0 false _).mono ?_
    rintro e' w2 ⟨rfl, h1⟩
    have p0 : w2.cell? ⟨W.heap.size, 0, none⟩ = some (.int .u32 0) := (h1.cell (by simp; omega)).trans (by simp [go_sem])
    have q0 : w2.cell? ⟨W.heap.size + 1, 0, none⟩ = some (.int .u32 m0) := (h1.cell (by simp)).trans (by simp [go_sem])
    have f0 : w2.frozen? ⟨W.heap.size, 0, none⟩ = false := (h1.frozen (by simp; omega)).trans (by simp [go_sem])
    have p1 : w2.cell? ⟨W.heap.size, 1, none⟩ = some (.int .u8 0) := (h1.cell (by simp; omega)).trans (by simp [go_sem])
    have q1 : w2.cell? ⟨W.heap.size + 1, 1, none⟩ = some (.int .u8 m1) := (h1.cell (by simp)).trans (by simp [go_sem])
    have f1 : w2.frozen? ⟨W.heap.size, 1, none⟩ = false := (h1.frozen (by simp; omega)).trans (by simp [go_sem])
    have p2 : w2.cell? ⟨W.heap.size, 2, none⟩ = some (.int .u16 0) := (h1.cell (by simp; omega)).trans (by simp [go_sem])
    have q2 : w2.cell? ⟨W.heap.size + 1, 2, none⟩ = some (.int .u16 m2) := (h1.cell (by simp)).trans (by simp [go_sem])
    have f2 : w2.frozen? ⟨W.heap.size, 2, none⟩ = false := (h1.frozen (by simp; omega)).trans (by simp [go_sem])
    have p3 : w2.cell? ⟨W.heap.size, 3, none⟩ = some (.int .u16 0) := (h1.cell (by simp; omega)).trans (by simp [go_sem])
    have q3 : w2.cell? ⟨W.heap.size + 1, 3, none⟩ = some (.int .u16 m3) := (h1.cell (by simp)).trans (by simp [go_sem])
    have f3 : w2.frozen? ⟨W.heap.size, 3, none⟩ = false := (h1.frozen (by simp; omega)).trans (by simp [go_sem])
    have p4 : w2.cell? ⟨W.heap.size, 4, none⟩ = some (.int .u16 0) := (h1.cell (by simp; omega)).trans (by simp [go_sem])
    have q4 : w2.cell? ⟨W.heap.size + 1, 4, none⟩ = some (.int .u16 m4) := (h1.cell (by simp)).trans (by simp [go_sem])
    have f4 : w2.frozen? ⟨W.heap.size, 4, none⟩ = false := (h1.frozen (by simp; omega)).trans (by simp [go_sem])
    have p5 : w2.cell? ⟨W.heap.size, 5, none⟩ = some (.int .u16 0) := (h1.cell (by simp; omega)).trans (by simp [go_sem])
    have q5 : w2.cell? ⟨W.heap.size + 1, 5, none⟩ = some (.int .u16 m5) := (h1.cell (by simp)).trans (by simp [go_sem])
    have f5 : w2.frozen? ⟨W.heap.size, 5, none⟩ = false := (h1.frozen (by simp; omega)).trans (by simp [go_sem])
    have p6 : w2.cell? ⟨W.heap.size, 6, none⟩ = some (.int .u32 0) := (h1.cell (by simp; omega)).trans (by simp [go_sem])
    have q6 : w2.cell? ⟨W.heap.size + 1, 6, none⟩ = some (.int .u32 m6) := (h1.cell (by simp)).trans (by simp [go_sem])
    have f6 : w2.frozen? ⟨W.heap.size, 6, none⟩ = false := (h1.frozen (by simp; omega)).trans (by simp [go_sem])
    have p7 : w2.cell? ⟨W.heap.size, 7, none⟩ = some (.bool false) := (h1.cell (by simp; omega)).trans (by simp [go_sem])
    have q7 : w2.cell? ⟨W.heap.size + 1, 7, none⟩ = some (.bool false) := (h1.cell (by simp)).trans (by simp [go_sem])
    have f7 : w2.frozen? ⟨W.heap.size, 7, none⟩ = false := (h1.frozen (by simp; omega)).trans (by simp [go_sem])
    have g7 : w2.frozen? ⟨W.heap.size + 1, 7, none⟩ = false := (h1.frozen (by simp)).trans (by simp [go_sem])
    have hb := Lib.hid ((((Below.refl W.heap.size W).alloc (Nat.le_refl _) (.cells #[.int .u32 0, .int .u8 0, .int .u16 0, .int .u16 0, .int .u16 0, .int .u16 0, .int .u32 0, .bool false] 25)).alloc (by simp) (.cells #[.int .u32 m0, .int .u8 m1, .int .u16 m2, .int .u16 m3, .int .u16 m4, .int .u16 m5, .int .u32 m6, .bool false] 25)).trans (h1.mono (by simp; omega)))
    clear h1
    go_wp2_with fail
    obtain ⟨W3, hW3⟩ : ∃ W3, W3 = setRow W.heap.size 0 [.int .u32 m0, .int .u8 m1, .int .u16 m2, .int .u16 m3, .int .u16 m4, .int .u16 m5, .int .u32 m6, .bool z] (w2.setCell ⟨W.heap.size + 1, 7, none⟩ (.bool z)) := ⟨_, rfl⟩
    have ha : ∀ k x, w2.cell? ⟨W.heap.size, k, none⟩ = some x → ((w2.setCell ⟨W.heap.size + 1, 7, none⟩ (.bool z)).cell? ⟨W.heap.size, k, none⟩).isSome = true := fun k x h => by
      rw [World.cell?_setCell_other _ _ _ _ (by simp), h]; rfl
    have hc8 : ∀ j u, [.int .u32 m0, .int .u8 m1, .int .u16 m2, .int .u16 m3, .int .u16 m4, .int .u16 m5, .int .u32 m6, .bool z][j]? = some u → W3.cell? ⟨W.heap.size, j, none⟩ = some u := fun j u hu => by
      rw [hW3]
      have := setRow_cell W.heap.size [.int .u32 m0, .int .u8 m1, .int .u16 m2, .int .u16 m3, .int .u16 m4, .int .u16 m5, .int .u32 m6, .bool z] 0 j u (w2.setCell ⟨W.heap.size + 1, 7, none⟩ (.bool z)) (fun j' hj' => by
        rw [Nat.zero_add]
        have : j' = 0 ∨ j' = 1 ∨ j' = 2 ∨ j' = 3 ∨ j' = 4 ∨ j' = 5 ∨ j' = 6 ∨ j' = 7 := by simp at hj'; omega
        rcases this with rfl | rfl | rfl | rfl | rfl | rfl | rfl | rfl <;> exact ha _ _ (by assumption)) hu
      rwa [Nat.zero_add] at this
    have hb3 : Below W.heap.size W W3 := by
      rw [hW3]
      exact ((((((((hb.out.setCell (by simp) _).setCell (by simp) _).setCell (by simp) _).setCell (by simp) _).setCell (by simp) _).setCell (by simp) _).setCell (by simp) _).setCell (by simp) _).setCell (by simp) _
    change bodyPost _ _ _ _ _ (setRow W.heap.size 0 [.int .u32 m0, .int .u8 m1, .int .u16 m2, .int .u16 m3, .int .u16 m4, .int .u16 m5, .int .u32 m6, .bool z] (w2.setCell ⟨W.heap.size + 1, 7, none⟩ (.bool z)))
    rw [← hW3]
    have r0 := hc8 0 _ rfl
    have r1 := hc8 1 _ rfl
    have r2 := hc8 2 _ rfl
    have r3 := hc8 3 _ rfl
    have r4 := hc8 4 _ rfl
    have r5 := hc8 5 _ rfl
    have r6 := hc8 6 _ rfl
    have r7 := hc8 7 _ rfl
    exact bodyPost_ret (v := .tuple #[.agg #[.int .u32 m0, .int .u8 m1, .int .u16 m2, .int .u16 m3, .int .u16 m4, .int .u16 m5, .int .u32 m6, .bool z], .bool true]) (by simp [results, Try.results80, go_sem, r0, r1, r2, r3, r4, r5, r6, r7]) rfl ⟨by rw [Bool.true_and], hb3⟩

end Go.Proofs.Ytpopfmboonjplaa
