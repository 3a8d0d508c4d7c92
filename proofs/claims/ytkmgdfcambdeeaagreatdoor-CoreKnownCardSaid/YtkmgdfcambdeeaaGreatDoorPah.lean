/- Contracts of caps' Of and its closure. No statement is proved here. -/
import Derived.Test.YtkmgdfcambdeeaaGreatDoorPaf
import Derived.Test.YtkmgdfcambdeeaaGreatDoorPag
namespace Go.Proofs.YtkmgdfcambdeeaaGreatDoor
open Go.RowKit
set_option linter.unusedVariables false

theorem ptake_any (bx r src : Nat) (l : List UInt8) (k : Int) (w : World) (hp : w.cell? ⟨bx, 0, none⟩ = some (.pointer (some ⟨r, 0, none⟩))) (h : Rd w r src l) :
    Calls Tryz.prog 164 #[.int .i64 k, .pointer (some ⟨bx, 0, none⟩)] w (ReadPost w r src (.int .u32 (numT l k : Nat)) (restN l k)) := by
  have hN := Lib.hid (Number_any r src l k w h)
  clear h
  go_enter Tryz.func164, Tryz.ntmps164
  go_wp2_with fail
  refine hN.out.mono ?_
  rintro e' w1 ⟨rfl, hr, hg⟩
  replace hr := Lib.hid hr
  replace hg := Lib.hid hg
  go_wp2_with fail
  go_ret
  exact ⟨rfl, hr.out, hg.out⟩

/-- What Of keeps between two calls of its closure. -/
structure OfAt (W : World) (bx r src : Nat) (l : List UInt8) (w : World) : Prop where
  pt : w.cell? ⟨bx, 0, none⟩ = some (.pointer (some ⟨r, 0, none⟩))
  rd : Rd w r src l
  bl : Below W.heap.size W w
  ze : CapAt w W.heap.size 0 0 0 0 0 0 0 false
  fz : ∀ k, w.frozen? ⟨W.heap.size, k, none⟩ = false
  n1 : W.heap.size < src
  n2 : src < bx
  n3 : bx < w.heap.size
theorem OfAt.step {W : World} {bx r src : Nat} {l l' : List UInt8} {w w' : World} (h : OfAt W bx r src l w) (hr : Rd w' r src l') (hg : w.grownBy w' (some src)) : OfAt W bx r src l' w' := by
  have n1 := h.n1
  have n2 := h.n2
  have n3 := h.n3
  have kc : ∀ b k, b ≠ src → b < w.heap.size → w'.cell? ⟨b, k, none⟩ = w.cell? ⟨b, k, none⟩ := fun b k hb hl => World.cell?_of_block (hg.block b hl (fun e => hb (by injection e with e)))
  have kf : ∀ k, w'.frozen? ⟨W.heap.size, k, none⟩ = w.frozen? ⟨W.heap.size, k, none⟩ := fun k => by
    have := hg.block W.heap.size (by omega) (fun e => by injection e with e; omega)
    simp only [World.frozen?, this]
  have z := h.ze
  refine ⟨(kc bx 0 (by omega) n3).trans h.pt, hr, h.bl.trans ((Below.refl _ _).grown hg (by omega) (fun k hk => by injection hk with hk; omega)), ?_, fun k => (kf k).trans (h.fz k), n1, n2, Nat.lt_of_lt_of_le n3 hg.size⟩
  exact ⟨(kc _ _ (by omega) (by omega)).trans z.q0, (kc _ _ (by omega) (by omega)).trans z.q1, (kc _ _ (by omega) (by omega)).trans z.q2, (kc _ _ (by omega) (by omega)).trans z.q3, (kc _ _ (by omega) (by omega)).trans z.q4, (kc _ _ (by omega) (by omega)).trans z.q5, (kc _ _ (by omega) (by omega)).trans z.q6, (kc _ _ (by omega) (by omega)).trans z.q7⟩
theorem nm_133 {l : List UInt8} (hl : l.length = 16) : nm l 13 3 = nm l 13 2 + nm l 15 1 * 65536 := by
  unfold nm
  rw [take_more (l := l) (a := 13) (j := 2) (by omega), le_snoc, List.length_take, List.length_drop, show min 2 (l.length - 13) = 2 from by omega, show (l.drop 15).take 1 = [l[15]] from by rw [List.drop_eq_getElem_cons (by omega)]; rfl]
  simp [le]
theorem or_three {m6 m7 : Nat} (h6 : m6 < 65536) (h7 : m7 < 256) : bits BinOp.or IntKind.u32 (m6 : Int) ((m7 : Int) * 65536) = ((m6 + m7 * 65536 : Nat) : Int) := by
  rw [show ((m7 : Int) * 65536) = ((m7 * 65536 : Nat) : Int) from by simp, u32_or_nat _ _ (by omega) (by omega), Nat.or_comm, show m7 * 65536 = m7 * 2 ^ 16 from rfl, or_add m7 m6 16 h6, Nat.add_comm]
theorem OfAt.first {W w1 : World} {r src : Nat} {l : List UInt8} (hr : Rd w1 r src l) (hb : Below (W.heap.size + 1) (W.alloc (.cells #[.int .u32 0, .int .u8 0, .int .u16 0, .int .u16 0, .int .u16 0, .int .u16 0, .int .u32 0, .bool false] 25)) w1) (h1 : W.heap.size + 1 ≤ src) :
    OfAt W w1.heap.size r src l (w1.alloc (.cells #[.pointer (some ⟨r, 0, none⟩)] 207)) := by
  have hlt := hr.lt
  have b1 : Below W.heap.size W w1 := ((Below.refl _ _).alloc (Nat.le_refl _) _).trans (hb.mono (by omega))
  have k0 : CapAt (W.alloc (.cells #[.int .u32 0, .int .u8 0, .int .u16 0, .int .u16 0, .int .u16 0, .int .u16 0, .int .u32 0, .bool false] 25)) W.heap.size 0 0 0 0 0 0 0 false := ⟨by simp [go_sem], by simp [go_sem], by simp [go_sem], by simp [go_sem], by simp [go_sem], by simp [go_sem], by simp [go_sem], by simp [go_sem]⟩
  have b2 : Below w1.heap.size w1 (w1.alloc (.cells #[.pointer (some ⟨r, 0, none⟩)] 207)) := (Below.refl _ _).alloc (Nat.le_refl _) _
  refine ⟨by simp [go_sem], hr.below b2, b1.trans (b2.mono (by omega)), (k0.below hb (by omega)).below b2 (by omega), fun k => ?_, by omega, by omega, by simp⟩
  refine (b2.frozen (p := ⟨W.heap.size, k, none⟩) (by show W.heap.size < _; omega)).trans ((hb.frozen (p := ⟨W.heap.size, k, none⟩) (by show W.heap.size < _; omega)).trans ?_)
  rw [World.frozen?_alloc_at (hn := rfl)]
theorem numT_nm {l : List UInt8} (hl : l.length = 16) {a k : Nat} (hk : isW (k : Nat) = true) (h : a + k ≤ 16) : numT (l.drop a) (k : Nat) = nm l a k ∧ restN (l.drop a) (k : Nat) = l.drop (a + k) := by
  have : okN (l.drop a).length (k : Nat) = true := by unfold okN; rw [hk]; simp; omega
  unfold numT restN nm
  rw [this, if_pos rfl, if_pos rfl, List.drop_drop]
  exact ⟨rfl, rfl⟩
theorem OfAt.take {W : World} {bx r src : Nat} {l : List UInt8} {a : Nat} {w : World} (k : Nat) (h : OfAt W bx r src (l.drop a) w) (hl : l.length = 16) (hk : isW (k : Nat) = true) (ha : a + k ≤ 16) :
    Calls Tryz.prog 164 #[.int .i64 (k : Nat), .pointer (some ⟨bx, 0, none⟩)] w fun e w' => e = .returned (.int .u32 (nm l a k : Nat)) ∧ OfAt W bx r src (l.drop (a + k)) w' :=
  (ptake_any bx r src (l.drop a) k w h.pt h.rd).mono fun e w' ⟨h1, h2, h3⟩ => by
    obtain ⟨e1, e2⟩ := numT_nm hl hk ha
    rw [e1] at h1
    rw [e2] at h2
    exact ⟨h1, h.step h2 h3⟩

set_option maxHeartbeats 4000000 in
theorem pOf_yes (l : List UInt8) (va : Bool) (hl : l.length = 16) (W : World) : Calls Tryz.prog 121 #[.string ⟨l.toArray⟩, .bool va] W fun ee w' => ee = .returned (.tuple #[.agg #[.int .u32 (nm l 0 4), .int .u8 (nm l 4 1), .int .u16 (nm l 5 2), .int .u16 (nm l 7 2), .int .u16 (nm l 9 2), .int .u16 (nm l 11 2), .int .u32 (nm l 13 3), .bool (va && sndP (nm l 4 1) (nm l 5 2) (nm l 7 2) (nm l 9 2) (nm l 11 2) (nm l 13 3))], .bool true]) ∧ Below W.heap.size W w' := by
  have hmf : ∀ (fn : Fn) (first cap : Array Value) (w : World), (Instr.makeFunc fn first cap).run Tryz.prog w = .ok (.func fn first cap) w := fun _ _ _ _ => rfl
  have h16 : (l.length : Int) = 16 := by omega
  have hN := Lib.hid (fun w => New_any l w (by omega))
  have t0 := Lib.hid (fun bx r src w (h : OfAt W bx r src (l.drop 0) w) => h.take 4 hl rfl (by omega))
  have t1 := Lib.hid (fun bx r src w (h : OfAt W bx r src (l.drop (0 + 4)) w) => h.take 1 hl rfl (by omega))
  have t2 := Lib.hid (fun bx r src w (h : OfAt W bx r src (l.drop (0 + 4 + 1)) w) => h.take 2 hl rfl (by omega))
  have t3 := Lib.hid (fun bx r src w (h : OfAt W bx r src (l.drop (0 + 4 + 1 + 2)) w) => h.take 2 hl rfl (by omega))
  have t4 := Lib.hid (fun bx r src w (h : OfAt W bx r src (l.drop (0 + 4 + 1 + 2 + 2)) w) => h.take 2 hl rfl (by omega))
  have t5 := Lib.hid (fun bx r src w (h : OfAt W bx r src (l.drop (0 + 4 + 1 + 2 + 2 + 2)) w) => h.take 2 hl rfl (by omega))
  have t6 := Lib.hid (fun bx r src w (h : OfAt W bx r src (l.drop (0 + 4 + 1 + 2 + 2 + 2 + 2)) w) => h.take 2 hl rfl (by omega))
  have t7 := Lib.hid (fun bx r src w (h : OfAt W bx r src (l.drop (0 + 4 + 1 + 2 + 2 + 2 + 2 + 2)) w) => h.take 1 hl rfl (by omega))
  have hor := or_three (nm_lt l 13 2) (nm_lt l 15 1)
  rw [← nm_133 hl] at hor
  have n8 := nm_lt l 13 3
  have n0 := nm_lt l 0 4
  have n1 := nm_lt l 4 1
  have n2 := nm_lt l 5 2
  have n3 := nm_lt l 7 2
  have n4 := nm_lt l 9 2
  have n5 := nm_lt l 11 2
  have n6 := nm_lt l 13 2
  have n7 := nm_lt l 15 1
  simp only [Nat.reducePow, Nat.reduceAdd] at n0 n1 n2 n3 n4 n5 n6 n7 n8 t0 t1 t2 t3 t4 t5 t6 t7
  have hS := Lib.hid (fun w => pSound_any (nm l 0 4) (nm l 4 1) (nm l 5 2) (nm l 7 2) (nm l 9 2) (nm l 11 2) (nm l 13 3) false n0 n1 n2 n3 n4 n5 (Nat.lt_of_lt_of_le n8 (by omega)) w)
  generalize sndP (nm l 4 1) (nm l 5 2) (nm l 7 2) (nm l 9 2) (nm l 11 2) (nm l 13 3) = z at *
  generalize nm l 0 4 = m0 at *
  generalize nm l 4 1 = m1 at *
  generalize nm l 5 2 = m2 at *
  generalize nm l 7 2 = m3 at *
  generalize nm l 9 2 = m4 at *
  generalize nm l 11 2 = m5 at *
  generalize nm l 13 2 = m6 at *
  generalize nm l 15 1 = m7 at *
  generalize nm l 13 3 = m8 at *
  clear hl
  cases va
  · go_enter Tryz.func121, Tryz.ntmps121
    go_wp2_with fail
    refine (hN.out _).mono ?_
    rintro e w1 ⟨r, src, rfl, hr, hb, h1, h2⟩
    have H0 : OfAt W w1.heap.size r src (l.drop 0) (w1.alloc (.cells #[.pointer (some ⟨r, 0, none⟩)] 207)) := OfAt.first hr (by simpa using hb) (by simpa using h1)
    clear hr hb h1 h2
    replace H0 := Lib.hid H0
    go_wp2_with fail
    generalize w1.alloc (.cells #[.pointer (some ⟨r, 0, none⟩)] 207) = W0 at *
    refine (t0.out w1.heap.size r src W0 H0.out).mono ?_
    rintro e V1 ⟨rfl, H1⟩
    replace H1 := Lib.hid H1
    go_wp2_with fail
    refine (t1.out w1.heap.size r src V1 H1.out).mono ?_
    rintro e V2 ⟨rfl, H2⟩
    replace H2 := Lib.hid H2
    go_wp2_with fail
    refine (t2.out w1.heap.size r src V2 H2.out).mono ?_
    rintro e V3 ⟨rfl, H3⟩
    replace H3 := Lib.hid H3
    go_wp2_with fail
    refine (t3.out w1.heap.size r src V3 H3.out).mono ?_
    rintro e V4 ⟨rfl, H4⟩
    replace H4 := Lib.hid H4
    go_wp2_with fail
    refine (t4.out w1.heap.size r src V4 H4.out).mono ?_
    rintro e V5 ⟨rfl, H5⟩
    replace H5 := Lib.hid H5
    go_wp2_with fail
    refine (t5.out w1.heap.size r src V5 H5.out).mono ?_
    rintro e V6 ⟨rfl, H6⟩
    replace H6 := Lib.hid H6
    go_wp2_with fail
    refine (t6.out w1.heap.size r src V6 H6.out).mono ?_
    rintro e V7 ⟨rfl, H7⟩
    replace H7 := Lib.hid H7
    go_wp2_with fail
    refine (t7.out w1.heap.size r src V7 H7.out).mono ?_
    rintro e V8 ⟨rfl, H8⟩
    have hV := H8.n3
    have hs1 := H8.n1
    have hs2 := H8.n2
    have hb8 := H8.bl
    have z8 := H8.ze
    have hf8 := H8.fz
    have hlt : W.heap.size < V8.heap.size := by omega
    clear H8 hV hs1 hs2
    have b9 : Below V8.heap.size V8 (V8.alloc (.cells #[.int .u32 m0, .int .u8 m1, .int .u16 m2, .int .u16 m3, .int .u16 m4, .int .u16 m5, .int .u32 m8, .bool false] 25)) := (Below.refl _ _).alloc (Nat.le_refl _) _
    have p0 : (V8.alloc (.cells #[.int .u32 m0, .int .u8 m1, .int .u16 m2, .int .u16 m3, .int .u16 m4, .int .u16 m5, .int .u32 m8, .bool false] 25)).cell? ⟨W.heap.size, 0, none⟩ = some (.int .u32 0) := (b9.cell (by show W.heap.size < _; omega)).trans z8.q0
    have f0 : (V8.alloc (.cells #[.int .u32 m0, .int .u8 m1, .int .u16 m2, .int .u16 m3, .int .u16 m4, .int .u16 m5, .int .u32 m8, .bool false] 25)).frozen? ⟨W.heap.size, 0, none⟩ = false := (b9.frozen (by show W.heap.size < _; omega)).trans (hf8 0)
    have p1 : (V8.alloc (.cells #[.int .u32 m0, .int .u8 m1, .int .u16 m2, .int .u16 m3, .int .u16 m4, .int .u16 m5, .int .u32 m8, .bool false] 25)).cell? ⟨W.heap.size, 1, none⟩ = some (.int .u8 0) := (b9.cell (by show W.heap.size < _; omega)).trans z8.q1
    have f1 : (V8.alloc (.cells #[.int .u32 m0, .int .u8 m1, .int .u16 m2, .int .u16 m3, .int .u16 m4, .int .u16 m5, .int .u32 m8, .bool false] 25)).frozen? ⟨W.heap.size, 1, none⟩ = false := (b9.frozen (by show W.heap.size < _; omega)).trans (hf8 1)
    have p2 : (V8.alloc (.cells #[.int .u32 m0, .int .u8 m1, .int .u16 m2, .int .u16 m3, .int .u16 m4, .int .u16 m5, .int .u32 m8, .bool false] 25)).cell? ⟨W.heap.size, 2, none⟩ = some (.int .u16 0) := (b9.cell (by show W.heap.size < _; omega)).trans z8.q2
    have f2 : (V8.alloc (.cells #[.int .u32 m0, .int .u8 m1, .int .u16 m2, .int .u16 m3, .int .u16 m4, .int .u16 m5, .int .u32 m8, .bool false] 25)).frozen? ⟨W.heap.size, 2, none⟩ = false := (b9.frozen (by show W.heap.size < _; omega)).trans (hf8 2)
    have p3 : (V8.alloc (.cells #[.int .u32 m0, .int .u8 m1, .int .u16 m2, .int .u16 m3, .int .u16 m4, .int .u16 m5, .int .u32 m8, .bool false] 25)).cell? ⟨W.heap.size, 3, none⟩ = some (.int .u16 0) := (b9.cell (by show W.heap.size < _; omega)).trans z8.q3
    have f3 : (V8.alloc (.cells #[.int .u32 m0, .int .u8 m1, .int .u16 m2, .int .u16 m3, .int .u16 m4, .int .u16 m5, .int .u32 m8, .bool false] 25)).frozen? ⟨W.heap.size, 3, none⟩ = false := (b9.frozen (by show W.heap.size < _; omega)).trans (hf8 3)
    have p4 : (V8.alloc (.cells #[.int .u32 m0, .int .u8 m1, .int .u16 m2, .int .u16 m3, .int .u16 m4, .int .u16 m5, .int .u32 m8, .bool false] 25)).cell? ⟨W.heap.size, 4, none⟩ = some (.int .u16 0) := (b9.cell (by show W.heap.size < _; omega)).trans z8.q4
    have f4 : (V8.alloc (.cells #[.int .u32 m0, .int .u8 m1, .int .u16 m2, .int .u16 m3, .int .u16 m4, .int .u16 m5, .int .u32 m8, .bool false] 25)).frozen? ⟨W.heap.size, 4, none⟩ = false := (b9.frozen (by show W.heap.size < _; omega)).trans (hf8 4)
    have p5 : (V8.alloc (.cells #[.int .u32 m0, .int .u8 m1, .int .u16 m2, .int .u16 m3, .int .u16 m4, .int .u16 m5, .int .u32 m8, .bool false] 25)).cell? ⟨W.heap.size, 5, none⟩ = some (.int .u16 0) := (b9.cell (by show W.heap.size < _; omega)).trans z8.q5
    have f5 : (V8.alloc (.cells #[.int .u32 m0, .int .u8 m1, .int .u16 m2, .int .u16 m3, .int .u16 m4, .int .u16 m5, .int .u32 m8, .bool false] 25)).frozen? ⟨W.heap.size, 5, none⟩ = false := (b9.frozen (by show W.heap.size < _; omega)).trans (hf8 5)
    have p6 : (V8.alloc (.cells #[.int .u32 m0, .int .u8 m1, .int .u16 m2, .int .u16 m3, .int .u16 m4, .int .u16 m5, .int .u32 m8, .bool false] 25)).cell? ⟨W.heap.size, 6, none⟩ = some (.int .u32 0) := (b9.cell (by show W.heap.size < _; omega)).trans z8.q6
    have f6 : (V8.alloc (.cells #[.int .u32 m0, .int .u8 m1, .int .u16 m2, .int .u16 m3, .int .u16 m4, .int .u16 m5, .int .u32 m8, .bool false] 25)).frozen? ⟨W.heap.size, 6, none⟩ = false := (b9.frozen (by show W.heap.size < _; omega)).trans (hf8 6)
    have p7 : (V8.alloc (.cells #[.int .u32 m0, .int .u8 m1, .int .u16 m2, .int .u16 m3, .int .u16 m4, .int .u16 m5, .int .u32 m8, .bool false] 25)).cell? ⟨W.heap.size, 7, none⟩ = some (.bool false) := (b9.cell (by show W.heap.size < _; omega)).trans z8.q7
    have f7 : (V8.alloc (.cells #[.int .u32 m0, .int .u8 m1, .int .u16 m2, .int .u16 m3, .int .u16 m4, .int .u16 m5, .int .u32 m8, .bool false] 25)).frozen? ⟨W.heap.size, 7, none⟩ = false := (b9.frozen (by show W.heap.size < _; omega)).trans (hf8 7)
    have hb9 := Lib.hid (hb8.trans (b9.mono (by omega)))
    replace b9 := Lib.hid b9
    replace z8 := Lib.hid z8
    replace hf8 := Lib.hid hf8
    replace hb8 := Lib.hid hb8
    go_upto_region 7 with (fail)
    have q0 : (V8.alloc (.cells #[.int .u32 m0, .int .u8 m1, .int .u16 m2, .int .u16 m3, .int .u16 m4, .int .u16 m5, .int .u32 m8, .bool false] 25)).cell? ⟨V8.heap.size, 0, none⟩ = some (.int .u32 m0) := by simp [go_sem]
    have q1 : (V8.alloc (.cells #[.int .u32 m0, .int .u8 m1, .int .u16 m2, .int .u16 m3, .int .u16 m4, .int .u16 m5, .int .u32 m8, .bool false] 25)).cell? ⟨V8.heap.size, 1, none⟩ = some (.int .u8 m1) := by simp [go_sem]
    have q2 : (V8.alloc (.cells #[.int .u32 m0, .int .u8 m1, .int .u16 m2, .int .u16 m3, .int .u16 m4, .int .u16 m5, .int .u32 m8, .bool false] 25)).cell? ⟨V8.heap.size, 2, none⟩ = some (.int .u16 m2) := by simp [go_sem]
    have q3 : (V8.alloc (.cells #[.int .u32 m0, .int .u8 m1, .int .u16 m2, .int .u16 m3, .int .u16 m4, .int .u16 m5, .int .u32 m8, .bool false] 25)).cell? ⟨V8.heap.size, 3, none⟩ = some (.int .u16 m3) := by simp [go_sem]
    have q4 : (V8.alloc (.cells #[.int .u32 m0, .int .u8 m1, .int .u16 m2, .int .u16 m3, .int .u16 m4, .int .u16 m5, .int .u32 m8, .bool false] 25)).cell? ⟨V8.heap.size, 4, none⟩ = some (.int .u16 m4) := by simp [go_sem]
    have q5 : (V8.alloc (.cells #[.int .u32 m0, .int .u8 m1, .int .u16 m2, .int .u16 m3, .int .u16 m4, .int .u16 m5, .int .u32 m8, .bool false] 25)).cell? ⟨V8.heap.size, 5, none⟩ = some (.int .u16 m5) := by simp [go_sem]
    have q6 : (V8.alloc (.cells #[.int .u32 m0, .int .u8 m1, .int .u16 m2, .int .u16 m3, .int .u16 m4, .int .u16 m5, .int .u32 m8, .bool false] 25)).cell? ⟨V8.heap.size, 6, none⟩ = some (.int .u32 m8) := by simp [go_sem]
    have q7 : (V8.alloc (.cells #[.int .u32 m0, .int .u8 m1, .int .u16 m2, .int .u16 m3, .int .u16 m4, .int .u16 m5, .int .u32 m8, .bool false] 25)).cell? ⟨V8.heap.size, 7, none⟩ = some (.bool false) := by simp [go_sem]
    generalize (V8.alloc (.cells #[.int .u32 m0, .int .u8 m1, .int .u16 m2, .int .u16 m3, .int .u16 m4, .int .u16 m5, .int .u32 m8, .bool false] 25)) = X at *
    go_wp2_with fail
    have ha : ∀ k x, X.cell? ⟨W.heap.size, k, none⟩ = some x → (X.cell? ⟨W.heap.size, k, none⟩).isSome = true := fun k x h => by rw [h]; rfl
    have hbb := hb9.out
    obtain ⟨W3, hW3⟩ : ∃ W3, W3 = setRow W.heap.size 0 [.int .u32 m0, .int .u8 m1, .int .u16 m2, .int .u16 m3, .int .u16 m4, .int .u16 m5, .int .u32 m8, .bool false] (X) := ⟨_, rfl⟩
    have hc8 : ∀ j u, [.int .u32 m0, .int .u8 m1, .int .u16 m2, .int .u16 m3, .int .u16 m4, .int .u16 m5, .int .u32 m8, .bool false][j]? = some u → W3.cell? ⟨W.heap.size, j, none⟩ = some u := fun j u hu => by
      rw [hW3]
      have := setRow_cell W.heap.size [.int .u32 m0, .int .u8 m1, .int .u16 m2, .int .u16 m3, .int .u16 m4, .int .u16 m5, .int .u32 m8, .bool false] 0 j u (X) (fun j' hj' => by
        rw [Nat.zero_add]
        have : j' = 0 ∨ j' = 1 ∨ j' = 2 ∨ j' = 3 ∨ j' = 4 ∨ j' = 5 ∨ j' = 6 ∨ j' = 7 := by simp at hj'; omega
        rcases this with rfl | rfl | rfl | rfl | rfl | rfl | rfl | rfl <;> exact ha _ _ (by assumption)) hu
      rwa [Nat.zero_add] at this
    have hb3 : Below W.heap.size W W3 := by
      rw [hW3]
      exact (((((((hbb.setCell (by simp) _).setCell (by simp) _).setCell (by simp) _).setCell (by simp) _).setCell (by simp) _).setCell (by simp) _).setCell (by simp) _).setCell (by simp) _
    change bodyPost _ _ _ _ _ (setRow W.heap.size 0 [.int .u32 m0, .int .u8 m1, .int .u16 m2, .int .u16 m3, .int .u16 m4, .int .u16 m5, .int .u32 m8, .bool false] (X))
    rw [← hW3]
    have r0 := hc8 0 _ rfl
    have r1 := hc8 1 _ rfl
    have r2 := hc8 2 _ rfl
    have r3 := hc8 3 _ rfl
    have r4 := hc8 4 _ rfl
    have r5 := hc8 5 _ rfl
    have r6 := hc8 6 _ rfl
    have r7 := hc8 7 _ rfl
    exact bodyPost_ret (v := .tuple #[.agg #[.int .u32 m0, .int .u8 m1, .int .u16 m2, .int .u16 m3, .int .u16 m4, .int .u16 m5, .int .u32 m8, .bool false], .bool true]) (by simp [results, Tryz.results121, go_sem, r0, r1, r2, r3, r4, r5, r6, r7]) rfl ⟨by rfl, hb3⟩
  · go_enter Tryz.func121, Tryz.ntmps121
    go_wp2_with fail
    refine (hN.out _).mono ?_
    rintro e w1 ⟨r, src, rfl, hr, hb, h1, h2⟩
    have H0 : OfAt W w1.heap.size r src (l.drop 0) (w1.alloc (.cells #[.pointer (some ⟨r, 0, none⟩)] 207)) := OfAt.first hr (by simpa using hb) (by simpa using h1)
    clear hr hb h1 h2
    replace H0 := Lib.hid H0
    go_wp2_with fail
    generalize w1.alloc (.cells #[.pointer (some ⟨r, 0, none⟩)] 207) = W0 at *
    refine (t0.out w1.heap.size r src W0 H0.out).mono ?_
    rintro e V1 ⟨rfl, H1⟩
    replace H1 := Lib.hid H1
    go_wp2_with fail
    refine (t1.out w1.heap.size r src V1 H1.out).mono ?_
    rintro e V2 ⟨rfl, H2⟩
    replace H2 := Lib.hid H2
    go_wp2_with fail
    refine (t2.out w1.heap.size r src V2 H2.out).mono ?_
    rintro e V3 ⟨rfl, H3⟩
    replace H3 := Lib.hid H3
    go_wp2_with fail
    refine (t3.out w1.heap.size r src V3 H3.out).mono ?_
    rintro e V4 ⟨rfl, H4⟩
    replace H4 := Lib.hid H4
    go_wp2_with fail
    refine (t4.out w1.heap.size r src V4 H4.out).mono ?_
    rintro e V5 ⟨rfl, H5⟩
    replace H5 := Lib.hid H5
    go_wp2_with fail
    refine (t5.out w1.heap.size r src V5 H5.out).mono ?_
    rintro e V6 ⟨rfl, H6⟩
    replace H6 := Lib.hid H6
    go_wp2_with fail
    refine (t6.out w1.heap.size r src V6 H6.out).mono ?_
    rintro e V7 ⟨rfl, H7⟩
    replace H7 := Lib.hid H7
    go_wp2_with fail
    refine (t7.out w1.heap.size r src V7 H7.out).mono ?_
    rintro e V8 ⟨rfl, H8⟩
    have hV := H8.n3
    have hs1 := H8.n1
    have hs2 := H8.n2
    have hb8 := H8.bl
    have z8 := H8.ze
    have hf8 := H8.fz
    have hlt : W.heap.size < V8.heap.size := by omega
    clear H8 hV hs1 hs2
    replace z8 := Lib.hid z8
    replace hf8 := Lib.hid hf8
    replace hb8 := Lib.hid hb8
    go_wp2_with fail
    refine (hS.out _).mono ?_
    rintro e X ⟨rfl, h1⟩
    have b9 : Below V8.heap.size V8 (V8.alloc (.cells #[.int .u32 m0, .int .u8 m1, .int .u16 m2, .int .u16 m3, .int .u16 m4, .int .u16 m5, .int .u32 m8, .bool false] 25)) := (Below.refl _ _).alloc (Nat.le_refl _) _
    have h1' : Below V8.heap.size V8 X := b9.trans (h1.mono b9.size)
    have p0 : X.cell? ⟨W.heap.size, 0, none⟩ = some (.int .u32 0) := (h1'.cell (by show W.heap.size < _; omega)).trans z8.out.q0
    have f0 : X.frozen? ⟨W.heap.size, 0, none⟩ = false := (h1'.frozen (by show W.heap.size < _; omega)).trans (hf8.out 0)
    have p1 : X.cell? ⟨W.heap.size, 1, none⟩ = some (.int .u8 0) := (h1'.cell (by show W.heap.size < _; omega)).trans z8.out.q1
    have f1 : X.frozen? ⟨W.heap.size, 1, none⟩ = false := (h1'.frozen (by show W.heap.size < _; omega)).trans (hf8.out 1)
    have p2 : X.cell? ⟨W.heap.size, 2, none⟩ = some (.int .u16 0) := (h1'.cell (by show W.heap.size < _; omega)).trans z8.out.q2
    have f2 : X.frozen? ⟨W.heap.size, 2, none⟩ = false := (h1'.frozen (by show W.heap.size < _; omega)).trans (hf8.out 2)
    have p3 : X.cell? ⟨W.heap.size, 3, none⟩ = some (.int .u16 0) := (h1'.cell (by show W.heap.size < _; omega)).trans z8.out.q3
    have f3 : X.frozen? ⟨W.heap.size, 3, none⟩ = false := (h1'.frozen (by show W.heap.size < _; omega)).trans (hf8.out 3)
    have p4 : X.cell? ⟨W.heap.size, 4, none⟩ = some (.int .u16 0) := (h1'.cell (by show W.heap.size < _; omega)).trans z8.out.q4
    have f4 : X.frozen? ⟨W.heap.size, 4, none⟩ = false := (h1'.frozen (by show W.heap.size < _; omega)).trans (hf8.out 4)
    have p5 : X.cell? ⟨W.heap.size, 5, none⟩ = some (.int .u16 0) := (h1'.cell (by show W.heap.size < _; omega)).trans z8.out.q5
    have f5 : X.frozen? ⟨W.heap.size, 5, none⟩ = false := (h1'.frozen (by show W.heap.size < _; omega)).trans (hf8.out 5)
    have p6 : X.cell? ⟨W.heap.size, 6, none⟩ = some (.int .u32 0) := (h1'.cell (by show W.heap.size < _; omega)).trans z8.out.q6
    have f6 : X.frozen? ⟨W.heap.size, 6, none⟩ = false := (h1'.frozen (by show W.heap.size < _; omega)).trans (hf8.out 6)
    have p7 : X.cell? ⟨W.heap.size, 7, none⟩ = some (.bool false) := (h1'.cell (by show W.heap.size < _; omega)).trans z8.out.q7
    have f7 : X.frozen? ⟨W.heap.size, 7, none⟩ = false := (h1'.frozen (by show W.heap.size < _; omega)).trans (hf8.out 7)
    have q0 : X.cell? ⟨V8.heap.size, 0, none⟩ = some (.int .u32 m0) := (h1.cell (by simp)).trans (by simp [go_sem])
    have q1 : X.cell? ⟨V8.heap.size, 1, none⟩ = some (.int .u8 m1) := (h1.cell (by simp)).trans (by simp [go_sem])
    have q2 : X.cell? ⟨V8.heap.size, 2, none⟩ = some (.int .u16 m2) := (h1.cell (by simp)).trans (by simp [go_sem])
    have q3 : X.cell? ⟨V8.heap.size, 3, none⟩ = some (.int .u16 m3) := (h1.cell (by simp)).trans (by simp [go_sem])
    have q4 : X.cell? ⟨V8.heap.size, 4, none⟩ = some (.int .u16 m4) := (h1.cell (by simp)).trans (by simp [go_sem])
    have q5 : X.cell? ⟨V8.heap.size, 5, none⟩ = some (.int .u16 m5) := (h1.cell (by simp)).trans (by simp [go_sem])
    have q6 : X.cell? ⟨V8.heap.size, 6, none⟩ = some (.int .u32 m8) := (h1.cell (by simp)).trans (by simp [go_sem])
    have q7 : X.cell? ⟨V8.heap.size, 7, none⟩ = some (.bool false) := (h1.cell (by simp)).trans (by simp [go_sem])
    have g7 : X.frozen? ⟨V8.heap.size, 7, none⟩ = false := (h1.frozen (by simp)).trans (by simp [go_sem])
    have hb9 := Lib.hid (hb8.out.trans (h1'.mono (by omega)))
    clear h1 h1' b9
    go_wp2_with fail
    have ha : ∀ k x, X.cell? ⟨W.heap.size, k, none⟩ = some x → ((X.setCell ⟨V8.heap.size, 7, none⟩ (.bool z)).cell? ⟨W.heap.size, k, none⟩).isSome = true := fun k x h => by
      rw [World.cell?_setCell_other _ _ _ _ (by simp <;> omega), h]; rfl
    have hbb := hb9.out.setCell (p := ⟨V8.heap.size, 7, none⟩) (Nat.le_of_lt hlt) (.bool z)
    obtain ⟨W3, hW3⟩ : ∃ W3, W3 = setRow W.heap.size 0 [.int .u32 m0, .int .u8 m1, .int .u16 m2, .int .u16 m3, .int .u16 m4, .int .u16 m5, .int .u32 m8, .bool z] ((X.setCell ⟨V8.heap.size, 7, none⟩ (.bool z))) := ⟨_, rfl⟩
    have hc8 : ∀ j u, [.int .u32 m0, .int .u8 m1, .int .u16 m2, .int .u16 m3, .int .u16 m4, .int .u16 m5, .int .u32 m8, .bool z][j]? = some u → W3.cell? ⟨W.heap.size, j, none⟩ = some u := fun j u hu => by
      rw [hW3]
      have := setRow_cell W.heap.size [.int .u32 m0, .int .u8 m1, .int .u16 m2, .int .u16 m3, .int .u16 m4, .int .u16 m5, .int .u32 m8, .bool z] 0 j u ((X.setCell ⟨V8.heap.size, 7, none⟩ (.bool z))) (fun j' hj' => by
        rw [Nat.zero_add]
        have : j' = 0 ∨ j' = 1 ∨ j' = 2 ∨ j' = 3 ∨ j' = 4 ∨ j' = 5 ∨ j' = 6 ∨ j' = 7 := by simp at hj'; omega
        rcases this with rfl | rfl | rfl | rfl | rfl | rfl | rfl | rfl <;> exact ha _ _ (by assumption)) hu
      rwa [Nat.zero_add] at this
    have hb3 : Below W.heap.size W W3 := by
      rw [hW3]
      exact (((((((hbb.setCell (by simp) _).setCell (by simp) _).setCell (by simp) _).setCell (by simp) _).setCell (by simp) _).setCell (by simp) _).setCell (by simp) _).setCell (by simp) _
    change bodyPost _ _ _ _ _ (setRow W.heap.size 0 [.int .u32 m0, .int .u8 m1, .int .u16 m2, .int .u16 m3, .int .u16 m4, .int .u16 m5, .int .u32 m8, .bool z] ((X.setCell ⟨V8.heap.size, 7, none⟩ (.bool z))))
    rw [← hW3]
    have r0 := hc8 0 _ rfl
    have r1 := hc8 1 _ rfl
    have r2 := hc8 2 _ rfl
    have r3 := hc8 3 _ rfl
    have r4 := hc8 4 _ rfl
    have r5 := hc8 5 _ rfl
    have r6 := hc8 6 _ rfl
    have r7 := hc8 7 _ rfl
    exact bodyPost_ret (v := .tuple #[.agg #[.int .u32 m0, .int .u8 m1, .int .u16 m2, .int .u16 m3, .int .u16 m4, .int .u16 m5, .int .u32 m8, .bool z], .bool true]) (by simp [results, Tryz.results121, go_sem, r0, r1, r2, r3, r4, r5, r6, r7]) rfl ⟨by rw [Bool.true_and], hb3⟩
end Go.Proofs.YtkmgdfcambdeeaaGreatDoor
