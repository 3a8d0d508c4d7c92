/- Proved: the chapter's examples of octet hold (OctetKnown), a closed statement. -/
import Derived.Test.YtedhpjolbgfdeaaRows
import Derived.Test.YtedhpjolbgfdeaaOctR
import Derived.ProofKit
import Derived.OpenShut
import Derived.ShutString
import Derived.ChangeOld
namespace Go.Proofs.Ytedhpjolbgfdeaa.known
open Go.ChangeShapes Go.WideShapes Go.ChangeAt Go.RowKit
open Go.ChangeMaps (open_string shut_string)
set_option linter.unusedVariables false

theorem put_is (l r : List UInt8) (k : Int) (v : Nat) (w : World) (hl : l.length ≤ 8) (hv : v < 4294967296) (h : putB l k v = r) :
    Calls Try.prog 10 #[.string ⟨l.toArray⟩, .int .i64 k, .int .u32 v] w fun e w' => e = .returned (.string ⟨r.toArray⟩) ∧ Below w.heap.size w w' := by
  subst h
  exact put_any l k v w (by omega) hv

def tabA : Nat → Int
  | 0 => 1 | 1 => 1 | 2 => 4 | 3 => 2 | 4 => -1 | 5 => 0 | 6 => 5 | 7 => 9223372036854775807 | _ => -9223372036854775808
def tabK : Nat → Int
  | 0 => 2 | 1 => 4 | 2 => 1 | 3 => 4 | 4 => 1 | 5 => 3 | 6 => 1 | 7 => 4 | _ => 4
def tabV : Nat → Nat
  | 0 => 770 | 1 => 84148994 | 2 => 5 | _ => 0
theorem tab_ok (j : Nat) (h : j < 9) : getB [1, 2, 3, 4, 5] (tabA j) (tabK j) = tabV j ∧ inB 5 (tabA j) (tabK j) = decide ((j : Int) < 3) := by
  have : j = 0 ∨ j = 1 ∨ j = 2 ∨ j = 3 ∨ j = 4 ∨ j = 5 ∨ j = 6 ∨ j = 7 ∨ j = 8 := by omega
  rcases this with rfl | rfl | rfl | rfl | rfl | rfl | rfl | rfl | rfl <;> exact ⟨by decide, by decide⟩
theorem get_is (j : Nat) (h : j < 9) (b cap : Nat) (w : World) (hcap : 5 ≤ cap) (hh : Has w b 0 [1, 2, 3, 4, 5]) :
    Calls Try.prog 13 #[.slice (some ⟨b, 0, none⟩) 5 cap, .int .i64 (tabA j), .int .i64 (tabK j)] w fun e w' => e = .returned (.tuple #[.int .u32 (tabV j : Nat), .bool (decide ((j : Int) < 3))]) ∧ ∃ n, w.drewN n = w' := by
  have hg := get_any (some ⟨b, 0, none⟩) [1, 2, 3, 4, 5] (b + 1) cap (tabA j) (tabK j) w (fun _ => ⟨b, 0, rfl, by omega, fun j u hu => (hh j u hu).1⟩) (by simp) hcap (by unfold tabA; split <;> omega)
  rw [(tab_ok j h).1] at hg
  have e : ([1, 2, 3, 4, 5] : List UInt8).length = 5 := rfl
  rw [e, (tab_ok j h).2] at hg
  exact hg

def cells27 : Array Value := #[.int .i64 1, .int .i64 2, .int .u32 770, .int .i64 1, .int .i64 4, .int .u32 84148994, .int .i64 4, .int .i64 1, .int .u32 5, .int .i64 2, .int .i64 4, .int .u32 0, .int .i64 (-1), .int .i64 1, .int .u32 0, .int .i64 0, .int .i64 3, .int .u32 0, .int .i64 5, .int .i64 1, .int .u32 0, .int .i64 9223372036854775807, .int .i64 4, .int .u32 0, .int .i64 (-9223372036854775808), .int .i64 4, .int .u32 0]
theorem cells27_at (j : Nat) (h : j < 9) : cells27[j * 3]? = some (.int .i64 (tabA j)) ∧ cells27[j * 3 + 1]? = some (.int .i64 (tabK j)) ∧ cells27[j * 3 + 2]? = some (.int .u32 (tabV j : Nat)) := by
  have : j = 0 ∨ j = 1 ∨ j = 2 ∨ j = 3 ∨ j = 4 ∨ j = 5 ∨ j = 6 ∨ j = 7 ∨ j = 8 := by omega
  rcases this with rfl | rfl | rfl | rfl | rfl | rfl | rfl | rfl | rfl <;> exact ⟨rfl, rfl, rfl⟩

/-- What holds at each round: the five bytes, and the nine places, lie where they were laid. -/
def Inv (W : World) (b : Nat) (wr : World) : Prop :=
  Below W.heap.size W wr ∧ Has wr b 0 [1, 2, 3, 4, 5] ∧ wr.heap[b + 1]? = some (.cells cells27 32 (0, 0)) ∧ W.heap.size ≤ b
theorem lt_of_at2 {w : World} {b : Nat} (h : Has w b 0 [1, 2, 3, 4, 5]) : b < w.heap.size := by
  have := (h 0 1 rfl).1
  rcases Nat.lt_or_ge b w.heap.size with hlt | hge
  · exact hlt
  · simp [World.cell?, Array.getElem?_eq_none hge] at this
theorem inv_start {W w : World} (h : Below W.heap.size W w) :
    Inv W w.heap.size ((w.alloc (.cells #[.int .u8 1, .int .u8 2, .int .u8 3, .int .u8 4, .int .u8 5] 5)).alloc (.cells cells27 32)) := by
  have hs : (w.alloc (.cells #[.int .u8 1, .int .u8 2, .int .u8 3, .int .u8 4, .int .u8 5] 5)).heap.size = w.heap.size + 1 := by simp
  have hn : (w.alloc (.cells #[.int .u8 1, .int .u8 2, .int .u8 3, .int .u8 4, .int .u8 5] 5)).heap[w.heap.size]? = some (.cells #[.int .u8 1, .int .u8 2, .int .u8 3, .int .u8 4, .int .u8 5] 5 (0, 0)) := heap_alloc_new w _
  have hn2 := (Below.heap_alloc _ (.cells cells27 32) w.heap.size (by rw [hs]; omega)).trans hn
  refine ⟨(h.alloc h.size _).alloc (by rw [hs]; have := h.size; omega) _, fun j u hu => ⟨?_, free_at hn2 _⟩, ?_, h.size⟩
  · rw [Nat.zero_add, cell_at hn2]
    have hj : j < 5 := (List.getElem?_eq_some_iff.1 hu).1
    have : j = 0 ∨ j = 1 ∨ j = 2 ∨ j = 3 ∨ j = 4 := by omega
    rcases this with rfl | rfl | rfl | rfl | rfl <;> (simp at hu; subst hu; rfl)
  · rw [← hs]; exact heap_alloc_new _ _
theorem inv_alloc {W w : World} {b : Nat} (h : Inv W b w) (o : Obj) : Inv W b (w.alloc o) := by
  obtain ⟨h1, h2, h3, h4⟩ := h
  have hb : Below w.heap.size w (w.alloc o) := (Below.refl _ _).alloc (Nat.le_refl _) o
  exact ⟨h1.alloc h1.size o, h2.below hb (lt_of_at2 h2), (hb.block _ (lt_of_at h3)).trans h3, h4⟩
theorem Inv.drewN {W w : World} {b : Nat} (h : Inv W b w) (n : Nat) : Inv W b (w.drewN n) := ⟨below_drewN h.1 n, h.2.1, h.2.2.1, h.2.2.2⟩

theorem set_is (l r : List UInt8) (a k : Int) (v : Nat) (ok : Bool) (b n : Nat) (w : World) (hl : l.length = n) (hn : n ≤ 1000000000) (hv : v < 4294967296) (ha : a < 9223372036854775808) (ho : inB n a k = ok) (hr : setB l a k v ++ [] = r) (h : Has w b 0 l) :
    Calls Try.prog 15 #[.slice (some ⟨b, 0, none⟩) n n, .int .i64 a, .int .i64 k, .int .u32 v] w fun e w' => e = .returned (.bool ok) ∧ Has w' b 0 r ∧ Below b w w' := by
  subst hl hr ho
  exact (set_any b 0 l [] l.length a k v w hn (Nat.le_refl _) ha hv (by rw [List.append_nil]; exact h)).mono fun _ _ ⟨h1, h2, _, h4⟩ => ⟨h1, h2, h4⟩
theorem conv3 {w : World} {b : Nat} (h : Has w b 0 [1, 0, 1]) : (convert 28 9 (.slice (some ⟨b, 0, none⟩) 3 3)).run Try.prog w = .ok (.string ⟨#[1, 0, 1]⟩) w := has_conv 3 h
theorem inv_three {W w : World} {b : Nat} (h : Inv W b w) :
    Below W.heap.size W (w.alloc (.cells #[.int .u8 1, .int .u8 2, .int .u8 3] 5)) ∧ Has (w.alloc (.cells #[.int .u8 1, .int .u8 2, .int .u8 3] 5)) w.heap.size 0 [1, 2, 3] := by
  have hn : (w.alloc (.cells #[.int .u8 1, .int .u8 2, .int .u8 3] 5)).heap[w.heap.size]? = some (.cells #[.int .u8 1, .int .u8 2, .int .u8 3] 5 (0, 0)) := heap_alloc_new w _
  refine ⟨h.1.alloc h.1.size _, fun j u hu => ⟨?_, free_at hn _⟩⟩
  rw [Nat.zero_add, cell_at hn]
  have hj : j < 3 := (List.getElem?_eq_some_iff.1 hu).1
  have : j = 0 ∨ j = 1 ∨ j = 2 := by omega
  rcases this with rfl | rfl | rfl <;> (simp at hu; subst hu; rfl)

theorem below_of {B src : Nat} {w w' : World} (hs : B ≤ src) (hg : w.grownBy w' (some src)) (h : B ≤ w.heap.size) : Below B w w' :=
  (Below.refl _ _).grown hg h (fun k hk => by have := Option.some.inj hk; omega)
theorem num_is (l r : List UInt8) (rd src : Nat) (k : Int) (v : Nat) (ok : Bool) (B : Nat) (w : World) (hv : numT l k = v) (ho : okN l.length k = ok) (hr : restN l k = r) (hs : B ≤ src) (h : Rd w rd src l) :
    Calls Try.prog 20 #[.pointer (some ⟨rd, 0, none⟩), .int .i64 k] w fun e w' => e = .returned (.tuple #[.int .u32 v, .bool ok]) ∧ Rd w' rd src r ∧ (B ≤ w.heap.size → Below B w w') := by
  subst hv ho hr
  exact (Number_any rd src l k w h).mono fun _ _ ⟨h1, h2, h3⟩ => ⟨h1, h2, below_of hs h3⟩
theorem take_is (l p r : List UInt8) (rd src : Nat) (k : Int) (ok : Bool) (B : Nat) (w : World) (hp : pieceT l k = p) (ho : okT l.length k = ok) (hr : restT l k = r) (hs : B ≤ src) (h : Rd w rd src l) :
    Calls Try.prog 18 #[.pointer (some ⟨rd, 0, none⟩), .int .i64 k] w fun e w' => e = .returned (.tuple #[.string ⟨p.toArray⟩, .bool ok]) ∧ Rd w' rd src r ∧ (B ≤ w.heap.size → Below B w w') := by
  subst hp ho hr
  exact (Take_any rd src l k w h).mono fun _ _ ⟨h1, h2, h3⟩ => ⟨h1, h2, below_of hs h3⟩
theorem left_is (l : List UInt8) (rd src : Nat) (B : Nat) (w : World) (hs : B ≤ src) (h : Rd w rd src l) :
    Calls Try.prog 22 #[.pointer (some ⟨rd, 0, none⟩)] w fun e w' => e = .returned (.int .i64 l.length) ∧ Rd w' rd src l ∧ (B ≤ w.heap.size → Below B w w') :=
  (Left_any rd src l w h).mono fun _ _ ⟨h1, h2, h3⟩ => ⟨h1, h2, below_of hs h3⟩
theorem Number_nil (w : World) :
    Calls Try.prog 20 #[.pointer none, .int .i64 1] w fun e w' => e = .returned (.tuple #[.int .u32 0, .bool false]) ∧ ∃ n, w.drewN n = w' := by
  have ht := take_nil 1 w
  have hn := number_0 none 0 0 w (by omega)
  go_enter Try.func20, Try.ntmps20
  go_wp2_with fail
  refine (isWidth_any _ _).mono ?_
  rintro e w' ⟨rfl, rfl⟩
  rw [show isW 1 = true from rfl]
  go_wp2_with fail
  refine ht.mono ?_
  rintro e w' ⟨rfl, rfl⟩
  go_wp2_with fail
  refine hn.mono ?_
  rintro e w' ⟨rfl, n, rfl⟩
  go_wp2_with fail
  go_ret2
  exact ⟨rfl, _, rfl⟩

set_option maxRecDepth 100000 in
set_option maxHeartbeats 2000000 in
theorem walk (W : World) : Calls Try.prog 9 #[] W fun e w' => e = .returned (.bool true) ∧ Below W.heap.size W w' := by
  have p1 := Lib.hid (fun w => put_is [] [2] 1 258 w (by simp) (by omega) (by decide))
  have p2 := Lib.hid (fun w => put_is [] [2, 1] 2 258 w (by simp) (by omega) (by decide))
  have p3 := Lib.hid (fun w => put_is [120] [120, 255, 255, 255, 255] 4 4294967295 w (by simp) (by omega) (by decide))
  have p4 := Lib.hid (fun w => put_is [120] [120] 3 7 w (by simp) (by omega) (by decide))
  have p5 := Lib.hid (fun w => put_is [120] [120] 0 7 w (by simp) (by omega) (by decide))
  have p6 := Lib.hid (fun w => put_is [120] [120] (-9223372036854775808) 7 w (by simp) (by omega) (by decide))
  go_enter Try.func9, Try.ntmps9
  go_wp2_with fail
  refine (p1.out _).mono ?_
  rintro e w1 ⟨rfl, h1⟩
  have b1 := Lib.hid h1
  clear h1
  go_wp2_with fail
  refine (p2.out _).mono ?_
  rintro e w2 ⟨rfl, h1⟩
  have b2 := Lib.hid (b1.out.trans (h1.mono b1.out.size))
  clear h1 b1
  go_wp2_with fail
  refine (p3.out _).mono ?_
  rintro e w3 ⟨rfl, h1⟩
  have b3 := Lib.hid (b2.out.trans (h1.mono b2.out.size))
  clear h1 b2
  go_wp2_with fail
  refine (p4.out _).mono ?_
  rintro e w4 ⟨rfl, h1⟩
  have b4 := Lib.hid (b3.out.trans (h1.mono b3.out.size))
  clear h1 b3
  go_wp2_with fail
  refine (p5.out _).mono ?_
  rintro e w5 ⟨rfl, h1⟩
  have b5 := Lib.hid (b4.out.trans (h1.mono b4.out.size))
  clear h1 b4
  go_wp2_with fail
  refine (p6.out _).mono ?_
  rintro e w6 ⟨rfl, h1⟩
  have b6 := Lib.hid (b5.out.trans (h1.mono b5.out.size))
  clear h1 b5 p1 p2 p3 p4 p5 p6
  go_wp2_with fail
  have hz := Lib.hid b6.out.size
  go_loopw [55] (fun i wr => ∃ j : Nat, j ≤ 9 ∧ i = .int .i64 j ∧ Inv W w6.heap.size wr) (fun i _ => 9 - (intOf i).toNat)
  case atStart =>
    refine ⟨0, by omega, rfl, ?_⟩
    exact inv_start b6.out
  case round =>
    obtain ⟨j, hj, rfl, hI⟩ := hrel
    have hI' := Lib.hid hI
    clear hI
    by_cases h9 : j < 9
    · obtain ⟨k0, k1, k2⟩ := cells27_at j h9
      have c0 := (cell_at hI'.out.2.2.1 (j * 3)).trans k0
      have c1 := (cell_at hI'.out.2.2.1 (j * 3 + 1)).trans k1
      have c2 := (cell_at hI'.out.2.2.1 (j * 3 + 2)).trans k2
      clear k0 k1 k2
      have hget := Lib.hid (fun w hh => get_is j h9 w6.heap.size 5 w (by omega) hh)
      generalize tabA j = x at c0 hget
      generalize tabK j = y at c1 hget
      generalize tabV j = v at c2 hget
      go_wp2_with fail
      refine (hget.out _ ?_).mono ?_
      · exact hI'.out.2.1.below (Below.alloc (Below.refl _ _) (Nat.le_refl _) _) (lt_of_at2 hI'.out.2.1)
      rintro e w7 ⟨rfl, nq, rfl⟩
      go_wp2_with fail
      go_roundw
      case rel => exact ⟨j + 1, by omega, by go_num, (inv_alloc hI'.out _).drewN nq⟩
      case measure => simp [intOf]; omega
    · obtain rfl : j = 9 := by omega
      go_wp2_with fail
      have hb8 := inv_three hI'.out
      have S1 := Lib.hid (fun w h => set_is [1, 2, 3] [1, 0, 1] 1 2 256 true wr.heap.size 3 w rfl (by omega) (by omega) (by omega) (by decide) (by decide) h)
      have S2 := Lib.hid (fun w h => set_is [1, 0, 1] [1, 0, 1] 2 2 0 false wr.heap.size 3 w rfl (by omega) (by omega) (by omega) (by decide) (by decide) h)
      have S3 := Lib.hid (fun w h => set_is [1, 0, 1] [1, 0, 1] 9223372036854775807 1 0 false wr.heap.size 3 w rfl (by omega) (by omega) (by omega) (by decide) (by decide) h)
      have hWr := Lib.hid hI'.out.1.size
      have B8 := Lib.hid hb8
      clear hb8
      go_wp2_with fail
      refine (S1.out _ B8.out.2).mono ?_
      rintro e w9 ⟨rfl, hh9, hb9⟩
      have hcv := conv3 hh9
      have b9 := Lib.hid (B8.out.1.trans (hb9.mono hWr.out))
      have H9 := Lib.hid hh9
      clear hh9 hb9
      go_wp2_with fail
      refine (S2.out _ H9.out).mono ?_
      rintro e w10 ⟨rfl, hh10, hb10⟩
      have b10 := Lib.hid (b9.out.trans (hb10.mono hWr.out))
      have H10 := Lib.hid hh10
      clear hh10 hb10 hcv
      go_wp2_with fail
      refine (S3.out _ H10.out).mono ?_
      rintro e w11 ⟨rfl, hh11, hb11⟩
      have hcv := conv3 hh11
      have b11 := Lib.hid (b10.out.trans (hb11.mono hWr.out))
      clear hh11 hb11
      go_wp2_with fail
      refine (New_any [1, 2, 3] _ (by simp)).mono ?_
      rintro e w12 ⟨r, src, rfl, hr12, h1, hs1, hr1⟩
      have b12 := Lib.hid (And.intro (b11.out.trans (h1.mono b11.out.size)) (Nat.le_trans b11.out.size hs1))
      have R12 := Lib.hid hr12
      clear hr12 h1 hs1 hr1 b11 hcv
      go_wp2_with fail
      refine (num_is [1, 2, 3] [3] r src 2 513 true W.heap.size _ (by decide) (by decide) (by decide) b12.out.2 R12.out).mono ?_
      rintro e w13 ⟨rfl, hr13, h1⟩
      have b13 := Lib.hid (b12.out.1.trans (h1 b12.out.1.size))
      have R13 := Lib.hid hr13
      clear hr13 h1
      go_wp2_with fail
      refine (num_is [3] [3] r src 2 0 false W.heap.size _ (by decide) (by decide) (by decide) b12.out.2 R13.out).mono ?_
      rintro e w14 ⟨rfl, hr14, h1⟩
      have b14 := Lib.hid (b13.out.trans (h1 b13.out.size))
      have R14 := Lib.hid hr14
      clear hr14 h1
      go_wp2_with fail
      refine (take_is [3] [3] [] r src 1 true W.heap.size _ (by decide) (by decide) (by decide) b12.out.2 R14.out).mono ?_
      rintro e w15 ⟨rfl, hr15, h1⟩
      have b15 := Lib.hid (b14.out.trans (h1 b14.out.size))
      have R15 := Lib.hid hr15
      clear hr15 h1
      go_wp2_with fail
      refine (take_is [] [] [] r src (-1) false W.heap.size _ (by decide) (by decide) (by decide) b12.out.2 R15.out).mono ?_
      rintro e w16 ⟨rfl, hr16, h1⟩
      have b16 := Lib.hid (b15.out.trans (h1 b15.out.size))
      have R16 := Lib.hid hr16
      clear hr16 h1
      go_wp2_with fail
      refine (Number_nil _).mono ?_
      rintro e w17 ⟨rfl, nq, rfl⟩
      have R17 := Lib.hid (R16.out.drewN nq)
      have b17 := Lib.hid (below_drewN b16.out nq)
      generalize w16.drewN nq = w17 at R17 b17 ⊢
      clear R16 b16
      go_wp2_with fail
      refine (Take_nil 0 _).mono ?_
      rintro e w17' ⟨rfl, rfl⟩
      go_wp2_with fail
      refine (left_is [] r src W.heap.size _ b12.out.2 R17.out).mono ?_
      rintro e w18 ⟨rfl, hr18, h1⟩
      have b18 := Lib.hid (b17.out.trans (h1 b17.out.size))
      clear hr18 h1
      go_wp2_with fail
      refine (Left_nil _).mono ?_
      rintro e w19 ⟨rfl, rfl⟩
      go_wp2_with fail
      refine (works_any _).mono ?_
      rintro e w20 ⟨rfl, h1⟩
      have b20 := Lib.hid (b18.out.trans (h1.mono b18.out.size))
      clear h1
      go_wp2_with fail
      go_ret
      exact ⟨rfl, b20.out⟩
theorem own : ownKnob Try.prog.godebug = none := by kernel_rfl
theorem laidOut : laidOutB Try.prog = true := by kernel_rfl
set_option maxRecDepth 100000 in
theorem lifted (os : Os) (started : os.Started) (H : Type) (enc : TypeId × Value → H) :
    ReturnsInHanded {} Try.checked os 9 .any (Rows.octetKnownSpec.pre6 enc Try.prog Try.f9 Rows.octetKnownRow.domain false) (Rows.octetKnownSpec.post enc Try.prog Try.f9 false true false false) := by
  refine returnsInHanded_of_change (C := Try.checked) own started (by kernel_rfl) Try.func9
    (ChangeSpec.witness6 (enc := enc) (C := Try.checked) false ⟨#[], #[], []⟩ 8 (by kernel_rfl) (by kernel_rfl) (by kernel_rfl) (by kernel_rfl)) ?_
  intro W base args ds gs before hval0 hW hcnd hsz
  have hval : ∀ (j : Nat) t v, Try.f9.params[j]? = some t → args[j]? = some v → Value.okWide Try.prog W .any base t v := hval0
  have hW' := hW
  obtain ⟨p, q, hA0, hV, rfl, hfz, hnd⟩ := hW
  have hA : DataW.TrodAll enc Try.prog W 0 (fun _ => true) true Try.f9.params.toList args.toList ds p := hA0
  rw [Try.params9] at hA hval
  obtain ⟨rfl, rfl, rfl⟩ := trodAll_none hA
  obtain ⟨rfl, rfl⟩ := trodVars_none hV
  clear hA0 hval0
  refine (walk  W).mono fun e W' ⟨he, bel⟩ => ?_
  subst he
  exact ⟨_, rfl, _, _, _, [], _, [], hW', trodAll_mk1 (shut_bool Try.underlying4 _), trodAll_mk0, rfl, bel.frame _, fun h => by cases h⟩
theorem over : Rows.octetKnownRow.holds Try.pinned (OpenSpec.ofChange Rows.octetKnownSpec) :=
  OpenClaim.holds_of_wide 9 Try.f9 rfl rfl rfl rfl rfl rfl rfl ⟨rfl, rfl, rfl, rfl, rfl⟩ rfl rfl rfl rfl rfl (by kernel_rfl) Try.func9 (by kernel_rfl)
    (of_decide_eq_true (by kernel_rfl)) (by unfold Func.isWrapper; first | (rw [if_pos (by decide +kernel)]; kernel_rfl) | (rw [if_neg (by decide +kernel)]; exact ⟨rfl, rfl⟩))
    (fun os started H enc _ => lifted os started H enc)
/-- The given statement. -/
theorem proved : Rows.OctetKnownSaid := over
end Go.Proofs.Ytedhpjolbgfdeaa.known
