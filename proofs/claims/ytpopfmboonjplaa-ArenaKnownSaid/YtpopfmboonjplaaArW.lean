/- What the laws of layer arena ask first: made, works. No statement is proved here. -/
import Derived.Test.YtpopfmboonjplaaArZC
import Derived.Test.YtpopfmboonjplaaCapN
namespace Go.Proofs.Ytpopfmboonjplaa
open Go.RowKit
set_option linter.unusedVariables false

theorem Nxt.ext {a mb wb bb c n g : Nat} {f f' : Nat → Bool} {l l' : List UInt8} {w w' : World} {v v' : Value} {e : Ending} (h : Nxt a mb wb bb c n g f l w v e w') (hf : ∀ j, f j = f' j) (hl : l = l') (hv : v = v') : Nxt a mb wb bb c n g f' l' w v' e w' :=
  ⟨hv ▸ h.1, h.2.1.ext hf hl, h.2.2⟩
/-- What was laid is there. -/
theorem ovr_get {l b : List UInt8} {k m : Nat} (hk : k ≤ l.length) (hm : m ≤ b.length) : ((ovr l k b).drop k).take m = b.take m := by
  have h : (l.take k).length = k := by simp; omega
  unfold ovr
  rw [List.drop_append_of_le_length (by omega), List.drop_of_length_le (by omega), List.nil_append, List.take_append_of_le_length hm]
def F0 : Nat → Bool := fun _ => false
def L0 : List UInt8 := List.replicate 4096 0
theorem L0_len : L0.length = 4096 := List.length_replicate ..
theorem made_any (w : World) : Calls Try.prog 23 #[] w fun e w' => ∃ a, e = .returned (.pointer (some ⟨a, 0, none⟩)) ∧ Made w 256 F0 L0 a w' := by
  have hN := Lib.hid (anew_yes 16 w (by omega) (by omega))
  go_enter Try.func23, Try.ntmps23
  go_wp2_with fail
  refine hN.out.mono ?_
  rintro e w2 ⟨a, rfl, h⟩
  have h' := Lib.hid (show Made w 256 F0 L0 a w2 from h)
  clear h
  go_wp2
  go_ret
  exact ⟨a, rfl, h'.out⟩
section
variable {a mb wb bb c : Nat} {f f' : Nat → Bool} {l l' : List UInt8} {w : World}
theorem store6 (H : ArAt w a mb wb bb c 4096 256 f l) (at_ : Nat) (k : Int) (v : Nat) (la : at_ < 4294967296) (lv : v < 4294967296) (r : Bool) (hr : (isW k && thr 4096 at_ (putB [] k v).length) = r) (hf : ∀ j, stF 4096 f at_ (putB [] k v).length j = f' j) (hl : stL 4096 l at_ (putB [] k v) = l') :
    Calls Try.prog 19 #[.pointer (some ⟨a, 0, none⟩), .int .u32 at_, .int .i64 k, .int .u32 v] w (Nxt a mb wb bb c 4096 256 f' l' w (.bool r)) :=
  (astore_any H k v at_ la lv).mono fun e w' h => h.ext hf hl (by rw [hr])
/-- The capability of 64 bytes from 256 on. -/
def c64 : Value := .agg #[.int .u32 256, .int .u8 0, .int .u16 256, .int .u16 320, .int .u16 3, .int .u16 0, .int .u32 0, .bool true]
def c64B : List UInt8 := bytesC 256 0 256 320 3 0 0
theorem c64B_len : c64B.length = 16 := bytesC_length ..
def L1 : List UInt8 := ovr L0 4094 [3, 2]
def F3 : Nat → Bool := fun j => decide (j = 2)
def L3 : List UInt8 := ovr L1 32 c64B
def L4 : List UInt8 := ovr L3 47 [0]
theorem L1_len : L1.length = 4096 := (ovr_length (by rw [L0_len]; decide)).trans L0_len
theorem L3_len : L3.length = 4096 := (ovr_length (by rw [L1_len, c64B_len]; decide)).trans L1_len
theorem make64 (w : World) : Calls Try.prog 7 #[.agg #[.int .u32 256, .int .u32 64], .int .u16 3] w fun ee w' => ee = .returned (.tuple #[c64, .bool true]) ∧ Below w.heap.size w w' :=
  (pMake_yes 256 64 3 (by decide) (by decide) (by decide) (by decide +kernel) w).mono fun ee w' h => ⟨h.1.trans (by kernel_rfl), h.2⟩
theorem capV_c64 (v : Bool) : capV c64B v = .agg #[.int .u32 256, .int .u8 0, .int .u16 256, .int .u16 320, .int .u16 3, .int .u16 0, .int .u32 0, .bool v] := by
  have h := nm_bytes (cu := 256) (e := 0) (b := 256) (t := 320) (pm := 3) (ty := 0) (rs := 0) (by decide) (by decide) (by decide) (by decide) (by decide) (by decide) (by decide)
  unfold capV c64B
  rw [h.1, h.2.1, h.2.2.1, h.2.2.2.1, h.2.2.2.2.1, h.2.2.2.2.2.1, h.2.2.2.2.2.2]
  rw [show sndP 0 256 320 3 0 0 = true from by decide, Bool.and_true]
  rfl
theorem L3_at : (L3.drop 32).take 16 = c64B := by
  unfold L3
  rw [ovr_get (by rw [L1_len]; decide) (by rw [c64B_len]; decide)]
  exact List.take_of_length_le (by rw [c64B_len]; decide)
theorem stF_F0 (n at_ k j : Nat) : stF n F0 at_ k j = F0 j := by
  unfold stF
  split <;> simp [clr, F0]
theorem s1 (H : ArAt w a mb wb bb c 4096 256 F0 L0) : Calls Try.prog 19 #[.pointer (some ⟨a, 0, none⟩), .int .u32 4094, .int .i64 2, .int .u32 515] w (Nxt a mb wb bb c 4096 256 F0 L1 w (.bool true)) :=
  store6 H 4094 2 515 (by decide) (by decide) true (by decide) (fun j => stF_F0 _ _ _ j) (by rfl)
theorem s2 (H : ArAt w a mb wb bb c 4096 256 F0 L1) : Calls Try.prog 19 #[.pointer (some ⟨a, 0, none⟩), .int .u32 4095, .int .i64 2, .int .u32 1] w (Nxt a mb wb bb c 4096 256 F0 L1 w (.bool false)) :=
  store6 H 4095 2 1 (by decide) (by decide) false (by decide) (fun j => stF_F0 _ _ _ j) (by rfl)
theorem s3 (H : ArAt w a mb wb bb c 4096 256 F0 L1) : Calls Try.prog 29 #[.pointer (some ⟨a, 0, none⟩), .int .u32 4094, .int .i64 1] w fun e w' => e = .returned (.tuple #[.int .u32 3, .bool true]) ∧ Below w.heap.size w w' := by
  have h := aload_any H 4094 1 (by decide)
  have e1 : getB L1 (4094 : Nat) 1 = 3 := by
    unfold getB
    rw [if_pos (by rw [L1_len]; decide)]
    show le ((L1.drop 4094).take 1) = 3
    unfold L1
    rw [ovr_get (by rw [L0_len]; decide) (by decide)]
    rfl
  rw [e1] at h
  exact h
theorem s4 (H : ArAt w a mb wb bb c 4096 256 F0 L1) : Calls Try.prog 18 #[.pointer (some ⟨a, 0, none⟩), .int .u32 32, c64] w (Nxt a mb wb bb c 4096 256 F3 L3 w (.bool true)) :=
  (ascap_any H 256 0 256 320 3 0 0 true 32 (by decide) (by decide) (by decide) (by decide) (by decide) (by decide) (by decide) (by decide)).mono fun e w' h => h.ext (fun j => by
    rw [show (true && sndP 0 256 320 3 0 0) = true from by decide]
    unfold scF
    rw [if_pos (by decide)]
    simp [upd, clr, F0, F3]) (by unfold scL; rw [if_pos (by decide)]; rfl) (by rw [show grn 4096 32 = true from by decide])
theorem s5 (H : ArAt w a mb wb bb c 4096 256 F3 L3) : Calls Try.prog 27 #[.pointer (some ⟨a, 0, none⟩), .int .u32 32] w fun e w' => e = .returned (.tuple #[c64, .bool true]) ∧ Below w.heap.size w w' := by
  have h := alcap_yes H 32 (by decide) (by decide)
  rw [L3_at, show F3 (32 / 16) = true from by decide, capV_c64] at h
  exact h
theorem s6 (H : ArAt w a mb wb bb c 4096 256 F3 l) : Calls Try.prog 26 #[.pointer (some ⟨a, 0, none⟩), .int .i64 0] w (ListPost w [32]) := by
  have h := atag_any H (by decide) 0 (by decide)
  rw [show tgP F3 256 0 = [32] from by decide +kernel] at h
  exact h
theorem s7 (H : ArAt w a mb wb bb c 4096 256 F3 L3) : Calls Try.prog 19 #[.pointer (some ⟨a, 0, none⟩), .int .u32 47, .int .i64 1, .int .u32 0] w (Nxt a mb wb bb c 4096 256 F0 L4 w (.bool true)) :=
  store6 H 47 1 0 (by decide) (by decide) true (by decide) (fun j => by
    unfold stF
    rw [if_pos (by decide)]
    simp only [clr, tch, F3, F0]
    rw [Bool.eq_false_iff]
    simp [putB, isW, leB]
    omega) (by rfl)
theorem s8 (H : ArAt w a mb wb bb c 4096 256 F0 l) : Calls Try.prog 27 #[.pointer (some ⟨a, 0, none⟩), .int .u32 32] w fun e w' => e = .returned (.tuple #[capV ((l.drop 32).take 16) false, .bool true]) ∧ Below w.heap.size w w' :=
  alcap_yes H 32 (by decide) (by decide)
theorem s9 (H : ArAt w a mb wb bb c 4096 256 F0 l) : Calls Try.prog 26 #[.pointer (some ⟨a, 0, none⟩), .int .i64 0] w (ListPost w []) := by
  have h := atag_any H (by decide) 0 (by decide)
  rw [show tgP F0 256 0 = [] from by decide +kernel] at h
  exact h
end

theorem own_rw {w : World} {base q n c : Nat} {e : TypeId} {xs : List Value} (h : w.ownsRow base e 1 (.slice (some ⟨q, 0, none⟩) n c) n xs) : (⟨q, xs⟩ : Rw).at w := by
  refine ⟨(h.lt q rfl).2, fun j => ?_, fun j u hu => ?_⟩
  · rcases h.2 with ⟨e, _⟩ | ⟨g, cap, cur, e, h1, h2, h3⟩
    · cases e
    · cases e
      simp [World.frozen?, h2]
  · have := h.cells (g := q) rfl j u hu
    rwa [Addr.add_lit, Nat.zero_add] at this
/-- An arena, and boxes, in a world that came of W1. -/
structure St (W1 : World) (a mb wb bb c n g : Nat) (f : Nat → Bool) (l : List UInt8) (L : List Rw) (w : World) : Prop where
  ar : ArAt w a mb wb bb c n g f l
  of : Of2 W1.heap.size wb bb W1 w
  rs : RS L w
  ne : ∀ x, x ∈ L → x.g ≠ wb ∧ x.g ≠ bb
section
variable {W1 : World} {a mb wb bb c n g : Nat} {f f' : Nat → Bool} {l l' : List UInt8} {L : List Rw} {w w' : World}
theorem St.first (h : ArAt w a mb wb bb c n g f l) : St w a mb wb bb c n g f l [] w := ⟨h, Of2.refl _ _ _ _, RS.nil _, fun x hx => by cases hx⟩
theorem St.below (h : St W1 a mb wb bb c n g f l L w) (k : Below w.heap.size w w') : St W1 a mb wb bb c n g f l L w' := ⟨h.ar.below k, h.of.step (Of2.of_below k), h.rs.below k, h.ne⟩
theorem St.nxt (h : St W1 a mb wb bb c n g f l L w) (k : ArAt w' a mb wb bb c n g f' l' ∧ Of2 w.heap.size wb bb w w') : St W1 a mb wb bb c n g f' l' L w' := ⟨k.1, h.of.step k.2, h.rs.of2 k.2 h.ne, h.ne⟩
theorem St.push (h : St W1 a mb wb bb c n g f l L w) (vs : List Value) (ty : TypeId) : St W1 a mb wb bb c n g f l (⟨w.heap.size, vs⟩ :: L) (w.alloc (.cells vs.toArray ty)) :=
  ⟨h.ar.alloc _, h.of.step (Of2.of_below ((Below.refl _ _).alloc (Nat.le_refl _) _)), h.rs.push vs ty, fun x hx => by
    rcases List.mem_cons.1 hx with rfl | hx
    · have h1 := h.ar.lb
      have h2 := h.ar.m.lw
      exact ⟨by show w.heap.size ≠ wb; omega, by show w.heap.size ≠ bb; omega⟩
    · exact h.ne x hx⟩
theorem St.drew (h : St W1 a mb wb bb c n g f l L w) : St W1 a mb wb bb c n g f l L w.drew := h.below (Below.refl _ _).drew
theorem St.sub {L' : List Rw} (h : St W1 a mb wb bb c n g f l L w) (hs : ∀ x, x ∈ L' → x ∈ L) : St W1 a mb wb bb c n g f l L' w := ⟨h.ar, h.of, fun x hx => h.rs x (hs x hx), fun x hx => h.ne x (hs x hx)⟩
/-- A list that a call has handed back. -/
theorem St.list (h : St W1 a mb wb bb c n g f l L w) {lst : List Nat} {e : Ending} (k : ListPost w lst e w') (h0 : 0 < lst.length) : ∃ q c', e = .returned (.slice (some ⟨q, 0, none⟩) lst.length c') ∧ St W1 a mb wb bb c n g f l (⟨q, lst.map u32v⟩ :: L) w' := by
  obtain ⟨v, rfl, o, b⟩ := k
  have o' := o
  rcases o.2 with ⟨_, e⟩ | ⟨q, cap, cur, rfl, h1, h2⟩
  · omega
  · refine ⟨q, cap, rfl, (h.below b).ar, (h.below b).of, fun x hx => ?_, fun x hx => ?_⟩
    · rcases List.mem_cons.1 hx with rfl | hx
      · exact own_rw o'
      · exact (h.below b).rs x hx
    · rcases List.mem_cons.1 hx with rfl | hx
      · have h3 := h.ar.lb
        have h4 := h.ar.m.lw
        exact ⟨by show q ≠ wb; omega, by show q ≠ bb; omega⟩
      · exact h.ne x hx
end
theorem list_nil {w w' : World} {e : Ending} (k : ListPost w [] e w') : e = .returned (.slice none 0 0) ∨ (∃ q c', e = .returned (.slice (some ⟨q, 0, none⟩) 0 c')) := by
  obtain ⟨v, rfl, o, b⟩ := k
  rcases o.2 with ⟨e, _⟩ | ⟨q, cap, cur, e, h1, h2⟩
  · exact .inl (by rw [e])
  · exact .inr ⟨q, cap, by rw [e]; rfl⟩
set_option maxRecDepth 100000 in
set_option maxHeartbeats 2000000 in
theorem awW (W : World) : Calls Try.prog 22 #[] W fun e W' => e = .returned (.bool true) ∧ Below W.heap.size W W' := by
  have M := Lib.hid (made_any W)
  have hEq : ∀ w, (Op.equalIn 10000 25 (.agg #[.int .u32 256, .int .u8 0, .int .u16 256, .int .u16 320, .int .u16 3, .int .u16 0, .int .u32 0, .bool true]) (.agg #[.int .u32 256, .int .u8 0, .int .u16 256, .int .u16 320, .int .u16 3, .int .u16 0, .int .u32 0, .bool true])).run Try.prog w = .ok true w := fun w => (cap_eq 256 0 256 320 3 0 0 true 256 0 256 320 3 0 0 true w).trans (by kernel_rfl)
  go_enter Try.func22, Try.ntmps22
  go_wp2_with fail
  refine M.out.mono ?_
  rintro e W1 ⟨a, rfl, mb, wb, bb, c, h, hb, x1, x2, x3, x4⟩
  have N := Lib.hid (And.intro hb (And.intro x3 x4))
  have Z1 := Lib.hid (St.first (n := 4096) h)
  clear h hb x1 x2 x3 x4
  go_wp2_with fail
  refine (asize_any Z1.out.ar).mono ?_
  rintro e W2 ⟨rfl, k⟩
  have Z2 := Lib.hid (Z1.out.below k)
  clear k Z1
  go_wp2_with fail
  refine (s1 Z2.out.ar).mono ?_
  rintro e W3 ⟨rfl, k⟩
  have Z3 := Lib.hid (Z2.out.nxt k)
  clear k Z2
  go_wp2_with fail
  refine (s2 Z3.out.ar).mono ?_
  rintro e W4 ⟨rfl, k⟩
  have Z4 := Lib.hid (Z3.out.nxt k)
  clear k Z3
  go_wp2_with fail
  refine (s3 Z4.out.ar).mono ?_
  rintro e W5 ⟨rfl, k⟩
  have Z5 := Lib.hid (Z4.out.below k)
  clear k Z4
  go_wp2_with fail
  refine (make64 _).mono ?_
  rintro e W6 ⟨rfl, k⟩
  have Z6 := Lib.hid ((Z5.out.below k).push [.int .u32 256, .int .u8 0, .int .u16 256, .int .u16 320, .int .u16 3, .int .u16 0, .int .u32 0, .bool true] 25)
  clear k Z5
  unfold c64
  go_wp2_with fail
  refine (s4 Z6.out.ar).mono ?_
  rintro e W7 ⟨rfl, k⟩
  have Z7 := Lib.hid (Z6.out.nxt k)
  clear k Z6
  go_wp2_with fail
  refine (s5 Z7.out.ar).mono ?_
  rintro e W8 ⟨rfl, k⟩
  have Z8 := Lib.hid ((Z7.out.below k).push [.int .u32 256, .int .u8 0, .int .u16 256, .int .u16 320, .int .u16 3, .int .u16 0, .int .u32 0, .bool true] 25)
  clear k Z7
  unfold c64
  go_upto_region 8 with (fail)
  generalize (W8.alloc (.cells #[.int .u32 256, .int .u8 0, .int .u16 256, .int .u16 320, .int .u16 3, .int .u16 0, .int .u32 0, .bool true] 25)) = W9 at *
  go_wp2_with fail
  refine (s6 Z8.out.ar).mono ?_
  intro e W10 k
  obtain ⟨q, c', rfl, Z⟩ := Z8.out.list k (by decide)
  have Z9 := Lib.hid Z
  clear k Z Z8
  go_wp2_with fail
  refine (s7 Z9.out.ar).mono ?_
  rintro e W11 ⟨rfl, k⟩
  have Z10 := Lib.hid (Z9.out.nxt k)
  clear k Z9
  go_wp2_with fail
  refine (s8 Z10.out.ar).mono ?_
  rintro e W12 ⟨rfl, k⟩
  unfold capV
  simp only [Bool.false_and]
  generalize nm (List.take 16 (List.drop 32 L4)) 0 4 = m0 at *
  generalize nm (List.take 16 (List.drop 32 L4)) 4 1 = m1 at *
  generalize nm (List.take 16 (List.drop 32 L4)) 5 2 = m2 at *
  generalize nm (List.take 16 (List.drop 32 L4)) 7 2 = m3 at *
  generalize nm (List.take 16 (List.drop 32 L4)) 9 2 = m4 at *
  generalize nm (List.take 16 (List.drop 32 L4)) 11 2 = m5 at *
  generalize nm (List.take 16 (List.drop 32 L4)) 13 3 = m6 at *
  have Z11 := Lib.hid ((Z10.out.below k).push (cv m0 m1 m2 m3 m4 m5 m6 false) 25)
  clear k Z10
  go_upto_region 11 with (fail)
  change Code.wp _ _ _ _ (W12.alloc (.cells (cv m0 m1 m2 m3 m4 m5 m6 false).toArray 25))
  generalize hW : (W12.alloc (.cells (cv m0 m1 m2 m3 m4 m5 m6 false).toArray 25)) = W13 at *
  obtain ⟨a0, a1, a2, a3, a4, a5, a6, a7⟩ := Z11.out.rs.cap (g := W12.heap.size) (cu := m0) (e := m1) (b := m2) (t := m3) (pm := m4) (ty := m5) (rs := m6) (va := false) (by simp)
  obtain ⟨d0, d1, d2, d3, d4, d5, d6, d7⟩ := Z11.out.rs.cap (g := W8.heap.size) (cu := 256) (e := 0) (b := 256) (t := 320) (pm := 3) (ty := 0) (rs := 0) (va := true) (by simp [cv])
  obtain ⟨g0, g1, g2, g3, g4, g5, g6, g7⟩ := Z11.out.rs.cap (g := W6.heap.size) (cu := 256) (e := 0) (b := 256) (t := 320) (pm := 3) (ty := 0) (rs := 0) (va := true) (by simp [cv])
  have r0 := Z11.out.rs.cell (g := q) (j := 0) (u := .int .u32 32) [.int .u32 32] (by simp [u32v]) rfl
  clear hW
  go_wp2_with fail
  refine (s9 Z11.out.ar).mono ?_
  intro e W14 k
  have kb : Below W13.heap.size W13 W14 := by obtain ⟨_, _, _, b⟩ := k; exact b
  have Z12 := Lib.hid (Z11.out.below kb)
  have hl := list_nil k
  clear k kb Z11 a0 a1 a2 a3 a4 a5 a6 a7 d0 d1 d2 d3 d4 d5 d6 d7 g0 g1 g2 g3 g4 g5 g6 g7 r0
  have a7 := Z12.out.rs.cell (g := W12.heap.size) (j := 7) (u := .bool false) (cv m0 m1 m2 m3 m4 m5 m6 false) (by simp) rfl
  have hB := Lib.hid (N.out.1.trans (Z12.out.of.below N.out.1.size N.out.2.1 N.out.2.2))
  clear Z12
  rcases hl with rfl | ⟨q', c', rfl⟩
  all_goals
    go_wp2
    go_ret
    exact ⟨rfl, hB.out⟩
end Go.Proofs.Ytpopfmboonjplaa
