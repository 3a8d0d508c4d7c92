/- Contracts of the document own answers for layer octet (fallowref01), and of the law package helper. -/
import Derived.Test.YtedhpjolbgfdeaaOctB
namespace Go.Proofs.Ytedhpjolbgfdeaa
open Go.RowKit
set_option linter.unusedVariables false
theorem leB_snoc (v : Nat) : ∀ j, leB (j + 1) v = leB j v ++ [UInt8.ofNat (v / 256 ^ j)] := by
  intro j
  induction j generalizing v with
  | zero => simp [leB]
  | succ j ih =>
    rw [leB, ih (v / 256), leB]
    simp [Nat.div_div_eq_div_mul, Nat.pow_succ, Nat.mul_comm]
theorem ret_str {a b : List UInt8} (h : a = b) : Ending.returned (.string ⟨a.toArray⟩) = .returned (.string ⟨b.toArray⟩) := by rw [h]
theorem refWidth_any (n : Int) (w : World) : Calls Try.prog 25 #[.int .i64 n] w fun e w' => e = .returned (.bool (isW n)) ∧ w = w' := by
  by_cases h1 : n = 1
  · subst h1
    go_enter Try.func25, Try.ntmps25
    go_wp2
    go_ret
    exact ⟨rfl, rfl⟩
  · by_cases h2 : n = 2
    · subst h2
      go_enter Try.func25, Try.ntmps25
      go_wp2
      go_ret
      exact ⟨rfl, rfl⟩
    · have b1 : (n == 1) = false := by simpa using h1
      have b2 : (n == 2) = false := by simpa using h2
      go_enter Try.func25, Try.ntmps25
      go_wp2
      go_ret
      exact ⟨by simp [isW, b1, b2], rfl⟩
theorem refPut_no (l : List UInt8) (k : Int) (v : Nat) (w : World) (hk : isW k = false) :
    Calls Try.prog 11 #[.string ⟨l.toArray⟩, .int .i64 k, .int .u32 v] w fun e w' => e = .returned (.string ⟨l.toArray⟩) ∧ w = w' := by
  have hk' := Lib.hid hk
  clear hk
  go_enter Try.func11, Try.ntmps11
  go_wp2_with (go_at_call 25; refine (refWidth_any _ _).mono ?_; rintro e w' ⟨rfl, rfl⟩; rw [hk'.out])
  go_ret
  exact ⟨rfl, rfl⟩
theorem refPut_yes (l : List UInt8) (k : Nat) (v : Nat) (w : World) (hl : l.length ≤ 8000000) (hv : v < 4294967296) (hk : isW (k : Int) = true) :
    Calls Try.prog 11 #[.string ⟨l.toArray⟩, .int .i64 k, .int .u32 v] w fun e w' => e = .returned (.string ⟨(l ++ leB k v).toArray⟩) ∧ Below w.heap.size w w' := by
  have hc := isW_cases hk
  have hk4 : k ≤ 4 := by omega
  have hk' := Lib.hid hk
  clear hk hc
  go_enter Try.func11, Try.ntmps11
  go_wp2_with (go_at_call 25; refine (refWidth_any _ _).mono ?_; rintro e w' ⟨rfl, rfl⟩; rw [hk'.out])
  go_loopw [0, 2, 7] (fun s u i wr => ∃ j : Nat, j ≤ k ∧ i = .int .i64 j ∧ s = .string ⟨(l ++ leB j v).toArray⟩ ∧ u = .int .u32 (v / 256 ^ j : Nat) ∧ Below w.heap.size w wr) (fun _ _ i _ => k - (intOf i).toNat)
  case atStart => exact ⟨0, Nat.zero_le _, rfl, by simp [leB], by simp, Below.refl _ _⟩
  case round =>
    obtain ⟨j, hj, rfl, rfl, rfl, hb⟩ := hrel
    have hlen : (l ++ leB j v).length ≤ 8000004 := by simp [leB_length]; omega
    obtain ⟨q, hq⟩ : ∃ q, q = v / 256 ^ j := ⟨_, rfl⟩
    have hsn := leB_snoc v j
    rw [← hq] at hsn ⊢
    have hq2 : v / 256 ^ (j + 1) = q / 256 := by rw [hq, Nat.pow_succ, Nat.div_div_eq_div_mul]
    have hqb : q < 4294967296 := by rw [hq]; exact Nat.lt_of_le_of_lt (Nat.div_le_self _ _) hv
    obtain ⟨m, hm⟩ : ∃ m, m = l ++ leB j v := ⟨_, rfl⟩
    rw [← hm] at hlen ⊢
    have HQ := Lib.hid (And.intro hsn (And.intro hq2 (And.intro hq hm)))
    clear hsn hq2 hq hm
    have hcv := run_convert_bytes_back (P := Try.prog) (wr.alloc (.cells #[.int .u8 ((q : Int) % 256)] 5)) 28 9 5 ⟨wr.heap.size, 0, none⟩ 1 [UInt8.ofNat q] Try.underlying28 Try.underlying5 Try.underlying9 (fun j hj => by
      obtain rfl : j = 0 := by simp at hj; omega
      rw [Addr.add_lit, World.cell?_alloc_at (hn := rfl)]
      simp [UInt8.toNat_ofNat'])
    rw [show [UInt8.ofNat q].length = 1 from rfl] at hcv
    by_cases hlt : j < k
    · go_wp2
      go_roundw
      case rel =>
        obtain ⟨h1, h2, h3, h4⟩ := HQ.out
        refine ⟨j + 1, hlt, by go_num, ?_, ?_, ?_⟩
        · rw [h1, h4]; exact congrArg Value.string ((str_cat _ [UInt8.ofNat q]).trans (by rw [List.append_assoc]))
        · rw [h2]; go_num
        · exact hb.alloc hb.size _
      case measure => simp [intOf]; omega
    · obtain rfl : j = k := by omega
      go_wp2
      go_ret
      exact ⟨ret_str HQ.out.2.2.2, hb⟩

theorem drewN_rfl (w : World) : w.drewN 0 = w := rfl
theorem works_any (w : World) : Calls Try.prog 12 #[] w fun e w' => e = .returned (.bool true) ∧ Below w.heap.size w w' := by
  have hp := put_yes [120] 2 258 w (by simp) (by omega) rfl
  have hcb := fun (w : World) (s : ByteArray) => Lib.run_convert_string_bytes (P := Try.prog) w 9 28 5 s Try.underlying9 Try.underlying28 Try.underlying5
  go_enter Try.func12, Try.ntmps12
  go_wp2_with fail
  refine hp.mono ?_
  rintro e w1 ⟨rfl, hb⟩
  rw [show [120] ++ leB 2 258 = [120, 2, 1] from by decide]
  have hg := get_any (some ⟨w1.heap.size, 0, none⟩) [120, 2, 1] (w1.heap.size + 1) (grownCap w1 3 0 5) 1 2 (Lib.bytesWorld w1 5 ⟨[120, 2, 1].toArray⟩) (bw_RB _ _ _) (by simp) (grownCap_ge _ _ _ _) (by omega)
  rw [show getB [120, 2, 1] 1 2 = 258 from by decide, show ([120, 2, 1] : List UInt8).length = 3 from rfl, show inB 3 1 2 = true from by decide] at hg
  have hg' := Lib.hid hg
  have hb' := Lib.hid hb
  clear hg hb
  go_wp2_with (go_at_call 13; refine hg'.out.mono ?_; rintro e w2 ⟨rfl, nq, rfl⟩)
  go_ret
  exact ⟨rfl, below_drewN (hb'.out.trans ((bw_below _ _ _).mono hb'.out.size)) _⟩
theorem ret_bool {a b : Bool} (h : a = b) : Ending.returned (.bool a) = .returned (.bool b) := by rw [h]
theorem refWithin_any (n : Nat) (at_ k : Int) (w : World) (hn : n ≤ 1000000000) (ha : at_ < 9223372036854775808) :
    Calls Try.prog 28 #[.int .i64 n, .int .i64 at_, .int .i64 k] w fun e w' => e = .returned (.bool (inB n at_ k)) ∧ w = w' := by
  rcases hk : isW k with _ | _
  · have e : inB n at_ k = false := by unfold inB; rw [hk]; rfl
    rw [e]
    have hk' := Lib.hid hk
    clear hk e
    go_enter Try.func28, Try.ntmps28
    go_wp2_with (go_at_call 25; refine (refWidth_any _ _).mono ?_; rintro e w' ⟨rfl, rfl⟩; rw [hk'.out])
    go_ret
    exact ⟨rfl, rfl⟩
  · have hc := isW_cases hk
    have e : inB n at_ k = (decide (0 ≤ at_) && decide ((k : Int) ≤ n) && decide (at_ ≤ (n : Int) - k)) := by
      unfold inB
      rw [hk, Bool.eq_iff_iff]
      simp
      omega
    generalize inB n at_ k = b at e
    have hk' := Lib.hid hk
    have e' := Lib.hid e
    clear hk e
    go_enter Try.func28, Try.ntmps28
    go_wp2_with (go_at_call 25; refine (refWidth_any _ _).mono ?_; rintro e w' ⟨rfl, rfl⟩; rw [hk'.out])
    all_goals
      go_ret
      exact ⟨ret_bool (by rw [e'.out, Bool.eq_iff_iff]; simp; omega), rfl⟩
theorem refGet_no (l : List UInt8) (at_ k : Int) (w : World) (hn : l.length ≤ 1000000000) (ha : at_ < 9223372036854775808) (h : inB l.length at_ k = false) :
    Calls Try.prog 14 #[.string ⟨l.toArray⟩, .int .i64 at_, .int .i64 k] w fun e w' => e = .returned (.tuple #[.int .u32 0, .bool false]) ∧ w = w' := by
  have hw := refWithin_any l.length at_ k w hn ha
  rw [h] at hw
  clear h
  go_enter Try.func14, Try.ntmps14
  go_wp2_with (go_at_call 28; refine hw.mono ?_; rintro e w' ⟨rfl, rfl⟩)
  go_ret2
  exact ⟨rfl, rfl⟩
theorem le_step (l : List UInt8) (a k j : Nat) (h : a + k ≤ l.length) (hj : j < k) :
    le ((l.drop (a + j)).take (k - j)) = (l[a + j]'(by omega)).toNat + 256 * le ((l.drop (a + (j + 1))).take (k - (j + 1))) := by
  rw [List.drop_eq_getElem_cons (by omega), show k - j = (k - (j + 1)) + 1 from by omega, List.take_succ_cons, le, Nat.add_assoc]
theorem refGet_yes (l : List UInt8) (a k : Nat) (w : World) (hn : l.length ≤ 1000000000) (h : inB l.length a k = true) (hb : a + k ≤ l.length) (hk4 : k ≤ 4) :
    Calls Try.prog 14 #[.string ⟨l.toArray⟩, .int .i64 a, .int .i64 k] w fun e w' => e = .returned (.tuple #[.int .u32 (le ((l.drop a).take k) : Nat), .bool true]) ∧ w = w' := by
  have hw := refWithin_any l.length a k w hn (by omega)
  rw [h] at hw
  clear h
  go_enter Try.func14, Try.ntmps14
  go_wp2_with (go_at_call 28; refine hw.mono ?_; rintro e w' ⟨rfl, rfl⟩)
  clear hw
  go_loop [8, 9] (fun v i => ∃ j : Nat, j ≤ k ∧ i = .int .i64 ((j : Int) - 1) ∧ v = .int .u32 (le ((l.drop (a + j)).take (k - j)) : Nat)) (fun _ i => (intOf i + 1).toNat)
  case atStart => exact ⟨k, Nat.le_refl _, rfl, by simp [le]⟩
  case round =>
    obtain ⟨j, hj, rfl, rfl⟩ := hrel
    cases j with
    | zero =>
      go_wp2
      go_ret2
      exact ⟨by simp, rfl⟩
    | succ j =>
      have hs := le_step l a k j hb (by omega)
      have hV : le ((l.drop (a + (j + 1))).take (k - (j + 1))) < 16777216 := by
        have := le_lt ((l.drop (a + (j + 1))).take (k - (j + 1)))
        refine Nat.lt_of_lt_of_le this ?_
        refine Nat.le_trans (Nat.pow_le_pow_right (by omega) (?_ : _ ≤ 3)) (by omega)
        simp; omega
      have hx := (l[a + j]'(by omega)).toNat_lt
      have e1 : (((j + 1 : Nat) : Int) - 1) = j := by omega
      rw [e1]
      generalize le ((l.drop (a + (j + 1))).take (k - (j + 1))) = V at hs hV ⊢
      have hs' := Lib.hid hs
      clear hs e1
      go_wp2
      go_round
      case rel =>
        refine ⟨j, by omega, rfl, congrArg (Value.int .u32) ?_⟩
        rw [hs'.out]
        show ((V : Int) * 256 + ((l[a + j]'(by omega)).toNat : Int) % 4294967296) % 4294967296 = _
        omega
      case measure => simp [intOf]

theorem refGet_any (l : List UInt8) (at_ k : Int) (w : World) (hn : l.length ≤ 1000000000) (ha : at_ < 9223372036854775808) :
    Calls Try.prog 14 #[.string ⟨l.toArray⟩, .int .i64 at_, .int .i64 k] w fun e w' => e = .returned (.tuple #[.int .u32 (getB l at_ k : Nat), .bool (inB l.length at_ k)]) ∧ w = w' := by
  rcases hi : inB l.length at_ k with _ | _
  · have e : getB l at_ k = 0 := by unfold getB; rw [hi]; rfl
    rw [e]
    exact refGet_no l at_ k w hn ha hi
  · obtain ⟨hk, h0, h1⟩ := inB_yes hi
    have hw := isW_cases hk
    obtain ⟨a, rfl⟩ := Int.eq_ofNat_of_zero_le h0
    obtain ⟨k, rfl⟩ := Int.eq_ofNat_of_zero_le (show 0 ≤ k by omega)
    have e : getB l a k = le ((l.drop a).take k) := by unfold getB; rw [hi]; rfl
    rw [e]
    exact refGet_yes l a k w hn hi (by omega) (by omega)
theorem below3 {a b c d : World} (h1 : Below a.heap.size a b) (h2 : Below b.heap.size b c) (h3 : Below c.heap.size c d) : Below a.heap.size a d :=
  have h12 := h1.trans (h2.mono h1.size)
  h12.trans (h3.mono h12.size)
def putB (l : List UInt8) (k : Int) (v : Nat) : List UInt8 := if isW k then l ++ leB k.toNat v else l
theorem put_any (l : List UInt8) (k : Int) (v : Nat) (w : World) (hl : l.length ≤ 8000000) (hv : v < 4294967296) :
    Calls Try.prog 10 #[.string ⟨l.toArray⟩, .int .i64 k, .int .u32 v] w fun e w' => e = .returned (.string ⟨(putB l k v).toArray⟩) ∧ Below w.heap.size w w' := by
  unfold putB
  rcases hk : isW k with _ | _
  · exact (put_no l k v w hk).mono fun e w' ⟨h1, h2⟩ => ⟨h1, by rw [← h2]; exact Below.refl _ _⟩
  · have hw := isW_cases hk
    obtain ⟨k, rfl⟩ := Int.eq_ofNat_of_zero_le (show 0 ≤ k by omega)
    exact put_yes l k v w hl hv hk
theorem refPut_any (l : List UInt8) (k : Int) (v : Nat) (w : World) (hl : l.length ≤ 8000000) (hv : v < 4294967296) :
    Calls Try.prog 11 #[.string ⟨l.toArray⟩, .int .i64 k, .int .u32 v] w fun e w' => e = .returned (.string ⟨(putB l k v).toArray⟩) ∧ Below w.heap.size w w' := by
  unfold putB
  rcases hk : isW k with _ | _
  · exact (refPut_no l k v w hk).mono fun e w' ⟨h1, h2⟩ => ⟨h1, by rw [← h2]; exact Below.refl _ _⟩
  · have hw := isW_cases hk
    obtain ⟨k, rfl⟩ := Int.eq_ofNat_of_zero_le (show 0 ≤ k by omega)
    exact refPut_yes l k v w hl hv hk
end Go.Proofs.Ytedhpjolbgfdeaa
