/- The document's arena in memory; its contracts: width, there, Read. No statement is proved here.; Contracts of the document's arena: Load. No statement is proved here.; Contracts of the document's arena: Write. No statement is proved here.; Contracts of the document's arena: Store. No statement is proved here. -/
import Derived.Test.YtpopfmboonjplaaArZC
import Derived.Test.YtpopfmboonjplaaCapL
import Derived.StillTailTactics
namespace Go.Proofs.Ytpopfmboonjplaa
open Go.RowKit
set_option linter.unusedVariables false

/-- At block r stands the document's arena of n bytes l, of g granules, whose tags are as f tells: its bytes in the block rb, its truths in tb. -/
structure RfAt (W : World) (r rb tb n g : Nat) (f : Nat → Bool) (l : List UInt8) : Prop where
  q0 : W.cell? ⟨r, 0, none⟩ = some (.slice (some ⟨rb, 0, none⟩) n n)
  q1 : W.cell? ⟨r, 1, none⟩ = some (.slice (some ⟨tb, 0, none⟩) g g)
  by_ : ∀ j u, l[j]? = some u → W.cell? ⟨rb, j, none⟩ = some (vb u)
  bf : ∀ j, j < n → W.frozen? ⟨rb, j, none⟩ = false
  tg : ∀ j, j < g → W.cell? ⟨tb, j, none⟩ = some (.bool (f j)) ∧ W.frozen? ⟨tb, j, none⟩ = false
  len : l.length = n
  hn : n = 16 * g
  lo : 256 ≤ g
  hi : g ≤ 16384
  n1 : r ≠ rb
  n2 : r ≠ tb
  n3 : rb ≠ tb
  la : r < W.heap.size
  lb : rb < W.heap.size
  lt : tb < W.heap.size
section
variable {W W' : World} {r rb tb n g : Nat} {f f' : Nat → Bool} {l l' : List UInt8}
theorem RfAt.keep (h : RfAt W r rb tb n g f l) (hk : ∀ k, k = r ∨ k = rb ∨ k = tb → W'.heap[k]? = W.heap[k]?) (hs : W.heap.size ≤ W'.heap.size) : RfAt W' r rb tb n g f l :=
  ⟨(World.cell?_of_block (hk r (.inl rfl))).trans h.q0, (World.cell?_of_block (hk r (.inl rfl))).trans h.q1, fun j u hu => (World.cell?_of_block (hk rb (.inr (.inl rfl)))).trans (h.by_ j u hu),
    fun j hj => (World.frozen?_of_block (hk rb (.inr (.inl rfl)))).trans (h.bf j hj), fun j hj => ⟨(World.cell?_of_block (hk tb (.inr (.inr rfl)))).trans (h.tg j hj).1, (World.frozen?_of_block (hk tb (.inr (.inr rfl)))).trans (h.tg j hj).2⟩,
    h.len, h.hn, h.lo, h.hi, h.n1, h.n2, h.n3, Nat.lt_of_lt_of_le h.la hs, Nat.lt_of_lt_of_le h.lb hs, Nat.lt_of_lt_of_le h.lt hs⟩
theorem RfAt.below (h : RfAt W r rb tb n g f l) (hb : Below W.heap.size W W') : RfAt W' r rb tb n g f l :=
  h.keep (fun k hk => hb.block k (by have := h.la; have := h.lb; have := h.lt; omega)) hb.size
theorem RfAt.of2 {x y : Nat} (h : RfAt W r rb tb n g f l) (hb : Of2 W.heap.size x y W W') (hx : r ≠ x ∧ rb ≠ x ∧ tb ≠ x) (hy : r ≠ y ∧ rb ≠ y ∧ tb ≠ y) : RfAt W' r rb tb n g f l :=
  h.keep (fun k hk => hb.block k (by have := h.la; have := h.lb; have := h.lt; omega) (by omega) (by omega)) hb.size
theorem RfAt.drew (h : RfAt W r rb tb n g f l) : RfAt W.drew r rb tb n g f l := h.keep (fun _ _ => rfl) (Nat.le_refl _)
theorem RfAt.ext (h : RfAt W r rb tb n g f l) (e : ∀ k, k < g → f k = f' k) (e2 : l = l') : RfAt W r rb tb n g f' l' :=
  e2 ▸ ⟨h.q0, h.q1, h.by_, h.bf, fun j hj => e j hj ▸ h.tg j hj, h.len, h.hn, h.lo, h.hi, h.n1, h.n2, h.n3, h.la, h.lb, h.lt⟩
/-- A byte stored. -/
theorem RfAt.byte (h : RfAt W r rb tb n g f l) {k : Nat} (hk : k < n) (u : UInt8) : RfAt (W.setCell ⟨rb, k, none⟩ (vb u)) r rb tb n g f (l.set k u) := by
  have ho : ∀ q, q ≠ rb → (W.setCell ⟨rb, k, none⟩ (vb u)).heap[q]? = W.heap[q]? := fun q hq => Below.heap_setCell _ _ _ _ hq
  refine ⟨(World.cell?_of_block (ho r h.n1)).trans h.q0, (World.cell?_of_block (ho r h.n1)).trans h.q1, fun j x hx => ?_, fun j hj => (World.frozen?_setCell _ _ _ _).trans (h.bf j hj), fun j hj => ⟨(World.cell?_of_block (ho tb (Ne.symm h.n3))).trans (h.tg j hj).1, (World.frozen?_setCell _ _ _ _).trans (h.tg j hj).2⟩,
    by simp [h.len], h.hn, h.lo, h.hi, h.n1, h.n2, h.n3, by simpa [World.setCell] using h.la, by simpa [World.setCell] using h.lb, by simpa [World.setCell] using h.lt⟩
  by_cases e : j = k
  · subst e
    have hj : j < l.length := by have := (List.getElem?_eq_some_iff.1 hx).1; simpa using this
    rw [List.getElem?_set_self hj] at hx
    cases hx
    exact World.cell?_setCell_same' _ _ _ (by rw [h.by_ j _ (List.getElem?_eq_getElem hj)]; rfl)
  · rw [List.getElem?_set_ne (Ne.symm e)] at hx
    rw [World.cell?_setCell_other _ _ _ _ (fun e' => e (by simpa using (congrArg Addr.off e').symm))]
    exact h.by_ j x hx
/-- A tag put. -/
theorem RfAt.tag (h : RfAt W r rb tb n g f l) {k : Nat} (hk : k < g) (v : Bool) : RfAt (W.setCell ⟨tb, k, none⟩ (.bool v)) r rb tb n g (upd f k v) l := by
  have ho : ∀ q, q ≠ tb → (W.setCell ⟨tb, k, none⟩ (.bool v)).heap[q]? = W.heap[q]? := fun q hq => Below.heap_setCell _ _ _ _ hq
  refine ⟨(World.cell?_of_block (ho r h.n2)).trans h.q0, (World.cell?_of_block (ho r h.n2)).trans h.q1, fun j x hx => (World.cell?_of_block (ho rb h.n3)).trans (h.by_ j x hx), fun j hj => (World.frozen?_setCell _ _ _ _).trans (h.bf j hj), fun j hj => ⟨?_, (World.frozen?_setCell _ _ _ _).trans (h.tg j hj).2⟩,
    h.len, h.hn, h.lo, h.hi, h.n1, h.n2, h.n3, by simpa [World.setCell] using h.la, by simpa [World.setCell] using h.lb, by simpa [World.setCell] using h.lt⟩
  by_cases e : j = k
  · subst e
    rw [upd_same]
    exact World.cell?_setCell_same' _ _ _ (by rw [(h.tg j hj).1]; rfl)
  · rw [upd_ne _ _ e, World.cell?_setCell_other _ _ _ _ (fun e' => e (by simpa using (congrArg Addr.off e').symm))]
    exact (h.tg j hj).1
theorem RfAt.ln (h : RfAt W r rb tb n g f l) : n ≤ 262144 := by have := h.hn; have := h.hi; omega
end
/-- A call on the document's arena has answered v. -/
def Rxt (r rb tb n g : Nat) (f : Nat → Bool) (l : List UInt8) (w : World) (v : Value) (e : Ending) (w' : World) : Prop :=
  e = .returned v ∧ RfAt w' r rb tb n g f l ∧ Of2 w.heap.size rb tb w w'
theorem rxt_below {r rb tb n g : Nat} {f : Nat → Bool} {l : List UInt8} {w w' : World} {v : Value} {e : Ending} (H : RfAt w r rb tb n g f l) (h : e = .returned v ∧ Below w.heap.size w w') : Rxt r rb tb n g f l w v e w' :=
  ⟨h.1, H.below h.2, Of2.of_below h.2⟩
theorem rwidth_any (n : Int) (w : World) : Calls Try.prog 76 #[.int .i64 n] w fun e w' => e = .returned (.bool (isW n)) ∧ w = w' := by
  by_cases h1 : n = 1
  · subst h1
    go_enter Try.func76, Try.ntmps76
    go_wp2
    go_ret
    exact ⟨rfl, rfl⟩
  · by_cases h2 : n = 2
    · subst h2
      go_enter Try.func76, Try.ntmps76
      go_wp2
      go_ret
      exact ⟨rfl, rfl⟩
    · by_cases h4 : n = 4
      · subst h4
        go_enter Try.func76, Try.ntmps76
        go_wp2
        go_ret
        exact ⟨rfl, rfl⟩
      · skip
        go_enter Try.func76, Try.ntmps76
        go_wp2
        go_ret
        exact ⟨ret_bool (by unfold isW; rfl), rfl⟩
section
variable {r rb tb n g : Nat} {f : Nat → Bool} {l : List UInt8} {w : World}
theorem rthere_any (H : RfAt w r rb tb n g f l) (at_ : Nat) (k : Int) (la : at_ < 4294967296) (hk : -9223372036854775808 ≤ k ∧ k < 9223372036854775808) :
    Calls Try.prog 77 #[.pointer (some ⟨r, 0, none⟩), .int .u32 at_, .int .i64 k] w fun e w' => e = .returned (.bool (thr n at_ k)) ∧ w = w' := by
  have q0 := H.q0
  have hn := H.ln
  obtain ⟨h1, h2⟩ := hk
  clear H
  by_cases h0 : 0 ≤ k
  · by_cases h3 : k ≤ n
    · have hT := Lib.hid (show thr n at_ k = decide ((at_ : Int) ≤ (n : Int) - k) by
        simp only [thr, decide_eq_true h0, Bool.true_and]
        exact decide_eq_decide.2 (by omega))
      go_enter Try.func77, Try.ntmps77
      go_wp2
      go_ret
      exact ⟨ret_bool (by rw [hT.out]), rfl⟩
    · have h3' : (n : Int) < k := by omega
      have hT := Lib.hid (show thr n at_ k = false by simp [thr]; omega)
      clear h3
      go_enter Try.func77, Try.ntmps77
      go_wp2
      go_ret
      exact ⟨ret_bool (by rw [hT.out]), rfl⟩
  · have h0' : k < 0 := by omega
    have hT := Lib.hid (show thr n at_ k = false by simp [thr]; omega)
    clear h0
    go_enter Try.func77, Try.ntmps77
    go_wp2
    go_ret
    exact ⟨ret_bool (by rw [hT.out]), rfl⟩
theorem rread_no (H : RfAt w r rb tb n g f l) (at_ : Nat) (k : Int) (la : at_ < 4294967296) (hk : -9223372036854775808 ≤ k ∧ k < 9223372036854775808) (h : thr n at_ k = false) :
    Calls Try.prog 56 #[.pointer (some ⟨r, 0, none⟩), .int .u32 at_, .int .i64 k] w fun e w' => e = .returned (.tuple #[.string ⟨#[]⟩, .bool false]) ∧ Below w.heap.size w w' := by
  have hT := Lib.hid (rthere_any H at_ k la hk)
  rw [h] at hT
  clear H h hk
  go_enter Try.func56, Try.ntmps56
  go_wp2_with fail
  refine hT.out.mono ?_
  rintro e w2 ⟨rfl, rfl⟩
  go_wp2
  go_ret2
  exact ⟨rfl, Below.refl _ _⟩
set_option maxRecDepth 100000 in
theorem rread_yes (H : RfAt w r rb tb n g f l) (at_ k : Nat) (la : at_ < 4294967296) (h : at_ + k ≤ n) :
    Calls Try.prog 56 #[.pointer (some ⟨r, 0, none⟩), .int .u32 at_, .int .i64 k] w fun e w' => e = .returned (.tuple #[.string ⟨((l.drop at_).take k).toArray⟩, .bool true]) ∧ Below w.heap.size w w' := by
  have hn := H.ln
  have hT := Lib.hid (rthere_any H at_ k la (by omega))
  rw [thr_iff.2 h] at hT
  have q0 := H.q0
  have hlen : ((l.drop at_).take k).length = k := by have := H.len; simp; omega
  have hconv : ∀ off cp, (k = 0 ∨ off = at_) → (convert 28 9 (.slice (some ⟨rb, off, none⟩) k cp)).run Try.prog w = .ok (.string ⟨((l.drop at_).take k).toArray⟩) w := fun off cp ho => by
    have := run_convert_bytes_back (P := Try.prog) w 28 9 5 ⟨rb, off, none⟩ cp ((l.drop at_).take k) Try.underlying28 Try.underlying5 Try.underlying9 (fun j hj => by
      rw [Addr.add_lit]
      rw [hlen] at hj
      have : off = at_ := by omega
      subst this
      refine (H.by_ (off + j) _ ?_).trans rfl
      rw [List.getElem_take, List.getElem_drop]
      exact List.getElem?_eq_getElem _)
    rwa [hlen] at this
  have i1 : (at_ : Int) + k ≤ n := by omega
  clear H h hlen
  rcases Nat.eq_zero_or_pos k with h0 | h0
  · subst h0
    have hc := fun off cp => hconv off cp (.inl rfl)
    clear hconv
    rcases Nat.lt_or_ge at_ n with h1 | h1
    · have i2 : (at_ : Int) < n := by omega
      go_enter Try.func56, Try.ntmps56
      go_wp2_with fail
      refine hT.out.mono ?_
      rintro e w2 ⟨rfl, rfl⟩
      go_wp2
      go_ret2
      exact ⟨rfl, Below.refl _ _⟩
    · obtain rfl : at_ = n := by omega
      go_enter Try.func56, Try.ntmps56
      go_wp2_with fail
      refine hT.out.mono ?_
      rintro e w2 ⟨rfl, rfl⟩
      go_wp2
      go_ret2
      exact ⟨rfl, Below.refl _ _⟩
  · have hc := fun cp => hconv at_ cp (.inr rfl)
    have i2 : (at_ : Int) < n := by omega
    have i3 : 0 < (k : Int) := by omega
    have e4 : ((at_ : Int) + k).toNat - at_ = k := by omega
    clear hconv
    go_enter Try.func56, Try.ntmps56
    go_wp2_with fail
    refine hT.out.mono ?_
    rintro e w2 ⟨rfl, rfl⟩
    go_wp2
    go_ret2
    exact ⟨rfl, Below.refl _ _⟩
end
end Go.Proofs.Ytpopfmboonjplaa
namespace Go.Proofs.Ytpopfmboonjplaa
open Go.RowKit
set_option linter.unusedVariables false
section
variable {r rb tb n g : Nat} {f : Nat → Bool} {l : List UInt8} {w : World}
theorem inB_thr {n at_ : Nat} {k : Int} : inB n at_ k = (isW k && thr n at_ k) := by
  unfold inB thr
  rcases hw : isW k with _ | _
  · simp
  · have := isW_cases hw
    rw [Bool.eq_iff_iff]
    simp
    omega
set_option maxRecDepth 100000 in
theorem rload_no (H : RfAt w r rb tb n g f l) (at_ : Nat) (k : Int) (la : at_ < 4294967296) (hk : -9223372036854775808 ≤ k ∧ k < 9223372036854775808) (h : inB n at_ k = false) :
    Calls Try.prog 54 #[.pointer (some ⟨r, 0, none⟩), .int .u32 at_, .int .i64 k] w fun e w' => e = .returned (.tuple #[.int .u32 0, .bool false]) ∧ w = w' := by
  have hW := Lib.hid (rwidth_any k w)
  have hT := Lib.hid (rthere_any H at_ k la hk)
  rw [inB_thr] at h
  clear H hk
  rcases hw : isW k with _ | _
  · rw [hw] at hW
    clear h hw
    go_enter Try.func54, Try.ntmps54
    go_wp2_with fail
    refine hW.out.mono ?_
    rintro e w2 ⟨rfl, rfl⟩
    go_wp2
    go_ret2
    exact ⟨rfl, rfl⟩
  · rw [hw, Bool.true_and] at h
    rw [hw] at hW
    rw [h] at hT
    clear h hw
    go_enter Try.func54, Try.ntmps54
    go_wp2_with fail
    refine hW.out.mono ?_
    rintro e w2 ⟨rfl, rfl⟩
    go_wp2_with fail
    refine hT.out.mono ?_
    rintro e w2 ⟨rfl, rfl⟩
    go_wp2
    go_ret2
    exact ⟨rfl, rfl⟩
set_option maxRecDepth 100000 in
theorem rload_yes (H : RfAt w r rb tb n g f l) (at_ k : Nat) (la : at_ < 4294967296) (h : isW (k : Int) = true) (hb : at_ + k ≤ n) :
    Calls Try.prog 54 #[.pointer (some ⟨r, 0, none⟩), .int .u32 at_, .int .i64 k] w fun e w' => e = .returned (.tuple #[.int .u32 (le ((l.drop at_).take k) : Nat), .bool true]) ∧ w = w' := by
  have hW := Lib.hid (rwidth_any k w)
  rw [h] at hW
  have hk4 : k ≤ 4 := by have := isW_cases h; omega
  have hT := Lib.hid (rthere_any H at_ k la (by omega))
  rw [thr_iff.2 hb] at hT
  have q0 := H.q0
  have hH := Lib.hid H
  have hn := H.ln
  clear H h
  go_enter Try.func54, Try.ntmps54
  go_wp2_with fail
  refine hW.out.mono ?_
  rintro e w2 ⟨rfl, rfl⟩
  go_wp2_with fail
  refine hT.out.mono ?_
  rintro e w2 ⟨rfl, rfl⟩
  go_wp2_with fail
  go_loop [8, 9] (fun v i => ∃ j : Nat, j ≤ k ∧ i = .int .i64 j ∧ v = .int .u32 (le ((l.drop at_).take j) : Nat)) (fun _ i => k - (intOf i).toNat)
  case atStart => exact ⟨0, by omega, rfl, by simp [le]⟩
  case round =>
    obtain ⟨j, hj, rfl, rfl⟩ := hrel
    by_cases hlt : j < k
    · have hlt' : (j : Int) < k := by omega
      have hj8 : (j : Int) ≤ 3 := by omega
      have hi0 : (at_ : Int) + j < n := by omega
      have hx : le ((l.drop at_).take j) < 256 ^ j := by
        have := le_lt ((l.drop at_).take j)
        rwa [List.length_take, List.length_drop, show min j (l.length - at_) = j from by have := hH.out.len; omega] at this
      have hlt2 : at_ + j < l.length := by have := hH.out.len; omega
      have hsn := Lib.hid (show le ((l.drop at_).take (j + 1)) = le ((l.drop at_).take j) + (l[at_ + j]).toNat * 256 ^ j from by
        rw [take_more hlt2, le_snoc, List.length_take, List.length_drop, show min j (l.length - at_) = j from by omega])
      have hc : w.cell? ⟨rb, at_ + j, none⟩ = some (.int .u8 (l[at_ + j].toNat : Int)) := hH.out.by_ (at_ + j) _ (List.getElem?_eq_getElem hlt2)
      have hu := (l[at_ + j]).toNat_lt
      generalize (l[at_ + j]).toNat = u at *
      replace hx := Lib.hid hx
      have hu' := Lib.hid hu
      have hu2 : (u : Int) < 256 := by omega
      clear hlt2 hu
      go_wp2_with fail
      go_round
      case rel =>
        refine ⟨j + 1, by omega, by go_num, ?_⟩
        rw [hsn.out, ← or_byte hx.out hu'.out (by omega)]
        rw [show (u : Int) % 4294967296 = (u : Int) from by omega]
      case measure => simp [intOf]; omega
    · obtain rfl : j = k := by omega
      go_wp2_with fail
      go_ret2
      exact ⟨rfl, rfl⟩
theorem rload_any (H : RfAt w r rb tb n g f l) (at_ : Nat) (k : Int) (la : at_ < 4294967296) (hk : -9223372036854775808 ≤ k ∧ k < 9223372036854775808) :
    Calls Try.prog 54 #[.pointer (some ⟨r, 0, none⟩), .int .u32 at_, .int .i64 k] w fun e w' => e = .returned (.tuple #[.int .u32 (getB l at_ k : Nat), .bool (inB n at_ k)]) ∧ Below w.heap.size w w' := by
  rcases hi : inB n at_ k with _ | _
  · have e : getB l at_ k = 0 := by unfold getB; rw [H.len, hi]; rfl
    rw [e]
    exact (rload_no H at_ k la hk hi).mono fun _ _ h => ⟨h.1, h.2 ▸ Below.refl _ _⟩
  · have h2 := inB_yes hi
    obtain ⟨k, rfl⟩ := Int.eq_ofNat_of_zero_le (show 0 ≤ k by have := isW_cases h2.1; omega)
    have e : getB l at_ (k : Int) = le ((l.drop at_).take k) := by unfold getB; rw [H.len, hi, if_pos rfl]; rfl
    rw [e]
    exact (rload_yes H at_ k la h2.1 (by omega)).mono fun _ _ h => ⟨h.1, h.2 ▸ Below.refl _ _⟩
end
end Go.Proofs.Ytpopfmboonjplaa
namespace Go.Proofs.Ytpopfmboonjplaa
open Go.RowKit
set_option linter.unusedVariables false
theorem ovr_at {l b : List UInt8} {k i : Nat} (h : k + b.length ≤ l.length) : (ovr l k b)[i]? = if i < k then l[i]? else if i < k + b.length then b[i - k]? else l[i]? := by
  have h3 : (l.take k).length = k := by simp; omega
  unfold ovr
  rcases Nat.lt_or_ge i k with hi | hi
  · rw [List.getElem?_append_left (by omega), List.getElem?_take, if_pos hi, if_pos hi]
  · rw [List.getElem?_append_right (by omega), h3, if_neg (by omega)]
    rcases Nat.lt_or_ge (i - k) b.length with hi2 | hi2
    · rw [List.getElem?_append_left (by omega), if_pos (by omega)]
    · rw [List.getElem?_append_right (by omega), List.getElem?_drop, if_neg (by omega)]
      congr 1
      omega
theorem ovr_step {l s : List UInt8} {k j : Nat} {u : UInt8} (hk : k + j < l.length) (hu : s[j]? = some u) : (ovr l k (s.take j)).set (k + j) u = ovr l k (s.take (j + 1)) := by
  have hj : j < s.length := (List.getElem?_eq_some_iff.1 hu).1
  have h1 : (s.take j).length = j := by simp; omega
  have h2 : (s.take (j + 1)).length = j + 1 := by simp; omega
  have L1 : (ovr l k (s.take j)).length = l.length := ovr_length (by omega)
  apply List.ext_getElem?
  intro i
  rw [List.getElem?_set, ovr_at (by omega), ovr_at (by omega), h1, h2]
  by_cases he : k + j = i
  · subst he
    rw [if_pos rfl, if_pos (by omega), if_neg (by omega), if_pos (by omega), List.getElem?_take, if_pos (by omega), Nat.add_sub_cancel_left, hu]
  · rw [if_neg he]
    rcases Nat.lt_or_ge i k with hi | hi
    · simp only [if_pos hi]
    · simp only [if_neg (show ¬ i < k by omega)]
      rcases Nat.lt_or_ge i (k + j) with hi2 | hi2
      · simp only [if_pos hi2, if_pos (show i < k + (j + 1) by omega), List.getElem?_take, if_pos (show i - k < j by omega), if_pos (show i - k < j + 1 by omega)]
      · simp only [if_neg (show ¬ i < k + j by omega), if_neg (show ¬ i < k + (j + 1) by omega)]
section
variable {r rb tb n g : Nat} {f : Nat → Bool} {l : List UInt8} {w : World}
set_option maxRecDepth 100000 in
theorem rwrite_no (H : RfAt w r rb tb n g f l) (at_ : Nat) (s : List UInt8) (la : at_ < 4294967296) (ls : s.length < 9223372036854775808) (h : thr n at_ s.length = false) :
    Calls Try.prog 51 #[.pointer (some ⟨r, 0, none⟩), .int .u32 at_, .string ⟨s.toArray⟩] w fun e w' => e = .returned (.bool false) ∧ w = w' := by
  have hT := Lib.hid (rthere_any H at_ s.length la (by omega))
  rw [h] at hT
  have hsz := size_list s
  clear H h
  go_enter Try.func51, Try.ntmps51
  go_wp2_with fail
  refine hT.out.mono ?_
  rintro e w2 ⟨rfl, rfl⟩
  go_wp2
  go_ret
  exact ⟨rfl, rfl⟩
set_option maxRecDepth 100000 in
set_option maxHeartbeats 2000000 in
theorem rwrite_yes (H : RfAt w r rb tb n g f l) (at_ : Nat) (s : List UInt8) (la : at_ < 4294967296) (h : at_ + s.length ≤ n) :
    Calls Try.prog 51 #[.pointer (some ⟨r, 0, none⟩), .int .u32 at_, .string ⟨s.toArray⟩] w (Rxt r rb tb n g (clr f at_ s.length) (ovr l at_ s) w (.bool true)) := by
  have hn := H.ln
  have hT := Lib.hid (rthere_any H at_ s.length la (by omega))
  rw [thr_iff.2 h] at hT
  have hH := Lib.hid H
  have hh := Lib.hid h
  have j0 : (at_ : Int) + s.length ≤ n := by omega
  clear H h
  go_enter Try.func51, Try.ntmps51
  go_wp2_with fail
  refine hT.out.mono ?_
  rintro e w2 ⟨rfl, rfl⟩
  go_wp2_with fail
  go_loopw [7] (fun i wr => ∃ j : Nat, j ≤ s.length ∧ i = .int .i64 j ∧ RfAt wr r rb tb n g (clr f at_ j) (ovr l at_ (s.take j)) ∧ Of2 w.heap.size rb tb w wr) (fun i _ => s.length - (intOf i).toNat)
  case atStart => exact ⟨0, by omega, rfl, by rw [clr_zero, List.take_zero, ovr_nil]; exact hH.out, Of2.refl _ _ _ _⟩
  case round =>
    obtain ⟨j, hj, rfl, R, O⟩ := hrel
    have R1 := Lib.hid R
    have O1 := Lib.hid O
    have jj : (j : Int) ≤ s.length := by omega
    by_cases hlt : j < s.length
    · have jlt : (j : Int) < s.length := by omega
      have q0 := R.q0
      have q1 := R.q1
      have hk : at_ + j < n := by have := hh.out; omega
      have hkl : at_ + j < (ovr l at_ (s.take j)).length := by rw [R.len]; exact hk
      have b0 := R.by_ (at_ + j) _ (List.getElem?_eq_getElem hkl)
      have b1 := R.bf (at_ + j) hk
      clear R O
      go_wp2_with fail
      have t1 : IntKind.i64.wrap ((at_ : Int) + j) = (at_ : Int) + j := by rw [IntKind.wrap_i64]; omega
      have t2 : ((at_ : Int) + j).toNat = at_ + j := by omega
      have jb : (at_ : Int) + j < n := by omega
      have jn : 0 ≤ (at_ : Int) + j := by omega
      have t0 : IntKind.i64.wrap (at_ : Int) = (at_ : Int) := by rw [IntKind.wrap_i64]; omega
      have hsz := size_list s
      have hgl := Lib.hid (List.getElem?_eq_getElem hlt)
      go_still_tail 12, (by kernel_rfl)
      repeat still_step
      change wpList _ _ _ _ _ wr.drew
      have R2 := Lib.hid R1.out.drew
      have O2 := Lib.hid O1.out.drew
      have c0 : wr.drew.cell? ⟨rb, at_ + j, none⟩ = _ := b0
      have c1 : wr.drew.frozen? ⟨rb, at_ + j, none⟩ = false := b1
      generalize wr.drew = w3 at *
      clear q0 q1 b0 b1 R1 O1 t0 t1
      have R3 := Lib.hid (R2.out.byte hk (s[j]'hlt))
      have O3 := Lib.hid (O2.out.setCell (p := ⟨rb, at_ + j, none⟩) (.inr (.inl rfl)) (vb (s[j]'hlt)))
      go_upto_region 7 with (fail)
      change Code.wp _ _ _ _ (w3.setCell ⟨rb, at_ + j, none⟩ (vb (s[j]'hlt)))
      generalize w3.setCell ⟨rb, at_ + j, none⟩ (vb (s[j]'hlt)) = w4 at *
      clear c0 c1
      have q0 := R3.out.q0
      have q1 := R3.out.q1
      have hg := R3.out.hn
      obtain ⟨p, hp⟩ : ∃ p, p = (at_ + j) / 16 := ⟨_, rfl⟩
      have ep : ((at_ : Int) + j) / 16 = (p : Int) := by omega
      have hpg : p < g := by omega
      have jp : (p : Int) < g := by omega
      obtain ⟨d0, d1⟩ := R3.out.tg p hpg
      have R4 := Lib.hid ((R3.out.tag hpg false).ext (f' := clr f at_ (j + 1)) (l' := ovr l at_ (s.take (j + 1))) (fun i hi => by
        unfold upd
        simp only [clr, tch]
        split
        · rw [Bool.eq_iff_iff]
          simp
          omega
        · rw [Bool.eq_iff_iff]
          simp
          omega) (ovr_step (by have := hH.out.len; omega) hgl.out))
      have O4 := Lib.hid (O3.out.setCell (p := ⟨tb, p, none⟩) (.inr (.inr rfl)) (.bool false))
      clear hp hg R3 O3
      go_wp2_with fail
      go_roundw
      case rel => exact ⟨j + 1, by omega, by go_num, R4.out, O4.out⟩
      case measure => simp [intOf]; omega
    · obtain rfl : j = s.length := by omega
      clear R O
      go_wp2_with fail
      go_ret
      refine ⟨rfl, ?_, O1.out⟩
      have := R1.out
      rwa [List.take_length] at this
theorem rwrite_any (H : RfAt w r rb tb n g f l) (at_ : Nat) (s : List UInt8) (la : at_ < 4294967296) (ls : s.length < 9223372036854775808) :
    Calls Try.prog 51 #[.pointer (some ⟨r, 0, none⟩), .int .u32 at_, .string ⟨s.toArray⟩] w (Rxt r rb tb n g (stF n f at_ s.length) (stL n l at_ s) w (.bool (thr n at_ s.length))) := by
  rcases ht : thr n at_ s.length with _ | _
  · refine (rwrite_no H at_ s la ls ht).mono fun e w' k => ?_
    have := rxt_below H (show e = .returned (.bool false) ∧ Below w.heap.size w w' from ⟨k.1, by rw [← k.2]; exact Below.refl _ _⟩)
    simpa [stF, stL, ht] using this
  · refine (rwrite_yes H at_ s la (thr_iff.1 ht)).mono fun e w' k => ?_
    simpa [stF, stL, ht] using k
end
end Go.Proofs.Ytpopfmboonjplaa
namespace Go.Proofs.Ytpopfmboonjplaa
open Go.RowKit
set_option linter.unusedVariables false
/-- A row of k bytes of the call's own, of which the first are s. -/
structure FB (w : World) (B k : Nat) (s : List UInt8) (wr : World) : Prop where
  bel : Below B w wr
  fil : ∀ i u, s[i]? = some u → wr.cell? ⟨B, i, none⟩ = some (vb u)
  all : ∀ i, i < k → (∃ x, wr.cell? ⟨B, i, none⟩ = some x) ∧ wr.frozen? ⟨B, i, none⟩ = false
theorem FB.step {w wr : World} {B k : Nat} {s : List UInt8} (h : FB w B k s wr) (u : UInt8) (hk : s.length < k) : FB w B k (s ++ [u]) (wr.setCell ⟨B, s.length, none⟩ (vb u)) := by
  have hc : ∀ i, i ≠ s.length → (wr.setCell ⟨B, s.length, none⟩ (vb u)).cell? ⟨B, i, none⟩ = wr.cell? ⟨B, i, none⟩ := fun i hi => World.cell?_setCell_other _ _ _ _ (fun e => hi (by simpa using (congrArg Addr.off e).symm))
  have hs : (wr.setCell ⟨B, s.length, none⟩ (vb u)).cell? ⟨B, s.length, none⟩ = some (vb u) := by
    obtain ⟨x, hx⟩ := (h.all s.length hk).1
    exact World.cell?_setCell_same' _ _ _ (by rw [hx]; rfl)
  refine ⟨h.bel.setCell (Nat.le_refl _) _, fun i x hx => ?_, fun i hi => ⟨?_, (World.frozen?_setCell _ _ _ _).trans (h.all i hi).2⟩⟩
  · rcases Nat.lt_or_ge i s.length with h1 | h1
    · rw [List.getElem?_append_left h1] at hx
      exact (hc i (by omega)).trans (h.fil i x hx)
    · have h2 : i = s.length := by
        have := (List.getElem?_eq_some_iff.1 hx).1
        simp at this
        omega
      subst h2
      simp at hx
      subst hx
      exact hs
  · by_cases e : i = s.length
    · subst e; exact ⟨_, hs⟩
    · exact (h.all i hi).1.imp fun x hx => (hc i e).trans hx
section
variable {r rb tb n g : Nat} {f : Nat → Bool} {l : List UInt8} {w : World}
theorem rstore_no (H : RfAt w r rb tb n g f l) (at_ v : Nat) (k : Int) (h : isW k = false) :
    Calls Try.prog 49 #[.pointer (some ⟨r, 0, none⟩), .int .u32 at_, .int .i64 k, .int .u32 v] w fun e w' => e = .returned (.bool false) ∧ w = w' := by
  have hW := Lib.hid (rwidth_any k w)
  rw [h] at hW
  clear H h
  go_enter Try.func49, Try.ntmps49
  go_wp2_with fail
  refine hW.out.mono ?_
  rintro e w2 ⟨rfl, rfl⟩
  go_wp2
  go_ret
  exact ⟨rfl, rfl⟩
set_option maxRecDepth 100000 in
set_option maxHeartbeats 2000000 in
theorem rstore_yes (H : RfAt w r rb tb n g f l) (at_ v k : Nat) (la : at_ < 4294967296) (lv : v < 4294967296) (h : isW (k : Int) = true) :
    Calls Try.prog 49 #[.pointer (some ⟨r, 0, none⟩), .int .u32 at_, .int .i64 k, .int .u32 v] w (Rxt r rb tb n g (stF n f at_ k) (stL n l at_ (leB k v)) w (.bool (thr n at_ k))) := by
  have hW := Lib.hid (rwidth_any k w)
  rw [h] at hW
  have hk4 : k ≤ 4 := by have := isW_cases h; omega
  have hmk := run_make_row' (P := Try.prog) 28 5 (.int .u8 0) 1 Try.underlying28 info_u8 rfl .i64 .i64 k (by omega) (by omega)
  have h0 : FB w w.heap.size k [] (w.alloc (.cells (madeCells #[.int .u8 0] k) 5)) := by
    refine ⟨(Below.refl _ _).alloc (Nat.le_refl _) _, fun i u hu => by simp at hu, fun i hi => ⟨?_, ?_⟩⟩
    · rw [World.cell?_alloc_at (hn := rfl)]
      exact ⟨(madeCells #[.int .u8 0] k)[i]'(by rw [size_madeCells]; exact hi), Array.getElem?_eq_getElem _⟩
    · rw [World.frozen?_alloc_at (hn := rfl)]
  have hcv : ∀ wr, FB w w.heap.size k (leB k v) wr → (convert 28 9 (.slice (some ⟨w.heap.size, 0, none⟩) k k)).run Try.prog wr = .ok (.string ⟨(leB k v).toArray⟩) wr := fun wr hF => by
    have := run_convert_bytes_back (P := Try.prog) wr 28 9 5 ⟨w.heap.size, 0, none⟩ k (leB k v) Try.underlying28 Try.underlying5 Try.underlying9 (fun j hj => by
      rw [Addr.add_lit, Nat.zero_add]
      exact hF.fil j _ (List.getElem?_eq_getElem hj))
    rwa [leB_length] at this
  have hH := Lib.hid H
  have h0' := Lib.hid h0
  have hcv' := Lib.hid hcv
  clear H h h0 hcv
  go_enter Try.func49, Try.ntmps49
  go_wp2_with fail
  refine hW.out.mono ?_
  rintro e w2 ⟨rfl, rfl⟩
  go_wp2_with fail
  generalize (w.alloc (.cells (madeCells #[.int .u8 0] k) 5)) = W0 at *
  go_loopw [10] (fun i wr => ∃ j : Nat, j ≤ k ∧ i = .int .i64 j ∧ FB w w.heap.size k (leB j v) wr) (fun i _ => k - (intOf i).toNat)
  case atStart => exact ⟨0, by omega, rfl, h0'.out⟩
  case round =>
    obtain ⟨j, hj, rfl, hF⟩ := hrel
    have hF' := Lib.hid hF
    have jj : (j : Int) ≤ k := by omega
    by_cases hlt : j < k
    · have jlt : (j : Int) < k := by omega
      have j8 : (j : Int) ≤ 3 := by omega
      obtain ⟨⟨x, c0⟩, c1⟩ := hF.all j hlt
      have hst := Lib.hid (show FB w w.heap.size k (leB (j + 1) v) (wr.setCell ⟨w.heap.size, j, none⟩ (.int .u8 ((v : Int) / 2 ^ (8 * j) % 256))) from by
        have h1 := hF.step (UInt8.ofNat (v / 256 ^ j)) (by rw [leB_length]; exact hlt)
        rw [← leB_snocV, leB_length] at h1
        have e1 : vb (UInt8.ofNat (v / 256 ^ j)) = .int .u8 ((v : Int) / 2 ^ (8 * j) % 256) := by
          unfold vb
          rw [UInt8.toNat_ofNat', show (256 : Nat) ^ j = 2 ^ (8 * j) from by rw [show (256 : Nat) = 2 ^ 8 from rfl, ← Nat.pow_mul], show ((2 : Int) ^ (8 * j)) = ((2 ^ (8 * j) : Nat) : Int) from by simp, ← Int.natCast_ediv]
          congr 1
        rw [e1] at h1
        exact h1)
      clear hF hF'
      go_wp2_with fail
      go_roundw
      case rel => exact ⟨j + 1, by omega, by go_num, hst.out⟩
      case measure => simp [intOf]; omega
    · obtain rfl : j = k := by omega
      have hcv2 := hcv'.out wr hF
      have hB' := Lib.hid hF.bel
      have hw2' := Lib.hid (rwrite_any (hH.out.below hF.bel) at_ (leB j v) la (by rw [leB_length]; omega))
      rw [leB_length] at hw2'
      clear hF hF'
      go_wp2_with fail
      refine hw2'.out.mono ?_
      rintro e w3 ⟨rfl, k1, k2⟩
      have hE := Lib.hid (And.intro k1 ((Of2.of_below hB'.out).step k2))
      clear k1 k2
      go_wp2
      go_ret
      exact ⟨rfl, hE.out⟩
theorem rstore_any (H : RfAt w r rb tb n g f l) (k : Int) (v at_ : Nat) (la : at_ < 4294967296) (lv : v < 4294967296) :
    Calls Try.prog 49 #[.pointer (some ⟨r, 0, none⟩), .int .u32 at_, .int .i64 k, .int .u32 v] w (Rxt r rb tb n g (stF n f at_ (putB [] k v).length) (stL n l at_ (putB [] k v)) w (.bool (isW k && thr n at_ (putB [] k v).length))) := by
  rcases hk : isW k with _ | _
  · have e0 : putB [] k v = [] := by simp [putB, hk]
    rw [e0, List.length_nil, stF_zero, stL_nil, Bool.false_and]
    exact (rstore_no H at_ v k hk).mono fun e w' h => rxt_below H (show e = .returned (.bool false) ∧ Below w.heap.size w w' from ⟨h.1, by rw [← h.2]; exact Below.refl _ _⟩)
  · obtain ⟨k, rfl⟩ := Int.eq_ofNat_of_zero_le (show 0 ≤ k by have := isW_cases hk; omega)
    have e0 : putB [] (k : Int) v = leB k v := by simp [putB, hk]
    rw [e0, leB_length, Bool.true_and]
    exact rstore_yes H at_ v k la lv hk
end
end Go.Proofs.Ytpopfmboonjplaa
