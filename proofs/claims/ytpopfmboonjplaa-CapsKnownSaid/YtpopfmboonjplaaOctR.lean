/- Contracts of octet's reader. -/
import Derived.Test.YtpopfmboonjplaaOctD
import Derived.Deep.OwnRows
import Derived.Laws.EntriesVeiled
import Derived.StillTailTactics
namespace Go.Proofs.Ytpopfmboonjplaa
open Go.RowKit
set_option linter.unusedVariables false

/-- Can so many be taken? -/
def okT (n : Nat) (k : Int) : Bool := decide (0 ≤ k) && decide (k ≤ (n : Int))

theorem next_no (src b off cap n : Nat) (k : Int) (w : World) (h : okT n k = false) (hl : n ≤ 1000000) (hcap : n ≤ cap)
    (cS : w.cell? ⟨src, 0, none⟩ = some (.slice (some ⟨b, off, none⟩) n cap)) (fS : w.frozen? ⟨src, 0, none⟩ = false) :
    Calls Try.prog 64 #[.pointer (some ⟨src, 0, none⟩), .int .i64 k] w fun e w' => e = .returned (.tuple #[.slice none 0 0, .int .i64 n, .bool false]) ∧ ∃ q, (w.setCell ⟨src, 0, none⟩ (.slice (some ⟨b, off, none⟩) n cap)).drewN q = w' := by
  have hc := cut_no (some ⟨b, off, none⟩) n cap 0 k w (by omega) (by omega) (by simp [okT] at h; omega)
  clear h
  go_enter Try.func64, Try.ntmps64
  go_wp2_with (go_at_call 84; refine hc.mono ?_; rintro e w' ⟨rfl, rfl⟩)
  go_quiet (fail)
  go_wp2
  go_ret3
  exact ⟨rfl, _, rfl⟩
theorem next_zero (src b off cap n : Nat) (w : World) (hl : n ≤ 1000000) (hcap : n ≤ cap)
    (cS : w.cell? ⟨src, 0, none⟩ = some (.slice (some ⟨b, off, none⟩) n cap)) (fS : w.frozen? ⟨src, 0, none⟩ = false) :
    Calls Try.prog 64 #[.pointer (some ⟨src, 0, none⟩), .int .i64 0] w fun e w' => e = .returned (.tuple #[.slice (some ⟨b, off, none⟩) 0 0, .int .i64 n, .bool true]) ∧ ∃ q, (w.setCell ⟨src, 0, none⟩ (.slice (some ⟨b, off, none⟩) n cap)).drewN q = w' := by
  have hc := cut_zero (some ⟨b, off, none⟩) n cap w (by omega) hcap
  go_enter Try.func64, Try.ntmps64
  go_wp2_with (go_at_call 84; refine hc.mono ?_; rintro e w' ⟨rfl, rfl⟩)
  go_quiet (fail)
  go_wp2
  go_ret3
  exact ⟨rfl, _, rfl⟩
theorem next_yes (src b off cap n k : Nat) (w : World) (h0 : 0 < k) (h : k ≤ n) (hl : n ≤ 1000000) (hcap : n ≤ cap)
    (cS : w.cell? ⟨src, 0, none⟩ = some (.slice (some ⟨b, off, none⟩) n cap)) (fS : w.frozen? ⟨src, 0, none⟩ = false) :
    Calls Try.prog 64 #[.pointer (some ⟨src, 0, none⟩), .int .i64 k] w fun e w' => e = .returned (.tuple #[.slice (some ⟨b, off, none⟩) k k, .int .i64 (n - k : Nat), .bool true]) ∧ ∃ q, (w.setCell ⟨src, 0, none⟩ (.slice (some ⟨b, if cap = k then off else off + k, none⟩) (n - k) (cap - k))).drewN q = w' := by
  have hc := cut_yes b off n cap 0 k w (by omega) hcap (by omega) h0
  by_cases hk : cap = k
  · subst hk
    have hn : n = cap := by omega
    subst hn
    go_enter Try.func64, Try.ntmps64
    go_wp2_with (go_at_call 84; refine hc.mono ?_; rintro e w' ⟨rfl, rfl⟩)
    go_quiet (fail)
    go_wp2
    go_ret3
    exact ⟨by simp, _, rfl⟩
  · go_enter Try.func64, Try.ntmps64
    go_wp2_with (go_at_call 84; refine hc.mono ?_; rintro e w' ⟨rfl, rfl⟩)
    go_quiet (fail)
    go_wp2
    go_ret3
    exact ⟨by simp, _, rfl⟩

def pieceT (l : List UInt8) (k : Int) : List UInt8 := if okT l.length k then l.take k.toNat else []
def restT (l : List UInt8) (k : Int) : List UInt8 := if okT l.length k then l.drop k.toNat else l

/-- The reader at block r, its source at block src, with the bytes l left. -/
def Rd (w : World) (r src : Nat) (l : List UInt8) : Prop :=
  r ≠ src ∧ w.heap[r]? = some (.cells #[.func (Fn.func 64) #[.pointer (some ⟨src, 0, none⟩)] #[]] 115 (0, 0)) ∧ l.length ≤ 1000000 ∧
  ∃ b off cap, b < src ∧ l.length ≤ cap ∧ w.heap[src]? = some (.cells #[.slice (some ⟨b, off, none⟩) l.length cap] 112 (0, 0)) ∧ ∀ j u, l[j]? = some u → w.cell? ⟨b, off + j, none⟩ = some (.int .u8 (u.toNat : Int))

theorem lt_of_at {w : World} {g : Nat} {o : Obj} (h : w.heap[g]? = some o) : g < w.heap.size := by
  rcases Nat.lt_or_ge g w.heap.size with hlt | hge
  · exact hlt
  · rw [Array.getElem?_eq_none hge] at h; cases h
theorem cell_at {w : World} {g : Nat} {cs : Array Value} {t : TypeId} (h : w.heap[g]? = some (.cells cs t (0, 0))) (i : Nat) : w.cell? ⟨g, i, none⟩ = cs[i]? := cell_of_row w g i cs t (0, 0) h
theorem free_at {w : World} {g : Nat} {cs : Array Value} {t : TypeId} (h : w.heap[g]? = some (.cells cs t (0, 0))) (i : Nat) : w.frozen? ⟨g, i, none⟩ = false := by simp [World.frozen?, h]
theorem set_at {w : World} {g : Nat} {u : Value} {t : TypeId} (h : w.heap[g]? = some (.cells #[u] t (0, 0))) (v : Value) : (w.setCell ⟨g, 0, none⟩ v).heap[g]? = some (.cells #[v] t (0, 0)) := by
  simp [World.setCell, Array.getElem?_modify, h]

/-- Rd lasts where the blocks below and the two stay. -/
theorem Rd.keep {w w' : World} {r src : Nat} {l : List UInt8} (h : Rd w r src l) (hb : ∀ g, g ≤ max r src → w'.heap[g]? = w.heap[g]?) : Rd w' r src l := by
  obtain ⟨hne, hr, hl, b, off, cap, hbs, hc, hs, hcell⟩ := h
  refine ⟨hne, (hb r (by omega)).trans hr, hl, b, off, cap, hbs, hc, (hb src (by omega)).trans hs, fun j u hu => ?_⟩
  rw [World.cell?_of_block (w := w) (w' := w') (hb b (by omega))]
  exact hcell j u hu
theorem Rd.lt {w : World} {r src : Nat} {l : List UInt8} (h : Rd w r src l) : r < w.heap.size ∧ src < w.heap.size := by
  obtain ⟨_, hr, _, _, _, _, _, _, hs, _⟩ := h
  exact ⟨lt_of_at hr, lt_of_at hs⟩
theorem Rd.below {w w' : World} {r src : Nat} {l : List UInt8} (h : Rd w r src l) (hb : Below w.heap.size w w') : Rd w' r src l :=
  h.keep fun g hg => hb.block g (by have := h.lt; omega)
theorem Rd.drewN {w : World} {r src : Nat} {l : List UInt8} (h : Rd w r src l) (k : Nat) : Rd (w.drewN k) r src l := h

def NextPost (w : World) (r src : Nat) (l : List UInt8) (k : Int) (e : Ending) (w' : World) : Prop :=
  ∃ A, e = .returned (.tuple #[.slice A (pieceT l k).length (pieceT l k).length, .int .i64 (restT l k).length, .bool (okT l.length k)]) ∧ RB w' src A (pieceT l k) ∧ Rd w' r src (restT l k) ∧ w.grownBy w' (some src)

theorem grown_set (w : World) (src : Nat) (v : Value) (q : Nat) : w.grownBy ((w.setCell ⟨src, 0, none⟩ v).drewN q) (some src) :=
  ⟨rfl, rfl, rfl, by simp [World.setCell], fun i hi hne => Below.heap_setCell w ⟨src, 0, none⟩ v i (fun e => hne (by rw [e]))⟩

theorem next_any (r src : Nat) (l : List UInt8) (k : Int) (w : World) (h : Rd w r src l) :
    Calls Try.prog 64 #[.pointer (some ⟨src, 0, none⟩), .int .i64 k] w (NextPost w r src l k) := by
  obtain ⟨hne, hr, hl, b, off, cap, hbs, hc, hs, hcell⟩ := h
  have cS := cell_at hs 0
  have fS := free_at hs 0
  have hset : ∀ v q, ((w.setCell ⟨src, 0, none⟩ v).drewN q).heap[src]? = some (.cells #[v] 112 (0, 0)) := fun v q => set_at hs v
  have hold : ∀ v q g, g ≠ src → ((w.setCell ⟨src, 0, none⟩ v).drewN q).heap[g]? = w.heap[g]? := fun v q g hg => Below.heap_setCell w ⟨src, 0, none⟩ v g hg
  have hcell' : ∀ v q j u, l[j]? = some u → ((w.setCell ⟨src, 0, none⟩ v).drewN q).cell? ⟨b, off + j, none⟩ = some (.int .u8 (u.toNat : Int)) := fun v q j u hu => by
    rw [World.cell?_of_block (w := w) (hold v q b (by omega))]
    exact hcell j u hu
  rcases ho : okT l.length k with _ | _
  · refine (next_no src b off cap l.length k w ho (by omega) hc cS fS).mono fun e w' ⟨h1, q, h2⟩ => ?_
    subst h2
    have e1 : pieceT l k = [] := by unfold pieceT; rw [ho]; rfl
    have e2 : restT l k = l := by unfold restT; rw [ho]; rfl
    refine ⟨none, ?_, ?_, ?_, grown_set _ _ _ _⟩
    · rw [h1, e1, e2, ho]; rfl
    · rw [e1]; exact RB.nil
    · rw [e2]; exact ⟨hne, (hold _ _ r hne).trans hr, hl, b, off, cap, hbs, hc, hset _ _, hcell' _ _⟩
  · have hk : 0 ≤ k ∧ k ≤ l.length := by simpa [okT] using ho
    obtain ⟨k, rfl⟩ := Int.eq_ofNat_of_zero_le hk.1
    have hk' : k ≤ l.length := by omega
    have e1 : pieceT l k = l.take k := by unfold pieceT; rw [ho]; rfl
    have e2 : restT l k = l.drop k := by unfold restT; rw [ho]; rfl
    have n1 : (l.take k).length = k := by simp; omega
    have n2 : (l.drop k).length = l.length - k := by simp
    by_cases hz : k = 0
    · subst hz
      refine (next_zero src b off cap l.length w (by omega) hc cS fS).mono fun e w' ⟨h1, q, h2⟩ => ?_
      subst h2
      refine ⟨some ⟨b, off, none⟩, ?_, ?_, ?_, grown_set _ _ _ _⟩
      · rw [h1, e1, e2, ho]; simp
      · rw [e1]; exact RB.nil
      · rw [e2]; exact ⟨hne, (hold _ _ r hne).trans hr, by simpa using hl, b, off, cap, hbs, by simpa using hc, hset _ _, fun j u hu => hcell' _ _ j u (by simpa using hu)⟩
    · refine (next_yes src b off cap l.length k w (by omega) hk' (by omega) hc cS fS).mono fun e w' ⟨h1, q, h2⟩ => ?_
      subst h2
      refine ⟨some ⟨b, off, none⟩, ?_, ?_, ?_, grown_set _ _ _ _⟩
      · rw [h1, e1, e2, ho, n1, n2]
      · rw [e1]
        exact fun _ => ⟨b, off, rfl, hbs, fun j u hu => hcell' _ _ j u (by
          rw [List.getElem?_take] at hu
          split at hu
          · exact hu
          · cases hu)⟩
      · rw [e2]
        refine ⟨hne, (hold _ _ r hne).trans hr, by omega, b, if cap = k then off else off + k, cap - k, hbs, by omega, ?_, fun j u hu => ?_⟩
        · rw [n2]; exact hset _ _
        · rw [List.getElem?_drop] at hu
          have hj : k + j < l.length := (List.getElem?_eq_some_iff.1 hu).1
          rw [if_neg (by omega)]
          rw [Nat.add_assoc]
          exact hcell' _ _ _ u hu

theorem conv_RB {w : World} {B : Nat} {A : Option Addr} {l : List UInt8} (cap : Nat) (h : RB w B A l) :
    (convert 28 9 (.slice A l.length cap)).run Try.prog w = .ok (.string ⟨l.toArray⟩) w := by
  rcases A with _ | a
  · have : l = [] := by
      rcases l with _ | ⟨x, r⟩
      · rfl
      · obtain ⟨b, off, e, _⟩ := h (by simp)
        cases e
    subst this
    exact run_convert_bytes_nil (P := Try.prog) _ _ _ Try.underlying28 Try.underlying5 _ _ _ Try.underlying9
  · refine run_convert_bytes_back (P := Try.prog) w 28 9 5 a cap l Try.underlying28 Try.underlying5 Try.underlying9 (fun j hj => ?_)
    obtain ⟨b, off, e, _, hc⟩ := h (by omega)
    obtain rfl := Option.some.inj e
    rw [Addr.add_lit]
    exact hc j _ (List.getElem?_eq_getElem hj)
theorem take_any (r src : Nat) (l : List UInt8) (k : Int) (w : World) (h : Rd w r src l) :
    Calls Try.prog 66 #[.pointer (some ⟨r, 0, none⟩), .int .i64 k] w (NextPost w r src l k) := by
  have hn := Lib.hid (next_any r src l k w h)
  have cR := cell_at h.2.1 0
  clear h
  have hq : ∀ w : World, (binOp .eql 113 (.func (Fn.func 64) #[.pointer (some ⟨src, 0, none⟩)] #[]) .nilFunc).run Try.prog w = .ok (.bool false) w := fun _ => by kernel_rfl
  go_enter Try.func66, Try.ntmps66
  go_wp2_with fail
  refine hn.out.mono ?_
  rintro e w' ⟨A, rfl, hp⟩
  have hp' := Lib.hid hp
  clear hp
  go_wp2_with fail
  go_ret3
  exact ⟨A, rfl, hp'.out⟩
theorem take_nil (k : Int) (w : World) :
    Calls Try.prog 66 #[.pointer none, .int .i64 k] w fun e w' => e = .returned (.tuple #[.slice none 0 0, .int .i64 0, .bool false]) ∧ w = w' := by
  go_enter Try.func66, Try.ntmps66
  go_wp2
  go_ret3
  exact ⟨rfl, rfl⟩

/-- What Number answers. -/
def okN (n : Nat) (k : Int) : Bool := isW k && decide (k ≤ (n : Int))
def numT (l : List UInt8) (k : Int) : Nat := if okN l.length k then le (l.take k.toNat) else 0
def restN (l : List UInt8) (k : Int) : List UInt8 := if okN l.length k then l.drop k.toNat else l
def ReadPost (w : World) (r src : Nat) (v : Value) (l' : List UInt8) (e : Ending) (w' : World) : Prop := e = .returned v ∧ Rd w' r src l' ∧ w.grownBy w' (some src)

theorem grown_drewN {a w : World} {row : Option Nat} (h : a.grownBy w row) (n : Nat) : a.grownBy (w.drewN n) row := ⟨h.os, h.tape, h.output, h.size, h.block⟩
theorem Number_any (r src : Nat) (l : List UInt8) (k : Int) (w : World) (h : Rd w r src l) :
    Calls Try.prog 33 #[.pointer (some ⟨r, 0, none⟩), .int .i64 k] w (ReadPost w r src (.tuple #[.int .u32 (numT l k : Nat), .bool (okN l.length k)]) (restN l k)) := by
  rcases hk : isW k with _ | _
  · have e1 : numT l k = 0 := by simp [numT, okN, hk]
    have e2 : restN l k = l := by simp [restN, okN, hk]
    have e3 : okN l.length k = false := by simp [okN, hk]
    rw [e1, e2, e3]
    have h' := Lib.hid h
    have hk' := Lib.hid hk
    clear h hk e1 e2 e3
    go_enter Try.func33, Try.ntmps33
    go_wp2_with (go_at_call 65; refine (isWidth_any _ _).mono ?_; rintro e w' ⟨rfl, rfl⟩; rw [hk'.out])
    go_ret2
    exact ⟨rfl, h'.out, World.grownBy.refl _ _⟩
  · have hc := isW_cases hk
    have e0 : okT l.length k = okN l.length k := by
      unfold okT okN
      rw [hk, Bool.eq_iff_iff]
      simp
      omega
    have e1 : numT l k = numOf (pieceT l k) := by
      unfold numT pieceT
      rw [e0]
      split
      · rename_i ho
        have : k ≤ (l.length : Int) := by simp [okN, hk] at ho; exact ho
        unfold numOf
        rw [if_pos (by simp; omega)]
      · rfl
    have e2 : restN l k = restT l k := by unfold restN restT; rw [e0]
    rw [e1, e2, ← e0]
    have ht := Lib.hid (take_any r src l k w h)
    have hk' := Lib.hid hk
    clear h hk e0 e1 e2
    go_enter Try.func33, Try.ntmps33
    go_wp2_with (go_at_call 65; refine (isWidth_any _ _).mono ?_; rintro e w' ⟨rfl, rfl⟩; rw [hk'.out])
    refine ht.out.mono ?_
    rintro e w' ⟨A, rfl, hr, hp⟩
    have hn := Lib.hid (number_any A (pieceT l k) src (pieceT l k).length w' hr)
    have hp' := Lib.hid hp
    clear hp hr
    go_wp2_with fail
    refine hn.out.mono ?_
    rintro e w2 ⟨rfl, q, rfl⟩
    go_wp2_with fail
    go_ret2
    exact ⟨rfl, hp'.out.1.drewN q, grown_drewN hp'.out.2 q⟩
def NewPost (w : World) (l : List UInt8) (e : Ending) (w' : World) : Prop :=
  ∃ r src, e = .returned (.pointer (some ⟨r, 0, none⟩)) ∧ Rd w' r src l ∧ Below w.heap.size w w' ∧ w.heap.size ≤ src ∧ w.heap.size ≤ r
theorem New_any (l : List UInt8) (w : World) (hl : l.length ≤ 1000000) :
    Calls Try.prog 31 #[.string ⟨l.toArray⟩] w (NewPost w l) := by
  have hcb := fun (w : World) (s : ByteArray) => Lib.run_convert_string_bytes (P := Try.prog) w 9 28 5 s Try.underlying9 Try.underlying28 Try.underlying5
  have hmf : ∀ (fn : Fn) (first cap : Array Value) (w : World), (Instr.makeFunc fn first cap).run Try.prog w = .ok (.func fn first cap) w := fun _ _ _ _ => rfl
  have hs := Lib.hid (Lib.bytesWorld_size w 5 ⟨l.toArray⟩)
  have hb := Lib.hid (bw_below w 5 ⟨l.toArray⟩)
  have hh := Lib.hid (bw_has w 5 l)
  have hg := Lib.hid (grownCap_ge w l.length 0 5)
  go_enter Try.func31, Try.ntmps31
  go_wp2
  go_ret
  generalize Lib.bytesWorld w 5 ⟨l.toArray⟩ = W1 at hs hb hh
  have hs' := hs.out
  have hb1 : Below w.heap.size W1 (W1.alloc (.cells #[.slice (some ⟨w.heap.size, 0, none⟩) l.length (grownCap w l.length 0 5)] 112)) := (Below.refl _ _).alloc (by omega) _
  refine ⟨W1.heap.size + 1, W1.heap.size, rfl, ⟨by omega, ?_, hl, w.heap.size, 0, grownCap w l.length 0 5, by omega, hg.out, ?_, fun j u hu => ?_⟩, ?_, by omega, by omega⟩
  · have := heap_alloc_new (W1.alloc (.cells #[.slice (some ⟨w.heap.size, 0, none⟩) l.length (grownCap w l.length 0 5)] 112)) (.cells #[.func (Fn.func 64) #[.pointer (some ⟨W1.heap.size, 0, none⟩)] #[]] 115)
    simpa using this
  · rw [Below.heap_alloc _ _ _ (by simp)]
    exact heap_alloc_new W1 _
  · have h1 := (hh.out j u hu).1
    rw [World.cell?_alloc_lt _ _ _ (by simp; omega), World.cell?_alloc_lt _ _ _ (by show w.heap.size < _; omega)]
    exact h1
  · exact (hb.out.alloc (by omega) _).alloc (by simp; omega) _

end Go.Proofs.Ytpopfmboonjplaa
