/- Proved: all that is set is told, rising, each once, as often as it is asked; a copy goes its own way (TagsTell). For every input; the library's table is as its own text lays it (the card ties that). -/
import Derived.Test.YtbomcakgggbacaaDoorRows
import Derived.Test.YtbomcakgggbacaaDoorTagU
import Derived.Test.YtbomcakgggbacaaDoorNums
import Derived.ProofKit
import Derived.OpenShut
import Derived.ChangeOld
namespace Go.Proofs.YtbomcakgggbacaaDoor.tell
open Go.ChangeShapes Go.WideShapes Go.ChangeAt Go.RowKit Go.Shelf
set_option linter.unusedVariables false
attribute [local go_sem] Oper.semAt_some

/-- What holds at each round of the first loop. -/
structure Inv (W wr : World) (b : Nat) (f : Nat → Bool) : Prop where
  m : MapAt wr (b + 1) b 300 f
  q : wr.cell? ⟨b + 2, 0, none⟩ = some (.pointer (some ⟨b + 1, 0, none⟩))
  r : wr.cell? ⟨W.heap.size, 0, none⟩ = some (.bool false) ∧ wr.frozen? ⟨W.heap.size, 0, none⟩ = false
  bel : Below W.heap.size W wr
  lt : b + 2 < wr.heap.size
theorem Inv.next {W wr W' : World} {b : Nat} {f g : Nat → Bool} (h : Inv W wr b f) (hb : W.heap.size < b) (m : MapAt W' (b + 1) b 300 g) (o : Off wr.heap.size b wr W') : Inv W W' b g :=
  ⟨m, (o.cell (p := ⟨b + 2, 0, none⟩) h.lt (by show b + 2 ≠ b; omega)).trans h.q,
    ⟨(o.cell (p := ⟨W.heap.size, 0, none⟩) (by show W.heap.size < _; have := h.lt; omega) (by show W.heap.size ≠ b; omega)).trans h.r.1, (o.frozen (p := ⟨W.heap.size, 0, none⟩) (by show W.heap.size < _; have := h.lt; omega) (by show W.heap.size ≠ b; omega)).trans h.r.2⟩,
    h.bel.trans (o.below h.bel.size (by omega)), Nat.lt_of_lt_of_le h.lt o.size⟩
theorem Inv.drew {W wr : World} {b : Nat} {f : Nat → Bool} (h : Inv W wr b f) : Inv W wr.drew b f := ⟨h.m.drew, h.q, h.r, h.bel.drew, h.lt⟩

theorem Inv.below {W wr W' : World} {b : Nat} {f : Nat → Bool} (h : Inv W wr b f) (hb : W.heap.size < b) (k : Below wr.heap.size wr W') : Inv W W' b f :=
  h.next hb (h.m.below k h.m.lb h.m.lw) (Off.of_below k)
theorem AllAt.below {W W' : World} {c b wb n T : Nat} {f : Nat → Bool} (h : AllAt W c b wb n T f) (hc : c < W.heap.size) (hT : T < W.heap.size) (k : Below W.heap.size W W') : AllAt W' c b wb n T f :=
  h.keep (fun i hi => k.block i (by rcases hi with rfl | rfl | rfl | rfl; exact hc; exact h.m.lb; exact h.m.lw; exact hT)) k.size

/-- Between two times that all is told. -/
structure Mid (W wr : World) (b g b2 : Nat) (Ds : List Nat) (f : Nat → Bool) : Prop where
  i : Inv W wr b f
  a : AllAt wr (g + 2) (g + 1) g 300 0 f
  c : MapAt wr (b2 + 1) b2 300 (fun _ => false)
  ds : ∀ D ∈ Ds, wr.heap[D]? = some (.deferred (some [])) ∧ W.heap.size ≤ D
  gt : g + 2 < wr.heap.size
  lb : W.heap.size < b
  tt : 0 < W.heap.size
  nd : Ds.Nodup
theorem Mid.below {W wr W' : World} {b g b2 : Nat} {Ds : List Nat} {f : Nat → Bool} (h : Mid W wr b g b2 Ds f) (k : Below wr.heap.size wr W') : Mid W W' b g b2 Ds f :=
  ⟨h.i.below h.lb k, AllAt.below h.a h.gt (Nat.lt_of_lt_of_le h.tt h.i.bel.size) k, h.c.below k h.c.lb h.c.lw, fun D hD => ⟨(k.block D (by
    have := (Array.getElem?_eq_some_iff.1 (h.ds D hD).1).1; exact this)).trans (h.ds D hD).1, (h.ds D hD).2⟩, Nat.lt_of_lt_of_le h.gt k.size, h.lb, h.tt, h.nd⟩

/-- What a telling holds between two rounds: the last place, how many there were; all as they should be. -/
structure TellI (L : Nat) (f : Nat → Bool) (pre : List Nat) (W : World) : Prop where
  l : W.cell? ⟨L, 0, none⟩ = some (.int .i64 (lastOf (-1) pre))
  lf : W.frozen? ⟨L, 0, none⟩ = false
  n : W.cell? ⟨L + 1, 0, none⟩ = some (.int .i64 (pre.length : Nat))
  nf : W.frozen? ⟨L + 1, 0, none⟩ = false
  ok : good f (-1) pre = true
theorem TellI.kept {L : Nat} {f : Nat → Bool} {pre : List Nat} {W W' : World} {row : Option Nat} (h : TellI L f pre W) (hg : W.grownBy W' row) (hr : ∀ r, row = some r → ∃ o : Obj, W.heap[r]? = some o ∧ o.isCells = false) : TellI L f pre W' :=
  ⟨cell_kept h.l hg hr, (frozen_kept h.l hg hr).trans h.lf, cell_kept h.n hg hr, (frozen_kept h.n hg hr).trans h.nf, h.ok⟩

theorem KpA.set {c b wb T : Nat} (W : World) {p : Addr} (h0 : c < p.block) (h1 : b < p.block) (h2 : wb < p.block) (h3 : T < p.block) (v : Value) : KpA c b wb T W (W.setCell p v) :=
  fun k hk => Below.heap_setCell _ _ _ _ (by rcases hk with rfl | rfl | rfl | rfl <;> omega)
theorem keeps_drewN (W : World) (k : Nat) : KeepsOthers W (W.drewN k) := ⟨Nat.le_refl _, fun _ _ h _ => h⟩
theorem below_drewN' {B : Nat} {a w : World} (h : Below B a w) (n : Nat) : Below B a (w.drewN n) := ⟨h.os, h.tape, h.output, h.size, h.block⟩
/-- One place more was told. -/
theorem TellI.step {L : Nat} {f : Nat → Bool} {pre : List Nat} {W : World} (h : TellI L f pre W) {x : Nat} (hlt : lastOf (-1) pre < (x : Int)) (hf : f x = true) :
    TellI L f (pre ++ [x]) ((W.setCell ⟨L, 0, none⟩ (.int .i64 (x : Int))).setCell ⟨L + 1, 0, none⟩ (.int .i64 ((pre.length : Int) + 1))) := by
  refine ⟨?_, ?_, ?_, ?_, ?_⟩
  · rw [lastOf_snoc, World.cell?_setCell_other _ _ _ _ (fun e => by have := congrArg Addr.block e; simp at this)]
    exact World.cell?_setCell_same' _ _ _ (by rw [h.l]; rfl)
  · rw [World.frozen?_setCell, World.frozen?_setCell]; exact h.lf
  · rw [World.cell?_setCell_same' _ _ _ (by rw [World.cell?_setCell_other _ _ _ _ (fun e => by have := congrArg Addr.block e; simp at this), h.n]; rfl)]
    simp
  · rw [World.frozen?_setCell, World.frozen?_setCell]; exact h.nf
  · rw [good_snoc, h.ok, hf]; simp [hlt]

theorem get_d (b n : Nat) (f : Nat → Bool) (x : Nat) (w : World) (H : MapAt w (b + 1) b n f) : Calls Tryd.prog 10 #[.pointer (some ⟨b + 1, 0, none⟩), .int .i64 x] w fun e w' => e = .returned (.bool (f x)) ∧ ∃ k, w.drewN k = w' := by
  rcases Nat.lt_or_ge x n with h | h
  · exact get_yes (b + 1) b n f x w H h
  · rw [H.off x h]
    exact get_no (b + 1) b n f x w H (.inr (by omega))

/-- The law of a range over a function, with one variable: its parameter lies in slot p, the variable in slot q. -/
theorem rf1 {F : Fence} {n : Nat} {P : Program} {α : Type} {g : Operand} {assign body : Code} {Q : Exit → Act → World → Prop} {T : Array Value} {ds : List Deferred} {w : World} (p q : Nat)
    (hro : F.round = none) (h1 : 1 ≤ n) {gf : Nat} {lb : Array Value} (hg : (Act.mk T ds).eval g = .func (.func gf) #[] lb) (hFg : F.fn gf) (eg : ∀ args w, (callFunc gf args).run P w = .ok (.enter gf args) w)
    {val : α → Value} {Kp : World → World → Prop} {S Sp : List α → Prop} {N : Nat} {w0 : World} (hseq : SeqStopsK F (n - 1) P gf lb (fun x => #[val x]) Kp S Sp N w0)
    (hKt : ∀ {A B C : World}, Kp A B → Kp B C → Kp A C) (hKb : ∀ (W : World) (l : Nat) (o o' : Obj), w.heap.size ≤ l → W.heap[l]? = some o → o.isCells = false → o.isWalk = false → Kp W (W.putObj l o')) (hb0 : Below w0.heap.size w0 w)
    (I : List α → World → Prop) (Ix : Code → List α → World → Prop) (hI : OwnFrom w.heap.size I) (hIx : ∀ c, OwnFrom w.heap.size (Ix c)) (h0 : I [] w)
    (hassign : ∀ (l : Nat) (x : α) (W : World) (K : Act → World → Prop), K { tmps := (T.setIfInBounds p (val x)).setIfInBounds q (val x), defers := [] } W →
      assign.wpIn (F.inRound l) (n - 1 - 1) P (Exit.then K (fun _ _ _ => False)) { tmps := T.setIfInBounds p (val x), defers := [] } W)
    (hbody : ∀ (l : Nat) (pre : List α) (x : α) (W : World), I pre W → pre.length < N → body.wpIn (F.inRound l) (n - 1 - 1) P (ownPostG w.heap.size Kp I Ix (pre ++ [x]) W) { tmps := (T.setIfInBounds p (val x)).setIfInBounds q (val x), defers := [] } W)
    (hdone : ∀ (D : Nat) (xs : List α) (W : World), w.heap.size ≤ D → S xs → I xs W → W.heap[D]? = some (.deferred (some [])) → Q .normal { tmps := T, defers := { target := .collected D, args := #[] } :: ds } W)
    (hstop : ∀ (D : Nat) (c : Code) (pre : List α) (W : World), w.heap.size ≤ D → Sp pre → Ix c pre W → W.heap[D]? = some (.deferred (some [])) → c.wpIn F n P Q { tmps := T, defers := { target := .collected D, args := #[] } :: ds } W) :
    (Code.rangeFunc g #[p] assign body).wpIn F n P Q { tmps := T, defers := ds } w :=
  wpIn_rangeFunc_ownG hro h1 hg hFg eg hseq hKt hKb hb0 (fun _ => rfl) I Ix hI hIx h0 (fun x => { tmps := (T.setIfInBounds p (val x)).setIfInBounds q (val x), defers := [] }) (fun l x W K hK => by have h := hassign l x W K hK; simpa using h) hbody hdone hstop

/-- What a step leaves to be shown is named by what shows it. -/
theorem cont {Fact Qn : World → Prop} {G : Prop} (h1 : (∀ w, Fact w → Qn w) → G) (h2 : ∀ w, Fact w → Qn w) : G := h1 h2

set_option maxRecDepth 100000 in
set_option maxHeartbeats 4000000 in
theorem walk {H : Type} {enc : TypeId × Value → H} (v0 : Value) {d0 : DataW H} {p0 : List MemPlace} (W : World)
    (hv : Value.okWide Tryd.prog W .any 0 22 v0) (hd : DataW.Trod enc Tryd.prog W 0 (fun _ => true) true 22 v0 d0 p0) (hT : TabAt 0 Lib.deBruijn64tab W) :
    Calls Tryd.prog 3 #[v0] W fun e w' => e = .returned (.bool true) ∧ Below W.heap.size W w' := by
  obtain ⟨A, len, cap, rfl, hcap, hm, hP⟩ := nums_of Tryd.underlying22 Tryd.underlying27 (by kernel_rfl) hv hd
  have hlen : len ≤ 9223372036854775807 := by unfold maxLen at hm; omega
  have hT0 := Lib.hid (show 0 < W.heap.size from lt_of_cell' (hT 0 (by decide)))
  have hT' := Lib.hid hT
  clear hv hd hm hT
  refine (callsIn_wide (n := 5)).1 ?_
  obtain ⟨W0, hW0⟩ : ∃ W0, W0 = W.alloc (.cells #[.bool false] 4) := ⟨_, rfl⟩
  have R0 := Lib.hid (show (W0.cell? ⟨W.heap.size, 0, none⟩ = some (.bool false) ∧ W0.frozen? ⟨W.heap.size, 0, none⟩ = false) ∧ Below W.heap.size W W0 ∧ W0.heap.size = W.heap.size + 1 from by
    rw [hW0]; exact ⟨new_cell rfl _ rfl, (Below.refl _ _).alloc (Nat.le_refl _) _, by simp⟩)
  have hW0' := Lib.hid hW0
  clear hW0
  refine callsIn_of_wp_marks Tryd.func3 rfl trivial ?_ rfl
  simp only [Tryd.ntmps3, List.size_toArray, List.length_cons, List.length_nil, Nat.reduceAdd, Nat.reduceSub, Array.replicate_succ, Array.replicate_zero, List.push_toArray, List.append_toArray, List.nil_append, List.cons_append]
  gi_wp2_with fail
  rw [← hW0'.out]
  refine ⟨trivial, (callsIn_wide.2 (works_any _)).mono ?_⟩
  rintro e W1 ⟨rfl, b1⟩
  have B1 := Lib.hid b1
  clear b1
  gi_wp2_with fail
  refine ⟨trivial, (callsIn_wide.2 (new_yes 300 W1 (by decide))).mono ?_⟩
  rintro e W2 ⟨rfl, m2, b2, z2⟩
  obtain ⟨b, hb⟩ : ∃ b, b = W1.heap.size := ⟨_, rfl⟩
  rw [← hb] at m2 b2 z2
  rw [← hb]
  have hlb := Lib.hid (show W.heap.size < b from by have := B1.out.size; have := R0.out.2.2; omega)
  have I3 := Lib.hid (show Inv W (W2.alloc (.cells #[.pointer (some ⟨b + 1, 0, none⟩)] 24)) b (fun _ => false) from by
    have bb : Below W0.heap.size W0 (W2.alloc (.cells #[.pointer (some ⟨b + 1, 0, none⟩)] 24)) := by
      have := (B1.out.trans (b2.mono (by rw [hb]; exact B1.out.size)))
      exact this.alloc this.size _
    have h0 := R0.out.2.2
    exact ⟨m2.alloc _, (new_cell rfl _ z2).1, ⟨(bb.cell (p := ⟨W.heap.size, 0, none⟩) (by show W.heap.size < _; omega)).trans R0.out.1.1, (bb.frozen (p := ⟨W.heap.size, 0, none⟩) (by show W.heap.size < _; omega)).trans R0.out.1.2⟩, R0.out.2.1.trans (bb.mono (by omega)), by rw [World.size_alloc]; omega⟩)
  have Z2 := Lib.hid z2
  clear m2 b2 z2 hb
  gi_wp2
  rw [← Z2.out]
  generalize W2.alloc (.cells #[.pointer (some ⟨b + 1, 0, none⟩)] 24) = W3 at I3 ⊢
  clear Z2 B1 R0 hW0'
  gi_loopw [4] (fun i wr => ∃ (k : Nat) (f : Nat → Bool), k ≤ len ∧ k ≤ 40 ∧ i = .int .i64 k ∧ Inv W wr b f) (fun i _ => 40 - (intOf i).toNat)
  case atStart => exact ⟨0, _, by omega, by omega, rfl, I3.out⟩
  case round =>
    obtain ⟨k, f, hk, hk2, rfl, hI⟩ := hrel
    have hI' := Lib.hid hI
    have hk3 : (k : Int) ≤ 40 := by omega
    clear hI I3
    by_cases hin : k < len ∧ k < 40
    · obtain ⟨hin1, hin2⟩ := hin
      obtain ⟨ba, off, rfl, hba, x, hx, wx⟩ := (hP.below hI'.out.bel) k hin1
      have hx0 := bounds_u16 wx
      obtain ⟨x, rfl⟩ := Int.eq_ofNat_of_zero_le hx0.1
      have hq := hI'.out.q
      have i1 : (k : Int) < (len : Int) := by omega
      have hmod : ((x : Int)).tmod 300 = ((x % 300 : Nat) : Int) := by rw [Int.tmod_eq_emod_of_nonneg (by omega)]; omega
      obtain ⟨a, ha⟩ : ∃ a, a = x % 300 := ⟨_, rfl⟩
      rw [← ha] at hmod
      have ha2 : a < 300 := by omega
      have hw1 : IntKind.u16.wrap (a : Int) = (a : Int) := by simp [IntKind.wrap, IntKind.bits, IntKind.signed]; omega
      have hw2 : IntKind.i64.wrap (a : Int) = (a : Int) := by rw [IntKind.wrap_i64]; omega
      clear wx hba hx0 ha
      gi_wp2
      refine Free.region (Free.wide _ _) 7 (by kernel_rfl) (by kernel_rfl) (by kernel_rfl) ?_
      simp only [List.take_succ_cons, List.take_zero, List.drop_succ_cons, List.drop_zero]
      repeat still_step
      refine wpStill_nil ?_
      clear hmod hw1 hw2
      gi_wp2_with fail
      refine ⟨trivial, (callsIn_wide.2 (put_any (b + 1) b 300 f a true wr.drew hI'.out.m.drew ha2)).mono ?_⟩
      rintro e W4 ⟨rfl, m4, o4⟩
      have hE := Lib.hid (hI'.out.drew.next hlb.out m4 o4)
      clear m4 o4 hx hq
      gi_wp2
      go_roundw
      case rel => exact ⟨k + 1, _, by omega, by omega, by go_num, hE.out⟩
      case measure => simp [intOf]; omega
    · have hE := Lib.hid hI'.out
      clear hI'
      generalize wr = w5 at hE ⊢
      have hq := hE.out.q
      rcases Nat.lt_or_ge k len with h1 | h1
      all_goals
        have hd : k < len → decide ((k : Int) < 40) = false := fun h => by simp; omega
        gi_wp2_with fail
        refine ⟨trivial, (callsIn_wide.2 (all_any (b + 1) b 300 f w5 hE.out.m)).mono ?_⟩
        rintro e W6 ⟨rfl, m6, c6, b6, z6⟩
        obtain ⟨g, hg⟩ : ∃ g, g = w5.heap.size := ⟨_, rfl⟩
        rw [← hg] at m6 c6 b6 z6
        rw [← hg]
        have I6 : Inv W W6 b f := hE.out.next hlb.out (hE.out.m.below b6 (by rw [hg]; exact hE.out.m.lb) (by rw [hg]; exact hE.out.m.lw)) (Off.of_below (by rw [← hg]; exact b6))
        have q6 := I6.q
        have hgb : b + 2 < g := by rw [hg]; exact hE.out.lt
        have A6 := Lib.hid (And.intro I6 (And.intro m6 (And.intro c6 (And.intro z6 hgb))))
        clear m6 c6 b6 z6 hg I6 hq hd h1 hgb hE
        gi_wp2_with fail
        refine ⟨trivial, (callsIn_wide.2 (copy_any (b + 1) b 300 f W6 A6.out.1.m)).mono ?_⟩
        rintro e W7 ⟨rfl, m7, b7, z7⟩
        have A7 := Lib.hid (And.intro m7 (And.intro b7 z7))
        clear m7 b7 z7 q6
        gi_wp2_with fail
        refine ⟨trivial, (callsIn_wide.2 (clear_u A7.out.1 0 300 (by decide) (by decide) ((cnt (fun k => f k && inr 0 300 k) 300 : Nat) : Int) rfl (fun _ => false) (fun k => ?_))).mono ?_⟩
        · have : inr (max 0 0 : Int).toNat (min 300 (300 : Nat) : Int).toNat k = decide (k < 300) := by simp [inr]
          rw [this]
          by_cases h : k < 300
          · simp [h]
          · rw [A6.out.1.m.off k (by omega)]; rfl
        rintro e W8 ⟨rfl, m8, o8⟩
        obtain ⟨b2, hb2⟩ : ∃ b2, b2 = W6.heap.size := ⟨_, rfl⟩
        rw [← hb2] at m8 o8
        rw [← hb2]
        have hM := Lib.hid (show Mid W W8 b g b2 [] f from by
          obtain ⟨I6, m6, c6, z6, hgb⟩ := A6.out
          obtain ⟨m7, b7, z7⟩ := A7.out
          have bb : Below W6.heap.size W6 W8 := b7.trans (o8.below (by omega) (by omega))
          have hA : AllAt W6 (g + 2) (g + 1) g 300 0 f := ⟨c6, m6, fun j hj => (I6.bel.cell (p := ⟨_, j, none⟩) hT0.out).trans (hT'.out j hj)⟩
          exact ⟨I6.below hlb.out bb, AllAt.below hA (by omega) (Nat.lt_of_lt_of_le hT0.out I6.bel.size) bb, m8, fun D hD => by simp at hD, by have := bb.size; omega, hlb.out, hT0.out, List.nodup_nil⟩)
        clear m8 o8 hb2 A6 A7
        gi_wp2_with fail
        refine wpIn_loop_rounds 3 ?_
        rw [roundsIn_succ]
        gi_wp2_with fail
        have hTI := Lib.hid (show TellI W8.heap.size f [] ((W8.alloc (.cells #[.int .i64 (-1)] 3)).alloc (.cells #[.int .i64 0] 3)) ∧ Below W8.heap.size W8 ((W8.alloc (.cells #[.int .i64 (-1)] 3)).alloc (.cells #[.int .i64 0] 3)) ∧ ((W8.alloc (.cells #[.int .i64 (-1)] 3)).alloc (.cells #[.int .i64 0] 3)).heap.size = W8.heap.size + 2 from by
          have c1 : _ ∧ _ := old_cell (o := .cells #[.int .i64 0] 3) (new_cell (w := W8) (vs := #[Value.int .i64 (-1)]) (t := 3) rfl W8.heap.size rfl) (by simp)
          have c2 : _ ∧ _ := new_cell (w := W8.alloc (.cells #[.int .i64 (-1)] 3)) (vs := #[Value.int .i64 0]) (t := 3) rfl (W8.heap.size + 1) (by simp)
          exact ⟨⟨c1.1, c1.2, c2.1, c2.2, rfl⟩, ((Below.refl _ _).alloc (Nat.le_refl _) _).alloc (by simp) _, by simp⟩)
        generalize (W8.alloc (.cells #[.int .i64 (-1)] 3)).alloc (.cells #[.int .i64 0] 3) = wR at hTI ⊢
        have hZ8 := Lib.hid (And.intro hM.out.gt (And.intro hM.out.i.lt (And.intro hM.out.c.lb (And.intro hM.out.i.bel.size hM.out.lb))))
        have st := Lib.hid (all_stops 4 (by decide) (g + 2) (g + 1) g 300 f wR (AllAt.below hM.out.a hM.out.gt (Nat.lt_of_lt_of_le hT0.out hM.out.i.bel.size) hTI.out.2.1) (Nat.lt_of_lt_of_le hM.out.gt hTI.out.2.1.size) (Nat.lt_of_lt_of_le hT0.out (Nat.le_trans hM.out.i.bel.size hTI.out.2.1.size)))
        refine rf1 43 10 rfl (by decide) (gf := 16) (lb := #[.pointer (some ⟨g + 2, 0, none⟩)]) rfl trivial (enters_of Tryd.func16 (by kernel_rfl) rfl)
          (val := fun x : Nat => Value.int .i64 (x : Int)) st.out (fun h k => ⟨h.1.trans k.1, Nat.le_trans h.2 k.2⟩)
          (fun W' l o o' h1 h2 h3 h4 => ⟨KpA.put (w := wR) (Nat.lt_of_lt_of_le hM.out.gt hTI.out.2.1.size) (by have := hM.out.gt; have := hTI.out.2.1.size; omega) (by have := hM.out.gt; have := hTI.out.2.1.size; omega) (by have := hT0.out; have := hM.out.i.bel.size; have := hTI.out.2.1.size; omega) W' l o o' h1 h2 h3 h4, by simp [World.putObj]⟩) (Below.refl _ _)
          (fun pre W' => TellI W8.heap.size f pre W' ∧ Below W8.heap.size W8 W') (fun c pre W' => good f (-1) pre = false)
          (OwnFrom.and (Own.from (fun s A B row hs hg hr => hs.kept hg hr) _) (ownFrom_below (Nat.le_refl _) hTI.out.2.1.size)) (fun c s A B row hs hg hr => hs) ⟨hTI.out.1, hTI.out.2.1⟩ ?_ ?_ ?_ ?_
        · intro l x W' K hK
          gi_wp2
          exact hK
        · rintro l pre x W' ⟨hI, hB⟩ hlen
          simp only [List.setIfInBounds_toArray, List.set_cons_zero, List.set_cons_succ]
          have M9 := hM.out.below hB
          have q3 := M9.i.q
          obtain ⟨r1, r2⟩ := M9.i.r
          have l1 := hI.l
          have l2 := hI.lf
          have l3 := hI.n
          have l4 := hI.nf
          have hG := Lib.hid (get_d b 300 f x W' M9.i.m)
          obtain ⟨t, ht⟩ : ∃ t, t = lastOf (-1) pre := ⟨_, rfl⟩
          rw [← ht] at l1
          have hle : (pre.length : Int) ≤ 301 := by omega
          have E := Lib.hid (And.intro hI (And.intro hB ht))
          clear hI hB ht M9 hlen
          by_cases hc : (x : Int) ≤ t
          · gi_wp2
            refine ⟨trivial, ?_⟩
            gi_wp2
            refine ⟨(KeepsOthers.setCell _ _ _).from _, ?_⟩
            show good f (-1) (pre ++ [x]) = false
            rw [good_snoc, ← E.out.2.2]
            have : decide (t < (x : Int)) = false := by simp; omega
            simp [this]
          · have hc1 : decide ((x : Int) ≤ t) = false := by simp; omega
            cases hv : f x
            · rw [hv] at hG
              have hV := Lib.hid hv
              clear hv
              gi_wp2_with fail
              refine ⟨trivial, (CallsIn.inRound l (callsIn_wide.2 hG.out)).mono ?_⟩
              rintro e w' ⟨rfl, kk, rfl⟩
              gi_wp2
              refine ⟨((keeps_drewN _ kk).trans (KeepsOthers.setCell _ _ _)).from _, ?_⟩
              show good f (-1) (pre ++ [x]) = false
              rw [good_snoc, hV.out]
              simp
            · rw [hv] at hG
              have hV := Lib.hid hv
              clear hv
              gi_wp2_with fail
              refine ⟨trivial, (CallsIn.inRound l (callsIn_wide.2 hG.out)).mono ?_⟩
              rintro e w' ⟨rfl, kk, rfl⟩
              gi_wp2
              have hTI2 : TellI W8.heap.size f pre (W'.drewN kk) := ⟨E.out.1.l, E.out.1.lf, E.out.1.n, E.out.1.nf, E.out.1.ok⟩
              have hz := hZ8.out
              refine ⟨(((keeps_drewN _ kk).trans (KeepsOthers.setCell _ _ _)).trans (KeepsOthers.setCell _ _ _)).from _,
                ⟨KpA.trans (KpA.set (W'.drewN kk) (p := ⟨W8.heap.size, 0, none⟩) (by show g + 2 < W8.heap.size; omega) (by show g + 1 < W8.heap.size; omega) (by show g < W8.heap.size; omega) (by show _ < W8.heap.size; have := hT0.out; omega) _)
                  (KpA.set _ (p := ⟨W8.heap.size + 1, 0, none⟩) (by show g + 2 < W8.heap.size + 1; omega) (by show g + 1 < W8.heap.size + 1; omega) (by show g < W8.heap.size + 1; omega) (by show _ < W8.heap.size + 1; have := hT0.out; omega) _), by simp [World.setCell]⟩,
                hTI2.step (by rw [← E.out.2.2]; omega) hV.out, ((below_drewN' E.out.2.1 kk).setCell (p := ⟨W8.heap.size, 0, none⟩) (Nat.le_refl _) _).setCell (p := ⟨W8.heap.size + 1, 0, none⟩) (by show W8.heap.size ≤ W8.heap.size + 1; omega) _⟩
        rotate_left
        · rintro D c pre W' hD hp hx hK
          have h1 := (good_setL f 300).1
          obtain ⟨q, hq⟩ := hp
          rw [← hq] at h1
          rw [good_prefix f _ _ _ h1] at hx
          cases hx
        rintro D ys W9 hD hS ⟨hI9, hB9⟩ hK9
        have hmx : Tryd.prog.follows .mixedOrders = true := by kernel_rfl
        have M9 := Lib.hid (show Mid W W9 b g b2 [D] f from by
          have h := hM.out.below hB9
          have := hZ8.out
          have := hTI.out.2.2
          exact ⟨h.i, h.a, h.c, fun E hE => by rcases List.mem_cons.1 hE with rfl | hE'; exact ⟨hK9, by omega⟩; exact h.ds E hE', h.gt, h.lb, h.tt, List.nodup_cons.2 ⟨fun hm => by have := (Array.getElem?_eq_some_iff.1 (hM.out.ds _ hm).1).1; omega, hM.out.nd⟩⟩)
        obtain ⟨L, hL⟩ : ∃ L, L = W8.heap.size := ⟨_, rfl⟩
        have n9 := hI9.n
        rw [hS, setL_length, ← hL] at n9
        have hLt : L + 1 < W9.heap.size := lt_of_cell' n9
        rw [← hL]
        obtain ⟨c, hc⟩ : ∃ c, c = cnt f 300 := ⟨_, rfl⟩
        rw [← hc] at n9
        have q9 := M9.out.i.q
        have hCnt := Lib.hid (count_any (b + 1) b 300 f W9.drew M9.out.i.m.drew)
        rw [← hc] at hCnt
        have hcb : (c : Int) ≤ 300 := by have := cnt_le f 300; omega
        have hcc := Lib.hid hc
        clear hI9 hB9 hK9 hD st hS hL hTI hM hZ8 hc
        gi_wp2_with fail
        apply cont (Fact := fun w' => Below W9.heap.size W9.drew w')
        · intro hgo
          refine wpIn_region_any hmx ?_
          change wpAnyIn _ _ _ _ _ _ _ _ _ (World.drew _)
          refine wpAnyIn_ready (rs := [0, 1]) (by kernel_rfl) (by simp) ?_
          refine AllReadyIn.cons rfl (fun K hK => ?_) (AllReadyIn.cons rfl (fun K hK => ?_) AllReadyIn.nil)
          · (go_simp; refine hK _ _ ?_; clear hK K)
            (refine wpAnyIn_ready (rs := [1]) (by kernel_rfl) (by simp) ?_; refine AllReadyIn.cons rfl (fun K hK => ?_) AllReadyIn.nil)
            (go_simp; refine hK _ _ ?_; clear hK K)
            (refine wpAnyIn_ready (rs := [2]) (by kernel_rfl) (by simp) ?_; refine AllReadyIn.cons rfl (fun K hK => ?_) AllReadyIn.nil)
            (go_simp; refine ⟨trivial, ?_⟩; refine (callsIn_wide.2 hCnt.out).mono ?_; rintro e w' ⟨rfl, hb⟩; gi_wp2_with fail)
            (refine wpAnyIn_ready (rs := [3]) (by kernel_rfl) (by simp) ?_; refine AllReadyIn.cons rfl (fun K hK => ?_) AllReadyIn.nil)
            (go_simp; refine hK _ _ ?_; clear hK K)
            refine wpAnyIn_done (by kernel_rfl) ?_ _
            exact hgo _ hb
          · (go_simp; refine hK _ _ ?_; clear hK K)
            refine wpAnyIn_ready (rs := [0, 2]) (by kernel_rfl) (by simp) ?_
            refine AllReadyIn.cons rfl (fun K hK => ?_) (AllReadyIn.cons rfl (fun K hK => ?_) AllReadyIn.nil)
            · (go_simp; refine hK _ _ ?_; clear hK K)
              (refine wpAnyIn_ready (rs := [2]) (by kernel_rfl) (by simp) ?_; refine AllReadyIn.cons rfl (fun K hK => ?_) AllReadyIn.nil)
              (go_simp; refine ⟨trivial, ?_⟩; refine (callsIn_wide.2 hCnt.out).mono ?_; rintro e w' ⟨rfl, hb⟩; gi_wp2_with fail)
              (refine wpAnyIn_ready (rs := [3]) (by kernel_rfl) (by simp) ?_; refine AllReadyIn.cons rfl (fun K hK => ?_) AllReadyIn.nil)
              (go_simp; refine hK _ _ ?_; clear hK K)
              refine wpAnyIn_done (by kernel_rfl) ?_ _
              exact hgo _ hb
            · (go_simp; refine ⟨trivial, ?_⟩; refine (callsIn_wide.2 hCnt.out).mono ?_; rintro e w' ⟨rfl, hb⟩; gi_wp2_with fail)
              have n10 := (hb.cell (p := ⟨L + 1, 0, none⟩) hLt).trans n9
              (refine wpAnyIn_ready (rs := [0]) (by kernel_rfl) (by simp) ?_; refine AllReadyIn.cons rfl (fun K hK => ?_) AllReadyIn.nil)
              (go_simp; refine hK _ _ ?_; clear hK K)
              (refine wpAnyIn_ready (rs := [3]) (by kernel_rfl) (by simp) ?_; refine AllReadyIn.cons rfl (fun K hK => ?_) AllReadyIn.nil)
              (go_simp; refine hK _ _ ?_; clear hK K)
              refine wpAnyIn_done (by kernel_rfl) ?_ _
              exact hgo _ hb
        rintro w' hb
        have M10 := Lib.hid (show Mid W w' b g b2 [D] f from M9.out.below (show Below W9.heap.size W9 w' from (Below.refl _ _).drew.trans hb))
        clear hCnt M9 q9 hb n9 hLt
        generalize w' = V at M10 ⊢
        gi_wp2_with fail
        rw [roundsIn_succ]
        gi_wp2_with fail
        have hTI := Lib.hid (show TellI V.heap.size f [] ((V.alloc (.cells #[.int .i64 (-1)] 3)).alloc (.cells #[.int .i64 0] 3)) ∧ Below V.heap.size V ((V.alloc (.cells #[.int .i64 (-1)] 3)).alloc (.cells #[.int .i64 0] 3)) ∧ ((V.alloc (.cells #[.int .i64 (-1)] 3)).alloc (.cells #[.int .i64 0] 3)).heap.size = V.heap.size + 2 from by
          have c1 : _ ∧ _ := old_cell (o := .cells #[.int .i64 0] 3) (new_cell (w := V) (vs := #[Value.int .i64 (-1)]) (t := 3) rfl V.heap.size rfl) (by simp)
          have c2 : _ ∧ _ := new_cell (w := V.alloc (.cells #[.int .i64 (-1)] 3)) (vs := #[Value.int .i64 0]) (t := 3) rfl (V.heap.size + 1) (by simp)
          exact ⟨⟨c1.1, c1.2, c2.1, c2.2, rfl⟩, ((Below.refl _ _).alloc (Nat.le_refl _) _).alloc (by simp) _, by simp⟩)
        generalize (V.alloc (.cells #[.int .i64 (-1)] 3)).alloc (.cells #[.int .i64 0] 3) = wR at hTI ⊢
        have hZ8 := Lib.hid (And.intro M10.out.gt (And.intro M10.out.i.lt (And.intro M10.out.c.lb (And.intro M10.out.i.bel.size M10.out.lb))))
        have st := Lib.hid (all_stops 4 (by decide) (g + 2) (g + 1) g 300 f wR (AllAt.below M10.out.a M10.out.gt (Nat.lt_of_lt_of_le hT0.out M10.out.i.bel.size) hTI.out.2.1) (Nat.lt_of_lt_of_le M10.out.gt hTI.out.2.1.size) (Nat.lt_of_lt_of_le hT0.out (Nat.le_trans M10.out.i.bel.size hTI.out.2.1.size)))
        refine rf1 43 10 rfl (by decide) (gf := 16) (lb := #[.pointer (some ⟨g + 2, 0, none⟩)]) rfl trivial (enters_of Tryd.func16 (by kernel_rfl) rfl)
          (val := fun x : Nat => Value.int .i64 (x : Int)) st.out (fun h k => ⟨h.1.trans k.1, Nat.le_trans h.2 k.2⟩)
          (fun W' l o o' h1 h2 h3 h4 => ⟨KpA.put (w := wR) (Nat.lt_of_lt_of_le M10.out.gt hTI.out.2.1.size) (by have := M10.out.gt; have := hTI.out.2.1.size; omega) (by have := M10.out.gt; have := hTI.out.2.1.size; omega) (by have := hT0.out; have := M10.out.i.bel.size; have := hTI.out.2.1.size; omega) W' l o o' h1 h2 h3 h4, by simp [World.putObj]⟩) (Below.refl _ _)
          (fun pre W' => TellI V.heap.size f pre W' ∧ Below V.heap.size V W') (fun c pre W' => good f (-1) pre = false)
          (OwnFrom.and (Own.from (fun s A B row hs hg hr => hs.kept hg hr) _) (ownFrom_below (Nat.le_refl _) hTI.out.2.1.size)) (fun c s A B row hs hg hr => hs) ⟨hTI.out.1, hTI.out.2.1⟩ ?_ ?_ ?_ ?_
        · intro l x W' K hK
          gi_wp2
          exact hK
        · rintro l pre x W' ⟨hI, hB⟩ hlen
          simp only [List.setIfInBounds_toArray, List.set_cons_zero, List.set_cons_succ]
          have M9 := M10.out.below hB
          have q3 := M9.i.q
          obtain ⟨r1, r2⟩ := M9.i.r
          have l1 := hI.l
          have l2 := hI.lf
          have l3 := hI.n
          have l4 := hI.nf
          have hG := Lib.hid (get_d b 300 f x W' M9.i.m)
          obtain ⟨t, ht⟩ : ∃ t, t = lastOf (-1) pre := ⟨_, rfl⟩
          rw [← ht] at l1
          have hle : (pre.length : Int) ≤ 301 := by omega
          have E := Lib.hid (And.intro hI (And.intro hB ht))
          clear hI hB ht M9 hlen
          by_cases hc : (x : Int) ≤ t
          · gi_wp2
            refine ⟨trivial, ?_⟩
            gi_wp2
            refine ⟨(KeepsOthers.setCell _ _ _).from _, ?_⟩
            show good f (-1) (pre ++ [x]) = false
            rw [good_snoc, ← E.out.2.2]
            have : decide (t < (x : Int)) = false := by simp; omega
            simp [this]
          · have hc1 : decide ((x : Int) ≤ t) = false := by simp; omega
            cases hv : f x
            · rw [hv] at hG
              have hV := Lib.hid hv
              clear hv
              gi_wp2_with fail
              refine ⟨trivial, (CallsIn.inRound l (callsIn_wide.2 hG.out)).mono ?_⟩
              rintro e w' ⟨rfl, kk, rfl⟩
              gi_wp2
              refine ⟨((keeps_drewN _ kk).trans (KeepsOthers.setCell _ _ _)).from _, ?_⟩
              show good f (-1) (pre ++ [x]) = false
              rw [good_snoc, hV.out]
              simp
            · rw [hv] at hG
              have hV := Lib.hid hv
              clear hv
              gi_wp2_with fail
              refine ⟨trivial, (CallsIn.inRound l (callsIn_wide.2 hG.out)).mono ?_⟩
              rintro e w' ⟨rfl, kk, rfl⟩
              gi_wp2
              have hTI2 : TellI V.heap.size f pre (W'.drewN kk) := ⟨E.out.1.l, E.out.1.lf, E.out.1.n, E.out.1.nf, E.out.1.ok⟩
              have hz := hZ8.out
              refine ⟨(((keeps_drewN _ kk).trans (KeepsOthers.setCell _ _ _)).trans (KeepsOthers.setCell _ _ _)).from _,
                ⟨KpA.trans (KpA.set (W'.drewN kk) (p := ⟨V.heap.size, 0, none⟩) (by show g + 2 < V.heap.size; omega) (by show g + 1 < V.heap.size; omega) (by show g < V.heap.size; omega) (by show _ < V.heap.size; have := hT0.out; omega) _)
                  (KpA.set _ (p := ⟨V.heap.size + 1, 0, none⟩) (by show g + 2 < V.heap.size + 1; omega) (by show g + 1 < V.heap.size + 1; omega) (by show g < V.heap.size + 1; omega) (by show _ < V.heap.size + 1; have := hT0.out; omega) _), by simp [World.setCell]⟩,
                hTI2.step (by rw [← E.out.2.2]; omega) hV.out, ((below_drewN' E.out.2.1 kk).setCell (p := ⟨V.heap.size, 0, none⟩) (Nat.le_refl _) _).setCell (p := ⟨V.heap.size + 1, 0, none⟩) (by show V.heap.size ≤ V.heap.size + 1; omega) _⟩
        rotate_left
        · rintro D c pre W' hD hp hx hK
          have h1 := (good_setL f 300).1
          obtain ⟨q, hq⟩ := hp
          rw [← hq] at h1
          rw [good_prefix f _ _ _ h1] at hx
          cases hx
        rintro D2 ys W9 hD hS ⟨hI9, hB9⟩ hK9
        have hmx : Tryd.prog.follows .mixedOrders = true := by kernel_rfl
        have M9 := Lib.hid (show Mid W W9 b g b2 [D2, D] f from by
          have h := M10.out.below hB9
          have := hZ8.out
          have := hTI.out.2.2
          exact ⟨h.i, h.a, h.c, fun E hE => by rcases List.mem_cons.1 hE with rfl | hE'; exact ⟨hK9, by omega⟩; exact h.ds E hE', h.gt, h.lb, h.tt, List.nodup_cons.2 ⟨fun hm => by have := (Array.getElem?_eq_some_iff.1 (M10.out.ds _ hm).1).1; omega, M10.out.nd⟩⟩)
        obtain ⟨L, hL⟩ : ∃ L, L = V.heap.size := ⟨_, rfl⟩
        have n9 := hI9.n
        rw [hS, setL_length, ← hL] at n9
        have hLt : L + 1 < W9.heap.size := lt_of_cell' n9
        rw [← hL]
        obtain ⟨c, hc⟩ : ∃ c, c = cnt f 300 := ⟨_, rfl⟩
        rw [← hc] at n9
        have q9 := M9.out.i.q
        have hCnt := Lib.hid (count_any (b + 1) b 300 f W9.drew M9.out.i.m.drew)
        rw [← hc] at hCnt
        have hcb : (c : Int) ≤ 300 := by have := cnt_le f 300; omega
        have hcc := Lib.hid hc
        clear hI9 hB9 hK9 hD st hS hL hTI M10 hZ8 hc
        gi_wp2_with fail
        apply cont (Fact := fun w' => Below W9.heap.size W9.drew w')
        · intro hgo
          refine wpIn_region_any hmx ?_
          change wpAnyIn _ _ _ _ _ _ _ _ _ (World.drew _)
          refine wpAnyIn_ready (rs := [0, 1]) (by kernel_rfl) (by simp) ?_
          refine AllReadyIn.cons rfl (fun K hK => ?_) (AllReadyIn.cons rfl (fun K hK => ?_) AllReadyIn.nil)
          · (go_simp; refine hK _ _ ?_; clear hK K)
            (refine wpAnyIn_ready (rs := [1]) (by kernel_rfl) (by simp) ?_; refine AllReadyIn.cons rfl (fun K hK => ?_) AllReadyIn.nil)
            (go_simp; refine hK _ _ ?_; clear hK K)
            (refine wpAnyIn_ready (rs := [2]) (by kernel_rfl) (by simp) ?_; refine AllReadyIn.cons rfl (fun K hK => ?_) AllReadyIn.nil)
            (go_simp; refine ⟨trivial, ?_⟩; refine (callsIn_wide.2 hCnt.out).mono ?_; rintro e w' ⟨rfl, hb⟩; gi_wp2_with fail)
            (refine wpAnyIn_ready (rs := [3]) (by kernel_rfl) (by simp) ?_; refine AllReadyIn.cons rfl (fun K hK => ?_) AllReadyIn.nil)
            (go_simp; refine hK _ _ ?_; clear hK K)
            refine wpAnyIn_done (by kernel_rfl) ?_ _
            exact hgo _ hb
          · (go_simp; refine hK _ _ ?_; clear hK K)
            refine wpAnyIn_ready (rs := [0, 2]) (by kernel_rfl) (by simp) ?_
            refine AllReadyIn.cons rfl (fun K hK => ?_) (AllReadyIn.cons rfl (fun K hK => ?_) AllReadyIn.nil)
            · (go_simp; refine hK _ _ ?_; clear hK K)
              (refine wpAnyIn_ready (rs := [2]) (by kernel_rfl) (by simp) ?_; refine AllReadyIn.cons rfl (fun K hK => ?_) AllReadyIn.nil)
              (go_simp; refine ⟨trivial, ?_⟩; refine (callsIn_wide.2 hCnt.out).mono ?_; rintro e w' ⟨rfl, hb⟩; gi_wp2_with fail)
              (refine wpAnyIn_ready (rs := [3]) (by kernel_rfl) (by simp) ?_; refine AllReadyIn.cons rfl (fun K hK => ?_) AllReadyIn.nil)
              (go_simp; refine hK _ _ ?_; clear hK K)
              refine wpAnyIn_done (by kernel_rfl) ?_ _
              exact hgo _ hb
            · (go_simp; refine ⟨trivial, ?_⟩; refine (callsIn_wide.2 hCnt.out).mono ?_; rintro e w' ⟨rfl, hb⟩; gi_wp2_with fail)
              have n10 := (hb.cell (p := ⟨L + 1, 0, none⟩) hLt).trans n9
              (refine wpAnyIn_ready (rs := [0]) (by kernel_rfl) (by simp) ?_; refine AllReadyIn.cons rfl (fun K hK => ?_) AllReadyIn.nil)
              (go_simp; refine hK _ _ ?_; clear hK K)
              (refine wpAnyIn_ready (rs := [3]) (by kernel_rfl) (by simp) ?_; refine AllReadyIn.cons rfl (fun K hK => ?_) AllReadyIn.nil)
              (go_simp; refine hK _ _ ?_; clear hK K)
              refine wpAnyIn_done (by kernel_rfl) ?_ _
              exact hgo _ hb
        rintro w' hb
        have M11 := Lib.hid (show Mid W w' b g b2 [D2, D] f from M9.out.below (show Below W9.heap.size W9 w' from (Below.refl _ _).drew.trans hb))
        clear hCnt M9 q9 hb n9 hLt
        generalize w' = V2 at M11 ⊢
        gi_wp2_with fail
        rw [roundsIn_succ]
        gi_wp2_with fail
        have hEnd := Lib.hid (count_any (b2 + 1) b2 300 (fun _ => false) V2 M11.out.c)
        rw [cnt_zero (fun _ _ => rfl)] at hEnd
        refine ⟨trivial, (callsIn_wide.2 hEnd.out).mono ?_⟩
        rintro e V3 ⟨rfl, hb3⟩
        have M12 := Lib.hid (M11.out.below hb3)
        obtain ⟨r1, r2⟩ := M12.out.i.r
        have r1' := Lib.hid r1
        clear hEnd M11 hb3
        gi_wp2
        obtain ⟨R, hR⟩ : ∃ R, R = V3.setCell ⟨W.heap.size, 0, none⟩ (.bool true) := ⟨_, rfl⟩
        rw [← hR]
        have hF : R.cell? ⟨W.heap.size, 0, none⟩ = some (.bool true) := by
          rw [hR]; exact World.cell?_setCell_same' _ _ _ (by rw [r1'.out]; rfl)
        have hbR : Below W.heap.size W R := by rw [hR]; exact M12.out.i.bel.setCell (p := ⟨W.heap.size, 0, none⟩) (Nat.le_refl _) _
        have hds : ∀ E ∈ [D2, D], R.heap[E]? = some (.deferred (some [])) ∧ W.heap.size ≤ E := fun E hE => ⟨by
          rw [hR]; exact (KeepsOthers.setCell V3 ⟨W.heap.size, 0, none⟩ (.bool true)).same E _ (M12.out.ds E hE).1 rfl, (M12.out.ds E hE).2⟩
        have hnd := M12.out.nd
        clear hR
        have h2 := hds D2 (by simp)
        have h1 := hds D (by simp)
        have hne : D2 ≠ D := by intro e; subst e; simp at hnd
        have h1' : (R.putObj D2 (.deferred none)).heap[D]? = some (.deferred (some [])) := (World.putObj_heap_other (fun e => hne e.symm)).trans h1.1
        refine ⟨by simp, .inl ⟨_, _, rfl, run_takeDeferred h2.1, ?_⟩⟩
        refine ⟨by simp, .inl ⟨_, _, rfl, run_takeDeferred h1', ?_⟩⟩
        have c1 := cell_kept hF (grownBy_putObj' R D2 (.deferred none)) (fun r e => by cases e; exact ⟨_, h2.1, rfl⟩)
        have c2 := cell_kept c1 (grownBy_putObj' _ D (.deferred none)) (fun r e => by cases e; exact ⟨_, h1', rfl⟩)
        refine ⟨.bool true, ?_, rfl, (hbR.trans (belowK_b (w := W) (Nat.le_refl _) R D2 _ _ h2.2 h2.1 rfl rfl)).trans (belowK_b (w := W) (Nat.le_refl _) _ D _ _ h1.2 h1' rfl rfl)⟩
        simp [results, Tryd.f3, go_sem, c2]
end Go.Proofs.YtbomcakgggbacaaDoor.tell
