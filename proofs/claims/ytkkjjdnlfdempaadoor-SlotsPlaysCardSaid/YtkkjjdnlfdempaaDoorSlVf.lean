/- Both books of layer slots side by side: the program's, and the document's in its box. No statement is proved here. -/
import Derived.Test.YtkkjjdnlfdempaaDoorSlVe
import Derived.Test.YtkkjjdnlfdempaaDoorSlZ
import Derived.Test.YtkkjjdnlfdempaaDoorSlW
namespace Go.Proofs.YtkkjjdnlfdempaaDoor
set_option maxRecDepth 100000
open Go.RowKit Go.Shelf
set_option linter.unusedVariables false
section
variable {W w w' : World} {b Q per : Nat} {g g' g2 g3 : Nat → Bool} {f f' f2 f3 : Nat → Nat → Bool} {u v : Value} {l : List Pg} {e : Ending}
theorem rAdd (H : RefAt w b v per g f l) (hb : b < w.heap.size) (hk : Ok per g f) (p : Int) :
    Calls Tryd.prog 11 #[.agg #[.int .i64 per, v], .int .i64 p] w (RefPost w b per v l (if mayAdd g p then upd g p.toNat true else g) (if mayAdd g p then updP f p.toNat (full per) else f) (two (mayAdd g p))) := by
  rcases hm : mayAdd g p with _ | _
  · exact rAdd_no H p hm
  · have hm' := hm
    unfold mayAdd at hm'
    rw [Bool.and_eq_true, Bool.and_eq_true, decide_eq_true_iff, decide_eq_true_iff] at hm'
    obtain ⟨⟨h0, h1⟩, h2⟩ := hm'
    obtain ⟨k, rfl⟩ := Int.eq_ofNat_of_zero_le h0
    exact rAdd_yes H hb hk (by omega) (by simpa using h2)
theorem rDrop (H : RefAt w b v per g f l) (hb : b < w.heap.size) (hk : Ok per g f) (p : Int) :
    Calls Tryd.prog 17 #[.agg #[.int .i64 per, v], .int .i64 p] w (RefPost w b per v l (if okW per g f p then upd g p.toNat false else g) (if okW per g f p then updP f p.toNat (fun _ => false) else f) (two (okW per g f p))) := by
  rcases hm : okW per g f p with _ | _
  · exact rDrop_no H hk p hm
  · have hm' := hm
    unfold okW inP isW at hm'
    simp only [Bool.and_eq_true, decide_eq_true_iff] at hm'
    obtain ⟨⟨h0, h1⟩, h2, _⟩ := hm'
    obtain ⟨k, rfl⟩ := Int.eq_ofNat_of_zero_le h0
    exact rDrop_yes H hb hk (by omega) (by simpa using h2) hm
/-- The program's book at b with g, f; the document's v with g2, f2; in the box Q stands u. -/
structure PS (W : World) (b Q per : Nat) (g : Nat → Bool) (f : Nat → Nat → Bool) (g2 : Nat → Bool) (f2 : Nat → Nat → Bool) (u v : Value) (l : List Pg) (w : World) : Prop where
  s : SK W b per g f w
  r : RefAt w b v per g2 f2 l
  c0 : w.cell? ⟨Q, 0, none⟩ = some (.int .i64 (per : Int))
  c1 : w.cell? ⟨Q, 1, none⟩ = some u
  z0 : w.frozen? ⟨Q, 0, none⟩ = false
  z1 : w.frozen? ⟨Q, 1, none⟩ = false
  lq : Q < w.heap.size
  hq : W.heap.size ≤ Q
  d : Q ≠ b
  nv : ∀ r, v.ownBlock = some r → r ≠ Q
  nl : ∀ x ∈ l, x.h ≠ Q
theorem SK.ok (S : SK W b per g f w) : Ok per g f := ⟨S.k.ok, S.k.lo.2, S.k.lo.1⟩
theorem PS.grow (P : PS W b Q per g f g2 f2 u v l w) (k : Below w.heap.size w w') : PS W b Q per g f g2 f2 u v l w' :=
  ⟨P.s.grow k, P.r.grow k, (k.cell (p := ⟨Q, 0, none⟩) P.lq).trans P.c0, (k.cell (p := ⟨Q, 1, none⟩) P.lq).trans P.c1, (k.frozen (p := ⟨Q, 0, none⟩) P.lq).trans P.z0, (k.frozen (p := ⟨Q, 1, none⟩) P.lq).trans P.z1,
    Nat.lt_of_lt_of_le P.lq k.size, P.hq, P.d, P.nv, P.nl⟩
theorem PS.drew (P : PS W b Q per g f g2 f2 u v l w) : PS W b Q per g f g2 f2 u v l w.drew := P.grow (Below.refl _ _).drew
theorem PS.book {x : Value} (P : PS W b Q per g f g2 f2 u v l w) (h : BNext b per g' f' w x e w') : e = .returned x ∧ PS W b Q per g' f' g2 f2 u v l w' :=
  have k := h.2.2
  ⟨h.1, (P.s.next h).2, P.r.off k, (k.cell (p := ⟨Q, 0, none⟩) P.lq P.d).trans P.c0, (k.cell (p := ⟨Q, 1, none⟩) P.lq P.d).trans P.c1, (k.frozen (p := ⟨Q, 0, none⟩) P.lq P.d).trans P.z0, (k.frozen (p := ⟨Q, 1, none⟩) P.lq P.d).trans P.z1,
    Nat.lt_of_lt_of_le P.lq k.size, P.hq, P.d, P.nv, P.nl⟩
theorem PS.next {k : Value → Ending} (P : PS W b Q per g f g2 f2 u v l w) (h : RefPost w b per v l g3 f3 k e w') : ∃ A n c l', e = k (.agg #[.int .i64 (per : Int), .slice A n c]) ∧ PS W b Q per g f g3 f3 u (.slice A n c) l' w' ∧ Below w.heap.size w w' := by
  obtain ⟨v', l', e1, e2, e3, e4⟩ := h
  obtain ⟨A, c, e5, _⟩ := e2.form
  subst e5
  have h4 := e4 Q P.lq P.nl P.nv
  have P1 := P.grow e3
  exact ⟨A, _, c, l', e1, ⟨P1.s, e2, P1.c0, P1.c1, P1.z0, P1.z1, P1.lq, P1.hq, P1.d, h4.1, h4.2⟩, e3⟩
/-- The document's book is laid into its box. -/
def stQ (Q per : Nat) (v : Value) (w : World) : World := (w.setCell ⟨Q, 0, none⟩ (.int .i64 (per : Int))).setCell ⟨Q, 1, none⟩ v
theorem stQ_off (Q per : Nat) (v : Value) (w : World) : Off w.heap.size Q w (stQ Q per v w) := ((Off.refl _ _ _).setCell (p := ⟨Q, 0, none⟩) (.inr rfl) _).setCell (p := ⟨Q, 1, none⟩) (.inr rfl) _
theorem PS.store (P : PS W b Q per g f g2 f2 u v l w) : PS W b Q per g f g2 f2 v v l (stQ Q per v w) := by
  have o := stQ_off Q per v w
  refine ⟨⟨P.s.k.off o (fun e => P.d e.symm), P.s.bl.trans (o.below P.s.bl.size P.hq), P.s.hb⟩, P.r.far o P.nv P.nl, ?_, ?_, ?_, ?_, Nat.lt_of_lt_of_le P.lq o.size, P.hq, P.d, P.nv, P.nl⟩
  · unfold stQ
    rw [World.cell?_setCell_other _ _ _ _ (fun e => by have := congrArg Addr.off e; simp at this)]
    exact World.cell?_setCell_same' _ _ _ (by rw [P.c0]; rfl)
  · unfold stQ
    exact World.cell?_setCell_same' _ _ _ (by rw [World.cell?_setCell_other _ _ _ _ (fun e => by have := congrArg Addr.off e; simp at this), P.c1]; rfl)
  · unfold stQ
    rw [World.frozen?_setCell, World.frozen?_setCell]
    exact P.z0
  · unfold stQ
    rw [World.frozen?_setCell, World.frozen?_setCell]
    exact P.z1
theorem RTake.some {p s : Nat} (h : Least f p s) (k : RTake w b per v l g f e w') : RefPost w b per v l g (upd2 f p s false) (four p s true) e w' := by
  rcases k with ⟨h0, _⟩ | ⟨p', s', h1, k⟩
  · have := h0 p s; rw [h.is] at this; cases this
  · obtain ⟨rfl, rfl⟩ := h.one h1
    exact k
theorem RTake.none (h : ∀ p s, f p s = false) (k : RTake w b per v l g f e w') : RefPost w b per v l g f (four 0 0 false) e w' := by
  rcases k with ⟨_, h1⟩ | ⟨p', s', h1, _⟩
  · exact h1
  · have := h1.is; rw [h] at this; cases this
/-- A list that was told: nobody else writes it, and it is one's own. -/
theorem ListPost.both {L : List Nat} (hb : b < w.heap.size) (h : ListPost w L e w') : ∃ A c, e = .returned (.slice A L.length c) ∧ LstAt w' b A L ∧ w'.ownsRow w.heap.size 3 1 (.slice A L.length c) L.length (L.map intv) ∧ Below w.heap.size w w' := by
  obtain ⟨A, c, e1, h1, h2⟩ := ListPost.lst hb h
  obtain ⟨v, e2, o, hB⟩ := h
  rw [e1] at e2
  obtain rfl : Value.slice A L.length c = v := by simpa using e2
  exact ⟨A, c, e1, h1, o, hB⟩
/-- An act in its box. -/
structure AcAt (w : World) (q : Nat) (x0 x1 x2 : Int) : Prop where
  c0 : w.cell? ⟨q, 0, none⟩ = some (.int .i64 x0)
  c1 : w.cell? ⟨q, 1, none⟩ = some (.int .i64 x1)
  c2 : w.cell? ⟨q, 2, none⟩ = some (.int .i64 x2)
  lt : q < w.heap.size
theorem AcAt.off {q c : Nat} {x0 x1 x2 : Int} (H : AcAt w q x0 x1 x2) (o : Off w.heap.size c w w') (hn : q ≠ c) : AcAt w' q x0 x1 x2 :=
  ⟨(o.cell (p := ⟨q, 0, none⟩) H.lt hn).trans H.c0, (o.cell (p := ⟨q, 1, none⟩) H.lt hn).trans H.c1, (o.cell (p := ⟨q, 2, none⟩) H.lt hn).trans H.c2, Nat.lt_of_lt_of_le H.lt o.size⟩
theorem AcAt.grow {q : Nat} {x0 x1 x2 : Int} (H : AcAt w q x0 x1 x2) (k : Below w.heap.size w w') : AcAt w' q x0 x1 x2 :=
  ⟨(k.cell (p := ⟨q, 0, none⟩) H.lt).trans H.c0, (k.cell (p := ⟨q, 1, none⟩) H.lt).trans H.c1, (k.cell (p := ⟨q, 2, none⟩) H.lt).trans H.c2, Nat.lt_of_lt_of_le H.lt k.size⟩
theorem PS.doc {F q : Nat} {x0 x1 x2 : Int} {args : Array Value} {k : Value → Ending} (P : PS W b Q per g f g2 f2 u v l w) (X : AcAt w q x0 x1 x2) (h : Calls Tryd.prog F args w (RefPost w b per v l g3 f3 k)) :
    Calls Tryd.prog F args w fun e w' => ∃ A n c l', e = k (.agg #[.int .i64 (per : Int), .slice A n c]) ∧ PS W b Q per g f g3 f3 u (.slice A n c) l' w' ∧ AcAt w' q x0 x1 x2 :=
  h.mono fun e w' h => by
    obtain ⟨A, n, c, l', e1, P1, k1⟩ := P.next h
    exact ⟨A, n, c, l', e1, P1, X.grow k1⟩
theorem PS.own {F q : Nat} {x0 x1 x2 : Int} {args : Array Value} {x : Value} (P : PS W b Q per g f g2 f2 u v l w) (X : AcAt w q x0 x1 x2) (hq : q ≠ b) (h : Calls Tryd.prog F args w (BNext b per g' f' w x)) :
    Calls Tryd.prog F args w fun e w' => e = .returned x ∧ PS W b Q per g' f' g2 f2 u v l w' ∧ AcAt w' q x0 x1 x2 :=
  h.mono fun e w' h => ⟨(P.book h).1, (P.book h).2, X.off h.2.2 hq⟩
theorem PS.take {q : Nat} {x0 x1 x2 : Int} (P : PS W b Q per g f g f u v l w) (X : AcAt w q x0 x1 x2) (hq : q ≠ b) (hT : TabAt 0 Lib.deBruijn32tab w) :
    Calls Tryd.prog 12 #[.pointer (some ⟨b, 0, none⟩)] w fun e w' => ∃ (y0 y1 : Int) (r : Bool) (F : Nat → Nat → Bool), e = .returned (.tuple #[.int .i64 y0, .int .i64 y1, .bool r]) ∧ PS W b Q per g F g f u v l w' ∧ AcAt w' q x0 x1 x2 ∧
      Calls Tryd.prog 13 #[.agg #[.int .i64 per, v]] w' fun e w' => ∃ A n c l', e = .returned (.tuple #[.agg #[.int .i64 (per : Int), .slice A n c], .int .i64 y0, .int .i64 y1, .bool r]) ∧ PS W b Q per g F g F u (.slice A n c) l' w' ∧ AcAt w' q x0 x1 x2 := by
  refine (take_any P.s.k hT).mono fun e w' h => ?_
  rcases h with ⟨h0, e1, hb⟩ | ⟨p, s, hL, hX⟩
  · have P1 := P.grow hb
    have X1 := X.grow hb
    refine ⟨0, 0, false, f, e1, P1, X1, ?_⟩
    exact P1.doc X1 ((rTake P1.r P1.s.k.lb P.s.ok P.s.k.gl).mono fun e w' h => RTake.none h0 h)
  · obtain ⟨e1, P1⟩ := P.book hX
    have X1 := X.off hX.2.2 hq
    refine ⟨p, s, true, upd2 f p s false, e1, P1, X1, ?_⟩
    exact P1.doc X1 ((rTake P1.r P1.s.k.lb P.s.ok P.s.k.gl).mono fun e w' h => RTake.some hL h)
theorem PS.start {w : World} (S : SK W b per gN fN w) : PS W b w.heap.size per gN fN gN fN (.slice none 0 0) (.slice none 0 0) [] (w.alloc (.cells #[.int .i64 (per : Int), .slice none 0 0] 27)) :=
  have k : Below w.heap.size w (w.alloc (.cells #[.int .i64 (per : Int), .slice none 0 0] 27)) := (Below.refl _ _).alloc (Nat.le_refl _) _
  ⟨S.grow k, RefAt.empty _ b per, by simp, by simp, by simp, by simp, by simp, S.bl.size, fun e => (by have := S.k.lb; omega), fun r h => (by cases h), fun x h => (by cases h)⟩
end
end Go.Proofs.YtkkjjdnlfdempaaDoor
