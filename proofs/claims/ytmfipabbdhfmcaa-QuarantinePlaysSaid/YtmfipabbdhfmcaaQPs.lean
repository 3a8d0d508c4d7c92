/- A yard beside the document's, in a law. No statement is proved here. -/
import Derived.Test.YtmfipabbdhfmcaaQRf
import Derived.Test.YtmfipabbdhfmcaaQDM
namespace Go.Proofs.Ytmfipabbdhfmcaa.Qu
set_option maxRecDepth 100000
open Go.RowKit Go.Shelf
set_option linter.unusedVariables false
/-- The program's yard (p), and the document's (d) in a box q. -/
structure PM (W : World) (y q n : Nat) (b : Int) (p d : QS) (wl bl : Value) (w : World) : Prop where
  k : QK W (fun j => j < W.heap.size ∨ j = q ∨ wl.ownBlock = some j ∨ bl.ownBlock = some j) y n p.W p.B p.e p.sw w
  bx : Y5 w q (dyU b wl bl d.e d.sw)
  ow : w.ownsRow 0 33 2 wl d.W.length (d.W.flatMap rgC)
  ob : w.ownsRow 0 33 2 bl d.B.length (d.B.flatMap rgC)
  hq : W.heap.size ≤ q
  sw : wl.ownBlock ≠ some q
  sb : bl.ownBlock ≠ some q
section
variable {W w w' : World} {y q n : Nat} {b : Int} {p d p' d' : QS} {wl bl v : Value} {a s : Nat} {Bt : List Rg}
theorem PM.grow (H : PM W y q n b p d wl bl w) (k : Below w.heap.size w w') : PM W y q n b p d wl bl w' :=
  ⟨H.k.grow k, H.bx.grow k, own_grow H.ow k, own_grow H.ob k, H.hq, H.sw, H.sb⟩
theorem PM.kp (H : PM W y q n b p d wl bl w) (K : QK W (fun j => j < W.heap.size ∨ j = q ∨ wl.ownBlock = some j ∨ bl.ownBlock = some j) y n p'.W p'.B p'.e p'.sw w') (k : Kp (fun j => j < W.heap.size ∨ j = q ∨ wl.ownBlock = some j ∨ bl.ownBlock = some j) w w') : PM W y q n b p' d wl bl w' :=
  ⟨K, H.bx.keep (k.block q (.inr (.inl rfl))), own_keep H.ow fun g hg => k.block g (.inr (.inr (.inl hg))), own_keep H.ob fun g hg => k.block g (.inr (.inr (.inr hg))), H.hq, H.sw, H.sb⟩
/-- The document's next state, in its box. -/
theorem PM.set (H : PM W y q n b p d wl bl w) (k : Below w.heap.size w w') {wl' bl' : Value} (ow : w'.ownsRow 0 33 2 wl' d'.W.length (d'.W.flatMap rgC)) (ob : w'.ownsRow 0 33 2 bl' d'.B.length (d'.B.flatMap rgC))
    (hw : ∀ j, wl'.ownBlock = some j → (wl.ownBlock = some j ∨ bl.ownBlock = some j) ∨ w.heap.size ≤ j) (hb : ∀ j, bl'.ownBlock = some j → (wl.ownBlock = some j ∨ bl.ownBlock = some j) ∨ w.heap.size ≤ j) :
    PM W y q n b p d' wl' bl' (((((w'.setCell ⟨q, 0, none⟩ (.int .i64 b)).setCell ⟨q, 1, none⟩ wl').setCell ⟨q, 2, none⟩ bl').setCell ⟨q, 3, none⟩ (.int .u64 (d'.e : Int))).setCell ⟨q, 4, none⟩ (.bool d'.sw)) := by
  have hql := H.bx.lt
  have hb1 : ∀ j, j ≠ q → (((((w'.setCell ⟨q, 0, none⟩ (.int .i64 b)).setCell ⟨q, 1, none⟩ wl').setCell ⟨q, 2, none⟩ bl').setCell ⟨q, 3, none⟩ (.int .u64 (d'.e : Int))).setCell ⟨q, 4, none⟩ (.bool d'.sw)).heap[j]? = w'.heap[j]? := fun j hj => by
    rw [y_set _ _ _ _ _ hj, y_set _ _ _ _ _ hj, y_set _ _ _ _ _ hj, y_set _ _ _ _ _ hj, y_set _ _ _ _ _ hj]
  have hs : (((((w'.setCell ⟨q, 0, none⟩ (.int .i64 b)).setCell ⟨q, 1, none⟩ wl').setCell ⟨q, 2, none⟩ bl').setCell ⟨q, 3, none⟩ (.int .u64 (d'.e : Int))).setCell ⟨q, 4, none⟩ (.bool d'.sw)).heap.size = w'.heap.size := by
    rw [sz_set, sz_set, sz_set, sz_set, sz_set]
  have nq : ∀ (v : Value), (∀ j, v.ownBlock = some j → (wl.ownBlock = some j ∨ bl.ownBlock = some j) ∨ w.heap.size ≤ j) → v.ownBlock ≠ some q := fun v h e => by
    rcases h q e with (h | h) | h
    · exact H.sw h
    · exact H.sb h
    · omega
  have hx := (H.bx.grow k).all (.int .i64 b) wl' bl' (.int .u64 (d'.e : Int)) (.bool d'.sw)
  refine ⟨⟨?_, all_below (H.k.b.trans (k.mono H.k.b.size)) H.hq _ _ _ _ _, fun j hj => .inl hj⟩, fun i => ⟨fun hi => ((hx i).1 hi).trans ?_, (hx i).2⟩, own_keep ow fun g hg => hb1 g (fun e => nq wl' hw (e ▸ hg)), own_keep ob fun g hg => hb1 g (fun e => nq bl' hb (e ▸ hg)), H.hq, nq wl' hw, nq bl' hb⟩
  · have hm := (H.k.more k).y
    refine YD.other (D := _) (hm.sub (D' := fun j => j < W.heap.size ∨ j = q ∨ wl'.ownBlock = some j ∨ bl'.ownBlock = some j) fun j hj => ?_) (fun j hj _ => hb1 j fun e => hj (.inr (.inl e))) (by rw [hs]; exact Nat.le_refl _)
    rcases hj with hj | hj | hj | hj
    · exact .inl (.inl hj)
    · exact .inl (.inr (.inl hj))
    · rcases hw j hj with h | h
      · exact .inl (.inr (.inr h))
      · exact .inr ⟨h, (ow.lt j hj).2⟩
    · rcases hb j hj with h | h
      · exact .inl (.inr (.inr h))
      · exact .inr ⟨h, (ob.lt j hj).2⟩
  · match i, hi with
    | 0, _ => rfl
    | 1, _ => rfl
    | 2, _ => rfl
    | 3, _ => rfl
    | 4, _ => rfl
/-- Is an address painted, by the paint and by the document? -/
theorem cov_mt {n : Nat} {X : List Rg} (G : Good n X) (a : Nat) : cov X (a / 16) = (mt X (a, 1) && decide (a < 16 * n)) := by
  rw [Bool.eq_iff_iff, Bool.and_eq_true, decide_eq_true_eq, cov_iff, mt_iff]
  dsimp only
  constructor
  · rintro ⟨r, hr, h1, h2⟩
    have := okA_iff.1 (G.al r hr)
    exact ⟨⟨r, hr, by omega⟩, by omega⟩
  · rintro ⟨⟨r, hr, h1⟩, _⟩
    have := okA_iff.1 (G.al r hr)
    exact ⟨r, hr, by omega, by omega⟩
end
end Go.Proofs.Ytmfipabbdhfmcaa.Qu
