/- Plain matter for SlotsOnce and SlotsLeast: how many are free; truths in an array. No statement is proved here. -/
import Derived.Test.YtkkjjdnlfdempaaDoorSlW
namespace Go.Proofs.YtkkjjdnlfdempaaDoor
set_option maxRecDepth 100000
open Go.RowKit Go.Shelf
set_option linter.unusedVariables false
theorem cnt_set {h : Nat → Bool} {s : Nat} (hv : h s = false) : ∀ k, s < k → cnt (upd h s true) k = cnt h k + 1
  | 0, hk => by omega
  | k + 1, hk => by
    by_cases e : s = k
    · subst e
      have : cnt (upd h s true) s = cnt h s := cnt_congr fun j hj => upd_ne h true (by omega)
      simp [cnt, this, upd_same, hv]
    · have ih := cnt_set hv k (by omega)
      simp only [cnt, ih, upd_ne h true (show k ≠ s by omega)]
      omega
theorem cnt_clear {h : Nat → Bool} {s : Nat} (hv : h s = true) : ∀ k, s < k → cnt (upd h s false) k + 1 = cnt h k
  | 0, hk => by omega
  | k + 1, hk => by
    by_cases e : s = k
    · subst e
      have : cnt (upd h s false) s = cnt h s := cnt_congr fun j hj => upd_ne h false (by omega)
      simp [cnt, this, upd_same, hv]
    · have ih := cnt_clear hv k (by omega)
      simp only [cnt, upd_ne h false (show k ≠ s by omega)]
      omega
theorem tot_updP (f : Nat → Nat → Bool) (p : Nat) (h : Nat → Bool) : ∀ n, p < n → tot (updP f p h) n + cnt (f p) 16 = tot f n + cnt h 16
  | 0, hn => by omega
  | n + 1, hn => by
    by_cases e : p = n
    · subst e
      have : tot (updP f p h) p = tot f p := tot_congr fun q s hq hs => by rw [updP_ne f h (by omega)]
      simp only [tot, this, updP_same]
      omega
    · have ih := tot_updP f p h n (by omega)
      simp only [tot, updP_ne f h (show n ≠ p by omega)]
      omega
theorem tot_put {f : Nat → Nat → Bool} {p s n : Nat} (hp : p < n) (hs : s < 16) (hv : f p s = false) : tot (upd2 f p s true) n = tot f n + 1 := by
  have h1 := tot_updP f p (upd (f p) s true) n hp
  rw [← upd2_updP, cnt_set hv 16 hs] at h1
  omega
theorem tot_take {f : Nat → Nat → Bool} {p s n : Nat} (hp : p < n) (hs : s < 16) (hv : f p s = true) : tot (upd2 f p s false) n + 1 = tot f n := by
  have h1 := tot_updP f p (upd (f p) s false) n hp
  have h2 := cnt_clear hv 16 hs
  rw [← upd2_updP] at h1
  omega
theorem cnt_full : ∀ n, n ≤ 16 → cnt (full n) 16 = n := by
  have : ∀ n : Fin 17, cnt (full n.val) 16 = n.val := by decide +kernel
  exact fun n hn => this ⟨n, by omega⟩
theorem tot_zero {f : Nat → Nat → Bool} (h : ∀ p s, f p s = false) : ∀ n, tot f n = 0
  | 0 => rfl
  | n + 1 => by simp only [tot]; rw [tot_zero h n, cnt_zero (fun s _ => h n s)]
theorem tot_pos {f : Nat → Nat → Bool} {p s n : Nat} (hp : p < n) (hs : s < 16) (hv : f p s = true) : 0 < tot f n := by
  have := tot_take hp hs hv
  omega
theorem tot_add {f : Nat → Nat → Bool} {p n m : Nat} (hp : p < n) (hm : m ≤ 16) (h0 : ∀ s, f p s = false) : tot (updP f p (full m)) n = tot f n + m := by
  have h1 := tot_updP f p (full m) n hp
  rw [cnt_zero (fun s _ => h0 s), cnt_full m hm] at h1
  omega
/-- At block q stand m truths, as h tells. -/
structure TrArr (W : World) (q m : Nat) (h : Nat → Bool) : Prop where
  cs : ∀ i, i < m → W.cell? ⟨q, i, none⟩ = some (.bool (h i)) ∧ W.frozen? ⟨q, i, none⟩ = false
  lt : q < W.heap.size
section
variable {W W' : World} {q m : Nat} {h k : Nat → Bool}
theorem TrArr.keep (H : TrArr W q m h) (hk : W'.heap[q]? = W.heap[q]?) (hs : W.heap.size ≤ W'.heap.size) : TrArr W' q m h :=
  ⟨fun i hi => ⟨(World.cell?_of_block hk).trans (H.cs i hi).1, (World.frozen?_of_block hk).trans (H.cs i hi).2⟩, Nat.lt_of_lt_of_le H.lt hs⟩
theorem TrArr.grow (H : TrArr W q m h) (b : Below W.heap.size W W') : TrArr W' q m h := H.keep (b.block q H.lt) b.size
theorem TrArr.off {b : Nat} (H : TrArr W q m h) (o : Off W.heap.size b W W') (hn : q ≠ b) : TrArr W' q m h := H.keep (o.block q H.lt hn) o.size
theorem TrArr.congr (H : TrArr W q m h) (e : ∀ i, i < m → h i = k i) : TrArr W q m k := ⟨fun i hi => e i hi ▸ H.cs i hi, H.lt⟩
theorem TrArr.store (H : TrArr W q m h) {a : Nat} (ha : a < m) (v : Bool) : TrArr (W.setCell ⟨q, a, none⟩ (.bool v)) q m (upd h a v) := by
  refine ⟨fun i hi => ⟨?_, (World.frozen?_setCell _ _ _ _).trans (H.cs i hi).2⟩, by simpa [World.setCell] using H.lt⟩
  by_cases e : i = a
  · subst e
    rw [upd_same]
    exact World.cell?_setCell_same' _ _ _ (by rw [(H.cs i hi).1]; rfl)
  · rw [upd_ne _ _ e, World.cell?_setCell_other _ _ _ _ (fun e' => e (by simpa using (congrArg Addr.off e').symm))]
    exact (H.cs i hi).1
theorem TrArr.far (H : TrArr W q m h) {r : Nat} (hn : q ≠ r) (j : Nat) (u : Value) : TrArr (W.setCell ⟨r, j, none⟩ u) q m h :=
  H.keep (Below.heap_setCell _ _ _ _ hn) (by simp [World.setCell])
theorem TrArr.zero (W : World) (m : Nat) (t : TypeId) : TrArr (W.alloc (.cells (Array.replicate m (.bool false)) t)) W.heap.size m (fun _ => false) := ⟨fun i hi => by
  constructor
  · simp [hi]
  · simp, by simp⟩
end
/-- Which slots were taken and not put back: in one row. -/
def tkn (n : Nat) (g : Nat → Bool) (f : Nat → Nat → Bool) (j : Nat) : Bool := g (j / 16) && decide (j % 16 < n) && !f (j / 16) (j % 16)
/-- A book, and beside it which pages are there, and which slots are taken. -/
structure OI (W : World) (b n qa qb : Nat) (g : Nat → Bool) (f : Nat → Nat → Bool) (w : World) : Prop where
  k : SK W b n g f w
  a : TrArr w qa 8 g
  t : TrArr w qb 128 (tkn n g f)
  g8 : ∀ p, g p = true → p < 8
  d : b ≠ qa ∧ b ≠ qb ∧ qa ≠ qb ∧ W.heap.size ≤ qa ∧ W.heap.size ≤ qb
section
variable {W w w' : World} {b n qa qb : Nat} {g g' : Nat → Bool} {f f' : Nat → Nat → Bool} {v : Value} {e : Ending}
theorem OI.grow (H : OI W b n qa qb g f w) (k : Below w.heap.size w w') : OI W b n qa qb g f w' := ⟨H.k.grow k, H.a.grow k, H.t.grow k, H.g8, H.d⟩
theorem OI.same (H : OI W b n qa qb g f w) (k : BNext b n g f w v e w') : e = .returned v ∧ OI W b n qa qb g f w' :=
  ⟨k.1, (H.k.next k).2, H.a.off k.2.2 H.d.1.symm, H.t.off k.2.2 H.d.2.1.symm, H.g8, H.d⟩
theorem SK.far {r : Nat} (S : SK W b n g f w) (hn : b ≠ r) (hr : W.heap.size ≤ r) (j : Nat) (u : Value) : SK W b n g f (w.setCell ⟨r, j, none⟩ u) :=
  ⟨S.k.keep (Below.heap_setCell _ _ _ _ hn) (by simp [World.setCell]), S.bl.setCell (p := ⟨r, j, none⟩) hr u, S.hb⟩
/-- What a call of the book's leaves, ahead of what is noted of it. -/
structure OX (W : World) (b n qa qb : Nat) (g : Nat → Bool) (h t : Nat → Bool) (f : Nat → Nat → Bool) (w : World) : Prop where
  k : SK W b n g f w
  a : TrArr w qa 8 h
  t : TrArr w qb 128 t
theorem OI.next (H : OI W b n qa qb g f w) (k : BNext b n g' f' w v e w') : e = .returned v ∧ OX W b n qa qb g' g (tkn n g f) f' w' :=
  ⟨k.1, (H.k.next k).2, H.a.off k.2.2 H.d.1.symm, H.t.off k.2.2 H.d.2.1.symm⟩
/-- A slot that was free is taken. -/
theorem tkn_take {p s : Nat} (hp : g p = true) (hs : s < n) (hn : n ≤ 16) (hf : f p s = true) (j : Nat) : upd (tkn n g f) (p * 16 + s) true j = tkn n g (upd2 f p s false) j := by
  by_cases e : j = p * 16 + s
  · subst e
    rw [upd_same]
    unfold tkn
    rw [show (p * 16 + s) / 16 = p by omega, show (p * 16 + s) % 16 = s by omega, hp]
    simp [upd2, upd, hs]
  · rw [upd_ne _ _ e]
    unfold tkn
    by_cases e1 : j / 16 = p
    · have e2 : j % 16 ≠ s := by omega
      simp [upd2, upd, e1, e2]
    · simp [upd2, e1]
/-- A slot that was taken is put back. -/
theorem tkn_put {p s : Nat} (hs : s < 16) (j : Nat) : upd (tkn n g f) (p * 16 + s) false j = tkn n g (upd2 f p s true) j := by
  by_cases e : j = p * 16 + s
  · subst e
    rw [upd_same]
    unfold tkn
    rw [show (p * 16 + s) / 16 = p by omega, show (p * 16 + s) % 16 = s by omega]
    simp [upd2, upd]
  · rw [upd_ne _ _ e]
    unfold tkn
    by_cases e1 : j / 16 = p
    · have e2 : j % 16 ≠ s := by omega
      simp [upd2, upd, e1, e2]
    · simp [upd2, e1]
theorem tkn_add {p : Nat} (hp : g p = false) (j : Nat) : tkn n g f j = tkn n (upd g p true) (updP f p (full n)) j := by
  unfold tkn
  by_cases e : j / 16 = p
  · rw [e, hp, upd_same, updP_same]
    unfold full
    cases decide (j % 16 < n) <;> rfl
  · rw [upd_ne g true e, updP_ne f _ e]
end
end Go.Proofs.YtkkjjdnlfdempaaDoor
