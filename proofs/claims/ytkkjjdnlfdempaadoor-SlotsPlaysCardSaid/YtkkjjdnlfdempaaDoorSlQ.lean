/- The document's book in memory: a list of pages, each with a list of truths; what is appended. Plain lemmas; no statement is proved here. -/
import Derived.Test.YtkkjjdnlfdempaaDoorSlZ
import Derived.Deep.AppendSrc
import Derived.Deep.Upon
import Derived.Deep.OwnRows
namespace Go.Proofs.YtkkjjdnlfdempaaDoor
set_option maxRecDepth 100000
open Go.RowKit Go.Shelf
set_option linter.unusedVariables false
/-- 'append(v, x...)' onto a row of one's own, of whatever list, also of none. -/
theorem wp_append_more {P : Program} {w : World} {o : Oper} {a : Act} {K : Act → World → Prop} {Q : Exit → Act → World → Prop} (s x : Operand) (t : TypeId)
    (ho : o.op = .call { callee := .builtin .append, args := #[s, x], argTypes := #[t, t] })
    (base : Nat) (e : TypeId) (i : TypeInfo) (z : Value) (size bytes : Nat) (ht : P.underlying t = some (.slice e)) (hi : P.info? e = some i) (hz : i.zero = some z)
    (hsize : i.size = size) (hby : i.bytes = bytes) (hzs : z.cells.size = size) (hsz : 0 < size)
    (v : Value) (n : Nat) (xs : List Value) (hs : a.eval s = v) (hown : w.ownsRow base e size v n xs)
    (sp : Option Addr) (m c : Nat) (news : List Value) (hx : a.eval x = .slice sp m c) (hl : news.length = m * size) (hsrc : 0 < m → ∃ ad, sp = some ad ∧ ∀ j u, news[j]? = some u → w.cell? (ad.add j) = some u)
    (h1 : ∀ u ∈ news, u.oneCell' = true) (h63 : n + m ≤ maxLen) (hbytes : (n + m) * bytes ≤ 140737488355328) (hbase : base ≤ w.heap.size)
    (h : ∀ v' w', w'.ownsRow base e size v' (n + m) (xs ++ news) → Below base w w' → K (a.put o.dst v') w') : o.wp P a w K Q := by
  by_cases hm : m = 0
  · subst hm
    have hn : news = [] := List.eq_nil_of_length_eq_zero (by simpa using hl)
    subst hn
    have hr : (Builtin.append_ #[t, t] o.type #[v, .slice sp 0 c]).run P w = .ok v w := by
      have hS : Src P i.size t (.slice sp 0 c) 0 [] w := by
        cases sp with
        | none => exact Src.ofNil w ht c
        | some ad => exact Src.ofSlice w ht ad 0 c [] (by simp) (by simp) (by simp)
      rcases hown.2 with ⟨rfl, rfl⟩ | ⟨g, cap, cur, rfl, _, _, hle, _⟩
      · exact run_append_nothing w t t o.type e i ht hi none 0 0 (Nat.le_refl _) _ hS
      · exact run_append_nothing w t t o.type e i ht hi _ n cap hle _ hS
    unfold Oper.wp execOp
    simp only [ho, resolve, invoke, builtin, Sem.run_bind, Sem.run_pure, Result.andThen_ok, List.map_toArray, List.map_cons, List.map_nil, hs, hx, hr]
    exact h v w (by simpa using hown) (Below.refl _ _)
  · obtain ⟨ad, rfl, hnews⟩ := hsrc (by omega)
    exact wp_append_own w s x t ho base e i z size bytes ht hi hz hsize hby hzs hsz v n xs hs hown ad m c news hx hl hnews h1 h63 hbytes hbase
      (fun v' w' h2 h3 _ => h v' w' h2 ((Below.refl base w).grown h3 hbase fun k e => (hown.lt k e).1))
theorem wpList_append_more {P : Program} {w : World} {ops : Array Oper} {rest : List Oper} {o : Oper} {a : Act} {Q : Exit → Act → World → Prop} (hgd : o.guard = none) (s x : Operand) (t : TypeId)
    (ho : o.op = .call { callee := .builtin .append, args := #[s, x], argTypes := #[t, t] })
    (base : Nat) (e : TypeId) (i : TypeInfo) (z : Value) (size bytes : Nat) (ht : P.underlying t = some (.slice e)) (hi : P.info? e = some i) (hz : i.zero = some z)
    (hsize : i.size = size) (hby : i.bytes = bytes) (hzs : z.cells.size = size) (hsz : 0 < size)
    (v : Value) (n : Nat) (xs : List Value) (hs : a.eval s = v) (hown : w.ownsRow base e size v n xs)
    (sp : Option Addr) (m c : Nat) (news : List Value) (hx : a.eval x = .slice sp m c) (hl : news.length = m * size) (hsrc : 0 < m → ∃ ad, sp = some ad ∧ ∀ j u, news[j]? = some u → w.cell? (ad.add j) = some u)
    (h1 : ∀ u ∈ news, u.oneCell' = true) (h63 : n + m ≤ maxLen) (hbytes : (n + m) * bytes ≤ 140737488355328) (hbase : base ≤ w.heap.size)
    (h : ∀ v' w', w'.ownsRow base e size v' (n + m) (xs ++ news) → Below base w w' → wpList P ops Q rest (a.put o.dst v') w') : wpList P ops Q (o :: rest) a w :=
  wpList_plain hgd fun _ hK => wp_append_more s x t ho base e i z size bytes ht hi hz hsize hby hzs hsz v n xs hs hown sp m c news hx hl hsrc h1 h63 hbytes hbase fun v' w' h2 h3 => hK _ _ (h v' w' h2 h3)
/-- 'append(v, x...)' likewise; what has grown is said to the block. -/
theorem wp_append_grow {P : Program} {w : World} {o : Oper} {a : Act} {K : Act → World → Prop} {Q : Exit → Act → World → Prop} (s x : Operand) (t : TypeId)
    (ho : o.op = .call { callee := .builtin .append, args := #[s, x], argTypes := #[t, t] })
    (base : Nat) (e : TypeId) (i : TypeInfo) (z : Value) (size bytes : Nat) (ht : P.underlying t = some (.slice e)) (hi : P.info? e = some i) (hz : i.zero = some z)
    (hsize : i.size = size) (hby : i.bytes = bytes) (hzs : z.cells.size = size) (hsz : 0 < size)
    (v : Value) (n : Nat) (xs : List Value) (hs : a.eval s = v) (hown : w.ownsRow base e size v n xs)
    (sp : Option Addr) (m c : Nat) (news : List Value) (hx : a.eval x = .slice sp m c) (hl : news.length = m * size) (hsrc : 0 < m → ∃ ad, sp = some ad ∧ ∀ j u, news[j]? = some u → w.cell? (ad.add j) = some u)
    (h1 : ∀ u ∈ news, u.oneCell' = true) (h63 : n + m ≤ maxLen) (hbytes : (n + m) * bytes ≤ 140737488355328) (hbase : base ≤ w.heap.size)
    (h : ∀ v' w', w'.ownsRow base e size v' (n + m) (xs ++ news) → Below base w w' → w.grownBy w' v.ownBlock → K (a.put o.dst v') w') : o.wp P a w K Q := by
  by_cases hm : m = 0
  · subst hm
    have hn : news = [] := List.eq_nil_of_length_eq_zero (by simpa using hl)
    subst hn
    have hr : (Builtin.append_ #[t, t] o.type #[v, .slice sp 0 c]).run P w = .ok v w := by
      have hS : Src P i.size t (.slice sp 0 c) 0 [] w := by
        cases sp with
        | none => exact Src.ofNil w ht c
        | some ad => exact Src.ofSlice w ht ad 0 c [] (by simp) (by simp) (by simp)
      rcases hown.2 with ⟨rfl, rfl⟩ | ⟨g, cap, cur, rfl, _, _, hle, _⟩
      · exact run_append_nothing w t t o.type e i ht hi none 0 0 (Nat.le_refl _) _ hS
      · exact run_append_nothing w t t o.type e i ht hi _ n cap hle _ hS
    unfold Oper.wp execOp
    simp only [ho, resolve, invoke, builtin, Sem.run_bind, Sem.run_pure, Result.andThen_ok, List.map_toArray, List.map_cons, List.map_nil, hs, hx, hr]
    exact h v w (by simpa using hown) (Below.refl _ _) ⟨rfl, rfl, rfl, Nat.le_refl _, fun _ _ _ => rfl⟩
  · obtain ⟨ad, rfl, hnews⟩ := hsrc (by omega)
    exact wp_append_own w s x t ho base e i z size bytes ht hi hz hsize hby hzs hsz v n xs hs hown ad m c news hx hl hnews h1 h63 hbytes hbase
      (fun v' w' h2 h3 _ => h v' w' h2 ((Below.refl base w).grown h3 hbase fun k e => (hown.lt k e).1) h3)
theorem wpList_append_grow {P : Program} {w : World} {ops : Array Oper} {rest : List Oper} {o : Oper} {a : Act} {Q : Exit → Act → World → Prop} (hgd : o.guard = none) (s x : Operand) (t : TypeId)
    (ho : o.op = .call { callee := .builtin .append, args := #[s, x], argTypes := #[t, t] })
    (base : Nat) (e : TypeId) (i : TypeInfo) (z : Value) (size bytes : Nat) (ht : P.underlying t = some (.slice e)) (hi : P.info? e = some i) (hz : i.zero = some z)
    (hsize : i.size = size) (hby : i.bytes = bytes) (hzs : z.cells.size = size) (hsz : 0 < size)
    (v : Value) (n : Nat) (xs : List Value) (hs : a.eval s = v) (hown : w.ownsRow base e size v n xs)
    (sp : Option Addr) (m c : Nat) (news : List Value) (hx : a.eval x = .slice sp m c) (hl : news.length = m * size) (hsrc : 0 < m → ∃ ad, sp = some ad ∧ ∀ j u, news[j]? = some u → w.cell? (ad.add j) = some u)
    (h1 : ∀ u ∈ news, u.oneCell' = true) (h63 : n + m ≤ maxLen) (hbytes : (n + m) * bytes ≤ 140737488355328) (hbase : base ≤ w.heap.size)
    (h : ∀ v' w', w'.ownsRow base e size v' (n + m) (xs ++ news) → Below base w w' → w.grownBy w' v.ownBlock → wpList P ops Q rest (a.put o.dst v') w') : wpList P ops Q (o :: rest) a w :=
  wpList_plain hgd fun _ hK => wp_append_grow s x t ho base e i z size bytes ht hi hz hsize hby hzs hsz v n xs hs hown sp m c news hx hl hsrc h1 h63 hbytes hbase fun v' w' h2 h3 h4 => hK _ _ (h v' w' h2 h3 h4)
/-- Rows of two types are two rows. -/
theorem own_ne {w : World} {B1 B2 : Nat} {e1 e2 : TypeId} {s1 s2 n1 n2 : Nat} {v1 v2 : Value} {xs1 xs2 : List Value} (h1 : w.ownsRow B1 e1 s1 v1 n1 xs1) (h2 : w.ownsRow B2 e2 s2 v2 n2 xs2) (he : e1 ≠ e2) : v1.ownBlock = none ∨ v1.ownBlock ≠ v2.ownBlock := by
  rcases h1.2 with ⟨rfl, _⟩ | ⟨q1, c1, u1, rfl, _, k1, _⟩
  · exact .inl rfl
  · refine .inr fun e => ?_
    rcases h2.2 with ⟨rfl, _⟩ | ⟨q2, c2, u2, rfl, _, k2, _⟩
    · cases e
    · obtain rfl : q1 = q2 := by simpa [Value.ownBlock] using e
      rw [k1] at k2
      simp at k2
      exact he k2.2
theorem infoBool : (Tryd.prog.info? 4).map (fun i => (i.zero, i.size, i.bytes)) = some (some (.bool false), 1, 1) := by kernel_rfl
theorem infoPage : (Tryd.prog.info? 71).map (fun i => (i.zero, i.size, i.bytes)) = some (some (.agg #[.int .i64 0, .slice none 0 0]), 2, 32) := by kernel_rfl
/-- A page: its number, and the block and the room of its list of truths. -/
structure Pg where
  p : Nat
  h : Nat
  c : Nat
def Pg.cells (per : Nat) (x : Pg) : List Value := [.int .i64 (x.p : Int), .slice (some ⟨x.h, 0, none⟩) per x.c]
def pcs (per : Nat) (l : List Pg) : List Value := l.flatMap (Pg.cells per)
theorem pcs_length (per : Nat) : ∀ l : List Pg, (pcs per l).length = l.length * 2
  | [] => rfl
  | x :: l => by
    have := pcs_length per l
    simp only [pcs, List.flatMap_cons, List.length_append, List.length_cons] at *
    simp only [Pg.cells, List.length_cons, List.length_nil]
    omega
theorem pcs_append (per : Nat) (l m : List Pg) : pcs per (l ++ m) = pcs per l ++ pcs per m := by simp [pcs]
theorem pcs_at (per : Nat) : ∀ (l : List Pg) (i : Nat) (x : Pg), l[i]? = some x → (pcs per l)[i * 2]? = some (.int .i64 (x.p : Int)) ∧ (pcs per l)[i * 2 + 1]? = some (.slice (some ⟨x.h, 0, none⟩) per x.c)
  | [], i, x, h => by simp at h
  | y :: l, 0, x, h => by
    simp at h
    subst h
    exact ⟨rfl, rfl⟩
  | y :: l, i + 1, x, h => by
    have := pcs_at per l i x (by simpa using h)
    rw [show (i + 1) * 2 = i * 2 + 2 by omega]
    exact this
theorem pcs_one (per : Nat) (l : List Pg) : ∀ u ∈ pcs per l, u.oneCell' = true := fun u hu => by
  obtain ⟨x, _, hx⟩ := List.mem_flatMap.1 hu
  simp only [Pg.cells, List.mem_cons, List.mem_nil_iff, or_false] at hx
  rcases hx with rfl | rfl <;> rfl
theorem pcs_drop (per : Nat) : ∀ (l : List Pg) (k j : Nat), (pcs per (l.drop k))[j]? = (pcs per l)[k * 2 + j]?
  | l, 0, j => by simp
  | [], k + 1, j => by simp [pcs]
  | x :: l, k + 1, j => by
    rw [List.drop_succ_cons, pcs_drop per l k j, show (k + 1) * 2 + j = (k * 2 + j) + 2 by omega]
    rfl
theorem pcs_take (per : Nat) (l : List Pg) (k j : Nat) (u : Value) (h : (pcs per (l.take k))[j]? = some u) : (pcs per l)[j]? = some u := by
  have e : pcs per l = pcs per (l.take k) ++ pcs per (l.drop k) := by rw [← pcs_append, List.take_append_drop]
  rw [e, List.getElem?_append_left (List.getElem?_eq_some_iff.1 h).1]
  exact h
/-- At block h stand a page's truths. -/
structure RowB (w : World) (b h per : Nat) (f : Nat → Bool) : Prop where
  cs : ∀ s, s < per → w.cell? ⟨h, s, none⟩ = some (.bool (f s))
  lt : h < w.heap.size
  ne : h ≠ b
/-- The document's book: its pages are those of g, rising, with the slots f; nothing of it lies in block b. -/
structure RefAt (w : World) (b : Nat) (v : Value) (per : Nat) (g : Nat → Bool) (f : Nat → Nat → Bool) (l : List Pg) : Prop where
  own : w.ownsRow 0 71 2 v l.length (pcs per l)
  ps : l.map (·.p) = setL g 1024
  rows : ∀ x ∈ l, RowB w b x.h per (f x.p) ∧ per ≤ x.c ∧ x.c ≤ maxLen
  ne : ∀ q, v.ownBlock = some q → q ≠ b ∧ q < w.heap.size
section
variable {w w' : World} {b h per : Nat} {f : Nat → Bool} {g : Nat → Bool} {F : Nat → Nat → Bool} {v : Value} {l : List Pg}
theorem RowB.off (H : RowB w b h per f) (o : Off w.heap.size b w w') : RowB w' b h per f := ⟨fun s hs => (o.cell (p := ⟨h, s, none⟩) H.lt H.ne).trans (H.cs s hs), Nat.lt_of_lt_of_le H.lt o.size, H.ne⟩
theorem ownsRow_heap {B : Nat} {e : TypeId} {size n : Nat} {xs : List Value} (h : w.ownsRow B e size v n xs) (hk : ∀ q, v.ownBlock = some q → w'.heap[q]? = w.heap[q]?) : w'.ownsRow B e size v n xs := by
  refine ⟨h.1, ?_⟩
  rcases h.2 with hn | ⟨q, cap, cur, rfl, h1, h2, h3⟩
  · exact .inl hn
  · exact .inr ⟨q, cap, cur, rfl, h1, (hk q rfl).trans h2, h3⟩
theorem RefAt.off (H : RefAt w b v per g F l) (o : Off w.heap.size b w w') : RefAt w' b v per g F l :=
  ⟨ownsRow_heap H.own fun q hq => o.block q (H.ne q hq).2 (H.ne q hq).1, H.ps, fun x hx => ⟨(H.rows x hx).1.off o, (H.rows x hx).2⟩, fun q hq => ⟨(H.ne q hq).1, Nat.lt_of_lt_of_le (H.ne q hq).2 o.size⟩⟩
theorem RefAt.grow (H : RefAt w b v per g F l) (k : Below w.heap.size w w') : RefAt w' b v per g F l := H.off (Off.of_below k)
theorem RefAt.len (H : RefAt w b v per g F l) : l.length = cnt g 1024 := by rw [← setL_length, ← H.ps, List.length_map]
/-- What the i-th page reads as. -/
theorem RefAt.at (H : RefAt w b v per g F l) {i : Nat} {x : Pg} (hi : l[i]? = some x) : ∃ q cap, v = .slice (some ⟨q, 0, none⟩) l.length cap ∧ l.length ≤ cap ∧ w.cell? ⟨q, i * 2, none⟩ = some (.int .i64 (x.p : Int)) ∧
    w.cell? ⟨q, i * 2 + 1, none⟩ = some (.slice (some ⟨x.h, 0, none⟩) per x.c) := by
  have hlt := (List.getElem?_eq_some_iff.1 hi).1
  have o := H.own
  rcases H.own.2 with ⟨_, e⟩ | ⟨q, cap, cur, rfl, _, _, hle, _⟩
  · omega
  · have hp := pcs_at per l i x hi
    exact ⟨q, cap, rfl, hle, by rw [World.ownsRow.cellAt o (i * 2) (by omega), hp.1], by rw [World.ownsRow.cellAt o (i * 2 + 1) (by omega), hp.2]⟩
/-- It is a list of so many. -/
theorem RefAt.form (H : RefAt w b v per g F l) : ∃ A cap, v = .slice A l.length cap ∧ l.length ≤ cap ∧ cap ≤ maxLen ∧ (0 < l.length → ∃ q, A = some ⟨q, 0, none⟩) ∧ (A = none ∨ ∃ q, A = some ⟨q, 0, none⟩) := by
  rcases H.own.2 with ⟨rfl, e⟩ | ⟨q, cap, cur, rfl, _, _, hle, hm, _⟩
  · exact ⟨none, 0, by rw [e], by omega, by decide, fun h => by omega, .inl rfl⟩
  · exact ⟨_, cap, rfl, hle, hm, fun _ => ⟨q, rfl⟩, .inr ⟨q, rfl⟩⟩
theorem RefAt.page (H : RefAt w b v per g F l) {i : Nat} {x : Pg} (hi : l[i]? = some x) : g x.p = true ∧ x.p < 1024 ∧ cnt g x.p = i := by
  have : (setL g 1024)[i]? = some x.p := by rw [← H.ps, List.getElem?_map, hi]; rfl
  exact setL_at g 1024 i x.p this
end
end Go.Proofs.YtkkjjdnlfdempaaDoor
