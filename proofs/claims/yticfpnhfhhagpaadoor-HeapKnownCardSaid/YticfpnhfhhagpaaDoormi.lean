/- A map of regions, by where they begin; the list of its keys, sorted. No statement is proved here.; Contracts of the library at maps with keys of 32 bits: slices.Sorted of the keys of a map of regions. No statement is proved here.; Contracts of layer heap: the regions of a map, rising. No statement is proved here.; Contracts of layer heap: list. No statement is proved here. -/
import Derived.Test.YticfpnhfhhagpaaDoormg
import Derived.Test.YticfpnhfhhagpaaDoormh
import Derived.RangeFuncNested
import Derived.RangeFuncBound
namespace Go.Proofs.YticfpnhfhhagpaaDoor
set_option maxRecDepth 100000
open Go.RowKit Go.Shelf Go.Maps
open Go.Sort (ltInt PermIn SortedIn swo_ltInt sorted_unique_holds)
set_option linter.unusedVariables false

/-- A region as a value; what a map's element reads as. -/
def rgV (r : Rg) : Value := .agg #[.int .u32 (r.1 : Int), .int .u32 (r.2 : Int)]
def rgR (v : Value) : Option (DataW Rg × List MemPlace) :=
  match v with
  | .agg cs => match cs.toList with
    | [.int .u32 a, .int .u32 s] => if 0 ≤ a ∧ 0 ≤ s then some (.held (a.toNat, s.toNat), []) else none
    | _ => none
  | _ => none
theorem rgR_mk (r : Rg) : rgR (rgV r) = some (.held r, []) := by
  obtain ⟨a, s⟩ := r
  simp [rgR, rgV]
theorem rgR_inv {v : Value} {r : Rg} {ps : List MemPlace} (h : rgR v = some (.held r, ps)) : v = rgV r := by
  unfold rgR at h
  split at h
  · rename_i cs
    split at h
    · rename_i a s e
      split at h
      · rename_i h0
        cases h
        have : cs = #[.int .u32 a, .int .u32 s] := by rw [← Array.toArray_toList (xs := cs), e]
        rw [this]
        unfold rgV
        simp only
        rw [Int.toNat_of_nonneg h0.1, Int.toNat_of_nonneg h0.2]
      · cases h
    · cases h
  · cases h
theorem key_lit (a : Int) : WideAt.IsKeyLit (.int .u32 a) := trivial
theorem lit_ne {a b : Int} (h : a ≠ b) : Lit.int .u32 a ≠ .int .u32 b := fun e => h (by cases e; rfl)
theorem lit_wf {a : Nat} (h : a < 4294967296) : (Lit.int .u32 (a : Int)).wf = true := by
  have e : IntKind.u32.min = 0 := rfl
  have e2 : IntKind.u32.max = 4294967295 := rfl
  simp [Lit.wf, e, e2]
  omega
/-- What a datum tells: just the regions of a list. -/
structure DL (D : DataW Rg) (L : List Rg) : Prop where
  has : ∀ a : Int, Maps.has D (.int .u32 a) = L.any fun r => decide ((r.1 : Int) = a)
  val : ∀ r ∈ L, ∀ zd, D.atKey (.int .u32 (r.1 : Int)) zd = .held r
  sz : Maps.size D = L.length
theorem DL.nil : DL (.map []) [] := ⟨fun _ => rfl, by simp, rfl⟩
/-- None begins where another one does. -/
def Apt (L : List Rg) : Prop := ∀ r ∈ L, ∀ q ∈ L, r.1 = q.1 → r = q
theorem DL.put {D : DataW Rg} {L L' : List Rg} {r : Rg} (h : DL D L) (t : Tidy D) (hm : ∀ q, q ∈ L' ↔ q = r ∨ q ∈ L) (hn : ∀ q ∈ L, q.1 ≠ r.1) (hl : L'.length = L.length + 1) : DL (D.put (.int .u32 (r.1 : Int)) (.held r)) L' := by
  refine ⟨fun a => ?_, fun q hq zd => ?_, ?_⟩
  · by_cases e : a = (r.1 : Int)
    · subst e
      rw [has_put_same t.isMap (key_lit _)]
      symm
      rw [List.any_eq_true]
      exact ⟨r, (hm r).2 (.inl rfl), by simp⟩
    · rw [has_put_other (lit_ne e), h.has, Bool.eq_iff_iff, List.any_eq_true, List.any_eq_true]
      constructor
      · rintro ⟨q, hq, k⟩; exact ⟨q, (hm q).2 (.inr hq), k⟩
      · rintro ⟨q, hq, k⟩
        rcases (hm q).1 hq with rfl | hq
        · exact absurd (of_decide_eq_true k).symm e
        · exact ⟨q, hq, k⟩
  · rcases (hm q).1 hq with rfl | hq
    · exact atKey_put_same t.isMap (key_lit _) _ _
    · rw [atKey_put_other (lit_ne (by have := hn q hq; omega))]
      exact h.val q hq zd
  · rw [size_put t, h.has, if_neg, h.sz, hl]
    rw [List.any_eq_true]
    rintro ⟨q, hq, k⟩
    exact hn q hq (by have := of_decide_eq_true k; omega)
theorem DL.del {D : DataW Rg} {L L' : List Rg} {r : Rg} (h : DL D L) (t : Tidy D) (ha : Apt L) (hr : r ∈ L) (hm : ∀ q, q ∈ L' ↔ q ∈ L ∧ q ≠ r) (hl : L'.length + 1 = L.length) : DL (D.del (.int .u32 (r.1 : Int))) L' := by
  refine ⟨fun a => ?_, fun q hq zd => ?_, ?_⟩
  · by_cases e : a = (r.1 : Int)
    · subst e
      rw [has_del_same]
      symm
      rw [List.any_eq_false]
      intro q hq k
      have := of_decide_eq_true k
      obtain ⟨h1, h2⟩ := (hm q).1 hq
      exact h2 (ha q h1 r hr (by omega))
    · rw [has_del_other (lit_ne e), h.has, Bool.eq_iff_iff, List.any_eq_true, List.any_eq_true]
      constructor
      · rintro ⟨q, hq, k⟩
        refine ⟨q, (hm q).2 ⟨hq, fun e2 => e ?_⟩, k⟩
        subst e2
        exact (of_decide_eq_true k).symm
      · rintro ⟨q, hq, k⟩; exact ⟨q, ((hm q).1 hq).1, k⟩
  · obtain ⟨h1, h2⟩ := (hm q).1 hq
    rw [atKey_del_other (lit_ne (fun e => h2 (ha q h1 r hr (by omega))))]
    exact h.val q h1 zd
  · have := size_del (k := .int .u32 (r.1 : Int)) t
    rw [h.has, if_pos (List.any_eq_true.2 ⟨r, hr, by simp⟩), h.sz] at this
    omega
/-- Block b is a map of just these regions. -/
structure RMap (W : World) (b : Nat) (L : List Rg) : Prop where
  own : ∃ D, W.ownsMap Tryd.prog 24 rgR b L.length D ∧ DL D L
  asc : L.Pairwise fun r q => r.1 < q.1
  u32 : ∀ r ∈ L, r.1 < 4294967296 ∧ r.2 < 4294967296
section
variable {W W' w : World} {b : Nat} {L L' : List Rg} {r : Rg}
theorem asc_apt (h : L.Pairwise fun r q => r.1 < q.1) : Apt L := by
  intro r hr q hq e
  induction h with
  | nil => cases hr
  | cons hx _ ih =>
    rcases List.mem_cons.1 hr with rfl | hr'
    · rcases List.mem_cons.1 hq with rfl | hq'
      · rfl
      · have := hx q hq'; omega
    · rcases List.mem_cons.1 hq with rfl | hq'
      · have := hx r hr'; omega
      · exact ih hr' hq'
theorem RMap.lt (H : RMap W b L) : b < W.heap.size := by obtain ⟨D, h, _⟩ := H.own; exact h.lt
theorem RMap.keep (H : RMap W b L) (hk : W'.heap[b]? = W.heap[b]?) : RMap W' b L := by
  obtain ⟨D, ⟨es, clock, hb, Ft, hs, hD⟩, hd⟩ := H.own
  exact ⟨⟨D, ⟨es, clock, hk.trans hb, Ft, hs, hD⟩, hd⟩, H.asc, H.u32⟩
theorem RMap.grow (H : RMap W b L) (h : Below W.heap.size W W') : RMap W' b L := H.keep (h.block b H.lt)
theorem RMap.off {q : Nat} (H : RMap W b L) (h : Off W.heap.size q W W') (hn : b ≠ q) : RMap W' b L := H.keep (h.block b H.lt hn)
theorem uKeyed : Keyed Tryd.prog 24 := int_keyed Tryd.underlying24
theorem RMap.new (W : World) : RMap (W.alloc (.map #[] 0)) W.heap.size [] := ⟨⟨_, World.ownsMap_made _ _ _ _, DL.nil⟩, List.Pairwise.nil, by simp⟩
theorem off_turned (h : W.mapTurned W' b) : Off W.heap.size b W W' := by
  have g := h.grown
  exact ⟨g.os, g.tape, g.output, g.size, fun k hk hn => g.block k hk (fun e => hn (by cases e; rfl))⟩
/-- Is one there that begins there, and which? -/
theorem RMap.look (H : RMap W b L) (a : Nat) (ha : a < 4294967296) : ∃ q : Rg, (Instr.lookup 50 (.map (some b)) (.int .u32 (a : Int)) true).run Tryd.prog W = .ok (.tuple #[rgV q, .bool (L.any fun r => decide (r.1 = a))]) W ∧ ∀ r ∈ L, r.1 = a → q = r := by
  obtain ⟨D, ho, hd⟩ := H.own
  obtain ⟨v, ps, hrun, hv⟩ := ho.look_ok uKeyed Tryd.underlying50 (z := rgV (0, 0)) (by kernel_rfl) (rgR_mk (0, 0)) (keyOf_int_mk Tryd.underlying24 (lit_wf ha))
  have e : (L.any fun r => decide ((r.1 : Int) = (a : Int))) = L.any fun r => decide (r.1 = a) := by
    congr 1; funext r; rw [decide_eq_decide]; omega
  rw [hd.has, e] at hrun
  by_cases hh : ∃ r ∈ L, r.1 = a
  · obtain ⟨r, hr, rfl⟩ := hh
    rw [hd.val r hr] at hv
    have := rgR_inv hv
    subst this
    exact ⟨r, hrun, fun q hq e => asc_apt H.asc r hr q hq e.symm⟩
  · have hno : Maps.has D (.int .u32 (a : Int)) = false := by
      rw [hd.has, List.any_eq_false]
      intro r hr k
      exact hh ⟨r, hr, by have := of_decide_eq_true k; omega⟩
    rw [atKey_of_not_has hno] at hv
    have := rgR_inv hv
    subst this
    exact ⟨(0, 0), hrun, fun r hr e => absurd ⟨r, hr, e⟩ hh⟩
theorem RMap.get (H : RMap W b L) (hr : r ∈ L) : (Instr.lookup 50 (.map (some b)) (.int .u32 (r.1 : Int)) false).run Tryd.prog W = .ok (rgV r) W := by
  obtain ⟨D, ho, hd⟩ := H.own
  obtain ⟨v, ps, hrun, hv⟩ := ho.lookup uKeyed Tryd.underlying50 (z := rgV (0, 0)) (by kernel_rfl) (rgR_mk (0, 0)) (keyOf_int_mk Tryd.underlying24 (lit_wf (H.u32 r hr).1))
  rw [hd.val r hr] at hv
  rw [hrun, rgR_inv hv]
theorem exact_size {D : DataW Rg} {n : Nat} (h : W.ownsMap Tryd.prog 24 rgR b n D) : W.ownsMap Tryd.prog 24 rgR b (Maps.size D) D := by
  obtain ⟨es, clock, hb, F, hs, hD⟩ := h
  refine ⟨es, clock, hb, F, ?_, hD⟩
  rw [hD, size_eq, length_read]
  exact Nat.le_refl _
theorem RMap.put (H : RMap W b L) (hu : r.1 < 4294967296 ∧ r.2 < 4294967296) (hn : ∀ q ∈ L, q.1 ≠ r.1) (hL : L.length < 1048576) (hm : ∀ q, q ∈ L' ↔ q = r ∨ q ∈ L) (ha : L'.Pairwise fun r q => r.1 < q.1) (hl : L'.length = L.length + 1) :
    ∃ W', (Instr.mapUpdate 50 (.map (some b)) (.int .u32 (r.1 : Int)) (rgV r)).run Tryd.prog W = .ok () W' ∧ RMap W' b L' ∧ Off W.heap.size b W W' := by
  obtain ⟨D, ho, hd⟩ := H.own
  obtain ⟨W', hrun, ho', ht⟩ := ho.store uKeyed Tryd.underlying50 (by unfold maxLen; omega) (keyOf_int_mk Tryd.underlying24 (lit_wf hu.1)) (rgR_mk r)
  exact ⟨W', hrun, ⟨⟨_, hl ▸ ho', hd.put (ho.tidy uKeyed) hm hn hl⟩, ha, fun q hq => by
    rcases (hm q).1 hq with rfl | hq
    · exact hu
    · exact H.u32 q hq⟩, off_turned ht⟩
theorem RMap.del (H : RMap W b L) (hr : r ∈ L) (hm : ∀ q, q ∈ L' ↔ q ∈ L ∧ q ≠ r) (ha : L'.Pairwise fun r q => r.1 < q.1) (hl : L'.length + 1 = L.length) (ty : TypeId) :
    ∃ W', (Builtin.delete_ #[50, 24] ty #[.map (some b), .int .u32 (r.1 : Int)]).run Tryd.prog W = .ok (.tuple #[]) W' ∧ RMap W' b L' ∧ Off W.heap.size b W W' := by
  obtain ⟨D, ho, hd⟩ := H.own
  obtain ⟨W', hrun, ho', ht⟩ := ho.drop uKeyed Tryd.underlying50 (keyOf_int_mk Tryd.underlying24 (lit_wf (H.u32 r hr).1)) ty
  have hd' := hd.del (ho.tidy uKeyed) (asc_apt H.asc) hr hm hl
  have := exact_size ho'
  rw [hd'.sz] at this
  exact ⟨W', hrun, ⟨⟨_, this, hd'⟩, ha, fun q hq => H.u32 q ((hm q).1 hq).1⟩, off_turned ht⟩
end
end Go.Proofs.YticfpnhfhhagpaaDoor
namespace Go.Proofs.YticfpnhfhhagpaaDoor
set_option maxRecDepth 100000
open Go.RowKit Go.Shelf Go.Maps
open Go.Sort (ltInt PermIn SortedIn swo_ltInt sorted_unique_holds)
set_option linter.unusedVariables false

section
variable {w W W' : World}
/-- A call has handed back just these numbers. -/
def SortPost (ks : List Int) (w : World) (e : Ending) (w' : World) : Prop :=
  ∃ A cap, e = .returned (.slice A ks.length cap) ∧ Below w.heap.size w w' ∧ (ks = [] ∨ ∃ q cur, A = some ⟨q, 0, none⟩ ∧ w'.heap[q]? = some (.cells cur 24 (0, 0)) ∧ ∀ i x, ks[i]? = some x → w'.cell? ⟨q, i, none⟩ = some (.int .u32 x))
theorem row_of {v : Value} {ss : List Int} {base g cap : Nat} {cur : Array Value} (h : W.ownsRow base 24 1 (.slice (some ⟨g, 0, none⟩) ss.length cap) ss.length (ss.map encU)) (hg : W.heap[g]? = some (.cells cur 24 (0, 0))) : RowU W g ss.toArray := by
  refine ⟨fun j hj => ⟨?_, ?_⟩, (Array.getElem?_eq_some_iff.1 hg).1, cur, hg⟩
  · have hj' : j < ss.length := by simpa using hj
    rw [World.ownsRow.cellAt h j (by omega), List.getElem?_map]
    simp [hj', encU]
  · simp [World.frozen?, hg]
theorem sorted_any (gf : Nat) (lb : Array Value) (eg : ∀ args w, (callFunc gf args).run Tryd.prog w = .ok (.enter gf args) w) (S : List Int → Prop) (N : Nat) (hN : N < 1048576) (hS : ∀ ss, S ss → ss.length < 1048576) (w : World) (ks : List Int)
    (hks : ∀ ss, S ss → ∀ R : Array Int, PermIn 0 ss.length ss.toArray R → SortedIn ltInt 0 ss.length R → R.toList = ks)
    (hseq : ∀ w', Below w.heap.size w w' → SeqStopsK Fence.wide 4 Tryd.prog gf lb (fun x => #[encU x]) KeepsWalks S (fun _ => True) N w') :
    Calls Tryd.prog 65 #[.func (.func gf) #[] lb] w (SortPost ks w) := by
  have hC := Lib.hid (collect_any gf lb eg S N hN w hseq)
  obtain ⟨D, hD⟩ : ∃ D, D = SortPost ks w := ⟨_, rfl⟩
  rw [← hD]
  replace hD := Lib.hid hD
  replace hks := Lib.hid hks
  replace hS := Lib.hid hS
  clear hseq eg
  go_enter Tryd.func65, Tryd.ntmps65
  go_wp2_with fail
  refine hC.out.mono ?_
  rintro e w2 ⟨v, ss, rfl, h1, h2, h3⟩
  rcases h2.2 with ⟨rfl, e0⟩ | ⟨g, cap, cur, rfl, g1, g2, g3, g4, g5, g6⟩
  · have hss : ss = [] := List.eq_nil_of_length_eq_zero e0
    subst hss
    have hk0 := Lib.hid (hks.out [] h1 #[] (Go.Sort.permIn_refl _ _ _) (fun i j h1 h2 h3 => by simp at h3))
    have hb := Lib.hid h3
    have hn := Lib.hid (sort_none w2)
    clear h1 h2 h3 e0
    go_wp2_with fail
    refine hn.out.mono ?_
    rintro e w3 ⟨rfl, rfl⟩
    go_wp2_with fail
    rw [hD.out]
    have hk : ks = [] := hk0.out.symm
    exact ⟨none, 0, by rw [hk]; rfl, hb.out, .inl hk⟩
  · have hR := row_of (v := .nilFunc) h2 g2
    have hn := hS.out ss h1
    have hsz : ss.toArray.size = ss.length := by simp
    have hs := sort_any hR cap (by omega)
    rw [hsz] at hs
    replace hs := Lib.hid hs
    have hk := Lib.hid (fun R => hks.out ss h1 R)
    have hb := Lib.hid h3
    have g1' := Lib.hid g1
    clear h1 h2 h3 g1 g2 g3 g4 g5 g6 hR
    generalize ss.length = n at *
    have hn' : n < 1048576 := hn
    go_wp2_with fail
    refine hs.out.mono ?_
    rintro e w3 ⟨rfl, R, s, hp, ho⟩
    have hk' := hk.out R hp ho
    have hl : ks.length = n := by rw [← hk', Array.length_toList, hp.1, hsz]
    have hF := Lib.hid (show SortPost ks w (.returned (.slice (some ⟨g, 0, none⟩) n cap)) w3 from
      ⟨some ⟨g, 0, none⟩, cap, by rw [hl], hb.out.trans (s.off.below hb.out.size g1'.out), .inr ⟨g, s.row.ty.choose, rfl, s.row.ty.choose_spec, fun i x hx => by
        rw [← hk', Array.getElem?_toList] at hx
        obtain ⟨hi, he⟩ := Array.getElem?_eq_some_iff.1 hx
        have := (s.row.cs i hi).1
        rw [this]
        congr 2
        rw [getElem!_pos R i hi, he]⟩⟩)
    clear s hp ho hk'
    go_wp2_with fail
    rw [hD.out]
    exact hF.out
/-- The keys of a map of regions, sorted. -/
theorem keys_sorted {L : List Rg} (ha : L.Pairwise fun r q => r.1 < q.1) {ss : List Int} (hn : ss.Nodup) (hm : ∀ x, x ∈ ss ↔ ∃ r ∈ L, (r.1 : Int) = x) (R : Array Int) (hp : PermIn 0 ss.length ss.toArray R) (ho : SortedIn ltInt 0 ss.length R) : R.toList = L.map fun r => (r.1 : Int) := by
  have hlt : (L.map fun r => (r.1 : Int)).Pairwise (· < ·) := List.pairwise_map.2 (ha.imp fun h => by omega)
  have hnd : (L.map fun r => (r.1 : Int)).Nodup := hlt.imp fun h => by omega
  have hperm : (L.map fun r => (r.1 : Int)).Perm ss := (List.perm_ext_iff_of_nodup hnd hn).2 fun x => by
    rw [hm x, List.mem_map]
  have hlen := hperm.length_eq
  have hanti : ∀ x y : Int, ltInt x y = false → ltInt y x = false → x = y := fun x y h1 h2 => by
    have a := of_decide_eq_false h1
    have b := of_decide_eq_false h2
    omega
  have hsz : ss.toArray.size = ss.length := by simp
  have u1 := sorted_unique_holds (lt := ltInt) swo_ltInt hanti ss.toArray R (by rw [hsz]; exact hp) (by rw [hsz]; exact ho)
  have u2 := sorted_unique_holds (lt := ltInt) swo_ltInt hanti ss.toArray (L.map fun r => (r.1 : Int)).toArray (by
      rw [hsz]
      refine ⟨by simpa using hlen, fun i hi => ?_, ?_⟩
      · have h1 : ¬ i < (L.map fun r => (r.1 : Int)).toArray.size := by simp at hlen ⊢; omega
        have h2 : ¬ i < ss.toArray.size := by simp; omega
        rw [Array.getElem!_eq_getD, Array.getElem!_eq_getD, Array.getD, Array.getD, dif_neg h1, dif_neg h2]
      · have e1 : ((L.map fun r => (r.1 : Int)).toArray.extract 0 ss.length).toList = L.map fun r => (r.1 : Int) := by
          rw [← hlen]; simp; exact List.take_of_length_le (by simp)
        have e2 : (ss.toArray.extract 0 ss.length).toList = ss := by simp
        rw [e1, e2]
        exact hperm) (by
      rw [hsz]
      intro i j _ hij hj
      have hi' : i < (L.map fun r => (r.1 : Int)).toArray.size := by simp at hlen ⊢; omega
      have hj' : j < (L.map fun r => (r.1 : Int)).toArray.size := by simp at hlen ⊢; omega
      rw [getElem!_pos _ i hi', getElem!_pos _ j hj']
      have := List.pairwise_iff_getElem.1 hlt i j (by simpa using hi') (by simpa using hj') hij
      apply decide_eq_false
      simp at this ⊢
      omega)
  rw [u1, ← u2]
end
end Go.Proofs.YticfpnhfhhagpaaDoor
namespace Go.Proofs.YticfpnhfhhagpaaDoor
set_option maxRecDepth 100000
open Go.RowKit Go.Shelf Go.Maps
set_option linter.unusedVariables false
attribute [local go_sem] Oper.semAt_some

/-- What the iterator reads between two rounds, nobody turns: maps, a map's box, rows of numbers. -/
def keptO : Obj → Bool
  | .cells _ t _ => t == 24 || t == 50
  | .map .. => true
  | _ => false
def KO (A B : World) : Prop := A.heap.size ≤ B.heap.size ∧ ∀ (k : Nat) (o : Obj), A.heap[k]? = some o → keptO o = true → B.heap[k]? = some o
theorem KO.refl (A : World) : KO A A := ⟨Nat.le_refl _, fun _ _ h _ => h⟩
theorem KO.trans {A B C : World} (h : KO A B) (k : KO B C) : KO A C := ⟨Nat.le_trans h.1 k.1, fun i o hi ho => k.2 i o (h.2 i o hi ho) ho⟩
theorem KO.of_below {A B : World} (h : Below A.heap.size A B) : KO A B := ⟨h.size, fun k o hk _ => (h.block k (Array.getElem?_eq_some_iff.1 hk).1).trans hk⟩
theorem KO.put {W : World} {l : Nat} {o : Obj} (o' : Obj) (h2 : W.heap[l]? = some o) (h3 : o.isCells = false) (h4 : o.isWalk = false) : KO W (W.putObj l o') := by
  refine ⟨by simp [World.putObj], fun k u hk hu => ?_⟩
  by_cases e : k = l
  · subst e
    rw [h2] at hk
    cases hk
    exfalso
    cases o <;> first | (cases h3; done) | (cases h4; done) | (cases hu; done)
  · exact (World.putObj_heap_other e).trans hk
section
variable {w W W' : World} {b : Nat} {L : List Rg}
theorem RMap.ko (H : RMap W b L) (k : KO W W') : RMap W' b L := by
  obtain ⟨D, ⟨es, clock, hb, _⟩, _⟩ := H.own
  exact H.keep ((k.2 b _ hb rfl).trans hb.symm)
theorem grown_of_below {A B : World} (h : Below A.heap.size A B) : A.grownBy B none := ⟨h.os, h.tape, h.output, h.size, fun k hk _ => h.block k hk⟩
set_option maxHeartbeats 2000000 in
theorem rising_in (n : Nat) (hd : 1 ≤ n) (l Bm b : Nat) (L : List Rg) (hL : L.length < 1048576) (J Jx : List Rg → World → Prop)
    (hY : ∀ pre x W, J pre W → pre.length < L.length → YieldAt Fence.wide (n - 1) Tryd.prog l #[rgV x] W fun e W' =>
      (e = .returned (.bool true) ∧ J (pre ++ [x]) W' ∧ KO W W') ∨ (e = .returned (.bool false) ∧ Jx (pre ++ [x]) W'))
    (hJa : ∀ pre W W', J pre W → Below W.heap.size W W' → J pre W')
    (W : World) (hbox : W.heap[Bm]? = some (.cells #[.map (some b)] 50 (0, 0))) (H : RMap W b L) (h0 : J [] W) :
    CallsIn Fence.wide n Tryd.prog 64 #[.func (.yield l) #[] #[], .pointer (some ⟨Bm, 0, none⟩)] W fun e W' => (∃ v, e = .returned v) ∧
      ((∃ ys, ys = L ∧ J ys W') ∨ (∃ pre, pre <+: L ∧ Jx pre W')) := by
  have k1 : W.cell? ⟨Bm, 0, none⟩ = some (.map (some b)) := by simp [World.cell?, hbox]
  obtain ⟨W1, hW1⟩ : ∃ W1, W1 = W.alloc (.cells #[.map (some b)] 50) := ⟨_, rfl⟩
  have hB1 : Below W.heap.size W W1 := by rw [hW1]; exact (Below.refl _ _).alloc (Nat.le_refl _) _
  have hs1 : W.heap.size < W1.heap.size := by rw [hW1]; simp
  have hc1 : W1.cell? ⟨W.heap.size, 0, none⟩ = some (.map (some b)) := by rw [hW1]; simp
  have hM1 := H.grow hB1
  obtain ⟨D, ho, hd⟩ := hM1.own
  have hS : ∀ (ss : List Int), (ss.Nodup ∧ ∀ x, x ∈ ss ↔ Maps.has D (.int .u32 x) = true) → ss.Nodup ∧ ∀ x, x ∈ ss ↔ ∃ r ∈ L, (r.1 : Int) = x := fun ss h => ⟨h.1, fun x => by
    rw [h.2 x, hd.has, List.any_eq_true]
    constructor
    · rintro ⟨r, hr, k⟩; exact ⟨r, hr, of_decide_eq_true k⟩
    · rintro ⟨r, hr, k⟩; exact ⟨r, hr, decide_eq_true k⟩⟩
  have hlen : ∀ ss : List Int, (ss.Nodup ∧ ∀ x, x ∈ ss ↔ Maps.has D (.int .u32 x) = true) → ss.length = L.length := fun ss h => by
    have hh := hS ss h
    have hlt : (L.map fun r => (r.1 : Int)).Pairwise (· < ·) := List.pairwise_map.2 (H.asc.imp fun h => by omega)
    have hp := (List.perm_ext_iff_of_nodup (hlt.imp fun h => by omega) hh.1).2 fun x => by rw [hh.2 x, List.mem_map]
    have := hp.length_eq
    simpa using this.symm
  have cK := Lib.hid (keys_any (some b) W)
  have cS := Lib.hid (sorted_any 82 #[.pointer (some ⟨W.heap.size, 0, none⟩)] (enters_of Tryd.func82 (by kernel_rfl) rfl)
    (fun ss => ss.Nodup ∧ ∀ x, x ∈ ss ↔ Maps.has D (.int .u32 x) = true) (Maps.size D) (by rw [hd.sz]; exact hL) (fun ss h => by rw [hlen ss h]; exact hL) W1 (L.map fun r => (r.1 : Int))
    (fun ss h R hp hs => keys_sorted H.asc (hS ss h).1 (hS ss h).2 R hp hs)
    (fun w' hb => keys_stops 4 (by omega) W.heap.size b L.length D (Nat.lt_of_lt_of_le hs1 hb.size) ((hb.cell (p := ⟨W.heap.size, 0, none⟩) hs1).trans hc1) (by
      have hbl := ho.lt
      obtain ⟨es, clock, hb', Ft, hs, hD⟩ := ho
      exact ⟨es, clock, (hb.block b hbl).trans hb', Ft, hs, hD⟩)))
  have hW1' := Lib.hid hW1
  have hB1' := Lib.hid hB1
  have hH := Lib.hid H
  have hbox' := Lib.hid hbox
  have hBm : Bm < W.heap.size := (Array.getElem?_eq_some_iff.1 hbox).1
  have h0' := Lib.hid h0
  clear hS hlen ho hd D hM1 hc1 hs1 hB1 hW1 H hbox h0
  refine callsIn_of_wp Tryd.func64 rfl trivial ?_ rfl
  simp only [Tryd.ntmps64, List.size_toArray, List.length_cons, List.length_nil, Nat.reduceAdd, Nat.reduceSub, Array.replicate_succ, Array.replicate_zero, List.push_toArray, List.append_toArray, List.nil_append, List.cons_append]
  gi_wp2_with fail
  refine ⟨trivial, (callsIn_wide.2 cK.out).mono ?_⟩
  rintro e w2 ⟨rfl, rfl⟩
  rw [← hW1'.out]
  gi_wp2_with fail
  refine ⟨trivial, (callsIn_wide.2 cS.out).mono ?_⟩
  rintro e w3 ⟨A, cap, rfl, hb3, hrow⟩
  rw [List.length_map]
  have hB3 := Lib.hid (hB1'.out.trans (hb3.mono hB1'.out.size))
  have hJ3 := Lib.hid (hJa _ _ _ h0'.out hB3.out)
  have hK3 := Lib.hid (KO.of_below hB3.out)
  have hrow' := Lib.hid hrow
  clear hb3 hrow cK cS k1
  gi_wp2_with fail
  gi_loopw [9, 4] (fun i _ wr => ∃ k : Nat, k ≤ L.length ∧ i = .int .i64 k ∧ J (L.take k) wr ∧ KO w3 wr) (fun i _ _ => L.length - (intOf i).toNat)
  case atStart => exact ⟨0, Nat.zero_le _, rfl, hJ3.out, KO.refl _⟩
  case round =>
    obtain ⟨k, hk, rfl, hJ, hK⟩ := hrel
    by_cases hlt : k < L.length
    · obtain ⟨r, hr⟩ : ∃ r, r = L[k] := ⟨_, rfl⟩
      have hrL : r ∈ L := hr ▸ List.getElem_mem hlt
      have hKK := hK3.out.trans hK
      have hM := hH.out.ko hKK
      have q1 : (wr.cell? ⟨Bm, 0, none⟩) = some (.map (some b)) := by
        have := hKK.2 _ _ hbox'.out (by simp [keptO])
        simp [World.cell?, this]
      have hget := hM.get hrL
      have htk := Lib.hid (show L.take (k + 1) = L.take k ++ [r] by rw [hr, List.take_succ_eq_append_getElem hlt])
      have hlen : (L.take k).length = k := by simp; omega
      obtain ⟨q, cur, hA, hq, hcs⟩ : ∃ q cur, A = some ⟨q, 0, none⟩ ∧ w3.heap[q]? = some (.cells cur 24 (0, 0)) ∧ ∀ i x, (L.map fun r => (r.1 : Int))[i]? = some x → w3.cell? ⟨q, i, none⟩ = some (.int .u32 x) := by
        rcases hrow'.out with h | h
        · exfalso
          have := congrArg List.length h
          simp at this
          rw [this] at hlt
          simp at hlt
        · exact h
      have c2 : wr.cell? ⟨q, k, none⟩ = some (.int .u32 (r.1 : Int)) := by
        have e := hK.2 _ _ hq (by simp [keptO])
        have := hcs k (r.1 : Int) (by rw [List.getElem?_map, List.getElem?_eq_getElem hlt, ← hr]; rfl)
        rw [← this]
        exact World.cell?_of_block (w := w3) (e.trans hq.symm)
      have E := Lib.hid (And.intro hJ hK)
      obtain ⟨fn, tmps, assign, body, hy, hR⟩ := hY (L.take k) r wr hJ (by omega)
      dsimp only [rgV] at hy hget
      have hR' := Lib.hid hR
      subst hA
      have hkn : k < 1048576 := by omega
      have hki : (k : Int) < L.length := by omega
      clear hR hlen hJ hK hKK hM hq hcs hrL hr
      gi_wp2
      refine hR'.out.mono ?_
      rintro e W3 (⟨rfl, hJ4, hk4⟩ | ⟨rfl, hJx4⟩)
      · have E4 := Lib.hid (And.intro hJ4 (E.out.2.trans hk4))
        clear hy hget hJ4 hk4 q1 c2
        gi_wp2
        go_roundw
        case rel => exact ⟨k + 1, by omega, by go_num, by rw [htk.out]; exact E4.out.1, E4.out.2⟩
        case measure => first | (simp [intOf]; done) | (simp [intOf]; omega)
      · clear hy hget q1 c2
        gi_wp2
        refine bodyPost_ret (results_none rfl _ _ _) rfl ?_
        exact ⟨⟨_, rfl⟩, .inr ⟨_, by rw [← htk.out]; exact List.take_prefix _ _, hJx4⟩⟩
    · obtain rfl : k = L.length := by omega
      rw [List.take_length] at hJ
      have hJ' := Lib.hid hJ
      clear hJ
      gi_wp2
      go_end0
      exact ⟨⟨_, rfl⟩, .inl ⟨L, rfl, hJ'.out⟩⟩
/-- The iterator goes through the regions, rising; or through the first of them. -/
theorem rising_stops (n : Nat) (hd : 1 ≤ n) (Bm b : Nat) (L : List Rg) (hL : L.length < 1048576) (w : World) (hbox : w.heap[Bm]? = some (.cells #[.map (some b)] 50 (0, 0))) (H : RMap w b L) :
    SeqStopsK Fence.wide n Tryd.prog 64 #[.pointer (some ⟨Bm, 0, none⟩)] (fun r => #[rgV r]) KO (fun xs => xs = L) (fun pre => pre <+: L) L.length w := fun l J Jx W hW hJ hJx hY h0 => by
  have hBm : Bm < w.heap.size := (Array.getElem?_eq_some_iff.1 hbox).1
  exact rising_in n hd l Bm b L hL J Jx hY (fun pre A B h hb => hJ pre _ _ none h (grown_of_below hb) (fun r e => by cases e)) W ((hW.block Bm hBm).trans hbox) (H.grow hW) h0
theorem rising_any (b : Nat) (w : World) : Calls Tryd.prog 47 #[.map (some b)] w fun e w' => e = .returned (.func (.func 64) #[] #[.pointer (some ⟨w.heap.size, 0, none⟩)]) ∧ w' = w.alloc (.cells #[.map (some b)] 50) := by
  go_enter Tryd.func47, Tryd.ntmps47
  go_wp2
  go_ret
  exact ⟨rfl, rfl⟩
end
end Go.Proofs.YticfpnhfhhagpaaDoor
namespace Go.Proofs.YticfpnhfhhagpaaDoor
set_option maxRecDepth 100000
open Go.RowKit Go.Shelf Go.Maps
set_option linter.unusedVariables false
attribute [local go_sem] Oper.semAt_some

section
variable {w W W' : World} {b : Nat} {L : List Rg}
def rgC (r : Rg) : List Value := [.int .u32 (r.1 : Int), .int .u32 (r.2 : Int)]
theorem infoRg : (Tryd.prog.info? 26).map (fun i => (i.zero, i.size, i.bytes)) = some (some (.agg #[.int .u32 0, .int .u32 0]), 2, 8) := by kernel_rfl
/-- A call has handed back just these regions, in a row of its own. -/
def RgsPost (L : List Rg) (w : World) (e : Ending) (w' : World) : Prop :=
  ∃ v, e = .returned v ∧ w'.ownsRow w.heap.size 26 2 v L.length (L.flatMap rgC) ∧ Below w.heap.size w w'
theorem cell_two_new (w : World) (x y : Value) (t : TypeId) : ∀ j u, [x, y][j]? = some u → (w.alloc (.cells #[x, y] t)).cell? ((⟨w.heap.size, 0, none⟩ : Addr).add j) = some u := fun j u h => by
  match j, h with
  | 0, h => simp at h; subst h; simp [Addr.add]
  | 1, h => simp at h; subst h; simp [Addr.add]
theorem ko_append {v : Value} {base n : Nat} {xs : List Value} {o' : Obj} {w1 : World} {B : Nat} (u : Value) (hrow : W.ownsRow base 26 2 v n xs) (hv : Boxed W B 33 v) (hg : (W.alloc o').grownBy w1 v.ownBlock) : KO W (w1.setCell ⟨B, 0, none⟩ u) := by
  refine ⟨by have := hg.size; simp [World.setCell] at this ⊢; omega, fun k o hk ho => ?_⟩
  have hkl := (Array.getElem?_eq_some_iff.1 hk).1
  have hne : some k ≠ v.ownBlock := by
    rcases hrow.2 with ⟨rfl, _⟩ | ⟨g, cap, cur, rfl, _, hgb, _⟩
    · simp [Value.ownBlock]
    · intro e
      obtain rfl : k = g := by simpa [Value.ownBlock] using e
      rw [hk] at hgb
      cases hgb
      simp [keptO] at ho
  have h1 : w1.heap[k]? = some o := (hg.block k (by simp; omega) hne).trans ((Below.heap_alloc _ _ k hkl).trans hk)
  have hB : k ≠ B := fun e => by
    subst e
    have : W.heap[k]? = some (.cells #[v] 33 (0, 0)) := hv
    rw [hk] at this
    cases this
    simp [keptO] at ho
  exact (Below.heap_setCell _ _ _ _ (fun e => hB e)).trans h1
/-- The round's own region, in a box. -/
def RgBox (B q : Nat) (r : Rg) (W : World) : Prop := B ≤ q ∧ W.heap[q]? = some (.cells #[.int .u32 (r.1 : Int), .int .u32 (r.2 : Int)] 26 (0, 0))
set_option maxHeartbeats 4000000 in
theorem list_any (H : RMap w b L) (hL : L.length < 1048576) : Calls Tryd.prog 28 #[.map (some b)] w (RgsPost L w) := by
  obtain ⟨i0, hi, hz0, hz1, hz2⟩ := info_parts infoRg
  refine (callsIn_wide (n := 5)).1 ?_
  obtain ⟨w1, hw1⟩ : ∃ w1, w1 = w.alloc (.cells #[.slice none 0 0] 33) := ⟨_, rfl⟩
  obtain ⟨w2, hw2⟩ : ∃ w2, w2 = w1.alloc (.cells #[.map (some b)] 50) := ⟨_, rfl⟩
  have hs1 : w1.heap.size = w.heap.size + 1 := by rw [hw1]; simp
  have hs2 : w2.heap.size = w.heap.size + 2 := by rw [hw2, World.size_alloc, hs1]
  have bO : Boxed w1 w.heap.size 33 (.slice none 0 0) := by rw [hw1]; exact Boxed.new w _ _
  have bN : Boxed w2 (w.heap.size + 1) 50 (.map (some b)) := by rw [hw2, ← hs1]; exact Boxed.new w1 _ _
  have bO2 : Boxed w2 w.heap.size 33 (.slice none 0 0) := by rw [hw2]; exact bO.alloc _
  have hb1 : Below w.heap.size w w1 := by rw [hw1]; exact (Below.refl _ w).alloc (Nat.le_refl _) _
  have hb2 : Below w.heap.size w w2 := by rw [hw2]; exact hb1.alloc hb1.size _
  have hA := Lib.hid (rising_any b w1)
  have hw1' := Lib.hid hw1
  have hw2' := Lib.hid hw2
  have G := Lib.hid (And.intro bO2 (And.intro hb2 hs2))
  have st := Lib.hid (rising_stops 4 (by omega) (w.heap.size + 1) b L hL w2 (show w2.heap[w.heap.size + 1]? = _ from bN) (H.grow hb2))
  clear H hb1 hb2 bO bN bO2 hw1 hw2
  refine callsIn_of_wp_marks Tryd.func28 rfl trivial ?_ rfl
  simp only [Tryd.ntmps28, List.size_toArray, List.length_cons, List.length_nil, Nat.reduceAdd, Nat.reduceSub, Array.replicate_succ, Array.replicate_zero, List.push_toArray, List.append_toArray, List.nil_append, List.cons_append]
  gi_wp2_with fail
  rw [← hw1'.out]
  refine ⟨trivial, (callsIn_wide.2 hA.out).mono ?_⟩
  rintro e w3 ⟨rfl, rfl⟩
  rw [← hw2'.out, hs1]
  clear hA
  gi_wp2_with fail
  refine wpIn_rangeFunc_ownH rfl (by decide) (gf := 64) (lb := #[.pointer (some ⟨w.heap.size + 1, 0, none⟩)]) rfl trivial (enters_of Tryd.func64 (by kernel_rfl) rfl)
    st.out (fun h k => h.trans k) (fun W' l o o' h1 h2 h3 h4 => KO.put o' h2 h3 h4) (Below.refl _ _) (fun _ => rfl)
    (fun pre W' => (∃ v, Boxed W' w.heap.size 33 v ∧ W'.ownsRow w.heap.size 26 2 v pre.length (pre.flatMap rgC) ∧ True) ∧ Below w.heap.size w W')
    (fun _ _ _ => False)
    (OwnFrom.and (Own.from (holdsRow_own w.heap.size w.heap.size 33 26 2 (fun pre : List Rg => pre.length) (fun pre => pre.flatMap rgC) (fun _ _ => True)) _)
      (ownFrom_below (Nat.le_refl _) (by have := G.out.2.2; omega)))
    (fun _ _ _ _ _ hs _ _ => hs)
    ⟨⟨_, G.out.1, World.ownsRow_nil _ _ _ _, trivial⟩, G.out.2.1⟩
    (fun x a' W' => ∃ q, RgBox (w.heap.size + 1) q x W' ∧ a' = { tmps := #[.map (some b), undef, .slice none 0 0, .pointer (some ⟨w.heap.size, 0, none⟩), .pointer (some ⟨q, 0, none⟩), .map (some b), .func (.func 64) #[] #[.pointer (some ⟨w.heap.size + 1, 0, none⟩)], rgV x, undef, undef, undef, undef, undef], defers := [] })
    (fun x a' => Own.from (fun s A B row hs hg hr => by
      obtain ⟨q, ⟨h0, h1⟩, h2⟩ := hs
      exact ⟨q, ⟨h0, (hg.block q (Array.getElem?_eq_some_iff.1 h1).1 (fun e => by obtain ⟨o, ho, hc⟩ := hr q e.symm; rw [h1] at ho; cases ho; cases hc)).trans h1⟩, h2⟩) _) ?assign ?body ?done ?stop
  case assign =>
    rintro l pre x W K ⟨⟨v, hv, hrow, _⟩, hB⟩ hK
    dsimp only [rgV]
    gi_wp2_with fail
    have hb : Below W.heap.size W (W.alloc (.cells #[.int .u32 (x.1 : Int), .int .u32 (x.2 : Int)] 26)) := (Below.refl _ _).alloc (Nat.le_refl _) _
    refine hK _ _ (((KeepsOthers.refl W).trans (KeepsOthers.alloc W _)).from _) (KO.of_below hb) ⟨⟨v, hv.alloc _, hrow.alloc _, trivial⟩, hB.alloc hB.size _⟩ ⟨W.heap.size, ⟨by have := hv.lt; omega, ?_⟩, rfl⟩
    exact World.alloc_heap_new W _
  case body =>
    rintro l pre x a' W hl hr ⟨⟨v, hv, hrow, _⟩, hB⟩ ⟨q, ⟨hq0, hq⟩, rfl⟩ hlt
    have hc := hv.cell
    have hwb : w.heap.size < W.heap.size := hv.lt
    have n0 : W.cell? ⟨q, 0, none⟩ = some (.int .u32 (x.1 : Int)) := by simp [World.cell?, hq]
    have n1 : W.cell? ⟨q, 1, none⟩ = some (.int .u32 (x.2 : Int)) := by simp [World.cell?, hq]
    have hql := (Array.getElem?_eq_some_iff.1 hq).1
    dsimp only [rgV]
    gi_wp2_with (gi_at_builtin; refine wpListIn_append_own _ rfl _ _ 33 rfl w.heap.size 26 i0 (.agg #[.int .u32 0, .int .u32 0]) 2 8 Tryd.underlying33 hi hz0 hz1 hz2 rfl (by decide) _ _ _ rfl (hrow.alloc _) ⟨W.heap.size, 0, none⟩ 1 1 [.int .u32 (x.1 : Int), .int .u32 (x.2 : Int)] rfl rfl (cell_two_new _ _ _ _) (by simp [Value.oneCell']) (by unfold maxLen; omega) (by omega) (by have := hB.size; simp; omega) ?_; intro v' w1 hown' hgrow _; obtain ⟨g', cap', rfl⟩ := ownsRow_succ hown'; obtain ⟨hv1, hv2, hr2, hk2, hb2⟩ := hv.appended (by decide) hrow hB.size (Nat.le_refl _) hown' hgrow; have hc1 := hv1.cell; have hf1 := hv1.frozen)
    have hko := ko_append (.slice (some ⟨g', 0, none⟩) (pre.length + 1) cap') hrow hv hgrow
    exact ⟨hk2.from _, hko, ⟨_, hv2, by simpa [rgC] using hr2, trivial⟩, hB.trans hb2⟩
  case done =>
    rintro D ys W hD hS ⟨⟨v, hv, hrow, _⟩, hB⟩ hK
    have hc := hv.cell
    gi_wp2
    refine ⟨by simp, .inl ⟨_, _, rfl, run_takeDeferred hK, ?_⟩⟩
    rw [hS] at hrow
    exact ⟨_, results_tmp rfl _ _ _, v, rfl, ownsRow_putObj hrow _ hK rfl, hB.trans (belowK_b (w := w) (Nat.le_refl _) W D _ _ (by have := G.out.2.2; omega) hK rfl rfl)⟩
  case stop =>
    rintro D c pre W _ _ h _
    exact h.elim
end
end Go.Proofs.YticfpnhfhhagpaaDoor
