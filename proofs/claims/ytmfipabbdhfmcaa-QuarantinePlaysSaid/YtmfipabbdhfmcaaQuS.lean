/- Contracts of layer quarantine: sort.Search, and with. No statement is proved here. -/
import Derived.Test.YtmfipabbdhfmcaaQuJ
import Derived.Test.YtmfipabbdhfmcaaCls
import Derived.Deep.LoopGhost
namespace Go.Proofs.Ytmfipabbdhfmcaa.Qu
set_option maxRecDepth 100000
open Go.RowKit Go.Shelf
set_option linter.unusedVariables false
section
variable {w w' W : World} {base q c d : Nat} {L M : List Rg} {v lv : Value} {r : Rg} {A : Option Addr} {cap : Nat}
/-- One region put in its place, whatever the row. -/
theorem ins_any (hown : w.ownsRow base 33 2 v L.length (L.flatMap rgC)) (H : OneAt w q r) (hq : v.ownBlock ≠ some q) (hl : L.length ≤ 20000) (hb : base ≤ w.heap.size) (ha : Asc L) :
    Calls Try.prog 52 #[v, .int .i64 ((plc r L : Nat) : Int), .slice (some ⟨q, 0, none⟩) 1 1] w (InsPost base v (insR r L) w) := by
  rw [insR_plc ha]
  obtain ⟨k, hk⟩ : ∃ k, k = plc r L := ⟨_, rfl⟩
  have hkl := plc_le r L
  rw [← hk] at hkl ⊢
  obtain ⟨A, cap, rfl⟩ := own_slice hown
  rcases Nat.lt_or_ge k L.length with h | h
  · obtain ⟨g, cap', e, hb2, hg⟩ := hown.form (by omega)
    cases e
    have hqg : q ≠ g := fun e => hq (by rw [e]; rfl)
    rcases Nat.lt_or_ge cap (L.length + 1) with h2 | h2
    · exact ins_mid_grow hown H h2 h hl hb
    · exact ins_mid_room hown H hqg h2 h
  · obtain rfl : k = L.length := by omega
    rw [List.take_length, List.drop_length]
    rcases Nat.lt_or_ge cap (L.length + 1) with h2 | h2
    · exact ins_end_grow hown H h2 hl hb
    · rcases hown.2 with ⟨e, h0⟩ | ⟨g, cap', cur, e, _⟩
      · injection e with e1 e2 e3
        omega
      · cases e
        exact ins_end_room hown H h2
/-- The boxes of the closure that finds the place. -/
structure WBox (w : World) (c d base : Nat) (A : Option Addr) (cap : Nat) (L : List Rg) (r : Rg) : Prop where
  c0 : w.cell? ⟨c, 0, none⟩ = some (.slice A L.length cap)
  d0 : w.cell? ⟨d, 0, none⟩ = some (.int .u32 (r.1 : Int))
  d1 : w.cell? ⟨d, 1, none⟩ = some (.int .u32 (r.2 : Int))
  own : w.ownsRow base 33 2 (.slice A L.length cap) L.length (L.flatMap rgC)
theorem WBox.grow (H : WBox w c d base A cap L r) (k : Below w.heap.size w w') : WBox w' c d base A cap L r :=
  ⟨(k.cell (p := ⟨c, 0, none⟩) (lt_of_cell' H.c0)).trans H.c0, (k.cell (p := ⟨d, 0, none⟩) (lt_of_cell' H.d0)).trans H.d0, (k.cell (p := ⟨d, 1, none⟩) (lt_of_cell' H.d1)).trans H.d1, own_grow H.own k⟩
theorem less_any (H : WBox w c d base A cap L r) (i : Nat) (hi : i < L.length) (hl : L.length ≤ 20000) :
    Calls Try.prog 51 #[.int .i64 i, .pointer (some ⟨c, 0, none⟩), .pointer (some ⟨d, 0, none⟩)] w fun e w' => e = .returned (.bool (decide (r.1 < L[i].1))) ∧ Below w.heap.size w w' := by
  obtain ⟨g, rfl, hg, _, k0, k1⟩ := own_at H.own i hi
  obtain ⟨a, ha⟩ : ∃ a, a = L[i].1 := ⟨_, rfl⟩
  rw [← ha] at k0 ⊢
  obtain ⟨V, hV⟩ : ∃ V, V = decide (r.1 < a) := ⟨_, rfl⟩
  rw [← hV]
  obtain ⟨b, hb⟩ : ∃ b, b = r.1 := ⟨_, rfl⟩
  have d0 := H.d0
  have c0 := H.c0
  rw [← hb] at hV d0
  obtain ⟨n, hn⟩ : ∃ n, n = L.length := ⟨_, rfl⟩
  rw [← hn] at hi hl c0
  obtain ⟨S, hS0⟩ : ∃ S, S = fun w' => Below w.heap.size w w' := ⟨_, rfl⟩
  have hKS : ∀ w', S w' → Below w.heap.size w w' := fun w' h => by rw [hS0] at h; exact h
  have h4 : S w.drew := by rw [hS0]; exact (Below.refl _ _).drew
  have a0 : ∀ y : Wd S, y.w.cell? ⟨g, i * 2, none⟩ = some (.int .u32 (a : Int)) := fun y => ((hKS _ y.h).cell (p := ⟨g, i * 2, none⟩) hg).trans k0
  have a1 : ∀ y : Wd S, y.w.cell? ⟨c, 0, none⟩ = some (.slice (some ⟨g, 0, none⟩) n cap) := fun y => ((hKS _ y.h).cell (p := ⟨c, 0, none⟩) (lt_of_cell' c0)).trans c0
  have a2 : ∀ y : Wd S, y.w.cell? ⟨d, 0, none⟩ = some (.int .u32 (b : Int)) := fun y => ((hKS _ y.h).cell (p := ⟨d, 0, none⟩) (lt_of_cell' d0)).trans d0
  have hKK := Lib.hid hKS
  have i0 : (0 : Int) ≤ i := by omega
  have hil : (i : Int) < n := by omega
  have hV' := Lib.hid hV
  clear hS0 hKS k0 k1 hg H d0 c0 hb hn ha hV
  cases V
  · have hlt := of_decide_eq_false hV'.out.symm
    have hlt2 : ¬ (b : Int) < a := by omega
    go_enter Try.func51, Try.ntmps51
    go_wp2_with fail
    refine region_cls S (by kernel_rfl) (by kernel_rfl) h4 ?_
    repeat (first
      | go_big_quiet_skip
      | (go_big_quiet_want
         go_big_quiet_op
         first
         | go_big_quiet_on
         | (apply Exists.intro
            refine ⟨fun y => ?_, ?_⟩
            · first | exact rfl
            go_big_quiet_on)))
    refine wpQuiet_nil ?_
    intro y
    go_wp2_with fail
    go_ret
    exact ⟨rfl, hKK.out _ y.h⟩
  · have hlt := of_decide_eq_true hV'.out.symm
    have hlt2 : (b : Int) < a := by omega
    go_enter Try.func51, Try.ntmps51
    go_wp2_with fail
    refine region_cls S (by kernel_rfl) (by kernel_rfl) h4 ?_
    repeat (first
      | go_big_quiet_skip
      | (go_big_quiet_want
         go_big_quiet_op
         first
         | go_big_quiet_on
         | (apply Exists.intro
            refine ⟨fun y => ?_, ?_⟩
            · first | exact rfl
            go_big_quiet_on)))
    refine wpQuiet_nil ?_
    intro y
    go_wp2_with fail
    go_ret
    exact ⟨rfl, hKK.out _ y.h⟩
/-- The first place at which a closure says yes. -/
theorem search_any (F : Nat) (lb : Array Value) (eF : ∀ args w, (callFunc F args).run Try.prog w = .ok (.enter F args) w) (n : Nat) (hn : n ≤ 20000) (p : Nat → Bool)
    (hF : ∀ (w' : World), Below w.heap.size w w' → ∀ i : Nat, i < n → Calls Try.prog F (#[.int .i64 i] ++ lb) w' fun e w2 => e = .returned (.bool (p i)) ∧ Below w'.heap.size w' w2)
    (hm : ∀ a b, a ≤ b → b < n → p a = true → p b = true) :
    Calls Try.prog 50 #[.int .i64 n, .func (.func F) #[] lb] w fun e w' => ∃ k : Nat, e = .returned (.int .i64 k) ∧ k ≤ n ∧ (∀ t, t < k → p t = false) ∧ (∀ t, k ≤ t → t < n → p t = true) ∧ Below w.heap.size w w' := by
  have hF' := Lib.hid hF
  have hm' := Lib.hid hm
  clear hF hm
  go_enter Try.func50, Try.ntmps50
  go_wp2_with fail
  go_loopw [5, 6, 7] (fun iv jv _ wr => ∃ i j : Nat, i ≤ j ∧ j ≤ n ∧ iv = .int .i64 i ∧ jv = .int .i64 j ∧ Hid ((∀ t, t < i → p t = false) ∧ (∀ t, j ≤ t → t < n → p t = true) ∧ Below w.heap.size w wr)) (fun iv jv _ _ => (intOf jv).toNat - (intOf iv).toNat)
  case atStart => exact ⟨0, n, by omega, by omega, rfl, rfl, Lib.hid ⟨fun t ht => by omega, fun t h1 h2 => by omega, Below.refl _ _⟩⟩
  case round =>
    obtain ⟨i, j, hij, hjn, rfl, rfl, hB⟩ := hrel
    by_cases hlt : i < j
    · obtain ⟨h, hh⟩ : ∃ h, h = (i + j) / 2 := ⟨_, rfl⟩
      have hlt2 : (i : Int) < j := by omega
      have hb1 : i ≤ h ∧ h < j := by omega
      have e1 : ((i : Int) + j) / 2 = (h : Int) := by omega
      have hc := Lib.hid (hF'.out _ hB.out.2.2 h (by omega))
      obtain ⟨P, hP⟩ : ∃ P, P = p h := ⟨_, rfl⟩
      rw [← hP] at hc
      have hP' := Lib.hid hP
      clear hP hh
      cases P
      · go_wp2_with (go_at_fn F; refine hc.out.mono ?_; rintro e w2 ⟨rfl, hb⟩; have hb2 := Lib.hid hb; clear hb)
        have hN := Lib.hid (show (∀ t, t < h + 1 → p t = false) ∧ (∀ t, j ≤ t → t < n → p t = true) ∧ Below w.heap.size w w2 from ⟨fun t ht => by
          cases e : p t with
          | false => rfl
          | true => exact absurd ((hm'.out t h (by omega) (by omega) e).symm.trans hP'.out.symm) (by simp), hB.out.2.1, hB.out.2.2.trans (hb2.out.mono hB.out.2.2.size)⟩)
        exact ⟨⟨h + 1, j, by omega, hjn, by go_num, rfl, hN⟩, by simp only [intOf]; omega⟩
      · go_wp2_with (go_at_fn F; refine hc.out.mono ?_; rintro e w2 ⟨rfl, hb⟩; have hb2 := Lib.hid hb; clear hb)
        have hN := Lib.hid (show (∀ t, t < i → p t = false) ∧ (∀ t, h ≤ t → t < n → p t = true) ∧ Below w.heap.size w w2 from ⟨hB.out.1, fun t h1 h2 => hm'.out h t h1 h2 hP'.out.symm, hB.out.2.2.trans (hb2.out.mono hB.out.2.2.size)⟩)
        exact ⟨⟨i, h, by omega, by omega, rfl, rfl, hN⟩, by simp only [intOf]; omega⟩
    · obtain rfl : i = j := by omega
      have hE := Lib.hid (show (∀ t, t < i → p t = false) ∧ (∀ t, i ≤ t → t < n → p t = true) ∧ Below w.heap.size w wr from hB.out)
      go_wp2_with fail
      go_ret
      exact ⟨i, rfl, hjn, hE.out.1, hE.out.2.1, hE.out.2.2⟩
/-- A list with one region more. -/
theorem with_any (hown : w.ownsRow base 33 2 v L.length (L.flatMap rgC)) (hl : L.length ≤ 20000) (hb : base ≤ w.heap.size) (ha : Asc L) (r : Rg) :
    Calls Try.prog 35 #[v, rgV r] w (InsPost base v (insR r L) w) := by
  obtain ⟨A, cap, rfl⟩ := own_slice hown
  obtain ⟨w1, hw1⟩ : ∃ w1, w1 = w.alloc (.cells #[.slice A L.length cap] 65) := ⟨_, rfl⟩
  have b1 : Below w.heap.size w w1 := by rw [hw1]; exact (Below.refl _ _).alloc (Nat.le_refl _) _
  have s1 : w1.heap.size = w.heap.size + 1 := by rw [hw1]; simp
  have p1 : w1.cell? ⟨w.heap.size, 0, none⟩ = some (.slice A L.length cap) := by rw [hw1]; simp
  obtain ⟨w2, hw2⟩ : ∃ w2, w2 = w1.alloc (.cells #[.int .u32 (r.1 : Int), .int .u32 (r.2 : Int)] 33) := ⟨_, rfl⟩
  have b2 : Below w1.heap.size w1 w2 := by rw [hw2]; exact (Below.refl _ _).alloc (Nat.le_refl _) _
  have s2 : w2.heap.size = w.heap.size + 2 := by rw [hw2, World.size_alloc, s1]
  have r0 : w2.cell? ⟨w.heap.size + 1, 0, none⟩ = some (.int .u32 (r.1 : Int)) ∧ w2.cell? ⟨w.heap.size + 1, 1, none⟩ = some (.int .u32 (r.2 : Int)) := by rw [hw2, ← s1]; exact ⟨by simp, by simp⟩
  have p2 := (b2.cell (p := ⟨w.heap.size, 0, none⟩) (by show w.heap.size < _; omega)).trans p1
  have b02 := b1.trans (b2.mono (by omega))
  have hW := Lib.hid (show WBox w2 w.heap.size (w.heap.size + 1) base A cap L r from ⟨p2, r0.1, r0.2, own_grow hown b02⟩)
  have hw' := Lib.hid (show w2 = (w.alloc (.cells #[.slice A L.length cap] 65)).alloc (.cells #[.int .u32 (r.1 : Int), .int .u32 (r.2 : Int)] 33) by rw [hw2, hw1])
  obtain ⟨p, hp⟩ : ∃ p : Nat → Bool, p = fun i => if h : i < L.length then decide (r.1 < L[i].1) else true := ⟨_, rfl⟩
  have hpe : ∀ i (hi : i < L.length), p i = decide (r.1 < L[i].1) := fun i hi => by rw [hp]; exact dif_pos hi
  have hS := Lib.hid (search_any (w := w2) 51 #[.pointer (some ⟨w.heap.size, 0, none⟩), .pointer (some ⟨w.heap.size + 1, 0, none⟩)] (enters_of Try.func51 (by kernel_rfl) rfl) L.length hl p
    (fun w' hb' i hi => by
      have := less_any (hW.out.grow hb') i hi hl
      rw [hpe i hi]
      exact this)
    (fun a b hab hbl h => by
      rw [hpe a (by omega), decide_eq_true_eq] at h
      rw [hpe b hbl, decide_eq_true_eq]
      exact plc_mono ha a b hbl hab h))
  have hpe' := Lib.hid hpe
  clear hp hpe
  have hB2 := Lib.hid (And.intro b02 s2)
  have hO := Lib.hid (And.intro hown (And.intro hl (And.intro hb ha)))
  obtain ⟨F, hF⟩ : ∃ F, F = InsPost base (.slice A L.length cap) (insR r L) w := ⟨_, rfl⟩
  rw [← hF]
  have hF' := Lib.hid hF
  unfold rgV
  have hl' := hl
  obtain ⟨n, hn⟩ : ∃ n, n = L.length := ⟨_, rfl⟩
  rw [← hn] at hS hw' hl' ⊢
  have hn' := Lib.hid hn
  have c0 := hW.out.c0
  rw [← hn] at c0
  clear hF hown hl hb ha b1 b2 s1 s2 r0 p1 p2 b02 hw1 hw2 hn
  go_enter Try.func35, Try.ntmps35
  go_upto_region 1 with (fail)
  try rw [show w.heap.size + 1 + 1 = w.heap.size + 2 from rfl]
  rw [← hw'.out]
  clear hw'
  have d0 := hW.out.d0
  have d1 := hW.out.d1
  go_wp2_with (go_at_call 50; refine hS.out.mono ?_; rintro e w3 ⟨k, rfl, hk⟩; have hK := Lib.hid hk; clear hk; have e0 := (hK.out.2.2.2.cell (p := ⟨w.heap.size, 0, none⟩) (lt_of_cell' c0)).trans c0; have e1 := (hK.out.2.2.2.cell (p := ⟨w.heap.size + 1, 0, none⟩) (lt_of_cell' d0)).trans d0; have e2 := (hK.out.2.2.2.cell (p := ⟨w.heap.size + 1, 1, none⟩) (lt_of_cell' d1)).trans d1)
  have hb3 := hB2.out.1.trans (hK.out.2.2.2.mono hB2.out.1.size)
  have hb4 : Below w.heap.size w (w3.alloc (.cells #[.int .u32 (r.1 : Int), .int .u32 (r.2 : Int)] 33)) := hb3.alloc hb3.size _
  have hk : k = plc r L := (plc_cnt hO.out.2.2.2 k (by rw [← hn'.out]; exact hK.out.1)
    (fun i hi hik => by have := hK.out.2.1 i hik; rw [hpe'.out i hi] at this; exact of_decide_eq_false this)
    (fun i hi hik => by have := hK.out.2.2.1 i hik (by rw [hn'.out]; exact hi); rw [hpe'.out i hi] at this; exact of_decide_eq_true this)).symm
  have hI := ins_any (w := w3.alloc (.cells #[.int .u32 (r.1 : Int), .int .u32 (r.2 : Int)] 33)) (q := w3.heap.size) (r := r) (base := base) (v := .slice A L.length cap) (L := L) (own_grow hO.out.1 hb4) ⟨heap_alloc_new w3 _⟩ (fun e => by
    have := (hO.out.1.lt _ e).2
    have := hb3.size
    omega) hO.out.2.1 (Nat.le_trans hO.out.2.2.1 hb4.size) hO.out.2.2.2
  rw [← hk, ← hn'.out] at hI
  refine hI.mono ?_
  rintro e w5 ⟨v', rfl, hown, hg, hbk⟩
  have hE := Lib.hid (show InsPost base (.slice A n cap) (insR r L) w (.returned v') w5 from
    ⟨v', rfl, hown, ⟨hg.os.trans hb4.os, hg.tape.trans hb4.tape, hg.output.trans hb4.output, Nat.le_trans hb4.size hg.size, fun j hj hr => (hg.block j (Nat.lt_of_lt_of_le hj hb4.size) hr).trans (hb4.block j hj)⟩, fun j hj => (hbk j hj).imp id fun h => Nat.le_trans hb4.size h⟩)
  clear hI hown hg hbk hb3 hb4 e0 e1 e2 hk
  go_wp2_with fail
  show F (.returned v') w5
  rw [hF'.out, ← hn'.out]
  exact hE.out
end
end Go.Proofs.Ytmfipabbdhfmcaa.Qu
