/- Proved: what was set is got back, and no byte beside it has changed (OctetHolds). For every input; no condition. -/
import Derived.Test.YtedhpjolbgfdeaaRows
import Derived.Test.YtedhpjolbgfdeaaOctD
import Derived.Lib.SmallJoins
import Derived.StillTailTactics
import Derived.Deep.DeepCutAuto
import Derived.StillTailTactics
import Derived.Deep.DeepCutAuto
import Derived.ProofKit
import Derived.OpenShut
import Derived.ShutString
import Derived.ChangeOld
namespace Go.Proofs.Ytedhpjolbgfdeaa.holds
open Go.Joins Go.ChangeShapes Go.WideShapes Go.ChangeAt Go.RowKit
open Go.ChangeMaps (open_string shut_string)
set_option linter.unusedVariables false


def Made (b : Value) (w : World) (l : List UInt8) (w' : World) : Prop :=
  ∃ cap, b = .slice (some ⟨w.heap.size, 0, none⟩) l.length cap ∧ l.length ≤ cap ∧ Has w' w.heap.size 0 l ∧ Below w.heap.size w w' ∧ w'.heap.size = w.heap.size + 1
theorem made (w : World) (l : List UInt8) : Made (.slice (some ⟨w.heap.size, 0, none⟩) l.length (grownCap w l.length 0 5)) w l (Lib.bytesWorld w 5 ⟨l.toArray⟩) :=
  ⟨_, rfl, grownCap_ge _ _ _ _, bw_has _ _ _, bw_below _ _ _, Lib.bytesWorld_size _ _ _⟩

theorem take_pre (a b : List UInt8) (k : Nat) (h : a.length = k) : (a ++ b).take k = a := by subst h; simp
theorem drop_pre (a b : List UInt8) (k : Nat) (h : a.length = k) : (a ++ b).drop k = b := by subst h; simp
/-- What was set is got back. -/
theorem got (l : List UInt8) (a k v : Nat) (hk : isW (k : Int) = true) (h : a + k ≤ l.length) : getB (setB l a k v) a k = v % 256 ^ k := by
  have hi : inB l.length a k = true := by unfold inB; rw [hk]; simp; omega
  have hi2 : inB (setB l a k v).length a k = true := by rw [setB_length]; exact hi
  unfold getB
  rw [hi2, if_pos rfl]
  unfold setB
  rw [hi, if_pos rfl]
  simp only [Int.toNat_natCast]
  have h1 : (l.take a).length = a := by simp; omega
  rw [List.append_assoc, drop_pre _ _ _ h1, take_pre _ _ _ (leB_length k v), le_leB]

theorem get_back (l : List UInt8) (a k v : Nat) (kk : Int) (b cap : Nat) (w : World) (hkk : kk = k) (hk : isW (k : Int) = true) (h : a + k ≤ l.length) (hl : l.length ≤ 1000) (hcap : l.length ≤ cap) (hh : Has w b 0 (setB l a k v)) :
    Calls Try.prog 13 #[.slice (some ⟨b, 0, none⟩) l.length cap, .int .i64 a, .int .i64 kk] w fun e w' => e = .returned (.tuple #[.int .u32 (v % 256 ^ k : Nat), .bool true]) ∧ ∃ n, w.drewN n = w' := by
  subst hkk
  have hi : inB l.length a k = true := by unfold inB; rw [hk]; simp; omega
  have hg := get_any (some ⟨b, 0, none⟩) (setB l a k v) (b + 1) cap a k w (fun _ => ⟨b, 0, rfl, by omega, fun j u hu => (hh j u hu).1⟩) (by rw [setB_length]; omega) (by rw [setB_length]; exact hcap) (by omega)
  rw [got l a k v hk h, setB_length, hi] at hg
  exact hg
theorem num1 (v : Nat) : ((v % 256 ^ 1 : Nat) : Int) = (v : Int) % 256 := by omega
theorem num2 (v : Nat) : ((v % 256 ^ 2 : Nat) : Int) = (v : Int) % 65536 := by omega
theorem num4 (v : Nat) (hv : v < 4294967296) : ((v % 256 ^ 4 : Nat) : Int) = (v : Int) := by omega

theorem conv_at {x : World} {b off n : Nat} {l : List UInt8} (cap : Nat) (hn : l.length = n) (h : ∀ j u, l[j]? = some u → x.cell? ⟨b, off + j, none⟩ = some (.int .u8 (u.toNat : Int))) :
    (convert 28 9 (.slice (some ⟨b, off, none⟩) n cap)).run Try.prog x = .ok (.string ⟨l.toArray⟩) x := by
  subst hn
  exact run_convert_bytes_back (P := Try.prog) x 28 9 5 ⟨b, off, none⟩ cap l Try.underlying28 Try.underlying5 Try.underlying9 (fun j hj => by
    rw [Addr.add_lit]
    exact h j _ (List.getElem?_eq_getElem hj))
theorem pre_conv {w x : World} {b : Nat} {l : List UInt8} {a k v : Nat} (cap : Nat) (hs : setB l a k v = l.take a ++ (leB k v ++ l.drop (a + k))) (hak : a + k ≤ l.length) (hh : Has w b 0 (setB l a k v)) (hx : x.heap = w.heap) :
    (convert 28 9 (.slice (some ⟨b, 0, none⟩) a cap)).run Try.prog x = .ok (.string ⟨(l.take a).toArray⟩) x :=
  conv_at cap (by simp; omega) fun j u hu => by
    have hj : j < a := by have := (List.getElem?_eq_some_iff.1 hu).1; simp at this; omega
    have := (hh j u (by rw [hs, List.getElem?_append_left (by simp; omega)]; exact hu)).1
    simpa [World.cell?, hx] using this
theorem post_conv {w x : World} {b : Nat} {l : List UInt8} {a k v : Nat} (cap : Nat) (hs : setB l a k v = l.take a ++ (leB k v ++ l.drop (a + k))) (hak : a + k ≤ l.length) (hh : Has w b 0 (setB l a k v)) (hx : x.heap = w.heap) :
    (convert 28 9 (.slice (some ⟨b, a + k, none⟩) (l.length - (a + k)) (cap - (a + k)))).run Try.prog x = .ok (.string ⟨(l.drop (a + k)).toArray⟩) x :=
  conv_at (cap - (a + k)) (by simp) fun j u hu => by
    have := (hh (a + k + j) u (by
      rw [hs, List.getElem?_append_right (by simp; omega), List.getElem?_append_right (by simp [leB_length]; omega), ← hu]
      congr 1
      simp [leB_length]
      omega)).1
    simpa [World.cell?, hx] using this
theorem post_end {x : World} {b : Nat} : (convert 28 9 (.slice (some ⟨b, 0, none⟩) 0 0)).run Try.prog x = .ok (.string ⟨#[]⟩) x :=
  conv_at (l := []) 0 rfl fun j u hu => by simp at hu
theorem ext_end {l : List UInt8} {a k v : Nat} (_hs : setB l a k v = l.take a ++ (leB k v ++ l.drop (a + k))) (hl : l.length = a + k) : (⟨l.toArray⟩ : ByteArray).extract (a + k) l.length = ⟨#[]⟩ := by
  rw [ext_list, hl, Nat.sub_self, List.take_zero]
theorem cap_cases {l : List UInt8} {a k v cap : Nat} (_hs : setB l a k v = l.take a ++ (leB k v ++ l.drop (a + k))) (hak : a + k ≤ l.length) (hcap : l.length ≤ cap) : (cap = a + k ∧ l.length = a + k) ∨ cap ≠ a + k := by omega
theorem ext_drop (l : List UInt8) (i : Nat) : (⟨l.toArray⟩ : ByteArray).extract i l.length = ⟨(l.drop i).toArray⟩ := by
  rw [ext_list]
  congr 2
  exact List.take_of_length_le (by simp)

set_option maxRecDepth 100000 in
set_option maxHeartbeats 2000000 in
theorem walk (s : ByteArray) (ws : s.size ≤ maxLen) (a : Int) (wa : (Lit.int .i64 a).wf = true) (k : Int) (wk : (Lit.int .i64 k).wf = true) (v : Int) (wv : (Lit.int .u32 v).wf = true) (W : World) :
    Calls Try.prog 8 #[.string s, .agg #[.int .i64 a, .int .i64 k, .int .u32 v]] W fun e w' => e = .returned (.bool true) ∧ Below W.heap.size W w' := by
  have hv := bounds_u32 wv
  obtain ⟨v, rfl⟩ := Int.eq_ofNat_of_zero_le hv.1
  have hv4 : v < 4294967296 := by omega
  clear hv
  have ha : a < 9223372036854775808 := by have := bounds_i64 wa; omega
  have hcb := fun (w : World) (s : ByteArray) => Lib.run_convert_string_bytes (P := Try.prog) w 9 28 5 s Try.underlying9 Try.underlying28 Try.underlying5
  go_enter Try.func8, Try.ntmps8
  go_upto_region 1 with (fail)
  go_cut [0] (fun s' w' => ∃ l : List UInt8, s' = .string ⟨l.toArray⟩ ∧ l.length ≤ 1000 ∧ w' = W.alloc (Obj.cells #[Value.int IntKind.i64 a, Value.int IntKind.i64 k, Value.int IntKind.u32 ↑v] 32))
  case first =>
    go_wp2_with fail
    · go_meet
      obtain ⟨l, hl, hq⟩ := cut_str s 1000
      exact ⟨l, by rw [← hl], by omega, by first | rfl | trivial⟩
    · go_meet
      obtain ⟨l, rfl⟩ := str_list s
      simp only [size_list] at *
      exact ⟨l, rfl, by omega, by first | rfl | trivial⟩
  case rest =>
    obtain ⟨l, rfl, hl5, hW1⟩ := hcut
    have hs1 : wc.heap.size = W.heap.size + 1 := by rw [hW1]; simp
    have hb1 : Below W.heap.size W wc := by rw [hW1]; exact (Below.refl _ _).alloc (Nat.le_refl _) _
    have p0 : wc.cell? ⟨W.heap.size, 0, none⟩ = some (.int .i64 a) := by rw [hW1]; simp
    have p1 : wc.cell? ⟨W.heap.size, 1, none⟩ = some (.int .i64 k) := by rw [hW1]; simp
    have p2 : wc.cell? ⟨W.heap.size, 2, none⟩ = some (.int .u32 v) := by rw [hW1]; simp
    have S1 := Lib.hid (And.intro hs1 hb1)
    clear hW1 hs1 hb1
    obtain ⟨W1, hWW⟩ : ∃ W1 : World, W1 = wc := ⟨_, rfl⟩
    rw [← hWW] at S1 p0 p1 p2 ⊢
    clear hWW
    go_upto_region 2 with (fail)
    go_cut [5] (fun b w' => Made b W1 l w')
    case first =>
      go_wp2_with fail
      go_meet
      exact made W1 l
    case rest =>
      obtain ⟨cap, rfl, hcap, hh2, hb2, hs2⟩ := hcut
      have hlt : W.heap.size < W1.heap.size := by have := S1.out.1; omega
      have q0 : wc.cell? ⟨W.heap.size, 0, none⟩ = some (.int .i64 a) := (hb2.cell (p := ⟨W.heap.size, 0, none⟩) hlt).trans p0
      have q1 : wc.cell? ⟨W.heap.size, 1, none⟩ = some (.int .i64 k) := (hb2.cell (p := ⟨W.heap.size, 1, none⟩) hlt).trans p1
      have q2 : wc.cell? ⟨W.heap.size, 2, none⟩ = some (.int .u32 v) := (hb2.cell (p := ⟨W.heap.size, 2, none⟩) hlt).trans p2
      have S2 := Lib.hid (And.intro hh2 (And.intro hb2 hs2))
      clear hh2 hb2 hs2 p0 p1 p2 hcb
      have hset := set_any W1.heap.size 0 l [] cap a k v wc (by omega) hcap ha hv4 (by rw [List.append_nil]; exact S2.out.1)
      rcases hi : inB l.length a k with _ | _
      · have hsb : setB l a k v ++ [] = l := by unfold setB; rw [hi]; simp
        rw [hi, hsb] at hset
        have hset' := Lib.hid hset
        clear hset hi hsb
        go_wp2_with fail
        refine hset'.out.mono ?_
        rintro e W4 ⟨rfl, hh4, ho4, hb4⟩
        have hcv := has_conv cap hh4
        have b4 := Lib.hid ((S1.out.2.trans (S2.out.2.1.mono (by have := S1.out.1; omega))).trans (hb4.mono (by have := S1.out.1; omega)))
        clear hset' hh4 ho4 hb4 q0 q1 q2
        go_wp2_with fail
        refine (works_any _).mono ?_
        rintro e W6 ⟨rfl, hb6⟩
        have hb6' := Lib.hid hb6
        clear hb6
        go_wp2_with fail
        go_ret
        exact ⟨rfl, b4.out.trans (hb6'.out.mono b4.out.size)⟩
      · obtain ⟨hk, h0, h1⟩ := inB_yes hi
        have hw := isW_cases hk
        obtain ⟨a, rfl⟩ := Int.eq_ofNat_of_zero_le h0
        obtain ⟨k, rfl⟩ := Int.eq_ofNat_of_zero_le (show 0 ≤ k by omega)
        have hak : a + k ≤ l.length := by omega
        have hgot := got l a k v hk hak
        have hi2 : inB (setB l a k v).length a k = true := by rw [setB_length]; exact hi
        have hsb : setB l a k v = l.take a ++ (leB k v ++ l.drop (a + k)) := by unfold setB; rw [hi, if_pos rfl]; simp
        rw [hi, List.append_nil] at hset
        have hset' := Lib.hid hset
        have K := Lib.hid (And.intro hgot (And.intro hi2 hsb))
        clear hset hi h0 h1 hgot hi2 hsb hk
        have hk3 : k = 1 ∨ k = 2 ∨ k = 4 := by omega
        clear hw
        rcases hk3 with rfl | rfl | rfl
        all_goals
          go_wp2_with fail
          refine hset'.out.mono ?_
          rintro e W4 ⟨rfl, hh4, ho4, hb4⟩
          have s0 : W4.cell? ⟨W.heap.size, 0, none⟩ = some (.int .i64 a) := (ho4 ⟨W.heap.size, 0, none⟩ (Nat.ne_of_lt hlt)).1.trans q0
          have s1 : W4.cell? ⟨W.heap.size, 1, none⟩ = _ := (ho4 ⟨W.heap.size, 1, none⟩ (Nat.ne_of_lt hlt)).1.trans q1
          have s2 : W4.cell? ⟨W.heap.size, 2, none⟩ = some (.int .u32 v) := (ho4 ⟨W.heap.size, 2, none⟩ (Nat.ne_of_lt hlt)).1.trans q2
          have b4 := Lib.hid ((S1.out.2.trans (S2.out.2.1.mono (by have := S1.out.1; omega))).trans (hb4.mono (by have := S1.out.1; omega)))
          have H4 := Lib.hid (And.intro hh4 hb4)
          clear hset' hh4 ho4 hb4 q0 q1 q2
          have hget := Lib.hid (get_back l a _ v _ W1.heap.size cap W4 rfl (by rfl) hak hl5 hcap H4.out.1)
          go_wp2_with fail
          refine hget.out.mono ?_
          rintro e w5 ⟨rfl, nq, rfl⟩
          first | rw [num1 v] | rw [num2 v] | rw [num4 v hv4]
          have t0 : (W4.drewN nq).cell? ⟨W.heap.size, 0, none⟩ = some (.int .i64 a) := s0
          have t1 : (W4.drewN nq).cell? ⟨W.heap.size, 1, none⟩ = _ := s1
          have t2 : (W4.drewN nq).cell? ⟨W.heap.size, 2, none⟩ = some (.int .u32 v) := s2
          have b5 := Lib.hid (below_drewN b4.out nq)
          have H5 := Lib.hid (show Has (W4.drewN nq) W1.heap.size 0 _ from H4.out.1)
          generalize W4.drewN nq = W5 at t0 t1 t2 b5 H5 ⊢
          clear s0 s1 s2 hget
          have g1 : decide ((a : Int) < 0) = false := by simp
          have g0 : ¬ (a : Int) < 0 := by omega
          first
            | (have g2 : ¬ (l.length : Int) < (a : Int) + 1 := by omega)
            | (have g2 : ¬ (l.length : Int) < (a : Int) + 2 := by omega)
            | (have g2 : ¬ (l.length : Int) < (a : Int) + 4 := by omega)
          go_upto_region 11 with (fail)
          clear S2 S1 wv wa wk b4 H4 hv4 ha ws
          go_wp2_with fail
          have e1 : (⟨l.toArray⟩ : ByteArray).extract 0 a = ⟨(l.take a).toArray⟩ := by rw [ext_list]; simp
          have e2 := ext_drop l
          have z0 : (0 : Int) ≤ (a : Int) := by omega
          have z1 : IntKind.i64.wrap ((a : Int) + 1) = (a : Int) + 1 := IntWalk.i64_in _ (by omega)
          have z2 : IntKind.i64.wrap ((a : Int) + 2) = (a : Int) + 2 := IntWalk.i64_in _ (by omega)
          have z4 : IntKind.i64.wrap ((a : Int) + 4) = (a : Int) + 4 := IntWalk.i64_in _ (by omega)
          have y1 : ((a : Int) + 1).toNat = a + 1 := by omega
          have y2 : ((a : Int) + 2).toNat = a + 2 := by omega
          have y4 : ((a : Int) + 4).toNat = a + 4 := by omega
          have x1 : (0 : Int) ≤ (a : Int) + 1 := by omega
          have x2 : (0 : Int) ≤ (a : Int) + 2 := by omega
          have x4 : (0 : Int) ≤ (a : Int) + 4 := by omega
          try (have j1 : (a : Int) + 1 ≤ (l.length : Int) := by omega)
          try (have j2 : (a : Int) + 2 ≤ (l.length : Int) := by omega)
          try (have j4 : (a : Int) + 4 ≤ (l.length : Int) := by omega)
          have j0 : (a : Int) ≤ (cap : Int) := by omega
          have j0' : (a : Int) ≤ (l.length : Int) := by omega
          have jc : (l.length : Int) ≤ (cap : Int) := by omega
          rcases cap_cases K.out.2.2 hak hcap with ⟨hce, hle⟩ | hce
          · have hp3 := post_end (x := W5.drew) (b := W1.heap.size)
            have e3 := ext_end K.out.2.2 hle
            clear e2
            have hp1 := pre_conv (w := W5) cap K.out.2.2 hak H5.out (x := W5.drew) rfl
            have q1 : (a : Int) ≤ (a : Int) + 1 := by omega
            have q2 : (a : Int) ≤ (a : Int) + 2 := by omega
            have q4 : (a : Int) ≤ (a : Int) + 4 := by omega
            try (have u1 : (l.length : Int) ≤ (a : Int) + 1 := by omega)
            try (have u2 : (l.length : Int) ≤ (a : Int) + 2 := by omega)
            try (have u4 : (l.length : Int) ≤ (a : Int) + 4 := by omega)
            clear hle
            subst hce
            go_still_tail 29, (by kernel_rfl)
            change wpList _ _ _ _ _ W5.drew
            go_wp2_with fail
            refine (works_any _).mono ?_
            rintro e W6 ⟨rfl, hb6⟩
            have hb6' := Lib.hid hb6
            clear hb6
            go_wp2_with fail
            go_ret
            exact ⟨rfl, (b5.out.drew).trans (hb6'.out.mono b5.out.size)⟩
          · have hp2 := post_conv (w := W5) cap K.out.2.2 hak H5.out (x := W5.drew) rfl
            have hp1 := pre_conv (w := W5) cap K.out.2.2 hak H5.out (x := W5.drew) rfl
            go_still_tail 29, (by kernel_rfl)
            change wpList _ _ _ _ _ W5.drew
            go_wp2_with fail
            refine (works_any _).mono ?_
            rintro e W6 ⟨rfl, hb6⟩
            have hb6' := Lib.hid hb6
            clear hb6
            go_wp2_with fail
            go_ret
            exact ⟨rfl, (b5.out.drew).trans (hb6'.out.mono b5.out.size)⟩
theorem own : ownKnob Try.prog.godebug = none := by kernel_rfl
theorem laidOut : laidOutB Try.prog = true := by kernel_rfl
set_option maxRecDepth 100000 in
theorem lifted (os : Os) (started : os.Started) (H : Type) (enc : TypeId × Value → H) :
    ReturnsInHanded {} Try.checked os 8 .any (Rows.octetHoldsSpec.pre6 enc Try.prog Try.f8 Rows.octetHoldsRow.domain false) (Rows.octetHoldsSpec.post enc Try.prog Try.f8 false true false false) := by
  refine returnsInHanded_of_change (C := Try.checked) own started (by kernel_rfl) Try.func8
    (ChangeSpec.witness6 (enc := enc) (C := Try.checked) false ⟨#[], #[.string ByteArray.empty, .agg #[.int .i64 0, .int .i64 0, .int .u32 0]], []⟩ 8 (by kernel_rfl) (by kernel_rfl) (by kernel_rfl) (by kernel_rfl)) ?_
  intro W base args ds gs before hval0 hW hcnd hsz
  have hval : ∀ (j : Nat) t v, Try.f8.params[j]? = some t → args[j]? = some v → Value.okWide Try.prog W .any base t v := hval0
  have hW' := hW
  obtain ⟨p, q, hA0, hV, rfl, hfz, hnd⟩ := hW
  have hA : DataW.TrodAll enc Try.prog W 0 (fun _ => true) true Try.f8.params.toList args.toList ds p := hA0
  rw [Try.params8] at hA hval
  obtain ⟨v0, vs0, d0, ds0, p0, q0, hargs, rfl, rfl, h0, r0⟩ := trodAll_cons hA
  obtain ⟨v1, vs1, d1, ds1, p1, q1, rfl, rfl, rfl, h1, r1⟩ := trodAll_cons r0
  obtain ⟨rfl, rfl, rfl⟩ := trodAll_nil r1
  obtain rfl : args = #[v0, v1] := by cases args; simp_all
  obtain ⟨rfl, rfl⟩ := trodVars_none hV
  have k0 := h0
  have lt0 : ∀ x ∈ p0, x.block < W.heap.size := by obtain ⟨m, hm⟩ := k0; exact DataW.trod_lt m _ _ _ hm
  have k1 := h1
  have lt1 : ∀ x ∈ p1, x.block < W.heap.size := by obtain ⟨m, hm⟩ := k1; exact DataW.trod_lt m _ _ _ hm
  obtain ⟨s, rfl, rfl, rfl, ws⟩ := open_string Try.underlying9 (hval 0 9 v0 rfl rfl) h0
  obtain ⟨cp0, cp1, cp2, yp0, yp1, yp2, mp, rfl, rfl, rfl, hp0, hp1, hp2⟩ := open_agg3 Try.underlying32 (by kernel_rfl) (by kernel_rfl) (hval 1 32 v1 rfl rfl) h1
  obtain ⟨p0, ep0, -, wp0⟩ := DataW.trod_int Try.underlying3 hp0
  simp at ep0
  subst ep0
  obtain ⟨p1, ep1, -, wp1⟩ := DataW.trod_int Try.underlying3 hp1
  simp at ep1
  subst ep1
  obtain ⟨p2, ep2, -, wp2⟩ := DataW.trod_int Try.underlying22 hp2
  simp at ep2
  subst ep2
  clear hA0 hval0
  refine (walk s ws p0 wp0 p1 wp1 p2 wp2 W).mono fun e W' ⟨he, bel⟩ => ?_
  subst he
  exact ⟨_, rfl, _, _, _, [], _, [], hW', trodAll_mk1 (shut_bool Try.underlying4 _), (trodAll_cons_mk (Below.trod laidOut (by kernel_rfl) (of_decide_eq_true (by kernel_rfl)) k0 bel lt0) (trodAll_cons_mk (Below.trod laidOut (by kernel_rfl) (of_decide_eq_true (by kernel_rfl)) k1 bel lt1) trodAll_mk0)), rfl, bel.frame _, fun h => by cases h⟩
theorem over : Rows.octetHoldsRow.holds Try.pinned (OpenSpec.ofChange Rows.octetHoldsSpec) :=
  OpenClaim.holds_of_wide 8 Try.f8 rfl rfl rfl rfl rfl rfl rfl ⟨rfl, rfl, rfl, rfl, rfl⟩ rfl rfl rfl rfl rfl (by kernel_rfl) Try.func8 (by kernel_rfl)
    (of_decide_eq_true (by kernel_rfl)) (by unfold Func.isWrapper; first | (rw [if_pos (by decide +kernel)]; kernel_rfl) | (rw [if_neg (by decide +kernel)]; exact ⟨rfl, rfl⟩))
    (fun os started H enc _ => lifted os started H enc)
/-- The given statement. -/
theorem proved : Rows.OctetHoldsSaid := over
end Go.Proofs.Ytedhpjolbgfdeaa.holds
