/- Proved: what is in a word's fields is what stands there (the card of IsaFields): for every input; the tables of names and forms are tied to the program's text. -/
import Derived.Test.YtmgjnkejdofcjaaDoorIsF
import Derived.Test.YtmgjnkejdofcjaaDoorIsW
import Derived.Test.YtmgjnkejdofcjaaDoorIsV
import Derived.Test.YtmgjnkejdofcjaaDoorFlat
import Derived.Test.YtmgjnkejdofcjaaDoorTie
import Derived.Test.YtmgjnkejdofcjaaDoorCards
import Derived.SevenTiedAt
import Derived.ProofKit
import Derived.OpenShut
import Derived.ShutString
import Derived.ChangeOld
import Derived.Deep.LoopGhost
namespace Go.Proofs.YtmgjnkejdofcjaaDoor.ifields
open Go.ChangeShapes Go.WideShapes Go.ChangeAt Go.RowKit
open Go.ChangeMaps (open_string shut_string)
set_option linter.unusedVariables false

/-- What a word of some instruction says, part by part. -/
theorem fields_is {v : Int} {i : Ins} (hm : mayB i = true) (he : encW i = v) (hd : rdW v = i) : i.op = v / 16777216 ∧ i.a = v / 1048576 % 16 ∧ ((98 : UInt8) ∈ formAt i.op → i.b = v / 65536 % 16) ∧ ((99 : UInt8) ∈ formAt i.op → i.c = v / 4096 % 16) ∧ ((105 : UInt8) ∈ formAt i.op → (i.m - v) % 4096 = 0) ∧ ((106 : UInt8) ∈ formAt i.op → (i.m - v) % 1048576 = 0) := by
  subst hd
  have hop := rd_op v
  refine ⟨hop, ?_⟩
  rw [hop]
  unfold rdW
  rcases form_cases (v / 16777216) with e | e | e | e | e | e | e <;> rw [e] <;> simp
  all_goals (try split) <;> omega
theorem low12 (x : Int) (h : x % 4096 = 0) : bits .and .i64 x 4095 = 0 := by
  have e : (BitVec.ofInt 64 x &&& BitVec.ofInt 64 4095).toNat = 0 := by
    rw [BitVec.toNat_and, show (BitVec.ofInt 64 4095).toNat = 2 ^ 12 - 1 from rfl, Nat.and_two_pow_sub_one_eq_mod, BitVec.toNat_ofInt]
    omega
  show IntKind.i64.wrap (((BitVec.ofInt 64 x &&& BitVec.ofInt 64 4095).toNat : Nat) : Int) = 0
  rw [e]; rfl
theorem low20 (x : Int) (h : x % 1048576 = 0) : bits .and .i64 x 1048575 = 0 := by
  have e : (BitVec.ofInt 64 x &&& BitVec.ofInt 64 1048575).toNat = 0 := by
    rw [BitVec.toNat_and, show (BitVec.ofInt 64 1048575).toNat = 2 ^ 20 - 1 from rfl, Nat.and_two_pow_sub_one_eq_mod, BitVec.toNat_ofInt]
    omega
  show IntKind.i64.wrap (((BitVec.ofInt 64 x &&& BitVec.ofInt 64 1048575).toNat : Nat) : Int) = 0
  rw [e]; rfl
theorem nib (k : Nat) (hk : k ≤ 28) (x : Int) (h0 : 0 ≤ x) (h1 : x < 4294967296) : bits .and .u32 x 15 = x % 16 := bits_mask .u32 32 (by decide) wraps_u32b 4 (by decide) x h0 h1
set_option maxRecDepth 100000 in
set_option maxHeartbeats 4000000 in
theorem walk (v : Int) (wv : (Lit.int .u32 v).wf = true) (W : World) (hT : Tabs W) : Calls Tryd.prog 8 #[.int .u32 v] W fun e w' => e = .returned (.bool true) ∧ Below W.heap.size W w' := by
  have hv := bounds_u32 wv
  have hD : Calls Tryd.prog 13 #[.int .u32 v] W fun e w' => e = .returned (iv (decW v)) ∧ Below W.heap.size W w' := pDecode_any v hv.1 (by omega) W hT
  have hz := decW_zero_or v
  have hrd : decW v = Ins.zero ∨ rdW v = decW v := by
    unfold decW; split
    · exact .inr rfl
    · exact .inl rfl
  obtain ⟨d, hd⟩ : ∃ d, d = decW v := ⟨_, rfl⟩
  rw [← hd] at hD hz hrd
  clear hd wv
  by_cases hzz : d = Ins.zero
  · subst hzz
    replace hD : Calls Tryd.prog 13 #[.int .u32 v] W fun e w' => e = .returned (.agg #[.int .i64 0, .int .i64 0, .int .i64 0, .int .i64 0, .int .i64 0]) ∧ Below W.heap.size W w' := hD
    replace hD := Lib.hid hD
    replace hT := Lib.hid hT
    clear hz hrd hv
    go_enter Tryd.func8, Tryd.ntmps8
    go_wp2_with fail
    refine hD.out.mono ?_
    rintro e w1 ⟨rfl, h1⟩
    have k1 := (KR.mk h1 (fun x hx => by cases hx) : KR W [] w1).push (ir 0 0 0 0 0) 23
    obtain ⟨w2, hw2⟩ : ∃ w2, w2 = w1.alloc (.cells #[.int .i64 0, .int .i64 0, .int .i64 0, .int .i64 0, .int .i64 0] 23) := ⟨_, rfl⟩
    replace k1 : KR W [⟨w1.heap.size, ir 0 0 0 0 0⟩] w2 := by rw [hw2]; exact k1
    have hWk := Lib.hid (iworks_any w2 (hT.out.below k1.bl))
    replace k1 := Lib.hid k1
    replace hw2 := Lib.hid hw2
    clear h1 hD
    go_wp2_with fail
    rw [← hw2.out]
    refine hWk.out.mono ?_
    rintro e w3 ⟨rfl, h3⟩
    have k3 := Lib.hid (k1.out.below h3).bl
    go_wp2_with fail
    go_ret
    exact ⟨rfl, k3.out⟩
  · have hm : mayB d = true := by rcases hz with h | h; exact absurd h hzz; exact h.1
    have he : encW d = v := by rcases hz with h | h; exact absurd h hzz; exact h.2
    have hr : rdW v = d := by rcases hrd with h | h; exact absurd h hzz; exact h
    have hf := fields_is hm he hr
    have hp := may_parts hm
    obtain ⟨zo, za, zb, zc, zm⟩ := d
    dsimp only at hf hp
    have h0 : (zo == 0) = false := by
      simp only [beq_eq_false_iff_ne, ne_eq]
      omega
    replace hD : Calls Tryd.prog 13 #[.int .u32 v] W fun e w' => e = .returned (.agg #[.int .i64 zo, .int .i64 za, .int .i64 zb, .int .i64 zc, .int .i64 zm]) ∧ Below W.heap.size W w' := hD
    obtain ⟨f1, f2, f3, f4, f5, f6⟩ := hf
    have hsh : v / 16777216 = zo := f1.symm
    have hfl := form_letters zo
    have hlen := form_short zo
    have hF := fun w h => Form_any zo w h
    obtain ⟨l, hl⟩ : ∃ l, l = formAt zo := ⟨_, rfl⟩
    rw [← hl] at hF hfl hlen f3 f4 f5 f6
    obtain ⟨s, hs⟩ : ∃ s : ByteArray, s = ⟨l.toArray⟩ := ⟨_, rfl⟩
    rw [← hs] at hF
    have hsl : s.size = l.length := by rw [hs]; rfl
    have hsg : ∀ (k : Nat) (h : k < s.size), s[k] ∈ l := fun k h => by
      subst hs
      show l.toArray[k] ∈ l
      simp
    have hss : s.size ≤ 3 := by omega
    have f7 : (105 : UInt8) ∈ l → bits .and .i64 (zm - v) 4095 = 0 := fun h => low12 _ (f5 h)
    have f8 : (106 : UInt8) ∈ l → bits .and .i64 (zm - v) 1048575 = 0 := fun h => low20 _ (f6 h)
    have zmb : -524288 ≤ zm ∧ zm ≤ 524287 := by
      have hq := hp.2.2.2.2.2
      unfold immB at hq
      generalize (formAt zo).contains 106 = p6 at hq
      generalize (formAt zo).contains 105 = p5 at hq
      cases p6 <;> cases p5 <;> simp at hq <;> omega
    obtain ⟨la0, la1, -⟩ := fld_in hp.2.2.1
    obtain ⟨lb0, lb1, -⟩ := fld_in hp.2.2.2.1
    obtain ⟨lc0, lc1, -⟩ := fld_in hp.2.2.2.2.1
    have g1 : bits .and .u32 (v / 1048576) 15 = v / 1048576 % 16 := nib 20 (by decide) _ (by omega) (by omega)
    have g2 : bits .and .u32 (v / 65536) 15 = v / 65536 % 16 := nib 16 (by decide) _ (by omega) (by omega)
    have g3 : bits .and .u32 (v / 4096) 15 = v / 4096 % 16 := nib 12 (by decide) _ (by omega) (by omega)
    rw [← f2] at g1
    replace g2 := Lib.hid g2
    replace g3 := Lib.hid g3
    replace g1 := Lib.hid g1
    replace f3 := Lib.hid f3
    replace f4 := Lib.hid f4
    replace f7 := Lib.hid f7
    replace f8 := Lib.hid f8
    replace f2 := Lib.hid f2
    replace hD := Lib.hid hD
    replace hT := Lib.hid hT
    replace hF := Lib.hid hF
    replace hfl := Lib.hid hfl
    replace hsg := Lib.hid hsg
    replace hsl := Lib.hid hsl
    clear hz hrd hzz hm he hr hp f1 f5 f6 hs hl hlen
    go_enter Tryd.func8, Tryd.ntmps8
    go_wp2_with fail
    refine hD.out.mono ?_
    rintro e w1 ⟨rfl, h1⟩
    have k1 := (KR.mk h1 (fun x hx => by cases hx) : KR W [] w1).push (ir zo za zb zc zm) 23
    obtain ⟨w2, hw2⟩ : ∃ w2, w2 = w1.alloc (.cells #[.int .i64 zo, .int .i64 za, .int .i64 zb, .int .i64 zc, .int .i64 zm] 23) := ⟨_, rfl⟩
    replace k1 : KR W [⟨w1.heap.size, ir zo za zb zc zm⟩] w2 := by rw [hw2]; exact k1
    have hF' := Lib.hid (hF.out w2 (hT.out.below k1.bl))
    have hWk := Lib.hid (iworks_any w2 (hT.out.below k1.bl))
    obtain ⟨a0, a1, a2, a3, a4, -⟩ := k1.cells5 (List.mem_cons_self ..)
    replace k1 := Lib.hid k1
    replace hw2 := Lib.hid hw2
    clear h1 hD hF
    go_wp2_with fail
    rw [← hw2.out]
    refine hF'.out.mono ?_
    rintro e w3 ⟨rfl, rfl⟩
    go_wp2_with fail
    go_loop [5] (fun i => ∃ k : Nat, k ≤ s.size ∧ i = .int .i64 k) (fun i => s.size - (intOf i).toNat)
    case atStart => exact ⟨0, by omega, rfl⟩
    case round =>
      obtain ⟨k, hk, rfl⟩ := hrel
      by_cases hlt : k < s.size
      · have hin := hsg.out k hlt
        have hcs := hfl.out _ hin
        rcases hcs with he | he | he | he | he
        · have gg := g1.out
          clear hin
          go_wp2
          go_round
          case rel => exact ⟨k + 1, by omega, by go_num⟩
          case measure => simp [intOf]; omega
        · rw [he] at hin
          have gg := g2.out
          rw [← f3.out hin] at gg
          clear hin
          go_wp2
          go_round
          case rel => exact ⟨k + 1, by omega, by go_num⟩
          case measure => simp [intOf]; omega
        · rw [he] at hin
          have gg := g3.out
          rw [← f4.out hin] at gg
          clear hin
          go_wp2
          go_round
          case rel => exact ⟨k + 1, by omega, by go_num⟩
          case measure => simp [intOf]; omega
        · rw [he] at hin
          have gg := f7.out hin
          clear hin
          go_wp2
          go_round
          case rel => exact ⟨k + 1, by omega, by go_num⟩
          case measure => simp [intOf]; omega
        · rw [he] at hin
          have gg := f8.out hin
          clear hin
          go_wp2
          go_round
          case rel => exact ⟨k + 1, by omega, by go_num⟩
          case measure => simp [intOf]; omega
      · obtain rfl : k = s.size := by omega
        go_wp2_with fail
        refine hWk.out.mono ?_
        rintro e w4 ⟨rfl, h4⟩
        have k4 := Lib.hid (k1.out.below h4).bl
        go_wp2
        go_ret
        exact ⟨rfl, k4.out⟩

set_option maxRecDepth 100000 in
theorem lifted (os : Os) (started : os.Started) (H : Type) (enc : TypeId × Value → H) :
    ReturnsInHanded {} Tryd.checked os 8 .any (fun w args => (Rows.isaFieldsSpec.pre enc Tryd.prog Tryd.f8 [] false w args ∧ laidMetH Tryd.prog Rows.isaFieldsRow.laid w) ∧ sizedMet enc Tryd.prog Tryd.f8 (OpenSpec.ofChange Rows.isaFieldsSpec) false w args) (Rows.isaFieldsSpec.post enc Tryd.prog Tryd.f8 false true false false) := by
  refine returnsInHanded_of_change_and (C := Tryd.checked) (X := fun w _ => laidMetH Tryd.prog Rows.isaFieldsRow.laid w) (fun _ _ _ hh h => h.of_heap hh) own started (by kernel_rfl) Tryd.func8
    (ChangeSpec.witness_at (enc := enc) (C := Tryd.checked) (os := os) (X := fun w _ => laidMetH Tryd.prog Rows.isaFieldsRow.laid w) false (laidWorld os) #[.int .u32 0] 8 rfl (by kernel_rfl) (by kernel_rfl) (by kernel_rfl) (by kernel_rfl) (by kernel_rfl) (laid_met os _)) ?_
  intro W base args ds gs before hval0 hW _ _ hL _
  have hval : ∀ (j : Nat) t v, Tryd.f8.params[j]? = some t → args[j]? = some v → Value.okWide Tryd.prog W .any base t v := hval0
  have hW' := hW
  obtain ⟨p, q, hA0, hV, rfl, hfz, hnd⟩ := hW
  have hA : DataW.TrodAll enc Tryd.prog W 0 (fun _ => true) true Tryd.f8.params.toList args.toList ds p := hA0
  rw [Tryd.params8] at hA hval
  obtain ⟨v0, vs0, d0, ds0, p0, q0, hargs, rfl, rfl, h0, r0⟩ := trodAll_cons hA
  obtain ⟨rfl, rfl, rfl⟩ := trodAll_nil r0
  obtain rfl : args = #[v0] := by cases args; simp_all
  obtain ⟨rfl, rfl⟩ := trodVars_none hV
  have k0 := h0
  have lt0 : ∀ x ∈ p0, x.block < W.heap.size := by obtain ⟨m, hm⟩ := k0; exact DataW.trod_lt m _ _ _ hm
  obtain ⟨v, rfl, rfl, rfl, wv⟩ := open_int Tryd.underlying24 (hval 0 24 v0 rfl rfl) h0
  clear hA0 hval0
  refine (walk v wv W (tabs_of_laid hL)).mono fun e W' ⟨he, bel⟩ => ?_
  subst he
  exact ⟨_, rfl, _, _, _, [], _, [], hW', trodAll_mk1 (shut_bool Tryd.underlying4 _), (trodAll_cons_mk (Below.trod laidOut (by kernel_rfl) (of_decide_eq_true (by kernel_rfl)) k0 bel lt0) trodAll_mk0), rfl, bel.frame _, fun h => by cases h⟩
theorem over : Rows.IsaFieldsSaid :=
  OpenClaim.holds_of_wide 8 Tryd.f8 rfl rfl rfl rfl rfl rfl rfl ⟨rfl, rfl, rfl, rfl, rfl⟩ rfl rfl rfl rfl rfl (by kernel_rfl) Tryd.func8 (by kernel_rfl)
    (of_decide_eq_true (by kernel_rfl)) (by unfold Func.isWrapper; first | (rw [if_pos (by decide +kernel)]; kernel_rfl) | (rw [if_neg (by decide +kernel)]; exact ⟨rfl, rfl⟩))
    (fun os started H enc _ => lifted os started H enc)
/-- The given statement. -/
theorem proved : Rows.IsaFieldsCardSaid :=
  Claim7.holds_tied_plain_at .later [] [.data, .data] true (true, "450f401a4c4e925ae382747976bb556dbd206c48d08eb915d92392bd75249c1c") false
    over (fun _ h => by cases h) (by kernel_rfl) (fun _ h => by cases h) isaFields_row_tie rfl ⟨rfl, rfl⟩ (by kernel_rfl) rfl
    (fun f fn hf hfn => by
      obtain rfl : f = 8 := Option.some.inj ((show Tryd.prog.funcNamed "fallow/fallowlaw07.IsaFields" = some 8 by kernel_rfl).symm.trans hf) |>.symm
      obtain rfl : fn = Tryd.f8 := (Option.some.inj (Tryd.func8.symm.trans hfn)).symm
      exact ⟨by kernel_rfl, fun j t ht => by
        rw [Tryd.params8] at ht
        rcases j with _ | j
        · obtain rfl : t = 24 := by simpa using ht.symm
          exact (show Tryd.prog.wantsStandIn 24 = false by kernel_rfl)
        · simp at ht⟩)
    (by kernel_rfl)
end Go.Proofs.YtmgjnkejdofcjaaDoor.ifields
