/- Proved: THE STAGE'S THEOREM of octet: whatever numbers are put one behind the other are read back just so, and nothing is left but what stands behind (OctetBack). For every input; no condition. -/
import Derived.Test.YtedhpjolbgfdeaaRows
import Derived.Test.YtedhpjolbgfdeaaOctR
import Derived.Test.YtedhpjolbgfdeaaPlaces
import Derived.Deep.LoopGhost
import Derived.Deep.DeepCutAuto
import Derived.StillTailTactics
import Derived.ProofKit
import Derived.OpenShut
import Derived.ShutString
import Derived.ChangeOld
namespace Go.Proofs.Ytedhpjolbgfdeaa.back
open Go.ChangeShapes Go.WideShapes Go.ChangeAt Go.RowKit
open Go.ChangeMaps (open_string shut_string)
set_option linter.unusedVariables false

def wd (v : Nat) : Nat := 2 ^ (v % 3)
theorem wd_cases (v : Nat) : wd v = 1 ∨ wd v = 2 ∨ wd v = 4 := by
  have h : v % 3 = 0 ∨ v % 3 = 1 ∨ v % 3 = 2 := by omega
  unfold wd
  rcases h with h | h | h <;> rw [h] <;> simp
theorem wd_isW (v : Nat) : isW (wd v : Int) = true := by
  rcases wd_cases v with h | h | h <;> rw [h] <;> rfl
/-- k numbers from the j-th on, one behind the other. -/
def sfx (V : Nat → Nat) : Nat → Nat → List UInt8
  | _, 0 => []
  | j, k + 1 => leB (wd (V j)) (V j) ++ sfx V (j + 1) k
theorem sfx_snoc (V : Nat → Nat) : ∀ k j, sfx V j (k + 1) = sfx V j k ++ leB (wd (V (j + k))) (V (j + k)) := by
  intro k
  induction k with
  | zero => intro j; simp [sfx]
  | succ k ih =>
    intro j
    rw [sfx, ih (j + 1), sfx, List.append_assoc, show j + 1 + k = j + (k + 1) from by omega]
theorem sfx_len (V : Nat → Nat) : ∀ k j, (sfx V j k).length ≤ 4 * k := by
  intro k
  induction k with
  | zero => intro j; simp [sfx]
  | succ k ih =>
    intro j
    have := ih (j + 1)
    have h := wd_cases (V j)
    simp only [sfx, List.length_append, leB_length]
    omega

/-- The third numbers of the places, as a function. -/
theorem thirds {w : World} {B : Nat} {A : Option Addr} {n : Nat} (h : PlacesIn w B A n) :
    ∃ V : Nat → Nat, ∀ i, V i < 4294967296 ∧ (i < n → ∃ b off, A = some ⟨b, off, none⟩ ∧ b < B ∧ w.cell? ⟨b, off + i * 3 + 2, none⟩ = some (.int .u32 (V i : Int))) := by
  have : ∀ i, ∃ v : Nat, v < 4294967296 ∧ (i < n → ∃ b off, A = some ⟨b, off, none⟩ ∧ b < B ∧ w.cell? ⟨b, off + i * 3 + 2, none⟩ = some (.int .u32 (v : Int))) := fun i => by
    by_cases hi : i < n
    · obtain ⟨b, off, e, hlt, x, y, v, h1, h2, h3, _, _, hv⟩ := h i hi
      exact ⟨v, hv, fun _ => ⟨b, off, e, hlt, h3⟩⟩
    · exact ⟨0, by omega, fun h => absurd h hi⟩
  exact ⟨fun i => Classical.choose (this i), fun i => Classical.choose_spec (this i)⟩

theorem put_wd (V : Nat → Nat) (j : Nat) (hv : V j < 4294967296) (hl : (sfx V 0 j).length ≤ 8000000) (q : Int) (w : World) (hq : q = (wd (V j) : Nat)) :
    Calls Try.prog 10 #[.string ⟨(sfx V 0 j).toArray⟩, .int .i64 q, .int .u32 (V j : Nat)] w fun e w' => e = .returned (.string ⟨(sfx V 0 (j + 1)).toArray⟩) ∧ Below w.heap.size w w' := by
  subst hq
  have h := put_any (sfx V 0 j) (wd (V j)) (V j) w hl hv
  have e : putB (sfx V 0 j) (wd (V j)) (V j) = sfx V 0 (j + 1) := by
    rw [sfx_snoc]
    unfold putB
    rw [wd_isW, Nat.zero_add]
    rfl
  rwa [e] at h

theorem num1 (v : Nat) (h : wd v = 1) : ((v % 256 ^ wd v : Nat) : Int) = (v : Int) % 256 := by rw [h]; omega
theorem num2 (v : Nat) (h : wd v = 2) : ((v % 256 ^ wd v : Nat) : Int) = (v : Int) % 65536 := by rw [h]; omega
theorem num4 (v : Nat) (hv : v < 4294967296) (h : wd v = 4) : ((v % 256 ^ wd v : Nat) : Int) = (v : Int) := by rw [h]; omega
theorem take_bh (bh : List UInt8) (r src : Nat) (w : World) (h : Rd w r src bh) :
    Calls Try.prog 18 #[.pointer (some ⟨r, 0, none⟩), .int .i64 bh.length] w (ReadPost w r src (.tuple #[.string ⟨bh.toArray⟩, .bool true]) []) := by
  have ht := Take_any r src bh bh.length w h
  have ok : okT bh.length (bh.length : Nat) = true := by simp [okT]
  have e1 : pieceT bh (bh.length : Nat) = bh := by unfold pieceT; rw [ok, if_pos rfl]; simp
  have e2 : restT bh (bh.length : Nat) = [] := by unfold restT; rw [ok, if_pos rfl]; simp
  rwa [e1, e2, ok] at ht
theorem take_pre (a b : List UInt8) (k : Nat) (h : a.length = k) : (a ++ b).take k = a := by subst h; simp
theorem drop_pre (a b : List UInt8) (k : Nat) (h : a.length = k) : (a ++ b).drop k = b := by subst h; simp
theorem num_wd (V : Nat → Nat) (q j : Nat) (hlt : q < j) (bh : List UInt8) (r src : Nat) (k : Int) (w : World) (hk : k = (wd (V q) : Nat)) (h : Rd w r src (sfx V q (j - q) ++ bh)) :
    Calls Try.prog 20 #[.pointer (some ⟨r, 0, none⟩), .int .i64 k] w (ReadPost w r src (.tuple #[.int .u32 (V q % 256 ^ wd (V q) : Nat), .bool true]) (sfx V (q + 1) (j - (q + 1)) ++ bh)) := by
  subst hk
  have hs : sfx V q (j - q) ++ bh = leB (wd (V q)) (V q) ++ (sfx V (q + 1) (j - (q + 1)) ++ bh) := by
    rw [show j - q = (j - (q + 1)) + 1 from by omega, sfx, List.append_assoc]
  rw [hs] at h
  have hn := Number_any r src _ (wd (V q) : Nat) w h
  have hl : (leB (wd (V q)) (V q)).length = wd (V q) := leB_length _ _
  have ok : okN (leB (wd (V q)) (V q) ++ (sfx V (q + 1) (j - (q + 1)) ++ bh)).length (wd (V q) : Nat) = true := by
    unfold okN
    rw [wd_isW]
    simp [hl]
    omega
  have e1 : numT (leB (wd (V q)) (V q) ++ (sfx V (q + 1) (j - (q + 1)) ++ bh)) (wd (V q) : Nat) = V q % 256 ^ wd (V q) := by
    unfold numT
    rw [ok, if_pos rfl, Int.toNat_natCast, take_pre _ _ _ hl, le_leB]
  have e2 : restN (leB (wd (V q)) (V q) ++ (sfx V (q + 1) (j - (q + 1)) ++ bh)) (wd (V q) : Nat) = sfx V (q + 1) (j - (q + 1)) ++ bh := by
    unfold restN
    rw [ok, if_pos rfl, Int.toNat_natCast, drop_pre _ _ _ hl]
  rwa [e1, e2, ok] at hn

set_option maxRecDepth 100000 in
set_option maxHeartbeats 2000000 in
theorem walk {H : Type} {enc : TypeId × Value → H} (v0 : Value) {d0 : DataW H} {p0 : List MemPlace} (t : ByteArray) (wt : t.size ≤ maxLen) (W : World)
    (hv : Value.okWide Try.prog W .any 0 37 v0) (hd : DataW.Trod enc Try.prog W 0 (fun _ => true) true 37 v0 d0 p0) :
    Calls Try.prog 7 #[v0, .string t] W fun e w' => e = .returned (.bool true) ∧ Below W.heap.size W w' := by
  obtain ⟨A, n, cap, rfl, hcap, hm, hP⟩ := places_of hv hd
  obtain ⟨V, hV⟩ := thirds hP
  have hn : n ≤ 9223372036854775807 := by unfold maxLen at hm; omega
  have hV' := Lib.hid hV
  clear hv hd hm wt hP hV
  go_enter Try.func7, Try.ntmps7
  go_upto_region 1 with (fail)
  go_cut [1] (fun s w' => ∃ l : List UInt8, s = .string ⟨l.toArray⟩ ∧ l.length ≤ 1000 ∧ W = w')
  case first =>
    go_wp2_with fail
    · go_meet
      obtain ⟨l, hl, hq⟩ := cut_str t 1000
      exact ⟨l, by rw [← hl], by omega, by first | rfl | trivial⟩
    · go_meet
      obtain ⟨l, rfl⟩ := str_list t
      simp only [size_list] at *
      exact ⟨l, rfl, by omega, by first | rfl | trivial⟩
  case rest =>
    obtain ⟨bh, rfl, hbh, rfl⟩ := hcut
    go_upto_region 3 with (fail)
    go_cut [6] (fun s w' => ∃ m : Nat, s = .int .i64 m ∧ m ≤ 60 ∧ m ≤ n ∧ W = w')
    case first =>
      go_wp2_with fail
      · go_meet
        exact ⟨60, rfl, by omega, by omega, by first | rfl | trivial⟩
      · go_meet
        exact ⟨n, rfl, by omega, by omega, by first | rfl | trivial⟩
    case rest =>
      obtain ⟨m, rfl, hm60, hmn, rfl⟩ := hcut
      go_wp2_with fail
      go_loopw [5, 7] (fun s i wr => ∃ j : Nat, j ≤ m ∧ i = .int .i64 j ∧ s = .string ⟨(sfx V 0 j).toArray⟩ ∧ Below W.heap.size W wr) (fun _ i _ => m - (intOf i).toNat)
      case atStart => exact ⟨0, Nat.zero_le _, rfl, by simp [sfx], Below.refl _ _⟩
      case round =>
        obtain ⟨j, hj, rfl, rfl, hbj⟩ := hrel
        have hbj' := Lib.hid hbj
        clear hbj
        by_cases hlt : j < m
        · obtain ⟨hv4, hcell⟩ := hV'.out j
          obtain ⟨b, off, rfl, hbW, c2⟩ := hcell (by omega)
          have c2' : wr.cell? ⟨b, off + j * 3 + 2, none⟩ = some (.int .u32 (V j : Int)) := (hbj'.out.cell (p := ⟨b, off + j * 3 + 2, none⟩) hbW).trans c2
          have hsl := sfx_len V j 0
          have hput := Lib.hid (put_wd V j hv4 (by omega))
          have hwd := Lib.hid (show wd (V j) = 2 ^ (V j % 3) from rfl)
          clear c2 hcell
          obtain ⟨v, hvv⟩ : ∃ v, v = V j := ⟨_, rfl⟩
          rw [← hvv] at c2' hput hwd hv4
          have hvv' := Lib.hid hvv
          clear hvv
          have hjn : j < n := by omega
          have hm3 : v % 3 = 0 ∨ v % 3 = 1 ∨ v % 3 = 2 := by omega
          rcases hm3 with h3 | h3 | h3
          all_goals
            have h3i : ((v : Int) % 3) = ((v % 3 : Nat) : Int) := by omega
            rw [h3] at h3i
            have h3t : ((v : Int)).tmod 3 = (v : Int) % 3 := Int.tmod_eq_emod_of_nonneg (by omega)
            rw [h3i] at h3t
            have hw := hwd.out
            rw [h3] at hw
            have hw' := Lib.hid hw
            clear hw h3
            go_wp2_with fail
            go_still_tail 13, (by kernel_rfl)
            change wpList _ _ _ _ _ wr.drew
            go_wp2_with fail
            refine (hput.out _ _ (by rw [hw'.out]; rfl)).mono ?_
            rintro e w3 ⟨rfl, hb3⟩
            have b3 := Lib.hid (hbj'.out.drew.trans (hb3.mono hbj'.out.size))
            clear hb3
            go_wp2_with fail
            go_roundw
            case rel => exact ⟨j + 1, hlt, by go_num, rfl, b3.out⟩
            case measure => simp [intOf]; omega
        · obtain rfl : j = m := by omega
          have hsl := sfx_len V j 0
          have hbl : (sfx V 0 j ++ bh).length ≤ 1000000 := by simp; omega
          go_wp2_with fail
          rw [str_cat]
          refine (New_any _ _ hbl).mono ?_
          rintro e w1 ⟨r, src, rfl, hr, hb, hs1, hr1⟩
          have H1 := Lib.hid (And.intro hr (And.intro hb (And.intro hs1 hr1)))
          clear hr hb hs1 hr1
          go_wp2_with fail
          go_loopw [9] (fun i wr => ∃ q : Nat, q ≤ j ∧ i = .int .i64 q ∧ Rd wr r src (sfx V q (j - q) ++ bh) ∧ Below W.heap.size W wr) (fun i _ => j - (intOf i).toNat)
          case atStart => exact ⟨0, Nat.zero_le _, rfl, H1.out.1, hbj'.out.trans (H1.out.2.1.mono hbj'.out.size)⟩
          case round =>
            obtain ⟨q, hq, rfl, hR, hbq⟩ := hrel
            have HR := Lib.hid (And.intro hR hbq)
            clear hR hbq
            by_cases hlt2 : q < j
            · obtain ⟨hv4, hcell⟩ := hV'.out q
              obtain ⟨b, off, rfl, hbW, c2⟩ := hcell (by omega)
              have c2' : wr.cell? ⟨b, off + q * 3 + 2, none⟩ = some (.int .u32 (V q : Int)) := (HR.out.2.cell (p := ⟨b, off + q * 3 + 2, none⟩) hbW).trans c2
              have hnum := Lib.hid (num_wd V q j hlt2 bh r src)
              have hwd := Lib.hid (show wd (V q) = 2 ^ (V q % 3) from rfl)
              have hsrc := Lib.hid H1.out.2.2.1
              clear c2 hcell
              obtain ⟨v, hvv⟩ : ∃ v, v = V q := ⟨_, rfl⟩
              rw [← hvv] at c2' hnum hwd hv4
              have hvv' := Lib.hid hvv
              clear hvv
              have hqn : q < n := by omega
              have hm3 : v % 3 = 0 ∨ v % 3 = 1 ∨ v % 3 = 2 := by omega
              rcases hm3 with h3 | h3 | h3
              all_goals
                have h3i : ((v : Int) % 3) = ((v % 3 : Nat) : Int) := by omega
                rw [h3] at h3i
                have hw := hwd.out
                rw [h3] at hw
                have hw' := Lib.hid hw
                clear hw h3
                go_wp2_with fail
                refine (hnum.out _ _ (by rw [hw'.out]; rfl) HR.out.1).mono ?_
                rintro e w3 ⟨rfl, hR3, hg3⟩
                have hR3' := Lib.hid hR3
                have b3 := Lib.hid (HR.out.2.trans ((Below.refl W.heap.size wr).grown hg3 HR.out.2.size (fun k hk => by have := Option.some.inj hk; have := hsrc.out; have := hbj'.out.size; omega)))
                have c3 : w3.cell? ⟨b, off + q * 3 + 2, none⟩ = some (.int .u32 (v : Int)) := (World.cell?_of_block (w := wr) (w' := w3) (a := ⟨b, off + q * 3 + 2, none⟩) (hg3.block b (lt_of_cell c2') (fun e => by have := Option.some.inj e; have := hsrc.out; have := hbj'.out.size; omega))).trans c2'
                clear hR3 hg3 c2'
                first | rw [num1 v hw'.out] | rw [num2 v hw'.out] | rw [num4 v hv4 hw'.out]
                go_wp2_with fail
                go_roundw
                case rel => exact ⟨q + 1, hlt2, by go_num, hR3'.out, b3.out⟩
                case measure => simp [intOf]; omega
            · obtain rfl : q = j := by omega
              have hR0 : Rd wr r src bh := by have := HR.out.1; rwa [Nat.sub_self] at this
              have hT := Lib.hid (take_bh bh r src wr hR0)
              have hlo := Lib.hid (And.intro H1.out.2.2.1 hbj'.out.size)
              go_wp2_with fail
              refine hT.out.mono ?_
              rintro e w3 ⟨rfl, hR3, hg3⟩
              have hL := Lib.hid (Left_any r src [] w3 hR3)
              have b3 := Lib.hid (HR.out.2.trans ((Below.refl W.heap.size wr).grown hg3 HR.out.2.size (fun k hk => by have := Option.some.inj hk; have := hlo.out; omega)))
              clear hR3 hg3
              go_wp2_with fail
              refine hL.out.mono ?_
              rintro e w4 ⟨rfl, hR4, hg4⟩
              have b4 := Lib.hid (b3.out.trans ((Below.refl W.heap.size w3).grown hg4 b3.out.size (fun k hk => by have := Option.some.inj hk; have := hlo.out; omega)))
              clear hR4 hg4
              go_wp2_with fail
              refine (works_any _).mono ?_
              rintro e w5 ⟨rfl, hb5⟩
              have b5 := Lib.hid (b4.out.trans (hb5.mono b4.out.size))
              clear hb5
              go_wp2_with fail
              go_ret
              exact ⟨rfl, b5.out⟩
theorem own : ownKnob Try.prog.godebug = none := by kernel_rfl
theorem laidOut : laidOutB Try.prog = true := by kernel_rfl
set_option maxRecDepth 100000 in
theorem lifted (os : Os) (started : os.Started) (H : Type) (enc : TypeId × Value → H) :
    ReturnsInHanded {} Try.checked os 7 .any (Rows.octetBackSpec.pre6 enc Try.prog Try.f7 Rows.octetBackRow.domain false) (Rows.octetBackSpec.post enc Try.prog Try.f7 false true false false) := by
  refine returnsInHanded_of_change (C := Try.checked) own started (by kernel_rfl) Try.func7
    (ChangeSpec.witness6 (enc := enc) (C := Try.checked) false ⟨#[], #[.slice none 0 0, .string ByteArray.empty], []⟩ 8 (by kernel_rfl) (by kernel_rfl) (by kernel_rfl) (by kernel_rfl)) ?_
  intro W base args ds gs before hval0 hW hcnd hsz
  have hval : ∀ (j : Nat) t v, Try.f7.params[j]? = some t → args[j]? = some v → Value.okWide Try.prog W .any base t v := hval0
  have hW' := hW
  obtain ⟨p, q, hA0, hV, rfl, hfz, hnd⟩ := hW
  have hA : DataW.TrodAll enc Try.prog W 0 (fun _ => true) true Try.f7.params.toList args.toList ds p := hA0
  rw [Try.params7] at hA hval
  obtain ⟨v0, vs0, d0, ds0, p0, q0, hargs, rfl, rfl, h0, r0⟩ := trodAll_cons hA
  obtain ⟨v1, vs1, d1, ds1, p1, q1, rfl, rfl, rfl, h1, r1⟩ := trodAll_cons r0
  obtain ⟨rfl, rfl, rfl⟩ := trodAll_nil r1
  obtain rfl : args = #[v0, v1] := by cases args; simp_all
  obtain ⟨rfl, rfl⟩ := trodVars_none hV
  have k0 := h0
  have lt0 : ∀ x ∈ p0, x.block < W.heap.size := by obtain ⟨m, hm⟩ := k0; exact DataW.trod_lt m _ _ _ hm
  have k1 := h1
  have lt1 : ∀ x ∈ p1, x.block < W.heap.size := by obtain ⟨m, hm⟩ := k1; exact DataW.trod_lt m _ _ _ hm
  obtain ⟨t, rfl, rfl, rfl, wt⟩ := open_string Try.underlying9 (hval 1 9 v1 rfl rfl) h1
  clear hA0 hval0
  refine (walk v0 t wt W (hval 0 37 v0 rfl rfl) k0).mono fun e W' ⟨he, bel⟩ => ?_
  subst he
  exact ⟨_, rfl, _, _, _, [], _, [], hW', trodAll_mk1 (shut_bool Try.underlying4 _), (trodAll_cons_mk (Below.trod laidOut (by kernel_rfl) (of_decide_eq_true (by kernel_rfl)) k0 bel lt0) (trodAll_cons_mk (Below.trod laidOut (by kernel_rfl) (of_decide_eq_true (by kernel_rfl)) k1 bel lt1) trodAll_mk0)), rfl, bel.frame _, fun h => by cases h⟩
theorem over : Rows.octetBackRow.holds Try.pinned (OpenSpec.ofChange Rows.octetBackSpec) :=
  OpenClaim.holds_of_wide 7 Try.f7 rfl rfl rfl rfl rfl rfl rfl ⟨rfl, rfl, rfl, rfl, rfl⟩ rfl rfl rfl rfl rfl (by kernel_rfl) Try.func7 (by kernel_rfl)
    (of_decide_eq_true (by kernel_rfl)) (by unfold Func.isWrapper; first | (rw [if_pos (by decide +kernel)]; kernel_rfl) | (rw [if_neg (by decide +kernel)]; exact ⟨rfl, rfl⟩))
    (fun os started H enc _ => lifted os started H enc)
/-- The given statement. -/
theorem proved : Rows.OctetBackSaid := over
end Go.Proofs.Ytedhpjolbgfdeaa.back
