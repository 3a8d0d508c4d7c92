/- Proved: what is taken was free, and is not taken again till it was put back (SlotsOnce). For every input; the library's table is as its own text lays it (the card ties that). -/
import Derived.Test.YtkkjjdnlfdempaaDoorSlV
import Derived.Test.YtkkjjdnlfdempaaDoorSlX
import Derived.Test.YtkkjjdnlfdempaaDoorNums
import Derived.Test.YtkkjjdnlfdempaaDoorTie
import Derived.Test.YtkkjjdnlfdempaaDoorCards
import Derived.SevenTiedAt
import Derived.ProofKit
import Derived.OpenShut
import Derived.ChangeOld
import Derived.Deep.LoopGhost
import Derived.Deep.RegionHeld
namespace Go.Proofs.YtkkjjdnlfdempaaDoor.sonce
open Go.ChangeShapes Go.WideShapes Go.ChangeAt Go.RowKit Go.Shelf
set_option linter.unusedVariables false
set_option maxRecDepth 100000

theorem w64 (n : Nat) (h : n < 1000000) : wrap64 (n : Int) = (n : Int) := by unfold wrap64; omega
theorem mod4 {X r : Nat} (h : X % 4 = r) : (X : Int) % 4 = (r : Int) := by omega
theorem mayAdd_in {g : Nat → Bool} {p : Nat} (hp : p < 1024) : mayAdd g (p : Int) = !g p := by
  unfold mayAdd
  rw [Int.toNat_natCast, decide_eq_true (Int.natCast_nonneg p), decide_eq_true (show (p : Int) < 1024 by omega)]
  rfl
theorem okPut_in {n : Nat} {g : Nat → Bool} {f : Nat → Nat → Bool} {p q : Nat} (hp : p < 1024) (hq : q < 16) : okPut n g f (p : Int) (q : Int) = tkn n g f (p * 16 + q) := by
  unfold okPut inP mayPut tkn
  rw [Int.toNat_natCast, Int.toNat_natCast, decide_eq_true (Int.natCast_nonneg p), decide_eq_true (show (p : Int) < 1024 by omega), decide_eq_true (Int.natCast_nonneg q),
    show (p * 16 + q) / 16 = p by omega, show (p * 16 + q) % 16 = q by omega, show decide ((q : Int) < (n : Int)) = decide (q < n) from decide_eq_decide.2 (by omega)]
  simp
def z8 : Array Value := Array.replicate 8 (.bool false)
def z128 : Array Value := Array.replicate 128 (.bool false)
theorem start {W w : World} {b n : Nat} (S : SK W b n gN fN w) (t1 t2 : TypeId) :
    OI W b n w.heap.size (w.heap.size + 1) gN fN ((w.alloc (.cells z8 t1)).alloc (.cells z128 t2)) := by
  have b1 : Below w.heap.size w (w.alloc (.cells z8 t1)) := (Below.refl _ _).alloc (Nat.le_refl _) _
  have s1 : (w.alloc (.cells z8 t1)).heap.size = w.heap.size + 1 := by simp
  have a1 : TrArr (w.alloc (.cells z8 t1)) w.heap.size 8 (fun _ => false) := TrArr.zero w 8 t1
  have b2 : Below (w.alloc (.cells z8 t1)).heap.size (w.alloc (.cells z8 t1)) ((w.alloc (.cells z8 t1)).alloc (.cells z128 t2)) := (Below.refl _ _).alloc (Nat.le_refl _) _
  have a2 : TrArr ((w.alloc (.cells z8 t1)).alloc (.cells z128 t2)) (w.alloc (.cells z8 t1)).heap.size 128 (fun _ => false) := TrArr.zero _ 128 t2
  rw [s1] at a2
  have h1 := S.k.lb
  have h2 := S.bl.size
  exact ⟨(S.grow b1).grow b2, a1.grow b2, a2.congr fun i _ => by simp [tkn, gN], fun p h => (by cases h), by omega⟩
set_option maxHeartbeats 8000000 in
theorem walkN (pr : Nat) (hpr : pr < 256) {H : Type} {enc : TypeId × Value → H} (v1 : Value) {d1 : DataW H} {p1 : List MemPlace} (W : World)
    (hv : Value.okWide Tryd.prog W .any 0 50 v1) (hd : DataW.Trod enc Tryd.prog W 0 (fun _ => true) true 50 v1 d1 p1) (hT : TabAt 0 Lib.deBruijn32tab W) :
    Calls Tryd.prog 4 #[.int .u8 pr, v1] W fun e w' => e = .returned (.bool true) ∧ Below W.heap.size W w' := by
  obtain ⟨A, len, cap, rfl, hcap, hm, hP⟩ := nums_of Tryd.underlying50 Tryd.underlying5 (by kernel_rfl) hv hd
  have hlen : len ≤ 9223372036854775807 := by unfold maxLen at hm; omega
  clear hv hd hm
  obtain ⟨n, hn⟩ : ∃ n, n = 1 + pr % 16 := ⟨_, rfl⟩
  have e1 : (pr : Int) % 16 = (n : Int) - 1 := by omega
  have e2 : 1 + ((n : Int) - 1) = (n : Int) := by omega
  have hn1 : 1 ≤ n ∧ n ≤ 16 := by omega
  have hn2 : (n : Int) ≤ 16 := by omega
  have hNew := Lib.hid (new_yes n W hn1)
  have hz1 : ∀ w, (zeroValue 51).run Tryd.prog w = .ok (.agg z8) w := fun w => by kernel_rfl
  have hz2 : ∀ w, (zeroValue 53).run Tryd.prog w = .ok (.agg z128) w := fun w => by kernel_rfl
  have hT' := Lib.hid hT
  replace hP := Lib.hid hP
  clear hT hn
  go_enter Tryd.func4, Tryd.ntmps4
  go_wp2_with fail
  refine hNew.out.mono ?_
  intro e w1 h
  obtain ⟨b, rfl, S1⟩ := SK.fresh h
  have S1 := Lib.hid S1
  clear h hNew
  go_upto_region 7 with (fail)
  have S0 := Lib.hid (start S1.out 51 53)
  generalize ((w1.alloc (.cells z8 51)).alloc (.cells z128 53)) = w4 at *
  generalize w1.heap.size + 1 = qb at *
  generalize w1.heap.size = qa at *
  clear S1 hz1 hz2
  go_wp2_with fail
  go_loopw [9, 10] (fun fv i wr => ∃ (k : Nat) (g : Nat → Bool) (f : Nat → Nat → Bool), fv = .int .i64 (tot f 1024 : Nat) ∧ i = .int .i64 k ∧ k ≤ len ∧ k ≤ 200 ∧ OI W b n qa qb g f wr) (fun _ i _ => 200 - (intOf i).toNat)
  case atStart => exact ⟨0, gN, fN, by rw [tot_zero (f := fN) (fun _ _ => rfl)]; rfl, rfl, by omega, by omega, S0.out⟩
  case round =>
    clear S0
    obtain ⟨k, g, f, rfl, rfl, hk, hk2, HI⟩ := hrel
    have hk3 : (k : Int) ≤ 200 := by omega
    replace HI := Lib.hid HI
    by_cases hlt : k < len ∧ k < 200
    · have j1 : (k : Int) < (len : Int) := by omega
      have j2 : (k : Int) < 200 := by omega
      obtain ⟨bl, off, rfl, hbl, x, hx, hwf⟩ := (hP.out.below HI.out.k.bl) k hlt.1
      have bx := bounds_u8 hwf
      obtain ⟨X, rfl⟩ := Int.eq_ofNat_of_zero_le bx.1
      obtain ⟨K, hK⟩ : ∃ K, K = X / 4 := ⟨_, rfl⟩
      obtain ⟨p, hp⟩ : ∃ p, p = K % 8 := ⟨_, rfl⟩
      obtain ⟨q, hq⟩ : ∃ q, q = K / 8 % 16 := ⟨_, rfl⟩
      have m1 : (X : Int) / 4 = (K : Int) := by omega
      obtain ⟨K8, hK8⟩ : ∃ K8, K8 = K / 8 := ⟨_, rfl⟩
      have p8 : (p : Int) < 8 := by omega
      have q16 : (q : Int) < 16 := by omega
      have hK64 : (K : Int) < 64 := by omega
      have hr : X % 4 = 0 ∨ X % 4 = 1 ∨ X % 4 = 2 ∨ X % 4 = 3 := by omega
      have hq8 : K8 = q := by omega
      have M := Lib.hid (show (K : Int).tmod 8 = (p : Int) ∧ (K : Int).tdiv 8 = (q : Int) ∧ (q : Int).tmod 16 = (q : Int) from ⟨by rw [Int.tmod_eq_emod_of_nonneg (Int.natCast_nonneg K)]; omega, by rw [Int.tdiv_eq_ediv_of_nonneg (Int.natCast_nonneg K)]; omega, by
        rw [Int.tmod_eq_emod_of_nonneg (Int.natCast_nonneg q)]; omega⟩)
      have hp8 : p < 8 := Int.ofNat_lt.1 p8
      have hq16 : q < 16 := Int.ofNat_lt.1 q16
      clear bx hwf hK hp hq hK8 hq8
      rcases hr with hr | hr | hr | hr
      · have m4 : (X : Int) % 4 = 0 := mod4 hr
        clear hr
        have hI1 := HI.out.grow (Below.refl wr.heap.size wr).drew
        cases hg : g p
        · have hA := Lib.hid ((add_yes hI1.k.k p (by rw [mayAdd_in (by omega), hg]; rfl)).mono fun e w' h => hI1.next h)
          have hz : ∀ s, f p s = false := fun s => by
            rcases hv : f p s with _ | _
            · rfl
            · rw [(HI.out.k.k.ok p s hv).1] at hg; cases hg
          have ht := Lib.hid (tot_add (n := 1024) (show p < 1024 by omega) hn1.2 hz)
          have hle := tot_le f 1024
          have s1 : IntKind.i64.wrap ((tot f 1024 : Nat) + (n : Int)) = ((tot f 1024 : Nat) + (n : Int)) := by rw [IntKind.wrap_i64]; omega
          have c0 : wr.cell? ⟨qa, p, none⟩ = some (.bool false) := hg ▸ (HI.out.a.cs p (by omega)).1
          have hG := Lib.hid hg
          have HD := Lib.hid (And.intro HI.out.g8 HI.out.d)
          clear hI1 hg HI hz
          have m2 := M.out.1
          go_wp2_with fail
          go_region_with (go_at_call 10; refine hA.out.mono ?_; rintro e w5 ⟨rfl, k1⟩; have hk := Lib.hid k1; have c0 : w5.cell? ⟨qa, p, none⟩ = some (.bool false) := hG.out ▸ (k1.a.cs p hp8).1; clear k1)
          all_goals (
            have f0 := (hk.out.a.cs p hp8).2
            have H6 := Lib.hid (show OI W b n qa qb (upd g p true) (updP f p (full n)) (w5.setCell ⟨qa, p, none⟩ (.bool true)) from
              ⟨hk.out.k.far HD.out.2.1 HD.out.2.2.2.2.1 _ _, hk.out.a.store hp8 true, (hk.out.t.far HD.out.2.2.2.1.symm _ _).congr fun j _ => tkn_add hG.out j,
                fun r hr => (by
                  by_cases e : r = p
                  · rw [e]; exact hp8
                  · rw [upd_ne g true e] at hr; exact HD.out.1 r hr), HD.out.2⟩)
            have hF := Lib.hid (free_yes H6.out.k.k ht.out)
            clear hk hA
            go_wp2_with fail
            refine hF.out.mono ?_
            intro e w7 h
            obtain ⟨rfl, H7⟩ := H6.out.same h
            replace H7 := Lib.hid H7
            clear h hF H6
            go_wp2_with fail
            clear m2
            go_roundw
            case rel => exact ⟨k + 1, _, _, by rw [ht.out]; go_num, by go_num, by omega, by omega, H7.out⟩
            case measure => simp [intOf]; omega)
        · have hA := Lib.hid ((add_no hI1.k.k (p : Int) (by rw [mayAdd_in (by omega), hg]; rfl)).mono fun e w' h => hI1.same h)
          have c0 : wr.cell? ⟨qa, p, none⟩ = some (.bool true) := hg ▸ (HI.out.a.cs p (by omega)).1
          have hle := tot_le f 1024
          have hG := Lib.hid hg
          clear hI1 hg HI
          have m2 := M.out.1
          go_wp2_with fail
          go_region_with (go_at_call 10; refine hA.out.mono ?_; rintro e w5 ⟨rfl, k1⟩; have hk := Lib.hid k1; have c0 : w5.cell? ⟨qa, p, none⟩ = some (.bool true) := hG.out ▸ (k1.a.cs p hp8).1; clear k1)
          all_goals (
            have hF := Lib.hid (free_yes hk.out.k.k rfl)
            clear hA
            go_wp2_with fail
            refine hF.out.mono ?_
            intro e w7 h
            obtain ⟨rfl, H7⟩ := hk.out.same h
            replace H7 := Lib.hid H7
            clear h hF hk
            go_wp2_with fail
            clear m2
            go_roundw
            case rel => exact ⟨k + 1, g, f, rfl, by go_num, by omega, by omega, H7.out⟩
            case measure => simp [intOf]; omega)
      · have m4 : (X : Int) % 4 = 1 := mod4 hr
        clear hr p8 q16 M hp8 hq16
        have hTk := Lib.hid (take_any HI.out.k.k (tab_grow hT'.out HI.out.k.bl))
        go_wp2_with fail
        refine hTk.out.mono ?_
        intro e w5 h
        rcases h with ⟨h0, rfl, hb⟩ | ⟨P, s, hL, hX⟩
        · have hz : tot f 1024 = 0 := tot_zero h0 1024
          have HI5 := Lib.hid (HI.out.grow hb)
          have hz' := Lib.hid hz
          rw [show ((tot f 1024 : Nat) : Int) = 0 from by omega]
          clear h0 hb hTk HI hz
          go_wp2_with fail
          go_roundw
          case rel => exact ⟨k + 1, g, f, by rw [hz'.out]; rfl, by go_num, by omega, by omega, HI5.out⟩
          case measure => simp [intOf]; omega
        · obtain ⟨rfl, HX⟩ := HI.out.next hX
          have hok := HI.out.k.k.ok P s hL.is
          have hg8 := HI.out.g8 P hok.1
          have hle := tot_le f 1024
          have htk := tot_take (n := 1024) (show P < 1024 by omega) (show s < 16 by omega) hL.is
          obtain ⟨T, hTT⟩ : ∃ T, T = tot (upd2 f P s false) 1024 := ⟨_, rfl⟩
          rw [← hTT] at htk
          rw [show ((tot f 1024 : Nat) : Int) = (T : Int) + 1 from by omega]
          have x0 : 0 < (T : Int) + 1 := by omega
          have x1 : (P : Int) < 8 := by omega
          have x2 : ¬ 7 < (P : Int) := by omega
          have x3 : (s : Int) < 16 := by omega
          have x4 : ¬ (n : Int) ≤ (s : Int) := by omega
          have x5 : ¬ n ≤ s := by omega
          have x6 : ¬ 7 < P := by omega
          have sT : (T : Int) ≤ 16384 := by omega
          have c0 : w5.cell? ⟨qa, P, none⟩ = some (.bool true) := hok.1 ▸ (HX.a.cs P (by omega)).1
          have c1 : w5.cell? ⟨qb, P * 16 + s, none⟩ = some (.bool false) := by
            have := (HX.t.cs (P * 16 + s) (by omega)).1
            rw [show tkn n g f (P * 16 + s) = false from by unfold tkn; rw [show (P * 16 + s) / 16 = P by omega, show (P * 16 + s) % 16 = s by omega, hL.is]; simp] at this
            exact this
          have f1 := (HX.t.cs (P * 16 + s) (by omega)).2
          have H6 := Lib.hid (show OI W b n qa qb g (upd2 f P s false) (w5.setCell ⟨qb, P * 16 + s, none⟩ (.bool true)) from
            ⟨HX.k.far HI.out.d.2.1 HI.out.d.2.2.2.2 _ _, HX.a.far HI.out.d.2.2.1 _ _, (HX.t.store (by omega) true).congr fun j _ => tkn_take hok.1 hok.2 hn1.2 hL.is j, HI.out.g8, HI.out.d⟩)
          have hF := Lib.hid (free_yes H6.out.k.k hTT.symm)
          have hTT' := Lib.hid hTT
          clear hX HX hok hg8 hle htk hTT hTk HI hL
          go_wp2_with fail
          refine hF.out.mono ?_
          intro e w7 h
          obtain ⟨rfl, H7⟩ := H6.out.same h
          replace H7 := Lib.hid H7
          clear h hF H6
          go_wp2_with fail
          go_roundw
          case rel => exact ⟨k + 1, g, upd2 f P s false, congrArg (fun x : Nat => Value.int .i64 (x : Int)) hTT'.out, by go_num, by omega, by omega, H7.out⟩
          case measure => simp [intOf]; omega
      · have m4 : (X : Int) % 4 = 2 := mod4 hr
        clear hr p8 q16 M hp8 hq16
        have hTk := Lib.hid (take_any HI.out.k.k (tab_grow hT'.out HI.out.k.bl))
        go_wp2_with fail
        refine hTk.out.mono ?_
        intro e w5 h
        rcases h with ⟨h0, rfl, hb⟩ | ⟨P, s, hL, hX⟩
        · have hz : tot f 1024 = 0 := tot_zero h0 1024
          have HI5 := Lib.hid (HI.out.grow hb)
          have hz' := Lib.hid hz
          rw [show ((tot f 1024 : Nat) : Int) = 0 from by omega]
          clear h0 hb hTk HI hz
          go_wp2_with fail
          go_roundw
          case rel => exact ⟨k + 1, g, f, by rw [hz'.out]; rfl, by go_num, by omega, by omega, HI5.out⟩
          case measure => simp [intOf]; omega
        · obtain ⟨rfl, HX⟩ := HI.out.next hX
          have hok := HI.out.k.k.ok P s hL.is
          have hg8 := HI.out.g8 P hok.1
          have hle := tot_le f 1024
          have htk := tot_take (n := 1024) (show P < 1024 by omega) (show s < 16 by omega) hL.is
          obtain ⟨T, hTT⟩ : ∃ T, T = tot (upd2 f P s false) 1024 := ⟨_, rfl⟩
          rw [← hTT] at htk
          rw [show ((tot f 1024 : Nat) : Int) = (T : Int) + 1 from by omega]
          have x0 : 0 < (T : Int) + 1 := by omega
          have x1 : (P : Int) < 8 := by omega
          have x2 : ¬ 7 < (P : Int) := by omega
          have x3 : (s : Int) < 16 := by omega
          have x4 : ¬ (n : Int) ≤ (s : Int) := by omega
          have x5 : ¬ n ≤ s := by omega
          have x6 : ¬ 7 < P := by omega
          have sT : (T : Int) ≤ 16384 := by omega
          have c0 : w5.cell? ⟨qa, P, none⟩ = some (.bool true) := hok.1 ▸ (HX.a.cs P (by omega)).1
          have c1 : w5.cell? ⟨qb, P * 16 + s, none⟩ = some (.bool false) := by
            have := (HX.t.cs (P * 16 + s) (by omega)).1
            rw [show tkn n g f (P * 16 + s) = false from by unfold tkn; rw [show (P * 16 + s) / 16 = P by omega, show (P * 16 + s) % 16 = s by omega, hL.is]; simp] at this
            exact this
          have f1 := (HX.t.cs (P * 16 + s) (by omega)).2
          have H6 := Lib.hid (show OI W b n qa qb g (upd2 f P s false) (w5.setCell ⟨qb, P * 16 + s, none⟩ (.bool true)) from
            ⟨HX.k.far HI.out.d.2.1 HI.out.d.2.2.2.2 _ _, HX.a.far HI.out.d.2.2.1 _ _, (HX.t.store (by omega) true).congr fun j _ => tkn_take hok.1 hok.2 hn1.2 hL.is j, HI.out.g8, HI.out.d⟩)
          have hF := Lib.hid (free_yes H6.out.k.k hTT.symm)
          have hTT' := Lib.hid hTT
          clear hX HX hok hg8 hle htk hTT hTk HI hL
          go_wp2_with fail
          refine hF.out.mono ?_
          intro e w7 h
          obtain ⟨rfl, H7⟩ := H6.out.same h
          replace H7 := Lib.hid H7
          clear h hF H6
          go_wp2_with fail
          go_roundw
          case rel => exact ⟨k + 1, g, upd2 f P s false, congrArg (fun x : Nat => Value.int .i64 (x : Int)) hTT'.out, by go_num, by omega, by omega, H7.out⟩
          case measure => simp [intOf]; omega
      · have m4 : (X : Int) % 4 = 3 := mod4 hr
        have hI1 := HI.out.grow (Below.refl wr.heap.size wr).drew
        have hle := tot_le f 1024
        have hpq : p < 8 ∧ q < 16 := ⟨hp8, hq16⟩
        have hix : p * 16 + q < 128 := by omega
        clear hr
        cases hg : tkn n g f (p * 16 + q)
        · have hA := Lib.hid ((put_no hI1.k.k (p : Int) (q : Int) (by rw [okPut_in (by omega) hpq.2, hg])).mono fun e w' h => hI1.same h)
          have c0 : wr.cell? ⟨qb, p * 16 + q, none⟩ = some (.bool false) := hg ▸ (HI.out.t.cs (p * 16 + q) (by omega)).1
          have hG := Lib.hid hg
          clear hI1 hg HI
          obtain ⟨m2, m3, m7⟩ := M.out
          go_wp2_with fail
          go_region_with (go_at_call 14; refine hA.out.mono ?_; rintro e w5 ⟨rfl, k1⟩; have hk := Lib.hid k1; have c0 : w5.cell? ⟨qb, p * 16 + q, none⟩ = some (.bool false) := hG.out ▸ (k1.t.cs (p * 16 + q) hix).1; clear k1)
          all_goals (
            clear m2 m3 m7
            have hF := Lib.hid (free_yes hk.out.k.k rfl)
            clear hA
            go_wp2_with fail
            refine hF.out.mono ?_
            intro e w7 h
            obtain ⟨rfl, H7⟩ := hk.out.same h
            replace H7 := Lib.hid H7
            clear h hF hk
            go_wp2_with fail
            go_roundw
            case rel => exact ⟨k + 1, g, f, rfl, by go_num, by omega, by omega, H7.out⟩
            case measure => simp [intOf]; omega)
        · have hA := Lib.hid ((put_yes hI1.k.k p q (by rw [okPut_in (by omega) hpq.2, hg])).mono fun e w' h => hI1.next h)
          have c0 : wr.cell? ⟨qb, p * 16 + q, none⟩ = some (.bool true) := hg ▸ (HI.out.t.cs (p * 16 + q) (by omega)).1
          have hfr : f p q = false := by
            unfold tkn at hg
            rw [show (p * 16 + q) / 16 = p by omega, show (p * 16 + q) % 16 = q by omega] at hg
            simp only [Bool.and_eq_true, Bool.not_eq_true'] at hg
            exact hg.2
          have ht := Lib.hid (tot_put (n := 1024) (show p < 1024 by omega) hpq.2 hfr)
          have hG := Lib.hid hg
          have HD := Lib.hid (And.intro HI.out.g8 HI.out.d)
          clear hI1 hg HI hfr
          obtain ⟨m2, m3, m7⟩ := M.out
          go_wp2_with fail
          go_region_with (go_at_call 14; refine hA.out.mono ?_; rintro e w5 ⟨rfl, k1⟩; have hk := Lib.hid k1; have c0 : w5.cell? ⟨qb, p * 16 + q, none⟩ = some (.bool true) := hG.out ▸ (k1.t.cs (p * 16 + q) hix).1; clear k1)
          all_goals (
            clear m2 m3 m7
            have f0 := (hk.out.t.cs (p * 16 + q) (by omega)).2
            have s1 : IntKind.i64.wrap ((tot f 1024 : Nat) + (1 : Int)) = ((tot f 1024 : Nat) + (1 : Int)) := by rw [IntKind.wrap_i64]; omega
            have H6 := Lib.hid (show OI W b n qa qb g (upd2 f p q true) (w5.setCell ⟨qb, p * 16 + q, none⟩ (.bool false)) from
              ⟨hk.out.k.far HD.out.2.2.1 HD.out.2.2.2.2.2 _ _, hk.out.a.far HD.out.2.2.2.1 _ _, (hk.out.t.store (by omega) false).congr fun j _ => tkn_put hpq.2 j, HD.out.1, HD.out.2⟩)
            have hF := Lib.hid (free_yes H6.out.k.k ht.out)
            clear hk hA
            go_wp2_with fail
            refine hF.out.mono ?_
            intro e w7 h
            obtain ⟨rfl, H7⟩ := H6.out.same h
            replace H7 := Lib.hid H7
            clear h hF H6
            go_wp2_with fail
            go_roundw
            case rel => exact ⟨k + 1, _, _, by rw [ht.out]; go_num, by go_num, by omega, by omega, H7.out⟩
            case measure => simp [intOf]; omega)
    · have hB := Lib.hid HI.out.k.bl
      have hWk := Lib.hid (fun w' h => works_any w' (tab_grow hT'.out h))
      clear HI
      have hF : ∀ w', Below W.heap.size W w' → Calls Tryd.prog 9 #[] w' fun e w2 => e = .returned (.bool true) ∧ Below W.heap.size W w2 := fun w' h => (works_any w' (tab_grow hT'.out h)).mono fun e w2 k => ⟨k.1, h.trans (k.2.mono h.size)⟩
      replace hF := Lib.hid hF
      rcases Nat.lt_or_ge k len with h1 | h1
      · have j1 : (k : Int) < (len : Int) := by omega
        have j2 : ¬ (k : Int) < 200 := by omega
        go_wp2_with fail
        refine (hF.out _ hB.out).mono ?_
        rintro e w9 ⟨rfl, hb9⟩
        replace hb9 := Lib.hid hb9
        go_wp2
        go_ret
        exact ⟨rfl, hb9.out⟩
      · have j1 : ¬ (k : Int) < (len : Int) := by omega
        go_wp2_with fail
        refine (hF.out _ hB.out).mono ?_
        rintro e w9 ⟨rfl, hb9⟩
        replace hb9 := Lib.hid hb9
        go_wp2
        go_ret
        exact ⟨rfl, hb9.out⟩
theorem walk (pr : Int) (wpr : (Lit.int .u8 pr).wf = true) {H : Type} {enc : TypeId × Value → H} (v1 : Value) {d1 : DataW H} {p1 : List MemPlace} (W : World)
    (hv : Value.okWide Tryd.prog W .any 0 50 v1) (hd : DataW.Trod enc Tryd.prog W 0 (fun _ => true) true 50 v1 d1 p1) (hT : TabAt 0 Lib.deBruijn32tab W) :
    Calls Tryd.prog 4 #[.int .u8 pr, v1] W fun e w' => e = .returned (.bool true) ∧ Below W.heap.size W w' := by
  have b1 := bounds_u8 wpr
  obtain ⟨pr, rfl⟩ := Int.eq_ofNat_of_zero_le b1.1
  exact walkN pr (by omega) v1 W hv hd hT
set_option maxRecDepth 100000 in
theorem lifted (os : Os) (started : os.Started) (H : Type) (enc : TypeId × Value → H) :
    ReturnsInHanded {} Tryd.checked os 4 .any (fun w args => (Rows.slotsOnceSpec.pre enc Tryd.prog Tryd.f4 [] false w args ∧ laidMetH Tryd.prog Rows.slotsOnceRow.laid w) ∧ sizedMet enc Tryd.prog Tryd.f4 (OpenSpec.ofChange Rows.slotsOnceSpec) false w args) (Rows.slotsOnceSpec.post enc Tryd.prog Tryd.f4 false true false false) := by
  refine returnsInHanded_of_change_and (C := Tryd.checked) (X := fun w _ => laidMetH Tryd.prog Rows.slotsOnceRow.laid w) (fun _ _ _ hh h => h.of_heap hh) own started (by kernel_rfl) Tryd.func4
    (ChangeSpec.witness_at (enc := enc) (C := Tryd.checked) (os := os) (X := fun w _ => laidMetH Tryd.prog Rows.slotsOnceRow.laid w) false (laidWorld os) #[.int .u8 0, .slice none 0 0] 8 rfl (by kernel_rfl) (by kernel_rfl) (by kernel_rfl) (by kernel_rfl) (by kernel_rfl) (laid_met os _)) ?_
  intro W base args ds gs before hval0 hW _ _ hL _
  have hval : ∀ (j : Nat) t v, Tryd.f4.params[j]? = some t → args[j]? = some v → Value.okWide Tryd.prog W .any base t v := hval0
  have hW' := hW
  obtain ⟨p, q, hA0, hV, rfl, hfz, hnd⟩ := hW
  have hA : DataW.TrodAll enc Tryd.prog W 0 (fun _ => true) true Tryd.f4.params.toList args.toList ds p := hA0
  rw [Tryd.params4] at hA hval
  obtain ⟨v0, vs0, d0, ds0, p0, q0, hargs, rfl, rfl, h0, r0⟩ := trodAll_cons hA
  obtain ⟨v1, vs1, d1, ds1, p1, q1, rfl, rfl, rfl, h1, r1⟩ := trodAll_cons r0
  obtain ⟨rfl, rfl, rfl⟩ := trodAll_nil r1
  obtain rfl : args = #[v0, v1] := by cases args; simp_all
  obtain ⟨rfl, rfl⟩ := trodVars_none hV
  have k0 := h0
  have lt0 : ∀ x ∈ p0, x.block < W.heap.size := by obtain ⟨m, hm⟩ := k0; exact DataW.trod_lt m _ _ _ hm
  have k1 := h1
  have lt1 : ∀ x ∈ p1, x.block < W.heap.size := by obtain ⟨m, hm⟩ := k1; exact DataW.trod_lt m _ _ _ hm
  obtain ⟨per, rfl, rfl, rfl, wper⟩ := open_int Tryd.underlying5 (hval 0 5 v0 rfl rfl) h0
  clear hA0 hval0
  refine (walk per wper v1 W (hval 1 50 v1 rfl rfl) k1 (tabs_of_laid hL)).mono fun e W' ⟨he, bel⟩ => ?_
  subst he
  exact ⟨_, rfl, _, _, _, [], _, [], hW', trodAll_mk1 (shut_bool Tryd.underlying4 _), (trodAll_cons_mk (Below.trod laidOut (by kernel_rfl) (of_decide_eq_true (by kernel_rfl)) k0 bel lt0) (trodAll_cons_mk (Below.trod laidOut (by kernel_rfl) (of_decide_eq_true (by kernel_rfl)) k1 bel lt1) trodAll_mk0)), rfl, bel.frame _, fun h => by cases h⟩
theorem over : Rows.SlotsOnceSaid :=
  OpenClaim.holds_of_wide 4 Tryd.f4 rfl rfl rfl rfl rfl rfl rfl ⟨rfl, rfl, rfl, rfl, rfl⟩ rfl rfl rfl rfl rfl (by kernel_rfl) Tryd.func4 (by kernel_rfl)
    (of_decide_eq_true (by kernel_rfl)) (by unfold Func.isWrapper; first | (rw [if_pos (by decide +kernel)]; kernel_rfl) | (rw [if_neg (by decide +kernel)]; exact ⟨rfl, rfl⟩))
    (fun os started H enc _ => lifted os started H enc)
/-- The given statement. -/
theorem proved : Rows.SlotsOnceCardSaid :=
  Claim7.holds_tied_plain_at .later [] [.data] true (true, "fbfa39f87344ef7d9078c9c525e3ce029ec122fbba40f77485a2ad5596f726c3") false
    over (fun _ h => by cases h) (by kernel_rfl) (fun _ h => by cases h) slotsOnce_row_tie rfl ⟨rfl, rfl⟩ (by kernel_rfl) rfl
    (fun f fn hf hfn => by
      obtain rfl : f = 4 := Option.some.inj ((show Tryd.prog.funcNamed "fallow/fallowlaw13.SlotsOnce" = some 4 by kernel_rfl).symm.trans hf) |>.symm
      obtain rfl : fn = Tryd.f4 := (Option.some.inj (Tryd.func4.symm.trans hfn)).symm
      exact ⟨by kernel_rfl, fun j t ht => by
        rw [Tryd.params4] at ht
        rcases j with _ | _ | j
        · obtain rfl : t = 5 := by simpa using ht.symm
          exact (show Tryd.prog.wantsStandIn 5 = false by kernel_rfl)
        · obtain rfl : t = 50 := by simpa using ht.symm
          exact (show Tryd.prog.wantsStandIn 50 = false by kernel_rfl)
        · simp at ht⟩)
    (by kernel_rfl)
end Go.Proofs.YtkkjjdnlfdempaaDoor.sonce
