/- The laws' own held (layer core): all valid capabilities of an arena. No statement is proved here. -/
import Derived.Test.YtkmgdfcambdeeaaGreatDoorPCAlP
import Derived.Deep.LoopGhost
import Derived.Deep.DeepAppendWide
namespace Go.Proofs.YtkmgdfcambdeeaaGreatDoor
set_option maxRecDepth 100000
open Go.RowKit
set_option linter.unusedVariables false
/-- The capabilities in the first k granules that are tagged. -/
def helM (f : Nat → Bool) (l : List UInt8) (k : Nat) : List Cp := (tgl f 0 k).map (ldC l f)
theorem helM_add (f : Nat → Bool) (l : List UInt8) (a k : Nat) : helM f l (a + k) = helM f l a ++ (tgl f a k).map (ldC l f) := by
  unfold helM
  rw [tgl_add, List.map_append, Nat.zero_add]
theorem helM_len (f : Nat → Bool) (l : List UInt8) (k : Nat) : (helM f l k).length ≤ k := by
  unfold helM
  rw [List.length_map]
  exact tgl_len f 0 k
theorem tgl_at {f : Nat → Bool} {a x : Nat} : ∀ {k : Nat}, x ∈ tgl f a k → ∃ j, j < k ∧ x = 16 * (a + j) ∧ f (a + j) = true
  | 0, h => by simp [tgl] at h
  | k + 1, h => by
    rw [tgl] at h
    rcases List.mem_append.1 h with h | h
    · obtain ⟨j, h1, h2, h3⟩ := tgl_at h
      exact ⟨j, by omega, h2, h3⟩
    · split at h
      · rename_i hf
        exact ⟨k, by omega, by simpa using h, hf⟩
      · simp at h
theorem tgl_in {f : Nat → Bool} {a j : Nat} (hf : f (a + j) = true) : ∀ {k : Nat}, j < k → 16 * (a + j) ∈ tgl f a k
  | 0, h => absurd h (by omega)
  | k + 1, h => by
    rw [tgl]
    rcases Nat.lt_or_ge j k with h1 | h1
    · exact List.mem_append_left _ (tgl_in hf h1)
    · obtain rfl : j = k := by omega
      rw [if_pos hf]
      exact List.mem_append_right _ (by simp)
theorem fC_one' (M : List Cp) (c : Cp) : fC (M ++ [c]) = fC M ++ c.C := by
  rw [fC_append, fC, fC, List.append_nil]
theorem owns_ne {w : World} {b1 b2 s1 s2 n1 n2 : Nat} {e1 e2 : TypeId} {v1 v2 : Value} {x1 x2 : List Value} (h1 : w.ownsRow b1 e1 s1 v1 n1 x1) (h2 : w.ownsRow b2 e2 s2 v2 n2 x2) (hne : e1 ≠ e2) : v1.ownBlock = none ∨ v1.ownBlock ≠ v2.ownBlock := by
  rcases h1.2 with ⟨rfl, _⟩ | ⟨g, cap, cur, rfl, _, hg, _⟩
  · exact .inl rfl
  · refine .inr fun k => ?_
    rcases h2.2 with ⟨rfl, _⟩ | ⟨g2, cap2, cur2, rfl, _, hg2, _⟩
    · cases k
    · simp only [Value.ownBlock, Option.some.injEq] at k
      subst k
      rw [hg] at hg2
      injection hg2 with hg2
      injection hg2 with _ h3 _
      exact hne h3
theorem own_bel {w w' : World} {b s n : Nat} {e : TypeId} {v : Value} {xs : List Value} (h : w.ownsRow b e s v n xs) (k : Below w.heap.size w w') : w'.ownsRow b e s v n xs := by
  refine ⟨h.1, ?_⟩
  rcases h.2 with ⟨rfl, h0⟩ | ⟨g, cap, cur, rfl, hb, hg, r⟩
  · exact .inl ⟨rfl, h0⟩
  · exact .inr ⟨g, cap, cur, rfl, hb, (k.block g (Array.getElem?_eq_some_iff.1 hg).1).trans hg, r⟩
theorem infoC : (Tryz.prog.info? 25).map (fun i => (i.zero, i.size, i.bytes)) = some (some zC.V, 8, 24) := by kernel_rfl
set_option maxHeartbeats 8000000 in
theorem held_any {w : World} {a mb wb bb c : Nat} {f : Nat → Bool} {l : List UInt8} (H : ArAt w a mb wb bb c 4096 256 f l) :
    Calls Tryz.prog 21 #[.pointer (some ⟨a, 0, none⟩)] w fun e w' => ∃ v, e = .returned v ∧ w'.ownsRow w.heap.size 25 8 v (helM f l 256).length (fC (helM f l 256)) ∧ Below w.heap.size w w' := by
  obtain ⟨ti, hi, hz0, hz1, hz2⟩ := info_parts infoC
  have hA := Lib.hid H
  clear H
  go_enter Tryz.func21, Tryz.ntmps21
  go_wp2_with fail
  go_loopw [3, 4] (fun v p wr => ∃ j : Nat, j ≤ 16 ∧ p = .int .i64 (j : Int) ∧ Hid (wr.ownsRow w.heap.size 25 8 v (helM f l (16 * j)).length (fC (helM f l (16 * j))) ∧ Below w.heap.size w wr)) (fun _ p _ => 17 - (intOf p).toNat)
  case atStart => exact ⟨0, by omega, rfl, Lib.hid ⟨World.ownsRow_nil _ _ _ _, Below.refl _ _⟩⟩
  case round =>
    obtain ⟨j, hj, rfl, hI⟩ := hrel
    have B1 := Lib.hid hI.out.2
    have O1 := Lib.hid hI.out.1
    clear hI
    go_wp2_with fail
    refine (asize_any (hA.out.below B1.out)).mono ?_
    rintro e w2 ⟨rfl, k⟩
    have hk2 := k
    have B2 := Lib.hid (B1.out.trans (k.mono B1.out.size))
    have O2 := Lib.hid (own_bel O1.out k)
    clear k hk2 B1 O1
    have e16 : ((4096 : Nat) : Int) / 256 = 16 := by decide
    have e17 : (((4096 : Nat) : Int)).tdiv 256 = 16 := by decide
    by_cases hlt : j < 16
    · have jl : (j : Int) < 16 := by omega
      go_wp2_with fail
      refine (atag_any (hA.out.below B2.out) (by decide) (j : Int) (by omega)).mono ?_
      intro e w5 hL
      obtain ⟨vl, rfl, ol, kb⟩ := hL
      rw [tgP_page (by omega)] at ol
      have B5 := Lib.hid (B2.out.trans (kb.mono B2.out.size))
      have O5 := Lib.hid (own_bel O2.out kb)
      have L5 := Lib.hid ol
      clear kb ol B2 O2
      obtain ⟨lst, hlst⟩ : ∃ lst, lst = tgl f (16 * j) 16 := ⟨_, rfl⟩
      have hst := Lib.hid (show helM f l (16 * (j + 1)) = helM f l (16 * j) ++ lst.map (ldC l f) from by rw [hlst, show 16 * (j + 1) = 16 * j + 16 by omega]; exact helM_add f l (16 * j) 16)
      have hmem := Lib.hid (fun x (h : x ∈ lst) => (show ∃ y, x = 16 * y ∧ 16 * y + 16 ≤ 4096 from by
        rw [hlst] at h
        obtain ⟨i, h1, h2, _⟩ := tgl_at h
        exact ⟨16 * j + i, h2, by omega⟩))
      have hll : lst.length ≤ 16 := by rw [hlst]; exact tgl_len f (16 * j) 16
      have hMl := Lib.hid (helM_len f l (16 * j))
      rw [← hlst] at L5
      generalize helM f l (16 * j) = M at *
      clear hlst
      have hvl : ∃ A cp, vl = .slice A lst.length cp := by
        rcases L5.out.2 with ⟨e, h0⟩ | ⟨g, cap, cur, e, _⟩
        · exact ⟨none, 0, by rw [e, h0]⟩
        · exact ⟨_, _, e⟩
      obtain ⟨Al, cp, rfl⟩ := hvl
      obtain ⟨ln, hln⟩ : ∃ ln, ln = lst.length := ⟨_, rfl⟩
      rw [← hln] at L5 hll ⊢
      have hln' := Lib.hid hln
      have jll : (ln : Int) ≤ 16 := by omega
      clear hln
      go_wp2_with fail
      go_loopw [3, 6] (fun v i wy => ∃ k : Nat, k ≤ ln ∧ i = .int .i64 k ∧ Hid (wy.ownsRow w.heap.size 25 8 v (M ++ (lst.take k).map (ldC l f)).length (fC (M ++ (lst.take k).map (ldC l f))) ∧ wy.ownsRow w2.heap.size 22 1 (.slice Al ln cp) ln (lst.map u32v) ∧ Below w.heap.size w wy)) (fun _ i _ => ln - (intOf i).toNat)
      case atStart => exact ⟨0, by omega, rfl, Lib.hid ⟨by simpa using O5.out, L5.out, B5.out⟩⟩
      case round =>
        obtain ⟨k, hk, rfl, hJ⟩ := hrel
        have O6 := Lib.hid hJ.out.1
        have L6 := Lib.hid hJ.out.2.1
        have B6 := Lib.hid hJ.out.2.2
        clear hJ B5 O5 L5
        have jk : (k : Int) ≤ ln := by omega
        by_cases hkl : k < ln
        · have jkl : (k : Int) < ln := by omega
          have hk2 : k < lst.length := by have := hln'.out; omega
          have hq : ∃ q, Al = some ⟨q, 0, none⟩ ∧ wr.cell? ⟨q, k, none⟩ = some (u32v lst[k]) := by
            have L6' := L6.out
            rcases L6'.2 with ⟨e, h0⟩ | ⟨g, cap, cur, e, _⟩
            · omega
            · obtain ⟨rfl, _⟩ : Al = some ⟨g, 0, none⟩ ∧ cp = cap := by injection e with e1 e2 e3; exact ⟨e1, e3⟩
              have := L6'.cells (g := g) rfl k (u32v lst[k]) (by rw [List.getElem?_map, List.getElem?_eq_getElem hk2]; rfl)
              rw [Addr.add_lit, Nat.zero_add] at this
              exact ⟨g, rfl, this⟩
          obtain ⟨q, rfl, hcl⟩ := hq
          obtain ⟨x, hx⟩ : ∃ x, x = lst[k] := ⟨_, rfl⟩
          have htk := Lib.hid (show lst.take (k + 1) = lst.take k ++ [x] from by rw [hx, List.take_succ_eq_append_getElem hk2])
          obtain ⟨y, hy1, hy2⟩ := hmem.out x (by rw [hx]; exact List.getElem_mem hk2)
          rw [← hx] at hcl
          unfold u32v at hcl
          have lx : x < 4294967296 := by omega
          have hgr : grn 4096 x = true := by
            unfold grn thr
            simp only [Bool.and_eq_true, decide_eq_true_eq]
            omega
          have hLc := Lib.hid (alcap_cp (hA.out.below B6.out) x lx hgr)
          obtain ⟨cc, hcc⟩ : ∃ cc, cc = ldC l f x := ⟨_, rfl⟩
          rw [← hcc] at hLc
          obtain ⟨cu, e0, b, t, pm, ty, rs, va⟩ := cc
          unfold Cp.V Cp.C cv at hLc
          have hcc' := Lib.hid hcc
          clear hcc hx hy1 hy2 lx hgr hk2
          go_wp2_with fail
          refine hLc.out.mono ?_
          rintro e w7 ⟨rfl, kb⟩
          have O7 := own_bel O6.out kb
          have L7 := own_bel L6.out kb
          have B7 := B6.out.trans (kb.mono B6.out.size)
          have ba := (Below.refl w7.heap.size w7).alloc (Nat.le_refl _) (.cells (Cp.C ⟨cu, e0, b, t, pm, ty, rs, va⟩).toArray 25)
          have k8 := Lib.hid ((KR.start (W := w7)).push (Cp.C ⟨cu, e0, b, t, pm, ty, rs, va⟩) 25)
          have O8 := Lib.hid (own_bel O7 ba)
          have L8 := Lib.hid (own_bel L7 ba)
          have B8 := Lib.hid (B7.trans (ba.mono B7.size))
          clear kb O7 L7 B7 ba O6 L6 B6 hLc hcl
          go_upto_region 11 with (fail)
          change Code.wp _ _ _ _ (w7.alloc (.cells (Cp.C ⟨cu, e0, b, t, pm, ty, rs, va⟩).toArray 25))
          generalize (w7.alloc (.cells (Cp.C ⟨cu, e0, b, t, pm, ty, rs, va⟩).toArray 25)) = w8 at k8 O8 L8 B8 ⊢
          obtain ⟨p0, p1, p2, p3, p4, p5, p6, p7⟩ := k8.out.cap (g := w7.heap.size) (cu := cu) (e := e0) (b := b) (t := t) (pm := pm) (ty := ty) (rs := rs) (va := va) (List.mem_cons_self ..)
          have hlen := Lib.hid (show (M ++ (lst.take k).map (ldC l f)).length ≤ 272 from by
            rw [List.length_append, List.length_map, List.length_take]
            have := hMl.out
            omega)
          have hfc := Lib.hid (show fC (M ++ (lst.take (k + 1)).map (ldC l f)) = fC (M ++ (lst.take k).map (ldC l f)) ++ (Cp.C ⟨cu, e0, b, t, pm, ty, rs, va⟩) ∧ (M ++ (lst.take (k + 1)).map (ldC l f)).length = (M ++ (lst.take k).map (ldC l f)).length + 1 from by
            rw [htk.out, List.map_append, List.map_cons, List.map_nil, ← hcc'.out, ← List.append_assoc]
            exact ⟨fC_one' _ _, by rw [List.length_append]; rfl⟩)
          have ne := Lib.hid (owns_ne L8.out O8.out (by decide))
          obtain ⟨N2, hN2⟩ : ∃ N, N = M ++ (lst.take (k + 1)).map (ldC l f) := ⟨_, rfl⟩
          rw [← hN2] at hfc
          replace hN2 := Lib.hid hN2
          generalize M ++ (lst.take k).map (ldC l f) = N1 at hlen hfc O8
          go_wp2_with (at_builtin; refine wpList_append_own_wide _ rfl _ _ 51 rfl w.heap.size 25 ti zC.V 8 24 Tryz.underlying51 hi hz0 hz1 hz2 rfl (by decide) _ _ _ rfl (own_bel O8.out ((Below.refl w8.heap.size w8).alloc (Nat.le_refl _) _)) ⟨w8.heap.size, 0, none⟩ 1 1 (Cp.C ⟨cu, e0, b, t, pm, ty, rs, va⟩) rfl rfl ?c1 ?c2 ?c3 ?c4 ?c5 ?_)
          case c1 =>
            intro i u hu
            rw [Addr.add_lit, Nat.zero_add, World.cell?_alloc_at (hn := rfl)]
            simpa [Cp.C, cv] using hu
          case c2 =>
            intro u hu
            exact fC_one [_] u (by simpa [fC] using hu)
          case c3 => have := hlen.out; unfold maxLen; omega
          case c4 => have := hlen.out; omega
          case c5 => have := B8.out.size; simp; omega
          · intro v' w9 hown hgrow _
            have L9 := Lib.hid ((own_bel L8.out ((Below.refl w8.heap.size w8).alloc (Nat.le_refl _) _)).kept hgrow ne.out)
            have B9 := Lib.hid (below_own (B8.out.alloc B8.out.size _) hgrow (fun g hg => (O8.out.lt g hg).1) (by have := B8.out.size; simp; omega))
            have O9 := Lib.hid (show w9.ownsRow w.heap.size 25 8 v' N2.length (fC N2) from by rw [hfc.out.1, hfc.out.2]; exact hown)
            clear hown hgrow
            go_wp2
            go_roundw
            case rel => exact ⟨k + 1, by omega, by go_num, Lib.hid ⟨by rw [← hN2.out]; exact O9.out, L9.out, B9.out⟩⟩
            case measure => simp [intOf]; omega
        · obtain rfl : k = ln := by omega
          have hM2 := Lib.hid (show helM f l (16 * (j + 1)) = M ++ (lst.take k).map (ldC l f) from by rw [hst.out, List.take_of_length_le (by have := hln'.out; omega)])
          go_wp2_with fail
          go_roundw
          case rel => exact ⟨j + 1, by omega, by go_num, Lib.hid ⟨by rw [hM2.out]; exact O6.out, B6.out⟩⟩
          case measure => simp [intOf]; omega
    · obtain rfl : j = 16 := by omega
      go_wp2_with fail
      go_ret
      exact ⟨_, rfl, O2.out, B2.out⟩
end Go.Proofs.YtkmgdfcambdeeaaGreatDoor
