/- The program's Assemble. No statement is proved here. -/
import Derived.Test.YtdkggahkfheocaaGreatDoorAsL
import Derived.Test.YtdkggahkfheocaaGreatDoorAsY
namespace Go.Proofs.YtdkggahkfheocaaGreatDoor
set_option maxRecDepth 100000
open Go.RowKit Go.Lib
set_option linter.unusedVariables false

def AsmPost (W : World) (R : Except (Int × Nat) (List Int)) (e : Ending) (w' : World) : Prop := match R with
  | .error (c, n) => ∃ g, e = .returned (.tuple #[.slice none 0 0, .iface 36 (.pointer (some ⟨g, 0, none⟩))]) ∧ w'.heap[g]? = some (.cells #[.int .i64 c, .int .i64 (n : Int)] 54 (0, 0)) ∧ W.heap.size ≤ g ∧ Below W.heap.size W w'
  | .ok ws => ∃ v, e = .returned (.tuple #[v, .nilIface]) ∧ w'.ownsRow W.heap.size 24 1 v ws.length (ws.map wV) ∧ Below W.heap.size W w' ∧ W32 ws ∧ ws.length ≤ 4096
theorem take_fn : ∀ args w, (callFunc 42 args).run Tryz.prog w = .ok (.enter 42 args) w := fun args w => by kernel_rfl
theorem words_ok {st : AS} {k : Nat} (h : st.Ok k) : W32 st.words := fun x hx => by
  obtain ⟨y, hy, rfl⟩ := List.mem_map.1 hx
  exact (h.i y hy).1
theorem jumps_mem : ∀ (l : List (Int × List UInt8 × Nat)) (k : Nat) (x : Nat × Nat × List UInt8), x ∈ jumpsFrom k l → ∃ y, y ∈ l ∧ y.2.2 = x.1 ∧ y.2.1 = x.2.2
  | [], _, _, h => by cases h
  | (w, lab, a) :: r, k, x, h => by
    simp only [jumpsFrom] at h
    split at h
    · obtain ⟨y, hy, e⟩ := jumps_mem r (k + 1) x h
      exact ⟨y, List.mem_cons_of_mem _ hy, e⟩
    · rcases List.mem_cons.1 h with rfl | h
      · exact ⟨_, List.mem_cons_self .., rfl, rfl⟩
      · obtain ⟨y, hy, e⟩ := jumps_mem r (k + 1) x h
        exact ⟨y, List.mem_cons_of_mem _ hy, e⟩
theorem flat3 : ∀ (js : List (Nat × Nat × List UInt8)) (q : Nat) (x : Nat × Nat × List UInt8), js[q]? = some x → (js.flatMap jV)[3 * q]? = some (.int .i64 (x.1 : Int)) ∧ (js.flatMap jV)[3 * q + 1]? = some (.int .i64 (x.2.1 : Int)) ∧ (js.flatMap jV)[3 * q + 2]? = some (.string ⟨x.2.2.toArray⟩)
  | [], q, x, h => by simp at h
  | y :: js, 0, x, h => by
    simp only [List.getElem?_cons_zero, Option.some.injEq] at h
    subst h
    exact ⟨rfl, rfl, rfl⟩
  | y :: js, q + 1, x, h => by
    obtain ⟨t1, t2, t3⟩ := flat3 js q x (by simpa using h)
    have e : ∀ i, ((y :: js).flatMap jV)[3 * (q + 1) + i]? = (js.flatMap jV)[3 * q + i]? := fun i => by
      rw [List.flatMap_cons, List.getElem?_append_right (by simp [jV]; omega)]
      congr 1
      simp [jV]; omega
    exact ⟨(e 0).trans t1, (e 1).trans t2, (e 2).trans t3⟩

section
variable {W w w' : World} {X : List Rw} {gs mb : Nat} {ws : List Int} {js : List (Nat × Nat × List UInt8)} {labs : List (List UInt8 × Nat)} {vw vj : Value}
theorem PS.push (h : PS W X gs mb ws js labs vw vj w) (vs : List Value) (ty : TypeId) : PS W (⟨w.heap.size, vs⟩ :: X) gs mb ws js labs vw vj (w.alloc (.cells vs.toArray ty)) := by
  have hP := h.below ((Below.refl _ _).alloc (Nat.le_refl _) (.cells vs.toArray ty))
  have h1 := h.k.lt (List.mem_cons_self ..)
  have h2 := h.m.lt
  refine ⟨(h.k.push vs ty).swap, hP.ow, hP.oj, hP.m, hP.d1, hP.d2, hP.d3, hP.d4, hP.d5, fun x hx => ?_, hP.d7, hP.hg, hP.hm⟩
  rcases List.mem_cons.1 hx with rfl | hx
  · refine ⟨fun e => ?_, fun e => ?_, by simp only; omega, by simp only; omega⟩
    · have := (h.ow.lt _ e).2; simp at this
    · have := (h.oj.lt _ e).2; simp at this
  · exact hP.d6 x hx
theorem PS.pop {a : Rw} (h : PS W (a :: X) gs mb ws js labs vw vj w) : PS W X gs mb ws js labs vw vj w :=
  ⟨h.k.sub (fun x hx => by
    rcases List.mem_cons.1 hx with rfl | hx
    · exact List.mem_cons_self ..
    · exact List.mem_cons_of_mem _ (List.mem_cons_of_mem _ hx)), h.ow, h.oj, h.m, h.d1, h.d2, h.d3, h.d4, h.d5, fun x hx => h.d6 x (List.mem_cons_of_mem _ hx), h.d7, h.hg, h.hm⟩
end
set_option maxHeartbeats 8000000 in
theorem asm_any (t : List UInt8) (W : World) (hT : T8 W) (ht : t.length ≤ 9223372036854775807) : Calls Tryz.prog 17 #[.string ⟨t.toArray⟩] W (AsmPost W (asmL t)) := by
  obtain ⟨R, hR⟩ : ∃ R, R = asmL t := ⟨_, rfl⟩
  rw [← hR]
  obtain ⟨D, hD⟩ : ∃ D, D = AsmPost W R := ⟨_, rfl⟩
  rw [← hD]
  replace hD := Lib.hid hD
  have hz : (⟨t.toArray⟩ : ByteArray).size = t.length := size_mk t
  unfold asmL at hR
  by_cases hlong : 32768 < t.length
  · rw [if_pos hlong] at hR
    replace hR := Lib.hid hR
    have hl2 : (32768 : Int) < ((⟨t.toArray⟩ : ByteArray).size : Int) := by rw [hz]; omega
    generalize (⟨t.toArray⟩ : ByteArray) = q at *
    clear hT ht hlong hz
    go_enter Tryz.func17, Tryz.ntmps17
    go_wp2
    rw [hD.out, hR.out]
    exact ⟨_, rfl, heap_alloc_new _ _, Nat.le_refl _, (Below.refl _ _).alloc (Nat.le_refl _) _⟩
  rw [if_neg hlong] at hR
  have hl2 : (t.length : Int) ≤ 32768 := by omega
  obtain ⟨mx, hmx⟩ := hT.mx
  have hmm := @run_makeMap Tryz.prog
  have htf := take_fn
  -- the boxes
  have hM0 := LM.made W
  have hb1 : Below W.heap.size W (W.alloc (.map #[] 0)) := (Below.refl _ _).alloc (Nat.le_refl _) _
  have KS := (KR.mk hb1 (fun y hy => by cases hy) : KR W [] (W.alloc (.map #[] 0))).push [.slice none 0 0, .map (some W.heap.size), .slice none 0 0] 81
  have hM1 := hM0.below ((Below.refl _ _).alloc (Nat.le_refl _) (.cells #[.slice none 0 0, .map (some W.heap.size), .slice none 0 0] 81))
  have hsz1 : (W.alloc (.map #[] 0)).heap.size = W.heap.size + 1 := by simp
  rw [hsz1] at KS
  have P0 : PS W [] (W.heap.size + 1) W.heap.size [] [] [] (.slice none 0 0) (.slice none 0 0) ((W.alloc (.map #[] 0)).alloc (.cells #[.slice none 0 0, .map (some W.heap.size), .slice none 0 0] 81)) :=
    ⟨KS, World.ownsRow_nil _ _ _ _, World.ownsRow_nil _ _ _ _, hM1, by simp [Value.ownBlock], by simp [Value.ownBlock], by simp [Value.ownBlock], by simp [Value.ownBlock], by simp [Value.ownBlock], (fun x hx => by cases hx), by omega, by omega, Nat.le_refl _⟩
  obtain ⟨w1, hw1⟩ : ∃ w1, w1 = (W.alloc (.map #[] 0)).alloc (.cells #[.slice none 0 0, .map (some W.heap.size), .slice none 0 0] 81) := ⟨_, rfl⟩
  rw [← hw1] at P0
  have hS := Tryz.strings_Split ⟨t.toArray⟩ ⟨#[10]⟩ mx w1 (by rw [hz]; omega) ((P0.k.bl.cell (p := ⟨3, 0, none⟩) (Nat.lt_of_lt_of_le (by decide) hT.low)).trans hmx) (by decide)
  rw [lines_split] at hS
  have hcn : countB ⟨t.toArray⟩ ⟨#[10]⟩ + 1 = (linesL t).length := by rw [lines_len]; congr 1; exact count_one 10 t
  rw [hcn, List.map_map] at hS
  have hlm := lines_mem t
  have hll : (linesL t).length ≤ 32769 := by
    rw [lines_len]
    have := List.count_le_length (a := (10 : UInt8)) (l := t)
    omega
  generalize linesL t = ls at *
  have hts : ∀ l, l ∈ ls → l.length ≤ 32768 := fun l h => by have := hlm l h; omega
  have P1 : PS W [⟨w1.heap.size, ls.map (Value.string ∘ fun l => (⟨l.toArray⟩ : ByteArray))⟩] (W.heap.size + 1) W.heap.size [] [] [] (.slice none 0 0) (.slice none 0 0) (w1.alloc (.cells (ls.map (Value.string ∘ fun l => (⟨l.toArray⟩ : ByteArray))).toArray 9)) := by
    have hk := P0.k.push (ls.map (Value.string ∘ fun l => (⟨l.toArray⟩ : ByteArray))) 9
    have hP := P0.below ((Below.refl _ _).alloc (Nat.le_refl _) (.cells (ls.map (Value.string ∘ fun l => (⟨l.toArray⟩ : ByteArray))).toArray 9))
    have hs1 := P0.k.lt (List.mem_cons_self ..)
    exact ⟨hk.swap, hP.ow, hP.oj, hP.m, hP.d1, hP.d2, hP.d3, hP.d4, hP.d5, (fun x hx => by
      rw [List.mem_singleton] at hx
      subst hx
      refine ⟨by simp [Value.ownBlock], by simp [Value.ownBlock], ?_, ?_⟩ <;> (simp only; omega)), hP.d7, hP.hg, hP.hm⟩
  generalize hgs : W.heap.size + 1 = gs at *
  replace hS := Lib.hid hS
  replace hR := Lib.hid hR
  replace hw1 := Lib.hid hw1
  replace P1 := Lib.hid P1
  replace hts := Lib.hid hts
  have hT' := Lib.hid hT
  have hl3 : (ls.length : Int) ≤ 32769 := by omega
  have hlll := Lib.hid hll
  clear hM0 hb1 KS hM1 hsz1 P0 hmx hcn hlm hll hT ht hlong hz
  go_enter Tryz.func17, Tryz.ntmps17
  go_wp2_with fail
  rw [← hw1.out]
  refine hS.out.mono ?_
  rintro e w' ⟨rfl, rfl⟩
  clear hw1 hS
  obtain ⟨w2, hw2⟩ : ∃ w2, w2 = w1.alloc (.cells (ls.map (Value.string ∘ fun l => (⟨l.toArray⟩ : ByteArray))).toArray 9) := ⟨_, rfl⟩
  rw [← hw2] at P1
  rw [← hw2]
  clear hw2
  generalize w1.heap.size = gl at *
  obtain ⟨mb, hmb⟩ : ∃ mb, mb = W.heap.size := ⟨_, rfl⟩
  have hmbW := Lib.hid hmb
  have P1' : PS W [⟨gl, ls.map (Value.string ∘ fun l => (⟨l.toArray⟩ : ByteArray))⟩] gs mb [] [] [] (.slice none 0 0) (.slice none 0 0) w2 := by rw [hmb]; exact P1.out
  clear P1
  have hcl : ∀ u (ws js labs vw vj), PS W [⟨gl, ls.map (Value.string ∘ fun l => (⟨l.toArray⟩ : ByteArray))⟩] gs mb ws js labs vw vj u → ∀ k (h : k < ls.length), u.cell? ⟨gl, k, none⟩ = some (.string ⟨ls[k].toArray⟩) := fun u ws js labs vw vj hu k h =>
    hu.k.cell (ls.map (Value.string ∘ fun l => (⟨l.toArray⟩ : ByteArray))) (List.mem_cons_of_mem _ (List.mem_cons_self ..)) (by rw [List.getElem?_map, List.getElem?_eq_getElem h]; rfl)
  replace hcl := Lib.hid hcl
  generalize (ls.map (Value.string ∘ fun l => (⟨l.toArray⟩ : ByteArray))) = lv at *
  have P1 := Lib.hid P1'
  clear P1' hmb
  go_wp2
  go_loopw [24] (fun i wr => ∃ (k : Nat) (st : AS) (vw vj : Value), k ≤ ls.length ∧ i = .int .i64 k ∧ Hid (takeAll ⟨[], []⟩ 0 (ls.map bareL) = takeAll st k ((ls.drop k).map bareL)) ∧ Hid (st.Ok k) ∧ Hid (PS W [⟨gl, lv⟩] gs mb st.words (jumpsFrom 0 st.its) st.labs vw vj wr)) (fun i _ => ls.length - (RowKit.intOf i).toNat)
  case atStart => exact ⟨0, ⟨[], []⟩, _, _, Nat.zero_le _, rfl, Lib.hid (by rw [List.drop_zero]), Lib.hid ⟨by simp, by simp, (fun x hx => by cases hx), (fun x hx => by cases hx)⟩, P1⟩
  case round =>
    obtain ⟨k, st, vw, vj, hk, rfl, hA, hok, HP⟩ := hrel
    by_cases hlt : k < ls.length
    · have hc := hcl.out wr _ _ _ _ _ HP.out k hlt
      have hdr : ls.drop k = ls[k] :: ls.drop (k + 1) := List.drop_eq_getElem_cons hlt
      have hl1 := hts.out ls[k] (List.getElem_mem hlt)
      have hA1 := hA.out
      rw [hdr, List.map_cons, takeAll] at hA1
      have hbl := bare_len ls[k]
      have hB := fun u => bare_any ls[k] u (by omega)
      have hk4 : k ≤ 40000 := by have := hlll.out; omega
      have hTk := fun (u : World) (hu : PS W [⟨gl, lv⟩] gs mb st.words (jumpsFrom 0 st.its) st.labs vw vj u) => take_any W u [⟨gl, lv⟩] gs mb st vw vj hu hT'.out k hk4 (bareL ls[k]) (by omega) hok.out.n (by have := hok.out.l; omega)
      have hok2 := take_ok hok.out hk4 (bareL ls[k])
      generalize bareL ls[k] = bl at *
      generalize ls[k] = l0 at *
      obtain ⟨Q, hQ⟩ : ∃ Q, Q = takeL st k bl := ⟨_, rfl⟩
      rw [← hQ] at hTk hok2 hA1
      obtain ⟨cd, st2⟩ := Q
      unfold TakePost8 at hTk
      have hpp := Lib.hid (And.intro hk hlt)
      have hki : (k : Int) < (ls.length : Int) := by omega
      replace hB := Lib.hid hB
      replace hTk := Lib.hid hTk
      replace hok2 := Lib.hid hok2
      replace hA1 := Lib.hid hA1
      clear hdr hl1 hbl hQ hk hk4
      by_cases h0 : cd = 0
      · subst h0
        have hA2 := Lib.hid (hA1.out.trans (if_pos rfl))
        clear hA1
        go_wp2_with fail
        refine (hB.out _).mono ?_
        rintro e w3 ⟨rfl, k3⟩
        have H3 := HP.out.below k3
        replace H3 := Lib.hid H3
        clear k3 hc
        go_wp2_with fail
        refine (hTk.out _ H3.out).mono ?_
        rintro e w4 ⟨rfl, vw4, vj4, H4⟩
        replace H4 := Lib.hid H4
        go_wp2
        go_roundw
        case rel => exact ⟨k + 1, st2, vw4, vj4, by have := hpp.out; omega, by go_num, hA2, hok2, H4⟩
        case measure => have := hpp.out; simp [RowKit.intOf]; omega
      · have hne : (cd == 0) = false := by simpa using h0
        have hne2 : (cd != 0) = true := by rw [bne, hne]; rfl
        have hA2 := hA1.out.trans (if_neg h0)
        have hRe : R = .error (cd, k) := by rw [hR.out, hA2]
        replace hRe := Lib.hid hRe
        clear hA1 hA2 h0
        go_wp2_with fail
        refine (hB.out _).mono ?_
        rintro e w3 ⟨rfl, k3⟩
        have H3 := HP.out.below k3
        replace H3 := Lib.hid H3
        clear k3 hc
        go_wp2_with fail
        refine (hTk.out _ H3.out).mono ?_
        rintro e w4 ⟨rfl, vw4, vj4, H4⟩
        have hb4 := Lib.hid H4.k.bl
        clear H4
        go_wp2
        rw [hD.out, hRe.out]
        exact ⟨_, rfl, heap_alloc_new _ _, hb4.out.size, hb4.out.alloc hb4.out.size _⟩
    · have hke : k = ls.length := by omega
      have hA1 := hA.out
      rw [hke, List.drop_length] at hA1
      have hRl : R = linkAll st.labs 0 st.its := by rw [hR.out, hA1]; rfl
      have hRj : R = linkJ st.labs st.words (jumpsFrom 0 st.its) := by
        have := link_is st.labs st.its []
        simp only [List.nil_append, List.length_nil] at this
        rw [hRl]
        exact (this.trans (by cases linkAll st.labs 0 st.its <;> rfl)).symm
      replace hRj := Lib.hid hRj
      have hjl := Nat.le_trans (jumps_len st.its 0) hok.out.n
      have hjm := jumps_mem st.its 0
      have hjp := jumps_place st.its 0
      have hwl := words_len st
      have hw32 := words_ok hok.out
      have hits := hok.out.i
      have hlow := fun {s p} (h : labF st.labs s = some p) => lab_low hok.out.p h
      have hn4 := hok.out.n
      have hji : ∀ x, x ∈ jumpsFrom 0 st.its → x.1 ≤ 40000 ∧ x.2.1 < st.words.length ∧ x.2.2.length ≤ 32768 := fun x hx => by
        obtain ⟨y, hy, e1, e2⟩ := hjm x hx
        have h1 := hits y hy
        have h2 := hjp x hx
        rw [hwl]
        refine ⟨by omega, by omega, by rw [← e2]; omega⟩
      clear hRl hA1 hA hits hjm hjp hke
      generalize st.words = ws0 at *
      generalize jumpsFrom 0 st.its = js at *
      generalize st.labs = labs at *
      obtain ⟨Aj, cj, rfl, hcj1, hcj2⟩ := own_slice HP.out.oj
      have hjli : (js.length : Int) ≤ 4096 := by omega
      have c2 : wr.cell? ⟨gs, 2, none⟩ = some (.slice Aj js.length cj) := HP.out.cells.2.2.1
      have hws0 := Lib.hid (And.intro hw32 (show ws0.length ≤ 4096 by omega))
      replace hji := Lib.hid hji
      have hlow' := Lib.hid (fun s p (h : labF labs s = some p) => hlow h)
      have hjl' := Lib.hid hjl
      clear hlow hjl hw32 hwl hn4 hk hok
      go_wp2
      go_loopw [45] (fun i wr => ∃ (q : Nat) (ws : List Int), q ≤ js.length ∧ i = .int .i64 q ∧ Hid (R = linkJ labs ws (js.drop q)) ∧ Hid (W32 ws ∧ ws.length = ws0.length) ∧ Hid (PS W [⟨gl, lv⟩] gs mb ws js labs vw (.slice Aj js.length cj) wr)) (fun i _ => js.length - (RowKit.intOf i).toNat)
      case atStart => exact ⟨0, ws0, Nat.zero_le _, rfl, Lib.hid (by rw [List.drop_zero]; exact hRj.out), Lib.hid ⟨hws0.out.1, rfl⟩, HP⟩
      case round =>
        obtain ⟨q, ws, hq, rfl, hA, hws, HQ⟩ := hrel
        by_cases hlq : q < js.length
        · obtain ⟨gj, cap, hv, hgb, hgl⟩ := HQ.out.oj.form (by omega)
          simp only [Value.slice.injEq, true_and] at hv
          obtain ⟨rfl, rfl⟩ := hv
          have hf3 := flat3 js q js[q] (List.getElem?_eq_getElem hlq)
          have hx := hji.out js[q] (List.getElem_mem hlq)
          have hdr : js.drop q = js[q] :: js.drop (q + 1) := List.drop_eq_getElem_cons hlq
          have hA1 := hA.out
          rw [hdr] at hA1
          generalize js[q] = jx at *
          obtain ⟨jn, jk, jl⟩ := jx
          simp only at hx hf3
          have e0 : wr.cell? ⟨gj, q * 3, none⟩ = some (.int .i64 jn) := by rw [Nat.mul_comm, HQ.out.oj.cellAt (3 * q) (by omega)]; exact hf3.1
          have e1 : wr.cell? ⟨gj, q * 3 + 1, none⟩ = some (.int .i64 jk) := by rw [Nat.mul_comm, HQ.out.oj.cellAt (3 * q + 1) (by omega)]; exact hf3.2.1
          have e2 : wr.cell? ⟨gj, q * 3 + 2, none⟩ = some (.string ⟨jl.toArray⟩) := by rw [Nat.mul_comm, HQ.out.oj.cellAt (3 * q + 2) (by omega)]; exact hf3.2.2
          have HB := HQ.out.push [.int .i64 jn, .int .i64 jk, .string ⟨jl.toArray⟩] 89
          have hLk := link_any W _ (⟨wr.heap.size, [.int .i64 jn, .int .i64 jk, .string ⟨jl.toArray⟩]⟩ :: [⟨gl, lv⟩]) gs mb ws js labs vw _ HB hT'.out jn jk jl (by rw [hws.out.2]; exact hx.2.1) (by rw [hws.out.2]; exact hws0.out.2) hws.out.1 hx.2.2 (fun p hp => hlow'.out jl p hp) hx.1
          have hlj : linkJ labs ws ((jn, jk, jl) :: js.drop (q + 1)) = match linkOne labs jk (ws.getD jk 0) jl jn with
            | .error e => .error e
            | .ok x => linkJ labs (ws.set jk x) (js.drop (q + 1)) := rfl
          rw [hlj] at hA1
          have hlv : linkV labs ws jk jl jn = match linkOne labs jk (ws.getD jk 0) jl jn with
            | .error (c, _) => (c, ws)
            | .ok x => (0, ws.set jk x) := rfl
          have hlo := fun x => linkOne_low (labs := labs) (k := jk) (w := ws.getD jk 0) (lab := jl) (n := jn) (x := x)
          have hqq := Lib.hid (And.intro hq hlq)
          have hqi : (q : Int) < (js.length : Int) := by omega
          have hle : ∀ c m, linkOne labs jk (ws.getD jk 0) jl jn = .error (c, m) → m = jn ∧ ((c : Int) == 0) = false ∧ (c != 0) = true := fun c m he => by
            unfold linkOne at he
            split at he
            · cases he; exact ⟨rfl, by decide, by decide⟩
            · split at he
              · cases he
              · cases he; exact ⟨rfl, by decide, by decide⟩
          generalize linkOne labs jk (ws.getD jk 0) jl jn = O at *
          unfold LinkPost at hLk
          rw [hlv] at hLk
          obtain ⟨u, hu⟩ : ∃ u, u = wr.alloc (.cells #[.int .i64 jn, .int .i64 jk, .string ⟨jl.toArray⟩] 89) := ⟨_, rfl⟩
          replace hLk : Calls Tryz.prog 48 #[.pointer (some ⟨gs, 0, none⟩), .agg #[.int .i64 jn, .int .i64 jk, .string ⟨jl.toArray⟩]] (wr.alloc (.cells #[.int .i64 jn, .int .i64 jk, .string ⟨jl.toArray⟩] 89)) _ := hLk
          clear hf3 hdr hlj hlv hx hu hA hq HB
          cases O with
          | ok x =>
            have hA2 := Lib.hid (show R = linkJ labs (ws.set jk x) (js.drop (q + 1)) from hA1)
            have hxl := hlo x rfl
            have hws2 := Lib.hid (show W32 (ws.set jk x) ∧ (ws.set jk x).length = ws0.length from ⟨fun y hy => by
              rcases List.mem_or_eq_of_mem_set hy with h | h
              · exact hws.out.1 y h
              · rw [h]; exact hxl, by rw [List.length_set]; exact hws.out.2⟩)
            replace hLk := Lib.hid hLk
            clear hA1 hlo hle hxl
            go_wp2_with fail
            refine hLk.out.mono ?_
            rintro e w4 ⟨rfl, H4⟩
            replace H4 := Lib.hid H4.pop
            clear hLk e0 e1 e2
            go_wp2
            go_roundw
            case rel => exact ⟨q + 1, ws.set jk x, by have := hqq.out; omega, by go_num, hA2, hws2, H4⟩
            case measure => have := hqq.out; simp [RowKit.intOf]; omega
          | error z =>
            obtain ⟨c, m⟩ := z
            obtain ⟨rfl, hne, hne2⟩ := hle c m rfl
            have hRe : R = .error (c, m) := hA1
            replace hRe := Lib.hid hRe
            replace hLk := Lib.hid hLk
            clear hA1 hlo hle
            go_wp2_with fail
            refine hLk.out.mono ?_
            rintro e w4 ⟨rfl, H4⟩
            have d0 : w4.cell? ⟨wr.heap.size, 0, none⟩ = some (.int .i64 m) := H4.k.cell [.int .i64 m, .int .i64 jk, .string ⟨jl.toArray⟩] (List.mem_cons_of_mem _ (List.mem_cons_self ..)) rfl
            have hb4 := Lib.hid H4.k.bl
            clear H4 hLk e0 e1 e2
            go_wp2_with fail
            go_region
            all_goals
              go_wp2
              rw [hD.out, hRe.out]
              exact ⟨_, rfl, heap_alloc_new _ _, hb4.out.size, (hb4.out.alloc hb4.out.size _).drew⟩
        · have hqe : q = js.length := by omega
          have hA1 := hA.out
          rw [hqe, List.drop_length] at hA1
          have hRo : R = .ok ws := hA1
          replace hRo := Lib.hid hRo
          have c0 := HQ.out.cells.1
          clear hA1 hA hqe hq
          go_wp2
          rw [hD.out, hRo.out]
          exact ⟨vw, rfl, HQ.out.ow, HQ.out.k.bl, hws.out.1, by rw [hws.out.2]; exact hws0.out.2⟩
end Go.Proofs.YtdkggahkfheocaaGreatDoor
