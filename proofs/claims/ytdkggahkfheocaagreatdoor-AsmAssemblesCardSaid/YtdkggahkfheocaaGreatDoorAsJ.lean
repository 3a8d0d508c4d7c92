/- Contracts of layer asm, the program's side: a line is read. No statement is proved here. -/
import Derived.Test.YtdkggahkfheocaaGreatDoorAsI
namespace Go.Proofs.YtdkggahkfheocaaGreatDoor
set_option maxRecDepth 100000
open Go.RowKit Go.Lib
set_option linter.unusedVariables false

def rdV (R : Option (Int × List UInt8)) : Int × List UInt8 × Bool := match R with
  | none => (0, [], false)
  | some (w, lab) => (w, lab, true)
def ReadPost (W : World) (R : Option (Int × List UInt8)) (e : Ending) (w' : World) : Prop :=
  e = .returned (.tuple #[.int .u32 (rdV R).1, .string ⟨(rdV R).2.1.toArray⟩, .bool (rdV R).2.2]) ∧ Below W.heap.size W w'
theorem ReadPost.none {W : World} {R : Option (Int × List UInt8)} {e : Ending} {w' : World} (hR : R = Option.none) (he : e = .returned (.tuple #[.int .u32 0, .string ⟨#[]⟩, .bool false])) (k : Below W.heap.size W w') : ReadPost W R e w' := by
  subst hR; exact ⟨he, k⟩
theorem ReadPost.some {W : World} {R : Option (Int × List UInt8)} {e : Ending} {w' : World} {x : Int} {lab : List UInt8} (hR : R = Option.some (x, lab)) (he : e = .returned (.tuple #[.int .u32 x, .string ⟨lab.toArray⟩, .bool true])) (k : Below W.heap.size W w') : ReadPost W R e w' := by
  subst hR; exact ⟨he, k⟩
theorem tok_nil (l : List UInt8) : tok l = [] ↔ wordsL l = [] := by
  rw [tok_head]
  constructor
  · intro h
    cases hw : wordsL l with
    | nil => rfl
    | cons a t =>
      rw [hw] at h
      have := (words_mem l a (by rw [hw]; exact List.mem_cons_self ..)).1
      exact absurd h this
  · intro h; rw [h]; rfl
theorem next_kr (W w : World) (g : Nat) (l : List UInt8) (K : KR W [⟨g, [.string ⟨l.toArray⟩]⟩] w) (hg : W.heap.size ≤ g) (hl : l.length ≤ 140737488355328) :
    Calls Tryz.prog 108 #[.pointer (some ⟨g, 0, none⟩)] w fun e w' => e = .returned (.string ⟨(tok l).toArray⟩) ∧ KR W [⟨g, [.string ⟨(rest l).toArray⟩]⟩] w' :=
  (next_tok l g w (K.cell _ (List.mem_cons_self ..) rfl) (K.soft (List.mem_cons_self ..) _) (K.lt (List.mem_cons_self ..)) hl).mono fun e w' k => ⟨k.1, K.sto hg (by simp) k.2⟩

set_option maxHeartbeats 8000000 in
theorem read_any (l : List UInt8) (W : World) (hT : T8 W) (hl : l.length ≤ 140737488355328) : Calls Tryz.prog 39 #[.string ⟨l.toArray⟩] W (ReadPost W (readP (wordsL l))) := by
  obtain ⟨R, hR⟩ : ∃ R, R = readP (wordsL l) := ⟨_, rfl⟩
  rw [← hR]
  obtain ⟨D, hD⟩ : ∃ D, D = ReadPost W R := ⟨_, rfl⟩
  rw [← hD]
  replace hD := Lib.hid hD
  have hC := Lib.hid (cutter_any ⟨l.toArray⟩ W)
  have K0 := (KR.start (W := W)).push [.string ⟨l.toArray⟩] 9
  obtain ⟨w1, hw1⟩ : ∃ w1, w1 = W.alloc (.cells #[.string ⟨l.toArray⟩] 9) := ⟨_, rfl⟩
  have K1 : KR W [⟨W.heap.size, [.string ⟨l.toArray⟩]⟩] w1 := by rw [hw1]; exact K0
  rw [← hw1] at hC
  obtain ⟨g, hg⟩ : ∃ g, g = W.heap.size := ⟨_, rfl⟩
  rw [← hg] at K1 hC
  have hg' : W.heap.size ≤ g := by omega
  have n1 := next_kr W w1 g l K1 hg' hl
  have hnf := next_fn g
  have hr1 : (rest l).length ≤ 140737488355328 := by have := rest_len l; omega
  have hr2 : (rest (rest l)).length ≤ 140737488355328 := by have := rest_len (rest l); omega
  have n2 := fun w K => next_kr W w g (rest l) K hg' hr1
  have hI := fun w op K => instr_any op W w g (rest l) hT hg' hr1 K
  have hraw := fun w h => rawWord_any (tok (rest l)) w h (by have := tok_len (rest l); omega)
  unfold readP at hR
  rw [← tok_head, ← words_rest, ← tok_head, ← words_rest] at hR
  have hx := fun l' : List UInt8 => tok_nil l'
  replace n1 := Lib.hid n1
  replace n2 := Lib.hid n2
  replace hT := Lib.hid hT
  replace hx := Lib.hid hx
  replace hr1 := Lib.hid hr1
  replace hr2 := Lib.hid hr2
  replace hg' := Lib.hid hg'
  clear hw1 hg K0 hl K1
  by_cases hwd : tok l = wordTx
  · rw [if_pos hwd] at hR
    rw [hwd] at n1
    replace hR := Lib.hid hR
    have n3 := Lib.hid (fun w K => next_kr W w g (rest (rest l)) K hg'.out hr2.out)
    generalize rawW (tok (rest l)) = o at *
    replace hraw := Lib.hid hraw
    replace hwd := Lib.hid hwd
    clear hI
    go_enter Tryz.func39, Tryz.ntmps39
    go_wp2_with fail
    refine hC.out.mono ?_
    rintro e w' ⟨rfl, rfl⟩
    go_wp2_with fail
    refine n1.out.mono ?_
    rintro e w2 ⟨rfl, K2⟩
    replace K2 := Lib.hid K2
    unfold wordTx
    go_wp2_with fail
    refine (n2.out _ K2.out).mono ?_
    rintro e w3 ⟨rfl, K3⟩
    replace K3 := Lib.hid K3
    go_wp2_with fail
    refine (hraw.out _ (hT.out.below K3.out.bl)).mono ?_
    rintro e w4 ⟨rfl, k4⟩
    have K4 := Lib.hid (K3.out.below k4)
    clear k4
    cases o with
    | none =>
      go_wp2
      rw [hD.out]
      exact ReadPost.none hR.out rfl K4.out.bl
    | some v =>
      go_wp2_with fail
      refine (n3.out _ K4.out).mono ?_
      rintro e w5 ⟨rfl, K5⟩
      replace K5 := Lib.hid K5
      by_cases he : wordsL (rest (rest l)) = []
      · rw [(hx.out _).2 he]
        have hRR := Lib.hid (show R = some (v, []) from hR.out.trans (if_pos he))
        clear he
        go_wp2
        rw [hD.out]
        exact ReadPost.some hRR.out rfl K5.out.bl
      · obtain ⟨f0, f1⟩ := list_ne_empty (l := tok (rest (rest l))) (fun h => he ((hx.out _).1 h))
        have hRR := Lib.hid (show R = none from hR.out.trans (if_neg he))
        generalize (⟨(tok (rest (rest l))).toArray⟩ : ByteArray) = q at *
        clear he
        go_wp2
        rw [hD.out]
        exact ReadPost.none hRR.out rfl K5.out.bl
  · rw [if_neg hwd] at hR
    have hwf : ((⟨(tok l).toArray⟩ : ByteArray).toList == [119, 111, 114, 100]) = false := by
      rw [Lib.toList_data]
      simpa [wordTx] using hwd
    have hO := fun w h => Op_any (tok l) w h
    generalize (⟨(tok l).toArray⟩ : ByteArray) = t at *
    generalize opAt (tok l) = op at *
    replace hI := Lib.hid (fun w K => hI w op K)
    replace hO := Lib.hid hO
    replace hR := Lib.hid hR
    clear hraw hwd
    go_enter Tryz.func39, Tryz.ntmps39
    go_wp2_with fail
    refine hC.out.mono ?_
    rintro e w' ⟨rfl, rfl⟩
    go_wp2_with fail
    refine n1.out.mono ?_
    rintro e w2 ⟨rfl, K2⟩
    replace K2 := Lib.hid K2
    go_wp2_with fail
    refine (hO.out _ (hT.out.below K2.out.bl).tabs).mono ?_
    rintro e w' ⟨rfl, rfl⟩
    have hI2 := hI.out _ K2.out
    generalize argsP op (formAt op) ⟨op, 0, 0, 0, 0⟩ [] (wordsL (rest l)) = A at *
    replace hI2 := Lib.hid hI2
    cases A with
    | none =>
      go_wp2_with fail
      refine hI2.out.mono ?_
      rintro e w3 ⟨rfl, l', hl', K3, -⟩
      replace K3 := Lib.hid K3
      go_wp2
      rw [hD.out]
      exact ReadPost.none hR.out rfl K3.out.bl
    | some z =>
      obtain ⟨i, lab, r⟩ := z
      cases hm : mayB i with
      | false =>
        have hV : insV (some (i, lab, r)) = (0, lab, false) := by simp only [insV, hm]; rfl
        unfold InsPost at hI2
        rw [hV] at hI2
        have hRR := Lib.hid (show R = none from hR.out.trans (if_neg (fun k => by rw [hm] at k; exact absurd k.1 (by decide))))
        clear hm hV
        go_wp2_with fail
        refine hI2.out.mono ?_
        rintro e w3 ⟨rfl, l', hl', K3, -⟩
        replace K3 := Lib.hid K3
        go_wp2
        rw [hD.out]
        exact ReadPost.none hRR.out rfl K3.out.bl
      | true =>
        have hV : insV (some (i, lab, r)) = (encW i, lab, true) := by simp only [insV, hm]; rfl
        unfold InsPost at hI2
        rw [hV] at hI2
        have hRR := Lib.hid (show R = if r = [] then some (encW i, lab) else none from hR.out.trans (by
          unfold insR
          simp only [hm, true_and]))
        clear hm hV
        generalize encW i = x at *
        go_wp2_with fail
        refine hI2.out.mono ?_
        rintro e w3 ⟨rfl, l', hl', K3, hr⟩
        have n4 := next_kr W w3 g l' K3 hg'.out (Nat.le_trans hl' hr1.out)
        replace n4 := Lib.hid n4
        replace K3 := Lib.hid K3
        have hrr := Lib.hid (hr i lab r rfl)
        clear hr
        replace hl' := Lib.hid hl'
        go_wp2_with fail
        refine n4.out.mono ?_
        rintro e w4 ⟨rfl, K4⟩
        replace K4 := Lib.hid K4
        by_cases he : r = []
        · rw [(hx.out _).2 (hrr.out.trans he)]
          have hR3 := Lib.hid (hRR.out.trans (if_pos he))
          clear he
          go_wp2
          rw [hD.out]
          exact ReadPost.some hR3.out rfl K4.out.bl
        · obtain ⟨f0, f1⟩ := list_ne_empty (l := tok l') (fun h => he (hrr.out.symm.trans ((hx.out _).1 h)))
          have hR3 := Lib.hid (hRR.out.trans (if_neg he))
          generalize (⟨(tok l').toArray⟩ : ByteArray) = q at *
          clear he
          go_wp2
          rw [hD.out]
          exact ReadPost.none hR3.out rfl K4.out.bl
end Go.Proofs.YtdkggahkfheocaaGreatDoor
