/- For core. -/
import Derived.Test.YtkmgdfcambdeeaaGreatDoorQar
namespace Go.Proofs.YtkmgdfcambdeeaaGreatDoor
open Lib (hid)
set_option maxRecDepth 100000
open Go.RowKit
set_option linter.unusedVariables false
set_option maxHeartbeats 4000000 in
theorem iRDecode_any (x : Int) (h0 : 0 ≤ x) (h1 : x < 4294967296) (W : World) : Calls Tryz.prog 60 #[.int .u32 x] W (DecPost W x) := by
 have hrd : rdW x = rdW x := rfl
 conv at hrd => rhs; unfold rdW
 obtain ⟨op, hop⟩ : ∃ op, x / 16777216 = op := ⟨_, rfl⟩
 obtain ⟨a, ha⟩ : ∃ a, x / 1048576 % 16 = a := ⟨_, rfl⟩
 obtain ⟨b, hb⟩ : ∃ b, x / 65536 % 16 = b := ⟨_, rfl⟩
 obtain ⟨c, hc⟩ : ∃ c, x / 4096 % 16 = c := ⟨_, rfl⟩
 obtain ⟨m1, hm1⟩ : ∃ m1, x % 1048576 = m1 := ⟨_, rfl⟩
 obtain ⟨m2, hm2⟩ : ∃ m2, x % 4096 = m2 := ⟨_, rfl⟩
 rw [hop, ha, hb, hc, hm1, hm2] at hrd
 have l1 : 0 ≤ m1 := by omega
 have l2 : m1 < 1048576 := by omega
 have l3 : 0 ≤ m2 := by omega
 have l4 : m2 < 4096 := by omega
 have hF := hid (rForm_any op)
 have hJ := has_form op 106 106 rfl
 generalize hpj : (formAt op).contains 106 = pj at *
 replace hpj := hid hpj
 replace hJ := hid hJ
 have hE := hid (fun (b c m : Int) (w : World) => iREncode_any op a b c m w)
 obtain ⟨D, hD⟩ : ∃ D, D = DecPost W x := ⟨_, rfl⟩
 rw [← hD]
 replace hD := hid hD
 cases pj
 · rw [if_neg (by decide)] at hrd
   by_cases hg : 2048 ≤ m2
   · rw [if_pos hg] at hrd
     replace hrd := hid hrd
     go_enter Tryz.func60, Tryz.ntmps60
     go_wp2_with fail
     refine (hF.out _).mono ?_
     rintro e w' ⟨rfl, rfl⟩
     go_wp2_with fail
     refine (hJ.out _).mono ?_
     rintro e w' ⟨rfl, rfl⟩
     go_wp2_with fail
     clear hop ha hb hc hm1 hm2 l1 l2 l3 l4 h0 h1
     try clear hg
     have hEE := hE.out b c (m2 - 4096) ((W.alloc (.cells #[.int .i64 0, .int .i64 0, .int .i64 0, .int .i64 0, .int .i64 0] 30)).alloc (.cells #[.int .i64 op, .int .i64 a, .int .i64 (b), .int .i64 (c), .int .i64 ((m2 - 4096))] 30))
     have K : KR W [⟨W.heap.size + 1, [.int .i64 op, .int .i64 a, .int .i64 (b), .int .i64 (c), .int .i64 ((m2 - 4096))]⟩, ⟨W.heap.size, [.int .i64 0, .int .i64 0, .int .i64 0, .int .i64 0, .int .i64 0]⟩] ((W.alloc (.cells #[.int .i64 0, .int .i64 0, .int .i64 0, .int .i64 0, .int .i64 0] 30)).alloc (.cells #[.int .i64 op, .int .i64 a, .int .i64 (b), .int .i64 (c), .int .i64 ((m2 - 4096))] 30)) := by
       have hk := ((KR.start (W := W)).push [.int .i64 0, .int .i64 0, .int .i64 0, .int .i64 0, .int .i64 0] 30).push [.int .i64 op, .int .i64 a, .int .i64 (b), .int .i64 (c), .int .i64 ((m2 - 4096))] 30
       rw [World.size_alloc] at hk
       exact hk
     generalize (W.alloc (.cells #[.int .i64 0, .int .i64 0, .int .i64 0, .int .i64 0, .int .i64 0] 30)).alloc (.cells #[.int .i64 op, .int .i64 a, .int .i64 (b), .int .i64 (c), .int .i64 ((m2 - 4096))] 30) = W2 at *
     obtain ⟨mx, hmx⟩ : ∃ mx, (m2 - 4096) = mx := ⟨_, rfl⟩
     replace hrd := hrd.out
     rw [hmx] at hEE K hrd ⊢
     replace hmx := hid hmx
     replace hrd := hid hrd
     cases hmay : mayB ⟨op, a, b, c, mx⟩
     · refine hEE.mono ?_
       rintro e w1 hpost
       obtain ⟨rfl, hbl⟩ := hpost.at_no hmay
       have K1 := (K.below hbl).swap
       have HZ := hid (dec_no hrd.out hmay)
       clear hpost hbl hmay hrd hEE K
       obtain ⟨z0, z1, z2, z3, z4, zf⟩ := K1.cells5 (List.mem_cons_self ..)
       have z5 := zf 0
       have z6 := zf 1
       have z7 := zf 2
       have z8 := zf 3
       have z9 := zf 4
       have KF := hid (K1.set5 (Nat.le_refl _) (by simp) (.int .i64 0) (.int .i64 0) (.int .i64 0) (.int .i64 0) (.int .i64 0))
       clear zf K1
       go_wp2_with fail
       clear z0 z1 z2 z3 z4 z5 z6 z7 z8 z9
       generalize (World.setCell (World.setCell (World.setCell (World.setCell (World.setCell w1 ⟨W.heap.size, 0, none⟩ (.int .i64 0)) ⟨W.heap.size, 1, none⟩ (.int .i64 0)) ⟨W.heap.size, 2, none⟩ (.int .i64 0)) ⟨W.heap.size, 3, none⟩ (.int .i64 0)) ⟨W.heap.size, 4, none⟩ (.int .i64 0)) = w3 at *
       obtain ⟨z0, z1, z2, z3, z4, -⟩ := KF.out.cells5 (List.mem_cons_self ..)
       rw [hD.out]
       exact bodyPost_ret (v := .agg #[.int .i64 0, .int .i64 0, .int .i64 0, .int .i64 0, .int .i64 0]) (by simp [results, Tryz.results60, go_sem, z0, z1, z2, z3, z4]) rfl (DecPost.mk (i := Ins.zero) HZ.out rfl KF.out.bl)
     · have henc : ∃ v, encW ⟨op, a, b, c, mx⟩ = v := ⟨_, rfl⟩
       obtain ⟨v, hv⟩ := henc
       by_cases hx : v = x
       · subst hx
         refine hEE.mono ?_
         rintro e w1 hpost
         obtain ⟨rfl, hbl⟩ := hpost.at_yes hmay
         have K1 := (K.below hbl).swap
         have HZ := hid (dec_yes hrd.out hmay hv)
         clear hpost hbl hmay hrd hEE K
         obtain ⟨y0, y1, y2, y3, y4, -⟩ := K1.cells5 (List.mem_cons_of_mem _ (List.mem_cons_self ..))
         obtain ⟨z0, z1, z2, z3, z4, zf⟩ := K1.cells5 (List.mem_cons_self ..)
         have z5 := zf 0
         have z6 := zf 1
         have z7 := zf 2
         have z8 := zf 3
         have z9 := zf 4
         have KF := hid (K1.set5 (Nat.le_refl _) (by simp) (.int .i64 op) (.int .i64 a) (.int .i64 (b)) (.int .i64 (c)) (.int .i64 mx))
         clear zf K1
         go_wp2_with fail
         clear z0 z1 z2 z3 z4 z5 z6 z7 z8 z9
         generalize (World.setCell (World.setCell (World.setCell (World.setCell (World.setCell w1 ⟨W.heap.size, 0, none⟩ (.int .i64 op)) ⟨W.heap.size, 1, none⟩ (.int .i64 a)) ⟨W.heap.size, 2, none⟩ (.int .i64 (b))) ⟨W.heap.size, 3, none⟩ (.int .i64 (c))) ⟨W.heap.size, 4, none⟩ (.int .i64 mx)) = w3 at *
         obtain ⟨z0, z1, z2, z3, z4, -⟩ := KF.out.cells5 (List.mem_cons_self ..)
         rw [hD.out]
         exact bodyPost_ret (v := .agg #[.int .i64 op, .int .i64 a, .int .i64 (b), .int .i64 (c), .int .i64 mx]) (by simp [results, Tryz.results60, go_sem, z0, z1, z2, z3, z4]) rfl (DecPost.mk (i := ⟨op, a, b, c, mx⟩) HZ.out rfl KF.out.bl)
       · have hx' : (v != x) = true := by simpa using hx
         refine hEE.mono ?_
         rintro e w1 hpost
         obtain ⟨rfl, hbl⟩ := hpost.at_yes hmay
         have K1 := (K.below hbl).swap
         have HZ := hid (dec_un hrd.out (by rw [hv]; exact hx))
         clear hpost hbl hmay hrd hEE K hx
         obtain ⟨z0, z1, z2, z3, z4, zf⟩ := K1.cells5 (List.mem_cons_self ..)
         have z5 := zf 0
         have z6 := zf 1
         have z7 := zf 2
         have z8 := zf 3
         have z9 := zf 4
         have KF := hid (K1.set5 (Nat.le_refl _) (by simp) (.int .i64 0) (.int .i64 0) (.int .i64 0) (.int .i64 0) (.int .i64 0))
         clear zf K1
         go_wp2_with fail
         clear z0 z1 z2 z3 z4 z5 z6 z7 z8 z9
         generalize (World.setCell (World.setCell (World.setCell (World.setCell (World.setCell w1 ⟨W.heap.size, 0, none⟩ (.int .i64 0)) ⟨W.heap.size, 1, none⟩ (.int .i64 0)) ⟨W.heap.size, 2, none⟩ (.int .i64 0)) ⟨W.heap.size, 3, none⟩ (.int .i64 0)) ⟨W.heap.size, 4, none⟩ (.int .i64 0)) = w3 at *
         obtain ⟨z0, z1, z2, z3, z4, -⟩ := KF.out.cells5 (List.mem_cons_self ..)
         rw [hD.out]
         exact bodyPost_ret (v := .agg #[.int .i64 0, .int .i64 0, .int .i64 0, .int .i64 0, .int .i64 0]) (by simp [results, Tryz.results60, go_sem, z0, z1, z2, z3, z4]) rfl (DecPost.mk (i := Ins.zero) HZ.out rfl KF.out.bl)
   · rw [if_neg hg] at hrd
     replace hrd := hid hrd
     go_enter Tryz.func60, Tryz.ntmps60
     go_wp2_with fail
     refine (hF.out _).mono ?_
     rintro e w' ⟨rfl, rfl⟩
     go_wp2_with fail
     refine (hJ.out _).mono ?_
     rintro e w' ⟨rfl, rfl⟩
     go_wp2_with fail
     clear hop ha hb hc hm1 hm2 l1 l2 l3 l4 h0 h1
     try clear hg
     have hEE := hE.out b c m2 ((W.alloc (.cells #[.int .i64 0, .int .i64 0, .int .i64 0, .int .i64 0, .int .i64 0] 30)).alloc (.cells #[.int .i64 op, .int .i64 a, .int .i64 (b), .int .i64 (c), .int .i64 (m2)] 30))
     have K : KR W [⟨W.heap.size + 1, [.int .i64 op, .int .i64 a, .int .i64 (b), .int .i64 (c), .int .i64 (m2)]⟩, ⟨W.heap.size, [.int .i64 0, .int .i64 0, .int .i64 0, .int .i64 0, .int .i64 0]⟩] ((W.alloc (.cells #[.int .i64 0, .int .i64 0, .int .i64 0, .int .i64 0, .int .i64 0] 30)).alloc (.cells #[.int .i64 op, .int .i64 a, .int .i64 (b), .int .i64 (c), .int .i64 (m2)] 30)) := by
       have hk := ((KR.start (W := W)).push [.int .i64 0, .int .i64 0, .int .i64 0, .int .i64 0, .int .i64 0] 30).push [.int .i64 op, .int .i64 a, .int .i64 (b), .int .i64 (c), .int .i64 (m2)] 30
       rw [World.size_alloc] at hk
       exact hk
     generalize (W.alloc (.cells #[.int .i64 0, .int .i64 0, .int .i64 0, .int .i64 0, .int .i64 0] 30)).alloc (.cells #[.int .i64 op, .int .i64 a, .int .i64 (b), .int .i64 (c), .int .i64 (m2)] 30) = W2 at *
     replace hrd := hid hrd
     cases hmay : mayB ⟨op, a, b, c, m2⟩
     · refine hEE.mono ?_
       rintro e w1 hpost
       obtain ⟨rfl, hbl⟩ := hpost.at_no hmay
       have K1 := (K.below hbl).swap
       have HZ := hid (dec_no hrd.out hmay)
       clear hpost hbl hmay hrd hEE K
       obtain ⟨z0, z1, z2, z3, z4, zf⟩ := K1.cells5 (List.mem_cons_self ..)
       have z5 := zf 0
       have z6 := zf 1
       have z7 := zf 2
       have z8 := zf 3
       have z9 := zf 4
       have KF := hid (K1.set5 (Nat.le_refl _) (by simp) (.int .i64 0) (.int .i64 0) (.int .i64 0) (.int .i64 0) (.int .i64 0))
       clear zf K1
       go_wp2_with fail
       clear z0 z1 z2 z3 z4 z5 z6 z7 z8 z9
       generalize (World.setCell (World.setCell (World.setCell (World.setCell (World.setCell w1 ⟨W.heap.size, 0, none⟩ (.int .i64 0)) ⟨W.heap.size, 1, none⟩ (.int .i64 0)) ⟨W.heap.size, 2, none⟩ (.int .i64 0)) ⟨W.heap.size, 3, none⟩ (.int .i64 0)) ⟨W.heap.size, 4, none⟩ (.int .i64 0)) = w3 at *
       obtain ⟨z0, z1, z2, z3, z4, -⟩ := KF.out.cells5 (List.mem_cons_self ..)
       rw [hD.out]
       exact bodyPost_ret (v := .agg #[.int .i64 0, .int .i64 0, .int .i64 0, .int .i64 0, .int .i64 0]) (by simp [results, Tryz.results60, go_sem, z0, z1, z2, z3, z4]) rfl (DecPost.mk (i := Ins.zero) HZ.out rfl KF.out.bl)
     · have henc : ∃ v, encW ⟨op, a, b, c, m2⟩ = v := ⟨_, rfl⟩
       obtain ⟨v, hv⟩ := henc
       by_cases hx : v = x
       · subst hx
         refine hEE.mono ?_
         rintro e w1 hpost
         obtain ⟨rfl, hbl⟩ := hpost.at_yes hmay
         have K1 := (K.below hbl).swap
         have HZ := hid (dec_yes hrd.out hmay hv)
         clear hpost hbl hmay hrd hEE K
         obtain ⟨y0, y1, y2, y3, y4, -⟩ := K1.cells5 (List.mem_cons_of_mem _ (List.mem_cons_self ..))
         obtain ⟨z0, z1, z2, z3, z4, zf⟩ := K1.cells5 (List.mem_cons_self ..)
         have z5 := zf 0
         have z6 := zf 1
         have z7 := zf 2
         have z8 := zf 3
         have z9 := zf 4
         have KF := hid (K1.set5 (Nat.le_refl _) (by simp) (.int .i64 op) (.int .i64 a) (.int .i64 (b)) (.int .i64 (c)) (.int .i64 m2))
         clear zf K1
         go_wp2_with fail
         clear z0 z1 z2 z3 z4 z5 z6 z7 z8 z9
         generalize (World.setCell (World.setCell (World.setCell (World.setCell (World.setCell w1 ⟨W.heap.size, 0, none⟩ (.int .i64 op)) ⟨W.heap.size, 1, none⟩ (.int .i64 a)) ⟨W.heap.size, 2, none⟩ (.int .i64 (b))) ⟨W.heap.size, 3, none⟩ (.int .i64 (c))) ⟨W.heap.size, 4, none⟩ (.int .i64 m2)) = w3 at *
         obtain ⟨z0, z1, z2, z3, z4, -⟩ := KF.out.cells5 (List.mem_cons_self ..)
         rw [hD.out]
         exact bodyPost_ret (v := .agg #[.int .i64 op, .int .i64 a, .int .i64 (b), .int .i64 (c), .int .i64 m2]) (by simp [results, Tryz.results60, go_sem, z0, z1, z2, z3, z4]) rfl (DecPost.mk (i := ⟨op, a, b, c, m2⟩) HZ.out rfl KF.out.bl)
       · have hx' : (v != x) = true := by simpa using hx
         refine hEE.mono ?_
         rintro e w1 hpost
         obtain ⟨rfl, hbl⟩ := hpost.at_yes hmay
         have K1 := (K.below hbl).swap
         have HZ := hid (dec_un hrd.out (by rw [hv]; exact hx))
         clear hpost hbl hmay hrd hEE K hx
         obtain ⟨z0, z1, z2, z3, z4, zf⟩ := K1.cells5 (List.mem_cons_self ..)
         have z5 := zf 0
         have z6 := zf 1
         have z7 := zf 2
         have z8 := zf 3
         have z9 := zf 4
         have KF := hid (K1.set5 (Nat.le_refl _) (by simp) (.int .i64 0) (.int .i64 0) (.int .i64 0) (.int .i64 0) (.int .i64 0))
         clear zf K1
         go_wp2_with fail
         clear z0 z1 z2 z3 z4 z5 z6 z7 z8 z9
         generalize (World.setCell (World.setCell (World.setCell (World.setCell (World.setCell w1 ⟨W.heap.size, 0, none⟩ (.int .i64 0)) ⟨W.heap.size, 1, none⟩ (.int .i64 0)) ⟨W.heap.size, 2, none⟩ (.int .i64 0)) ⟨W.heap.size, 3, none⟩ (.int .i64 0)) ⟨W.heap.size, 4, none⟩ (.int .i64 0)) = w3 at *
         obtain ⟨z0, z1, z2, z3, z4, -⟩ := KF.out.cells5 (List.mem_cons_self ..)
         rw [hD.out]
         exact bodyPost_ret (v := .agg #[.int .i64 0, .int .i64 0, .int .i64 0, .int .i64 0, .int .i64 0]) (by simp [results, Tryz.results60, go_sem, z0, z1, z2, z3, z4]) rfl (DecPost.mk (i := Ins.zero) HZ.out rfl KF.out.bl)
 · rw [if_pos rfl] at hrd
   by_cases hg : 524288 ≤ m1
   · rw [if_pos hg] at hrd
     replace hrd := hid hrd
     go_enter Tryz.func60, Tryz.ntmps60
     go_wp2_with fail
     refine (hF.out _).mono ?_
     rintro e w' ⟨rfl, rfl⟩
     go_wp2_with fail
     refine (hJ.out _).mono ?_
     rintro e w' ⟨rfl, rfl⟩
     go_wp2_with fail
     clear hop ha hb hc hm1 hm2 l1 l2 l3 l4 h0 h1
     try clear hg
     have hEE := hE.out 0 0 (m1 - 1048576) ((W.alloc (.cells #[.int .i64 0, .int .i64 0, .int .i64 0, .int .i64 0, .int .i64 0] 30)).alloc (.cells #[.int .i64 op, .int .i64 a, .int .i64 (0), .int .i64 (0), .int .i64 ((m1 - 1048576))] 30))
     have K : KR W [⟨W.heap.size + 1, [.int .i64 op, .int .i64 a, .int .i64 (0), .int .i64 (0), .int .i64 ((m1 - 1048576))]⟩, ⟨W.heap.size, [.int .i64 0, .int .i64 0, .int .i64 0, .int .i64 0, .int .i64 0]⟩] ((W.alloc (.cells #[.int .i64 0, .int .i64 0, .int .i64 0, .int .i64 0, .int .i64 0] 30)).alloc (.cells #[.int .i64 op, .int .i64 a, .int .i64 (0), .int .i64 (0), .int .i64 ((m1 - 1048576))] 30)) := by
       have hk := ((KR.start (W := W)).push [.int .i64 0, .int .i64 0, .int .i64 0, .int .i64 0, .int .i64 0] 30).push [.int .i64 op, .int .i64 a, .int .i64 (0), .int .i64 (0), .int .i64 ((m1 - 1048576))] 30
       rw [World.size_alloc] at hk
       exact hk
     generalize (W.alloc (.cells #[.int .i64 0, .int .i64 0, .int .i64 0, .int .i64 0, .int .i64 0] 30)).alloc (.cells #[.int .i64 op, .int .i64 a, .int .i64 (0), .int .i64 (0), .int .i64 ((m1 - 1048576))] 30) = W2 at *
     obtain ⟨mx, hmx⟩ : ∃ mx, (m1 - 1048576) = mx := ⟨_, rfl⟩
     replace hrd := hrd.out
     rw [hmx] at hEE K hrd ⊢
     replace hmx := hid hmx
     replace hrd := hid hrd
     cases hmay : mayB ⟨op, a, 0, 0, mx⟩
     · refine hEE.mono ?_
       rintro e w1 hpost
       obtain ⟨rfl, hbl⟩ := hpost.at_no hmay
       have K1 := (K.below hbl).swap
       have HZ := hid (dec_no hrd.out hmay)
       clear hpost hbl hmay hrd hEE K
       obtain ⟨z0, z1, z2, z3, z4, zf⟩ := K1.cells5 (List.mem_cons_self ..)
       have z5 := zf 0
       have z6 := zf 1
       have z7 := zf 2
       have z8 := zf 3
       have z9 := zf 4
       have KF := hid (K1.set5 (Nat.le_refl _) (by simp) (.int .i64 0) (.int .i64 0) (.int .i64 0) (.int .i64 0) (.int .i64 0))
       clear zf K1
       go_wp2_with fail
       clear z0 z1 z2 z3 z4 z5 z6 z7 z8 z9
       generalize (World.setCell (World.setCell (World.setCell (World.setCell (World.setCell w1 ⟨W.heap.size, 0, none⟩ (.int .i64 0)) ⟨W.heap.size, 1, none⟩ (.int .i64 0)) ⟨W.heap.size, 2, none⟩ (.int .i64 0)) ⟨W.heap.size, 3, none⟩ (.int .i64 0)) ⟨W.heap.size, 4, none⟩ (.int .i64 0)) = w3 at *
       obtain ⟨z0, z1, z2, z3, z4, -⟩ := KF.out.cells5 (List.mem_cons_self ..)
       rw [hD.out]
       exact bodyPost_ret (v := .agg #[.int .i64 0, .int .i64 0, .int .i64 0, .int .i64 0, .int .i64 0]) (by simp [results, Tryz.results60, go_sem, z0, z1, z2, z3, z4]) rfl (DecPost.mk (i := Ins.zero) HZ.out rfl KF.out.bl)
     · have henc : ∃ v, encW ⟨op, a, 0, 0, mx⟩ = v := ⟨_, rfl⟩
       obtain ⟨v, hv⟩ := henc
       by_cases hx : v = x
       · subst hx
         refine hEE.mono ?_
         rintro e w1 hpost
         obtain ⟨rfl, hbl⟩ := hpost.at_yes hmay
         have K1 := (K.below hbl).swap
         have HZ := hid (dec_yes hrd.out hmay hv)
         clear hpost hbl hmay hrd hEE K
         obtain ⟨y0, y1, y2, y3, y4, -⟩ := K1.cells5 (List.mem_cons_of_mem _ (List.mem_cons_self ..))
         obtain ⟨z0, z1, z2, z3, z4, zf⟩ := K1.cells5 (List.mem_cons_self ..)
         have z5 := zf 0
         have z6 := zf 1
         have z7 := zf 2
         have z8 := zf 3
         have z9 := zf 4
         have KF := hid (K1.set5 (Nat.le_refl _) (by simp) (.int .i64 op) (.int .i64 a) (.int .i64 (0)) (.int .i64 (0)) (.int .i64 mx))
         clear zf K1
         go_wp2_with fail
         clear z0 z1 z2 z3 z4 z5 z6 z7 z8 z9
         generalize (World.setCell (World.setCell (World.setCell (World.setCell (World.setCell w1 ⟨W.heap.size, 0, none⟩ (.int .i64 op)) ⟨W.heap.size, 1, none⟩ (.int .i64 a)) ⟨W.heap.size, 2, none⟩ (.int .i64 (0))) ⟨W.heap.size, 3, none⟩ (.int .i64 (0))) ⟨W.heap.size, 4, none⟩ (.int .i64 mx)) = w3 at *
         obtain ⟨z0, z1, z2, z3, z4, -⟩ := KF.out.cells5 (List.mem_cons_self ..)
         rw [hD.out]
         exact bodyPost_ret (v := .agg #[.int .i64 op, .int .i64 a, .int .i64 (0), .int .i64 (0), .int .i64 mx]) (by simp [results, Tryz.results60, go_sem, z0, z1, z2, z3, z4]) rfl (DecPost.mk (i := ⟨op, a, 0, 0, mx⟩) HZ.out rfl KF.out.bl)
       · have hx' : (v != x) = true := by simpa using hx
         refine hEE.mono ?_
         rintro e w1 hpost
         obtain ⟨rfl, hbl⟩ := hpost.at_yes hmay
         have K1 := (K.below hbl).swap
         have HZ := hid (dec_un hrd.out (by rw [hv]; exact hx))
         clear hpost hbl hmay hrd hEE K hx
         obtain ⟨z0, z1, z2, z3, z4, zf⟩ := K1.cells5 (List.mem_cons_self ..)
         have z5 := zf 0
         have z6 := zf 1
         have z7 := zf 2
         have z8 := zf 3
         have z9 := zf 4
         have KF := hid (K1.set5 (Nat.le_refl _) (by simp) (.int .i64 0) (.int .i64 0) (.int .i64 0) (.int .i64 0) (.int .i64 0))
         clear zf K1
         go_wp2_with fail
         clear z0 z1 z2 z3 z4 z5 z6 z7 z8 z9
         generalize (World.setCell (World.setCell (World.setCell (World.setCell (World.setCell w1 ⟨W.heap.size, 0, none⟩ (.int .i64 0)) ⟨W.heap.size, 1, none⟩ (.int .i64 0)) ⟨W.heap.size, 2, none⟩ (.int .i64 0)) ⟨W.heap.size, 3, none⟩ (.int .i64 0)) ⟨W.heap.size, 4, none⟩ (.int .i64 0)) = w3 at *
         obtain ⟨z0, z1, z2, z3, z4, -⟩ := KF.out.cells5 (List.mem_cons_self ..)
         rw [hD.out]
         exact bodyPost_ret (v := .agg #[.int .i64 0, .int .i64 0, .int .i64 0, .int .i64 0, .int .i64 0]) (by simp [results, Tryz.results60, go_sem, z0, z1, z2, z3, z4]) rfl (DecPost.mk (i := Ins.zero) HZ.out rfl KF.out.bl)
   · rw [if_neg hg] at hrd
     replace hrd := hid hrd
     go_enter Tryz.func60, Tryz.ntmps60
     go_wp2_with fail
     refine (hF.out _).mono ?_
     rintro e w' ⟨rfl, rfl⟩
     go_wp2_with fail
     refine (hJ.out _).mono ?_
     rintro e w' ⟨rfl, rfl⟩
     go_wp2_with fail
     clear hop ha hb hc hm1 hm2 l1 l2 l3 l4 h0 h1
     try clear hg
     have hEE := hE.out 0 0 m1 ((W.alloc (.cells #[.int .i64 0, .int .i64 0, .int .i64 0, .int .i64 0, .int .i64 0] 30)).alloc (.cells #[.int .i64 op, .int .i64 a, .int .i64 (0), .int .i64 (0), .int .i64 (m1)] 30))
     have K : KR W [⟨W.heap.size + 1, [.int .i64 op, .int .i64 a, .int .i64 (0), .int .i64 (0), .int .i64 (m1)]⟩, ⟨W.heap.size, [.int .i64 0, .int .i64 0, .int .i64 0, .int .i64 0, .int .i64 0]⟩] ((W.alloc (.cells #[.int .i64 0, .int .i64 0, .int .i64 0, .int .i64 0, .int .i64 0] 30)).alloc (.cells #[.int .i64 op, .int .i64 a, .int .i64 (0), .int .i64 (0), .int .i64 (m1)] 30)) := by
       have hk := ((KR.start (W := W)).push [.int .i64 0, .int .i64 0, .int .i64 0, .int .i64 0, .int .i64 0] 30).push [.int .i64 op, .int .i64 a, .int .i64 (0), .int .i64 (0), .int .i64 (m1)] 30
       rw [World.size_alloc] at hk
       exact hk
     generalize (W.alloc (.cells #[.int .i64 0, .int .i64 0, .int .i64 0, .int .i64 0, .int .i64 0] 30)).alloc (.cells #[.int .i64 op, .int .i64 a, .int .i64 (0), .int .i64 (0), .int .i64 (m1)] 30) = W2 at *
     replace hrd := hid hrd
     cases hmay : mayB ⟨op, a, 0, 0, m1⟩
     · refine hEE.mono ?_
       rintro e w1 hpost
       obtain ⟨rfl, hbl⟩ := hpost.at_no hmay
       have K1 := (K.below hbl).swap
       have HZ := hid (dec_no hrd.out hmay)
       clear hpost hbl hmay hrd hEE K
       obtain ⟨z0, z1, z2, z3, z4, zf⟩ := K1.cells5 (List.mem_cons_self ..)
       have z5 := zf 0
       have z6 := zf 1
       have z7 := zf 2
       have z8 := zf 3
       have z9 := zf 4
       have KF := hid (K1.set5 (Nat.le_refl _) (by simp) (.int .i64 0) (.int .i64 0) (.int .i64 0) (.int .i64 0) (.int .i64 0))
       clear zf K1
       go_wp2_with fail
       clear z0 z1 z2 z3 z4 z5 z6 z7 z8 z9
       generalize (World.setCell (World.setCell (World.setCell (World.setCell (World.setCell w1 ⟨W.heap.size, 0, none⟩ (.int .i64 0)) ⟨W.heap.size, 1, none⟩ (.int .i64 0)) ⟨W.heap.size, 2, none⟩ (.int .i64 0)) ⟨W.heap.size, 3, none⟩ (.int .i64 0)) ⟨W.heap.size, 4, none⟩ (.int .i64 0)) = w3 at *
       obtain ⟨z0, z1, z2, z3, z4, -⟩ := KF.out.cells5 (List.mem_cons_self ..)
       rw [hD.out]
       exact bodyPost_ret (v := .agg #[.int .i64 0, .int .i64 0, .int .i64 0, .int .i64 0, .int .i64 0]) (by simp [results, Tryz.results60, go_sem, z0, z1, z2, z3, z4]) rfl (DecPost.mk (i := Ins.zero) HZ.out rfl KF.out.bl)
     · have henc : ∃ v, encW ⟨op, a, 0, 0, m1⟩ = v := ⟨_, rfl⟩
       obtain ⟨v, hv⟩ := henc
       by_cases hx : v = x
       · subst hx
         refine hEE.mono ?_
         rintro e w1 hpost
         obtain ⟨rfl, hbl⟩ := hpost.at_yes hmay
         have K1 := (K.below hbl).swap
         have HZ := hid (dec_yes hrd.out hmay hv)
         clear hpost hbl hmay hrd hEE K
         obtain ⟨y0, y1, y2, y3, y4, -⟩ := K1.cells5 (List.mem_cons_of_mem _ (List.mem_cons_self ..))
         obtain ⟨z0, z1, z2, z3, z4, zf⟩ := K1.cells5 (List.mem_cons_self ..)
         have z5 := zf 0
         have z6 := zf 1
         have z7 := zf 2
         have z8 := zf 3
         have z9 := zf 4
         have KF := hid (K1.set5 (Nat.le_refl _) (by simp) (.int .i64 op) (.int .i64 a) (.int .i64 (0)) (.int .i64 (0)) (.int .i64 m1))
         clear zf K1
         go_wp2_with fail
         clear z0 z1 z2 z3 z4 z5 z6 z7 z8 z9
         generalize (World.setCell (World.setCell (World.setCell (World.setCell (World.setCell w1 ⟨W.heap.size, 0, none⟩ (.int .i64 op)) ⟨W.heap.size, 1, none⟩ (.int .i64 a)) ⟨W.heap.size, 2, none⟩ (.int .i64 (0))) ⟨W.heap.size, 3, none⟩ (.int .i64 (0))) ⟨W.heap.size, 4, none⟩ (.int .i64 m1)) = w3 at *
         obtain ⟨z0, z1, z2, z3, z4, -⟩ := KF.out.cells5 (List.mem_cons_self ..)
         rw [hD.out]
         exact bodyPost_ret (v := .agg #[.int .i64 op, .int .i64 a, .int .i64 (0), .int .i64 (0), .int .i64 m1]) (by simp [results, Tryz.results60, go_sem, z0, z1, z2, z3, z4]) rfl (DecPost.mk (i := ⟨op, a, 0, 0, m1⟩) HZ.out rfl KF.out.bl)
       · have hx' : (v != x) = true := by simpa using hx
         refine hEE.mono ?_
         rintro e w1 hpost
         obtain ⟨rfl, hbl⟩ := hpost.at_yes hmay
         have K1 := (K.below hbl).swap
         have HZ := hid (dec_un hrd.out (by rw [hv]; exact hx))
         clear hpost hbl hmay hrd hEE K hx
         obtain ⟨z0, z1, z2, z3, z4, zf⟩ := K1.cells5 (List.mem_cons_self ..)
         have z5 := zf 0
         have z6 := zf 1
         have z7 := zf 2
         have z8 := zf 3
         have z9 := zf 4
         have KF := hid (K1.set5 (Nat.le_refl _) (by simp) (.int .i64 0) (.int .i64 0) (.int .i64 0) (.int .i64 0) (.int .i64 0))
         clear zf K1
         go_wp2_with fail
         clear z0 z1 z2 z3 z4 z5 z6 z7 z8 z9
         generalize (World.setCell (World.setCell (World.setCell (World.setCell (World.setCell w1 ⟨W.heap.size, 0, none⟩ (.int .i64 0)) ⟨W.heap.size, 1, none⟩ (.int .i64 0)) ⟨W.heap.size, 2, none⟩ (.int .i64 0)) ⟨W.heap.size, 3, none⟩ (.int .i64 0)) ⟨W.heap.size, 4, none⟩ (.int .i64 0)) = w3 at *
         obtain ⟨z0, z1, z2, z3, z4, -⟩ := KF.out.cells5 (List.mem_cons_self ..)
         rw [hD.out]
         exact bodyPost_ret (v := .agg #[.int .i64 0, .int .i64 0, .int .i64 0, .int .i64 0, .int .i64 0]) (by simp [results, Tryz.results60, go_sem, z0, z1, z2, z3, z4]) rfl (DecPost.mk (i := Ins.zero) HZ.out rfl KF.out.bl)
end Go.Proofs.YtkmgdfcambdeeaaGreatDoor
