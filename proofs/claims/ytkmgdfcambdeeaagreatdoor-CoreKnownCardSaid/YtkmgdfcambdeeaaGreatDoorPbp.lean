/- The laws' own works (layer core). No statement is proved here.; What an instruction leaves valid (layer core), as numbers. Plain lemmas; no statement is proved here. -/
import Derived.BigQuiet
import Derived.Test.YtkmgdfcambdeeaaGreatDoorPbd
import Derived.Test.YtkmgdfcambdeeaaGreatDoorPaq
import Derived.Test.YtkmgdfcambdeeaaGreatDoorPbo
import Derived.Test.YtkmgdfcambdeeaaGreatDoorPai
import Derived.Test.YtkmgdfcambdeeaaGreatDoorPat
import Derived.Test.YtkmgdfcambdeeaaGreatDoorPax
import Derived.Test.YtkmgdfcambdeeaaGreatDoorPba
import Derived.Test.YtkmgdfcambdeeaaGreatDoorPaa
namespace Go.Proofs.YtkmgdfcambdeeaaGreatDoor
set_option maxRecDepth 100000
open Go.RowKit
set_option linter.unusedVariables false
/-- The chapter's steps. -/
def frA : List Cp := (nxt frL).set 3 (numC 4294967289)
def frB : List Cp := nxt frA
theorem st1 : doT frL ⟨1, 3, 0, 0, -7⟩ 4096 = 0 := by kernel_rfl
theorem sf1 (f : Nat → Bool) (l : List UInt8) : doF frL ⟨1, 3, 0, 0, -7⟩ 4096 f l = frA := by unfold doF; rw [st1]; rfl
theorem st2 : doT frA ⟨22, 3, 1, 0, 4⟩ 4096 = 0 := by kernel_rfl
theorem sf2 (f : Nat → Bool) (l : List UInt8) : doF frA ⟨22, 3, 1, 0, 4⟩ 4096 f l = frB := by unfold doF; rw [st2]; rfl
theorem st3 : doT frB ⟨22, 3, 1, 0, 62⟩ 4096 = 4 := by kernel_rfl
theorem st4 : doT frB ⟨53, 0, 0, 0, 0⟩ 4096 = 6 := by kernel_rfl
theorem st5 : doT frB ⟨24, 1, 1, 0, 16⟩ 4096 = 0 := by kernel_rfl
theorem st6 : doT frB ⟨23, 4, 1, 0, 16⟩ 4096 = 0 := by kernel_rfl
theorem frA_fit : Fit frA := ⟨by kernel_rfl, fun c hc => by
  have : ∀ c ∈ frA, c.cu < 4294967296 ∧ c.e < 256 ∧ c.b < 65536 ∧ c.t < 65536 ∧ c.pm < 65536 ∧ c.ty < 65536 ∧ c.rs < 4294967296 := by decide +kernel
  obtain ⟨h0, h1, h2, h3, h4, h5, h6⟩ := this c hc
  exact ⟨h0, h1, h2, h3, h4, h5, h6⟩⟩
theorem frB_fit : Fit frB := ⟨by kernel_rfl, fun c hc => by
  have : ∀ c ∈ frB, c.cu < 4294967296 ∧ c.e < 256 ∧ c.b < 65536 ∧ c.t < 65536 ∧ c.pm < 65536 ∧ c.ty < 65536 ∧ c.rs < 4294967296 := by decide +kernel
  obtain ⟨h0, h1, h2, h3, h4, h5, h6⟩ := this c hc
  exact ⟨h0, h1, h2, h3, h4, h5, h6⟩⟩
def l1W : List UInt8 := ovr L0 260 (leB 4 4294967289)
def l2W : List UInt8 := ovr l1W 272 (bytesC 256 0 256 320 27 0 0)
def f2W : Nat → Bool := fun j => decide (j = 17)
theorem l1W_len : l1W.length = 4096 := (ovr_length (by rw [L0_len]; decide)).trans L0_len
theorem sl2 : doL frA ⟨22, 3, 1, 0, 4⟩ 4096 L0 = l1W := by unfold doL; rw [if_pos ⟨st2, rfl⟩]; rfl
theorem sg2 (j : Nat) : doG frA ⟨22, 3, 1, 0, 4⟩ 4096 F0 j = F0 j := by unfold doG; rw [if_pos ⟨st2, rfl⟩]; unfold stoF; rw [if_neg (by simp)]; exact stF_F0 _ _ _ j
theorem ld4 : getB l1W (260 : Nat) 4 = 4294967289 := by
  unfold getB
  rw [if_pos (by rw [l1W_len]; decide)]
  show le ((l1W.drop 260).take 4) = _
  unfold l1W
  rw [ovr_get (by rw [L0_len]; decide) (by decide)]
  rfl
theorem sl5 : doL frB ⟨24, 1, 1, 0, 16⟩ 4096 l1W = l2W := by unfold doL; rw [if_pos ⟨st5, rfl⟩]; rfl
theorem sg5 (j : Nat) : doG frB ⟨24, 1, 1, 0, 16⟩ 4096 F0 j = f2W j := by
  unfold doG
  rw [if_pos ⟨st5, rfl⟩]
  show scF 4096 F0 272 (true && sndP 0 256 320 27 0 0) j = _
  rw [show (true && sndP 0 256 320 27 0 0) = true from by decide]
  unfold scF
  rw [if_pos (by decide)]
  simp [upd, clr, F0, f2W]
theorem ld6 : ldC l2W f2W 272 = c1C := by
  have h := nm_bytes (cu := 256) (e := 0) (b := 256) (t := 320) (pm := 27) (ty := 0) (rs := 0) (by decide) (by decide) (by decide) (by decide) (by decide) (by decide) (by decide)
  have hg : (l2W.drop 272).take 16 = bytesC 256 0 256 320 27 0 0 := by
    unfold l2W
    rw [ovr_get (by rw [l1W_len]; decide) (by rw [bytesC_length]; decide)]
    exact List.take_of_length_le (by rw [bytesC_length]; decide)
  unfold ldC
  rw [hg, h.1, h.2.1, h.2.2.1, h.2.2.2.1, h.2.2.2.2.1, h.2.2.2.2.2.1, h.2.2.2.2.2.2]
  rfl
theorem sf6 : doF frB ⟨23, 4, 1, 0, 16⟩ 4096 f2W l2W = (nxt frB).set 4 c1C := by
  unfold doF
  rw [st6, if_neg (by simp), if_neg (by unfold isY; simp), if_neg (by simp), if_neg (by simp), if_pos (by unfold isL; simp)]
  rw [show ldV l2W f2W (reg frB (1 : Int).toNat) (atN frB (1 : Int).toNat 16) 23 (widI 23).toNat = ldC l2W f2W 272 from by unfold ldV; rw [if_pos rfl, if_neg (by decide +kernel)]; rfl]
  rw [ld6]; rfl
theorem at_reg {w : World} {g : Nat} {F : List Cp} (h : (⟨g, fC F⟩ : Rw).at w) {i : Nat} {c : Cp} (hc : F[i]? = some c) :
    w.cell? ⟨g, i * 8, none⟩ = some (.int .u32 c.cu) ∧ w.cell? ⟨g, i * 8 + 1, none⟩ = some (.int .u8 c.e) ∧ w.cell? ⟨g, i * 8 + 2, none⟩ = some (.int .u16 c.b) ∧ w.cell? ⟨g, i * 8 + 3, none⟩ = some (.int .u16 c.t) ∧ w.cell? ⟨g, i * 8 + 4, none⟩ = some (.int .u16 c.pm) ∧ w.cell? ⟨g, i * 8 + 5, none⟩ = some (.int .u16 c.ty) ∧ w.cell? ⟨g, i * 8 + 6, none⟩ = some (.int .u32 c.rs) ∧ w.cell? ⟨g, i * 8 + 7, none⟩ = some (.bool c.va) :=
  ⟨h.2.2 _ _ ((fC_at F i 0 c (by decide) hc).trans rfl), h.2.2 _ _ ((fC_at F i 1 c (by decide) hc).trans rfl), h.2.2 _ _ ((fC_at F i 2 c (by decide) hc).trans rfl), h.2.2 _ _ ((fC_at F i 3 c (by decide) hc).trans rfl), h.2.2 _ _ ((fC_at F i 4 c (by decide) hc).trans rfl), h.2.2 _ _ ((fC_at F i 5 c (by decide) hc).trans rfl), h.2.2 _ _ ((fC_at F i 6 c (by decide) hc).trans rfl), h.2.2 _ _ ((fC_at F i 7 c (by decide) hc).trans rfl)⟩
theorem rs_range {x : Rw} {w : World} (h : x.at w) : w.rangeAt x.g 0 x.vs := fun j v hv => by rw [Nat.zero_add]; exact h.2.2 j v hv
theorem heap_setCells_ne (g : Nat) : ∀ (us : List Value) (k : Nat) (w : World) (j : Nat), j ≠ g → (w.setCells g k us).heap[j]? = w.heap[j]?
  | [], _, _, _, _ => rfl
  | u :: us, k, w, j, h => by
    rw [World.setCells, heap_setCells_ne g us (k + 1) _ j h]
    exact Below.heap_setCell _ _ _ _ h
theorem St.putA {W1 : World} {a mb wb bb c n g0 : Nat} {f : Nat → Bool} {l : List UInt8} {L : List Rw} {w : World} {g : Nat} {vs : List Value} (h : St W1 a mb wb bb c n g0 f l (⟨g, vs⟩ :: L) w) (us : List Value) (hg : W1.heap.size ≤ g) (hn : ∀ x, x ∈ L → x.g ≠ g) (hl : us.length = vs.length) (ha : g ≠ a ∧ g ≠ mb ∧ g ≠ wb ∧ g ≠ bb) :
    St W1 a mb wb bb c n g0 f l (⟨g, us⟩ :: L) (w.setCells g 0 us) := by
  obtain ⟨V, hV, hVb⟩ := cut_base (w6 := w) (B := W1.heap.size) h.of.size
  have k : KR V (⟨g, vs⟩ :: L) w := KR.mk (hV ▸ hVb) h.rs
  have k2 := k.putA us (by omega) hn hl
  have bs := below_setCells hg us 0 w
  exact ⟨h.ar.keep (fun j hj => heap_setCells_ne g us 0 w j (by omega)) bs.size, h.of.trans (Of2.of_below bs), fun x hx => k2.al x hx, fun x hx => by
    rcases List.mem_cons.1 hx with rfl | hx
    · exact ha.2.2
    · exact h.ne x (List.mem_cons_of_mem _ hx)⟩
set_option maxHeartbeats 16000000 in
theorem works10_any (W : World) (hT : Tabs W) : Calls Tryz.prog 15 #[] W fun e w' => e = .returned (.bool true) ∧ Below W.heap.size W w' := by
  have hA := Lib.hid (anew_yes 16 W (by decide) (by decide))
  have hFr := Lib.hid frame_any
  go_enter Tryz.func15, Tryz.ntmps15
  go_wp2_with fail
  refine hA.out.mono ?_
  rintro e w1 ⟨a, rfl, mb, wb, bb, c, ha, hb1, x1, x2, x3, x4⟩
  have S1 := Lib.hid (St.first (show ArAt w1 a mb wb bb c 4096 256 F0 L0 from ha))
  have T1 := Lib.hid (hT.below hb1)
  have hx := Lib.hid (And.intro hb1 (And.intro x3 x4))
  have hA1 := Lib.hid ha
  clear hA hb1 x1 x2 x3 x4 ha
  have D1 := Lib.hid (fun (w : World) (H : ArAt w a mb wb bb c 4096 256 F0 L0) (h : Tabs w) => (show Calls Tryz.prog 12 #[fV frL, iv ⟨1, 3, 0, 0, -7⟩, .pointer (some ⟨a, 0, none⟩)] w (Nxt a mb wb bb c 4096 256 F0 L0 w (.tuple #[fV frA, .int .i64 0])) from by
    have k := pDo_any H h frL frL_fit ⟨1, 3, 0, 0, -7⟩
    rw [st1, sf1, show doG frL ⟨1, 3, 0, 0, -7⟩ 4096 F0 = F0 from rfl, show doL frL ⟨1, 3, 0, 0, -7⟩ 4096 L0 = L0 from rfl] at k
    exact k))
  have D2 := Lib.hid (fun (w : World) (H : ArAt w a mb wb bb c 4096 256 F0 L0) (h : Tabs w) => (show Calls Tryz.prog 12 #[fV frA, iv ⟨22, 3, 1, 0, 4⟩, .pointer (some ⟨a, 0, none⟩)] w (Nxt a mb wb bb c 4096 256 F0 l1W w (.tuple #[fV frB, .int .i64 0])) from by
    have k := pDo_any H h frA frA_fit ⟨22, 3, 1, 0, 4⟩
    rw [st2, sf2, sl2, show doG frA ⟨22, 3, 1, 0, 4⟩ 4096 F0 = F0 from funext sg2] at k
    exact k))
  have D3 := Lib.hid (fun (w : World) (H : ArAt w a mb wb bb c 4096 256 F0 l1W) (h : Tabs w) => (show Calls Tryz.prog 12 #[fV frB, iv ⟨22, 3, 1, 0, 62⟩, .pointer (some ⟨a, 0, none⟩)] w (Nxt a mb wb bb c 4096 256 F0 l1W w (.tuple #[fV zF, .int .i64 4])) from by
    have k := pDo_any H h frB frB_fit ⟨22, 3, 1, 0, 62⟩
    rw [st3, show doF frB ⟨22, 3, 1, 0, 62⟩ 4096 F0 l1W = zF from if_pos (by rw [st3]; decide), show doG frB ⟨22, 3, 1, 0, 62⟩ 4096 F0 = F0 from if_neg (fun h => by rw [st3] at h; exact absurd h.1 (by decide)), show doL frB ⟨22, 3, 1, 0, 62⟩ 4096 l1W = l1W from if_neg (fun h => by rw [st3] at h; exact absurd h.1 (by decide))] at k
    exact k))
  have D4 := Lib.hid (fun (w : World) (H : ArAt w a mb wb bb c 4096 256 F0 l1W) (h : Tabs w) => (show Calls Tryz.prog 12 #[fV frB, iv ⟨53, 0, 0, 0, 0⟩, .pointer (some ⟨a, 0, none⟩)] w (Nxt a mb wb bb c 4096 256 F0 l1W w (.tuple #[fV zF, .int .i64 6])) from by
    have k := pDo_any H h frB frB_fit ⟨53, 0, 0, 0, 0⟩
    rw [st4, show doF frB ⟨53, 0, 0, 0, 0⟩ 4096 F0 l1W = zF from if_pos (by rw [st4]; decide), show doG frB ⟨53, 0, 0, 0, 0⟩ 4096 F0 = F0 from if_neg (fun h => by rw [st4] at h; exact absurd h.1 (by decide)), show doL frB ⟨53, 0, 0, 0, 0⟩ 4096 l1W = l1W from if_neg (fun h => by rw [st4] at h; exact absurd h.1 (by decide))] at k
    exact k))
  have D5 := Lib.hid (fun (w : World) (H : ArAt w a mb wb bb c 4096 256 F0 l1W) (h : Tabs w) => (show Calls Tryz.prog 12 #[fV frB, iv ⟨24, 1, 1, 0, 16⟩, .pointer (some ⟨a, 0, none⟩)] w (Nxt a mb wb bb c 4096 256 f2W l2W w (.tuple #[fV (nxt frB), .int .i64 0])) from by
    have k := pDo_any H h frB frB_fit ⟨24, 1, 1, 0, 16⟩
    rw [st5, sl5, show doG frB ⟨24, 1, 1, 0, 16⟩ 4096 F0 = f2W from funext sg5, show doF frB ⟨24, 1, 1, 0, 16⟩ 4096 F0 l1W = nxt frB from by unfold doF; rw [st5]; rfl] at k
    exact k))
  have D6 := Lib.hid (fun (w : World) (H : ArAt w a mb wb bb c 4096 256 f2W l2W) (h : Tabs w) => (show Calls Tryz.prog 12 #[fV frB, iv ⟨23, 4, 1, 0, 16⟩, .pointer (some ⟨a, 0, none⟩)] w (Nxt a mb wb bb c 4096 256 f2W l2W w (.tuple #[fV ((nxt frB).set 4 c1C), .int .i64 0])) from by
    have k := pDo_any H h frB frB_fit ⟨23, 4, 1, 0, 16⟩
    rw [st6, sf6, show doG frB ⟨23, 4, 1, 0, 16⟩ 4096 f2W = f2W from if_neg (fun h => absurd h.2 (by decide)), show doL frB ⟨23, 4, 1, 0, 16⟩ 4096 l2W = l2W from if_neg (fun h => absurd h.2 (by decide))] at k
    exact k))
  have lRB : frB.length = 17 := frB_fit.len
  have lRC : ((nxt frB).set 4 c1C).length = 17 := by rw [List.length_set]; unfold nxt; rw [List.length_set]; exact lRB
  have lRN : (nxt frB).length = 17 := by unfold nxt; rw [List.length_set]; exact lRB
  obtain ⟨RC, hRC⟩ : ∃ RC, RC = (nxt frB).set 4 c1C := ⟨_, rfl⟩
  rw [← hRC] at D6 lRC
  replace hRC := Lib.hid hRC
  generalize nxt frB = RN at *
  have hRBe : ∃ RB, RB = frB := ⟨_, rfl⟩
  go_wp2_with fail
  refine (hFr.out _).mono ?_
  rintro ee w2 ⟨rfl, g⟩
  have S2 := Lib.hid (S1.out.below g)
  have T2 := Lib.hid (T1.out.below g)
  clear g S1 T1 hFr
  have hRA : frA.length = 17 := frA_fit.len
  clear hRBe
  have eA3 := Lib.hid (show frA[3]? = some (numC 4294967289) from by kernel_rfl)
  have eA1 := Lib.hid (show frA[1]? = some c1C from by kernel_rfl)
  have eA16 := Lib.hid (show frA[16]? = some ⟨4, 0, 0, 64, 5, 0, 0, true⟩ from by kernel_rfl)
  have eB16 := Lib.hid (show frB[16]? = some ⟨8, 0, 0, 64, 5, 0, 0, true⟩ from by kernel_rfl)
  have eC4 := Lib.hid (show RC[4]? = some c1C from by rw [hRC.out]; rw [List.getElem?_set_self (by rw [lRN]; decide)])
  generalize frB = RB at *
  generalize frA = RA at *
  have TB := Lib.hid (fun (L : List Rw) (f : Nat → Bool) (l : List UInt8) (w : World) (S : St w1 a mb wb bb c 4096 256 f l L w) => hT.below (hx.out.1.trans (S.of.below hx.out.1.size hx.out.2.1 hx.out.2.2)))
  have hlt := Lib.hid (show a < w1.heap.size ∧ mb < w1.heap.size ∧ wb < w1.heap.size ∧ bb < w1.heap.size from ⟨hA1.out.la, hA1.out.m.lb, hA1.out.m.lw, hA1.out.lb⟩)
  have lRA : RA.length = 17 := hRA
  have lzF : zF.length = 17 := rfl
  clear T2
  go_wp2_with fail
  refine (D1.out _ S2.out.ar (TB.out _ _ _ _ S2.out)).mono ?_
  rintro ee w3 ⟨rfl, n1⟩
  have S3 := Lib.hid (S2.out.nxt n1)
  clear n1 S2 D1
  have sz_ := S3.out.of.size
  have ne_ := Lib.hid (fun (x : Rw) (hx : x ∈ []) => (S3.out.rs x hx).1)
  have P4 := S3.out.push (fC zF) 28
  have th : (w3.alloc (.cells Tryz.zeroCells28 28)).there w3.heap.size 0 (fC RA).toArray.size := by
    rw [show (fC RA).toArray.size = 136 from by rw [List.size_toArray, fC_len, lRA], zero_fr]
    exact at_there (P4.rs _ (List.mem_cons_self ..)) 136 (by rw [fC_len]; decide)
  have S4 := Lib.hid (P4.putA (fC RA) sz_ (fun x hx => Nat.ne_of_lt (ne_.out x hx)) (by rw [fC_len, fC_len, lRA]; rfl) (by have := hlt.out; omega))
  rw [← zero_fr] at S4
  have sa := size_fa lRA
  have oa := one_fr RA
  clear P4 ne_ S3
  go_wp2_with ((with_reducible show wpList _ _ _ _ _ _); first | (refine wpList_store_mid rfl 28 _ _ rfl w3.heap.size 0 (fC RA).toArray rfl rfl th sa oa ?_; clear th sa oa; change wpList _ _ _ _ _ ((w3.alloc (.cells Tryz.zeroCells28 28)).setCells w3.heap.size 0 (fC RA)); generalize (w3.alloc (.cells Tryz.zeroCells28 28)).setCells w3.heap.size 0 (fC RA) = w4 at S4 ⊢; generalize w3.heap.size = qa at S4 sz_ ⊢; have rgqa := rs_range (S4.out.rs ⟨qa, fC RA⟩ (by simp))) | (refine wpList_load_mid rfl 28 _ rfl qa 0 rfl (fC RA) _ rgqa Tryz.underlying28 rfl (size_fr lRA) ?_))
  clear sz_
  refine (D2.out _ S4.out.ar (TB.out _ _ _ _ S4.out)).mono ?_
  rintro ee w5 ⟨rfl, n1⟩
  have S5 := Lib.hid (S4.out.nxt n1)
  clear n1 rgqa S4 D2
  have sz_ := S5.out.of.size
  have ne_ := Lib.hid (fun (x : Rw) (hx : x ∈ [⟨qa, fC RA⟩]) => (S5.out.rs x hx).1)
  have P4 := S5.out.push (fC zF) 28
  have th : (w5.alloc (.cells Tryz.zeroCells28 28)).there w5.heap.size 0 (fC RB).toArray.size := by
    rw [show (fC RB).toArray.size = 136 from by rw [List.size_toArray, fC_len, lRB], zero_fr]
    exact at_there (P4.rs _ (List.mem_cons_self ..)) 136 (by rw [fC_len]; decide)
  have S6 := Lib.hid (P4.putA (fC RB) sz_ (fun x hx => Nat.ne_of_lt (ne_.out x hx)) (by rw [fC_len, fC_len, lRB]; rfl) (by have := hlt.out; omega))
  rw [← zero_fr] at S6
  have sa := size_fa lRB
  have oa := one_fr RB
  clear P4 ne_ S5
  go_wp2_with ((with_reducible show wpList _ _ _ _ _ _); first | (refine wpList_store_mid rfl 28 _ _ rfl w5.heap.size 0 (fC RB).toArray rfl rfl th sa oa ?_; clear th sa oa; change wpList _ _ _ _ _ ((w5.alloc (.cells Tryz.zeroCells28 28)).setCells w5.heap.size 0 (fC RB)); generalize (w5.alloc (.cells Tryz.zeroCells28 28)).setCells w5.heap.size 0 (fC RB) = w6 at S6 ⊢; generalize w5.heap.size = qb at S6 sz_ ⊢))
  clear sz_
  have hL := aload_any S6.out.ar 260 4 (by decide)
  rw [ld4] at hL
  refine hL.mono ?_
  rintro ee w7 ⟨rfl, g⟩
  have S7 := Lib.hid (S6.out.below g)
  clear g S6 hL
  have rgqb := rs_range (S7.out.rs ⟨qb, fC RB⟩ (by simp))
  go_wp2_with ((with_reducible show wpList _ _ _ _ _ _); first | (refine wpList_load_mid rfl 28 _ rfl qb 0 rfl (fC RB) _ rgqb Tryz.underlying28 rfl (size_fr lRB) ?_))
  refine (D3.out _ S7.out.ar (TB.out _ _ _ _ S7.out)).mono ?_
  rintro ee w8 ⟨rfl, n1⟩
  have S8 := Lib.hid (S7.out.nxt n1)
  clear n1 rgqb S7 D3
  have sz_ := S8.out.of.size
  have ne_ := Lib.hid (fun (x : Rw) (hx : x ∈ [⟨qb, fC RB⟩, ⟨qa, fC RA⟩]) => (S8.out.rs x hx).1)
  have P4 := S8.out.push (fC zF) 28
  have th : (w8.alloc (.cells Tryz.zeroCells28 28)).there w8.heap.size 0 (fC zF).toArray.size := by
    rw [show (fC zF).toArray.size = 136 from by rw [List.size_toArray, fC_len, lzF], zero_fr]
    exact at_there (P4.rs _ (List.mem_cons_self ..)) 136 (by rw [fC_len]; decide)
  have S9 := Lib.hid (P4.putA (fC zF) sz_ (fun x hx => Nat.ne_of_lt (ne_.out x hx)) rfl (by have := hlt.out; omega))
  rw [← zero_fr] at S9
  have sa := size_fa lzF
  have oa := one_fr zF
  clear P4 ne_ S8
  go_wp2_with ((with_reducible show wpList _ _ _ _ _ _); first | (refine wpList_store_mid rfl 28 _ _ rfl w8.heap.size 0 (fC zF).toArray rfl rfl th sa oa ?_; clear th sa oa; change wpList _ _ _ _ _ ((w8.alloc (.cells Tryz.zeroCells28 28)).setCells w8.heap.size 0 (fC zF)); generalize (w8.alloc (.cells Tryz.zeroCells28 28)).setCells w8.heap.size 0 (fC zF) = w9 at S9 ⊢; generalize w8.heap.size = qz at S9 sz_ ⊢; have rgqb := rs_range (S9.out.rs ⟨qb, fC RB⟩ (by simp))) | (refine wpList_load_mid rfl 28 _ rfl qb 0 rfl (fC RB) _ rgqb Tryz.underlying28 rfl (size_fr lRB) ?_))
  clear sz_
  refine (D4.out _ S9.out.ar (TB.out _ _ _ _ S9.out)).mono ?_
  rintro ee wA ⟨rfl, n1⟩
  have SA := Lib.hid (S9.out.nxt n1)
  clear n1 rgqb S9 D4
  have sz_ := SA.out.of.size
  have ne_ := Lib.hid (fun (x : Rw) (hx : x ∈ [⟨qz, fC zF⟩, ⟨qb, fC RB⟩, ⟨qa, fC RA⟩]) => (SA.out.rs x hx).1)
  have P4 := SA.out.push (fC zF) 28
  have th : (wA.alloc (.cells Tryz.zeroCells28 28)).there wA.heap.size 0 (fC zF).toArray.size := by
    rw [show (fC zF).toArray.size = 136 from by rw [List.size_toArray, fC_len, lzF], zero_fr]
    exact at_there (P4.rs _ (List.mem_cons_self ..)) 136 (by rw [fC_len]; decide)
  have SB := Lib.hid (P4.putA (fC zF) sz_ (fun x hx => Nat.ne_of_lt (ne_.out x hx)) rfl (by have := hlt.out; omega))
  rw [← zero_fr] at SB
  have sa := size_fa lzF
  have oa := one_fr zF
  clear P4 ne_ SA
  go_wp2_with ((with_reducible show wpList _ _ _ _ _ _); first | (refine wpList_store_mid rfl 28 _ _ rfl wA.heap.size 0 (fC zF).toArray rfl rfl th sa oa ?_; clear th sa oa; change wpList _ _ _ _ _ ((wA.alloc (.cells Tryz.zeroCells28 28)).setCells wA.heap.size 0 (fC zF)); generalize (wA.alloc (.cells Tryz.zeroCells28 28)).setCells wA.heap.size 0 (fC zF) = wB at SB ⊢; generalize wA.heap.size = qy at SB sz_ ⊢; have rgqb := rs_range (SB.out.rs ⟨qb, fC RB⟩ (by simp))) | (refine wpList_load_mid rfl 28 _ rfl qb 0 rfl (fC RB) _ rgqb Tryz.underlying28 rfl (size_fr lRB) ?_))
  clear sz_
  refine (D5.out _ SB.out.ar (TB.out _ _ _ _ SB.out)).mono ?_
  rintro ee wC ⟨rfl, n1⟩
  have SC := Lib.hid (SB.out.nxt n1)
  clear n1 rgqb SB D5
  have sz_ := SC.out.of.size
  have ne_ := Lib.hid (fun (x : Rw) (hx : x ∈ [⟨qy, fC zF⟩, ⟨qz, fC zF⟩, ⟨qb, fC RB⟩, ⟨qa, fC RA⟩]) => (SC.out.rs x hx).1)
  have P4 := SC.out.push (fC zF) 28
  have th : (wC.alloc (.cells Tryz.zeroCells28 28)).there wC.heap.size 0 (fC RN).toArray.size := by
    rw [show (fC RN).toArray.size = 136 from by rw [List.size_toArray, fC_len, lRN], zero_fr]
    exact at_there (P4.rs _ (List.mem_cons_self ..)) 136 (by rw [fC_len]; decide)
  have SD := Lib.hid (P4.putA (fC RN) sz_ (fun x hx => Nat.ne_of_lt (ne_.out x hx)) (by rw [fC_len, fC_len, lRN]; rfl) (by have := hlt.out; omega))
  rw [← zero_fr] at SD
  have sa := size_fa lRN
  have oa := one_fr RN
  clear P4 ne_ SC
  go_wp2_with ((with_reducible show wpList _ _ _ _ _ _); first | (refine wpList_store_mid rfl 28 _ _ rfl wC.heap.size 0 (fC RN).toArray rfl rfl th sa oa ?_; clear th sa oa; change wpList _ _ _ _ _ ((wC.alloc (.cells Tryz.zeroCells28 28)).setCells wC.heap.size 0 (fC RN)); generalize (wC.alloc (.cells Tryz.zeroCells28 28)).setCells wC.heap.size 0 (fC RN) = wD at SD ⊢; generalize wC.heap.size = qx at SD sz_ ⊢; have rgqb := rs_range (SD.out.rs ⟨qb, fC RB⟩ (by simp))) | (refine wpList_load_mid rfl 28 _ rfl qb 0 rfl (fC RB) _ rgqb Tryz.underlying28 rfl (size_fr lRB) ?_))
  clear sz_
  refine (D6.out _ SD.out.ar (TB.out _ _ _ _ SD.out)).mono ?_
  rintro ee wE ⟨rfl, n1⟩
  have SE := Lib.hid (SD.out.nxt n1)
  clear n1 rgqb SD D6
  have sz_ := SE.out.of.size
  have ne_ := Lib.hid (fun (x : Rw) (hx : x ∈ [⟨qx, fC RN⟩, ⟨qy, fC zF⟩, ⟨qz, fC zF⟩, ⟨qb, fC RB⟩, ⟨qa, fC RA⟩]) => (SE.out.rs x hx).1)
  have P4 := SE.out.push (fC zF) 28
  have th : (wE.alloc (.cells Tryz.zeroCells28 28)).there wE.heap.size 0 (fC RC).toArray.size := by
    rw [show (fC RC).toArray.size = 136 from by rw [List.size_toArray, fC_len, lRC], zero_fr]
    exact at_there (P4.rs _ (List.mem_cons_self ..)) 136 (by rw [fC_len]; decide)
  have SF := Lib.hid (P4.putA (fC RC) sz_ (fun x hx => Nat.ne_of_lt (ne_.out x hx)) (by rw [fC_len, fC_len, lRC]; rfl) (by have := hlt.out; omega))
  rw [← zero_fr] at SF
  have sa := size_fa lRC
  have oa := one_fr RC
  clear P4 ne_ SE
  go_wp2_with ((with_reducible show wpList _ _ _ _ _ _); first | (refine wpList_store_mid rfl 28 _ _ rfl wE.heap.size 0 (fC RC).toArray rfl rfl th sa oa ?_; clear th sa oa; change wpList _ _ _ _ _ ((wE.alloc (.cells Tryz.zeroCells28 28)).setCells wE.heap.size 0 (fC RC)); generalize (wE.alloc (.cells Tryz.zeroCells28 28)).setCells wE.heap.size 0 (fC RC) = wF at SF ⊢; generalize wE.heap.size = qc at SF sz_ ⊢))
  clear sz_
  obtain ⟨S, hS0⟩ : ∃ S : World → Prop, S = fun w => RS [⟨qc, fC RC⟩, ⟨qb, fC RB⟩, ⟨qa, fC RA⟩] w ∧ Below W.heap.size W w := ⟨_, rfl⟩
  have hK : ∀ w, S w → RS [⟨qc, fC RC⟩, ⟨qb, fC RB⟩, ⟨qa, fC RA⟩] w ∧ Below W.heap.size W w := fun w h => by rw [hS0] at h; exact h
  have hSb : ∀ u v, S u → Below u.heap.size u v → S v := fun u v h k => by rw [hS0] at h ⊢; exact ⟨h.1.below k, h.2.trans (k.mono h.2.size)⟩
  have s0 : S wF := by
    rw [hS0]
    refine ⟨fun x hx => SF.out.rs x ?_, hx.out.1.trans (SF.out.of.below hx.out.1.size hx.out.2.1 hx.out.2.2)⟩
    simp only [List.mem_cons, List.not_mem_nil, or_false] at hx ⊢
    rcases hx with rfl | rfl | rfl <;> simp
  clear hS0
  have hNm := Lib.hid (fun w => pNumber_any 4294967289 (by decide) w)
  have cN := Lib.hid (cls_call (S := S) fun w hw => (hNm.out w).mono fun e w' k => (⟨k.1, hSb _ _ hw k.2⟩ : _ ∧ S w'))
  have hE1 : ∀ w, (Op.equalIn 10000 25 (.agg #[.int .u32 4294967289, .int .u8 0, .int .u16 0, .int .u16 0, .int .u16 0, .int .u16 0, .int .u32 0, .bool false]) (.agg #[.int .u32 4294967289, .int .u8 0, .int .u16 0, .int .u16 0, .int .u16 0, .int .u16 0, .int .u32 0, .bool false])).run Tryz.prog w = .ok true w := fun w => (cap_eq 4294967289 0 0 0 0 0 0 false 4294967289 0 0 0 0 0 0 false w).trans (by simp)
  have hE2 : ∀ w, (Op.equalIn 10000 25 (.agg #[.int .u32 256, .int .u8 0, .int .u16 256, .int .u16 320, .int .u16 27, .int .u16 0, .int .u32 0, .bool true]) (.agg #[.int .u32 256, .int .u8 0, .int .u16 256, .int .u16 320, .int .u16 27, .int .u16 0, .int .u32 0, .bool true])).run Tryz.prog w = .ok true w := fun w => (cap_eq 256 0 256 320 27 0 0 true 256 0 256 320 27 0 0 true w).trans (by simp)
  have a0 : ∀ y : Wd S, y.w.cell? ⟨qa, 24, none⟩ = some (.int .u32 4294967289) := fun y => (at_reg ((hK _ y.h).1 ⟨qa, fC RA⟩ (by simp)) eA3.out).1
  have a1 : ∀ y : Wd S, y.w.cell? ⟨qa, 25, none⟩ = some (.int .u8 0) := fun y => (at_reg ((hK _ y.h).1 ⟨qa, fC RA⟩ (by simp)) eA3.out).2.1
  have a2 : ∀ y : Wd S, y.w.cell? ⟨qa, 26, none⟩ = some (.int .u16 0) := fun y => (at_reg ((hK _ y.h).1 ⟨qa, fC RA⟩ (by simp)) eA3.out).2.2.1
  have a3 : ∀ y : Wd S, y.w.cell? ⟨qa, 27, none⟩ = some (.int .u16 0) := fun y => (at_reg ((hK _ y.h).1 ⟨qa, fC RA⟩ (by simp)) eA3.out).2.2.2.1
  have a4 : ∀ y : Wd S, y.w.cell? ⟨qa, 28, none⟩ = some (.int .u16 0) := fun y => (at_reg ((hK _ y.h).1 ⟨qa, fC RA⟩ (by simp)) eA3.out).2.2.2.2.1
  have a5 : ∀ y : Wd S, y.w.cell? ⟨qa, 29, none⟩ = some (.int .u16 0) := fun y => (at_reg ((hK _ y.h).1 ⟨qa, fC RA⟩ (by simp)) eA3.out).2.2.2.2.2.1
  have a6 : ∀ y : Wd S, y.w.cell? ⟨qa, 30, none⟩ = some (.int .u32 0) := fun y => (at_reg ((hK _ y.h).1 ⟨qa, fC RA⟩ (by simp)) eA3.out).2.2.2.2.2.2.1
  have a7 : ∀ y : Wd S, y.w.cell? ⟨qa, 31, none⟩ = some (.bool false) := fun y => (at_reg ((hK _ y.h).1 ⟨qa, fC RA⟩ (by simp)) eA3.out).2.2.2.2.2.2.2
  have b0 : ∀ y : Wd S, y.w.cell? ⟨qa, 8, none⟩ = some (.int .u32 256) := fun y => (at_reg ((hK _ y.h).1 ⟨qa, fC RA⟩ (by simp)) eA1.out).1
  have b1 : ∀ y : Wd S, y.w.cell? ⟨qa, 9, none⟩ = some (.int .u8 0) := fun y => (at_reg ((hK _ y.h).1 ⟨qa, fC RA⟩ (by simp)) eA1.out).2.1
  have b2 : ∀ y : Wd S, y.w.cell? ⟨qa, 10, none⟩ = some (.int .u16 256) := fun y => (at_reg ((hK _ y.h).1 ⟨qa, fC RA⟩ (by simp)) eA1.out).2.2.1
  have b3 : ∀ y : Wd S, y.w.cell? ⟨qa, 11, none⟩ = some (.int .u16 320) := fun y => (at_reg ((hK _ y.h).1 ⟨qa, fC RA⟩ (by simp)) eA1.out).2.2.2.1
  have b4 : ∀ y : Wd S, y.w.cell? ⟨qa, 12, none⟩ = some (.int .u16 27) := fun y => (at_reg ((hK _ y.h).1 ⟨qa, fC RA⟩ (by simp)) eA1.out).2.2.2.2.1
  have b5 : ∀ y : Wd S, y.w.cell? ⟨qa, 13, none⟩ = some (.int .u16 0) := fun y => (at_reg ((hK _ y.h).1 ⟨qa, fC RA⟩ (by simp)) eA1.out).2.2.2.2.2.1
  have b6 : ∀ y : Wd S, y.w.cell? ⟨qa, 14, none⟩ = some (.int .u32 0) := fun y => (at_reg ((hK _ y.h).1 ⟨qa, fC RA⟩ (by simp)) eA1.out).2.2.2.2.2.2.1
  have b7 : ∀ y : Wd S, y.w.cell? ⟨qa, 15, none⟩ = some (.bool true) := fun y => (at_reg ((hK _ y.h).1 ⟨qa, fC RA⟩ (by simp)) eA1.out).2.2.2.2.2.2.2
  have d0 : ∀ y : Wd S, y.w.cell? ⟨qc, 32, none⟩ = some (.int .u32 256) := fun y => (at_reg ((hK _ y.h).1 ⟨qc, fC RC⟩ (by simp)) eC4.out).1
  have d1 : ∀ y : Wd S, y.w.cell? ⟨qc, 33, none⟩ = some (.int .u8 0) := fun y => (at_reg ((hK _ y.h).1 ⟨qc, fC RC⟩ (by simp)) eC4.out).2.1
  have d2 : ∀ y : Wd S, y.w.cell? ⟨qc, 34, none⟩ = some (.int .u16 256) := fun y => (at_reg ((hK _ y.h).1 ⟨qc, fC RC⟩ (by simp)) eC4.out).2.2.1
  have d3 : ∀ y : Wd S, y.w.cell? ⟨qc, 35, none⟩ = some (.int .u16 320) := fun y => (at_reg ((hK _ y.h).1 ⟨qc, fC RC⟩ (by simp)) eC4.out).2.2.2.1
  have d4 : ∀ y : Wd S, y.w.cell? ⟨qc, 36, none⟩ = some (.int .u16 27) := fun y => (at_reg ((hK _ y.h).1 ⟨qc, fC RC⟩ (by simp)) eC4.out).2.2.2.2.1
  have d5 : ∀ y : Wd S, y.w.cell? ⟨qc, 37, none⟩ = some (.int .u16 0) := fun y => (at_reg ((hK _ y.h).1 ⟨qc, fC RC⟩ (by simp)) eC4.out).2.2.2.2.2.1
  have d6 : ∀ y : Wd S, y.w.cell? ⟨qc, 38, none⟩ = some (.int .u32 0) := fun y => (at_reg ((hK _ y.h).1 ⟨qc, fC RC⟩ (by simp)) eC4.out).2.2.2.2.2.2.1
  have d7 : ∀ y : Wd S, y.w.cell? ⟨qc, 39, none⟩ = some (.bool true) := fun y => (at_reg ((hK _ y.h).1 ⟨qc, fC RC⟩ (by simp)) eC4.out).2.2.2.2.2.2.2
  have pA : ∀ y : Wd S, y.w.cell? ⟨qa, 128, none⟩ = some (.int .u32 4) := fun y => (at_reg ((hK _ y.h).1 ⟨qa, fC RA⟩ (by simp)) eA16.out).1
  have pB : ∀ y : Wd S, y.w.cell? ⟨qb, 128, none⟩ = some (.int .u32 8) := fun y => (at_reg ((hK _ y.h).1 ⟨qb, fC RB⟩ (by simp)) eB16.out).1
  have HS := Lib.hid hSb
  have HK := Lib.hid hK
  clear hK hSb SF TB
  refine region_cls S (by kernel_rfl) (by kernel_rfl) (HS.out _ _ s0 (Below.refl _ _).drew) ?_
  repeat (first
    | go_big_quiet_skip
    | (go_big_quiet_want
       go_big_quiet_op
       first
       | go_big_quiet_on
       | (apply Exists.intro
          refine ⟨fun y => ?_, ?_⟩
          · first | exact rfl | with_reducible exact cN.out y | exact cN.out y
          go_big_quiet_on)))
  refine wpQuiet_nil ?_
  intro y
  have hB := Lib.hid (HK.out _ y.h).2
  generalize y.w = wG at hB ⊢
  go_wp2_with fail
  go_ret
  exact ⟨rfl, hB.out⟩
end Go.Proofs.YtkmgdfcambdeeaaGreatDoor
namespace Go.Proofs.YtkmgdfcambdeeaaGreatDoor
set_option maxRecDepth 100000
open Go.RowKit
set_option linter.unusedVariables false
theorem reg_set {F : List Cp} {i : Nat} (h : i < F.length) (c : Cp) (k : Nat) : reg (F.set i c) k = if k = i then c else reg F k := by
  unfold reg
  rw [List.getD_eq_getElem?_getD, List.getD_eq_getElem?_getD]
  by_cases e : k = i
  · subst e
    rw [if_pos rfl, List.getElem?_set_self h]; rfl
  · rw [if_neg e, List.getElem?_set_ne (fun q => e q.symm)]
theorem reg_zF (k : Nat) : reg zF k = zC := by
  unfold reg
  rw [List.getD_eq_getElem?_getD]
  cases e : zF[k]? with
  | none => rfl
  | some c => exact List.eq_of_mem_replicate (List.mem_of_getElem? e)
theorem deB_lt (e b t c : Nat) : 0 ≤ deB e b t c ∧ deB e b t c < 4294967296 := by
  have := te_bounds e b t c
  unfold deB
  split <;> omega
theorem fur_fit {F : List Cp} (hF : Fit F) (n : Int) : (fur F n).fit :=
  chg_fit (what := 0) (y := zC) (hF.reg 16) ⟨by decide, by decide, by decide, by decide, by decide, by decide, by decide⟩ (by omega)
theorem nxt_fit {F : List Cp} (hF : Fit F) : Fit (nxt F) := hF.set 16 (fur_fit hF 1)
theorem fit_ite {p : Prop} [Decidable p] {a b : Cp} (ha : a.fit) (hb : b.fit) : (if p then a else b).fit := by
  by_cases h : p
  · rw [if_pos h]; exact ha
  · rw [if_neg h]; exact hb
theorem dDer_fit {F : List Cp} (hF : Fit F) (op : Int) {b c : Cp} (hb : b.fit) (hc : c.fit) (m : Int) : (dDer F op b c m).fit := by
  have zf : zC.fit := ⟨by decide, by decide, by decide, by decide, by decide, by decide, by decide⟩
  have h4 := hb.l4
  have h5 := hb.l5
  have hd := deB_lt b.e b.b b.t b.cu
  unfold dDer
  refine fit_ite (numC_fit (by omega)) ?_
  refine fit_ite (numC_fit (by omega)) ?_
  refine fit_ite (numC_fit (by omega)) ?_
  refine fit_ite (hb) ?_
  refine fit_ite (chg_fit (what := 7) (n := 0) (y := zC) hb zf (by decide)) ?_
  refine fit_ite (chg_fit (what := 0) (y := zC) hb zf (by omega)) ?_
  refine fit_ite (chg_fit (what := 0) (y := zC) hb zf (by omega)) ?_
  refine fit_ite (chg_fit (what := 0) (y := zC) hb zf hc.l0) ?_
  refine fit_ite (chg_fit (what := 1) (y := zC) hb zf hc.l0) ?_
  refine fit_ite (chg_fit (what := 2) (y := zC) hb zf hc.l0) ?_
  refine fit_ite (chg_fit (what := 3) (y := zC) hb zf hc.l0) ?_
  refine fit_ite (chg_fit (what := 4) (n := 0) hb hc (by decide)) ?_
  refine fit_ite (chg_fit (what := 5) (n := 0) hb hc (by decide)) ?_
  refine fit_ite (chg_fit (what := 6) (n := 0) (c := b) (y := c) hb hc (by decide)) ?_
  refine fit_ite (numC_fit hb.l0) ?_
  refine fit_ite (numC_fit (by omega)) ?_
  refine fit_ite (numC_fit (by omega)) ?_
  refine fit_ite (numC_fit (by omega)) ?_
  refine fit_ite (numC_fit (by omega)) ?_
  refine fit_ite (numC_fit (by split <;> decide)) ?_
  refine fit_ite (numC_fit (by split <;> decide)) ?_
  refine fit_ite (fur_fit hF m) ?_
  exact zf
theorem widI_le (op : Int) : (widI op).toNat ≤ 16 := by
  unfold widI
  repeat' split
  all_goals decide
theorem ldV_fit (l : List UInt8) (f : Nat → Bool) (b : Cp) (x : Nat) (op : Int) (n : Nat) (h : op = 23 ∨ n ≤ 4) : (ldV l f b x op n).fit := by
  unfold ldV
  split
  · split
    · exact chg_fit (what := 7) (n := 0) (y := zC) (ldC_fit l f x) ⟨by decide, by decide, by decide, by decide, by decide, by decide, by decide⟩ (by decide)
    · exact ldC_fit l f x
  · rename_i h1
    rcases h with h | h
    · exact absurd h h1
    · exact numC_fit (getB_lt l x n h)
theorem doF_fit {F : List Cp} (hF : Fit F) (i : Ins) (N : Nat) (f : Nat → Bool) (l : List UInt8) : Fit (doF F i N f l) := by
  unfold doF
  split; · exact zF_fit
  split; · exact hF
  split; · exact ((nxt_fit hF).set _ (fur_fit hF 1)).set _ (fur_fit hF i.m)
  split; · exact ((nxt_fit hF).set _ (fur_fit hF 1)).set _ (hF.reg _)
  split
  · rename_i h
    refine (nxt_fit hF).set _ (ldV_fit _ _ _ _ _ _ ?_)
    have := of_decide_eq_true h
    rcases this with h | h | h | h
    · exact .inr (by rw [h]; decide)
    · exact .inr (by rw [h]; decide)
    · exact .inr (by rw [h]; decide)
    · exact .inl h
  split; · exact nxt_fit hF
  split
  · split
    · exact (nxt_fit hF).set _ (fur_fit hF i.m)
    · exact nxt_fit hF
  split
  · exact (nxt_fit hF).set _ (numC_fit (valR_lt _ _ _ (hF.reg _).l0 (hF.reg _).l0))
  exact (nxt_fit hF).set _ (dDer_fit hF _ (hF.reg _) (hF.reg _) _)
/-- c lies within a valid register of F. -/
def From (F : List Cp) (c : Cp) : Prop := ∃ j, j < 17 ∧ (reg F j).va = true ∧ c.inn (reg F j) = true
theorem From.self {F : List Cp} {j : Nat} (h : j < 17) (hv : (reg F j).va = true) : From F (reg F j) := ⟨j, h, hv, Cp.inn_refl _⟩
theorem fur_from {F : List Cp} (hF : Fit F) {n : Int} (hv : (fur F n).va = true) : From F (fur F n) := by
  have := chg_less (what := 0) (y := zC) (hF.reg 16) (show (chg 0 _ (reg F 16) zC).va = true from hv)
  exact ⟨16, by decide, this.1, this.2⟩
theorem from_ite {F : List Cp} {p : Prop} [Decidable p] {a b : Cp} (ha : a.va = true → From F a) (hb : b.va = true → From F b) : (if p then a else b).va = true → From F (if p then a else b) := by
  by_cases h : p
  · rw [if_pos h]; exact ha
  · rw [if_neg h]; exact hb
theorem dDer_from {F : List Cp} (hF : Fit F) {op : Int} {B C : Nat} (hB : B < 16) {m : Int} : (dDer F op (reg F B) (reg F C) m).va = true → From F (dDer F op (reg F B) (reg F C) m) := by
  have go : ∀ (what : Int) (n : Nat) (y : Cp), (chg what n (reg F B) y).va = true → From F (chg what n (reg F B) y) := fun what n y h =>
    ⟨B, by omega, (chg_less (hF.reg B) h).1, (chg_less (hF.reg B) h).2⟩
  have no : ∀ v, (numC v).va = true → From F (numC v) := fun v h => by cases h
  unfold dDer
  refine from_ite (no _) ?_
  refine from_ite (no _) ?_
  refine from_ite (no _) ?_
  refine from_ite (fun h => From.self (by omega) h) ?_
  refine from_ite (fun h => by cases h) ?_
  refine from_ite (fun h => go 0 _ zC h) ?_
  refine from_ite (fun h => go 0 _ zC h) ?_
  refine from_ite (fun h => go 0 _ zC h) ?_
  refine from_ite (fun h => go 1 _ zC h) ?_
  refine from_ite (fun h => go 2 _ zC h) ?_
  refine from_ite (fun h => go 3 _ zC h) ?_
  refine from_ite (fun h => go 4 0 _ h) ?_
  refine from_ite (fun h => go 5 0 _ h) ?_
  refine from_ite (fun h => go 6 0 _ h) ?_
  refine from_ite (no _) ?_
  refine from_ite (no _) ?_
  refine from_ite (no _) ?_
  refine from_ite (no _) ?_
  refine from_ite (no _) ?_
  refine from_ite (no _) ?_
  refine from_ite (no _) ?_
  refine from_ite (fun h => fur_from hF h) ?_
  intro h
  cases h
/-- What stands in a granule that is tagged. -/
def InMem (N : Nat) (f : Nat → Bool) (l : List UInt8) (c : Cp) : Prop := ∃ y, 16 * y + 16 ≤ N ∧ f y = true ∧ c = ldC l f (16 * y)
theorem wid_pos {op : Int} (h : isL op = true ∨ isS op = true) : 0 < (widI op).toNat := by
  unfold isL isS at h
  simp only [decide_eq_true_eq] at h
  rcases h with (rfl | rfl | rfl | rfl) | rfl | rfl | rfl | rfl <;> decide
theorem mem_open {F : List Cp} {i : Ins} {N : Nat} (h : doT F i N = 0) (hm : isL i.op = true ∨ isS i.op = true) : memT F i N = 0 := by
  unfold doT at h
  split at h
  · exact absurd h (by decide)
  · rw [if_pos (by rcases hm with k | k <;> simp [k])] at h
    exact h
theorem doT_may {F : List Cp} {i : Ins} {N : Nat} (h : doT F i N = 0) : mayB i = true ∧ i.op ≠ 53 := by
  unfold doT at h
  split at h
  · exact absurd h (by decide)
  · rename_i k
    simp only [Bool.not_eq_false, Bool.and_eq_true, decide_eq_true_eq] at k
    exact k
theorem ldV_from {F : List Cp} {i : Ins} {N : Nat} {f : Nat → Bool} {l : List UInt8} (h : doT F i N = 0) (hl : isL i.op = true) (hv : (ldV l f (reg F i.b.toNat) (atN F i.b.toNat i.m) i.op (widI i.op).toNat).va = true) :
    InMem N f l (ldV l f (reg F i.b.toNat) (atN F i.b.toNat i.m) i.op (widI i.op).toNat) := by
  have ho := mem_open h (.inl hl)
  unfold ldV at hv ⊢
  split at hv
  · rename_i h23
    rw [if_pos h23]
    split at hv
    · cases hv
    · rename_i h8
      rw [if_neg h8]
      have hw := way_open (show wayT _ _ _ _ _ = 0 from ho)
      rw [h23, show (widI 23).toNat = 16 from by decide] at hw
      obtain ⟨y, hy⟩ : ∃ y, atN F i.b.toNat i.m = 16 * y := ⟨atN F i.b.toNat i.m / 16, by omega⟩
      rw [hy] at hv hw ⊢
      refine ⟨y, hw.1, ?_, rfl⟩
      have : (f (16 * y / 16) && _) = true := hv
      rw [Bool.and_eq_true, Nat.mul_div_cancel_left y (by decide)] at this
      exact this.1
  · cases hv
/-- What a register holds behind an instruction. -/
theorem doF_from {F : List Cp} (hF : Fit F) {i : Ins} {N : Nat} {f : Nat → Bool} {l : List UInt8} (h : doT F i N = 0) (k : Nat) (hk : k < 17) (hv : (reg (doF F i N f l) k).va = true) :
    (k < 16 ∧ reg (doF F i N f l) k = reg F k) ∨ From F (reg (doF F i N f l) k) ∨ (k < 16 ∧ InMem N f l (reg (doF F i N f l) k)) := by
  have hm := doT_may h
  have hfl := (may_flds hm.1)
  have hl17 := hF.len
  have ln : (nxt F).length = 17 := (nxt_fit hF).len
  have en : ∀ k, reg (nxt F) k = if k = 16 then fur F 1 else reg F k := fun k => reg_set (by omega) _ k
  have hn : ∀ k, k < 17 → (reg (nxt F) k).va = true → (k < 16 ∧ reg (nxt F) k = reg F k) ∨ From F (reg (nxt F) k) := fun k hk hv => by
    rw [en] at hv ⊢
    split at hv
    · rename_i e; rw [if_pos e]; exact .inr (fur_from hF hv)
    · rename_i e; rw [if_neg e]; exact .inl ⟨by omega, rfl⟩
  have hset : ∀ (a : Nat) (x : Cp), a < 16 → (x.va = true → From F x ∨ InMem N f l x) → (reg ((nxt F).set a x) k).va = true →
      (k < 16 ∧ reg ((nxt F).set a x) k = reg F k) ∨ From F (reg ((nxt F).set a x) k) ∨ (k < 16 ∧ InMem N f l (reg ((nxt F).set a x) k)) := fun a x ha hx hv => by
    rw [reg_set (by omega)] at hv ⊢
    split at hv
    · rename_i e
      rw [if_pos e]
      rcases hx hv with q | q
      · exact .inr (.inl q)
      · exact .inr (.inr ⟨by omega, q⟩)
    · rename_i e
      rw [if_neg e]
      rcases hn k hk hv with q | q
      · exact .inl q
      · exact .inr (.inl q)
  have hset2 : ∀ (a : Nat) (x z : Cp), a < 16 → (x.va = true → From F x) → (z.va = true → From F z) → (reg (((nxt F).set a x).set 16 z) k).va = true →
      (k < 16 ∧ reg (((nxt F).set a x).set 16 z) k = reg F k) ∨ From F (reg (((nxt F).set a x).set 16 z) k) ∨ (k < 16 ∧ InMem N f l (reg (((nxt F).set a x).set 16 z) k)) := fun a x z ha hx hz hv => by
    rw [reg_set (by rw [List.length_set]; omega)] at hv ⊢
    split at hv
    · rename_i e
      rw [if_pos e]
      exact .inr (.inl (hz hv))
    · rename_i e
      rw [if_neg e]
      exact hset a x ha (fun q => .inl (hx q)) hv
  have hA : i.a.toNat < 16 := by omega
  have hB : i.b.toNat < 16 := by omega
  unfold doF at hv ⊢
  rw [if_neg (fun q => q h)] at hv ⊢
  split at hv
  · rename_i e
    rw [if_pos e]
    by_cases k16 : k = 16
    · rw [k16] at hv ⊢; exact .inr (.inl (From.self (by decide) hv))
    · exact .inl ⟨by omega, rfl⟩
  rename_i e; rw [if_neg e]; clear e
  split at hv
  · rename_i e; rw [if_pos e]; exact hset2 _ _ _ hA (fun q => fur_from hF q) (fun q => fur_from hF q) hv
  rename_i e; rw [if_neg e]; clear e
  split at hv
  · rename_i e; rw [if_pos e]; exact hset2 _ _ _ hA (fun q => fur_from hF q) (fun q => From.self (by omega) q) hv
  rename_i e; rw [if_neg e]; clear e
  split at hv
  · rename_i e; rw [if_pos e]; exact hset _ _ hA (fun q => .inr (ldV_from h e q)) hv
  rename_i e; rw [if_neg e]; clear e
  split at hv
  · rename_i e
    rw [if_pos e]
    rcases hn k hk hv with q | q
    · exact .inl q
    · exact .inr (.inl q)
  rename_i e; rw [if_neg e]; clear e
  split at hv
  · rename_i e
    rw [if_pos e]
    split at hv
    · rename_i e2
      rw [if_pos e2]
      rw [reg_set (by omega)] at hv ⊢
      split at hv
      · rename_i e3; rw [if_pos e3]; exact .inr (.inl (fur_from hF hv))
      · rename_i e3
        rw [if_neg e3]
        rcases hn k hk hv with q | q
        · exact .inl q
        · exact .inr (.inl q)
    · rename_i e2
      rw [if_neg e2]
      rcases hn k hk hv with q | q
      · exact .inl q
      · exact .inr (.inl q)
  rename_i e; rw [if_neg e]; clear e
  split at hv
  · rename_i e; rw [if_pos e]; exact hset _ _ hA (fun q => by cases q) hv
  rename_i e; rw [if_neg e]; clear e
  exact hset _ _ hA (fun q => .inl (dDer_from hF hB q)) hv
/-- What was laid elsewhere leaves what is here. -/
theorem ovr_far10 {l b : List UInt8} {k p m : Nat} (hk : p + b.length ≤ l.length) (h : p + b.length ≤ k ∨ k + m ≤ p) : ((ovr l p b).drop k).take m = (l.drop k).take m := by
  apply List.ext_getElem?
  intro i
  rw [List.getElem?_take, List.getElem?_take]
  by_cases hi : i < m
  · rw [if_pos hi, if_pos hi, List.getElem?_drop, List.getElem?_drop, ovr_at hk]
    by_cases h1 : k + i < p
    · rw [if_pos h1]
    · rw [if_neg h1, if_neg (by omega)]
  · rw [if_neg hi, if_neg hi]
theorem ldC_eq {l l' : List UInt8} {f f' : Nat → Bool} {y : Nat} (h1 : (l'.drop (16 * y)).take 16 = (l.drop (16 * y)).take 16) (h2 : f' y = f y) : ldC l' f' (16 * y) = ldC l f (16 * y) := by
  unfold ldC
  rw [h1, Nat.mul_div_cancel_left y (by decide : 0 < 16), h2]
theorem ldC_own {o : Cp} (ho : o.fit) {l : List UInt8} {f : Nat → Bool} {y : Nat} (h : (l.drop (16 * y)).take 16 = bytesC o.cu o.e o.b o.t o.pm o.ty o.rs) (hs : (o.va && sndP o.e o.b o.t o.pm o.ty o.rs) = true) (hf : f y = true) : ldC l f (16 * y) = o := by
  rw [Bool.and_eq_true] at hs
  have h6 := (of_decide_eq_true hs.2).2.2.2.2.2
  obtain ⟨m0, m1, m2, m3, m4, m5, m6⟩ := nm_bytes (cu := o.cu) (e := o.e) (b := o.b) (t := o.t) (pm := o.pm) (ty := o.ty) (rs := o.rs) ho.l0 ho.l1 ho.l2 ho.l3 ho.l4 ho.l5 h6
  unfold ldC
  rw [h, m0, m1, m2, m3, m4, m5, m6, Nat.mul_div_cancel_left y (by decide : 0 < 16), hf, hs.2]
  obtain ⟨cu, e, b, t, pm, ty, rs, va⟩ := o
  simp only at hs
  rw [hs.1]; rfl
theorem ovr_mine {l b : List UInt8} {k : Nat} (hk : k + b.length ≤ l.length) : ((ovr l k b).drop k).take b.length = b := by
  rw [ovr_get (by omega) (Nat.le_refl _), List.take_length]
theorem putB_len {op : Int} (h : op = 20 ∨ op = 21 ∨ op = 22) (v : Nat) : (putB [] ((widI op).toNat : Nat) v).length = (widI op).toNat := by
  rcases h with rfl | rfl | rfl
  · show (putB [] ((1 : Nat) : Int) v).length = 1
    unfold putB; rw [if_pos (by decide)]; simp [leB_length]
  · show (putB [] ((2 : Nat) : Int) v).length = 2
    unfold putB; rw [if_pos (by decide)]; simp [leB_length]
  · show (putB [] ((4 : Nat) : Int) v).length = 4
    unfold putB; rw [if_pos (by decide)]; simp [leB_length]
/-- What a store leaves in memory. -/
theorem doG_from {F : List Cp} (hF : Fit F) {i : Ins} {N : Nat} {f : Nat → Bool} {l : List UInt8} (hN : l.length = N) (h : doT F i N = 0) {y : Nat} (hy : 16 * y + 16 ≤ N) (hg : doG F i N f y = true) :
    From F (ldC (doL F i N l) (doG F i N f) (16 * y)) ∨ (f y = true ∧ ldC (doL F i N l) (doG F i N f) (16 * y) = ldC l f (16 * y)) := by
  have hm := doT_may h
  have hfl := may_flds hm.1
  cases hs : isS i.op
  · have e1 : doG F i N f = f := if_neg (fun k => by rw [hs] at k; exact absurd k.2 (by decide))
    have e2 : doL F i N l = l := if_neg (fun k => by rw [hs] at k; exact absurd k.2 (by decide))
    rw [e1] at hg ⊢
    rw [e2]
    exact .inr ⟨hg, rfl⟩
  · have ho := way_open (show wayT _ _ _ _ _ = 0 from mem_open h (.inr hs))
    have e1 : doG F i N f = stoF N f (reg F i.a.toNat) (atN F i.b.toNat i.m) i.op (widI i.op).toNat := if_pos ⟨h, hs⟩
    have e2 : doL F i N l = stoL N l (reg F i.a.toNat) (atN F i.b.toNat i.m) i.op (widI i.op).toNat := if_pos ⟨h, hs⟩
    have hA : i.a.toNat < 17 := by omega
    rw [e1] at hg ⊢
    rw [e2]
    clear e1 e2 h hm hfl
    have fo := hF.reg i.a.toNat
    have hsf : (reg F i.a.toNat).va = true → From F (reg F i.a.toNat) := fun k => From.self hA k
    generalize reg F i.a.toNat = o at *
    generalize atN F i.b.toNat i.m = x at *
    by_cases h24 : i.op = 24
    · rw [h24, show (widI 24).toNat = 16 from by decide] at ho
      have hgr : grn N x = true := by
        unfold grn thr
        simp only [Bool.and_eq_true, decide_eq_true_eq]
        omega
      obtain ⟨q, rfl⟩ : ∃ q, x = 16 * q := ⟨x / 16, by omega⟩
      unfold stoF stoL at *
      rw [if_pos h24] at hg ⊢
      rw [if_pos h24]
      unfold scF scL at *
      rw [if_pos hgr] at hg ⊢
      rw [if_pos hgr]
      rw [Nat.mul_div_cancel_left q (by decide : 0 < 16)] at hg ⊢
      by_cases hq : y = q
      · subst hq
        have hz : (o.va && sndP o.e o.b o.t o.pm o.ty o.rs) = true := by simpa [upd] using hg
        rw [ldC_own fo (by
          have := ovr_mine (l := l) (b := bytesC o.cu o.e o.b o.t o.pm o.ty o.rs) (k := 16 * y) (by rw [bytesC_length]; omega)
          rwa [bytesC_length] at this) hz hg]
        rw [Bool.and_eq_true] at hz
        exact .inl (hsf hz.1)
      · have hc : clr f (16 * q) 16 y = true := by simpa [upd, hq] using hg
        have hf : f y = true := by
          unfold clr at hc; rw [Bool.and_eq_true] at hc; exact hc.1
        refine .inr ⟨hf, ldC_eq (ovr_far10 (by rw [bytesC_length]; omega) (by rw [bytesC_length]; omega)) ?_⟩
        rw [hg, hf]
    · have h3 : i.op = 20 ∨ i.op = 21 ∨ i.op = 22 := by
        have := of_decide_eq_true hs
        omega
      have hl := putB_len h3 o.cu
      have hwp := wid_pos (op := i.op) (.inr hs)
      unfold stoF stoL at *
      rw [if_neg h24] at hg ⊢
      rw [if_neg h24]
      unfold stF stL at *
      generalize putB [] ((widI i.op).toNat : Nat) o.cu = bs at *
      have ht : thr N x ((bs.length : Nat) : Int) = true := thr_iff.2 (by omega)
      rw [if_pos ht] at hg ⊢
      rw [if_pos ht]
      have hc := hg
      unfold clr at hc
      rw [Bool.and_eq_true] at hc
      have hn : bs.length = 0 ∨ 16 * (y + 1) ≤ x ∨ x + bs.length ≤ 16 * y := by
        have := hc.2
        rw [Bool.not_eq_true'] at this
        unfold tch at this
        simp only [Bool.and_eq_false_iff, decide_eq_false_iff_not] at this
        omega
      refine .inr ⟨hc.1, ldC_eq (ovr_far10 (by omega) (by omega)) ?_⟩
      rw [hg, hc.1]
end Go.Proofs.YtkmgdfcambdeeaaGreatDoor
