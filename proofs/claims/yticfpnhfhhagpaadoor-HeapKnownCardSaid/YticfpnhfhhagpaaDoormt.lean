/- Contracts of layer heap: takeSlot, take. No statement is proved here.; Contracts of layer heap: take. No statement is proved here.; Contracts of layer heap: remove; regions compared. No statement is proved here. -/
import Derived.Test.YticfpnhfhhagpaaDoorms
import Derived.Test.YticfpnhfhhagpaaDoormn
namespace Go.Proofs.YticfpnhfhhagpaaDoor
set_option maxRecDepth 100000
open Go.RowKit Go.Shelf Go.Maps
set_option linter.unusedVariables false

/-- A heap whose pages and slots are taken as X tells; L and R are what its maps hold. -/
structure HX (B : Blk) (lo hi p0 p1 : Nat) (L R X : List Rg) (W : World) : Prop where
  hs : HS B lo hi ((p1 - p0) * 256) p1 L R (fre p0 p1 X) (ofC X) (slF X) W
  good : Good p0 p1 X
  lt : p0 < p1
  le : p1 ≤ 1024
section
variable {W W' w : World} {B : Blk} {lo hi p0 p1 : Nat} {L R X : List Rg}
theorem HX.grow (H : HX B lo hi p0 p1 L R X W) (h : Below W.heap.size W W') : HX B lo hi p0 p1 L R X W' := ⟨H.hs.grow h, H.good, H.lt, H.le⟩
theorem HX.mem {Y : List Rg} (H : HX B lo hi p0 p1 L R X W) (h : X.Perm Y) : HX B lo hi p0 p1 L R Y W :=
  ⟨H.hs.congr (fre_mem (fun _ => h.mem_iff) _ _) (fun c _ => ofC_memF (fun _ => h.mem_iff) c) (fun c _ => slF_mem (fun _ => h.mem_iff) c), H.good.perm h, H.lt, H.le⟩
/-- What taking has left. -/
def TkPost (B : Blk) (lo hi p0 p1 : Nat) (L R X : List Rg) (P : Nat) (o : Option Nat) (w : World) (e : Ending) (w' : World) : Prop :=
  Mid lo hi w w' ∧ ((o = none ∧ e = .returned (.tuple #[.int .u32 0, .bool false]) ∧ HX B lo hi p0 p1 L R X w') ∨ ∃ a, o = some a ∧ e = .returned (.tuple #[.int .u32 (a : Int), .bool true]) ∧ HX B lo hi p0 p1 L R ((a, P) :: X) w')
def takeO (p0 p1 : Nat) (X : List Rg) (c : Nat) : Option Nat :=
  match lst (slF X c) with
  | some x => some (x.1 * 256 + x.2 * sltN c)
  | none => if fndB (fre p0 p1 X) p1 1 1 then some (fndA (fre p0 p1 X) p1 1 1 * 256) else none
theorem slF_lt {W : World} {b c : Nat} (H : BookAt W b (perN c) (ofC X c) (slF X c)) (hc : c < 5) {p s : Nat} (h : slF X c p s = true) : p < 1024 ∧ s < 16 := by
  have := H.ok p s h
  have := H.gl p this.1
  have := per_le hc
  omega
theorem least_of {W : World} {b c : Nat} (H : BookAt W b (perN c) (ofC X c) (slF X c)) (hc : c < 5) {p s : Nat} (h : lst (slF X c) = some (p, s)) : Least (slF X c) p s := by
  obtain ⟨h1, h2, h3, h4⟩ := lst_some h
  have hz : ∀ q t, q * 16 + t < p * 16 + s ∨ 16 ≤ t ∨ 1024 ≤ q → slF X c q t = false := fun q t hq => by
    cases e : slF X c q t
    · rfl
    · have := slF_lt H hc e
      rw [h4 q t this.2 (by omega)] at e
      cases e
  exact ⟨h1, fun q t hq => by
    by_cases ht : t < 16
    · exact hz q t (.inl (by omega))
    · exact hz q t (.inr (.inl (by omega))), fun t ht => hz p t (.inl (by omega))⟩
theorem tab_mid {w' : World} {g : Nat} {tab : List Nat} (h : TabAt g tab w) (k : Mid lo hi w w') (hg : g < lo) : TabAt g tab w' := fun j hj =>
  (World.cell?_of_block (a := ⟨g, j, none⟩) (k.block g (lt_of_cell' (h j hj)) (.inl hg))).trans (h j hj)
set_option maxHeartbeats 4000000 in
theorem takeSlot_any (H : HX B lo hi p0 p1 L R X w) (hT : TabAt 0 Lib.deBruijn32tab w) (c : Nat) (hc : c < 5) (hg : 0 < lo) :
    Calls Tryd.prog 49 #[.pointer (some ⟨B.h, 0, none⟩), .int .i64 c] w (TkPost B lo hi p0 p1 L R X (sltN c) (takeO p0 p1 X c) w) := by
  have hbk := H.hs.book c hc
  have hpl := per_le hc
  have cb := H.hs.cb c hc
  have c3 := H.hs.c3
  have hF := Lib.hid (free_any hbk)
  have hSl := Lib.hid (fun w => (show Calls Tryd.prog 26 #[.int .i64 c] w fun e w' => e = .returned (.int .u32 (sltN c : Nat)) ∧ w = w' from by
    have := pSlot_any c w
    rwa [slt_int hc] at this))
  obtain ⟨D, hD⟩ : ∃ D, D = TkPost B lo hi p0 p1 L R X (sltN c) (takeO p0 p1 X c) w := ⟨_, rfl⟩
  rw [← hD]
  replace hD := Lib.hid hD
  have hH := Lib.hid H
  have hT' := Lib.hid hT
  have hhs := H.hs.hi
  have hhl := (H.hs.ok.inn B.h (.inl rfl)).2
  have hci : (c : Int) < 5 := by omega
  have hhl' := Lib.hid (show B.h < w.heap.size by omega)
  have hK16 := Lib.hid hpl
  cases hl : lst (slF X c) with
  | some x =>
    obtain ⟨p, s⟩ := x
    have hle := least_of hbk hc hl
    have hls := lst_some hl
    have htot := tot_pos hls.2.1 hls.2.2.1 hls.1
    have hsp : s < perN c := (slF_iff.1 hls.1).2.1
    have hdv := small_div (p := p) hc hsp
    have hO := Lib.hid (show takeO p0 p1 X c = some (p * 256 + s * sltN c) by unfold takeO; rw [hl])
    have hTk := Lib.hid (fun w1 (hb : Below w.heap.size w w1) => take_yes (hbk.grow hb) (tab_grow hT'.out hb) hle)
    have hne : ((tot (slF X c) 1024 : Nat) : Int) ≠ 0 := by omega
    obtain ⟨N, hN⟩ : ∃ N : Int, N = ((tot (slF X c) 1024 : Nat) : Int) := ⟨_, rfl⟩
    rw [← hN] at hF hne
    have hne' : (N == 0) = false := by simpa using hne
    obtain ⟨m, hm⟩ : ∃ m, m = s * sltN c := ⟨_, rfl⟩
    obtain ⟨K, hK⟩ : ∃ K, K = sltN c := ⟨_, rfl⟩
    have hmi : (s : Int) * K = m := by rw [hm, hK]; simp
    have hmb : m < 1024 := by have := hdv.2.2.2; omega
    have hp2 : p < 1024 := hls.2.1
    have hs2 : s < 16 := hls.2.2.1
    have hKb : K < 1024 := by omega
    rw [← hm] at hO
    have hsl := Lib.hid hls.1
    have hm' := Lib.hid (And.intro hm hK)
    rw [← hK] at hSl hD
    clear H hT hN hm hK hdv hsp htot hls hle hl hbk hne hpl hhs hhl
    go_enter Tryd.func49, Tryd.ntmps49
    go_wp2_with fail
    refine hF.out.mono ?_
    rintro e w2 ⟨rfl, hb⟩
    have hB := Lib.hid hb
    clear hb
    go_wp2_with fail
    refine (hTk.out _ hB.out).mono ?_
    rintro e w3 ⟨rfl, kb, ko⟩
    have hX := Lib.hid (show TkPost B lo hi p0 p1 L R X K (takeO p0 p1 X c) w (.returned (.tuple #[.int .u32 ((p * 256 + m : Nat) : Int), .bool true])) w3 from by
      have hS := (hH.out.hs.grow hB.out).setBook hc ko kb
      have bi := hH.out.hs.bk_in hc
      refine ⟨(Mid.of_below hB.out).trans (Mid.of_off ko bi.1 bi.2), .inr ⟨_, hO.out, rfl, ?_⟩⟩
      have e : (p * 256 + m, K) = slot c p s := by unfold slot; rw [hm'.out.1, hm'.out.2]
      rw [e]
      exact ⟨hS.congr (take_fre hH.out.good hc hsl.out).symm (fun d hd => by
        rw [take_ofC hc hsl.out hd]
        by_cases e : d = c
        · simp [e]
        · simp [e]) (fun d hd => by
        by_cases e : d = c
        · subst e; rw [take_slF hc hsl.out]; simp
        · rw [take_slF_ne hH.out.good hc hsl.out hd e]; simp [e]), take_good hH.out.good hc hsl.out, hH.out.lt, hH.out.le⟩)
    clear kb ko
    go_wp2_with fail
    refine (hSl.out _).mono ?_
    rintro e w4 ⟨rfl, rfl⟩
    go_wp2_with fail
    rw [hD.out]
    exact hX.out
  | none =>
    have hno : ∀ p s, slF X c p s = false := fun p s => by
      cases e : slF X c p s
      · rfl
      · have := slF_lt hbk hc e
        rw [lst_none hl this.1 this.2] at e
        cases e
    have hz := tot_zero hno 1024
    rw [hz] at hF
    replace hF := Lib.hid (show Calls Tryd.prog 38 #[.pointer (some ⟨B.bk c, 0, none⟩)] w fun e w' => e = .returned (.int .i64 0) ∧ Below w.heap.size w w' from hF.out)
    have hPT := Lib.hid (fun w1 (hb : Below w.heap.size w w1) => ptake (H.hs.grow hb).pool 1 1 (by omega) (by omega) (by omega))
    have hO := Lib.hid (show takeO p0 p1 X c = if fndB (fre p0 p1 X) p1 1 1 then some (fndA (fre p0 p1 X) p1 1 1 * 256) else none by unfold takeO; rw [hl])
    have hno' := Lib.hid hno
    clear H hT hbk hpl hhs hhl hl hz hno
    go_enter Tryd.func49, Tryd.ntmps49
    go_wp2_with fail
    refine hF.out.mono ?_
    rintro e w2 ⟨rfl, hb⟩
    have hB := Lib.hid hb
    have c3' : w2.cell? ⟨B.h, 3, none⟩ = some (.pointer (some ⟨B.pb, 0, none⟩)) := (hb.cell (p := ⟨B.h, 3, none⟩) hhl'.out).trans c3
    clear hb c3 cb
    cases hv : fndB (fre p0 p1 X) p1 1 1
    · have h0 := (fnd_not hv).1
      have hPT' := hPT.out w2 hB.out
      rw [hv, h0] at hPT'
      replace hPT' := Lib.hid hPT'
      have htk : tkF (fre p0 p1 X) p1 1 1 = fre p0 p1 X := by unfold tkF; rw [hv]; rfl
      rw [htk] at hPT'
      rw [hv] at hO
      replace hO := Lib.hid (show takeO p0 p1 X c = none from hO.out)
      clear hv htk h0 hPT
      go_wp2_with fail
      refine hPT'.out.mono ?_
      rintro e w3 ⟨rfl, kp, ko⟩
      have hX := Lib.hid (show TkPost B lo hi p0 p1 L R X (sltN c) (takeO p0 p1 X c) w (.returned (.tuple #[.int .u32 0, .bool false])) w3 from by
        have pi := hH.out.hs.pw_in
        exact ⟨(Mid.of_below hB.out).trans (Mid.of_off ko pi.1 pi.2), .inl ⟨hO.out, rfl, (hH.out.hs.grow hB.out).setPool ko kp, hH.out.good, hH.out.lt, hH.out.le⟩⟩)
      clear kp ko
      go_wp2_with fail
      rw [hD.out]
      exact hX.out
    · have hg0 := fit_iff.1 (good_iff.1 (fnd_is hv).1).2.2
      obtain ⟨p, hp⟩ : ∃ p, p = fndA (fre p0 p1 X) p1 1 1 := ⟨_, rfl⟩
      have hfr : fre p0 p1 X p = true := by rw [hp]; exact hg0.2.2 _ (Nat.le_refl _) (by omega)
      have hp1 : p < p1 := (fre_iff.1 hfr).2.1
      have hp2 : p < 1024 := by have := hH.out.le; omega
      have hPT' := hPT.out w2 hB.out
      rw [hv, ← hp] at hPT'
      replace hPT' := Lib.hid hPT'
      rw [hv, ← hp] at hO
      replace hO := Lib.hid (show takeO p0 p1 X c = some (p * 256) from hO.out)
      have htk := Lib.hid (show tkF (fre p0 p1 X) p1 1 1 = fre p0 p1 (slot c p 0 :: X) from funext fun q => by
        rw [new_fre hc hfr]
        unfold tkF
        rw [hv, ← hp]
        rfl)
      have hma := Lib.hid (show mayAdd (ofC X c) p = true by unfold mayAdd; rw [Int.toNat_natCast, ofC_free hc hfr]; simp; omega)
      have hle : Least (updP (slF X c) p (full (perN c))) p 0 := ⟨by rw [updP_same]; unfold full; exact decide_eq_true (by have := hK16.out; omega), fun q t hq => by rw [updP_ne _ _ (by omega)]; exact hno'.out q t, fun t ht => by omega⟩
      replace hle := Lib.hid hle
      replace hfr := Lib.hid hfr
      clear hv hg0 hPT hp
      go_wp2_with fail
      refine hPT'.out.mono ?_
      rintro e w3 ⟨rfl, kp, ko⟩
      have hS3 := Lib.hid ((hH.out.hs.grow hB.out).setPool ko kp)
      have hM3 := Lib.hid (show Mid lo hi w w3 from (Mid.of_below hB.out).trans (Mid.of_off ko hH.out.hs.pw_in.1 hH.out.hs.pw_in.2))
      clear kp ko
      have hAd := Lib.hid (add_yes (hS3.out.book c hc) p hma.out)
      go_wp2_with fail
      refine hAd.out.mono ?_
      rintro e w4 ⟨rfl, kb, ko⟩
      have hM4 := Lib.hid (hM3.out.trans (Mid.of_off ko (hS3.out.bk_in hc).1 (hS3.out.bk_in hc).2))
      have hS4 := Lib.hid (hS3.out.setBook hc ko kb)
      have hTk := Lib.hid (take_yes kb (tab_mid hT'.out hM4.out hg) hle.out)
      clear kb ko
      go_wp2_with fail
      refine hTk.out.mono ?_
      rintro e w5 ⟨rfl, kb, ko⟩
      have hX := Lib.hid (show TkPost B lo hi p0 p1 L R X (sltN c) (takeO p0 p1 X c) w (.returned (.tuple #[.int .u32 ((p * 256 : Nat) : Int), .bool true])) w5 from by
        refine ⟨hM4.out.trans (Mid.of_off ko (hS4.out.bk_in hc).1 (hS4.out.bk_in hc).2), .inr ⟨_, hO.out, rfl, ?_⟩⟩
        have e : (p * 256, sltN c) = slot c p 0 := by unfold slot; rw [Nat.zero_mul, Nat.add_zero]
        rw [e]
        refine ⟨(hS4.out.setBook hc ko kb).congr htk.out (fun d hd => ?_) (fun d hd => ?_), new_good hH.out.good hc hfr.out, hH.out.lt, hH.out.le⟩
        · by_cases e : d = c
          · subst e; rw [new_ofC hc hfr.out]; simp
          · rw [new_ofC_ne hc hd e]; simp [e]
        · by_cases e : d = c
          · subst e; rw [new_slF hc hfr.out]; simp
          · rw [new_slF_ne hc hfr.out hd e]; simp [e])
      clear kb ko
      go_wp2_with fail
      refine (hSl.out _).mono ?_
      rintro e w6 ⟨rfl, rfl⟩
      go_wp2_with fail
      rw [hD.out]
      exact hX.out
end
end Go.Proofs.YticfpnhfhhagpaaDoor
namespace Go.Proofs.YticfpnhfhhagpaaDoor
set_option maxRecDepth 100000
open Go.RowKit Go.Shelf Go.Maps
set_option linter.unusedVariables false

/-- Where a region of that size is handed out. -/
def takeV (p0 p1 : Nat) (X : List Rg) (P : Nat) : Option Nat :=
  if clsB P then takeO p0 p1 X (clsN P) else if fndB (fre p0 p1 X) p1 ((pgN P : Nat) : Int) 1 then some (fndA (fre p0 p1 X) p1 ((pgN P : Nat) : Int) 1 * 256) else none
/-- What a size is padded to. -/
def Pad (P A : Nat) : Prop := (clsB P = true ∧ sltN (clsN P) = P) ∨ (512 ≤ P ∧ P % 256 = 0 ∧ A = 256)
theorem expo_heap {n : Nat} (h : n ≤ 262144) : expo 0 n ≤ 8 := by
  rcases Nat.lt_or_ge 8 (expo 0 n) with h' | h'
  · refine absurd ?_ (expo_least 0 (by omega) 8 h')
    unfold okE
    have h1 : up (2 ^ 8) n ≤ 262144 := up_le_of_dvd (by decide) ⟨1024, by decide⟩ h
    have : (2 : Nat) ^ 8 = 256 := by decide
    omega
  · exact h'
theorem pad_heap {s sz : Nat} (h : szO s sz = true) (hs : sz ≤ 262144) : Pad (szP s) (szA s) ∧ szP s ≤ sz := by
  have ⟨h0, h1⟩ := of_decide_eq_true h
  refine ⟨?_, h1⟩
  cases hc : clsB s
  · right
    have e : szP s = if 4294967296 ≤ up 256 s then 0 else pdP (up 256 s) := by unfold szP; rw [hc]; rfl
    have ea : szA s = max (pdA (up 256 s)) 256 := by unfold szA; rw [hc]; rfl
    by_cases hb : 4294967296 ≤ up 256 s
    · rw [if_pos hb] at e; exact absurd e h0
    · rw [if_neg hb] at e
      rw [e] at h0 h1 ⊢
      have hn : up 256 s ≤ 4294967296 := by omega
      obtain ⟨e1, e2, e3, e4, e5⟩ := pd_dvd hn h0
      have hx := expo_heap (n := up 256 s) (by omega)
      have hd : 2 ^ expo 0 (up 256 s) ≤ 2 ^ 8 := Nat.pow_le_pow_right (by decide) hx
      have h256 := pd_256 hn (up_dvd256 s) h0
      have hs0 : s ≠ 0 := fun k => by subst k; exact h0 (by unfold pdP; rw [show up 256 0 = 0 from rfl]; have := rdT_of (b := 0) (t := 0) (Nat.zero_le _) (by decide); rw [this]; unfold up; rw [show (0 + 2 ^ expo 0 0 - 1) / 2 ^ expo 0 0 = 0 from Nat.div_eq_of_lt (by have := pow_pos2 (expo 0 0); omega)]; simp)
      have hb2 := big_of hc hs0
      refine ⟨by omega, by omega, ?_⟩
      rw [ea, e2]
      have : (2 : Nat) ^ 8 = 256 := by decide
      omega
  · left
    have e : szP s = sltN (clsN s) := by unfold szP; rw [hc]; rfl
    rw [e]
    exact cls_self hc
section
variable {W' W w : World} {B : Blk} {lo hi p0 p1 : Nat} {L R X : List Rg}
theorem TkPost.after {w1 : World} {P : Nat} {o : Option Nat} {e : Ending} (m : Mid lo hi w w1) (h : TkPost B lo hi p0 p1 L R X P o w1 e W) : TkPost B lo hi p0 p1 L R X P o w e W := ⟨m.trans h.1, h.2⟩
set_option maxHeartbeats 4000000 in
theorem take_any' (H : HX B lo hi p0 p1 L R X w) (hT : TabAt 0 Lib.deBruijn32tab w) (P A : Nat) (hP : Pad P A) (hPb : P ≤ 262144) (hA : A < 4294967296) (hg : 0 < lo) :
    Calls Tryd.prog 32 #[.pointer (some ⟨B.h, 0, none⟩), .int .u32 P, .int .u32 A] w (TkPost B lo hi p0 p1 L R X P (takeV p0 p1 X P) w) := by
  have hCl := Lib.hid (fun w => pClass_any P w (by omega))
  have hPg := Lib.hid (fun w => pPages_any P w (by omega))
  have hHH := Lib.hid H.hs.hi
  have c3 := H.hs.c3
  have hhl' := Lib.hid (show B.h < w.heap.size by have := (H.hs.ok.inn B.h (.inl rfl)).2; have := H.hs.hi; omega)
  have hH := Lib.hid H
  have hT' := Lib.hid hT
  cases hc : clsB P with
  | true =>
    rw [hc] at hCl
    have h1 : clsB P = true ∧ sltN (clsN P) = P := by
      rcases hP with h | h
      · exact h
      · have := of_decide_eq_true hc; omega
    have hc5 := (cls_ge hc).2.2.2
    have hV : takeV p0 p1 X P = takeO p0 p1 X (clsN P) := by unfold takeV; rw [hc]; rfl
    have hS := Lib.hid (fun w1 (hb : Below w.heap.size w w1) => takeSlot_any (H.grow hb) (tab_grow hT hb) (clsN P) hc5 hg)
    rw [hV]
    rw [h1.2] at hS
    obtain ⟨o, ho⟩ : ∃ o, o = takeO p0 p1 X (clsN P) := ⟨_, rfl⟩
    rw [← ho] at hS ⊢
    obtain ⟨c, hcc⟩ : ∃ c, c = clsN P := ⟨_, rfl⟩
    rw [← hcc] at hS hCl hc5
    obtain ⟨D, hD⟩ : ∃ D, D = TkPost B lo hi p0 p1 L R X P o w := ⟨_, rfl⟩
    rw [← hD]
    replace hD := Lib.hid hD
    clear H hT c3 ho hP hcc h1 hV
    go_enter Tryd.func32, Tryd.ntmps32
    go_wp2_with fail
    refine (hCl.out _).mono ?_
    rintro e w2 ⟨rfl, hb⟩
    have hB := Lib.hid hb
    clear hb
    go_wp2_with fail
    refine (hS.out _ hB.out).mono ?_
    rintro e w3 hk
    rcases hk.2 with ⟨h1, rfl, h2⟩ | ⟨a, h1, rfl, h2⟩
    · have hX := Lib.hid (hk.after (Mid.of_below hB.out))
      clear hk h1 h2
      go_wp2_with fail
      rw [hD.out]
      exact hX.out
    · have hX := Lib.hid (hk.after (Mid.of_below hB.out))
      clear hk h1 h2
      go_wp2_with fail
      rw [hD.out]
      exact hX.out
  | false =>
    rw [hc] at hCl
    have h1 : 512 ≤ P ∧ P % 256 = 0 ∧ A = 256 := by
      rcases hP with h | h
      · rw [hc] at h; cases h.1
      · exact h
    obtain ⟨h512, h256, rfl⟩ := h1
    have hV : takeV p0 p1 X P = if fndB (fre p0 p1 X) p1 ((pgN P : Nat) : Int) 1 then some (fndA (fre p0 p1 X) p1 ((pgN P : Nat) : Int) 1 * 256) else none := by unfold takeV; rw [hc]; rfl
    rw [hV]
    obtain ⟨n, hn⟩ : ∃ n, n = pgN P := ⟨_, rfl⟩
    rw [← hn] at hPg ⊢
    have hnP : P = n * 256 := by rw [hn]; unfold pgN; omega
    have hn2 : 2 ≤ n ∧ n ≤ 1024 := by omega
    have hni : (n : Int) ≤ 1024 := by omega
    have hPT := Lib.hid (fun w1 (hb : Below w.heap.size w w1) => ptake (H.hs.grow hb).pool (n : Int) 1 (by omega) (by omega) (by omega))
    obtain ⟨o, ho⟩ : ∃ o, o = if fndB (fre p0 p1 X) p1 (n : Int) 1 then some (fndA (fre p0 p1 X) p1 (n : Int) 1 * 256) else none := ⟨_, rfl⟩
    rw [← ho]
    obtain ⟨x, hx⟩ : ∃ x, x = fndA (fre p0 p1 X) p1 (n : Int) 1 := ⟨_, rfl⟩
    obtain ⟨v, hv⟩ : ∃ v, v = fndB (fre p0 p1 X) p1 (n : Int) 1 := ⟨_, rfl⟩
    rw [← hv, ← hx] at hPT
    have hE : ∀ w3, PNext B.pb B.pm B.pw p1 (tkF (fre p0 p1 X) p1 (n : Int) 1) w (.tuple #[.int .i64 (x : Nat), .bool v]) (.returned (.tuple #[.int .i64 (x : Nat), .bool v])) w3 → True := fun _ _ => trivial
    have hfin := Lib.hid (fun w1 w3 (hb : Below w.heap.size w w1) (h : PNext B.pb B.pm B.pw p1 (tkF (fre p0 p1 X) p1 (n : Int) 1) w1 (.tuple #[.int .i64 (x : Nat), .bool v]) (.returned (.tuple #[.int .i64 (x : Nat), .bool v])) w3) => (show TkPost B lo hi p0 p1 L R X P o w (.returned (.tuple #[.int .u32 ((x * 256 : Nat) : Int), .bool v])) w3 from by
      obtain ⟨_, kp, ko⟩ := h
      have m : Mid lo hi w w3 := (Mid.of_below hb).trans (Mid.of_off ko H.hs.pw_in.1 H.hs.pw_in.2)
      have hS := (H.hs.grow hb).setPool ko kp
      cases hvv : fndB (fre p0 p1 X) p1 (n : Int) 1
      · have h0 := (fnd_not hvv).1
        have htk : tkF (fre p0 p1 X) p1 (n : Int) 1 = fre p0 p1 X := by unfold tkF; rw [hvv]; rfl
        rw [htk] at hS
        rw [hv, hvv, hx, h0]
        exact ⟨m, .inl ⟨by rw [ho, hvv]; rfl, rfl, hS, H.good, H.lt, H.le⟩⟩
      · have hg0 := fit_iff.1 (good_iff.1 (fnd_is hvv).1).2.2
        rw [← hx] at hg0
        have hfr : ∀ k, x ≤ k → k < x + n → fre p0 p1 X k = true := fun k h1 h2 => hg0.2.2 k h1 (by omega)
        rw [hv, hvv]
        refine ⟨m, .inr ⟨x * 256, by rw [ho, hvv, hx]; rfl, rfl, ?_⟩⟩
        rw [hnP]
        refine ⟨hS.congr (funext fun q => ?_) (fun d hd => (run_ofC hn2.1 hd).symm) (fun d hd => (run_slF hn2.1 hfr hd).symm), run_good H.good hn2.1 hfr, H.lt, H.le⟩
        rw [run_fre hn2.1]
        unfold tkF
        rw [hvv, ← hx, Int.toNat_natCast]
        rfl))
    have hxb : x < 1024 := by
      rw [hx]
      cases hvv : fndB (fre p0 p1 X) p1 (n : Int) 1
      · rw [(fnd_not hvv).1]; omega
      · have hg0 := fit_iff.1 (good_iff.1 (fnd_is hvv).1).2.2
        have := (fre_iff.1 (hg0.2.2 _ (Nat.le_refl _) (by omega))).2.1
        have := H.le
        omega
    obtain ⟨D, hD⟩ : ∃ D, D = TkPost B lo hi p0 p1 L R X P o w := ⟨_, rfl⟩
    rw [← hD]
    replace hD := Lib.hid hD
    clear H hT ho hP hV hn hnP hE hx hv
    go_enter Tryd.func32, Tryd.ntmps32
    go_wp2_with fail
    refine (hCl.out _).mono ?_
    rintro e w2 ⟨rfl, hb⟩
    have hB := Lib.hid hb
    have c3' : w2.cell? ⟨B.h, 3, none⟩ = some (.pointer (some ⟨B.pb, 0, none⟩)) := (hb.cell (p := ⟨B.h, 3, none⟩) hhl'.out).trans c3
    clear hb c3
    go_wp2_with fail
    go_region_with (first | (go_at_call 19; refine (hPg.out _).mono ?_; rintro e w3 ⟨rfl, rfl⟩) | (go_at_call 50; refine (hPT.out _ (by first | exact hB.out | exact hB.out.drew)).mono ?_; rintro e w3 ⟨rfl, kp, ko⟩; have hX := Lib.hid (hfin.out _ w3 (by first | exact hB.out | exact hB.out.drew) ⟨rfl, kp, ko⟩); clear kp ko))
    all_goals go_wp2_with fail
    all_goals rw [hD.out]
    all_goals exact hX.out
end
end Go.Proofs.YticfpnhfhhagpaaDoor
namespace Go.Proofs.YticfpnhfhhagpaaDoor
set_option maxRecDepth 100000
open Go.RowKit Go.Shelf Go.Maps
set_option linter.unusedVariables false

theorem rg_eq' (d : Nat) (i j x y : Int) (w : World) :
    (Op.equalIn (d + 1 + 1) 26 (.agg #[.int .u32 i, .int .u32 x]) (.agg #[.int .u32 j, .int .u32 y])).run Tryd.prog w = .ok ((i == j) && ((x == y) && true)) w := by
  rw [run_equalIn_struct w (d + 1) 26 _ _ (by kernel_rfl) (by kernel_rfl)]
  have hf : (Tryd.prog.fieldsOf 26).toList.map (fun f => (f.name, f.type, f.offset)) = [("At", 24, 0), ("Size", 24, 1)] := by kernel_rfl
  have i32 : ∀ (x y : Int) w, (Op.equalIn (d + 1) 24 (.int .u32 x) (.int .u32 y)).run Tryd.prog w = .ok (x == y) w := fun x y w => run_equalIn_int w d 24 .u32 .u32 x y (by kernel_rfl)
  generalize (Tryd.prog.fieldsOf 26).toList = fs at *
  obtain ⟨f0, fs, rfl, hf0, hf⟩ := List.map_eq_cons_iff.1 hf
  obtain ⟨f1, fs, rfl, hf1, hf⟩ := List.map_eq_cons_iff.1 hf
  obtain rfl := List.map_eq_nil_iff.1 hf
  simp only [Prod.mk.injEq] at hf0 hf1
  refine eqF_step hf0 (by decide) (by kernel_rfl) (by kernel_rfl) (i32 _ _ _) ?_
  exact eqF_step hf1 (by decide) (by kernel_rfl) (by kernel_rfl) (i32 _ _ _) eqF_nil
/-- Two regions compared. -/
theorem rg_eq (q r : Rg) (v : Bool) (hv : decide (q = r) = v) (w : World) : (Op.equalIn 10000 26 (.agg #[.int .u32 (q.1 : Int), .int .u32 (q.2 : Int)]) (.agg #[.int .u32 (r.1 : Int), .int .u32 (r.2 : Int)])).run Tryd.prog w = .ok v w := by
  rw [show (10000 : Nat) = 9998 + 1 + 1 from rfl, rg_eq']
  congr 1
  rw [← hv]
  obtain ⟨a, b⟩ := q
  obtain ⟨c, d⟩ := r
  rw [Bool.eq_iff_iff]
  simp
  omega
section
variable {W W' w : World} {b : Nat} {L : List Rg}
def RemPost (b : Nat) (L : List Rg) (r : Rg) (w : World) (e : Ending) (w' : World) : Prop :=
  e = .returned (.bool (decide (r ∈ L))) ∧ RMap w' b (L.filter fun q => decide (q ≠ r)) ∧ Off w.heap.size b w w'
theorem filter_out {r : Rg} (h : r ∉ L) : (L.filter fun q => decide (q ≠ r)) = L := by
  rw [List.filter_eq_self]
  intro q hq
  exact decide_eq_true fun e => h (e ▸ hq)
theorem filter_len {r : Rg} (ha : L.Pairwise fun r q => r.1 < q.1) (h : r ∈ L) : (L.filter fun q => decide (q ≠ r)).length + 1 = L.length := by
  induction L with
  | nil => cases h
  | cons x L ih =>
    obtain ⟨h1, h2⟩ := List.pairwise_cons.1 ha
    by_cases e : x = r
    · subst e
      have hn : x ∉ L := fun hx => by have := h1 x hx; omega
      rw [List.filter_cons_of_neg (by simp), filter_out hn]
      rfl
    · have hr : r ∈ L := by
        rcases List.mem_cons.1 h with rfl | h
        · exact absurd rfl e
        · exact h
      rw [List.filter_cons_of_pos (by simp [e]), List.length_cons, List.length_cons, ← ih h2 hr]
set_option maxHeartbeats 1000000 in
theorem remove_any (H : RMap w b L) (r : Rg) (hr : r.1 < 4294967296) : Calls Tryd.prog 33 #[.map (some b), rgV r] w (RemPost b L r w) := by
  obtain ⟨w1, hw1⟩ : ∃ w1, w1 = w.alloc (.cells #[.int .u32 (r.1 : Int), .int .u32 (r.2 : Int)] 26) := ⟨_, rfl⟩
  have hB1 : Below w.heap.size w w1 := by rw [hw1]; exact (Below.refl _ _).alloc (Nat.le_refl _) _
  have hM1 := H.grow hB1
  obtain ⟨q, hlook, hq⟩ := hM1.look r.1 hr
  have s0 : w1.cell? ⟨w.heap.size, 0, none⟩ = some (.int .u32 (r.1 : Int)) := by rw [hw1]; simp
  have s1 : w1.cell? ⟨w.heap.size, 1, none⟩ = some (.int .u32 (r.2 : Int)) := by rw [hw1]; simp
  have hs : w.heap.size < w1.heap.size := by rw [hw1]; simp
  obtain ⟨w2, hw2⟩ : ∃ w2, w2 = w1.alloc (.cells #[.int .u32 (q.1 : Int), .int .u32 (q.2 : Int)] 26) := ⟨_, rfl⟩
  have hB2 : Below w.heap.size w w2 := by rw [hw2]; exact hB1.alloc hB1.size _
  have hM2 := H.grow hB2
  obtain ⟨D, hD⟩ : ∃ D, D = RemPost b L r w := ⟨_, rfl⟩
  rw [← hD]
  replace hD := Lib.hid hD
  have hw1' := Lib.hid hw1
  have hw2' := Lib.hid hw2
  dsimp only [rgV] at hlook ⊢
  obtain ⟨is, his⟩ : ∃ is, is = L.any (fun p => decide (p.1 = r.1)) := ⟨_, rfl⟩
  rw [← his] at hlook
  replace hs := Lib.hid hs
  replace his := Lib.hid his
  replace hq := Lib.hid hq
  have hH := Lib.hid H
  have hB2' := Lib.hid hB2
  have hM1' := Lib.hid hM1
  clear hM1 hB1 hB2 hw2 H hw1
  go_enter Tryd.func33, Tryd.ntmps33
  go_wp2_with fail
  rw [← hw1'.out]
  go_wp2_with fail
  rw [hlook]
  simp only [Result.andThen]
  rw [Oper.upon_value]
  clear hlook
  go_upto_region 2 with (fail)
  rw [← hw2'.out]
  have n0 : w2.cell? ⟨w1.heap.size, 0, none⟩ = some (.int .u32 (q.1 : Int)) := by rw [hw2'.out]; simp
  have n1 : w2.cell? ⟨w1.heap.size, 1, none⟩ = some (.int .u32 (q.2 : Int)) := by rw [hw2'.out]; simp
  have t0 : w2.cell? ⟨w.heap.size, 0, none⟩ = some (.int .u32 (r.1 : Int)) := by
    have hb : Below w1.heap.size w1 w2 := by rw [hw2'.out]; exact (Below.refl _ _).alloc (Nat.le_refl _) _
    exact (hb.cell (p := ⟨w.heap.size, 0, none⟩) hs.out).trans s0
  have t1 : w2.cell? ⟨w.heap.size, 1, none⟩ = some (.int .u32 (r.2 : Int)) := by
    have hb : Below w1.heap.size w1 w2 := by rw [hw2'.out]; exact (Below.refl _ _).alloc (Nat.le_refl _) _
    exact (hb.cell (p := ⟨w.heap.size, 1, none⟩) hs.out).trans s1
  clear s0 s1
  by_cases hin : r ∈ L
  · have hi : is = true := by rw [his.out, List.any_eq_true]; exact ⟨r, hin, by simp⟩
    have hqr : q = r := hq.out r hin rfl
    subst hi
    subst hqr
    have hE := rg_eq q q true (by simp) w2
    obtain ⟨w3, hrun, hm3, ho3⟩ := hM2.del (L' := L.filter fun p => decide (p ≠ q)) hin (fun p => by simp [List.mem_filter]) (hM2.asc.filter _) (filter_len hM2.asc hin) 0
    have hF := Lib.hid (show RemPost b L q w (.returned (.bool true)) w3 from ⟨by rw [decide_eq_true hin], hm3, by
      have o1 := Off.of_below (wb := b) hB2'.out
      exact o1.trans (ho3.mono hB2'.out.size)⟩)
    clear hM2 hm3 ho3
    go_wp2_with fail
    rw [hD.out]
    exact hF.out
  · have hF := Lib.hid (show RemPost b L r w (.returned (.bool false)) w2 from ⟨by rw [decide_eq_false hin], by rw [filter_out hin]; exact hM2, Off.of_below hB2'.out⟩)
    clear hM2
    cases is
    · go_wp2_with fail
      rw [hD.out]
      exact hF.out
    · have hne : ¬ q = r := fun e => by
        obtain ⟨p, hp, hp1⟩ := List.any_eq_true.1 his.out.symm
        have := hq.out p hp (of_decide_eq_true hp1)
        exact hin (e ▸ this ▸ hp)
      have hE := rg_eq q r false (by simpa using hne) w2
      have h1 : q.1 = r.1 := by
        obtain ⟨p, hp, hp1⟩ := List.any_eq_true.1 his.out.symm
        rw [hq.out p hp (of_decide_eq_true hp1)]
        exact of_decide_eq_true hp1
      obtain ⟨qa, qs⟩ := q
      obtain ⟨ra, rs⟩ := r
      replace h1 : qa = ra := h1
      subst h1
      have h2 : ¬ (qs : Int) = rs := fun e => hne (by rw [show qs = rs by omega])
      have h2' : ((qs : Int) == rs) = false := by simpa using h2
      have h3' : ¬ qs = rs := fun e => h2 (by rw [e])
      replace hne := Lib.hid hne
      dsimp only at *
      go_wp2_with fail
      rw [hD.out]
      exact hF.out
end
end Go.Proofs.YticfpnhfhhagpaaDoor
