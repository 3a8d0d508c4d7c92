/- Contracts of layer asm, the program's side: a name, a number, a plain word. No statement is proved here. -/
import Derived.Test.YtdkggahkfheocaaGreatDoorAsE
import Derived.Test.YtdkggahkfheocaaGreatDoorIsB
import Derived.Lib.AtoiErrMem
namespace Go.Proofs.YtdkggahkfheocaaGreatDoor
set_option maxRecDepth 100000
open Go.RowKit Go.Lib
set_option linter.unusedVariables false

theorem list_ne_empty {l : List UInt8} (h : l ≠ []) : ((⟨l.toArray⟩ : ByteArray).toList == []) = false ∧ (⟨l.toArray⟩ : ByteArray).toList.isEmpty = false := by
  rw [Lib.toList_data]
  constructor
  · simpa using h
  · simpa using h
set_option maxHeartbeats 2000000 in
theorem isName_any (s : ByteArray) (w : World) : Calls Tryz.prog 84 #[.string s] w fun e w' => e = .returned (.bool (nameB s.data.toList)) ∧ Below w.heap.size w w' := by
  have hsz := Lib.hid (Lib.size_eq s)
  by_cases h0 : s.data.toList = []
  · rw [name_len (l := s.data.toList) (by rw [h0]; simp)]
    have e0 : s.toList = [] := by rw [Lib.toList_data]; exact h0
    clear h0
    go_enter Tryz.func84, Tryz.ntmps84
    go_wp2
    go_ret
    exact ⟨rfl, Below.refl _ _⟩
  have hs0 : 0 < s.size := by
    have := hsz.out
    cases hl : s.data.toList with
    | nil => exact absurd hl h0
    | cons a t => rw [hl] at this; simp at this; omega
  have e0 : (s.toList == []) = false := by rw [Lib.toList_data]; simpa using h0
  have e1 : s.toList.isEmpty = false := by rw [Lib.toList_data]; simpa using h0
  by_cases h32 : 32 < s.size
  · rw [name_len (l := s.data.toList) (by rw [← hsz.out]; omega)]
    have h2 : ¬ (s.size : Int) ≤ 32 := by omega
    clear h0 h32
    go_enter Tryz.func84, Tryz.ntmps84
    go_wp2
    go_ret
    exact ⟨rfl, Below.refl _ _⟩
  have h2 : (s.size : Int) ≤ 32 := by omega
  have hT := Lib.hid (trimLeft_signs s w)
  have hhd := headB s hs0
  have hbB := Lib.hid (fun (W : World) (k : Below w.heap.size w W) => k)
  cases ha : s.data.toList.all signB with
  | false =>
    have hn : nameB s.data.toList = false := by unfold nameB; rw [ha]; simp
    rw [hn]
    have hne : Lib.trimLeftS s.data.toList signsL ≠ [] := fun h => by rw [(trimSigns _).1 h] at ha; cases ha
    obtain ⟨f0, f1⟩ := list_ne_empty hne
    generalize (⟨(Lib.trimLeftS s.data.toList signsL).toArray⟩ : ByteArray) = t at *
    clear hn hne ha hhd h0 h32
    go_enter Tryz.func84, Tryz.ntmps84
    go_wp2_with (refine hT.out.mono ?_; rintro e w' ⟨rfl, k⟩; replace k := Lib.hid k)
    go_ret
    exact ⟨rfl, k.out⟩
  | true =>
    have hn : nameB s.data.toList = !digB s[0] := by
      unfold nameB
      rw [ha, hhd, decide_eq_true (show 1 ≤ s.data.toList.length by rw [← hsz.out]; omega), decide_eq_true (show s.data.toList.length ≤ 32 by rw [← hsz.out]; omega)]
      rfl
    rw [hn]
    have ht := (trimSigns s.data.toList).2 ha
    rw [ht] at hT
    have hex : s.extract 0 1 = ⟨#[s[0]]⟩ := by
      rw [Lib.extract_upto]
      cases hl : s.data.toList with
      | nil => exact absurd hl h0
      | cons a t =>
        rw [hl] at hhd
        simp only [List.headD_cons] at hhd
        rw [← hhd]; rfl
    have hC := fun w => Tryz.strings_Contains_one ⟨#[48, 49, 50, 51, 52, 53, 54, 55, 56, 57]⟩ s[0] w
    have hCe : decide ((0 : Int) ≤ Lib.indexByte (⟨#[48, 49, 50, 51, 52, 53, 54, 55, 56, 57]⟩ : ByteArray).data.toList s[0]) = digB s[0] := digs_is s[0]
    rw [hCe] at hC
    generalize digB s[0] = b at *
    generalize s[0] = c at *
    replace hC := Lib.hid hC
    clear hn hhd h0 h32 ha ht hCe
    go_enter Tryz.func84, Tryz.ntmps84
    go_wp2_with (first
      | (go_at_call 109; refine hT.out.mono ?_; rintro e w1 ⟨rfl, k⟩; replace k := Lib.hid k)
      | (go_at_call 21; refine (hC.out _).mono ?_; rintro e w2 ⟨rfl, rfl⟩))
    go_ret
    exact ⟨rfl, k.out⟩

/-- What a number that stands behind what stands ahead is; none: no number. -/
def numP (c : Bool) (l : List UInt8) : Option Int := if c then (match l with | 99 :: d => intL d | _ => none) else intL l
def optN (o : Option Int) : Int := o.getD 0
def optT (o : Option Int) : Bool := o.isSome
set_option maxHeartbeats 2000000 in
theorem num_any (s d : ByteArray) (p : ByteArray) (ok : Bool) (hd : (⟨(Lib.trimPrefix s.data.toList p.data.toList).toArray⟩ : ByteArray) = d) (hp : Lib.hasPrefix s.data.toList p.data.toList = ok) (w : World) (hT : T8 w) (hs : d.size ≤ 140737488355328) :
    Calls Tryz.prog 110 #[.string s, .string p] w fun e w' => e = .returned (.tuple #[.int .i64 (optN (if ok then intL d.data.toList else none)), .bool (optT (if ok then intL d.data.toList else none))]) ∧ Below w.heap.size w w' := by
  have hP := Tryz.strings_CutPrefix s p w
  rw [hd, hp] at hP
  replace hP := Lib.hid hP
  have hT' := Lib.hid hT
  rcases ha : atoiAll d.data.toList with v | _ | _
  rotate_left
  · obtain ⟨tp, q, hv⟩ := hT.es
    have hA : Calls Tryz.prog 139 #[.string d] w fun e w' => ∃ N, e = .returned (.tuple #[.int .i64 0, .iface 207 (.pointer (some ⟨N, 0, none⟩))]) ∧ w.heap.size ≤ N ∧ w'.heap[N]? = some (.cells #[.string ⟨#[65, 116, 111, 105]⟩, .string d, .iface tp q] 214 (0, 0)) ∧ Below w.heap.size w w' :=
      Any.strconv_Atoi_syntax_var Tryz.laysC172 d (by omega) ha tp q w hv
    replace hA := Lib.hid hA
    have hr : (if ok then intL d.data.toList else none) = none := by rw [intL_no (fun v h => by rw [ha] at h; cases h)]; cases ok <;> rfl
    rw [hr]
    clear hr hd hp ha hv hT
    cases ok
    all_goals
      go_enter Tryz.func110, Tryz.ntmps110
      go_wp2_with (first
        | (go_at_call 138; refine hP.out.mono ?_; rintro e w1 ⟨rfl, rfl⟩)
        | (go_at_call 139; refine hA.out.mono ?_; rintro e w2 ⟨N, rfl, k0, k1, k⟩; replace k := Lib.hid k; replace k0 := Lib.hid k0; replace k1 := Lib.hid k1))
      go_ret2
      exact ⟨rfl, k.out⟩
  · obtain ⟨tp, q, hv⟩ := hT.er
    have hA := Lib.hid (Tryz.strconv_Atoi_range_var d (by omega) ha tp q w hv)
    have hr : (if ok then intL d.data.toList else none) = none := by rw [intL_no (fun v h => by rw [ha] at h; cases h)]; cases ok <;> rfl
    rw [hr]
    clear hr hd hp ha hv hT
    generalize Lib.atoiSat d.data.toList = z at *
    cases ok
    all_goals
      go_enter Tryz.func110, Tryz.ntmps110
      go_wp2_with (first
        | (go_at_call 138; refine hP.out.mono ?_; rintro e w1 ⟨rfl, rfl⟩)
        | (go_at_call 139; refine hA.out.mono ?_; rintro e w2 ⟨N, rfl, k0, k1, k⟩; replace k := Lib.hid k; replace k0 := Lib.hid k0; replace k1 := Lib.hid k1))
      go_ret2
      exact ⟨rfl, k.out⟩
  · have hrg := Lib.hid (atoi_range ha)
    have hA : Calls Tryz.prog 139 #[.string d] w fun e w' => e = .returned (.tuple #[.int .i64 v, .nilIface]) ∧ Below w.heap.size w w' :=
      (Tryz.strconv_Atoi_ok d (by omega) v ha w).mono fun e w' ⟨h1, h2⟩ => ⟨h1, by
        rcases h2 with rfl | ⟨t, rfl⟩
        · exact Below.refl _ _
        · exact Lib.bytesWorld_below _ _ _⟩
    have hI := Lib.hid (fun w h => itoa_any v hrg.out.1 hrg.out.2 w h)
    have hr : (if ok then intL d.data.toList else none) = if ok = true ∧ itoa v = d.data.toList then some v else none := by
      rw [intL_ok ha]
      cases ok
      · simp
      · by_cases h : itoa v = d.data.toList <;> simp [h]
    rw [hr]
    replace hA := Lib.hid hA
    clear hr hd hp ha hT
    cases ok
    · simp only [Bool.false_eq_true, false_and, if_false]
      go_enter Tryz.func110, Tryz.ntmps110
      go_wp2_with (first
        | (go_at_call 138; refine hP.out.mono ?_; rintro e w1 ⟨rfl, rfl⟩)
        | (go_at_call 139; refine hA.out.mono ?_; rintro e w2 ⟨rfl, k⟩; replace k := Lib.hid k))
      go_ret2
      exact ⟨rfl, k.out⟩
    · by_cases he : itoa v = d.data.toList
      · rw [if_pos ⟨rfl, he⟩]
        rw [he, Lib.mk_data] at hI
        clear he
        go_enter Tryz.func110, Tryz.ntmps110
        go_wp2_with (first
          | (go_at_call 138; refine hP.out.mono ?_; rintro e w1 ⟨rfl, rfl⟩)
          | (go_at_call 139; refine hA.out.mono ?_; rintro e w2 ⟨rfl, k⟩; replace k := Lib.hid k)
          | (go_at_call 30; refine (hI.out _ (hT'.out.below k.out)).mono ?_; rintro e w3 ⟨rfl, k2⟩; replace k2 := Lib.hid k2))
        go_ret2
        exact ⟨rfl, k.out.trans (k2.out.mono k.out.size)⟩
      · rw [if_neg (fun k => he k.2)]
        have hne : ((⟨(itoa v).toArray⟩ : ByteArray).toList == d.toList) = false := by
          rw [Lib.toList_data, Lib.toList_data]
          simpa using he
        generalize (⟨(itoa v).toArray⟩ : ByteArray) = x at *
        clear he
        go_enter Tryz.func110, Tryz.ntmps110
        go_wp2_with (first
          | (go_at_call 138; refine hP.out.mono ?_; rintro e w1 ⟨rfl, rfl⟩)
          | (go_at_call 139; refine hA.out.mono ?_; rintro e w2 ⟨rfl, k⟩; replace k := Lib.hid k)
          | (go_at_call 30; refine (hI.out _ (hT'.out.below k.out)).mono ?_; rintro e w3 ⟨rfl, k2⟩; replace k2 := Lib.hid k2))
        go_ret2
        exact ⟨rfl, k.out.trans (k2.out.mono k.out.size)⟩

theorem num_plain (l : List UInt8) (w : World) (hT : T8 w) (hs : l.length ≤ 140737488355328) :
    Calls Tryz.prog 110 #[.string ⟨l.toArray⟩, .string ⟨#[]⟩] w fun e w' => e = .returned (.tuple #[.int .i64 (optN (numP false l)), .bool (optT (numP false l))]) ∧ Below w.heap.size w w' :=
  num_any ⟨l.toArray⟩ ⟨l.toArray⟩ ⟨#[]⟩ true (by simp [Lib.trimPrefix, Lib.hasPrefix]) (by simp [Lib.hasPrefix]) w hT (by simpa [ByteArray.size] using hs)
theorem num_c (l : List UInt8) (w : World) (hT : T8 w) (hs : l.length ≤ 140737488355328) :
    Calls Tryz.prog 110 #[.string ⟨l.toArray⟩, .string ⟨#[99]⟩] w fun e w' => e = .returned (.tuple #[.int .i64 (optN (numP true l)), .bool (optT (numP true l))]) ∧ Below w.heap.size w w' := by
  by_cases h : ∃ d, l = 99 :: d
  · obtain ⟨d, rfl⟩ := h
    have := num_any ⟨(99 :: d).toArray⟩ ⟨d.toArray⟩ ⟨#[99]⟩ true (by simp [Lib.trimPrefix, Lib.hasPrefix]) (by simp [Lib.hasPrefix]) w hT (by simp [ByteArray.size] at hs ⊢; omega)
    exact this
  · have h1 : Lib.hasPrefix l [99] = false := by
      cases l with
      | nil => rfl
      | cons a t =>
        have : a ≠ 99 := fun e => h ⟨t, by rw [e]⟩
        show ([99] : List UInt8).isPrefixOf (a :: t) = false
        simp [List.isPrefixOf, Ne.symm this]
    have h2 : numP true l = none := by
      unfold numP
      rw [if_pos rfl]
      split
      · rename_i d; exact absurd ⟨d, rfl⟩ h
      · rfl
    rw [h2]
    exact num_any ⟨l.toArray⟩ ⟨l.toArray⟩ ⟨#[99]⟩ false (by simp [Lib.trimPrefix, h1]) (by simpa using h1) w hT (by simpa [ByteArray.size] using hs)
def rawW (l : List UInt8) : Option Int := match intL l with
  | some v => if 0 ≤ v ∧ v < 4294967296 then some v else none
  | none => none
set_option maxHeartbeats 2000000 in
theorem rawWord_any (l : List UInt8) (w : World) (hT : T8 w) (hs : l.length ≤ 140737488355328) :
    Calls Tryz.prog 75 #[.string ⟨l.toArray⟩] w fun e w' => e = .returned (.tuple #[.int .u32 (optN (rawW l)), .bool (optT (rawW l))]) ∧ Below w.heap.size w w' := by
  have hN := num_plain l w hT hs
  unfold numP at hN
  rw [if_neg (by decide)] at hN
  unfold rawW
  cases hi : intL l with
  | none =>
    rw [hi] at hN
    replace hN := Lib.hid hN
    go_enter Tryz.func75, Tryz.ntmps75
    go_wp2_with (refine hN.out.mono ?_; rintro e w' ⟨rfl, k⟩; replace k := Lib.hid k)
    go_ret2
    exact ⟨rfl, k.out⟩
  | some v =>
    rw [hi] at hN
    replace hN := Lib.hid (show Calls Tryz.prog 110 #[.string ⟨l.toArray⟩, .string ⟨#[]⟩] w fun e w' => e = .returned (.tuple #[.int .i64 v, .bool true]) ∧ Below w.heap.size w w' from hN)
    clear hi hs
    simp only
    by_cases h0 : 0 ≤ v
    · by_cases h1 : v < 4294967296
      · rw [if_pos ⟨h0, h1⟩]
        have h0' : decide (v < 0) = false := by simpa using h0
        have h1' : decide (4294967296 ≤ v) = false := by simpa using h1
        go_enter Tryz.func75, Tryz.ntmps75
        go_wp2_with (refine hN.out.mono ?_; rintro e w' ⟨rfl, k⟩; replace k := Lib.hid k)
        go_ret2
        exact ⟨rfl, k.out⟩
      · rw [if_neg (fun k => h1 k.2)]
        have h0' : decide (v < 0) = false := by simpa using h0
        have h1' : 4294967296 ≤ v := by omega
        clear h1
        go_enter Tryz.func75, Tryz.ntmps75
        go_wp2_with (refine hN.out.mono ?_; rintro e w' ⟨rfl, k⟩; replace k := Lib.hid k)
        go_ret2
        exact ⟨rfl, k.out⟩
    · rw [if_neg (fun k => h0 k.1)]
      have h0' : v < 0 := by omega
      clear h0
      go_enter Tryz.func75, Tryz.ntmps75
      go_wp2_with (refine hN.out.mono ?_; rintro e w' ⟨rfl, k⟩; replace k := Lib.hid k)
      go_ret2
      exact ⟨rfl, k.out⟩

/-- A call that takes what stands up to the next blank. -/
theorem cutter_any (s : ByteArray) (w : World) : Calls Tryz.prog 74 #[.string s] w fun e w' => e = .returned (.func (.func 108) #[] #[.pointer (some ⟨w.heap.size, 0, none⟩)]) ∧ w' = w.alloc (.cells #[.string s] 9) := by
  go_enter Tryz.func74, Tryz.ntmps74
  go_wp2
  go_ret
  exact ⟨rfl, rfl⟩
def TokPost (w : World) (g : Nat) (l : List UInt8) (e : Ending) (w' : World) : Prop := e = .returned (.string ⟨(tok l).toArray⟩) ∧ Sto w g (.string ⟨(rest l).toArray⟩) w'
theorem trim32 (s : List UInt8) (w : World) : Calls Tryz.prog 109 #[.string ⟨s.toArray⟩, .string ⟨#[32]⟩] w fun e w' => e = .returned (.string ⟨(Lib.trimLeftB s 32).toArray⟩) ∧ w = w' :=
  (Tryz.strings_TrimLeft_one ⟨s.toArray⟩ 32 (by decide) w).mono fun e w' h => ⟨h.1, h.2.symm⟩
set_option maxHeartbeats 1000000 in
theorem next_tok (l : List UInt8) (g : Nat) (W : World) (hc : W.cell? ⟨g, 0, none⟩ = some (.string ⟨l.toArray⟩)) (hf : W.frozen? ⟨g, 0, none⟩ = false) (hg : g < W.heap.size) (hl : l.length ≤ 140737488355328) :
    Calls Tryz.prog 108 #[.pointer (some ⟨g, 0, none⟩)] W (TokPost W g l) := by
  obtain ⟨D, hD⟩ : ∃ D, D = TokPost W g l := ⟨_, rfl⟩
  rw [← hD]
  replace hD := Lib.hid hD
  have hT := Lib.hid (fun w => trim32 l w)
  have hlen : (⟨(Lib.trimLeftB l 32).toArray⟩ : ByteArray).size ≤ 9223372036854775807 := by
    have : (Lib.trimLeftB l 32).length ≤ l.length := by unfold Lib.trimLeftB; exact (List.dropWhile_sublist _).length_le
    simp [ByteArray.size]; omega
  have hC := fun w => cut1 ⟨(Lib.trimLeftB l 32).toArray⟩ 32 w hlen
  have e1 : cutA (Lib.trimLeftB l 32) 32 = tok l := rfl
  have e2 : cutB (Lib.trimLeftB l 32) 32 = rest l := rfl
  simp only [e1, e2] at hC
  have e3 := Lib.hid (And.intro e1 e2)
  generalize (⟨(Lib.trimLeftB l 32).toArray⟩ : ByteArray) = t at *
  replace hC := Lib.hid hC
  clear hlen e1 e2
  have hB := Lib.hid (fun (w' : World) (k : Below W.heap.size W w') => And.intro ((k.cell (p := ⟨g, 0, none⟩) hg).trans hc) ((k.frozen (p := ⟨g, 0, none⟩) hg).trans hf))
  go_enter Tryz.func108, Tryz.ntmps108
  go_wp2_with (first
    | (go_at_call 109; refine (hT.out _).mono ?_; rintro e w1 ⟨rfl, rfl⟩)
    | (go_at_call 86; refine (hC.out _).mono ?_; rintro e w2 ⟨rfl, k⟩; obtain ⟨c1, c2⟩ := hB.out _ k; replace k := Lib.hid k))
  rw [hD.out]
  exact (show _ ∧ _ from ⟨rfl, _, k.out, Below.refl _ _⟩)
end Go.Proofs.YtdkggahkfheocaaGreatDoor
