/- The frames of the chapter's examples (layer core's CoreKnown); boxes one behind the other, beside an arena. Plain lemmas; no statement is proved here. -/
import Derived.Test.YtkmgdfcambdeeaaGreatDoorCbV
namespace Go.Proofs.YtkmgdfcambdeeaaGreatDoor
open Go.RowKit
set_option linter.unusedVariables false
set_option maxRecDepth 100000
def kG : List Cp := doF frA ⟨3, 3, 3, 3, 0⟩ 4096 F0 L0
def kf : Nat → Bool := doG kG ⟨24, 1, 1, 0, 16⟩ 4096 F0
def kl : List UInt8 := doL kG ⟨24, 1, 1, 0, 16⟩ 4096 L0
def kJ : List Cp := doF frL ⟨25, 3, 3, 0, 16⟩ 4096 kf kl
def kWk : List Cp := kG.set 1 ⟨256, 0, 256, 320, 3, 0, 0, true⟩
def kQ : List Cp := doF kWk ⟨23, 4, 1, 0, 16⟩ 4096 kf kl
def kS : List Cp := doF kG ⟨29, 2, 0, 0, 3⟩ 4096 kf kl
def kU : List Cp := doF kG ⟨52, 0, 0, 0, 3⟩ 4096 kf kl
def kY : List Cp := doF kG ⟨44, 7, 1, 0, 0⟩ 4096 kf kl
def kWh : List Cp := kG.set 1 ⟨0, 21, 0, 2048, 1, 0, 0, true⟩
def kLg : List Cp := doF kWh ⟨44, 7, 1, 0, 0⟩ 4096 kf kl
def kWb : List Cp := kG.set 1 ⟨65536, 21, 0, 2048, 1, 0, 0, true⟩
def kTo : List Cp := kG.set 5 ⟨32, 0, 0, 256, 4, 0, 0, true⟩
def kGo : List Cp := doF kTo ⟨30, 5, 5, 0, 0⟩ 4096 kf kl
def kTb : List Cp := kG.set 5 ⟨32, 0, 0, 256, 4, 3, 0, true⟩
theorem kG_fit : Fit kG := doF_fit frA_fit _ _ _ _
theorem kWk_fit : Fit kWk := kG_fit.set 1 ⟨by decide, by decide, by decide, by decide, by decide, by decide, by decide⟩
theorem kWh_fit : Fit kWh := kG_fit.set 1 ⟨by decide, by decide, by decide, by decide, by decide, by decide, by decide⟩
theorem kWb_fit : Fit kWb := kG_fit.set 1 ⟨by decide, by decide, by decide, by decide, by decide, by decide, by decide⟩
theorem kTo_fit : Fit kTo := kG_fit.set 5 ⟨by decide, by decide, by decide, by decide, by decide, by decide, by decide⟩
theorem kTb_fit : Fit kTb := kG_fit.set 5 ⟨by decide, by decide, by decide, by decide, by decide, by decide, by decide⟩
theorem kt_add : doT frA ⟨3, 3, 3, 3, 0⟩ 4096 = 0 := by kernel_rfl
theorem kt_sw2 : doT kG ⟨22, 3, 1, 0, 2⟩ 4096 = 5 := by kernel_rfl
theorem kt_sw3 : doT kG ⟨22, 3, 3, 0, 0⟩ 4096 = 1 := by kernel_rfl
theorem kt_sc : doT kG ⟨24, 1, 1, 0, 16⟩ 4096 = 0 := by kernel_rfl
theorem kt_jalr : doT kG ⟨30, 5, 1, 0, 0⟩ 4096 = 3 := by kernel_rfl
theorem kt_beq : doT frL ⟨25, 3, 3, 0, 16⟩ 4096 = 0 := by kernel_rfl
theorem kt_li : doT kG ⟨1, 16, 0, 0, 0⟩ 4096 = 6 := by kernel_rfl
theorem kt_div : doT kG ⟨6, 3, 3, 0, 0⟩ 4096 = 7 := by kernel_rfl
theorem kt_scw : doT kWk ⟨24, 1, 1, 0, 0⟩ 4096 = 3 := by kernel_rfl
theorem kt_lcw : doT kWk ⟨23, 4, 1, 0, 16⟩ 4096 = 0 := by kernel_rfl
theorem kt_jal : doT kG ⟨29, 2, 0, 0, 3⟩ 4096 = 0 := by kernel_rfl
theorem kt_ecall : doT kG ⟨52, 0, 0, 0, 3⟩ 4096 = 0 := by kernel_rfl
theorem kt_glen : doT kG ⟨44, 7, 1, 0, 0⟩ 4096 = 0 := by kernel_rfl
theorem kt_glw : doT kWh ⟨44, 7, 1, 0, 0⟩ 4096 = 0 := by kernel_rfl
theorem kt_lw : doT kWb ⟨19, 7, 1, 0, 0⟩ 4096 = 4 := by kernel_rfl
theorem kt_to : doT kTo ⟨30, 5, 5, 0, 0⟩ 4096 = 0 := by kernel_rfl
theorem kt_tb : doT kTb ⟨30, 6, 5, 0, 0⟩ 4096 = 2 := by kernel_rfl
theorem kq_lc : touT kG ⟨23, 4, 1, 0, 16⟩ 4096 = true ∧ touP kG ⟨23, 4, 1, 0, 16⟩ 4096 = 1 := ⟨by kernel_rfl, by kernel_rfl⟩
theorem kq_lw : touT kG ⟨19, 4, 1, 0, 16⟩ 4096 = false := by kernel_rfl
theorem kq_l8 : touT kG ⟨23, 4, 1, 0, 8⟩ 4096 = false := by kernel_rfl
theorem kw_j : wayT (reg kJ 16) (reg kJ 16).cu 4 4 4096 = 4 := by kernel_rfl
theorem kw_f : wayT (reg frL 16) (reg frL 16).cu 4 4 4096 = 0 := by kernel_rfl
theorem kw_d : decW (getB kl (reg frL 16).cu 4 : Nat) = Ins.zero := by kernel_rfl
theorem kr_g3 : kG[3]? = some (numC 4294967282) := by kernel_rfl
theorem kr_gp : kG[16]? = some ⟨8, 0, 0, 64, 5, 0, 0, true⟩ := by kernel_rfl
theorem kr_g1 : kG[1]? = some ⟨256, 0, 256, 320, 27, 0, 0, true⟩ := by kernel_rfl
theorem kr_g5 : kG[5]? = some zC := by kernel_rfl
theorem kr_jp : (kJ[16]?).map (·.cu) = some 64 := by kernel_rfl
theorem kr_q4 : kQ[4]? = some ⟨256, 0, 256, 320, 27, 0, 0, false⟩ := by kernel_rfl
theorem kr_s2 : (kS[2]?).map (·.cu) = some 12 := by kernel_rfl
theorem kr_sp : (kS[16]?).map (·.cu) = some 20 := by kernel_rfl
theorem kr_u : kU = kG := by kernel_rfl
theorem kr_y7 : kY[7]? = some (numC 64) := by kernel_rfl
theorem kr_l7 : kLg[7]? = some (numC 4294967295) := by kernel_rfl
theorem kr_n : (reg (nxt kG) 16).cu = 12 := by kernel_rfl
theorem kr_gop : (kGo[16]?).map (·.cu) = some 32 := by kernel_rfl
theorem kr_go5 : (kGo[5]?).map (·.cu) = some 12 := by kernel_rfl
theorem fC_setc : ∀ (F : List Cp) (i k : Nat) (c c' : Cp) (u : Value), F[i]? = some c → k < 8 → c.C.set k u = c'.C → (fC F).set (i * 8 + k) u = fC (F.set i c')
  | [], i, k, c, c', u, h, _, _ => by simp at h
  | d :: F, 0, k, c, c', u, h, hk, hc => by
    simp only [List.getElem?_cons_zero, Option.some.injEq] at h
    subst h
    rw [List.set_cons_zero, fC, fC, Nat.zero_mul, Nat.zero_add, List.set_append_left _ _ (by rw [Cp.C_len]; exact hk), hc]
  | d :: F, i + 1, k, c, c', u, h, hk, hc => by
    rw [fC, List.set_append_right _ _ (by rw [Cp.C_len]; omega), Cp.C_len, show (i + 1) * 8 + k - 8 = i * 8 + k by omega, fC_setc F i k c c' u (by simpa using h) hk hc]
    rfl
/-- An arena and boxes, the newest first. -/
structure Sk (W W1 : World) (a mb wb bb c : Nat) (f : Nat → Bool) (l : List UInt8) (L : List Rw) (w : World) : Prop where
  st : St W1 a mb wb bb c 4096 256 f l L w
  pw : (L.map (·.g)).Pairwise (fun x y => y < x)
  lo : ∀ x, x ∈ L → W1.heap.size ≤ x.g
  hi : a < W1.heap.size ∧ mb < W1.heap.size ∧ wb < W1.heap.size ∧ bb < W1.heap.size
  bw : W.heap.size ≤ wb ∧ W.heap.size ≤ bb
  b1 : Below W.heap.size W W1
section
variable {W W1 w w' : World} {a mb wb bb c : Nat} {f f' : Nat → Bool} {l l' : List UInt8} {L L1 L2 : List Rw}
theorem Sk.first (ha : ArAt W1 a mb wb bb c 4096 256 f l) (hb : Below W.heap.size W W1) (x3 : W.heap.size ≤ wb) (x4 : W.heap.size ≤ bb) : Sk W W1 a mb wb bb c f l [] W1 :=
  ⟨St.first ha, List.Pairwise.nil, (fun x hx => by cases hx), ⟨ha.la, ha.m.lb, ha.m.lw, ha.lb⟩, ⟨x3, x4⟩, hb⟩
theorem Sk.below (h : Sk W W1 a mb wb bb c f l L w) (k : Below w.heap.size w w') : Sk W W1 a mb wb bb c f l L w' := ⟨h.st.below k, h.pw, h.lo, h.hi, h.bw, h.b1⟩
theorem Sk.nxt (h : Sk W W1 a mb wb bb c f l L w) (k : ArAt w' a mb wb bb c 4096 256 f' l' ∧ Of2 w.heap.size wb bb w w') : Sk W W1 a mb wb bb c f' l' L w' := ⟨h.st.nxt k, h.pw, h.lo, h.hi, h.bw, h.b1⟩
theorem Sk.bl (h : Sk W W1 a mb wb bb c f l L w) : Below W.heap.size W w := h.b1.trans (h.st.of.below h.b1.size h.bw.1 h.bw.2)
theorem Sk.up (h : Sk W W1 a mb wb bb c f l L w) : ∀ y, y ∈ L.map (·.g) → y < w.heap.size := fun y hy => by
  obtain ⟨x, hx, rfl⟩ := List.mem_map.1 hy
  exact (h.st.rs x hx).1
theorem Sk.push (h : Sk W W1 a mb wb bb c f l L w) (vs : List Value) (ty : TypeId) : Sk W W1 a mb wb bb c f l (⟨w.heap.size, vs⟩ :: L) (w.alloc (.cells vs.toArray ty)) :=
  ⟨h.st.push vs ty, List.pairwise_cons.2 ⟨h.up, h.pw⟩, fun x hx => by
    rcases List.mem_cons.1 hx with rfl | hx
    · exact h.st.of.size
    · exact h.lo x hx, h.hi, h.bw, h.b1⟩
theorem Sk.put {g : Nat} {vs : List Value} (h : Sk W W1 a mb wb bb c f l (L1 ++ ⟨g, vs⟩ :: L2) w) (k : Nat) (us : List Value) (hk : k + us.length ≤ vs.length) :
    Sk W W1 a mb wb bb c f l (L1 ++ ⟨g, vs.take k ++ us ++ vs.drop (k + us.length)⟩ :: L2) (w.setCells g k us) := by
  have hp := h.pw
  rw [List.map_append, List.map_cons, List.pairwise_append, List.pairwise_cons] at hp
  have hg : W1.heap.size ≤ g := h.lo ⟨g, vs⟩ (by simp)
  have hi := h.hi
  have h1 : St W1 a mb wb bb c 4096 256 f l (⟨g, vs⟩ :: (L1 ++ L2)) w := h.st.sub (fun x hx => by
    simp only [List.mem_cons, List.mem_append] at hx ⊢
    rcases hx with h | h | h
    · exact .inr (.inl h)
    · exact .inl h
    · exact .inr (.inr h))
  have h2 := h1.put k us hk hg (fun x hx => by
    rcases List.mem_append.1 hx with hx | hx
    · have := hp.2.2 x.g (List.mem_map.2 ⟨x, hx, rfl⟩) g (by simp)
      omega
    · have := hp.2.1.1 x.g (List.mem_map.2 ⟨x, hx, rfl⟩)
      have this' : x.g < g := this
      omega) ⟨by omega, by omega, by omega, by omega⟩
  refine ⟨h2.sub (fun x hx => ?_), ?_, fun x hx => ?_, h.hi, h.bw, h.b1⟩
  · simp only [List.mem_cons, List.mem_append] at hx ⊢
    rcases hx with h | h | h
    · exact .inr (.inl h)
    · exact .inl h
    · exact .inr (.inr h)
  · have := h.pw
    rw [List.map_append, List.map_cons] at this ⊢
    exact this
  · simp only [List.mem_cons, List.mem_append] at hx
    rcases hx with hx | hx | hx
    · exact h.lo x (by simp [hx])
    · rw [hx]; exact hg
    · exact h.lo x (by simp [hx])
theorem Sk.box {F : List Cp} (h : Sk W W1 a mb wb bb c f l L w) (hl : F.length = 17) : Sk W W1 a mb wb bb c f l (⟨w.heap.size, fC F⟩ :: L) ((w.alloc (.cells Tryz.zeroCells28 28)).setCells w.heap.size 0 (fC F)) := by
  have h1 := h.push (fC zF) 28
  have h2 := Sk.put (L1 := []) h1 0 (fC F) (by rw [fC_len, fC_len, hl]; decide)
  rw [zero_fr]
  rwa [List.take_zero, List.nil_append, Nat.zero_add, List.drop_eq_nil_of_le (by rw [fC_len, fC_len, hl]; decide), List.append_nil, List.nil_append] at h2
theorem Sk.box_there {F : List Cp} (h : Sk W W1 a mb wb bb c f l L w) (hl : F.length = 17) : (w.alloc (.cells Tryz.zeroCells28 28)).there w.heap.size 0 (fC F).toArray.size := by
  have h1 := h.push (fC zF) 28
  rw [show (fC F).toArray.size = 136 from by rw [List.size_toArray, fC_len, hl], zero_fr]
  exact at_there (h1.st.rs _ (List.mem_cons_self ..)) 136 (by rw [fC_len]; decide)
theorem Sk.reg {g : Nat} {F : List Cp} (h : Sk W W1 a mb wb bb c f l (L1 ++ ⟨g, fC F⟩ :: L2) w) (i : Nat) (d : Cp) (hi : i < F.length) : Sk W W1 a mb wb bb c f l (L1 ++ ⟨g, fC (F.set i d)⟩ :: L2) (w.setCells g (i * 8) d.C) := by
  have := h.put (i * 8) d.C (by rw [fC_len, Cp.C_len]; omega)
  rwa [Cp.C_len, fC_set F i d hi] at this
theorem Sk.cell {g : Nat} {F : List Cp} (h : Sk W W1 a mb wb bb c f l (L1 ++ ⟨g, fC F⟩ :: L2) w) (i k : Nat) (d d' : Cp) (u : Value) (hF : F[i]? = some d) (hk : k < 8) (hc : d.C.set k u = d'.C) :
    Sk W W1 a mb wb bb c f l (L1 ++ ⟨g, fC (F.set i d')⟩ :: L2) (w.setCell ⟨g, i * 8 + k, none⟩ u) := by
  have hi := (List.getElem?_eq_some_iff.1 hF).1
  have := h.put (i * 8 + k) [u] (by rw [fC_len]; show i * 8 + k + 1 ≤ _; omega)
  rw [show (fC F).take (i * 8 + k) ++ [u] ++ (fC F).drop (i * 8 + k + [u].length) = fC (F.set i d') from by
    rw [← fC_setc F i k d d' u hF hk hc, List.set_eq_take_append_cons_drop, if_pos (by rw [fC_len]; omega)]
    simp] at this
  exact this
theorem kdo {F : List Cp} (hF : Fit F) (i : Ins) (f : Nat → Bool) (l : List UInt8) (t : Int) (ht : doT F i 4096 = t) (hs : t ≠ 0 ∨ isS i.op = false) (w : World) (H : ArAt w a mb wb bb c 4096 256 f l) (h : Tabs w) :
    Calls Tryz.prog 12 #[fV F, iv i, .pointer (some ⟨a, 0, none⟩)] w (Nxt a mb wb bb c 4096 256 f l w (.tuple #[fV (doF F i 4096 f l), .int .i64 t])) := by
  have k := pDo_any H h F hF i
  rw [ht, show doG F i 4096 f = f from if_neg (fun q => hs.elim (fun e => e (ht ▸ q.1)) (fun e => by rw [e] at q; exact absurd q.2 (by decide))), show doL F i 4096 l = l from if_neg (fun q => hs.elim (fun e => e (ht ▸ q.1)) (fun e => by rw [e] at q; exact absurd q.2 (by decide)))] at k
  exact k
theorem kdz {F : List Cp} (hF : Fit F) (i : Ins) (f : Nat → Bool) (l : List UInt8) (t : Int) (ht : doT F i 4096 = t) (hs : t ≠ 0) (w : World) (H : ArAt w a mb wb bb c 4096 256 f l) (h : Tabs w) :
    Calls Tryz.prog 12 #[fV F, iv i, .pointer (some ⟨a, 0, none⟩)] w (Nxt a mb wb bb c 4096 256 f l w (.tuple #[fV zF, .int .i64 t])) := by
  have k := kdo (a := a) (mb := mb) (wb := wb) (bb := bb) (c := c) hF i f l t ht (.inl hs) w H h
  rwa [show doF F i 4096 f l = zF from if_pos (by rw [ht]; exact hs)] at k
end
theorem kfld1 (w : World) : (Instr.field 28 (fV (nxt kG)) 1).run Tryz.prog w = .ok (.agg #[.int .u32 12, .int .u8 0, .int .u16 0, .int .u16 64, .int .u16 5, .int .u16 0, .int .u32 0, .bool true]) w := by kernel_rfl
theorem kfld2 (w : World) : (Instr.field 25 (.agg #[.int .u32 12, .int .u8 0, .int .u16 0, .int .u16 64, .int .u16 5, .int .u16 0, .int .u32 0, .bool true]) 0).run Tryz.prog w = .ok (.int .u32 12) w := by kernel_rfl
end Go.Proofs.YtkmgdfcambdeeaaGreatDoor
