/- A heap in memory; what its calls may turn; made, pageOf, remove. No statement is proved here.; Plain matter for SlotsOnce and SlotsLeast: how many are free; truths in an array. No statement is proved here.; Plain mathematics of layer heap: what is handed out. No statement is proved here. -/
import Derived.Test.YticfpnhfhhagpaaDoormi
import Derived.Test.YticfpnhfhhagpaaDoormm
import Derived.Test.YticfpnhfhhagpaaDoormp
import Derived.Test.YticfpnhfhhagpaaDoormr
import Derived.Test.YticfpnhfhhagpaaDoormh
namespace Go.Proofs.YticfpnhfhhagpaaDoor
set_option maxRecDepth 100000
open Go.RowKit Go.Shelf Go.Maps
set_option linter.unusedVariables false

/-- What lay beside the blocks from lo to hi is as it was. -/
structure Mid (lo hi : Nat) (w w' : World) : Prop where
  os : w'.os = w.os
  tape : w'.tape = w.tape
  output : w'.output = w.output
  size : w.heap.size ≤ w'.heap.size
  block : ∀ k, k < w.heap.size → k < lo ∨ hi ≤ k → w'.heap[k]? = w.heap[k]?
section
variable {lo hi q : Nat} {a b c w w' : World}
theorem Mid.refl (lo hi : Nat) (w : World) : Mid lo hi w w := ⟨rfl, rfl, rfl, Nat.le_refl _, fun _ _ _ => rfl⟩
theorem Mid.trans (h : Mid lo hi a b) (k : Mid lo hi b c) : Mid lo hi a c :=
  ⟨k.os.trans h.os, k.tape.trans h.tape, k.output.trans h.output, Nat.le_trans h.size k.size, fun i hi hn => (k.block i (Nat.lt_of_lt_of_le hi h.size) hn).trans (h.block i hi hn)⟩
theorem Mid.of_below (h : Below w.heap.size w w') : Mid lo hi w w' := ⟨h.os, h.tape, h.output, h.size, fun k hk _ => h.block k hk⟩
theorem Mid.of_off (h : Off w.heap.size q w w') (h1 : lo ≤ q) (h2 : q < hi) : Mid lo hi w w' := ⟨h.os, h.tape, h.output, h.size, fun k hk hn => h.block k hk (by omega)⟩
theorem Mid.below (h : Mid lo hi w w') (hl : lo ≤ w.heap.size) : Below lo w w' := ⟨h.os, h.tape, h.output, h.size, fun k hk => h.block k (by omega) (.inl hk)⟩
theorem Mid.alloc (h : Mid lo hi a w) (o : Obj) : Mid lo hi a (w.alloc o) := h.trans (Mid.of_below ((Below.refl _ _).alloc (Nat.le_refl _) o))
theorem Mid.drew (h : Mid lo hi a w) : Mid lo hi a w.drew := h.trans (Mid.of_below (Below.refl _ _).drew)
end
/-- The blocks of a heap: itself, its maps, its pool of three, its books. -/
structure Blk where
  h : Nat
  lb : Nat
  rb : Nat
  pb : Nat
  pm : Nat
  pw : Nat
  bk : Nat → Nat
def Blk.foot (B : Blk) (k : Nat) : Prop := k = B.h ∨ k = B.lb ∨ k = B.rb ∨ k = B.pb ∨ k = B.pm ∨ k = B.pw ∨ ∃ c, c < 5 ∧ k = B.bk c
structure Blk.Ok (B : Blk) (lo hi : Nat) : Prop where
  inn : ∀ k, B.foot k → lo ≤ k ∧ k < hi
  h1 : B.h ≠ B.lb ∧ B.h ≠ B.rb ∧ B.h ≠ B.pw ∧ ∀ c, c < 5 → B.h ≠ B.bk c
  l1 : B.lb ≠ B.rb ∧ B.lb ≠ B.pb ∧ B.lb ≠ B.pm ∧ B.lb ≠ B.pw ∧ ∀ c, c < 5 → B.lb ≠ B.bk c
  r1 : B.rb ≠ B.pb ∧ B.rb ≠ B.pm ∧ B.rb ≠ B.pw ∧ ∀ c, c < 5 → B.rb ≠ B.bk c
  p1 : ∀ c, c < 5 → B.pb ≠ B.bk c ∧ B.pm ≠ B.bk c ∧ B.pw ≠ B.bk c
  b1 : ∀ c d, c < 5 → d < 5 → c ≠ d → B.bk c ≠ B.bk d
theorem PoolAt.keep {W W' : World} {p b wb n : Nat} {f : Nat → Bool} (h : PoolAt W p b wb n f) (hk : ∀ k, k = p ∨ k = b ∨ k = wb → W'.heap[k]? = W.heap[k]?) (hs : W.heap.size ≤ W'.heap.size) : PoolAt W' p b wb n f :=
  ⟨(World.cell?_of_block (hk p (.inl rfl))).trans h.c0, h.m.keep (fun k hk' => hk k (.inr hk')) hs, h.ne, Nat.lt_of_lt_of_le h.lp hs, h.le⟩
/-- A heap in memory. -/
structure HS (B : Blk) (lo hi sz p1 : Nat) (L R : List Rg) (f : Nat → Bool) (g : Nat → Nat → Bool) (s : Nat → Nat → Nat → Bool) (W : World) : Prop where
  ok : B.Ok lo hi
  hi : hi ≤ W.heap.size
  c0 : W.cell? ⟨B.h, 0, none⟩ = some (.int .u32 (sz : Int))
  c1 : W.cell? ⟨B.h, 1, none⟩ = some (.map (some B.lb))
  c2 : W.cell? ⟨B.h, 2, none⟩ = some (.map (some B.rb))
  c3 : W.cell? ⟨B.h, 3, none⟩ = some (.pointer (some ⟨B.pb, 0, none⟩))
  cb : ∀ c, c < 5 → W.cell? ⟨B.h, 4 + c, none⟩ = some (.pointer (some ⟨B.bk c, 0, none⟩))
  live : RMap W B.lb L
  rest : RMap W B.rb R
  pool : PoolAt W B.pb B.pm B.pw p1 f
  book : ∀ c, c < 5 → BookAt W (B.bk c) (perN c) (g c) (s c)
section
variable {W W' w : World} {B : Blk} {lo hi sz p1 : Nat} {L R L' R' : List Rg} {f f' : Nat → Bool} {g : Nat → Nat → Bool} {s : Nat → Nat → Nat → Bool}
theorem HS.keep (H : HS B lo hi sz p1 L R f g s W) (hk : ∀ k, lo ≤ k → k < hi → W'.heap[k]? = W.heap[k]?) (hs : W.heap.size ≤ W'.heap.size) : HS B lo hi sz p1 L R f g s W' := by
  have hf : ∀ k, B.foot k → W'.heap[k]? = W.heap[k]? := fun k hk' => hk k (H.ok.inn k hk').1 (H.ok.inn k hk').2
  have e0 := hf B.h (.inl rfl)
  exact ⟨H.ok, Nat.le_trans H.hi hs, (World.cell?_of_block e0).trans H.c0, (World.cell?_of_block e0).trans H.c1, (World.cell?_of_block e0).trans H.c2, (World.cell?_of_block e0).trans H.c3, fun c hc => (World.cell?_of_block e0).trans (H.cb c hc),
    H.live.keep (hf _ (.inr (.inl rfl))), H.rest.keep (hf _ (.inr (.inr (.inl rfl)))),
    H.pool.keep (fun k hk' => hf k (by unfold Blk.foot; rcases hk' with h | h | h <;> simp [h])) hs,
    fun c hc => (H.book c hc).keep (hf _ (.inr (.inr (.inr (.inr (.inr (.inr ⟨c, hc, rfl⟩))))))) hs⟩
theorem HS.grow (H : HS B lo hi sz p1 L R f g s W) (h : Below W.heap.size W W') : HS B lo hi sz p1 L R f g s W' :=
  H.keep (fun k _ hk => h.block k (Nat.lt_of_lt_of_le hk H.hi)) h.size
theorem HS.drew (H : HS B lo hi sz p1 L R f g s W) : HS B lo hi sz p1 L R f g s W.drew := H.grow (Below.refl _ _).drew
theorem HS.lb_in (H : HS B lo hi sz p1 L R f g s W) : lo ≤ B.lb ∧ B.lb < hi := H.ok.inn _ (.inr (.inl rfl))
theorem HS.rb_in (H : HS B lo hi sz p1 L R f g s W) : lo ≤ B.rb ∧ B.rb < hi := H.ok.inn _ (.inr (.inr (.inl rfl)))
theorem HS.pw_in (H : HS B lo hi sz p1 L R f g s W) : lo ≤ B.pw ∧ B.pw < hi := H.ok.inn _ (.inr (.inr (.inr (.inr (.inr (.inl rfl))))))
theorem HS.bk_in (H : HS B lo hi sz p1 L R f g s W) {c : Nat} (hc : c < 5) : lo ≤ B.bk c ∧ B.bk c < hi := H.ok.inn _ (.inr (.inr (.inr (.inr (.inr (.inr ⟨c, hc, rfl⟩))))))
/-- One block of it turns. -/
theorem HS.turn {q : Nat} (H : HS B lo hi sz p1 L R f g s W) (o : Off W.heap.size q W W') (hk : ∀ k, B.foot k → k ≠ q → W'.heap[k]? = W.heap[k]?) : True := trivial
theorem HS.same {q k : Nat} (H : HS B lo hi sz p1 L R f g s W) (o : Off W.heap.size q W W') (hf : B.foot k) (hn : k ≠ q) : W'.heap[k]? = W.heap[k]? := o.block k (Nat.lt_of_lt_of_le (H.ok.inn k hf).2 H.hi) hn
theorem HS.setLive (H : HS B lo hi sz p1 L R f g s W) (o : Off W.heap.size B.lb W W') (m : RMap W' B.lb L') : HS B lo hi sz p1 L' R f g s W' := by
  have e0 := H.same o (.inl rfl) H.ok.h1.1
  exact ⟨H.ok, Nat.le_trans H.hi o.size, (World.cell?_of_block e0).trans H.c0, (World.cell?_of_block e0).trans H.c1, (World.cell?_of_block e0).trans H.c2, (World.cell?_of_block e0).trans H.c3, fun c hc => (World.cell?_of_block e0).trans (H.cb c hc), m,
    H.rest.keep (H.same o (.inr (.inr (.inl rfl))) H.ok.l1.1.symm),
    H.pool.keep (fun k hk' => by
      rcases hk' with h | h | h
      · subst h; exact H.same o (by simp [Blk.foot]) H.ok.l1.2.1.symm
      · subst h; exact H.same o (by simp [Blk.foot]) H.ok.l1.2.2.1.symm
      · subst h; exact H.same o (by simp [Blk.foot]) H.ok.l1.2.2.2.1.symm) o.size,
    fun c hc => (H.book c hc).keep (H.same o (.inr (.inr (.inr (.inr (.inr (.inr ⟨c, hc, rfl⟩)))))) (H.ok.l1.2.2.2.2 c hc).symm) o.size⟩
theorem HS.setRest (H : HS B lo hi sz p1 L R f g s W) (o : Off W.heap.size B.rb W W') (m : RMap W' B.rb R') : HS B lo hi sz p1 L R' f g s W' := by
  have e0 := H.same o (.inl rfl) H.ok.h1.2.1
  exact ⟨H.ok, Nat.le_trans H.hi o.size, (World.cell?_of_block e0).trans H.c0, (World.cell?_of_block e0).trans H.c1, (World.cell?_of_block e0).trans H.c2, (World.cell?_of_block e0).trans H.c3, fun c hc => (World.cell?_of_block e0).trans (H.cb c hc),
    H.live.keep (H.same o (.inr (.inl rfl)) H.ok.l1.1), m,
    H.pool.keep (fun k hk' => by
      rcases hk' with h | h | h
      · subst h; exact H.same o (by simp [Blk.foot]) H.ok.r1.1.symm
      · subst h; exact H.same o (by simp [Blk.foot]) H.ok.r1.2.1.symm
      · subst h; exact H.same o (by simp [Blk.foot]) H.ok.r1.2.2.1.symm) o.size,
    fun c hc => (H.book c hc).keep (H.same o (.inr (.inr (.inr (.inr (.inr (.inr ⟨c, hc, rfl⟩)))))) (H.ok.r1.2.2.2 c hc).symm) o.size⟩
theorem HS.setPool (H : HS B lo hi sz p1 L R f g s W) (o : Off W.heap.size B.pw W W') (m : PoolAt W' B.pb B.pm B.pw p1 f') : HS B lo hi sz p1 L R f' g s W' := by
  have e0 := H.same o (.inl rfl) H.ok.h1.2.2.1
  exact ⟨H.ok, Nat.le_trans H.hi o.size, (World.cell?_of_block e0).trans H.c0, (World.cell?_of_block e0).trans H.c1, (World.cell?_of_block e0).trans H.c2, (World.cell?_of_block e0).trans H.c3, fun c hc => (World.cell?_of_block e0).trans (H.cb c hc),
    H.live.keep (H.same o (.inr (.inl rfl)) H.ok.l1.2.2.2.1), H.rest.keep (H.same o (.inr (.inr (.inl rfl))) H.ok.r1.2.2.1), m,
    fun c hc => (H.book c hc).keep (H.same o (.inr (.inr (.inr (.inr (.inr (.inr ⟨c, hc, rfl⟩)))))) (H.ok.p1 c hc).2.2.symm) o.size⟩
theorem HS.setBook {c : Nat} {g' : Nat → Bool} {s' : Nat → Nat → Bool} (hc : c < 5) (H : HS B lo hi sz p1 L R f g s W) (o : Off W.heap.size (B.bk c) W W') (m : BookAt W' (B.bk c) (perN c) g' s') :
    HS B lo hi sz p1 L R f (fun d => if d = c then g' else g d) (fun d => if d = c then s' else s d) W' := by
  have e0 := H.same o (.inl rfl) (H.ok.h1.2.2.2 c hc)
  exact ⟨H.ok, Nat.le_trans H.hi o.size, (World.cell?_of_block e0).trans H.c0, (World.cell?_of_block e0).trans H.c1, (World.cell?_of_block e0).trans H.c2, (World.cell?_of_block e0).trans H.c3, fun c hc => (World.cell?_of_block e0).trans (H.cb c hc),
    H.live.keep (H.same o (.inr (.inl rfl)) (H.ok.l1.2.2.2.2 c hc)), H.rest.keep (H.same o (.inr (.inr (.inl rfl))) (H.ok.r1.2.2.2 c hc)),
    H.pool.keep (fun k hk' => by
      rcases hk' with h | h | h
      · subst h; exact H.same o (by simp [Blk.foot]) (H.ok.p1 c hc).1
      · subst h; exact H.same o (by simp [Blk.foot]) (H.ok.p1 c hc).2.1
      · subst h; exact H.same o (by simp [Blk.foot]) (H.ok.p1 c hc).2.2) o.size,
    fun d hd => by
      by_cases e : d = c
      · subst e; simp only [if_true]; exact m
      · simp only [if_neg e]; exact (H.book d hd).keep (H.same o (.inr (.inr (.inr (.inr (.inr (.inr ⟨d, hd, rfl⟩)))))) (H.ok.b1 d c hd hc e)) o.size⟩
theorem HS.congr {g' : Nat → Nat → Bool} {s' : Nat → Nat → Nat → Bool} (H : HS B lo hi sz p1 L R f g s W) (ef : f = f') (eg : ∀ c, c < 5 → g c = g' c) (es : ∀ c, c < 5 → s c = s' c) : HS B lo hi sz p1 L R f' g' s' W :=
  ⟨H.ok, H.hi, H.c0, H.c1, H.c2, H.c3, H.cb, H.live, H.rest, ef ▸ H.pool, fun c hc => eg c hc ▸ es c hc ▸ H.book c hc⟩

theorem made_any (H : HS B lo hi sz p1 L R f g s w) : Calls Tryd.prog 27 #[.pointer (some ⟨B.h, 0, none⟩)] w fun e w' => e = .returned (.bool true) ∧ w = w' := by
  have c3 := H.c3
  clear H
  go_enter Tryd.func27, Tryd.ntmps27
  go_wp2
  go_ret
  exact ⟨rfl, rfl⟩
theorem made_nil (w : World) : Calls Tryd.prog 27 #[.pointer none] w fun e w' => e = .returned (.bool false) ∧ w = w' := by
  go_enter Tryd.func27, Tryd.ntmps27
  go_wp2
  go_ret
  exact ⟨rfl, rfl⟩
theorem made_empty (h : Nat) (c3 : w.cell? ⟨h, 3, none⟩ = some (.pointer none)) : Calls Tryd.prog 27 #[.pointer (some ⟨h, 0, none⟩)] w fun e w' => e = .returned (.bool false) ∧ w = w' := by
  go_enter Tryd.func27, Tryd.ntmps27
  go_wp2
  go_ret
  exact ⟨rfl, rfl⟩
theorem pageOf_any (a n : Nat) (ha : a < 4294967296) (w : World) : Calls Tryd.prog 24 #[.agg #[.int .u32 a, .int .u32 n]] w fun e w' => e = .returned (.int .i64 ((a / 256 : Nat) : Int)) ∧ Below w.heap.size w w' := by
  have hb := Lib.hid ((Below.refl w.heap.size w).alloc (Nat.le_refl _) (.cells #[.int .u32 a, .int .u32 n] 26))
  obtain ⟨q, hq⟩ : ∃ q, q = a / 256 := ⟨_, rfl⟩
  have e1 : (a : Int) / 256 = q := by omega
  have hqb : q < 16777216 := by omega
  rw [← hq]
  clear hq
  go_enter Tryd.func24, Tryd.ntmps24
  go_wp2
  go_ret
  exact ⟨rfl, hb.out⟩
end
end Go.Proofs.YticfpnhfhhagpaaDoor
namespace Go.Proofs.YticfpnhfhhagpaaDoor
set_option maxRecDepth 100000
open Go.RowKit Go.Shelf
set_option linter.unusedVariables false
theorem cnt_set {h : Nat → Bool} {s : Nat} (hv : h s = false) : ∀ k, s < k → cnt (upd h s true) k = cnt h k + 1
  | 0, hk => by omega
  | k + 1, hk => by
    by_cases e : s = k
    · subst e
      have : cnt (upd h s true) s = cnt h s := cnt_congr fun j hj => upd_ne h true (by omega)
      simp [cnt, this, upd_same, hv]
    · have ih := cnt_set hv k (by omega)
      simp only [cnt, ih, upd_ne h true (show k ≠ s by omega)]
      omega
theorem cnt_clear {h : Nat → Bool} {s : Nat} (hv : h s = true) : ∀ k, s < k → cnt (upd h s false) k + 1 = cnt h k
  | 0, hk => by omega
  | k + 1, hk => by
    by_cases e : s = k
    · subst e
      have : cnt (upd h s false) s = cnt h s := cnt_congr fun j hj => upd_ne h false (by omega)
      simp [cnt, this, upd_same, hv]
    · have ih := cnt_clear hv k (by omega)
      simp only [cnt, upd_ne h false (show k ≠ s by omega)]
      omega
theorem tot_updP (f : Nat → Nat → Bool) (p : Nat) (h : Nat → Bool) : ∀ n, p < n → tot (updP f p h) n + cnt (f p) 16 = tot f n + cnt h 16
  | 0, hn => by omega
  | n + 1, hn => by
    by_cases e : p = n
    · subst e
      have : tot (updP f p h) p = tot f p := tot_congr fun q s hq hs => by rw [updP_ne f h (by omega)]
      simp only [tot, this, updP_same]
      omega
    · have ih := tot_updP f p h n (by omega)
      simp only [tot, updP_ne f h (show n ≠ p by omega)]
      omega
theorem tot_put {f : Nat → Nat → Bool} {p s n : Nat} (hp : p < n) (hs : s < 16) (hv : f p s = false) : tot (upd2 f p s true) n = tot f n + 1 := by
  have h1 := tot_updP f p (upd (f p) s true) n hp
  rw [← upd2_updP, cnt_set hv 16 hs] at h1
  omega
theorem tot_take {f : Nat → Nat → Bool} {p s n : Nat} (hp : p < n) (hs : s < 16) (hv : f p s = true) : tot (upd2 f p s false) n + 1 = tot f n := by
  have h1 := tot_updP f p (upd (f p) s false) n hp
  have h2 := cnt_clear hv 16 hs
  rw [← upd2_updP] at h1
  omega
theorem cnt_full : ∀ n, n ≤ 16 → cnt (full n) 16 = n := by
  have : ∀ n : Fin 17, cnt (full n.val) 16 = n.val := by decide +kernel
  exact fun n hn => this ⟨n, by omega⟩
theorem tot_zero {f : Nat → Nat → Bool} (h : ∀ p s, f p s = false) : ∀ n, tot f n = 0
  | 0 => rfl
  | n + 1 => by simp only [tot]; rw [tot_zero h n, cnt_zero (fun s _ => h n s)]
theorem tot_pos {f : Nat → Nat → Bool} {p s n : Nat} (hp : p < n) (hs : s < 16) (hv : f p s = true) : 0 < tot f n := by
  have := tot_take hp hs hv
  omega
theorem tot_add {f : Nat → Nat → Bool} {p n m : Nat} (hp : p < n) (hm : m ≤ 16) (h0 : ∀ s, f p s = false) : tot (updP f p (full m)) n = tot f n + m := by
  have h1 := tot_updP f p (full m) n hp
  rw [cnt_zero (fun s _ => h0 s), cnt_full m hm] at h1
  omega
/-- At block q stand m truths, as h tells. -/
structure TrArr (W : World) (q m : Nat) (h : Nat → Bool) : Prop where
  cs : ∀ i, i < m → W.cell? ⟨q, i, none⟩ = some (.bool (h i)) ∧ W.frozen? ⟨q, i, none⟩ = false
  lt : q < W.heap.size
section
variable {W W' : World} {q m : Nat} {h k : Nat → Bool}
theorem TrArr.keep (H : TrArr W q m h) (hk : W'.heap[q]? = W.heap[q]?) (hs : W.heap.size ≤ W'.heap.size) : TrArr W' q m h :=
  ⟨fun i hi => ⟨(World.cell?_of_block hk).trans (H.cs i hi).1, (World.frozen?_of_block hk).trans (H.cs i hi).2⟩, Nat.lt_of_lt_of_le H.lt hs⟩
theorem TrArr.grow (H : TrArr W q m h) (b : Below W.heap.size W W') : TrArr W' q m h := H.keep (b.block q H.lt) b.size
theorem TrArr.off {b : Nat} (H : TrArr W q m h) (o : Off W.heap.size b W W') (hn : q ≠ b) : TrArr W' q m h := H.keep (o.block q H.lt hn) o.size
theorem TrArr.congr (H : TrArr W q m h) (e : ∀ i, i < m → h i = k i) : TrArr W q m k := ⟨fun i hi => e i hi ▸ H.cs i hi, H.lt⟩
theorem TrArr.store (H : TrArr W q m h) {a : Nat} (ha : a < m) (v : Bool) : TrArr (W.setCell ⟨q, a, none⟩ (.bool v)) q m (upd h a v) := by
  refine ⟨fun i hi => ⟨?_, (World.frozen?_setCell _ _ _ _).trans (H.cs i hi).2⟩, by simpa [World.setCell] using H.lt⟩
  by_cases e : i = a
  · subst e
    rw [upd_same]
    exact World.cell?_setCell_same' _ _ _ (by rw [(H.cs i hi).1]; rfl)
  · rw [upd_ne _ _ e, World.cell?_setCell_other _ _ _ _ (fun e' => e (by simpa using (congrArg Addr.off e').symm))]
    exact (H.cs i hi).1
theorem TrArr.far (H : TrArr W q m h) {r : Nat} (hn : q ≠ r) (j : Nat) (u : Value) : TrArr (W.setCell ⟨r, j, none⟩ u) q m h :=
  H.keep (Below.heap_setCell _ _ _ _ hn) (by simp [World.setCell])
theorem TrArr.zero (W : World) (m : Nat) (t : TypeId) : TrArr (W.alloc (.cells (Array.replicate m (.bool false)) t)) W.heap.size m (fun _ => false) := ⟨fun i hi => by
  constructor
  · simp [hi]
  · simp, by simp⟩
end
/-- Which slots were taken and not put back: in one row. -/
def tkn (n : Nat) (g : Nat → Bool) (f : Nat → Nat → Bool) (j : Nat) : Bool := g (j / 16) && decide (j % 16 < n) && !f (j / 16) (j % 16)
/-- A book, and beside it which pages are there, and which slots are taken. -/
structure OI (W : World) (b n qa qb : Nat) (g : Nat → Bool) (f : Nat → Nat → Bool) (w : World) : Prop where
  k : SK W b n g f w
  a : TrArr w qa 8 g
  t : TrArr w qb 128 (tkn n g f)
  g8 : ∀ p, g p = true → p < 8
  d : b ≠ qa ∧ b ≠ qb ∧ qa ≠ qb ∧ W.heap.size ≤ qa ∧ W.heap.size ≤ qb
section
variable {W w w' : World} {b n qa qb : Nat} {g g' : Nat → Bool} {f f' : Nat → Nat → Bool} {v : Value} {e : Ending}
theorem OI.grow (H : OI W b n qa qb g f w) (k : Below w.heap.size w w') : OI W b n qa qb g f w' := ⟨H.k.grow k, H.a.grow k, H.t.grow k, H.g8, H.d⟩
theorem OI.same (H : OI W b n qa qb g f w) (k : BNext b n g f w v e w') : e = .returned v ∧ OI W b n qa qb g f w' :=
  ⟨k.1, (H.k.next k).2, H.a.off k.2.2 H.d.1.symm, H.t.off k.2.2 H.d.2.1.symm, H.g8, H.d⟩
theorem SK.far {r : Nat} (S : SK W b n g f w) (hn : b ≠ r) (hr : W.heap.size ≤ r) (j : Nat) (u : Value) : SK W b n g f (w.setCell ⟨r, j, none⟩ u) :=
  ⟨S.k.keep (Below.heap_setCell _ _ _ _ hn) (by simp [World.setCell]), S.bl.setCell (p := ⟨r, j, none⟩) hr u, S.hb⟩
/-- What a call of the book's leaves, ahead of what is noted of it. -/
structure OX (W : World) (b n qa qb : Nat) (g : Nat → Bool) (h t : Nat → Bool) (f : Nat → Nat → Bool) (w : World) : Prop where
  k : SK W b n g f w
  a : TrArr w qa 8 h
  t : TrArr w qb 128 t
theorem OI.next (H : OI W b n qa qb g f w) (k : BNext b n g' f' w v e w') : e = .returned v ∧ OX W b n qa qb g' g (tkn n g f) f' w' :=
  ⟨k.1, (H.k.next k).2, H.a.off k.2.2 H.d.1.symm, H.t.off k.2.2 H.d.2.1.symm⟩
/-- A slot that was free is taken. -/
theorem tkn_take {p s : Nat} (hp : g p = true) (hs : s < n) (hn : n ≤ 16) (hf : f p s = true) (j : Nat) : upd (tkn n g f) (p * 16 + s) true j = tkn n g (upd2 f p s false) j := by
  by_cases e : j = p * 16 + s
  · subst e
    rw [upd_same]
    unfold tkn
    rw [show (p * 16 + s) / 16 = p by omega, show (p * 16 + s) % 16 = s by omega, hp]
    simp [upd2, upd, hs]
  · rw [upd_ne _ _ e]
    unfold tkn
    by_cases e1 : j / 16 = p
    · have e2 : j % 16 ≠ s := by omega
      simp [upd2, upd, e1, e2]
    · simp [upd2, e1]
/-- A slot that was taken is put back. -/
theorem tkn_put {p s : Nat} (hs : s < 16) (j : Nat) : upd (tkn n g f) (p * 16 + s) false j = tkn n g (upd2 f p s true) j := by
  by_cases e : j = p * 16 + s
  · subst e
    rw [upd_same]
    unfold tkn
    rw [show (p * 16 + s) / 16 = p by omega, show (p * 16 + s) % 16 = s by omega]
    simp [upd2, upd]
  · rw [upd_ne _ _ e]
    unfold tkn
    by_cases e1 : j / 16 = p
    · have e2 : j % 16 ≠ s := by omega
      simp [upd2, upd, e1, e2]
    · simp [upd2, e1]
theorem tkn_add {p : Nat} (hp : g p = false) (j : Nat) : tkn n g f j = tkn n (upd g p true) (updP f p (full n)) j := by
  unfold tkn
  by_cases e : j / 16 = p
  · rw [e, hp, upd_same, updP_same]
    unfold full
    cases decide (j % 16 < n) <;> rfl
  · rw [upd_ne g true e, updP_ne f _ e]
end
end Go.Proofs.YticfpnhfhhagpaaDoor
namespace Go.Proofs.YticfpnhfhhagpaaDoor
set_option maxRecDepth 100000
set_option linter.unusedVariables false

/-- The first slot that is free. -/
def lst (s : Nat → Nat → Bool) : Option (Nat × Nat) := ((List.range 16384).map fun j => (j / 16, j % 16)).find? fun x => s x.1 x.2
theorem lst_some {s : Nat → Nat → Bool} {p k : Nat} (h : lst s = some (p, k)) : s p k = true ∧ p < 1024 ∧ k < 16 ∧ ∀ q t, t < 16 → q * 16 + t < p * 16 + k → s q t = false := by
  unfold lst at h
  rw [List.find?_map] at h
  obtain ⟨j, hj, hx⟩ := Option.map_eq_some_iff.1 h
  obtain ⟨h1, i, hi, rfl, h2⟩ := List.find?_eq_some_iff_getElem.1 hj
  simp only [List.getElem_range, Function.comp] at h1 h2 hx
  simp only [List.length_range] at hi
  cases hx
  refine ⟨h1, by omega, by omega, fun q t ht hl => ?_⟩
  have := h2 (q * 16 + t) (by omega)
  rw [show (q * 16 + t) / 16 = q by omega, show (q * 16 + t) % 16 = t by omega] at this
  simpa using this
theorem lst_none {s : Nat → Nat → Bool} (h : lst s = none) {p k : Nat} (hp : p < 1024) (hk : k < 16) : s p k = false := by
  unfold lst at h
  rw [List.find?_eq_none] at h
  have := h (p, k) (List.mem_map.2 ⟨p * 16 + k, List.mem_range.2 (by omega), by rw [show (p * 16 + k) / 16 = p by omega, show (p * 16 + k) % 16 = k by omega]⟩)
  simpa using this
theorem lst_is {s : Nat → Nat → Bool} {p k : Nat} (h1 : s p k = true) (hp : p < 1024) (hk : k < 16) (h2 : ∀ q t, t < 16 → q * 16 + t < p * 16 + k → s q t = false) : lst s = some (p, k) := by
  cases e : lst s with
  | none => rw [lst_none e hp hk] at h1; cases h1
  | some x =>
    obtain ⟨q, t⟩ := x
    obtain ⟨a1, a2, a3, a4⟩ := lst_some e
    rcases Nat.lt_trichotomy (q * 16 + t) (p * 16 + k) with h | h | h
    · rw [h2 q t a3 h] at a1; cases a1
    · rw [show q = p by omega, show t = k by omega]
    · rw [a4 p k hk h] at h1; cases h1
/-- A list by where they begin, and one more. -/
def insR (r : Rg) : List Rg → List Rg
  | [] => [r]
  | q :: l => if r.1 < q.1 then r :: q :: l else q :: insR r l
theorem insR_mem (r : Rg) : ∀ (l : List Rg) (q : Rg), q ∈ insR r l ↔ q = r ∨ q ∈ l
  | [], q => by simp [insR]
  | p :: l, q => by
    unfold insR
    split
    · simp
    · rw [List.mem_cons, insR_mem r l q, List.mem_cons]
      constructor
      · rintro (h | h | h)
        · exact .inr (.inl h)
        · exact .inl h
        · exact .inr (.inr h)
      · rintro (h | h | h)
        · exact .inr (.inl h)
        · exact .inl h
        · exact .inr (.inr h)
theorem insR_len (r : Rg) : ∀ l : List Rg, (insR r l).length = l.length + 1
  | [] => rfl
  | p :: l => by
    unfold insR
    split
    · simp
    · simp [insR_len r l]
theorem insR_asc {r : Rg} : ∀ {l : List Rg}, l.Pairwise (fun r q => r.1 < q.1) → (∀ q ∈ l, q.1 ≠ r.1) → (insR r l).Pairwise fun r q => r.1 < q.1
  | [], _, _ => by simp [insR]
  | p :: l, h, hn => by
    obtain ⟨h1, h2⟩ := List.pairwise_cons.1 h
    unfold insR
    split
    · rename_i hlt
      refine List.pairwise_cons.2 ⟨fun q hq => ?_, h⟩
      rcases List.mem_cons.1 hq with rfl | hq
      · exact hlt
      · have := h1 q hq; omega
    · rename_i hlt
      refine List.pairwise_cons.2 ⟨fun q hq => ?_, insR_asc h2 fun q hq => hn q (.tail _ hq)⟩
      rcases (insR_mem r l q).1 hq with rfl | hq
      · have := hn p (.head _); omega
      · exact h1 q hq
/-- A heap has room for so many regions. -/
theorem nodup_below : ∀ (N : Nat) (l : List Nat), l.Nodup → (∀ x ∈ l, x < N) → l.length ≤ N
  | 0, l, _, h => by
    cases l with
    | nil => exact Nat.le_refl _
    | cons a l => exact absurd (h a (.head _)) (by omega)
  | N + 1, l, hn, h => by
    by_cases hN : N ∈ l
    · have h1 := nodup_below N (l.erase N) (hn.erase _) fun x hx => by
        have := (hn.mem_erase_iff).1 hx
        have := h x this.2
        omega
      rw [List.length_erase_of_mem hN] at h1
      omega
    · have := nodup_below N l hn fun x hx => by
        have h1 := h x hx
        have : x ≠ N := fun e => hN (e ▸ hx)
        omega
      omega
theorem Good.at16 {p0 p1 : Nat} {X : List Rg} (G : Good p0 p1 X) {r : Rg} (hr : r ∈ X) : r.1 % 16 = 0 ∧ r.2 % 16 = 0 := by
  rcases G.kind r hr with ⟨c, hc, h1, h2⟩ | ⟨h1, h2, h3⟩
  · rcases slt_five hc with ⟨a, b, d⟩ | ⟨a, b, d⟩ | ⟨a, b, d⟩ | ⟨a, b, d⟩ | ⟨a, b, d⟩ <;> rw [b] at h1 <;> rw [h1] at h2 ⊢ <;> omega
  · omega
theorem Good.length {p0 p1 : Nat} {X : List Rg} (G : Good p0 p1 X) (h : p1 ≤ 1024) : X.length ≤ 16384 := by
  have hm : (X.map fun r => r.1 / 16).Nodup := by
    refine List.pairwise_map.2 ?_
    have hk := G
    refine (List.Pairwise.and_mem.1 G.apart).imp ?_
    rintro r q ⟨hr, hq, h⟩
    have := G.pos hr
    have := G.pos hq
    have := G.at16 hr
    have := G.at16 hq
    intro e
    have e : r.1 / 16 = q.1 / 16 := e
    omega
  have := nodup_below 16384 _ hm fun x hx => by
    obtain ⟨r, hr, rfl⟩ := List.mem_map.1 hx
    have := G.hi r hr
    have := G.pos hr
    omega
  simpa using this
theorem Good.nodup {p0 p1 : Nat} {X : List Rg} (G : Good p0 p1 X) : X.Nodup := by
  refine (List.Pairwise.and_mem.1 G.apart).imp ?_
  rintro r q ⟨hr, hq, h⟩ e
  subst e
  have := G.pos hr
  omega
theorem Good.u32 {p0 p1 : Nat} {X : List Rg} (G : Good p0 p1 X) (h : p1 ≤ 1024) {r : Rg} (hr : r ∈ X) : r.1 + r.2 ≤ 262144 := by
  have := G.hi r hr; omega
end Go.Proofs.YticfpnhfhhagpaaDoor
