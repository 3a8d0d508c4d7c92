/- Contracts of the document's small calls of layer asm: numerals. No statement is proved here. -/
import Derived.Test.YtdkggahkfheocaaGreatDoorAsB
import Derived.IntWalk
namespace Go.Proofs.YtdkggahkfheocaaGreatDoor
set_option maxRecDepth 100000
open Go.RowKit Go.Lib
set_option linter.unusedVariables false

theorem conv1 (W : World) (u : UInt8) (x : Int) (hx : x = (u.toNat : Int)) (b : Nat) (hc : W.cell? ⟨b, 0, none⟩ = some (.int .u8 x)) : (convert 42 9 (.slice (some ⟨b, 0, none⟩) 1 1)).run Tryz.prog W = .ok (.string ⟨#[u]⟩) W :=
  run_convert_bytes_back (P := Tryz.prog) W 42 9 5 ⟨b, 0, none⟩ 1 [u] (by kernel_rfl) (by kernel_rfl) (by kernel_rfl) (fun j hj => by
    have hj0 : j < 1 := hj
    obtain rfl : j = 0 := by omega
    rw [Lib.add_plain, hc, hx]
    rfl)
theorem conv_new (W : World) (u : UInt8) (x : Int) (hx : x = (u.toNat : Int)) : (convert 42 9 (.slice (some ⟨W.heap.size, 0, none⟩) 1 1)).run Tryz.prog (W.alloc (.cells #[.int .u8 x] 5)) = .ok (.string ⟨#[u]⟩) (W.alloc (.cells #[.int .u8 x] 5)) :=
  conv1 _ u x hx _ (by rw [World.cell?_alloc_new]; rfl)
theorem str_cat8 (a b : List UInt8) : (⟨a.toArray⟩ : ByteArray) ++ ⟨b.toArray⟩ = ⟨(a ++ b).toArray⟩ := by
  apply ByteArray.ext
  simp
def DigPost (n : Nat) (w : World) (e : Ending) (w' : World) : Prop := e = .returned (.string ⟨(decDigits n).toArray⟩) ∧ Below w.heap.size w w'
set_option maxHeartbeats 2000000 in
theorem rdigits_post (n : Nat) : ∀ (w : World), n < 18446744073709551616 → Calls Tryz.prog 32 #[.int .u64 n] w (DigPost n w) := by
  induction n using Nat.strongRecOn with
  | _ n ih =>
    intro w h
    by_cases hs : n < 10
    · have hs' : (n : Int) < 10 := by omega
      have hu : 48 + (n : Int) = ((UInt8.ofNat (48 + n)).toNat : Int) := by rw [digit_nat n hs]; omega
      have hend := Lib.hid (decDigits_one hs)
      generalize UInt8.ofNat (48 + n) = u at *
      have hcv := conv_new w u (48 + (n : Int)) hu
      clear hu
      go_enter Tryz.func32, Tryz.ntmps32
      go_wp2
      go_ret
      exact ⟨by rw [hend.out]; rfl, (Below.refl _ _).alloc (Nat.le_refl _) _⟩
    · have hs' : ¬ (n : Int) < 10 := by omega
      have hs2 : decide ((n : Int) < 10) = false := by simpa using hs'
      have hi := fun w => ih (n / 10) (by omega) w (by omega)
      have hn : (n : Int) < 18446744073709551616 := by omega
      have hu : 48 + (n : Int) % 10 = ((UInt8.ofNat (48 + n % 10)).toNat : Int) := by rw [digit_nat _ (by omega)]; omega
      have hq : (n : Int).tdiv 10 = ((n / 10 : Nat) : Int) := by rw [Int.tdiv_eq_ediv_of_nonneg (by omega)]; omega
      have hend := Lib.hid (decDigits_big hs)
      generalize UInt8.ofNat (48 + n % 10) = u at *
      have hm : IntKind.u64.wrap ((n / 10 : Nat) : Int) = ((n / 10 : Nat) : Int) := IntWalk.u64_in _ (by omega)
      have hmb : n / 10 < 18446744073709551616 := by omega
      generalize n / 10 = m at *
      obtain ⟨x, hx⟩ : ∃ x : Int, x = 48 + (n : Int) % 10 := ⟨_, rfl⟩
      rw [← hx] at hu
      have ht : IntKind.u64.wrap (48 + (n : Int).tmod 10) = x := by
        rw [Int.tmod_eq_emod_of_nonneg (by omega), IntWalk.u64_in _ (by omega), hx]
      have hx8 : IntKind.u8.wrap x = x := IntWalk.u8_in _ (by omega)
      clear hx
      have hnew := fun W => conv_new W u x hu
      have hnewd : ∀ W : World, (convert 42 9 (.slice (some ⟨W.heap.size, 0, none⟩) 1 1)).run Tryz.prog (W.alloc (.cells #[.int .u8 x] 5)).drew = .ok (.string ⟨#[u]⟩) (W.alloc (.cells #[.int .u8 x] 5)).drew := fun W => conv1 _ u x hu _ (by show (W.alloc _).cell? _ = _; rw [World.cell?_alloc_new]; rfl)
      have hold := fun W b hc => conv1 W u x hu b hc
      obtain ⟨N, hN⟩ : ∃ N : Int, N = (n : Int) := ⟨_, rfl⟩
      obtain ⟨M, hM⟩ : ∃ M : Int, M = (m : Int) := ⟨_, rfl⟩
      have hN1 : 0 ≤ N ∧ N < 18446744073709551616 := by omega
      obtain ⟨hN2, hN3⟩ := hN1
      rw [← hN] at hs2 hq ht ⊢
      rw [← hM] at hm hq
      have cB : Calls Tryz.prog 32 #[.int .u64 M] ((w.alloc (.cells #[.int .u8 x] 5)).drew) fun e w' => e = .returned (.string ⟨(decDigits m).toArray⟩) ∧ (convert 42 9 (.slice (some ⟨w.heap.size, 0, none⟩) 1 1)).run Tryz.prog w' = .ok (.string ⟨#[u]⟩) w' ∧ Below w.heap.size w w' := by
        rw [hM]
        exact (hi _).mono fun e w' k =>
          ⟨k.1, hold w' _ ((k.2.cell (p := ⟨w.heap.size, 0, none⟩) (by show w.heap.size < (w.alloc _).heap.size; simp)).trans (by show (w.alloc _).cell? _ = _; rw [World.cell?_alloc_new]; rfl)), (((Below.refl _ w).alloc (Nat.le_refl _) _).drew).trans (k.2.mono (by show w.heap.size ≤ (w.alloc _).heap.size; simp))⟩
      have cA : Calls Tryz.prog 32 #[.int .u64 M] w.drew fun e w' => e = .returned (.string ⟨(decDigits m).toArray⟩) ∧ Below w.heap.size w w' := by
        rw [hM]
        exact (hi _).mono fun e w' k => ⟨k.1, (Below.refl _ w).drew.trans k.2⟩
      have hadd : ∀ w, (Op.stringOp .add ⟨(decDigits m).toArray⟩ ⟨#[u]⟩).run Tryz.prog w = .ok (.string ⟨(decDigits n).toArray⟩) w := fun w => by
        have h1 := decDigits_length m
        have h2 := Lib.nDigits_le20 m (by omega)
        rw [hend.out]
        exact run_string_add_lists w (decDigits m) [u] (by omega) (by simp)
      replace cA := Lib.hid cA
      replace cB := Lib.hid cB
      have hsz : ∀ W : World, Below w.heap.size w W → w.heap.size ≤ W.heap.size := fun W k => k.size
      replace hsz := Lib.hid hsz
      clear hi ih hold hu hs hs' h hn hN hM hmb
      go_enter Tryz.func32, Tryz.ntmps32
      go_wp2_with fail
      go_region_with (first | (go_at_call 32; ((with_reducible refine cA.out.mono ?_); rintro e w1 ⟨rfl, k⟩)) | (go_at_call 32; ((with_reducible refine cB.out.mono ?_); rintro e w1 ⟨rfl, hcw, k⟩)))
      all_goals go_wp2
      all_goals go_ret
      all_goals first
        | exact (show _ ∧ _ from ⟨rfl, k⟩)
        | exact (show _ ∧ _ from ⟨rfl, k.alloc (hsz.out _ k) _⟩)
end Go.Proofs.YtdkggahkfheocaaGreatDoor
