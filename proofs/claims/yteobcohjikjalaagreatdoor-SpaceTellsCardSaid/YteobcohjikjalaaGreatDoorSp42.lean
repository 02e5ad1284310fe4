/-
  Texts of one seat, put together: SpaH.
-/
import Derived.Test.YteobcohjikjalaaGreatDoorSp32
import Derived.Test.YteobcohjikjalaaGreatDoorShelf
import Derived.Lib.ItoaMem
import Derived.Lib.AppendIntMem
set_option linter.unusedSimpArgs false
namespace Go.Proofs.YteobcohjikjalaaGreatDoor
open Go.RowKit
namespace Hx
open Lx Tr Tx Nmb Es Ns
set_option maxRecDepth 100000
set_option maxHeartbeats 16000000
set_option linter.unusedVariables false
theorem dg_len_to : ∀ (d n : Nat), n < 10 ^ (d + 1) → (dg n).length ≤ d + 1
  | 0, n, h => by rw [dg_small (by simpa using h)]; simp
  | d + 1, n, h => by
    by_cases h1 : n < 10
    · rw [dg_small h1]; simp
    · rw [dg_more (by omega), List.length_append]
      have := dg_len_to d (n / 10) (by rw [Nat.pow_succ] at h; omega)
      simp
      omega
def TbH (w : World) : Prop := Lib.TabIs Tryz.prog w "internal/strconv.uint64pow10" .u64 Lib.pow10Tab

theorem TbH.to {w w' : World} (h : TbH w) (hb : Below w.heap.size w w') : TbH w' := (Lib.tabBelow_of_tabIs h) w' hb
theorem dec_dgH (u : Nat) : Lib.decDigits u = dg u := by
  induction u using Nat.strongRecOn with
  | ind u ih =>
    rw [Lib.decDigits]
    by_cases h : u < 10
    · rw [dif_pos h, dg_small h]; rfl
    · rw [dif_neg h, dg_more (by omega), ih (u / 10) (by omega)]; rfl
theorem itoaH (k : Nat) (hk : k ≤ 9007199254740991) (t : ByteArray) (ht : t = ⟨(dg k).toArray⟩) (w : World) (hT : TbH w) :
    Calls Tryz.prog 71 #[.int .i64 k] w fun e w' => e = .returned (.string t) ∧ Below w.heap.size w w' := by
  refine (Tryz.strconv_Itoa (k : Int) (by omega) (by omega) w hT).mono fun e w' h => ?_
  obtain ⟨h1, j, os, h2⟩ := h
  refine ⟨?_, by rw [h2]; exact Lib.below_grow _ w (Nat.le_refl _) j os⟩
  rw [h1, Lib.itoa_nonneg, dec_dgH, ht]
theorem prefix11 (k : Nat) (hk : k ≤ 1000000) (t : ByteArray) (ht : t.data.toList = prefN k) (w : World) (hT : TbH w) :
    Calls Tryz.prog 50 #[.int .i64 k] w fun e w' => e = .returned (.string t) ∧ Below w.heap.size w w' := by
  obtain ⟨s, hs⟩ : ∃ s : ByteArray, s = ⟨(dg (k + 1)).toArray⟩ := ⟨_, rfl⟩
  have hsz : s.size ≤ 7 := by
    rw [hs]
    show (dg (k + 1)).toArray.size ≤ 7
    rw [List.size_toArray]
    exact dg_len_to 6 (k + 1) (by omega)
  have l1 : ¬ 9223372036854775807 < 1 + s.size := by omega
  have HT2 : Hid ((⟨#[110]⟩ : ByteArray) ++ s = t) := Lib.hid (by
    apply ByteArray.ext
    apply Array.ext'
    rw [ht, hs]
    simp [prefN])
  have HC : Hid (Calls Tryz.prog 71 #[.int .i64 ((k : Int) + 1)] w fun e w' => e = .returned (.string s) ∧ Below w.heap.size w w') := Lib.hid (by
    have := itoaH (k + 1) (by omega) s hs w hT
    rwa [show (((k + 1 : Nat)) : Int) = (k : Int) + 1 by omega] at this)
  have bk : (0 : Int) ≤ (k : Int) ∧ (k : Int) ≤ 1000000 := by omega
  clear hT ht hs hsz
  go_enter Tryz.func50, Tryz.ntmps50
  go_wp2_with (first
    | (go_at_call 71; (with_reducible refine HC.out.mono ?_); rintro e w2 ⟨rfl, hb2⟩; have HB2 := Lib.hid hb2; clear hb2)
    | fail)
  go_ret
  rw [← HT2.out]
  exact ⟨rfl, HB2.out⟩
end Hx
end Go.Proofs.YteobcohjikjalaaGreatDoor
