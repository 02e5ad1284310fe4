/-
  Texts of one seat, put together: EscR, NumR, NumS, EscS.
-/
import Derived.Test.YteobcohjikjalaaGreatDoorSp01
import Derived.Test.YteobcohjikjalaaGreatDoorSp06
import Derived.Lib.AppendStr
import Derived.OwnWalk
import Derived.Deep.LoopGhost
import Derived.WalkKit
import Derived.ProofKit
import Derived.Below
set_option linter.unusedSimpArgs false
namespace Go.Proofs.YteobcohjikjalaaGreatDoor
open Go.RowKit
namespace Hx
open Tx Nmb Es
set_option linter.unusedVariables false
end Hx
end Go.Proofs.YteobcohjikjalaaGreatDoor
set_option linter.unusedSimpArgs false
namespace Go.Proofs.YteobcohjikjalaaGreatDoor
open Go.RowKit
namespace Hx
open Nmb
set_option maxRecDepth 100000
set_option maxHeartbeats 16000000
set_option linter.unusedVariables false
theorem ba_len6 (s : ByteArray) : s.data.toList.length = s.size := by cases s; simp [ByteArray.size]
theorem ba_ext6 {s t : ByteArray} (h : s.data.toList = t.data.toList) : s = t := by
  cases s; cases t
  simpa using h
theorem dg_le {n : Nat} (h : n ≤ 9223372036854775807) : (dg n).length ≤ 19 := dg_short 18 n (by omega)
theorem rdigits6 (n : Nat) (w : World) (hn : n ≤ 9223372036854775807) (t : ByteArray) (ht : t = ⟨(dg n).toArray⟩) :
    Calls Tryz.prog 87 #[.int .i64 n] w fun e w' => e = .returned (.string t) ∧ Below w.heap.size w w' := by
  have hd : t.data.toList = dg n := by rw [ht]
  have HD := Lib.hid hd
  have HL := Lib.hid (dg_le hn)
  have HN := Lib.hid hn
  clear ht hd hn
  go_enter Tryz.func87, Tryz.ntmps87
  go_wp2_with fail
  go_loopw [0, 3] (fun i s wr => ∃ (k : Nat) (u : ByteArray), i = .int .i64 k ∧ s = .string u ∧ k ≤ 9223372036854775807 ∧ dg n = dg k ++ u.data.toList ∧ Below w.heap.size w wr) (fun i _ _ => (intOf i).toNat)
  case atStart => exact ⟨n, ⟨#[]⟩, rfl, rfl, HN.out, by simp, Below.refl _ _⟩
  case round =>
    obtain ⟨k, u, rfl, rfl, hk, hdk, hbw⟩ := hrel
    have hul : u.size ≤ 19 := by
      have h1 := congrArg List.length hdk
      rw [List.length_append, ba_len6] at h1
      have := HL.out
      omega
    have HBW := Lib.hid hbw
    by_cases h9 : k < 10
    · obtain ⟨c, hc⟩ : ∃ c, dgt k = c := ⟨_, rfl⟩
      have hcn : (48 : Int) + (k : Int) = (c.toNat : Int) := by rw [← hc, dgt_nat h9]; omega
      have hcl := c.toNat_lt
      obtain ⟨v, hv⟩ : ∃ v, (⟨#[c]⟩ : ByteArray) ++ u = v := ⟨_, rfl⟩
      have hcat : ∀ W, (Op.stringOp .add ⟨#[c]⟩ u).run Tryz.prog W = .ok (.string v) W := fun W => by rw [run_string_add W ⟨#[c]⟩ u (by show ((1 : Nat) : Int) ≤ _; decide) (by omega), hv]
      have hvt : v = t := by
        refine ba_ext6 ?_
        rw [HD.out, hdk, dg_small h9, hc, ← hv]
        simp
      subst hvt
      have HU := Lib.hid hv
      have hcv := conv_one (P := Tryz.prog) wr c Tryz.underlying92 Tryz.underlying5 Tryz.underlying9
      clear hdk hv hc hbw HD HU
      go_wp2_with fail
      go_ret
      exact ⟨rfl, stpA HBW.out _⟩
    · obtain ⟨q, hq⟩ : ∃ q, k / 10 = q := ⟨_, rfl⟩
      obtain ⟨r, hr⟩ : ∃ r, k % 10 = r := ⟨_, rfl⟩
      have hr9 : r < 10 := by omega
      obtain ⟨c, hc⟩ : ∃ c, dgt r = c := ⟨_, rfl⟩
      have hcn : (48 : Int) + (r : Int) = (c.toNat : Int) := by rw [← hc, dgt_nat hr9]; omega
      have hcl := c.toNat_lt
      have g1 : (k : Int).tmod 10 = (r : Int) := by rw [Int.tmod_eq_emod_of_nonneg (by omega)]; omega
      have g2 : (k : Int).tdiv 10 = (q : Int) := by rw [Int.tdiv_eq_ediv_of_nonneg (by omega)]; omega
      obtain ⟨v, hv⟩ : ∃ v, (⟨#[c]⟩ : ByteArray) ++ u = v := ⟨_, rfl⟩
      have hcat : ∀ W, (Op.stringOp .add ⟨#[c]⟩ u).run Tryz.prog W = .ok (.string v) W := fun W => by rw [run_string_add W ⟨#[c]⟩ u (by show ((1 : Nat) : Int) ≤ _; decide) (by omega), hv]
      have HV : Hid (dg n = dg q ++ v.data.toList) := Lib.hid (by
        rw [hdk, dg_more (by omega), hq, hr, hc, ← hv]
        simp)
      have hqk : q < k := by omega
      have hcv := conv_one (P := Tryz.prog) wr c Tryz.underlying92 Tryz.underlying5 Tryz.underlying9
      clear hdk hv hc hbw HD hq hr
      go_wp2_with fail
      go_roundw
      case rel => exact ⟨q, v, rfl, rfl, by omega, HV.out, stpA HBW.out _⟩
      case measure => simp [intOf]; omega
end Hx
end Go.Proofs.YteobcohjikjalaaGreatDoor
set_option linter.unusedSimpArgs false
namespace Go.Proofs.YteobcohjikjalaaGreatDoor
open Go.RowKit
namespace Hx
open Nmb
set_option linter.unusedVariables false
end Hx
end Go.Proofs.YteobcohjikjalaaGreatDoor
set_option linter.unusedSimpArgs false
namespace Go.Proofs.YteobcohjikjalaaGreatDoor
open Go.RowKit
namespace Hx
open Tx Nmb Es
set_option linter.unusedVariables false
end Hx
end Go.Proofs.YteobcohjikjalaaGreatDoor
