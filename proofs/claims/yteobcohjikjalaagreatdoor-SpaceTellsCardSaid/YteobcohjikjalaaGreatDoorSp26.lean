/-
  Texts of one seat, put together: TrhE, TrhF, TrhG, TrhJ, SraD.
-/
import Derived.Test.YteobcohjikjalaaGreatDoorSp23
import Derived.Test.YteobcohjikjalaaGreatDoorSp24
import Derived.Test.YteobcohjikjalaaGreatDoorSp25
import Derived.Test.YteobcohjikjalaaGreatDoorSp11
import Derived.Test.YteobcohjikjalaaGreatDoorSp10
import Derived.Test.YteobcohjikjalaaGreatDoorSp03
import Derived.Test.YteobcohjikjalaaGreatDoorSp15
import Derived.Test.YteobcohjikjalaaGreatDoorSp18
set_option linter.unusedSimpArgs false
namespace Go.Proofs.YteobcohjikjalaaGreatDoor
open Go.RowKit
namespace Hx
open Lx Tr Tx Nmb Es
set_option linter.unusedVariables false
theorem places_lt {g : List Nd → Option (List Nd)} (hg : Tr.Loc g) : ∀ (m p0 : Nat) (b0 b : Bool) (l r : List Nd), kidsD g m b0 l = some (b, r) → (places g m p0 l).length = m ∧ ∀ k ∈ places g m p0 l, p0 ≤ k ∧ k < p0 + l.length := by
  intro m
  induction m with
  | zero => intro p0 b0 b l r h; rw [places]; exact ⟨rfl, fun k hk => by cases hk⟩
  | succ m ih =>
    intro p0 b0 b l r h
    cases l with
    | nil => rw [kidsD] at h; cases h
    | cons n l =>
      rw [kidsD] at h
      by_cases hb : b0 = true ∧ n.kind = 2
      · rw [if_pos hb] at h; cases h
      · rw [if_neg hb] at h
        cases hn : g (n :: l) with
        | none => rw [hn] at h; cases h
        | some y =>
          rw [hn] at h
          obtain ⟨q, hq, e1, _⟩ := hg _ _ hn
          have l1 : y.length + q.length = (n :: l).length := by rw [e1, List.length_append]; omega
          obtain ⟨h1, h2⟩ := ih (p0 + ((n :: l).length - y.length)) _ _ _ _ h
          rw [places, hn]
          refine ⟨by rw [List.length_cons, h1], fun k hk => ?_⟩
          rcases List.mem_cons.1 hk with rfl | hk
          · simp
          · have := h2 k hk
            omega
theorem rawV_no {v : List Nd} {k : Nat} (hk : k < v.length) (h : rawN (v[k]'hk) = false) : rawV v = false := by
  unfold rawV
  rw [List.all_eq_false]
  exact ⟨_, List.getElem_mem hk, by rw [h]; decide⟩
theorem rawN_no {n : Nd} {j : Nat} (hj : j < n.attrs.length) (h : (n.attrs[j]'hj).space ≠ []) : rawN n = false := by
  unfold rawN
  rw [Bool.and_eq_false_iff]
  right
  rw [List.all_eq_false]
  exact ⟨_, List.getElem_mem hj, by simpa using h⟩
theorem rawN_sp {n : Nd} (h : n.space ≠ []) : rawN n = false := by
  unfold rawN
  rw [Bool.and_eq_false_iff]
  left
  simpa using h
theorem all_next {α : Type} {f : α → Bool} {l : List α} {k : Nat} (hk : k < l.length) (h : (l.take k).all f = true) (h2 : f (l[k]'hk) = true) : (l.take (k + 1)).all f = true := by
  rw [List.take_succ_eq_append_getElem hk, List.all_append, h, List.all_cons, h2]
  rfl
theorem ba_nil {x : ByteArray} (h : x.data.toList = []) : x = ⟨#[]⟩ := by rw [ba_eq5 x, h]
theorem ba_ne {x : ByteArray} (h : x.data.toList ≠ []) : (x.toList == []) = false ∧ ¬ x.toList = [] := by
  have : ¬ x.toList = [] := by rw [ByteArray.toList_eq]; exact h
  exact ⟨by simpa using this, this⟩
end Hx
end Go.Proofs.YteobcohjikjalaaGreatDoor
set_option linter.unusedSimpArgs false
namespace Go.Proofs.YteobcohjikjalaaGreatDoor
open Go.RowKit
namespace Hx
open Lx Tr Tx Nmb Es
set_option maxRecDepth 100000
set_option maxHeartbeats 16000000
set_option linter.unusedVariables false
theorem rspaced11 (A : Option Addr) (n c : Nat) (v : List Nd) (w : World) (hr : RdB NdS w A v) (hn : v.length = n) (hm : n ≤ 1000000) (hsm : ∀ x ∈ v, SmallN x) (q : Bool) (h : rawV v = q) :
    Calls Tryz.prog 23 #[.slice A n c] w fun e w' => e = .returned (.bool (!q)) ∧ Below w.heap.size w w' := by
  have HR := Lib.hid hr
  have HN := Lib.hid hn
  have HM := Lib.hid hm
  have HH := Lib.hid h
  have HSM := Lib.hid hsm
  clear hr hn h hsm
  go_enter Tryz.func23, Tryz.ntmps23
  go_wp2_with fail
  go_loopg [3] n (fun gg i wr => ∃ k : Nat, k + gg = n ∧ i = .int .i64 k ∧ (v.take k).all rawN = true ∧ Below w.heap.size w wr)
  case atStart => exact ⟨0, by omega, rfl, rfl, Below.refl _ _⟩
  case round =>
    obtain ⟨k, hkg, rfl, hall, hbw⟩ := hrel
    obtain ⟨wo, rfl⟩ : ∃ wo : World, wo = wr := ⟨_, rfl⟩
    obtain ⟨g0, rfl⟩ : ∃ g0 : Nat, g0 = gk := ⟨_, rfl⟩
    have hm := HM.out
    have HALL := Lib.hid hall
    have HBW := Lib.hid hbw
    have HG := Lib.hid hkg
    by_cases hlt : k < n
    · have hk1 : k < v.length := by rw [HN.out]; exact hlt
      obtain ⟨b0, off, x, y, t, A1, c1, rfl, hbB, hin, c0, c1', c2, c3, c4, c5⟩ := nd_at (HR.out.on hbw) hk1
      have hs1 := (HSM.out _ (List.getElem_mem hk1)).attrs
      obtain ⟨nd, hnd⟩ : ∃ nd, v[k]'hk1 = nd := ⟨_, rfl⟩
      have HK1 := Lib.hid hk1
      have HNO : Hid (rawN nd = false → false = q) := Lib.hid fun hf => by rw [← HH.out]; exact (rawV_no HK1.out (by rw [hnd]; exact hf)).symm
      have HYS : Hid (rawN nd = true → (v.take (k + 1)).all rawN = true) := Lib.hid fun hf => all_next HK1.out HALL.out (by rw [hnd]; exact hf)
      rw [hnd] at hin c0 c3 c5 hs1
      have bk : (0 : Int) ≤ (k : Int) ∧ (k : Int) < (n : Int) := by omega
      have hsp := hin.space
      have HAR := Lib.hid hin.attrs
      have HIN := Lib.hid hin
      obtain ⟨n1, hn1⟩ : ∃ n1, nd.attrs.length = n1 := ⟨_, rfl⟩
      have HN1 := Lib.hid hn1
      rw [hn1] at c3 hs1
      obtain ⟨m1, hm1⟩ : ∃ m1, nd.many = m1 := ⟨_, rfl⟩
      rw [hm1] at c5
      obtain ⟨kd, hkd⟩ : ∃ kd, nd.kind = kd := ⟨_, rfl⟩
      rw [hkd] at c0
      by_cases hx : nd.space = []
      · obtain rfl := ba_nil (hsp.trans hx)
        have HX := Lib.hid hx
        have HLT := Lib.hid hlt
        have HBB := Lib.hid hbB
        clear hall hbw hnd hin hsp hx hn1 hm1 hkd hkg hbB
        go_wp2_with fail
        go_loopg [4] n1 (fun gg i wi => ∃ j : Nat, j + gg = n1 ∧ i = .int .i64 j ∧ (nd.attrs.take j).all (fun a => a.space.isEmpty) = true ∧ Below wo.heap.size wo wi)
        case atStart => exact ⟨0, by omega, rfl, rfl, by first | exact Below.refl _ _ | exact stpA (Below.refl _ _) _⟩
        case round =>
          obtain ⟨j, hjg, rfl, hal2, hb2⟩ := hrel
          have HAL2 := Lib.hid hal2
          have HB2 := Lib.hid hb2
          have HJG := Lib.hid hjg
          have r3 := (hb2.cell (p := ⟨b0, _, none⟩) HBB.out).trans c3; clear c0
          by_cases hlj : j < n1
          · have hj1 : j < nd.attrs.length := by rw [HN1.out]; exact hlj
            obtain ⟨b1, of1, x1, y1, z1, rfl, hbB1, hx1, -, -, d0, d1, d2⟩ := at_at (RdB.on (w := wo) HAR.out hb2) hj1
            have bj : (0 : Int) ≤ (j : Int) ∧ (j : Int) < (n1 : Int) := by omega
            by_cases hsx : x1.data.toList = []
            · have HT : Hid ((nd.attrs.take (j + 1)).all (fun a => a.space.isEmpty) = true) := Lib.hid (all_next hj1 hal2 (by rw [← hx1, hsx]; rfl))
              obtain rfl := ba_nil hsx
              clear hal2 hb2 hjg hx1 hsx hbB1
              go_wp2_with fail
              go_roundg (gk - 1)
              case rel => exact ⟨j + 1, by have := HJG.out; omega, by go_num, HT.out, by first | exact HB2.out | exact stpA HB2.out _⟩
              case measure => have := HJG.out; omega
            · obtain rfl : false = q := HNO.out (rawN_no hj1 (by rw [← hx1]; exact hsx))
              obtain ⟨e1, e2⟩ := ba_ne hsx
              clear hal2 hb2 hjg hx1 hsx hbB1
              go_wp2_with fail
              go_ret
              exact ⟨rfl, by first | exact HBW.out.trans (HB2.out.mono HBW.out.size) | exact HBW.out.trans ((stpA HB2.out _).mono HBW.out.size)⟩
          · obtain rfl : j = n1 := by have := HJG.out; omega
            have HT := Lib.hid (HYS.out (by
              unfold rawN
              rw [HX.out]
              rw [← HN1.out, List.take_length] at hal2
              rw [hal2]
              rfl))
            have HE := Lib.hid (HBW.out.trans (hb2.mono HBW.out.size))
            have hjj : ¬ ((j : Int) < (j : Int)) := by omega
            clear hal2 hb2 hjg
            go_wp2_with fail
            go_roundg (g0 - 1)
            case rel => exact ⟨k + 1, by have := HG.out; have := HLT.out; omega, by go_num, HT.out, HE.out⟩
            case measure => have := HG.out; have := HLT.out; omega
      · obtain rfl : false = q := HNO.out (rawN_sp hx)
        obtain ⟨e1, e2⟩ := ba_ne (x := x) (by rw [hsp]; exact hx)
        clear hall hbw hnd hin hsp hx hn1 hm1 hkd hkg hbB
        go_wp2_with fail
        go_ret
        exact ⟨rfl, by first | exact HBW.out | exact stpA HBW.out _⟩
    · obtain rfl : k = n := by omega
      have hjj : ¬ ((k : Int) < (k : Int)) := by omega
      obtain rfl : true = q := by
        rw [← HH.out]
        rw [List.take_of_length_le (by rw [HN.out]; exact Nat.le_refl _)] at hall
        exact hall.symm
      clear hall hbw hkg
      go_wp2_with fail
      go_ret
      exact ⟨rfl, HBW.out⟩
end Hx
end Go.Proofs.YteobcohjikjalaaGreatDoor
