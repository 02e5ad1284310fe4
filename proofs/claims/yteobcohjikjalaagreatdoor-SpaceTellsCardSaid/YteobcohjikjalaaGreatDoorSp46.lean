/-
  Texts of one seat, put together: TreH.
-/
import Derived.Test.YteobcohjikjalaaGreatDoorSp03
import Derived.Test.YteobcohjikjalaaGreatDoorSp11
import Derived.Test.YteobcohjikjalaaGreatDoorSp10
set_option linter.unusedSimpArgs false
namespace Go.Proofs.YteobcohjikjalaaGreatDoor
open Go.RowKit
namespace Hx
open Lx Tr Tx Nmb Es
set_option maxRecDepth 100000
set_option maxHeartbeats 16000000
set_option linter.unusedVariables false
structure NotGreat (m : Nat) (n : Nd) : Prop where
  name : min n.name.length 20000 ≤ m
  space : min n.space.length 20000 ≤ m
  text : min n.text.length 20000 ≤ m
  attrs : n.attrs.length ≤ 30
  each : ∀ a ∈ n.attrs, min a.name.length 20000 ≤ m ∧ min a.space.length 20000 ≤ m ∧ min a.value.length 20000 ≤ m
theorem NotGreat.mono {m m' : Nat} {n : Nd} (h : NotGreat m n) (hm : m ≤ m') : NotGreat m' n :=
  ⟨Nat.le_trans h.name hm, Nat.le_trans h.space hm, Nat.le_trans h.text hm, h.attrs, fun a ha => ⟨Nat.le_trans (h.each a ha).1 hm, Nat.le_trans (h.each a ha).2.1 hm, Nat.le_trans (h.each a ha).2.2 hm⟩⟩
theorem NotGreat.small {m : Nat} {n : Nd} (h : NotGreat m n) (hm : m < 20000) : SmallN n := by
  obtain ⟨h1, h2, h3, h4, h5⟩ := h
  exact ⟨by omega, by omega, by omega, by omega, fun a ha => by have := h5 a ha; omega⟩
def GreatTo (v : List Nd) (most m : Nat) (w : World) (e : Ending) (w' : World) : Prop := ∃ q : Bool, e = .returned (.bool q) ∧ Below w.heap.size w w' ∧ (q = false → v.length ≤ most ∧ ∀ n ∈ v, NotGreat m n)
theorem GreatTo.yes {v : List Nd} {most m : Nat} {w w' : World} (hb : Below w.heap.size w w') : GreatTo v most m w (.returned (.bool true)) w' := ⟨true, rfl, hb, fun h => by cases h⟩
theorem rgreat10 (A : Option Addr) (n cp : Nat) (v : List Nd) (most m : Nat) (w : World) (hr : RdB NdS w A v) (hn : v.length = n) (hm : m ≤ 10000) (hmost : most ≤ 600) (hmax : n ≤ 9223372036854775807) :
    Calls Tryz.prog 4 #[.slice A n cp, .int .i64 most, .int .i64 m] w (GreatTo v most m w) := by
  have HR := Lib.hid hr
  have HN := Lib.hid hn
  have HMX := Lib.hid hmax
  have HMO := Lib.hid hmost
  clear hr hn hmax
  go_enter Tryz.func4, Tryz.ntmps4
  go_wp2_with fail
  go_loopg [7, 8, 9] n (fun gg vn vi vk wr => ∃ k acc : Nat, k + gg = n ∧ vi = .int .i64 k ∧ vn = .int .i64 acc ∧ k ≤ 600 ∧ acc ≤ k * 2000000 ∧ (∀ x ∈ v.take k, NotGreat acc x) ∧ Below w.heap.size w wr)
  case atStart => exact ⟨0, 0, by omega, rfl, rfl, by omega, by omega, fun x hx => by simp at hx, Below.refl _ _⟩
  case round =>
    obtain ⟨k, acc, hk, rfl, rfl, hk6, hacc, hg, hbw⟩ := hrel
    obtain ⟨ww, rfl⟩ : ∃ ww : World, ww = wr := ⟨_, rfl⟩
    obtain ⟨G, rfl⟩ : ∃ G : Nat, G = gk := ⟨_, rfl⟩
    have HBW := Lib.hid hbw
    have HG := Lib.hid hg
    by_cases hlt : k < n ∧ k < 600
    · have hk1 : k < v.length := by rw [HN.out]; exact hlt.1
      obtain ⟨b0, off, x, y, z, a1, p1, rfl, hbB, hin, c0, c1, c2, c3, c4, c5⟩ := nd_at (HR.out.on hbw) hk1
      obtain ⟨t, ht⟩ : ∃ t, v[k]'hk1 = t := ⟨_, rfl⟩
      rw [ht] at hin c0 c3 c5
      have HRD : Hid (RdB AtS ww a1 t.attrs) := Lib.hid hin.attrs
      have bk : (0 : Int) ≤ (k : Int) ∧ (k : Int) < (n : Int) := by omega
      have bk6 : (k : Int) < 600 := by omega
      obtain ⟨e1, he1⟩ : ∃ e1 : Nat, min t.name.length 20000 = e1 := ⟨_, rfl⟩
      obtain ⟨e2, he2⟩ : ∃ e2 : Nat, min t.space.length 20000 = e2 := ⟨_, rfl⟩
      obtain ⟨e3, he3⟩ : ∃ e3 : Nat, min t.text.length 20000 = e3 := ⟨_, rfl⟩
      have hxl := ba_l x
      have hyl := ba_l y
      have hzl := ba_l z
      rw [hin.space] at hxl
      rw [hin.name] at hyl
      rw [hin.text] at hzl
      have mV1 : (if (20000 : Int) < (y.size : Int) then (20000 : Int) else (y.size : Int)) = (e1 : Int) := by split <;> omega
      have mV2 : (if (20000 : Int) < (x.size : Int) then (20000 : Int) else (x.size : Int)) = (e2 : Int) := by split <;> omega
      have mV3 : (if (20000 : Int) < (z.size : Int) then (20000 : Int) else (z.size : Int)) = (e3 : Int) := by split <;> omega
      obtain ⟨v1, hv1⟩ : ∃ v1 : Nat, acc + e1 = v1 := ⟨_, rfl⟩
      obtain ⟨v2, hv2⟩ : ∃ v2 : Nat, v1 + e2 = v2 := ⟨_, rfl⟩
      obtain ⟨v3, hv3⟩ : ∃ v3 : Nat, v2 + e3 = v3 := ⟨_, rfl⟩
      have s1 : IntKind.i64.wrap ((acc : Int) + (e1 : Int)) = (v1 : Int) := by rw [IntWalk.i64_in _ (by omega)]; omega
      have s2 : IntKind.i64.wrap ((v1 : Int) + (e2 : Int)) = (v2 : Int) := by rw [IntWalk.i64_in _ (by omega)]; omega
      have s3 : IntKind.i64.wrap ((v2 : Int) + (e3 : Int)) = (v3 : Int) := by rw [IntWalk.i64_in _ (by omega)]; omega
      have hv3m : v3 ≤ acc + 60000 := by omega
      have nV1 : min (y.size : Int) 20000 = (e1 : Int) := by omega
      have nV2 : min (x.size : Int) 20000 = (e2 : Int) := by omega
      have nV3 : min (z.size : Int) 20000 = (e3 : Int) := by omega
      have nV4 : (acc : Int) + (e1 : Int) + (e2 : Int) + (e3 : Int) = (v3 : Int) := by omega
      have HE : Hid (min t.name.length 20000 ≤ v3 ∧ min t.space.length 20000 ≤ v3 ∧ min t.text.length 20000 ≤ v3 ∧ acc ≤ v3) := Lib.hid (by omega)
      have hle2 : (t.attrs.length : Int) ≤ 9223372036854775807 := by have := hin.le; have := hin.cm; unfold maxLen at this; omega
      have HTK : Hid (v.take (k + 1) = v.take k ++ [t]) := Lib.hid (by rw [List.take_succ_eq_append_getElem hk1, ht])
      clear hbw hin hg he1 he2 he3 hxl hyl hzl hv1 hv2 hv3 ht hk1
      have goal2 : True := trivial
      by_cases h30 : 30 < t.attrs.length
      · have f30 : decide ((30 : Int) < (t.attrs.length : Int)) = true := decide_eq_true (by omega)
        go_wp2_with fail
        go_quiet (fail)
        go_wp2_with fail
        go_ret
        exact GreatTo.yes (bel_in9 HBW.out ⟨rfl, rfl, rfl, Nat.le_refl _, fun _ _ => rfl⟩)
      · have f30 : decide ((30 : Int) < (t.attrs.length : Int)) = false := decide_eq_false (by omega)
        by_cases hmv : m < v3
        · have fmv : decide ((m : Int) < (v3 : Int)) = true := decide_eq_true (by omega)
          have fmn : m < v3 := hmv
          go_wp2_with fail
          go_quiet (fail)
          go_wp2_with fail
          go_ret
          exact GreatTo.yes (bel_in9 HBW.out ⟨rfl, rfl, rfl, Nat.le_refl _, fun _ _ => rfl⟩)
        · have fmv : decide ((m : Int) < (v3 : Int)) = false := decide_eq_false (by omega)
          go_wp2_with fail
          go_quiet (fail)
          go_wp2_with fail
          obtain ⟨wo, hwo⟩ : ∃ wo : World, ww.drewN nq = wo := ⟨_, rfl⟩
          have HBO : Hid (Below ww.heap.size ww wo) := Lib.hid (by rw [← hwo]; exact ⟨rfl, rfl, rfl, Nat.le_refl _, fun _ _ => rfl⟩)
          rw [hwo]
          clear hwo
          go_loopg [7, 9] t.attrs.length (fun gg vn vk wi => ∃ j a0 : Nat, j + gg = t.attrs.length ∧ vk = .int .i64 j ∧ vn = .int .i64 a0 ∧ v3 ≤ a0 ∧ (∀ a ∈ t.attrs.take j, min a.name.length 20000 ≤ a0 ∧ min a.space.length 20000 ≤ a0 ∧ min a.value.length 20000 ≤ a0) ∧ a0 ≤ v3 + 60000 * j ∧ j ≤ 30 ∧ Below ww.heap.size ww wi)
          case atStart => exact ⟨0, v3, by omega, rfl, by first | rfl | rw [nV1, nV2, nV3, nV4] | (congr 1; omega), Nat.le_refl _, (fun a ha => by simp at ha), by omega, by omega, HBO.out⟩
          case round =>
            obtain ⟨j, a0, hj, rfl, rfl, hva, ha0, ham, hj30, hbi⟩ := hrel
            have HA0 := Lib.hid ha0
            have HBI := Lib.hid hbi
            have e2 : wr.cell? ⟨b0, off + k * 6 + 3, none⟩ = some (.slice a1 t.attrs.length p1) := (hbi.cell (p := ⟨b0, off + k * 6 + 3, none⟩) hbB).trans c3
            by_cases hlj : j < t.attrs.length
            · obtain ⟨b2, off2, x2, y2, z2, ha1, hb2B, hx2, hy2, hz2, d0, d1, d2⟩ := at_at (HRD.out.on hbi) hlj
              rw [ha1] at e2
              have bj : (0 : Int) ≤ (j : Int) ∧ (j : Int) < (t.attrs.length : Int) := by omega
              have bj30 : (j : Int) < 30 := by omega
              obtain ⟨f1, hf1⟩ : ∃ f1 : Nat, min (t.attrs[j]'hlj).name.length 20000 = f1 := ⟨_, rfl⟩
              obtain ⟨f2, hf2⟩ : ∃ f2 : Nat, min (t.attrs[j]'hlj).space.length 20000 = f2 := ⟨_, rfl⟩
              obtain ⟨f3, hf3⟩ : ∃ f3 : Nat, min (t.attrs[j]'hlj).value.length 20000 = f3 := ⟨_, rfl⟩
              have hxl := ba_l x2
              have hyl := ba_l y2
              have hzl := ba_l z2
              rw [hx2] at hxl
              rw [hy2] at hyl
              rw [hz2] at hzl
              have mW1 : (if (20000 : Int) < (y2.size : Int) then (20000 : Int) else (y2.size : Int)) = (f1 : Int) := by split <;> omega
              have mW2 : (if (20000 : Int) < (x2.size : Int) then (20000 : Int) else (x2.size : Int)) = (f2 : Int) := by split <;> omega
              have mW3 : (if (20000 : Int) < (z2.size : Int) then (20000 : Int) else (z2.size : Int)) = (f3 : Int) := by split <;> omega
              obtain ⟨u1, hu1⟩ : ∃ u1 : Nat, a0 + f1 = u1 := ⟨_, rfl⟩
              obtain ⟨u2, hu2⟩ : ∃ u2 : Nat, u1 + f2 = u2 := ⟨_, rfl⟩
              obtain ⟨u3, hu3⟩ : ∃ u3 : Nat, u2 + f3 = u3 := ⟨_, rfl⟩
              have t1 : IntKind.i64.wrap ((a0 : Int) + (f1 : Int)) = (u1 : Int) := by rw [IntWalk.i64_in _ (by omega)]; omega
              have t2 : IntKind.i64.wrap ((u1 : Int) + (f2 : Int)) = (u2 : Int) := by rw [IntWalk.i64_in _ (by omega)]; omega
              have t3 : IntKind.i64.wrap ((u2 : Int) + (f3 : Int)) = (u3 : Int) := by rw [IntWalk.i64_in _ (by omega)]; omega
              have nW1 : min (y2.size : Int) 20000 = (f1 : Int) := by omega
              have nW2 : min (x2.size : Int) 20000 = (f2 : Int) := by omega
              have nW3 : min (z2.size : Int) 20000 = (f3 : Int) := by omega
              have nW4 : (a0 : Int) + (f1 : Int) + (f2 : Int) + (f3 : Int) = (u3 : Int) := by omega
              have HA2 : Hid (∀ a ∈ t.attrs.take (j + 1), min a.name.length 20000 ≤ u3 ∧ min a.space.length 20000 ≤ u3 ∧ min a.value.length 20000 ≤ u3) := Lib.hid (fun a ha => by
                rw [List.take_succ_eq_append_getElem hlj] at ha
                rcases List.mem_append.1 ha with ha | ha
                · have := ha0 a ha; omega
                · rw [List.mem_singleton] at ha; subst ha; omega)
              have hu3m : u3 ≤ v3 + 60000 * (j + 1) ∧ v3 ≤ u3 := by omega
              clear hbi hx2 hy2 hz2 hxl hyl hzl hf1 hf2 hf3 hu1 hu2 hu3 ha1 ha0
              go_wp2_with fail
              go_roundg (gk - 1)
              case rel => exact ⟨j + 1, u3, by omega, by go_num, by first | rfl | rw [nW1, nW2, nW3, nW4] | (congr 1; omega), hu3m.2, HA2.out, hu3m.1, by omega, stp HBI.out (stpA ⟨rfl, rfl, rfl, Nat.le_refl _, fun _ _ => rfl⟩ _)⟩
              case measure => omega
            · obtain rfl : j = t.attrs.length := by omega
              rw [List.take_length] at ha0
              have HNG : Hid (NotGreat a0 t) := Lib.hid ⟨by have := HE.out; omega, by have := HE.out; omega, by have := HE.out; omega, by omega, ha0⟩
              have HALL : Hid (∀ x ∈ v.take (k + 1), NotGreat a0 x) := Lib.hid fun x hx => by
                rw [HTK.out] at hx
                rcases List.mem_append.1 hx with hx | hx
                · exact (HG.out x hx).mono (by have := HE.out; omega)
                · rw [List.mem_singleton] at hx; subst hx; exact HNG.out
              clear ha0 hbi
              go_wp2_with fail
              go_roundg (G - 1)
              case rel => exact ⟨k + 1, a0, by omega, by go_num, rfl, by omega, by omega, HALL.out, bel_in9 HBW.out HBI.out⟩
              case measure => omega
    · have HAC : Hid (∀ x ∈ v.take k, NotGreat acc x) := HG
      by_cases hkn : k < n
      · have hk600 : ¬ k < 600 := fun h => hlt ⟨hkn, h⟩
        have f1 : decide ((k : Int) < 600) = false := decide_eq_false (by omega)
        have f2 : decide ((most : Int) < (n : Int)) = true := decide_eq_true (by have := HMO.out; omega)
        have f3 : most < n := by have := HMO.out; omega
        clear hg hlt hk600 hbw
        go_wp2_with fail
        go_ret
        exact GreatTo.yes HBW.out
      · obtain rfl : k = n := by omega
        have htk : v.take k = v := by rw [← HN.out]; exact List.take_length
        by_cases hmo : most < k
        · have f2 : decide ((most : Int) < (k : Int)) = true := decide_eq_true (by omega)
          clear hg hlt hbw htk
          go_wp2_with fail
          go_ret
          exact GreatTo.yes HBW.out
        · have f2 : decide ((most : Int) < (k : Int)) = false := decide_eq_false (by omega)
          obtain ⟨r, hr⟩ : ∃ r, decide ((m : Int) < (acc : Int)) = r := ⟨_, rfl⟩
          have HF : Hid (∀ w', Below w.heap.size w w' → GreatTo v most m w (.returned (.bool r)) w') := Lib.hid fun w' hb => ⟨r, rfl, hb, fun h => by
            rw [h, decide_eq_false_iff_not] at hr
            refine ⟨by have := HN.out; omega, fun x hx => (HG.out x (by rw [htk]; exact hx)).mono (by omega)⟩⟩
          have hr2 : decide (m < acc) = r := by rw [← hr, decide_eq_decide]; omega
          clear hg hlt hbw htk
          go_wp2_with fail
          go_ret
          exact HF.out _ HBW.out
end Hx
end Go.Proofs.YteobcohjikjalaaGreatDoor
