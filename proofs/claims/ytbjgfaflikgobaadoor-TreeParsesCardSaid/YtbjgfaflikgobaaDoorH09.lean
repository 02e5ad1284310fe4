/-
  Texts of one seat, put together: LexG, LexF, LexH, BldA, BldK.
-/
import Derived.Test.YtbjgfaflikgobaaDoorH08
import Derived.Test.YtbjgfaflikgobaaDoorH04
import Derived.Deep.RegionHeld3
import Derived.Deep.LoopGhost
import Derived.Test.YtbjgfaflikgobaaDoorH05
import Derived.Deep.QuietTactic
import Derived.Test.YtbjgfaflikgobaaDoorH00
import Derived.Test.YtbjgfaflikgobaaDoorShelf
import Derived.Lib.OthersKept
import Derived.Lib.FrozenHead2
import Derived.Laws.Externs
namespace Go.Proofs.YtbjgfaflikgobaaDoor
open Go.RowKit
namespace Hx
open Lx Tx Nmb Es
set_option linter.unusedVariables false
end Hx
end Go.Proofs.YtbjgfaflikgobaaDoor
namespace Go.Proofs.YtbjgfaflikgobaaDoor
open Go.RowKit
namespace Hx
open Lx Tx Nmb Es
set_option linter.unusedVariables false
/-- Bounds of a token. -/
def Small (t : Tk) : Prop := t.name.length ≤ 1000000 ∧ t.text.length ≤ 1000000 ∧ t.attrs.length ≤ 1000000 ∧ ∀ p ∈ t.attrs, p.name.length ≤ 1000000 ∧ p.value.length ≤ 1000000
end Hx
end Go.Proofs.YtbjgfaflikgobaaDoor
namespace Go.Proofs.YtbjgfaflikgobaaDoor
open Go.RowKit
namespace Hx
open Lx Tx Nmb Es
set_option linter.unusedVariables false
/-- What an attribute counts, and a token. -/
def wPr (p : Pr) : Nat := min p.name.length 20000 + min p.value.length 20000
def wPrs (l : List Pr) : Nat := (l.map wPr).sum
def wTk (t : Tk) : Nat := min t.name.length 20000 + min t.text.length 20000 + wPrs (t.attrs.take 30)
def greatF (m : Nat) : Nat → List Tk → Bool
  | _, [] => false
  | n, t :: r => decide (30 < t.attrs.length) || decide (m < n + wTk t) || greatF m (n + wTk t) r
def greatT (m : Nat) (l : List Tk) : Bool := greatF m 0 (l.take 600) || decide (600 < l.length)
theorem wPr_le (p : Pr) : wPr p ≤ 40000 := by unfold wPr; omega
theorem wPrs_le : ∀ (l : List Pr) , wPrs l ≤ 40000 * l.length
  | [] => by simp [wPrs]
  | p :: l => by
    have := wPrs_le l
    have h2 := wPr_le p
    unfold wPrs at *
    rw [List.map_cons, List.sum_cons, List.length_cons]
    omega
theorem wPrs_snoc (l : List Pr) (p : Pr) : wPrs (l ++ [p]) = wPrs l + wPr p := by simp [wPrs]
theorem wPrs_next {l : List Pr} {k : Nat} (h : k < l.length) : wPrs (l.take (k + 1)) = wPrs (l.take k) + wPr (l[k]'h) := by
  rw [List.take_succ_eq_append_getElem h, wPrs_snoc]
theorem wTk_le (t : Tk) : wTk t ≤ 1240000 := by
  have h := wPrs_le (t.attrs.take 30)
  have h2 := List.length_take_le 30 t.attrs
  unfold wTk
  omega
theorem bel_in' {w w' w0 : World} (h0 : Below w0.heap.size w0 w) (h : Below w.heap.size w w') : Below w0.heap.size w0 w' := h0.trans (h.mono h0.size)
set_option maxHeartbeats 8000000 in
set_option maxRecDepth 100000 in
theorem rgreat9 (A : Option Addr) (n cp : Nat) (l : List Tk) (m : Nat) (w : World) (hr : RdC TkC w w.heap.size A l) (hn : l.length = n) (hm : m ≤ 1000000) (hmax : n ≤ 9223372036854775807) (q : Bool) (h : greatT m l = q) :
    Calls Tryd.prog 4 #[.slice A n cp, .int .i64 m] w fun e w' => e = .returned (.bool q) ∧ Below w.heap.size w w' := by
  have HR := Lib.hid hr
  have HN := Lib.hid hn
  have HH := Lib.hid h
  have HMX := Lib.hid hmax
  clear hr hn h hmax
  go_enter Tryd.func4, Tryd.ntmps4
  go_wp2_with fail
  go_loopg [5, 6, 7] n (fun gg vn vi vk wr => ∃ k acc : Nat, k + gg = n ∧ vi = .int .i64 k ∧ vn = .int .i64 acc ∧ k ≤ 600 ∧ acc ≤ k * 1240000 ∧ greatF m 0 (l.take 600) = greatF m acc ((l.take 600).drop k) ∧ Below w.heap.size w wr)
  case atStart => exact ⟨0, 0, by omega, rfl, rfl, by omega, by omega, rfl, Below.refl _ _⟩
  case round =>
    obtain ⟨k, acc, hk, rfl, rfl, hk6, hacc, hg, hbw⟩ := hrel
    obtain ⟨ww, rfl⟩ : ∃ ww : World, ww = wr := ⟨_, rfl⟩
    obtain ⟨G, rfl⟩ : ∃ G : Nat, G = gk := ⟨_, rfl⟩
    have HBW := Lib.hid hbw
    have HG := Lib.hid hg
    by_cases hlt : k < n ∧ k < 600
    · have hk1 : k < l.length := by rw [HN.out]; exact hlt.1
      obtain ⟨b0, off, rfl, hbB, hc⟩ := (HR.out.on hbw) (by omega)
      obtain ⟨cs, ⟨x, a1, p1, u, rfl, hkd, hx, hu, hle, hmx, hnl, hrd⟩, hcell⟩ := hc k hk1
      obtain ⟨t, ht⟩ : ∃ t, l[k]'hk1 = t := ⟨_, rfl⟩
      rw [ht] at hkd hx hu hle hrd hcell
      have c1 : ww.cell? ⟨b0, off + k * 4 + 1, none⟩ = some (.string x) := hcell 1 (by simp)
      have c2 : ww.cell? ⟨b0, off + k * 4 + 2, none⟩ = some (.slice a1 t.attrs.length p1) := hcell 2 (by simp)
      have c3 : ww.cell? ⟨b0, off + k * 4 + 3, none⟩ = some (.string u) := hcell 3 (by simp)
      have HRD := Lib.hid hrd
      have bk : (0 : Int) ≤ (k : Int) ∧ (k : Int) < (n : Int) := by omega
      have bk6 : (k : Int) < 600 := by omega
      obtain ⟨e1, he1⟩ : ∃ e1 : Nat, min t.name.length 20000 = e1 := ⟨_, rfl⟩
      obtain ⟨e2, he2⟩ : ∃ e2 : Nat, min t.text.length 20000 = e2 := ⟨_, rfl⟩
      have hxl := ba_l x
      have hul := ba_l u
      rw [hx] at hxl
      rw [hu] at hul
      have mV1 : (if (20000 : Int) < (x.size : Int) then (20000 : Int) else (x.size : Int)) = (e1 : Int) := by split <;> omega
      have mV2 : (if (20000 : Int) < (u.size : Int) then (20000 : Int) else (u.size : Int)) = (e2 : Int) := by split <;> omega
      obtain ⟨v1, hv1⟩ : ∃ v1 : Nat, acc + e1 = v1 := ⟨_, rfl⟩
      obtain ⟨v2, hv2⟩ : ∃ v2 : Nat, v1 + e2 = v2 := ⟨_, rfl⟩
      have s1 : IntKind.i64.wrap ((acc : Int) + (e1 : Int)) = (v1 : Int) := by rw [IntWalk.i64_in _ (by omega)]; omega
      have s2 : IntKind.i64.wrap ((v1 : Int) + (e2 : Int)) = (v2 : Int) := by rw [IntWalk.i64_in _ (by omega)]; omega
      have hv2m : v2 ≤ acc + 40000 := by omega
      have nV1 : min (x.size : Int) 20000 = (e1 : Int) := by omega
      have nV2 : min (u.size : Int) 20000 = (e2 : Int) := by omega
      have nV3 : (acc : Int) + (e1 : Int) + (e2 : Int) = (v2 : Int) := by omega
      have HW : Hid (v2 + wPrs (t.attrs.take 30) = acc + wTk t) := Lib.hid (by unfold wTk; omega)
      have hle2 : (t.attrs.length : Int) ≤ 9223372036854775807 := by unfold maxLen at hmx; omega
      have HDR : Hid (greatF m acc ((l.take 600).drop k) = (decide (30 < t.attrs.length) || decide (m < acc + wTk t) || greatF m (acc + wTk t) ((l.take 600).drop (k + 1)))) := Lib.hid (by
        have hk6' : k < (l.take 600).length := by rw [List.length_take]; omega
        rw [List.drop_eq_getElem_cons hk6', List.getElem_take, ht]
        rfl)
      clear hbw hc hcell hrd hkd hg he1 he2 hxl hul hx hu hv1 hv2 ht hk1 hnl hmx
      · go_wp2_with fail
        go_quiet (fail)
        go_wp2_with fail
        obtain ⟨wo, hwo⟩ : ∃ wo : World, ww.drewN nq = wo := ⟨_, rfl⟩
        have HBO : Hid (Below ww.heap.size ww wo) := Lib.hid (by rw [← hwo]; exact ⟨rfl, rfl, rfl, Nat.le_refl _, fun _ _ => rfl⟩)
        rw [hwo]
        clear hwo
        go_loopg [5, 7] t.attrs.length (fun gg vn vk wi => ∃ j a0 : Nat, j + gg = t.attrs.length ∧ vk = .int .i64 j ∧ vn = .int .i64 a0 ∧ Hid (a0 = v2 + wPrs (t.attrs.take j)) ∧ a0 ≤ v2 + 40000 * j ∧ j ≤ 30 ∧ Below ww.heap.size ww wi)
        case atStart => exact ⟨0, v2, by omega, rfl, by first | rfl | rw [nV1, nV2, nV3], Lib.hid (by simp [wPrs]), by omega, by omega, HBO.out⟩
        case round =>
          obtain ⟨j, a0, hj, rfl, rfl, ha0, ham, hj30, hbi⟩ := hrel
          have HBI := Lib.hid hbi
          have hrdi := HRD.out.on hbi
          have e2 : wr.cell? ⟨b0, off + k * 4 + 2, none⟩ = some (.slice a1 t.attrs.length p1) := (hbi.cell (p := ⟨b0, off + k * 4 + 2, none⟩) hbB).trans c2
          by_cases hlj : j < t.attrs.length ∧ j < 30
          · obtain ⟨hjl, hj3⟩ := hlj
            obtain ⟨b2, off2, ha1, hb2B, hcc⟩ := hrdi (by omega)
            rw [ha1] at e2
            obtain ⟨cs2, ⟨y, z, rfl, hy, hz⟩, hcell2⟩ := hcc j hjl
            have e0 : wr.cell? ⟨b2, off2 + j * 2, none⟩ = some (.string y) := hcell2 0 (by simp)
            have e1' : wr.cell? ⟨b2, off2 + j * 2 + 1, none⟩ = some (.string z) := hcell2 1 (by simp)
            have bj : (0 : Int) ≤ (j : Int) ∧ (j : Int) < (t.attrs.length : Int) := by omega
            have bj30 : (j : Int) < 30 := by omega
            obtain ⟨f1, hf1⟩ : ∃ f1 : Nat, min (t.attrs[j]'hjl).name.length 20000 = f1 := ⟨_, rfl⟩
            obtain ⟨f2, hf2⟩ : ∃ f2 : Nat, min (t.attrs[j]'hjl).value.length 20000 = f2 := ⟨_, rfl⟩
            have hyl := ba_l y
            have hzl := ba_l z
            rw [hy] at hyl
            rw [hz] at hzl
            have mW1 : (if (20000 : Int) < (y.size : Int) then (20000 : Int) else (y.size : Int)) = (f1 : Int) := by split <;> omega
            have mW2 : (if (20000 : Int) < (z.size : Int) then (20000 : Int) else (z.size : Int)) = (f2 : Int) := by split <;> omega
            obtain ⟨u1, hu1'⟩ : ∃ u1 : Nat, a0 + f1 = u1 := ⟨_, rfl⟩
            obtain ⟨u2, hu2'⟩ : ∃ u2 : Nat, u1 + f2 = u2 := ⟨_, rfl⟩
            have t1 : IntKind.i64.wrap ((a0 : Int) + (f1 : Int)) = (u1 : Int) := by rw [IntWalk.i64_in _ (by omega)]; omega
            have t2 : IntKind.i64.wrap ((u1 : Int) + (f2 : Int)) = (u2 : Int) := by rw [IntWalk.i64_in _ (by omega)]; omega
            have nW1 : min (y.size : Int) 20000 = (f1 : Int) := by omega
            have nW2 : min (z.size : Int) 20000 = (f2 : Int) := by omega
            have nW3 : (a0 : Int) + (f1 : Int) + (f2 : Int) = (u2 : Int) := by omega
            have HA2 : Hid (u2 = v2 + wPrs (t.attrs.take (j + 1))) := Lib.hid (by
              rw [wPrs_next hjl, ← Nat.add_assoc, ← ha0.out]
              unfold wPr
              omega)
            have hu2m : u2 ≤ v2 + 40000 * (j + 1) := by omega
            clear hbi hrdi hcc hcell2 hy hz hyl hzl hf1 hf2 hu1' hu2' ha1
            · go_wp2_with fail
              go_quiet (fail)
              go_wp2_with fail
              go_roundg (gk - 1)
              case rel => exact ⟨j + 1, u2, by omega, by go_num, by first | rfl | rw [nW1, nW2, nW3], HA2, hu2m, by omega, stp HBI.out ⟨rfl, rfl, rfl, Nat.le_refl _, fun _ _ => rfl⟩⟩
              case measure => omega
          · have hend : a0 = acc + wTk t := by
              rw [← HW.out, ha0.out]
              congr 2
              rcases Nat.lt_or_ge j 30 with h | h
              · rw [List.take_of_length_le (by omega), List.take_of_length_le (by omega)]
              · rw [show j = 30 by omega]
            have bj : ¬ ((j : Int) < (t.attrs.length : Int) ∧ (j : Int) < 30) := by omega
            clear hbi hrdi ha0 ham
            have hDR := HDR.out
            rw [← hend] at hDR
            by_cases h30 : 30 < t.attrs.length
            · have d1 : decide ((30 : Int) < (t.attrs.length : Int)) = true := by simp; omega
              obtain rfl : true = q := by
                rw [← HH.out]
                unfold greatT
                rw [HG.out, hDR, decide_eq_true h30]
                rfl
              clear hDR hend
              go_wp2_with fail
              go_ret
              exact ⟨rfl, bel_in' HBW.out HBI.out⟩
            · have d1 : decide ((30 : Int) < (t.attrs.length : Int)) = false := by simp; omega
              by_cases hmm : m < a0
              · have d2 : decide ((m : Int) < (a0 : Int)) = true := by simp; omega
                obtain rfl : true = q := by
                  rw [← HH.out]
                  unfold greatT
                  rw [HG.out, hDR, decide_eq_true hmm, decide_eq_false h30]
                  rfl
                clear hDR hend
                go_wp2_with fail
                go_ret
                exact ⟨rfl, bel_in' HBW.out HBI.out⟩
              · have d2 : decide ((m : Int) < (a0 : Int)) = false := by simp; omega
                have HG2 : Hid (greatF m 0 (l.take 600) = greatF m a0 ((l.take 600).drop (k + 1))) := Lib.hid (by
                  rw [HG.out, hDR, decide_eq_false h30, decide_eq_false hmm]
                  rfl)
                have hak : a0 ≤ (k + 1) * 1240000 := by have := wTk_le t; omega
                have bel : Hid (Below w.heap.size w wr) := Lib.hid (bel_in' HBW.out HBI.out)
                clear hDR hend
                go_wp2_with fail
                go_roundg (G - 1)
                case rel => exact ⟨k + 1, a0, by omega, by go_num, rfl, by omega, hak, HG2.out, bel.out⟩
                case measure => omega
    · have hend : (l.take 600).drop k = [] := by
        apply List.drop_eq_nil_of_le
        rw [List.length_take, HN.out]
        omega
      have bk : ¬ ((k : Int) < (n : Int) ∧ (k : Int) < 600) := by omega
      have hd : decide ((600 : Int) < (n : Int)) = q := by
        rw [← HH.out]
        unfold greatT
        rw [HG.out, hend, HN.out]
        simp [greatF]
        omega
      clear hbw hg hend
      by_cases hkn : k < n
      · have b1 : (k : Int) < (n : Int) := by omega
        have b2 : ¬ (k : Int) < 600 := by omega
        go_wp2_with fail
        go_ret
        exact ⟨rfl, HBW.out⟩
      · have b1 : ¬ (k : Int) < (n : Int) := by omega
        go_wp2_with fail
        go_ret
        exact ⟨rfl, HBW.out⟩
end Hx
end Go.Proofs.YtbjgfaflikgobaaDoor
namespace Go.Proofs.YtbjgfaflikgobaaDoor
open Go.RowKit
namespace Hx
set_option linter.unusedVariables false
end Hx
end Go.Proofs.YtbjgfaflikgobaaDoor
namespace Go.Proofs.YtbjgfaflikgobaaDoor
open Go.RowKit
namespace Hx
set_option linter.unusedVariables false
abbrev OK9 (b : Nat) (w w' : World) : Prop := Lib.OthersKept 5 (some b) w w'
theorem OK9.iter {b g : Nat} {w w' : World} {s : ByteArray} {p : Nat} (h : OK9 b w w') (hg : w.heap[g]? = some (.stringIter s p)) (hb : g ≠ b) : w'.heap[g]? = some (.stringIter s p) :=
  h g _ hg (fun e => hb (Option.some.inj e)) (fun c fz e => by cases e)
end Hx
end Go.Proofs.YtbjgfaflikgobaaDoor
