/-
  Texts of one seat, put together: LexH, BldA.
-/
import Derived.Test.YtichboamakgabaaGreatDoorG06
import Derived.Deep.QuietTactic
import Derived.Test.YtichboamakgabaaGreatDoorG00
import Derived.Test.YtichboamakgabaaGreatDoorShelf
import Derived.Lib.OthersKept
import Derived.Lib.FrozenHead2
import Derived.Laws.Externs
namespace Go.Proofs.YtichboamakgabaaGreatDoor
open Go.RowKit
namespace Hx
open Lx Tx Nmb Es
set_option linter.unusedVariables false
/-- What an attribute counts, and a token. -/
def wPr (p : Pr) : Nat := min p.name.length 20000 + min p.value.length 20000
def wPrs (l : List Pr) : Nat := (l.map wPr).sum
def wTk (t : Tk) : Nat := min t.name.length 20000 + min t.text.length 20000 + wPrs (t.attrs.take 30)
def greatF (m : Nat) : Nat → List Tk → Bool
  | _, [] => false
  | n, t :: r => decide (30 < t.attrs.length) || decide (m < n + wTk t) || greatF m (n + wTk t) r
def greatT (m : Nat) (l : List Tk) : Bool := greatF m 0 (l.take 600) || decide (600 < l.length)
theorem wPr_le (p : Pr) : wPr p ≤ 40000 := by unfold wPr; omega
theorem wPrs_le : ∀ (l : List Pr) , wPrs l ≤ 40000 * l.length
  | [] => by simp [wPrs]
  | p :: l => by
    have := wPrs_le l
    have h2 := wPr_le p
    unfold wPrs at *
    rw [List.map_cons, List.sum_cons, List.length_cons]
    omega
theorem wPrs_snoc (l : List Pr) (p : Pr) : wPrs (l ++ [p]) = wPrs l + wPr p := by simp [wPrs]
theorem wPrs_next {l : List Pr} {k : Nat} (h : k < l.length) : wPrs (l.take (k + 1)) = wPrs (l.take k) + wPr (l[k]'h) := by
  rw [List.take_succ_eq_append_getElem h, wPrs_snoc]
theorem wTk_le (t : Tk) : wTk t ≤ 1240000 := by
  have h := wPrs_le (t.attrs.take 30)
  have h2 := List.length_take_le 30 t.attrs
  unfold wTk
  omega
theorem bel_in' {w w' w0 : World} (h0 : Below w0.heap.size w0 w) (h : Below w.heap.size w w') : Below w0.heap.size w0 w' := h0.trans (h.mono h0.size)
set_option maxHeartbeats 8000000 in
set_option maxRecDepth 100000 in
theorem rgreat9 (A : Option Addr) (n cp : Nat) (l : List Tk) (m : Nat) (w : World) (hr : RdC TkC w w.heap.size A l) (hn : l.length = n) (hm : m ≤ 1000000) (hmax : n ≤ 9223372036854775807) (q : Bool) (h : greatT m l = q) :
    Calls Tryz.prog 21 #[.slice A n cp, .int .i64 m] w fun e w' => e = .returned (.bool q) ∧ Below w.heap.size w w' := by
  have HR := Lib.hid hr
  have HN := Lib.hid hn
  have HH := Lib.hid h
  have HMX := Lib.hid hmax
  clear hr hn h hmax
  go_enter Tryz.func21, Tryz.ntmps21
  go_wp2_with fail
  go_loopg [5, 6, 7] n (fun gg vn vi vk wr => ∃ k acc : Nat, k + gg = n ∧ vi = .int .i64 k ∧ vn = .int .i64 acc ∧ k ≤ 600 ∧ acc ≤ k * 1240000 ∧ greatF m 0 (l.take 600) = greatF m acc ((l.take 600).drop k) ∧ Below w.heap.size w wr)
  case atStart => exact ⟨0, 0, by omega, rfl, rfl, by omega, by omega, rfl, Below.refl _ _⟩
  case round =>
    obtain ⟨k, acc, hk, rfl, rfl, hk6, hacc, hg, hbw⟩ := hrel
    obtain ⟨ww, rfl⟩ : ∃ ww : World, ww = wr := ⟨_, rfl⟩
    obtain ⟨G, rfl⟩ : ∃ G : Nat, G = gk := ⟨_, rfl⟩
    have HBW := Lib.hid hbw
    have HG := Lib.hid hg
    by_cases hlt : k < n ∧ k < 600
    · have hk1 : k < l.length := by rw [HN.out]; exact hlt.1
      obtain ⟨b0, off, rfl, hbB, hc⟩ := (HR.out.on hbw) (by omega)
      obtain ⟨cs, ⟨x, a1, p1, u, rfl, hkd, hx, hu, hle, hmx, hnl, hrd⟩, hcell⟩ := hc k hk1
      obtain ⟨t, ht⟩ : ∃ t, l[k]'hk1 = t := ⟨_, rfl⟩
      rw [ht] at hkd hx hu hle hrd hcell
      have c1 : ww.cell? ⟨b0, off + k * 4 + 1, none⟩ = some (.string x) := hcell 1 (by simp)
      have c2 : ww.cell? ⟨b0, off + k * 4 + 2, none⟩ = some (.slice a1 t.attrs.length p1) := hcell 2 (by simp)
      have c3 : ww.cell? ⟨b0, off + k * 4 + 3, none⟩ = some (.string u) := hcell 3 (by simp)
      have HRD := Lib.hid hrd
      have bk : (0 : Int) ≤ (k : Int) ∧ (k : Int) < (n : Int) := by omega
      have bk6 : (k : Int) < 600 := by omega
      obtain ⟨e1, he1⟩ : ∃ e1 : Nat, min t.name.length 20000 = e1 := ⟨_, rfl⟩
      obtain ⟨e2, he2⟩ : ∃ e2 : Nat, min t.text.length 20000 = e2 := ⟨_, rfl⟩
      have hxl := ba_l x
      have hul := ba_l u
      rw [hx] at hxl
      rw [hu] at hul
      have mV1 : (if (20000 : Int) < (x.size : Int) then (20000 : Int) else (x.size : Int)) = (e1 : Int) := by split <;> omega
      have mV2 : (if (20000 : Int) < (u.size : Int) then (20000 : Int) else (u.size : Int)) = (e2 : Int) := by split <;> omega
      obtain ⟨v1, hv1⟩ : ∃ v1 : Nat, acc + e1 = v1 := ⟨_, rfl⟩
      obtain ⟨v2, hv2⟩ : ∃ v2 : Nat, v1 + e2 = v2 := ⟨_, rfl⟩
      have s1 : IntKind.i64.wrap ((acc : Int) + (e1 : Int)) = (v1 : Int) := by rw [IntWalk.i64_in _ (by omega)]; omega
      have s2 : IntKind.i64.wrap ((v1 : Int) + (e2 : Int)) = (v2 : Int) := by rw [IntWalk.i64_in _ (by omega)]; omega
      have hv2m : v2 ≤ acc + 40000 := by omega
      have nV1 : min (x.size : Int) 20000 = (e1 : Int) := by omega
      have nV2 : min (u.size : Int) 20000 = (e2 : Int) := by omega
      have nV3 : (acc : Int) + (e1 : Int) + (e2 : Int) = (v2 : Int) := by omega
      have HW : Hid (v2 + wPrs (t.attrs.take 30) = acc + wTk t) := Lib.hid (by unfold wTk; omega)
      have hle2 : (t.attrs.length : Int) ≤ 9223372036854775807 := by unfold maxLen at hmx; omega
      have HDR : Hid (greatF m acc ((l.take 600).drop k) = (decide (30 < t.attrs.length) || decide (m < acc + wTk t) || greatF m (acc + wTk t) ((l.take 600).drop (k + 1)))) := Lib.hid (by
        have hk6' : k < (l.take 600).length := by rw [List.length_take]; omega
        rw [List.drop_eq_getElem_cons hk6', List.getElem_take, ht]
        rfl)
      clear hbw hc hcell hrd hkd hg he1 he2 hxl hul hx hu hv1 hv2 ht hk1 hnl hmx
      · go_wp2_with fail
        go_quiet (fail)
        go_wp2_with fail
        obtain ⟨wo, hwo⟩ : ∃ wo : World, ww.drewN nq = wo := ⟨_, rfl⟩
        have HBO : Hid (Below ww.heap.size ww wo) := Lib.hid (by rw [← hwo]; exact ⟨rfl, rfl, rfl, Nat.le_refl _, fun _ _ => rfl⟩)
        rw [hwo]
        clear hwo
        go_loopg [5, 7] t.attrs.length (fun gg vn vk wi => ∃ j a0 : Nat, j + gg = t.attrs.length ∧ vk = .int .i64 j ∧ vn = .int .i64 a0 ∧ Hid (a0 = v2 + wPrs (t.attrs.take j)) ∧ a0 ≤ v2 + 40000 * j ∧ j ≤ 30 ∧ Below ww.heap.size ww wi)
        case atStart => exact ⟨0, v2, by omega, rfl, by first | rfl | rw [nV1, nV2, nV3], Lib.hid (by simp [wPrs]), by omega, by omega, HBO.out⟩
        case round =>
          obtain ⟨j, a0, hj, rfl, rfl, ha0, ham, hj30, hbi⟩ := hrel
          have HBI := Lib.hid hbi
          have hrdi := HRD.out.on hbi
          have e2 : wr.cell? ⟨b0, off + k * 4 + 2, none⟩ = some (.slice a1 t.attrs.length p1) := (hbi.cell (p := ⟨b0, off + k * 4 + 2, none⟩) hbB).trans c2
          by_cases hlj : j < t.attrs.length ∧ j < 30
          · obtain ⟨hjl, hj3⟩ := hlj
            obtain ⟨b2, off2, ha1, hb2B, hcc⟩ := hrdi (by omega)
            rw [ha1] at e2
            obtain ⟨cs2, ⟨y, z, rfl, hy, hz⟩, hcell2⟩ := hcc j hjl
            have e0 : wr.cell? ⟨b2, off2 + j * 2, none⟩ = some (.string y) := hcell2 0 (by simp)
            have e1' : wr.cell? ⟨b2, off2 + j * 2 + 1, none⟩ = some (.string z) := hcell2 1 (by simp)
            have bj : (0 : Int) ≤ (j : Int) ∧ (j : Int) < (t.attrs.length : Int) := by omega
            have bj30 : (j : Int) < 30 := by omega
            obtain ⟨f1, hf1⟩ : ∃ f1 : Nat, min (t.attrs[j]'hjl).name.length 20000 = f1 := ⟨_, rfl⟩
            obtain ⟨f2, hf2⟩ : ∃ f2 : Nat, min (t.attrs[j]'hjl).value.length 20000 = f2 := ⟨_, rfl⟩
            have hyl := ba_l y
            have hzl := ba_l z
            rw [hy] at hyl
            rw [hz] at hzl
            have mW1 : (if (20000 : Int) < (y.size : Int) then (20000 : Int) else (y.size : Int)) = (f1 : Int) := by split <;> omega
            have mW2 : (if (20000 : Int) < (z.size : Int) then (20000 : Int) else (z.size : Int)) = (f2 : Int) := by split <;> omega
            obtain ⟨u1, hu1'⟩ : ∃ u1 : Nat, a0 + f1 = u1 := ⟨_, rfl⟩
            obtain ⟨u2, hu2'⟩ : ∃ u2 : Nat, u1 + f2 = u2 := ⟨_, rfl⟩
            have t1 : IntKind.i64.wrap ((a0 : Int) + (f1 : Int)) = (u1 : Int) := by rw [IntWalk.i64_in _ (by omega)]; omega
            have t2 : IntKind.i64.wrap ((u1 : Int) + (f2 : Int)) = (u2 : Int) := by rw [IntWalk.i64_in _ (by omega)]; omega
            have nW1 : min (y.size : Int) 20000 = (f1 : Int) := by omega
            have nW2 : min (z.size : Int) 20000 = (f2 : Int) := by omega
            have nW3 : (a0 : Int) + (f1 : Int) + (f2 : Int) = (u2 : Int) := by omega
            have HA2 : Hid (u2 = v2 + wPrs (t.attrs.take (j + 1))) := Lib.hid (by
              rw [wPrs_next hjl, ← Nat.add_assoc, ← ha0.out]
              unfold wPr
              omega)
            have hu2m : u2 ≤ v2 + 40000 * (j + 1) := by omega
            clear hbi hrdi hcc hcell2 hy hz hyl hzl hf1 hf2 hu1' hu2' ha1
            · go_wp2_with fail
              go_quiet (fail)
              go_wp2_with fail
              go_roundg (gk - 1)
              case rel => exact ⟨j + 1, u2, by omega, by go_num, by first | rfl | rw [nW1, nW2, nW3], HA2, hu2m, by omega, stp HBI.out ⟨rfl, rfl, rfl, Nat.le_refl _, fun _ _ => rfl⟩⟩
              case measure => omega
          · have hend : a0 = acc + wTk t := by
              rw [← HW.out, ha0.out]
              congr 2
              rcases Nat.lt_or_ge j 30 with h | h
              · rw [List.take_of_length_le (by omega), List.take_of_length_le (by omega)]
              · rw [show j = 30 by omega]
            have bj : ¬ ((j : Int) < (t.attrs.length : Int) ∧ (j : Int) < 30) := by omega
            clear hbi hrdi ha0 ham
            have hDR := HDR.out
            rw [← hend] at hDR
            by_cases h30 : 30 < t.attrs.length
            · have d1 : decide ((30 : Int) < (t.attrs.length : Int)) = true := by simp; omega
              obtain rfl : true = q := by
                rw [← HH.out]
                unfold greatT
                rw [HG.out, hDR, decide_eq_true h30]
                rfl
              clear hDR hend
              go_wp2_with fail
              go_ret
              exact ⟨rfl, bel_in' HBW.out HBI.out⟩
            · have d1 : decide ((30 : Int) < (t.attrs.length : Int)) = false := by simp; omega
              by_cases hmm : m < a0
              · have d2 : decide ((m : Int) < (a0 : Int)) = true := by simp; omega
                obtain rfl : true = q := by
                  rw [← HH.out]
                  unfold greatT
                  rw [HG.out, hDR, decide_eq_true hmm, decide_eq_false h30]
                  rfl
                clear hDR hend
                go_wp2_with fail
                go_ret
                exact ⟨rfl, bel_in' HBW.out HBI.out⟩
              · have d2 : decide ((m : Int) < (a0 : Int)) = false := by simp; omega
                have HG2 : Hid (greatF m 0 (l.take 600) = greatF m a0 ((l.take 600).drop (k + 1))) := Lib.hid (by
                  rw [HG.out, hDR, decide_eq_false h30, decide_eq_false hmm]
                  rfl)
                have hak : a0 ≤ (k + 1) * 1240000 := by have := wTk_le t; omega
                have bel : Hid (Below w.heap.size w wr) := Lib.hid (bel_in' HBW.out HBI.out)
                clear hDR hend
                go_wp2_with fail
                go_roundg (G - 1)
                case rel => exact ⟨k + 1, a0, by omega, by go_num, rfl, by omega, hak, HG2.out, bel.out⟩
                case measure => omega
    · have hend : (l.take 600).drop k = [] := by
        apply List.drop_eq_nil_of_le
        rw [List.length_take, HN.out]
        omega
      have bk : ¬ ((k : Int) < (n : Int) ∧ (k : Int) < 600) := by omega
      have hd : decide ((600 : Int) < (n : Int)) = q := by
        rw [← HH.out]
        unfold greatT
        rw [HG.out, hend, HN.out]
        simp [greatF]
        omega
      clear hbw hg hend
      by_cases hkn : k < n
      · have b1 : (k : Int) < (n : Int) := by omega
        have b2 : ¬ (k : Int) < 600 := by omega
        go_wp2_with fail
        go_ret
        exact ⟨rfl, HBW.out⟩
      · have b1 : ¬ (k : Int) < (n : Int) := by omega
        go_wp2_with fail
        go_ret
        exact ⟨rfl, HBW.out⟩
end Hx
end Go.Proofs.YtichboamakgabaaGreatDoor
namespace Go.Proofs.YtichboamakgabaaGreatDoor
open Go.RowKit
namespace Hx
set_option linter.unusedVariables false
/-- The builder in block b holds these bytes; it and its row lie from block B on. -/
def Bld (B b : Nat) (l : List UInt8) (w : World) : Prop := Lib.IsBuilderF 54 5 B b (Lib.byteCells l) w
theorem bcells_len (l : List UInt8) : (Lib.byteCells l).length = l.length := by simp [Lib.byteCells]
theorem bcells_app (a b : List UInt8) : Lib.byteCells (a ++ b) = Lib.byteCells a ++ Lib.byteCells b := by simp [Lib.byteCells]
theorem bcells_str (x : ByteArray) : Lib.strCells x = Lib.byteCells x.data.toList := rfl
theorem Bld.alloc {B b : Nat} {l : List UInt8} {w : World} (h : Bld B b l w) (o : Obj) : Bld B b l (w.alloc o) := Lib.IsBuilderF.alloc h o
theorem Bld.lt {B b : Nat} {l : List UInt8} {w : World} (h : Bld B b l w) : B ≤ b ∧ b < w.heap.size := by
  rcases h with h | h <;>
  · obtain ⟨h1, v, h2, _⟩ := h
    refine ⟨h1, ?_⟩
    rcases Nat.lt_or_ge b w.heap.size with h' | h'
    · exact h'
    · rw [Array.getElem?_eq_none h'] at h2; cases h2
theorem bldAt_below {T e : TypeId} {B b : Nat} {p : Value} {bs : List Value} {w w' : World} {n : Nat} (h : Lib.BuilderAtF T e B b p bs w) (hb : Below n w w') (hn : w.heap.size ≤ n) : Lib.BuilderAtF T e B b p bs w' := by
  obtain ⟨h1, v, h2, h3, h4⟩ := h
  have hlt : ∀ {k : Nat} {o : Obj}, w.heap[k]? = some o → w'.heap[k]? = some o := fun {k o} hk => by
    have : k < w.heap.size := by
      rcases Nat.lt_or_ge k w.heap.size with h' | h'
      · exact h'
      · rw [Array.getElem?_eq_none h'] at hk; cases hk
    rw [hb.block k (Nat.lt_of_lt_of_le this hn)]
    exact hk
  refine ⟨h1, v, hlt h2, ⟨h3.1, ?_⟩, h4⟩
  rcases h3.2 with h | ⟨g, cap, cur, fz, q1, q2, q3, q4⟩
  · exact .inl h
  · exact .inr ⟨g, cap, cur, fz, q1, q2, hlt q3, q4⟩
theorem Bld.below {B b : Nat} {l : List UInt8} {w w' : World} (h : Bld B b l w) (hb : Below w.heap.size w w') : Bld B b l w' :=
  h.elim (fun x => .inl (bldAt_below x hb (Nat.le_refl _))) (fun x => .inr (bldAt_below x hb (Nat.le_refl _)))
/-- A new one. -/
theorem bld_new (w : World) : Bld w.heap.size w.heap.size [] (w.alloc (.cells #[.pointer none, .slice none 0 0] 54)) := Lib.IsBuilderF.of (Lib.fresh_isBuilder _ _ _)
theorem cc_size : ∃ j, Tryz.prog.info? 54 = some j ∧ j.size = 2 := Option.map_eq_some_iff.1 (show (Tryz.prog.info? 54).map (·.size) = some 2 by kernel_rfl)
theorem cc_lies : liesAt Tryz.prog Tryz.prog.depth 54 (2 / Tryz.prog.cellsOf 54) 0 54 1 = true := by kernel_rfl
theorem bld_u8 : (Tryz.prog.info? 5).map (fun i => (i.zero, i.size, i.bytes)) = some (some (.int .u8 0), 1, 1) := by kernel_rfl
set_option maxHeartbeats 1000000 in
set_option maxRecDepth 100000 in
theorem cc_used (b : Nat) (w : World) (h0 : w.cell? ⟨b, 0, none⟩ = some (.pointer (some ⟨b, 0, none⟩))) :
    Calls Tryz.prog 60 #[.pointer (some ⟨b, 0, none⟩)] w fun e w' => e = .returned (.tuple #[]) ∧ w' = w := by
  obtain ⟨j, hj, _⟩ := cc_size
  go_enter Tryz.func60, Tryz.ntmps60
  go_wp2
  rw [Lib.run_neq_ptr_same w _ Tryz.underlying52 hj]
  go_wp2
  go_end0
  exact ⟨rfl, rfl⟩
set_option maxHeartbeats 1000000 in
set_option maxRecDepth 100000 in
theorem cc_fresh (b : Nat) (w : World) (h0 : w.cell? ⟨b, 0, none⟩ = some (.pointer none)) (hsh : w.shape? b = some (54, 2)) (hfz : w.frozen? ⟨b, 0, none⟩ = false) :
    Calls Tryz.prog 60 #[.pointer (some ⟨b, 0, none⟩)] w fun e w' => e = .returned (.tuple #[]) ∧ w' = w.setCell ⟨b, 0, none⟩ (.pointer (some ⟨b, 0, none⟩)) := by
  obtain ⟨j, hj, hjs⟩ := cc_size
  go_enter Tryz.func60, Tryz.ntmps60
  go_wp2
  rw [Lib.run_to_unsafe w ⟨b, 0, none⟩ Tryz.underlying52 Tryz.underlying110 hj (by rw [hjs]; decide) hsh (Nat.zero_lt_succ 1)]
  simp only [Result.andThen]
  rw [Oper.upon_value]
  go_wp2
  rw [run_callFunc_extern Tryz.func83 (by kernel_rfl) (by kernel_rfl) (by kernel_rfl) (e := Extern.AbiNoEscape.same) (by kernel_rfl)]
  rw [Lib.run_noEscape]
  simp only [Result.andThen]
  rw [Oper.upon_value]
  go_wp2
  rw [Lib.run_from_unsafe w ⟨b, 0, none⟩ Tryz.underlying110 Tryz.underlying52 hj hsh cc_lies]
  simp only [Result.andThen]
  rw [Oper.upon_value]
  go_wp2
  go_end0
  exact ⟨rfl, rfl⟩
theorem ccheck (B b : Nat) (bs : List Value) (w : World) (h : Lib.IsBuilderF 54 5 B b bs w) :
    Calls Tryz.prog 60 #[.pointer (some ⟨b, 0, none⟩)] w fun e w' => e = .returned (.tuple #[]) ∧ Lib.BuilderAtF 54 5 B b (.pointer (some ⟨b, 0, none⟩)) bs w' ∧ Below B w w' := by
  rcases h with h | h
  · refine (cc_fresh b w h.cell0 h.shape h.frozen0).mono ?_
    rintro e w' ⟨rfl, rfl⟩
    exact ⟨rfl, h.used _, (Below.refl B w).setCell (p := ⟨b, 0, none⟩) h.1 _⟩
  · refine (cc_used b w h.cell0).mono ?_
    rintro e w' ⟨rfl, rfl⟩
    exact ⟨rfl, h, Below.refl B _⟩
set_option maxHeartbeats 2000000 in
set_option maxRecDepth 100000 in
theorem bwb (B b : Nat) (l : List UInt8) (c : UInt8) (w : World) (h : Bld B b l w) (hl : l.length + 1 ≤ 1000000000) (hBw : B ≤ w.heap.size) :
    Calls Tryz.prog 82 #[.pointer (some ⟨b, 0, none⟩), .int .u8 (c.toNat : Int)] w fun e w' => e = .returned .nilIface ∧ Bld B b (l ++ [c]) w' ∧ Below B w w' := by
  obtain ⟨i0, hi, hz0, hz1, hz2⟩ := info_parts bld_u8
  obtain ⟨z, hz⟩ : ∃ z : Int, (c.toNat : Int) = z := ⟨_, rfl⟩
  obtain ⟨bs, hbs⟩ : ∃ bs, Lib.byteCells l = bs := ⟨_, rfl⟩
  have hbl : bs.length = l.length := by rw [← hbs, bcells_len]
  have HE : Hid (Lib.byteCells (l ++ [c]) = bs ++ [.int .u8 z]) := Lib.hid (by rw [bcells_app, hbs, ← hz]; rfl)
  have h' : Lib.IsBuilderF 54 5 B b bs w := hbs ▸ h
  have hl' : bs.length + 1 ≤ 1000000000 := by omega
  rw [hz]
  clear h hz hbs hbl hl
  go_enter Tryz.func82, Tryz.ntmps82
  go_wp2_with (go_at_call 60; (with_reducible refine (ccheck B b bs w h').mono ?_))
  rintro e w1 ⟨rfl, h1, hb1⟩
  obtain ⟨hB, v, hbk, hown, hne⟩ := h1
  have c0 : w1.cell? ⟨b, 0, none⟩ = some (.pointer (some ⟨b, 0, none⟩)) := by rw [Lib.cell_of_heap hbk]; rfl
  have c1 : w1.cell? ⟨b, 1, none⟩ = some v := by rw [Lib.cell_of_heap hbk]; rfl
  go_wp2_with (at_builtin; refine wpList_append_ownF _ rfl _ _ 27 rfl B 5 i0 (.int .u8 0) 1 1 Tryz.underlying27 hi hz0 hz1 hz2 rfl (by decide) _ _ _ rfl (hown.alloc _) ⟨w1.heap.size, 0, none⟩ 1 1 [.int .u8 z] rfl rfl ?c1 ?c2 ?c3 ?c4 ?c5 ?_)
  case c1 =>
    intro j u hj
    match j, hj with
    | 0, hj => simp at hj; subst hj; simp [Addr.add]
  case c2 => intro u hu; simp at hu; subst hu; rfl
  case c3 => unfold maxLen; omega
  case c4 => omega
  case c5 => have := hb1.size; simp; omega
  intro v' w2 hown' hgrow _
  have hlt : b < w1.heap.size := by
    rcases Nat.lt_or_ge b w1.heap.size with h' | h'
    · exact h'
    · simp [Array.getElem?_eq_none h'] at hbk
  have hb2 : w2.heap[b]? = some (.cells #[.pointer (some ⟨b, 0, none⟩), v] 54 (0, 0)) := by
    rw [hgrow.block b (by simp; omega) (fun e => hne e.symm), Lib.alloc_old w1 _ b hlt]
    exact hbk
  have d0 : w2.cell? ⟨b, 0, none⟩ = some (.pointer (some ⟨b, 0, none⟩)) := by rw [Lib.cell_of_heap hb2]; rfl
  have d1 : w2.cell? ⟨b, 1, none⟩ = some v := by rw [Lib.cell_of_heap hb2]; rfl
  have f1 : w2.frozen? ⟨b, 1, none⟩ = false := Lib.frozen_of_heap hb2 1
  obtain ⟨g, cap, rfl⟩ : ∃ g cap, v' = .slice (some ⟨g, 0, none⟩) (bs.length + 1) cap := by
    rcases hown'.2 with ⟨_, h0⟩ | ⟨g, cap, cur, fz, hv, _⟩
    · omega
    · exact ⟨g, cap, hv⟩
  go_wp2
  go_ret
  refine ⟨rfl, ?_, ?_⟩
  · unfold Bld
    rw [HE.out]
    exact .inr (Lib.BuilderAtF.put (T := 54) (e := 5) hB hb2 (bs' := bs ++ [.int .u8 z]) (by simpa using hown') (by decide))
  · exact ((hb1.alloc (by have := hb1.size; omega) _).grown hgrow (by have := hb1.size; simp; omega) (fun k hk => (hown.lt k hk).1)).setCell (p := ⟨b, 1, none⟩) hB _
set_option maxHeartbeats 2000000 in
set_option maxRecDepth 100000 in
theorem bws (B b : Nat) (l : List UInt8) (x : ByteArray) (w : World) (h : Bld B b l w) (hl : l.length + x.size ≤ 1000000000) (hBw : B ≤ w.heap.size) :
    Calls Tryz.prog 44 #[.pointer (some ⟨b, 0, none⟩), .string x] w fun e w' => e = .returned (.tuple #[.int .i64 x.size, .nilIface]) ∧ Bld B b (l ++ x.data.toList) w' ∧ Below B w w' := by
  obtain ⟨i0, hi, hz0, hz1, hz2⟩ := info_parts bld_u8
  obtain ⟨bs, hbs⟩ : ∃ bs, Lib.byteCells l = bs := ⟨_, rfl⟩
  have hbl : bs.length = l.length := by rw [← hbs, bcells_len]
  have HE : Hid (Lib.byteCells (l ++ x.data.toList) = bs ++ Lib.strCells x) := Lib.hid (by rw [bcells_app, hbs]; rfl)
  have h' : Lib.IsBuilderF 54 5 B b bs w := hbs ▸ h
  have hl' : bs.length + x.size ≤ 1000000000 := by omega
  clear h hbs hbl hl
  go_enter Tryz.func44, Tryz.ntmps44
  go_wp2_with (go_at_call 60; (with_reducible refine (ccheck B b bs w h').mono ?_))
  rintro e w1 ⟨rfl, h1, hb1⟩
  obtain ⟨hB, v, hbk, hown, hne⟩ := h1
  have c0 : w1.cell? ⟨b, 0, none⟩ = some (.pointer (some ⟨b, 0, none⟩)) := by rw [Lib.cell_of_heap hbk]; rfl
  have c1 : w1.cell? ⟨b, 1, none⟩ = some v := by rw [Lib.cell_of_heap hbk]; rfl
  go_wp2_with (at_builtin; refine Lib.wpList_append_own_stringF _ rfl _ _ 27 9 rfl B 5 i0 Tryz.underlying27 Tryz.underlying9 hi hz0 hz1 hz2 _ _ _ rfl hown x rfl ?c3 ?c4 ?c5 ?_)
  case c3 => unfold maxLen; omega
  case c4 => omega
  case c5 => have := hb1.size; omega
  intro v' w2 hown' hgrow _
  have hlt : b < w1.heap.size := by
    rcases Nat.lt_or_ge b w1.heap.size with h' | h'
    · exact h'
    · simp [Array.getElem?_eq_none h'] at hbk
  have hb2 : w2.heap[b]? = some (.cells #[.pointer (some ⟨b, 0, none⟩), v] 54 (0, 0)) := by
    rw [hgrow.block b hlt (fun e => hne e.symm)]
    exact hbk
  have d0 : w2.cell? ⟨b, 0, none⟩ = some (.pointer (some ⟨b, 0, none⟩)) := by rw [Lib.cell_of_heap hb2]; rfl
  have d1 : w2.cell? ⟨b, 1, none⟩ = some v := by rw [Lib.cell_of_heap hb2]; rfl
  have f1 : w2.frozen? ⟨b, 1, none⟩ = false := Lib.frozen_of_heap hb2 1
  obtain ⟨ao, n', cap, rfl⟩ : ∃ ao n' cap, v' = .slice ao n' cap := by
    rcases hown'.2 with ⟨hv, _⟩ | ⟨g, cap, cur, fz, hv, _⟩
    · exact ⟨_, _, _, hv⟩
    · exact ⟨_, _, _, hv⟩
  go_wp2
  go_ret2
  refine ⟨rfl, ?_, ?_⟩
  · unfold Bld
    rw [HE.out]
    exact .inr (Lib.BuilderAtF.put (T := 54) (e := 5) hB hb2 (bs' := bs ++ Lib.strCells x) (by simpa [Lib.strCells_length] using hown') (by decide))
  · exact (hb1.grown hgrow (by have := hb1.size; omega) (fun k hk => (hown.lt k hk).1)).setCell (p := ⟨b, 1, none⟩) hB _
theorem bln (B b : Nat) (x : ByteArray) (w : World) (h : Bld B b x.data.toList w) :
    Calls Tryz.prog 26 #[.pointer (some ⟨b, 0, none⟩)] w fun e w' => e = .returned (.int .i64 (x.size : Int)) ∧ w = w' := by
  refine (Tryz.Builder_Len_f B b _ w h).mono fun e w' ⟨h1, h2⟩ => ⟨?_, h2.symm⟩
  rw [h1, bcells_len]
  rfl
theorem bst (B b : Nat) (x : ByteArray) (w : World) (h : Bld B b x.data.toList w) (hB : B ≤ w.heap.size) :
    Calls Tryz.prog 27 #[.pointer (some ⟨b, 0, none⟩)] w fun e w' => e = .returned (.string x) ∧ Bld B b x.data.toList w' ∧ Below B w w' :=
  (Tryz.Builder_String_any_k B b _ w h hB).mono fun e w' ⟨h1, h2, h3, _⟩ => ⟨h1, h2, h3⟩
end Hx
end Go.Proofs.YtichboamakgabaaGreatDoor
