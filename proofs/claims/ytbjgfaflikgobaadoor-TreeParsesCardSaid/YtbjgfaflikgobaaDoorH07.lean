/-
  Texts of one seat, put together: LexQ.
-/
import Derived.Test.YtbjgfaflikgobaaDoorH06
import Derived.Deep.RegionHeld3
namespace Go.Proofs.YtbjgfaflikgobaaDoor
open Go.RowKit
namespace Hx
open Lx Tx Nmb Es
set_option linter.unusedVariables false
theorem tk_eq {a b : Tk} (h0 : a.kind = b.kind) (h1 : a.name = b.name) (h2 : a.attrs = b.attrs) (h3 : a.text = b.text) : a = b := by
  cases a; cases b
  dsimp only at h0 h1 h2 h3
  rw [h0, h1, h2, h3]
set_option maxHeartbeats 8000000 in
set_option maxRecDepth 100000 in
theorem rsame9 (A A2 : Option Addr) (n cp n2 cp2 : Nat) (l l2 : List Tk) (w : World) (hr : RdC TkC w w.heap.size A l) (hn : l.length = n) (hr2 : RdC TkC w w.heap.size A2 l2) (hn2 : l2.length = n2) (hm : n ≤ 1000000) (hm2 : n2 ≤ 1000000)
    (hat : ∀ t ∈ l, t.attrs.length ≤ 1000000) (hat2 : ∀ t ∈ l2, t.attrs.length ≤ 1000000) (q : Bool) (h : decide (l = l2) = q) :
    Calls Tryd.prog 8 #[.slice A n cp, .slice A2 n2 cp2] w fun e w' => e = .returned (.bool q) ∧ Below w.heap.size w w' := by
  have HR := Lib.hid hr
  have HN := Lib.hid hn
  have HR2 := Lib.hid hr2
  have HN2 := Lib.hid hn2
  have HM := Lib.hid hm
  have HH := Lib.hid h
  have HAT := Lib.hid hat
  have HAT2 := Lib.hid hat2
  clear hr hn hr2 hn2 h hat hat2
  by_cases hne : n = n2
  · subst hne
    have f0 : ((n : Int) != (n : Int)) = false := by simp
    go_enter Tryd.func8, Tryd.ntmps8
    go_wp2_with fail
    go_loopw [5] (fun i wr => ∃ k : Nat, k ≤ n ∧ i = .int .i64 k ∧ l.take k = l2.take k ∧ Below w.heap.size w wr) (fun i _ => n - (intOf i).toNat)
    case atStart => exact ⟨0, Nat.zero_le _, rfl, rfl, Below.refl _ _⟩
    case round =>
      obtain ⟨k, hk, rfl, hno, hbw⟩ := hrel
      have hm := HM.out
      have HBW := Lib.hid hbw
      by_cases hlt : k < n
      · have hk1 : k < l.length := by rw [HN.out]; exact hlt
        have hk2 : k < l2.length := by rw [HN2.out]; exact hlt
        obtain ⟨b0, off, rfl, hbB, hc⟩ := (HR.out.on hbw) (by omega)
        obtain ⟨cs, ⟨x, a1, p1, u, rfl, hkd, hx, hu, hle, hmx, hnl, hrd⟩, hcell⟩ := hc k hk1
        obtain ⟨b1, of1, rfl, hbB1, hc1⟩ := (HR2.out.on hbw) (by omega)
        obtain ⟨cs1, ⟨x1, a2, p2, u1, rfl, hkd1, hx1, hu1, hle1, hmx1, hnl1, hrd1⟩, hcell1⟩ := hc1 k hk2
        obtain ⟨t, ht⟩ : ∃ t, l[k]'hk1 = t := ⟨_, rfl⟩
        obtain ⟨t1, ht1⟩ : ∃ t1, l2[k]'hk2 = t1 := ⟨_, rfl⟩
        have ha1 := HAT.out _ (List.getElem_mem hk1)
        have ha2 := HAT2.out _ (List.getElem_mem hk2)
        rw [ht] at hkd hx hu hle hrd hcell ha1
        rw [ht1] at hkd1 hx1 hu1 hle1 hrd1 hcell1 ha2
        have c0 : wr.cell? ⟨b0, off + k * 4, none⟩ = some (.int .u8 (t.kind : Int)) := hcell 0 (by simp)
        have c1 : wr.cell? ⟨b0, off + k * 4 + 1, none⟩ = some (.string x) := hcell 1 (by simp)
        have c2 : wr.cell? ⟨b0, off + k * 4 + 2, none⟩ = some (.slice a1 t.attrs.length p1) := hcell 2 (by simp)
        have c3 : wr.cell? ⟨b0, off + k * 4 + 3, none⟩ = some (.string u) := hcell 3 (by simp)
        have d0 : wr.cell? ⟨b1, of1 + k * 4, none⟩ = some (.int .u8 (t1.kind : Int)) := hcell1 0 (by simp)
        have d1 : wr.cell? ⟨b1, of1 + k * 4 + 1, none⟩ = some (.string x1) := hcell1 1 (by simp)
        have d2 : wr.cell? ⟨b1, of1 + k * 4 + 2, none⟩ = some (.slice a2 t1.attrs.length p2) := hcell1 2 (by simp)
        have d3 : wr.cell? ⟨b1, of1 + k * 4 + 3, none⟩ = some (.string u1) := hcell1 3 (by simp)
        have HRD := Lib.hid hrd
        have HRD1 := Lib.hid hrd1
        have HA1 := Lib.hid ha1
        have HA2 := Lib.hid ha2
        have bk : (0 : Int) ≤ (k : Int) ∧ (k : Int) < (n : Int) := by omega
        have HNE : Hid (t ≠ t1 → false = q) := Lib.hid (by
          intro e
          rw [← HH.out, eq_comm, decide_eq_false_iff_not]
          exact ne_at hk1 hk2 (by rw [ht, ht1]; exact e))
        have HEQ : Hid (t = t1 → l.take (k + 1) = l2.take (k + 1)) := Lib.hid fun e => take_step hk1 hk2 hno (by rw [ht, ht1]; exact e)
        have hxx : (x.toList == x1.toList) = decide (t.name = t1.name) := by rw [seq_l, hx, hx1]
        have huu : (u.toList == u1.toList) = decide (t.text = t1.text) := by rw [seq_l, hu, hu1]
        clear hbw hc hc1 hcell hcell1 hno hrd hrd1 hx hu hx1 hu1 ht ht1 hkd hkd1 hle hle1 hmx hmx1 hnl hnl1 ha1 ha2 hk1 hk2
        by_cases e0 : t.kind = t1.kind
        · have g0 : ((t.kind : Int) != (t1.kind : Int)) = false := by simp; omega
          by_cases e1 : t.name = t1.name
          · rw [decide_eq_true e1] at hxx
            have g1 : (x.toList != x1.toList) = false := by rw [bne, hxx]; rfl
            by_cases e3 : t.text = t1.text
            · rw [decide_eq_true e3] at huu
              have g3 : (u.toList != u1.toList) = false := by rw [bne, huu]; rfl
              by_cases e2 : t.attrs = t1.attrs
              · have HT := Lib.hid (HEQ.out (tk_eq e0 e1 e2 e3))
                have HQ : Hid (decide (t.attrs = t1.attrs) = true) := Lib.hid (decide_eq_true e2)
                clear e0 e1 e2 e3
                go_wp2_with fail
                go_region_held3 (fun w' => w'.cell? ⟨b0, off + k * 4, none⟩ = some (.int .u8 (t.kind : Int)) ∧ w'.cell? ⟨b0, off + k * 4 + 1, none⟩ = some (.string x) ∧ w'.cell? ⟨b0, off + k * 4 + 2, none⟩ = some (.slice a1 t.attrs.length p1) ∧ w'.cell? ⟨b0, off + k * 4 + 3, none⟩ = some (.string u) ∧ w'.cell? ⟨b1, of1 + k * 4, none⟩ = some (.int .u8 (t1.kind : Int)) ∧ w'.cell? ⟨b1, of1 + k * 4 + 1, none⟩ = some (.string x1) ∧ w'.cell? ⟨b1, of1 + k * 4 + 2, none⟩ = some (.slice a2 t1.attrs.length p2) ∧ w'.cell? ⟨b1, of1 + k * 4 + 3, none⟩ = some (.string u1)) (first | go_keep | exact ⟨(hb1.cell hbB).trans c0, (hb1.cell hbB).trans c1, (hb1.cell hbB).trans c2, (hb1.cell hbB).trans c3, (hb1.cell hbB1).trans d0, (hb1.cell hbB1).trans d1, (hb1.cell hbB1).trans d2, (hb1.cell hbB1).trans d3⟩) ((go_at_call 15; (with_reducible refine (rpairs9 a1 a2 _ p1 _ p2 t.attrs t1.attrs _ (HRD.out.on (Below.refl _ _).drew) rfl (HRD1.out.on (Below.refl _ _).drew) rfl HA1.out HA2.out true HQ.out).mono ?_); rintro e w1 ⟨rfl, hb1⟩))
                go_wp2_with fail
                go_roundw
                case rel => exact ⟨k + 1, by omega, by go_num, HT.out, stp HBW.out.drew hb1⟩
                case measure => simp [intOf]; omega
              · obtain rfl := HNE.out (fun e => e2 (by rw [e]))
                have HQ : Hid (decide (t.attrs = t1.attrs) = false) := Lib.hid (decide_eq_false e2)
                clear e0 e1 e2 e3
                go_wp2_with fail
                go_region_held3 (fun w' => w'.cell? ⟨b0, off + k * 4, none⟩ = some (.int .u8 (t.kind : Int)) ∧ w'.cell? ⟨b0, off + k * 4 + 1, none⟩ = some (.string x) ∧ w'.cell? ⟨b0, off + k * 4 + 2, none⟩ = some (.slice a1 t.attrs.length p1) ∧ w'.cell? ⟨b0, off + k * 4 + 3, none⟩ = some (.string u) ∧ w'.cell? ⟨b1, of1 + k * 4, none⟩ = some (.int .u8 (t1.kind : Int)) ∧ w'.cell? ⟨b1, of1 + k * 4 + 1, none⟩ = some (.string x1) ∧ w'.cell? ⟨b1, of1 + k * 4 + 2, none⟩ = some (.slice a2 t1.attrs.length p2) ∧ w'.cell? ⟨b1, of1 + k * 4 + 3, none⟩ = some (.string u1)) (first | go_keep | exact ⟨(hb1.cell hbB).trans c0, (hb1.cell hbB).trans c1, (hb1.cell hbB).trans c2, (hb1.cell hbB).trans c3, (hb1.cell hbB1).trans d0, (hb1.cell hbB1).trans d1, (hb1.cell hbB1).trans d2, (hb1.cell hbB1).trans d3⟩) ((go_at_call 15; (with_reducible refine (rpairs9 a1 a2 _ p1 _ p2 t.attrs t1.attrs _ (HRD.out.on (Below.refl _ _).drew) rfl (HRD1.out.on (Below.refl _ _).drew) rfl HA1.out HA2.out false HQ.out).mono ?_); rintro e w1 ⟨rfl, hb1⟩))
                go_wp2_with fail
                go_ret
                exact ⟨rfl, stp HBW.out.drew hb1⟩
            · rw [decide_eq_false e3] at huu
              have g3 : (u.toList != u1.toList) = true := by rw [bne, huu]; rfl
              obtain rfl := HNE.out (fun e => e3 (by rw [e]))
              clear e0 e1 e3
              go_wp2_with fail
              go_quiet (fail)
              go_wp2_with fail
              go_ret
              exact ⟨rfl, below_drewN HBW.out _⟩
          · rw [decide_eq_false e1] at hxx
            have g1 : (x.toList != x1.toList) = true := by rw [bne, hxx]; rfl
            obtain rfl := HNE.out (fun e => e1 (by rw [e]))
            clear e0 e1
            go_wp2_with fail
            go_quiet (fail)
            go_wp2_with fail
            go_ret
            exact ⟨rfl, below_drewN HBW.out _⟩
        · have g0 : ((t.kind : Int) != (t1.kind : Int)) = true := by simp; omega
          obtain rfl := HNE.out (fun e => e0 (by rw [e]))
          clear e0
          go_wp2_with fail
          go_quiet (fail)
          go_wp2_with fail
          go_ret
          exact ⟨rfl, below_drewN HBW.out _⟩
      · obtain rfl : k = n := by omega
        obtain rfl : true = q := by
          rw [← HH.out, eq_comm, decide_eq_true_eq]
          rwa [List.take_of_length_le (by rw [HN.out]; exact Nat.le_refl _), List.take_of_length_le (by rw [HN2.out]; exact Nat.le_refl _)] at hno
        clear hno
        go_wp2_with fail
        go_ret
        exact ⟨rfl, HBW.out⟩
  · have d0 : ((n : Int) != (n2 : Int)) = true := by simp; omega
    have d1 : (n != n2) = true := by simpa using hne
    have d2 : (n == n2) = false := by simpa using hne
    obtain rfl : false = q := by
      rw [← HH.out, eq_comm, decide_eq_false_iff_not]
      rintro rfl
      exact hne (HN.out.symm.trans HN2.out)
    clear hne
    go_enter Tryd.func8, Tryd.ntmps8
    go_wp2_with fail
    go_ret
    exact ⟨rfl, Below.refl _ _⟩
end Hx
end Go.Proofs.YtbjgfaflikgobaaDoor
