/-
  Stage 16's laws: what they share.
-/
import Derived.Test.YtphakhklhicolaaDoorChkF
import Derived.Test.YtphakhklhicolaaDoorChkG
namespace Go.Proofs.YtphakhklhicolaaDoor
open Go.RowKit
namespace Hx
open Ck
set_option linter.unusedVariables false
set_option linter.unusedSimpArgs false
theorem infoI8 : (Tryd.prog.info? 3).map (fun i => (i.zero, i.size, i.bytes)) = some (some (.int .i64 0), 1, 8) := by kernel_rfl
theorem dec_run (l : List UInt8) : decL [] 0 l = run ⟨2, 0, 0, []⟩ 0 l := (run_dec _ l [] 0 (Nat.le_refl _)).symm
abbrev RdZ := @RdG Int encI
theorem rdZ_of_row {w : World} {x : Addr} {len cap : Nat} {vs : List Int} (hl : len ≤ cap) (hz : vs.length = cap)
    (hcell : ∀ i, i < vs.length → w.cell? (x.add i) = some (.int .i64 (vs.getD i 0))) (_hwz : ∀ n ∈ vs, (Lit.int .i64 n).wf = true) :
    ∃ l : List Int, RdZ w w.heap.size (some x) l ∧ l.length = len := by
  refine ⟨vs.take len, fun hp => ?_, by simp; omega⟩
  have hp' : 0 < len := by
    simp at hp
    omega
  obtain ⟨b, off, spot⟩ := x
  have hspot : spot = none := by simpa [Addr.add] using World.cell?_spot (hcell 0 (by omega))
  subst hspot
  refine ⟨b, off, rfl, ?_, fun j hj => ?_⟩
  · have := hcell 0 (by omega)
    rw [addr_plain] at this
    exact World.block_lt_of_cell? (a := ⟨b, off + 0, none⟩) w this
  · have hj' : j < len := by
      simp at hj
      omega
    have hjz : j < vs.length := by omega
    have := hcell j hjz
    rw [addr_plain] at this
    rw [this]
    simp [List.getD, hjz, encI]

set_option maxHeartbeats 8000000 in
set_option maxRecDepth 100000 in
theorem is_yes (w : World) (s t : ByteArray) (u : Nat) (hs : s.size ≤ 1000000) (h : decL [] 0 s.data.toList = (t.data.toList, u, true, 0)) :
    Calls Tryd.prog 9 #[.string s, .string t, .int .i64 u] w fun e w' => e = .returned (.bool true) ∧ Below w.heap.size w w' := by
  have HD := Lib.hid (decode16 s t u true 0 w hs h)
  clear h
  go_enter Tryd.func9, Tryd.ntmps9
  go_wp2_with (first
    | (go_at_call 12; (with_reducible refine (HD.out).mono ?_); rintro e1 w1 ⟨rfl, hb1⟩; have HB1 := Lib.hid hb1; clear hb1)
    | fail)
  go_ret
  exact ⟨rfl, HB1.out⟩

set_option maxHeartbeats 8000000 in
set_option maxRecDepth 100000 in
theorem begun_yes (w : World) (s : ByteArray) (hs : s.size ≤ 1000000) (h : decL [] 0 s.data.toList = ([], 0, false, 0)) :
    Calls Tryd.prog 8 #[.string s] w fun e w' => e = .returned (.bool true) ∧ Below w.heap.size w w' := by
  have HD := Lib.hid (decode16 s ⟨#[]⟩ 0 false 0 w hs h)
  clear h
  go_enter Tryd.func8, Tryd.ntmps8
  go_wp2_with (first
    | (go_at_call 12; (with_reducible refine (HD.out).mono ?_); rintro e1 w1 ⟨rfl, hb1⟩; have HB1 := Lib.hid hb1; clear hb1)
    | fail)
  go_ret
  exact ⟨rfl, HB1.out⟩

set_option maxHeartbeats 8000000 in
set_option maxRecDepth 100000 in
theorem odd_yes (w : World) (s : ByteArray) (er : Int) (hs : s.size ≤ 1000000) (h : decL [] 0 s.data.toList = ([], 0, false, er)) :
    Calls Tryd.prog 7 #[.string s, .int .i64 er] w fun e w' => e = .returned (.bool true) ∧ Below w.heap.size w w' := by
  have HD := Lib.hid (decode16 s ⟨#[]⟩ 0 false er w hs h)
  clear h
  go_enter Tryd.func7, Tryd.ntmps7
  go_wp2_with (first
    | (go_at_call 12; (with_reducible refine (HD.out).mono ?_); rintro e1 w1 ⟨rfl, hb1⟩; have HB1 := Lib.hid hb1; clear hb1)
    | fail)
  go_ret
  exact ⟨rfl, HB1.out⟩

set_option maxHeartbeats 8000000 in
set_option maxRecDepth 100000 in
theorem alive16 (w : World) : Calls Tryd.prog 11 #[] w fun e w' => e = .returned (.bool true) ∧ Below w.heap.size w w' := by
  have H1 : Hid (∀ W, Calls Tryd.prog 9 #[.string ⟨#[51, 13, 10, 97, 98, 99, 13, 10, 65, 13, 10, 48, 49, 50, 51, 52, 53, 54, 55, 56, 57, 13, 10, 48, 13, 10, 13, 10, 120]⟩, .string ⟨#[97, 98, 99, 48, 49, 50, 51, 52, 53, 54, 55, 56, 57]⟩, .int .i64 28] W fun e w' => e = .returned (.bool true) ∧ Below W.heap.size W w') := Lib.hid fun W => is_yes W _ _ 28 (by decide) (by rw [dec_run]; decide +kernel)
  have H2 := Lib.hid fun W => begun_yes W ⟨#[51, 13, 10, 97, 98]⟩ (by decide) (by rw [dec_run]; decide +kernel)
  go_enter Tryd.func11, Tryd.ntmps11
  go_wp2_with (first
    | (go_at_call 9; (with_reducible refine (H1.out _).mono ?_); rintro e1 w1 ⟨rfl, hb1⟩; have HB1 := Lib.hid hb1; clear hb1)
    | (go_at_call 8; (with_reducible refine (H2.out _).mono ?_); rintro e2 w2 ⟨rfl, hb2⟩; have HB2 := Lib.hid (stp HB1.out hb2); clear hb2)
    | fail)
  go_ret
  exact ⟨rfl, HB2.out⟩

end Hx
end Go.Proofs.YtphakhklhicolaaDoor
