/-
  The content of chunks, how far they came, or the error, and a content in chunks, are the document's, and the sizes stay, for any bytes and sizes; no condition but what the row lists.
-/
import Derived.Test.YtphakhklhicolaaDoorChkH
import Derived.Test.YtphakhklhicolaaDoorCards
import Derived.Test.YtphakhklhicolaaDoorTie
import Derived.LaidMore
import Derived.LaidSub
import Derived.MakeChecks
import Derived.Stop.Joined
import Derived.Lib.LaidTab
import Derived.SevenTiedAt
import Derived.WalkKit
import Derived.ProofKit
import Derived.OpenShut
import Derived.ShutString
import Derived.ChangeOld
import Derived.Below
namespace Go.Proofs.YtphakhklhicolaaDoor.chunkTells
open Go.ChangeShapes Go.WideShapes Go.ChangeAt Go.RowKit
open Go.ChangeMaps (open_string shut_string)
open Hx Ck
set_option linter.unusedVariables false

theorem own : ownKnob Tryd.prog.godebug = none := by kernel_rfl
theorem laidOut : laidOutB Tryd.prog = true := by kernel_rfl

set_option linter.unusedVariables false
set_option linter.unusedSimpArgs false
theorem own_empty (w : World) : (w.alloc (.cells #[] 3)).ownsRow w.heap.size 3 1 (.slice (some ⟨w.heap.size, 0, none⟩) 0 0) 0 [] :=
  ⟨by simp, .inr ⟨w.heap.size, 0, #[], rfl, Nat.le_refl _, heap_alloc_new _ _, Nat.le_refl _, Nat.zero_le _, by simp, by simp⟩⟩
set_option maxHeartbeats 8000000 in
set_option maxRecDepth 100000 in
theorem big_1 (s : ByteArray) (A : Option Addr) (n c : Nat) (w : World) (h : 3000 < s.size) (h2 : s.size < 8190) :
    Calls Tryd.prog 4 #[.string s, .slice A n c] w fun e w' => e = .returned (.bool true) ∧ Below w.heap.size w w' := by
  have d1 : decide ((3000 : Int) < (s.size : Int)) = true := decide_eq_true (by omega)
  have d2 : decide ((s.size : Int) < 8190) = true := decide_eq_true (by omega)
  go_enter Tryd.func4, Tryd.ntmps4
  go_wp2_with fail
  go_ret
  exact ⟨rfl, Below.refl _ _⟩
set_option maxHeartbeats 8000000 in
set_option maxRecDepth 100000 in
theorem big_2 (s : ByteArray) (A : Option Addr) (n c : Nat) (w : World) (h : 9000 < s.size) :
    Calls Tryd.prog 4 #[.string s, .slice A n c] w fun e w' => e = .returned (.bool true) ∧ Below w.heap.size w w' := by
  have d1 : decide ((3000 : Int) < (s.size : Int)) = true := decide_eq_true (by omega)
  have d2 : decide ((s.size : Int) < 8190) = false := decide_eq_false (by omega)
  have d3 : decide ((9000 : Int) < (s.size : Int)) = true := decide_eq_true (by omega)
  go_enter Tryd.func4, Tryd.ntmps4
  go_wp2_with fail
  go_ret
  exact ⟨rfl, Below.refl _ _⟩
set_option maxHeartbeats 8000000 in
set_option maxRecDepth 100000 in
theorem big_3 (s : ByteArray) (A : Option Addr) (n c : Nat) (w : World) (h : s.size ≤ 3000) (h2 : 9000 < n) :
    Calls Tryd.prog 4 #[.string s, .slice A n c] w fun e w' => e = .returned (.bool true) ∧ Below w.heap.size w w' := by
  have d1 : decide ((3000 : Int) < (s.size : Int)) = false := decide_eq_false (by omega)
  have d3 : decide ((9000 : Int) < (s.size : Int)) = false := decide_eq_false (by omega)
  have d4 : decide ((9000 : Int) < (n : Int)) = true := decide_eq_true (by omega)
  go_enter Tryd.func4, Tryd.ntmps4
  go_wp2_with fail
  go_ret
  exact ⟨rfl, Below.refl _ _⟩
set_option maxHeartbeats 8000000 in
set_option maxRecDepth 100000 in
theorem big_4 (s : ByteArray) (A : Option Addr) (n c : Nat) (w : World) (h : 8190 ≤ s.size) (h1 : s.size ≤ 9000) (h2 : 9000 < n) :
    Calls Tryd.prog 4 #[.string s, .slice A n c] w fun e w' => e = .returned (.bool true) ∧ Below w.heap.size w w' := by
  have d1 : decide ((3000 : Int) < (s.size : Int)) = true := decide_eq_true (by omega)
  have d2 : decide ((s.size : Int) < 8190) = false := decide_eq_false (by omega)
  have d3 : decide ((9000 : Int) < (s.size : Int)) = false := decide_eq_false (by omega)
  have d4 : decide ((9000 : Int) < (n : Int)) = true := decide_eq_true (by omega)
  go_enter Tryd.func4, Tryd.ntmps4
  go_wp2_with fail
  go_ret
  exact ⟨rfl, Below.refl _ _⟩
set_option maxHeartbeats 8000000 in
set_option maxRecDepth 100000 in
theorem main_1 (s : ByteArray) (A : Option Addr) (n c : Nat) (l : List Int) (w : World) (h : s.size ≤ 3000) (h2 : n ≤ 9000) (hr : RdG encI w w.heap.size A l) (hn : l.length = n) (hz : A = none → c = 0) (hT : Tb w) (x t : ByteArray) (u : Nat) (q : Bool) (er fr : Int) (hd : decL [] 0 s.data.toList = (x.data.toList, u, q, er)) (he : encR s.data.toList l = (t.data.toList, fr)) :
    Calls Tryd.prog 4 #[.string s, .slice A n c] w fun e w' => e = .returned (.bool true) ∧ Below w.heap.size w w' := by
  have d1 : decide ((3000 : Int) < (s.size : Int)) = false := decide_eq_false (by omega)
  have d3 : decide ((9000 : Int) < (s.size : Int)) = false := decide_eq_false (by omega)
  have d4 : decide ((9000 : Int) < (n : Int)) = false := decide_eq_false (by omega)
  obtain ⟨i0, hi, hz0, hz1, hz2⟩ := info_parts infoI8
  have HI := Lib.hid hi
  have HZ0 := Lib.hid hz0
  have HZ1 := Lib.hid hz1
  have HZ2 := Lib.hid hz2
  have HTT := Lib.hid hT
  have HR := Lib.hid hr
  have HN := Lib.hid hn
  have HZA := Lib.hid hz
  have H1 := Lib.hid fun W => decode16 s x u q er W (by omega) hd
  have H2 := Lib.hid fun W => rdecode16 s x u q er W (by omega) hd
  have H3 := Lib.hid fun (A : Option Addr) (c : Nat) (W : World) (hr : RdG encI W W.heap.size A l) (hW : Below w.heap.size w W) => encode16 A n c l s t fr W hr hn (by omega) (by omega) (HTT.out.to hW HTT.out.lt) he
  have H4 := Lib.hid fun (A : Option Addr) (c : Nat) (W : World) (hr : RdG encI W W.heap.size A l) => rencode16 A n c l s t fr W hr hn (by omega) (by omega) he
  clear hi hz0 hz1 hz2 hT hr hn hz hd he
  go_enter Tryd.func4, Tryd.ntmps4
  go_wp2_with (first
    | (go_at_call 12; (with_reducible refine (H1.out _).mono ?_); rintro e w1 ⟨rfl, hb1⟩; have HB1 := Lib.hid hb1; clear hb1)
    | (go_at_call 13; (with_reducible refine (H2.out _).mono ?_); rintro e w2 ⟨rfl, hb2⟩; have HB2 := Lib.hid (stp HB1.out hb2); clear hb2)
    | (at_builtin; refine wpList_append_rdg (fun _ => rfl) rfl (.tmp 51) (.tmp 52) 28 rfl w2.heap.size 3 i0 (.int .i64 0) 8 Tryd.underlying28 HI.out HZ0.out HZ1.out HZ2.out (by decide) rfl _ 0 [] rfl (own_empty w2) _ A n c l rfl ((HR.out.on HB2.out).on (stpA (Below.refl _ _) (.cells #[] 3))) HN.out HZA.out (by omega) (by rw [World.size_alloc]; omega) ?_
       intro v5 w5 hown5 hgr5
       have hown6 : w5.ownsRow w2.heap.size 3 1 v5 n (l.map encI) := by simpa using hown5
       obtain ⟨A5, c5, rfl⟩ := own_form hown6
       have HR5 := Lib.hid (RdG.of_own (enc := encI) hown6).1
       have hb5 : Below w2.heap.size w2 w5 := (stpA (Below.refl w2.heap.size w2) (.cells #[] 3)).grown hgr5 (by rw [World.size_alloc]; omega) (fun g hg => ((own_empty w2).lt g hg).1)
       have HQ5 := Lib.hid ((HR.out.on HB2.out).on hb5)
       have HB5 : Hid (Below w.heap.size w w5) := Lib.hid (stp HB2.out hb5)
       clear hown5 hown6 hgr5 hb5)
    | (go_at_call 10; (with_reducible refine (H3.out _ _ _ HR5.out HB5.out).mono ?_); rintro e w6 ⟨rfl, hb6⟩; have HB6 := Lib.hid (stp HB5.out hb6); have HR6 := Lib.hid (HR5.out.on hb6); have HQ6 := Lib.hid (HQ5.out.on hb6); clear hb6)
    | (go_at_call 14; (with_reducible refine (H4.out _ _ _ HQ6.out).mono ?_); rintro e w7 ⟨rfl, hb7⟩; have HB7 := Lib.hid (stp HB6.out hb7); have HR7 := Lib.hid (HR6.out.on hb7); have HQ7 := Lib.hid (HQ6.out.on hb7); clear hb7)
    | fail)
  go_loopg [18] n (fun gg i wr => ∃ k : Nat, k + gg = n ∧ i = .int .i64 k ∧ Below w7.heap.size w7 wr)
  case atStart => exact ⟨0, by omega, rfl, Below.refl _ _⟩
  case round =>
    obtain ⟨k, hk, rfl, hbw⟩ := hrel
    have HBW := Lib.hid hbw
    by_cases hlt : k < n
    · have hkl : k < l.length := by rw [HN.out]; exact hlt
      obtain ⟨b0, off, rfl, hb0, hc⟩ := HQ7.out (by omega)
      obtain ⟨b1, off1, rfl, hb1, hc1⟩ := HR7.out (by omega)
      obtain ⟨y, hy⟩ : ∃ y, l[k]'hkl = y := ⟨_, rfl⟩
      have c0 : wr.cell? ⟨b0, off + k, none⟩ = some (.int .i64 y) := by rw [← hy]; exact (hbw.cell (p := ⟨b0, off + k, none⟩) hb0).trans (hc k hkl)
      have c1 : wr.cell? ⟨b1, off1 + k, none⟩ = some (.int .i64 y) := by rw [← hy]; exact (hbw.cell (p := ⟨b1, off1 + k, none⟩) hb1).trans (hc1 k hkl)
      have bk : (0 : Int) ≤ (k : Int) ∧ (k : Int) < (n : Int) := by omega
      have dl : decide ((k : Int) < (n : Int)) = true := decide_eq_true (by omega)
      clear hc hc1 hb0 hb1 hbw hy
      go_wp2_with fail
      go_quiet (fail)
      go_wp2_with fail
      go_roundg (gk - 1)
      case rel => exact ⟨k + 1, by omega, by go_num, below_drewN HBW.out _⟩
      case measure => omega
    · obtain rfl : k = n := by omega
      have dl : decide ((k : Int) < (k : Int)) = false := decide_eq_false (by omega)
      clear hbw
      go_wp2_with fail
      go_ret
      exact ⟨rfl, stp HB7.out HBW.out⟩
set_option maxHeartbeats 8000000 in
set_option maxRecDepth 100000 in
theorem main_2 (s : ByteArray) (A : Option Addr) (n c : Nat) (l : List Int) (w : World) (h : 8190 ≤ s.size) (h1 : s.size ≤ 9000) (h2 : n ≤ 9000) (hr : RdG encI w w.heap.size A l) (hn : l.length = n) (hz : A = none → c = 0) (hT : Tb w) (x t : ByteArray) (u : Nat) (q : Bool) (er fr : Int) (hd : decL [] 0 s.data.toList = (x.data.toList, u, q, er)) (he : encR s.data.toList l = (t.data.toList, fr)) :
    Calls Tryd.prog 4 #[.string s, .slice A n c] w fun e w' => e = .returned (.bool true) ∧ Below w.heap.size w w' := by
  have d1 : decide ((3000 : Int) < (s.size : Int)) = true := decide_eq_true (by omega)
  have d2 : decide ((s.size : Int) < 8190) = false := decide_eq_false (by omega)
  have d3 : decide ((9000 : Int) < (s.size : Int)) = false := decide_eq_false (by omega)
  have d4 : decide ((9000 : Int) < (n : Int)) = false := decide_eq_false (by omega)
  obtain ⟨i0, hi, hz0, hz1, hz2⟩ := info_parts infoI8
  have HI := Lib.hid hi
  have HZ0 := Lib.hid hz0
  have HZ1 := Lib.hid hz1
  have HZ2 := Lib.hid hz2
  have HTT := Lib.hid hT
  have HR := Lib.hid hr
  have HN := Lib.hid hn
  have HZA := Lib.hid hz
  have H1 := Lib.hid fun W => decode16 s x u q er W (by omega) hd
  have H2 := Lib.hid fun W => rdecode16 s x u q er W (by omega) hd
  have H3 := Lib.hid fun (A : Option Addr) (c : Nat) (W : World) (hr : RdG encI W W.heap.size A l) (hW : Below w.heap.size w W) => encode16 A n c l s t fr W hr hn (by omega) (by omega) (HTT.out.to hW HTT.out.lt) he
  have H4 := Lib.hid fun (A : Option Addr) (c : Nat) (W : World) (hr : RdG encI W W.heap.size A l) => rencode16 A n c l s t fr W hr hn (by omega) (by omega) he
  clear hi hz0 hz1 hz2 hT hr hn hz hd he
  go_enter Tryd.func4, Tryd.ntmps4
  go_wp2_with (first
    | (go_at_call 12; (with_reducible refine (H1.out _).mono ?_); rintro e w1 ⟨rfl, hb1⟩; have HB1 := Lib.hid hb1; clear hb1)
    | (go_at_call 13; (with_reducible refine (H2.out _).mono ?_); rintro e w2 ⟨rfl, hb2⟩; have HB2 := Lib.hid (stp HB1.out hb2); clear hb2)
    | (at_builtin; refine wpList_append_rdg (fun _ => rfl) rfl (.tmp 51) (.tmp 52) 28 rfl w2.heap.size 3 i0 (.int .i64 0) 8 Tryd.underlying28 HI.out HZ0.out HZ1.out HZ2.out (by decide) rfl _ 0 [] rfl (own_empty w2) _ A n c l rfl ((HR.out.on HB2.out).on (stpA (Below.refl _ _) (.cells #[] 3))) HN.out HZA.out (by omega) (by rw [World.size_alloc]; omega) ?_
       intro v5 w5 hown5 hgr5
       have hown6 : w5.ownsRow w2.heap.size 3 1 v5 n (l.map encI) := by simpa using hown5
       obtain ⟨A5, c5, rfl⟩ := own_form hown6
       have HR5 := Lib.hid (RdG.of_own (enc := encI) hown6).1
       have hb5 : Below w2.heap.size w2 w5 := (stpA (Below.refl w2.heap.size w2) (.cells #[] 3)).grown hgr5 (by rw [World.size_alloc]; omega) (fun g hg => ((own_empty w2).lt g hg).1)
       have HQ5 := Lib.hid ((HR.out.on HB2.out).on hb5)
       have HB5 : Hid (Below w.heap.size w w5) := Lib.hid (stp HB2.out hb5)
       clear hown5 hown6 hgr5 hb5)
    | (go_at_call 10; (with_reducible refine (H3.out _ _ _ HR5.out HB5.out).mono ?_); rintro e w6 ⟨rfl, hb6⟩; have HB6 := Lib.hid (stp HB5.out hb6); have HR6 := Lib.hid (HR5.out.on hb6); have HQ6 := Lib.hid (HQ5.out.on hb6); clear hb6)
    | (go_at_call 14; (with_reducible refine (H4.out _ _ _ HQ6.out).mono ?_); rintro e w7 ⟨rfl, hb7⟩; have HB7 := Lib.hid (stp HB6.out hb7); have HR7 := Lib.hid (HR6.out.on hb7); have HQ7 := Lib.hid (HQ6.out.on hb7); clear hb7)
    | fail)
  go_loopg [18] n (fun gg i wr => ∃ k : Nat, k + gg = n ∧ i = .int .i64 k ∧ Below w7.heap.size w7 wr)
  case atStart => exact ⟨0, by omega, rfl, Below.refl _ _⟩
  case round =>
    obtain ⟨k, hk, rfl, hbw⟩ := hrel
    have HBW := Lib.hid hbw
    by_cases hlt : k < n
    · have hkl : k < l.length := by rw [HN.out]; exact hlt
      obtain ⟨b0, off, rfl, hb0, hc⟩ := HQ7.out (by omega)
      obtain ⟨b1, off1, rfl, hb1, hc1⟩ := HR7.out (by omega)
      obtain ⟨y, hy⟩ : ∃ y, l[k]'hkl = y := ⟨_, rfl⟩
      have c0 : wr.cell? ⟨b0, off + k, none⟩ = some (.int .i64 y) := by rw [← hy]; exact (hbw.cell (p := ⟨b0, off + k, none⟩) hb0).trans (hc k hkl)
      have c1 : wr.cell? ⟨b1, off1 + k, none⟩ = some (.int .i64 y) := by rw [← hy]; exact (hbw.cell (p := ⟨b1, off1 + k, none⟩) hb1).trans (hc1 k hkl)
      have bk : (0 : Int) ≤ (k : Int) ∧ (k : Int) < (n : Int) := by omega
      have dl : decide ((k : Int) < (n : Int)) = true := decide_eq_true (by omega)
      clear hc hc1 hb0 hb1 hbw hy
      go_wp2_with fail
      go_quiet (fail)
      go_wp2_with fail
      go_roundg (gk - 1)
      case rel => exact ⟨k + 1, by omega, by go_num, below_drewN HBW.out _⟩
      case measure => omega
    · obtain rfl : k = n := by omega
      have dl : decide ((k : Int) < (k : Int)) = false := decide_eq_false (by omega)
      clear hbw
      go_wp2_with fail
      go_ret
      exact ⟨rfl, stp HB7.out HBW.out⟩
theorem walk (s : ByteArray) (A : Option Addr) (n c : Nat) (l : List Int) (w : World) (w0 : s.size ≤ maxLen) (wr : RdZ w w.heap.size A l) (hn : l.length = n) (hc : n ≤ c) (hm : c ≤ maxLen) (hz : A = none → c = 0) (hT : Tb w) :
    Calls Tryd.prog 4 #[.string s, .slice A n c] w fun e w' => e = .returned (.bool true) ∧ Below w.heap.size w w' := by
  by_cases h1 : 3000 < s.size ∧ s.size < 8190
  · exact big_1 s A n c w h1.1 h1.2
  by_cases h2 : 9000 < s.size
  · exact big_2 s A n c w h2
  obtain ⟨x, u, q, er, hd⟩ : ∃ (x : ByteArray) (u : Nat) (q : Bool) (er : Int), decL [] 0 s.data.toList = (x.data.toList, u, q, er) := ⟨⟨(decL [] 0 s.data.toList).1.toArray⟩, _, _, _, rfl⟩
  obtain ⟨t, fr, he⟩ : ∃ (t : ByteArray) (fr : Int), encR s.data.toList l = (t.data.toList, fr) := ⟨⟨(encR s.data.toList l).1.toArray⟩, _, rfl⟩
  by_cases h3 : s.size ≤ 3000
  · by_cases h4 : 9000 < n
    · exact big_3 s A n c w h3 h4
    · exact main_1 s A n c l w h3 (by omega) wr hn hz hT x t u q er fr hd he
  · by_cases h4 : 9000 < n
    · exact big_4 s A n c w (by omega) (by omega) h4
    · exact main_2 s A n c l w (by omega) (by omega) (by omega) wr hn hz hT x t u q er fr hd he

def tabL : List Int := [0, 1, 56, 2, 57, 49, 28, 3, 61, 58, 42, 50, 38, 29, 17, 4, 62, 47, 59, 36, 45, 43, 51, 22, 53, 39, 33, 30, 24, 18, 12, 5, 63, 55, 48, 27, 60, 41, 37, 16, 46, 35, 44, 21, 52, 32, 23, 11, 54, 26, 40, 15, 34, 20, 31, 10, 25, 14, 19, 9, 13, 8, 7, 6]
theorem gTab : Tryd.prog.globalNamed "math/bits.deBruijn64tab" = some 2 := by kernel_rfl
theorem gTabType : (Tryd.prog.globals[2]?).map (·.type) = some 72 := by kernel_rfl
/-- What the row's list gives. -/
theorem table {W : World} (h : laidMetH Tryd.prog Rows.chunkTellsRow.laid W) : Tb W := by
  rw [MakeChecks.laidMetH_plain _ _ _ (by kernel_rfl)] at h
  have h2 := laidMet.filter (fun x => x.1 == "math/bits.deBruijn64tab") h
  have e : Rows.chunkTellsRow.laid.filter (fun x => x.1 == "math/bits.deBruijn64tab") = [("math/bits.deBruijn64tab", Lib.tabData .u8 tabL)] := by kernel_rfl
  rw [e] at h2
  exact (Lib.tabIs_of_head (rest := []) gTab gTabType Tryd.underlying72 Tryd.underlying5 (by kernel_rfl) (by kernel_rfl) h2).cell gTab 15 (by decide)
theorem door_met (os : Os) (args : Array Value) : laidMetH Tryd.prog Rows.chunkTellsRow.laid ((World.doorLaid Tryd.prog 400 os).forCall (fun _ _ => 0) ⟨#[], args, []⟩).memory :=
  laidMetH_of_parts3 (fuel := 8) (laidMet_of_run' 8 (by kernel_rfl) (by kernel_rfl)) (by kernel_rfl) (by kernel_rfl)
set_option maxRecDepth 100000 in
theorem lifted (os : Os) (started : os.Started) (H : Type) (enc : TypeId × Value → H) :
    ReturnsInHanded {} Tryd.checked os 4 .any (fun w args => (Rows.chunkTellsSpec.pre enc Tryd.prog Tryd.f4 [] false w args ∧ laidMetH Tryd.prog Rows.chunkTellsRow.laid w) ∧ sizedMet enc Tryd.prog Tryd.f4 (OpenSpec.ofChange Rows.chunkTellsSpec) false w args) (Rows.chunkTellsSpec.post enc Tryd.prog Tryd.f4 false true false false) := by
  refine returnsInHanded_of_change_and (C := Tryd.checked) (X := fun w _ => laidMetH Tryd.prog Rows.chunkTellsRow.laid w) (fun _ _ _ hh h => h.of_heap hh) own started (by kernel_rfl) Tryd.func4
    (ChangeSpec.witness_shaped (enc := enc) (C := Tryd.checked) (os := os) (X := fun w _ => laidMetH Tryd.prog Rows.chunkTellsRow.laid w) false (World.doorLaid Tryd.prog 400 os) #[.string ByteArray.empty, .slice none 0 0] 8 rfl (World.shaped_of_RefB (by kernel_rfl) (by kernel_rfl)) (by kernel_rfl) (by kernel_rfl) (by kernel_rfl) (door_met os _)) ?_
  intro W base args ds gs before hval0 hW _ hwt hL _
  have hval : ∀ (j : Nat) t v, Tryd.f4.params[j]? = some t → args[j]? = some v → Value.okWide Tryd.prog W .any base t v := hval0
  have hW' := hW
  obtain ⟨p, q, hA0, hV, rfl, hfz, hnd⟩ := hW
  have hA : DataW.TrodAll enc Tryd.prog W 0 (fun _ => true) true Tryd.f4.params.toList args.toList ds p := hA0
  rw [Tryd.params4] at hA hval
  obtain ⟨v0, vs0, d0, ds0, p0, q0, hargs, rfl, rfl, h0, r0⟩ := trodAll_cons hA
  obtain ⟨v1, vs1, d1, ds1, p1, q1, rfl, rfl, rfl, h1, r1⟩ := trodAll_cons r0
  obtain ⟨rfl, rfl, rfl⟩ := trodAll_nil r1
  obtain rfl : args = #[v0, v1] := by cases args; simp_all
  obtain ⟨rfl, rfl⟩ := trodVars_none hV
  obtain ⟨a0, rfl, rfl, rfl, w0⟩ := open_string Tryd.underlying9 (hval 0 9 v0 rfl rfl) h0
  obtain ⟨a1, len1, cap1, rfl⟩ := okWide_slice Tryd.underlying28 (hval 1 28 v1 rfl rfl)
  have k1 := h1
  have lt1 : ∀ x ∈ p1, x.block < W.heap.size := by obtain ⟨m, hm⟩ := k1; exact DataW.trod_lt m _ _ _ hm
  obtain ⟨l1, w1, n1, c1, m1, z1⟩ : ∃ l : List Int, RdZ W W.heap.size a1 l ∧ l.length = len1 ∧ len1 ≤ cap1 ∧ cap1 ≤ maxLen ∧ (a1 = none → cap1 = 0) := by
    obtain ⟨fuel, hf⟩ := h1
    rcases open_ints Tryd.underlying28 Tryd.underlying3 (by kernel_rfl) hf with ⟨hcs, _⟩ | ⟨x, l, c, zs, hcs, _, hl, hm, hz, _, hcell, hwz⟩
    · simp [Value.cells] at hcs
      obtain ⟨rfl, rfl, rfl⟩ := hcs
      exact ⟨[], RdG.nil _ _ _, rfl, Nat.le_refl _, Nat.zero_le _, fun _ => rfl⟩
    · simp [Value.cells] at hcs
      obtain ⟨rfl, rfl, rfl⟩ := hcs
      have hz' : zs.length = cap1 := by simpa using hz
      obtain ⟨l, hr, hn⟩ := rdZ_of_row hl hz' hcell hwz
      exact ⟨l, hr, hn, hl, hm, fun h => by cases h⟩
  clear hA0 hval0
  refine (walk a0 a1 len1 cap1 l1 W w0 w1 n1 c1 m1 z1 (table hL)).mono fun e W' ⟨he, bel⟩ => ?_
  subst he
  exact ⟨_, rfl, _, _, _, [], _, [], hW', trodAll_mk1 (shut_bool Tryd.underlying4 _), (trodAll_cons_mk (shut_string Tryd.underlying9 w0) (trodAll_cons_mk (Below.trod laidOut (by kernel_rfl) (of_decide_eq_true (by kernel_rfl)) k1 bel lt1) trodAll_mk0)), rfl, bel.frame _, fun h => by cases h⟩

theorem over : Rows.chunkTellsRow.holds Tryd.pinned (OpenSpec.ofChange Rows.chunkTellsSpec) :=
  OpenClaim.holds_of_wide 4 Tryd.f4 rfl rfl rfl rfl rfl rfl rfl ⟨rfl, rfl, rfl, rfl, rfl⟩ rfl rfl rfl rfl rfl (by kernel_rfl) Tryd.func4 (by kernel_rfl)
    (of_decide_eq_true (by kernel_rfl)) (by unfold Func.isWrapper; first | (rw [if_pos (by decide +kernel)]; kernel_rfl) | (rw [if_neg (by decide +kernel)]; exact ⟨rfl, rfl⟩))
    (fun os started H enc _ => lifted os started H enc)

theorem said : Rows.ChunkTellsSaid := over
theorem plain (f : FuncId) (fn : Func) (hf : Tryd.pinned.checked.prog.funcNamed "tidewaiter/tidewaiterlaw16.ChunkTells" = some f) (hfn : Tryd.pinned.checked.prog.funcs[f]? = some fn) :
    false = Tryd.pinned.checked.prog.looks [] ∧ ∀ (j : Nat) t, fn.params[j]? = some t → Tryd.pinned.checked.prog.wantsStandIn t = false := by
  obtain rfl : f = 4 := Option.some.inj ((show Tryd.prog.funcNamed "tidewaiter/tidewaiterlaw16.ChunkTells" = some 4 by kernel_rfl).symm.trans hf) |>.symm
  obtain rfl : fn = Tryd.f4 := (Option.some.inj (Tryd.func4.symm.trans hfn)).symm
  refine ⟨by kernel_rfl, fun j t ht => ?_⟩
  rw [Tryd.params4] at ht
  have hm : t ∈ [9, 28] := by simpa using Array.mem_of_getElem? ht
  have hall : ([9, 28].all fun u => !Tryd.prog.wantsStandIn u) = true := by kernel_rfl
  exact (show Tryd.prog.wantsStandIn t = false by simpa using List.all_eq_true.1 hall t hm)
theorem proved : Rows.ChunkTellsCardSaid :=
  Claim7.holds_tied_plain_at .later [] _ _ _ _ said (fun _ h => by cases h) (by kernel_rfl) (fun _ h => by cases h) chunkTells_row_tie rfl ⟨rfl, rfl⟩ (by kernel_rfl) rfl plain (by kernel_rfl)
end Go.Proofs.YtphakhklhicolaaDoor.chunkTells
