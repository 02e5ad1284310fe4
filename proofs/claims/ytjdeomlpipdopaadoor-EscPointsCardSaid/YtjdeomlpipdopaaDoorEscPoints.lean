/-
  Just the code points that may be are told by references of their numbers, decimal and hexadecimal, with digits of any size; for every number, and no condition besides.
-/
import Derived.Test.YtjdeomlpipdopaaDoorEscW
import Derived.Test.YtjdeomlpipdopaaDoorCards
import Derived.Test.YtjdeomlpipdopaaDoorTie
import Derived.LaidMore
import Derived.LaidSub
import Derived.MakeChecks
import Derived.Stop.Joined
import Derived.Lib.LaidTab
import Derived.SevenTiedAt
import Derived.Stop.LaidErr
import Derived.Test.YtjdeomlpipdopaaDoorEscP
import Derived.Test.YtjdeomlpipdopaaDoorNumV
import Derived.Test.YtjdeomlpipdopaaDoorTextV
import Derived.BigQuiet
import Derived.Deep.QuietTactic
import Derived.Lib.ConvBytes
import Derived.Lib.BufferMore
import Derived.RegionTactic
import Derived.ChangeAlike
import Derived.Deep.RegionHeld3
import Derived.WalkKit
import Derived.ProofKit
import Derived.OpenShut
import Derived.ShutString
import Derived.ChangeOld
import Derived.Below
namespace Go.Proofs.YtjdeomlpipdopaaDoor.escPoints
open Go.ChangeShapes Go.WideShapes Go.ChangeAt Go.RowKit
open Go.ChangeMaps (open_string shut_string)
open Hx Tx Nmb Es
set_option linter.unusedVariables false

theorem own : ownKnob Tryd.prog.godebug = none := by kernel_rfl
theorem laidOut : laidOutB Tryd.prog = true := by kernel_rfl

set_option maxHeartbeats 2000000 in
set_option maxRecDepth 100000 in
theorem walkOut (n e : Int) (t : ByteArray) (q : Bool) (w : World) (hn : -9223372036854775808 ≤ n ∧ n ≤ 9223372036854775807) (hw : writeR n = (t, e)) (h : e ≠ 0 ∨ (e = 0 ∧ (n < 1 ∨ 16777216 ≤ n))) (hT : Tb w := by first | assumption | exact Tb.to (by assumption) (by assumption)) (hE : Ev w := by first | assumption | exact Ev.to (by assumption) (by assumption)) :
    Calls Tryd.prog 7 #[.int .i64 n, .bool q] w fun e w' => e = .returned (.bool true) ∧ Below w.heap.size w w' := by
  have HN := Lib.hid hn
  have HW := Lib.hid hw
  clear hw
  rcases h with h | ⟨rfl, h | h⟩
  · have q0 : (e == 0) = false := by simpa using h
    have q1 : (e != 0) = true := by simpa using h
    clear h hn
    go_enter Tryd.func7, Tryd.ntmps7
    go_wp2_with (first
      | (go_at_call 11; (with_reducible refine (alive8 w).mono ?_); rintro e1 w1 ⟨rfl, hb1⟩; have hB1 := hb1)
      | (go_at_call 17; (with_reducible refine (write6 n w1 HN.out t e HW.out).mono ?_); rintro e1 w2 ⟨rfl, hb2⟩; have hB2 := stp hB1 hb2)
      | fail)
    go_ret
    exact ⟨rfl, hB2⟩
  · have d0 : decide (n < 1) = true := by simpa using h
    go_enter Tryd.func7, Tryd.ntmps7
    go_wp2_with (first
      | (go_at_call 11; (with_reducible refine (alive8 w).mono ?_); rintro e1 w1 ⟨rfl, hb1⟩; have hB1 := hb1)
      | (go_at_call 17; (with_reducible refine (write6 n w1 HN.out t 0 HW.out).mono ?_); rintro e1 w2 ⟨rfl, hb2⟩; have hB2 := stp hB1 hb2)
      | fail)
    go_ret
    exact ⟨rfl, hB2⟩
  · have d0 : decide (n < 1) = false := by simp; omega
    have d1 : decide (16777216 ≤ n) = true := by simpa using h
    have f0 : ¬ n < 1 := by omega
    go_enter Tryd.func7, Tryd.ntmps7
    go_wp2_with (first
      | (go_at_call 11; (with_reducible refine (alive8 w).mono ?_); rintro e1 w1 ⟨rfl, hb1⟩; have hB1 := hb1)
      | (go_at_call 17; (with_reducible refine (write6 n w1 HN.out t 0 HW.out).mono ?_); rintro e1 w2 ⟨rfl, hb2⟩; have hB2 := stp hB1 hb2)
      | fail)
    go_ret
    exact ⟨rfl, hB2⟩
theorem strip_cons (c : UInt8) (r : List UInt8) (h : c.toNat = 48) : strip (c :: r) = strip r := by
  unfold strip
  rw [List.dropWhile_cons, decide_eq_true h]
  rfl
theorem strip_stop (c : UInt8) (r : List UInt8) (h : c.toNat ≠ 48) : strip (c :: r) = c :: r := by
  unfold strip
  rw [List.dropWhile_cons, decide_eq_false h]
  rfl
/-- A row of bytes that came of a text. -/
def Rw (g : Nat) (l : List UInt8) (w : World) : Prop := ∃ (cs : Array Value) (fr : Nat × Nat), w.heap[g]? = some (.cells cs 5 fr) ∧ l.length ≤ fr.1 ∧ (∀ (j : Nat) (c : UInt8), l[j]? = some c → cs[j]? = some (Value.int .u8 c.toNat))
theorem Rw.lt {g : Nat} {l : List UInt8} {w : World} (h : Rw g l w) : g < w.heap.size := by
  obtain ⟨cs, fr, h1, _⟩ := h
  exact lt_of_block h1
theorem Rw.cell {g k : Nat} {l : List UInt8} {c : UInt8} {w : World} (h : Rw g l w) (hc : l[k]? = some c) : w.cell? ⟨g, k, none⟩ = some (.int .u8 c.toNat) := by
  obtain ⟨cs, fr, h1, _, h3⟩ := h
  rw [cell_of_row w g k cs _ fr h1]
  exact h3 k c hc
theorem Rw.free {g k : Nat} {l : List UInt8} {w : World} (h : Rw g l w) (hk : k < l.length) : w.frozen? ⟨g, k, none⟩ = false := by
  obtain ⟨cs, fr, h1, h2, _⟩ := h
  obtain ⟨lo, hi⟩ := fr
  simp only at h2
  simp [World.frozen?, h1]
  omega
theorem Rw.rd {g : Nat} {l : List UInt8} {w : World} (h : Rw g l w) : RdA w w.heap.size (some ⟨g, 0, none⟩) l := by
  intro hp
  refine ⟨g, 0, rfl, h.lt, fun j hj => ?_⟩
  rw [Nat.zero_add]
  exact h.cell (List.getElem?_eq_getElem hj)
theorem Rw.put {g k : Nat} {l : List UInt8} {x : UInt8} {w : World} (h : Rw g l w) : Rw g (l.set k x) (w.setCell ⟨g, k, none⟩ (.int .u8 x.toNat)) := by
  obtain ⟨cs, fr, h1, h2, h3⟩ := h
  refine ⟨_, fr, Lib.heap_setCell_same h1 _, by rw [List.length_set]; exact h2, fun j c hj => ?_⟩
  rw [List.getElem?_set] at hj
  rw [Array.getElem?_setIfInBounds]
  by_cases hkj : k = j
  · subst hkj
    rw [if_pos rfl] at hj ⊢
    by_cases hk : k < l.length
    · rw [if_pos hk] at hj
      have hs := h3 k _ (List.getElem?_eq_getElem hk)
      have : k < cs.size := (Array.getElem?_eq_some_iff.1 hs).1
      rw [if_pos this]
      cases hj
      rfl
    · rw [if_neg hk] at hj
      cases hj
  · rw [if_neg hkj] at hj ⊢
    exact h3 j c hj
theorem str_row (l : List UInt8) (s : ByteArray) (hs : s.data.toList = l) (w : World) : ∃ C WB, (convert 9 22 (.string s)).run Tryd.prog w = .ok (.slice (some ⟨w.heap.size, 0, none⟩) s.size C) WB ∧ Rw w.heap.size l WB ∧ Below w.heap.size w WB := by
  have h := Lib.run_convert_string_bytes (P := Tryd.prog) w 9 22 5 s Tryd.underlying9 Tryd.underlying22 Tryd.underlying5
  refine ⟨_, _, h, ⟨_, _, Lib.bytesWorld_at_new w _ s, ?_, fun j c hj => ?_⟩, ⟨rfl, rfl, rfl, by rw [Lib.bytesWorld_size]; omega, fun k hk => Lib.bytesWorld_at_old w _ _ k hk⟩⟩
  · subst hs
    show _ ≤ (Lib.bytesCells w _ s).size
    simp [Lib.bytesCells]
  · subst hs
    obtain ⟨hk, e⟩ := List.getElem?_eq_some_iff.1 hj
    have hk2 : j < s.data.size := by simpa using hk
    unfold Lib.bytesCells
    rw [Array.getElem?_append_left (by simpa using hk2), Array.getElem?_map]
    have : s.data[j]? = some c := by rw [← Array.getElem?_toList]; exact hj
    rw [this]
    rfl
/-- The digits, so many of them turned. -/
def upk (q : Bool) (l : List UInt8) (k : Nat) : List UInt8 := (l.take k).map (upc q) ++ l.drop k
theorem upk_at {q : Bool} {l : List UInt8} {k : Nat} {c : UInt8} (h : l[k]? = some c) : (upk q l k)[k]? = some c ∧ upk q l (k + 1) = (upk q l k).set k (upc q c) := by
  obtain ⟨hk, e⟩ := List.getElem?_eq_some_iff.1 h
  have hl : ((l.take k).map (upc q)).length = k := by rw [List.length_map, List.length_take]; omega
  have hd := drop_step h
  have e1 : upk q l k = (l.take k).map (upc q) ++ c :: l.drop (k + 1) := by unfold upk; rw [hd]
  refine ⟨?_, ?_⟩
  · rw [e1, List.getElem?_append_right (by omega), hl]
    simp
  · rw [e1, List.set_append_right _ _ (by omega), hl, Nat.sub_self, List.set_cons_zero]
    unfold upk
    rw [take_next8 h, List.map_append]
    simp
theorem upk_len (q : Bool) (l : List UInt8) (k : Nat) : (upk q l k).length = l.length := by
  unfold upk
  rw [List.length_append, List.length_map, List.length_take, List.length_drop]
  omega
theorem upk_same {l : List UInt8} {k : Nat} {q : Bool} {c : UInt8} (h : l[k]? = some c) (hu : upc q c = c) : upk q l (k + 1) = upk q l k := by
  obtain ⟨h1, h2⟩ := upk_at (q := q) h
  obtain ⟨hk, e⟩ := List.getElem?_eq_some_iff.1 h1
  rw [h2, hu]
  conv => lhs; rw [← e]
  all_goals simp
theorem put_three (c2 c1 c0 : UInt8) (w : World) : Calls Tryd.prog 18 #[.slice (some ⟨w.heap.size, 0, none⟩) 3 3] (w.alloc (.cells #[.int .u8 c2.toNat, .int .u8 c1.toNat, .int .u8 c0.toNat] 5)) fun e w' => e = .returned (.string ⟨(putL [c2, c1, c0]).toArray⟩) ∧ Below w.heap.size w w' :=
  (put_any (some ⟨w.heap.size, 0, none⟩) 3 3 [c2, c1, c0] (w.alloc (.cells #[.int .u8 c2.toNat, .int .u8 c1.toNat, .int .u8 c0.toNat] 5)) (RdA.newS w 5 [c2, c1, c0]) rfl (by decide)).mono fun _ _ ⟨h1, h2⟩ => ⟨h1, stp (stpA (Below.refl _ _) _) h2⟩
theorem of_one (n : Nat) (x : ByteArray) (v : Int) (h : ofR [(n : Int)] = (x, v)) (w : World) : Calls Tryd.prog 19 #[.slice (some ⟨w.heap.size, 0, none⟩) 1 1] (w.alloc (.cells #[.int .i64 n] 3)) fun e w' => e = .returned (.tuple #[.string x, .int .i64 v]) ∧ Below w.heap.size w w' :=
  (of5 (some ⟨w.heap.size, 0, none⟩) 1 1 [(n : Int)] (w.alloc (.cells #[.int .i64 n] 3)) (RdG.newS (enc := encZ) w 3 [(n : Int)]) rfl (by decide) x v h).mono fun _ _ ⟨h1, h2⟩ => ⟨h1, stp (stpA (Below.refl _ _) _) h2⟩
set_option maxHeartbeats 8000000 in
set_option maxRecDepth 100000 in
theorem walkIn (n : Nat) (q m : Bool) (t x xt : ByteArray) (v : Int) (c2 c1 c0 : UInt8) (w : World) (h1 : 1 ≤ n) (h2 : n < 16777216) (hc2 : n / 65536 = c2.toNat) (hc1 : n / 256 % 256 = c1.toNat) (hc0 : n % 256 = c0.toNat) (hw : writeR n = (t, 0)) (ht : t = ⟨(dg n).toArray⟩) (hof : ofR [(n : Int)] = (x, v)) (hmy : may (n : Int) = m) (hT : Tb w := by first | assumption | exact Tb.to (by assumption) (by assumption)) (hE : Ev w := by first | assumption | exact Ev.to (by assumption) (by assumption)) :
    Calls Tryd.prog 7 #[.int .i64 n, .bool q] w fun e w' => e = .returned (.bool true) ∧ Below w.heap.size w w' := by
  have hn3 : n = 65536 * c2.toNat + 256 * c1.toNat + c0.toNat := by omega
  obtain ⟨D, hD⟩ : ∃ D, strip (putL [c2, c1, c0]) = D := ⟨_, rfl⟩
  have hnx := num_hex q c2 c1 c0 n hn3 h1
  have hok := hex_ok q [c2, c1, c0]
  rw [hD] at hnx hok
  have hDl : D.length ≤ 6 := by
    rw [← hD]
    have h := strip_len (putL [c2, c1, c0])
    rw [putL_length] at h
    exact h
  have HN : Hid (-9223372036854775808 ≤ (n : Int) ∧ (n : Int) ≤ 9223372036854775807) := ⟨by omega, by omega⟩
  have HW := Lib.hid hw
  have d0 : decide ((n : Int) < 1) = false := by simp; omega
  have d1 : decide ((16777216 : Int) ≤ (n : Int)) = false := by simp; omega
  have f0 : ¬ n < 1 := by omega
  have f1 : ¬ 16777216 ≤ n := by omega
  obtain ⟨q2, hq2⟩ : ∃ q2 : Nat, n / 65536 = q2 := ⟨_, rfl⟩
  obtain ⟨q1, hq1⟩ : ∃ q1 : Nat, n / 256 = q1 := ⟨_, rfl⟩
  have e2 : (n : Int) / 65536 = (q2 : Int) := by omega
  have e1 : (n : Int) / 256 = (q1 : Int) := by omega
  have wu8 : ∀ k : Int, IntKind.u8.wrap k = k % 256 := fun k => IntKind.wrap_u8 k
  have g2 : IntKind.u8.wrap (q2 : Int) = (c2.toNat : Int) := by rw [wu8]; omega
  have g1 : IntKind.u8.wrap (q1 : Int) = (c1.toNat : Int) := by rw [wu8]; omega
  have g0 : IntKind.u8.wrap (n : Int) = (c0.toNat : Int) := by rw [wu8]; omega
  have m2 : (q2 : Int) % 256 = (c2.toNat : Int) := by omega
  have m1 : (q1 : Int) % 256 = (c1.toNat : Int) := by omega
  have m0 : (n : Int) % 256 = (c0.toNat : Int) := by omega
  have htz : t.size ≤ 20 := by
    rw [ht, size_mk5]
    exact Nat.le_trans (dg_le (by omega)) (by decide)
  obtain ⟨o1, ho1⟩ : ∃ o1, (⟨#[38, 35]⟩ : ByteArray) ++ t = o1 := ⟨_, rfl⟩
  obtain ⟨o2, ho2⟩ : ∃ o2, o1 ++ (⟨#[59]⟩ : ByteArray) = o2 := ⟨_, rfl⟩
  have zz : ∀ a b : ByteArray, (a ++ b).size = a.size + b.size := fun a b => by rw [← ba_len5, ← ba_len5, ← ba_len5]; simp
  have ho1z : o1.size = 2 + t.size := by rw [← ho1, zz]; rfl
  have ho2z : o2.size ≤ 30 := by rw [← ho2, zz, ho1z]; show 2 + t.size + 1 ≤ 30; omega
  have hs1 : ∀ W, (Op.stringOp .add ⟨#[38, 35]⟩ t).run Tryd.prog W = .ok (.string o1) W := fun W => by rw [run_string_add_sum W ⟨#[38, 35]⟩ t (by show 2 + t.size ≤ _; omega), ho1]
  have hs2 : ∀ W, (Op.stringOp .add o1 ⟨#[59]⟩).run Tryd.prog W = .ok (.string o2) W := fun W => by rw [run_string_add_sum W o1 ⟨#[59]⟩ (by show o1.size + 1 ≤ _; omega), ho2]
  have ho2l : o2 = ⟨(38 :: 35 :: (dg n ++ [59])).toArray⟩ := by
    rw [ba_eq5 o2, ← ho2, ← ho1, ht]
    simp
  have hg1 := get_num (dg n) n o2 ho2l (dg_ok n) (Nat.le_trans (dg_le (by omega)) (by decide)) (dg_59 n) (num_dg n h2)
  obtain ⟨U, hU⟩ : ∃ U, D.map (upc q) = U := ⟨_, rfl⟩
  obtain ⟨ub, hub⟩ : ∃ ub : ByteArray, ⟨U.toArray⟩ = ub := ⟨_, rfl⟩
  have hUl : U.length = D.length := by rw [← hU, List.length_map]
  have hubz : ub.size ≤ 6 := by rw [← hub, size_mk5]; omega
  obtain ⟨p1, hp1⟩ : ∃ p1, (⟨#[38, 35, 120]⟩ : ByteArray) ++ ub = p1 := ⟨_, rfl⟩
  obtain ⟨p2, hp2⟩ : ∃ p2, p1 ++ (⟨#[59]⟩ : ByteArray) = p2 := ⟨_, rfl⟩
  have hp1z : p1.size = 3 + ub.size := by rw [← hp1, zz]; rfl
  have hp2z : p2.size ≤ 30 := by rw [← hp2, zz, hp1z]; show 3 + ub.size + 1 ≤ 30; omega
  have hs3 : ∀ W, (Op.stringOp .add ⟨#[38, 35, 120]⟩ ub).run Tryd.prog W = .ok (.string p1) W := fun W => by rw [run_string_add_sum W ⟨#[38, 35, 120]⟩ ub (by show 3 + ub.size ≤ _; omega), hp1]
  have hs4 : ∀ W, (Op.stringOp .add p1 ⟨#[59]⟩).run Tryd.prog W = .ok (.string p2) W := fun W => by rw [run_string_add_sum W p1 ⟨#[59]⟩ (by show p1.size + 1 ≤ _; omega), hp2]
  have hp2l : p2 = ⟨(38 :: 35 :: ((120 :: U) ++ [59])).toArray⟩ := by
    rw [ba_eq5 p2, ← hp2, ← hp1, ← hub]
    simp
  rw [hU] at hnx hok
  have hg2 := get_num (120 :: U) n p2 hp2l (fun c hc => ⟨(hok c hc).1, (hok c hc).2.1⟩) (by simp only [List.length_cons]; omega) (fun hm => (hok 59 hm).2.2 rfl) hnx
  have HOF := Lib.hid hof
  have HOZ : Hid (o2.size ≤ 1000000) := Lib.hid (by omega)
  have HPZ : Hid (p2.size ≤ 1000000) := Lib.hid (by omega)
  have HG1 := Lib.hid hg1
  have HG2 := Lib.hid hg2
  have HD := Lib.hid hD
  have HDL := Lib.hid hDl
  have HU := Lib.hid hU
  have HUB := Lib.hid hub
  have HMY := Lib.hid hmy
  have HUL := Lib.hid hUl
  clear hn3 hD hnx hok hDl hw hq2 hq1 hc2 hc1 hc0 htz ho1 ho2 ho1z ho2z ho2l hg1 hU hub hUl hubz hp1 hp2 hp1z hp2z hp2l hg2 hof zz wu8 ht hmy
  go_enter Tryd.func7, Tryd.ntmps7
  go_wp2_with (first
    | (go_at_call 11; (with_reducible refine (alive8 w).mono ?_); rintro e w1 ⟨rfl, hb1⟩; have hB1 := hb1)
    | (go_at_call 17; (with_reducible refine (write6 n w1 HN.out t 0 HW.out).mono ?_); rintro e w2 ⟨rfl, hb2⟩; have hB2 := stp hB1 hb2)
    | (go_at_call 18; (with_reducible refine (put_three c2 c1 c0 w2).mono ?_); rintro e1 w3 ⟨rfl, hb3⟩; have hB3 := stp hB2 hb3)
    | fail)
  have HW3 := Lib.hid hB3
  obtain ⟨dd, hdd⟩ : ∃ dd : ByteArray, ⟨(putL [c2, c1, c0]).toArray⟩ = dd := ⟨_, rfl⟩
  rw [hdd]
  have HDD : Hid (strip dd.data.toList = D ∧ dd.size ≤ 6) := by
    rw [← hdd]
    exact ⟨HD.out, by rw [size_mk5, putL_length]; exact Nat.le_refl 6⟩
  clear hdd hb1 hb2 hb3 hB1 hB2 hB3
  go_loopg [8] 6 (fun gg y wr => ∃ u : ByteArray, u.size ≤ gg ∧ y = .string u ∧ w3 = wr ∧ strip u.data.toList = D)
  case atStart => exact ⟨dd, HDD.out.2, rfl, rfl, HDD.out.1⟩
  case round =>
    obtain ⟨u, hgk, rfl, rfl, hsd⟩ := hrel
    have HSD := Lib.hid hsd
    clear hsd
    by_cases hu0 : u.size = 0
    · exfalso
      have hun : u.data.toList = [] := List.eq_nil_of_length_eq_zero (by rw [ba_len5]; exact hu0)
      have h := HSD.out
      rw [hun] at h
      have h3 := (hexV_digits q c2 c1 c0 n (by omega) h1).2
      rw [HD.out, ← h] at h3
      exact h3 rfl
    · have ex2 : (u.toList == []) = false := by
        rw [lit_eq]
        refine decide_eq_false fun e => ?_
        rw [← ba_len5, e] at hu0
        exact hu0 rfl
      have ex1 : (u.toList == (⟨#[]⟩ : ByteArray).toList) = false := by rw [← ex2]; congr 1; rw [ByteArray.toList_eq]
      have ex3 : (u.toList != []) = true := by rw [bne, ex2]; rfl
      obtain ⟨c, hc, hat⟩ := byte_at8 u 0 (by omega)
      have h0lt : 0 < u.size := by omega
      have b0 : (0 : Int) < (u.size : Int) := by omega
      have b9 : (1 : Int) ≤ (u.size : Int) := by omega
      have b8 : 1 ≤ u.size := by omega
      obtain ⟨r, hr⟩ : ∃ r, u.data.toList = c :: r := by
        cases hl : u.data.toList with
        | nil => rw [hl] at hc; cases hc
        | cons a r => rw [hl] at hc; cases hc; exact ⟨r, rfl⟩
      by_cases h48 : c.toNat = 48
      · have dc : ((c.toNat : Int) == 48) = true := by simp; omega
        obtain ⟨u2, hu2⟩ : ∃ u2, u.extract 1 u.size = u2 := ⟨_, rfl⟩
        have hu2l : u2.data.toList = r := by rw [← hu2, extract_drop, hr]; rfl
        have hu2s : u2.size + 1 = u.size := by rw [← ba_len5, ← ba_len5, hu2l, hr]; rfl
        have HS2 : Hid (strip u2.data.toList = D) := by
          show _ = _
          have h := HSD.out
          rw [hr, strip_cons c r h48] at h
          rw [hu2l, h]
        have HZ2 := Lib.hid hu2s
        clear h48 hc hr hu2l hu2s
        go_wp2_with fail
        go_roundg (gk - 1)
        case rel => exact ⟨u2, by have := HZ2.out; omega, rfl, rfl, HS2.out⟩
        case measure => omega
      · have dc : ((c.toNat : Int) == 48) = false := by simp; omega
        have huD : u.data.toList = D := by
          have h := HSD.out
          rw [hr, strip_stop c r h48] at h
          rw [hr, h]
        obtain ⟨C, WB, hconv, hrow, hb4⟩ := str_row D u huD w3
        have huz : u.size = D.length := by rw [← ba_len5, huD]
        have HUZ := Lib.hid huz
        have HROW := Lib.hid hrow
        have HB4 := Lib.hid hb4
        clear h48 hc hr huD hrow hb4 huz
        go_wp2_with fail
        have hg6 : u.size ≤ 6 := by have := HDL.out; have := HUZ.out; omega
        obtain ⟨g, hg⟩ : ∃ g, w3.heap.size = g := ⟨_, rfl⟩
        rw [hg]
        have HB4g : Hid (Below g w3 WB) := Lib.hid (by rw [← hg]; exact HB4.out)
        have HRWg : Hid (Rw g (upk q D 0) WB) := Lib.hid (by rw [← hg]; exact HROW.out)
        have HGW := Lib.hid hg
        clear hg hconv
        go_loopg [10] u.size (fun gg i wr => ∃ k : Nat, k + gg = u.size ∧ i = .int .i64 k ∧ Rw g (upk q D k) wr ∧ Below g w3 wr)
        case atStart => exact ⟨0, by omega, rfl, HRWg.out, HB4g.out⟩
        case round =>
          obtain ⟨k, hk, rfl, hrw, hbw⟩ := hrel
          have HRW := Lib.hid hrw
          have HBW := Lib.hid hbw
          have hzz := HUZ.out
          by_cases hlt : k < u.size
          · obtain ⟨c, hc⟩ : ∃ c, D[k]? = some c := ⟨_, List.getElem?_eq_getElem (by omega)⟩
            have hat2 := upk_at (q := q) hc
            have hcell := hrw.cell hat2.1
            have hfree := hrw.free (k := k) (by rw [upk_len]; omega)
            have bk : (0 : Int) ≤ (k : Int) ∧ (k : Int) < (u.size : Int) := by omega
            have hcl := c.toNat_lt
            have HC := Lib.hid hc
            have HAT := Lib.hid hat2
            clear hc hat2 hrw hbw
            cases q
            · have HNX : Hid (upk false D (k + 1) = upk false D k) := Lib.hid (upk_same HC.out (by unfold upc; simp))
              go_wp2_with fail
              go_roundg (gk - 1)
              case rel => exact ⟨k + 1, by omega, by go_num, by rw [HNX.out]; exact HRW.out, HBW.out⟩
              case measure => omega
            · by_cases h97 : 97 ≤ c.toNat
              · have dd : decide ((97 : Int) ≤ (c.toNat : Int)) = true := by simp; omega
                obtain ⟨y, hy⟩ : ∃ y, upc true c = y := ⟨_, rfl⟩
                have hyn : (y.toNat : Int) = (c.toNat : Int) - 32 := by
                  rw [← hy]
                  unfold upc
                  rw [if_pos ⟨rfl, h97⟩, UInt8.toNat_sub_of_le _ _ (by rw [UInt8.le_iff_toNat_le]; exact Nat.le_trans (by decide) h97)]
                  show ((c.toNat - 32 : Nat) : Int) = _
                  omega
                have gy : IntKind.u8.wrap ((c.toNat : Int) - 32) = (y.toNat : Int) := by rw [IntWalk.u8_in _ (by omega)]; omega
                have my : ((c.toNat : Int) - 32) % 256 = (y.toNat : Int) := by omega
                have HYY := Lib.hid hy
                clear hyn hy
                go_wp2_with fail
                go_roundg (gk - 1)
                case rel => exact ⟨k + 1, by omega, by go_num, by rw [HAT.out.2, HYY.out]; exact HRW.out.put, HBW.out.setCell (Nat.le_refl _) _⟩
                case measure => omega
              · have dd : decide ((97 : Int) ≤ (c.toNat : Int)) = false := by simp; omega
                have HNX : Hid (upk true D (k + 1) = upk true D k) := Lib.hid (upk_same HC.out (by unfold upc; rw [if_neg (fun h => h97 h.2)]))
                go_wp2_with fail
                go_roundg (gk - 1)
                case rel => exact ⟨k + 1, by omega, by go_num, by rw [HNX.out]; exact HRW.out, HBW.out⟩
                case measure => omega
          · obtain rfl : u.size = k := by omega
            have hUU : upk q D u.size = U := by
              unfold upk
              rw [HUZ.out, List.take_length, List.drop_length, List.append_nil, HU.out]
            rw [hUU] at hrw
            have hul : U.length = u.size := by rw [HUL.out, HUZ.out]
            have cvx : ∀ nq, (convert 22 9 (.slice (some ⟨g, 0, none⟩) u.size C)).run Tryd.prog (wr.drewN nq) = .ok (.string ub) (wr.drewN nq) := fun nq => by
              have h := conv_str (P := Tryd.prog) (w := wr.drewN nq) (n := u.size) (c := C) (A := some ⟨g, 0, none⟩) (l := U) (B := wr.heap.size) (fun hp => hrw.rd hp) hul Tryd.underlying22 Tryd.underlying5 Tryd.underlying9
              rw [HUB.out] at h
              exact h
            have cvd : (convert 22 9 (.slice (some ⟨g, 0, none⟩) D.length C)).run Tryd.prog wr.drew = .ok (.string ub) wr.drew := by have h := cvx 1; rw [hzz] at h; exact h
            clear hrw hbw hUU hul cvx
            go_wp2_with fail
            go_region_held3 (fun w' => (convert 22 9 (.slice (some ⟨g, 0, none⟩) D.length C)).run Tryd.prog w' = .ok (.string ub) w') (assumption) (fail)
            obtain ⟨wq, hwq⟩ : ∃ wq, wr.drew = wq := ⟨_, rfl⟩
            have HBQ : Hid (Below g w3 wq) := Lib.hid (by rw [← hwq]; exact HBW.out.drew)
            rw [hwq]
            clear hwq
            have HBE : Hid (Below w.heap.size w wq) := Lib.hid (stp HW3.out (by rw [HGW.out]; exact HBQ.out))
            have hEq : Ev wq := hE.to HBE.out
            cases m
            · have hx : (⟨#[]⟩ : ByteArray) = x ∧ (50 : Int) = v := by
                have h := HOF.out
                rw [ofR_no [(n : Int)] 0 (by simp) HMY.out] at h
                cases h
                exact ⟨rfl, rfl⟩
              obtain ⟨rfl, rfl⟩ := hx
              have HO1 : Hid (getR o2 = (⟨#[]⟩, 80)) := Lib.hid (by rw [HG1.out, HMY.out]; rfl)
              have HO2 : Hid (getR p2 = (⟨#[]⟩, 80)) := Lib.hid (by rw [HG2.out, HMY.out]; rfl)
              go_wp2_with (first
                | (go_at_call 19; (with_reducible refine (of_one n ⟨#[]⟩ 50 HOF.out wq).mono ?_); rintro e v1 ⟨rfl, hb1⟩; have hB1 := hb1)
                | (go_at_call 10; (with_reducible refine (odd_yes o2 v1 HOZ.out HO1.out).mono ?_); rintro e v2 ⟨rfl, hb2⟩; have hB2 := stp hB1 hb2)
                | (go_at_call 10; (with_reducible refine (odd_yes p2 v2 HPZ.out HO2.out).mono ?_); rintro e v3 ⟨rfl, hb3⟩; have hB3 := stp hB2 hb3)
                | (go_at_call 20; (with_reducible refine (may5 n false v3 HMY.out).mono ?_); rintro e v4 ⟨rfl, hb4⟩; have hB4 := stp hB3 hb4)
                | fail)
              go_ret
              exact ⟨rfl, stp HBE.out hB4⟩
            · have hx : (⟨(enc n).toArray⟩ : ByteArray) = x ∧ (0 : Int) = v := by
                have h := HOF.out
                have h2 : byL [(n : Int)] = enc n := by unfold byL; simp [encs]
                have h3 := (enc_length n).2
                rw [ofR_ok [(n : Int)] (by rw [List.all_cons, HMY.out]; rfl) (by rw [h2]; omega), h2] at h
                cases h
                exact ⟨rfl, rfl⟩
              obtain ⟨hx, rfl⟩ := hx
              have HO1 : Hid (getR o2 = (x, 0)) := Lib.hid (by rw [HG1.out, HMY.out, ← hx]; rfl)
              have HO2 : Hid (getR p2 = (x, 0)) := Lib.hid (by rw [HG2.out, HMY.out, ← hx]; rfl)
              clear hx
              go_wp2_with (first
                | (go_at_call 19; (with_reducible refine (of_one n x 0 HOF.out wq).mono ?_); rintro e v1 ⟨rfl, hb1⟩; have hB1 := hb1)
                | (go_at_call 12; (with_reducible refine (reads_yes o2 x v1 HOZ.out HO1.out).mono ?_); rintro e v2 ⟨rfl, hb2⟩; have hB2 := stp hB1 hb2)
                | (go_at_call 12; (with_reducible refine (reads_yes p2 x v2 HPZ.out HO2.out).mono ?_); rintro e v3 ⟨rfl, hb3⟩; have hB3 := stp hB2 hb3)
                | fail)
              go_ret
              exact ⟨rfl, stp HBE.out hB3⟩
theorem walk (a0 : Int) (a1 : Bool) (w : World) (w0 : (Lit.int .i64 a0).wf = true) (hT : Tb w := by first | assumption | exact Tb.to (by assumption) (by assumption)) (hE : Ev w := by first | assumption | exact Ev.to (by assumption) (by assumption)) :
    Calls Tryd.prog 7 #[.int .i64 a0, .bool a1] w fun e w' => e = .returned (.bool true) ∧ Below w.heap.size w w' := by
  have hb := bounds_i64 w0
  obtain ⟨t, e, hw⟩ : ∃ t e, writeR a0 = (t, e) := ⟨_, _, rfl⟩
  by_cases he : e = 0
  · by_cases h : a0 < 1 ∨ 16777216 ≤ a0
    · exact walkOut a0 e t a1 w hb hw (.inr ⟨he, h⟩)
    · obtain ⟨n, rfl⟩ : ∃ n : Nat, a0 = n := ⟨a0.toNat, by omega⟩
      subst he
      have ht : t = ⟨(dg n).toArray⟩ := by
        unfold writeR at hw
        rw [if_pos (by omega), Int.toNat_natCast] at hw
        cases hw
        rfl
      exact walkIn n a1 _ t _ ⟨#[]⟩ _ (bt (n / 65536)) (bt (n / 256 % 256)) (bt (n % 256)) w (by omega) (by omega) (bt_nat _ (by omega)).symm (bt_nat _ (by omega)).symm (bt_nat _ (by omega)).symm hw ht rfl rfl
  · exact walkOut a0 e t a1 w hb hw (.inl he)

theorem gTab : Tryd.prog.globalNamed "internal/strconv.uint64pow10" = some 1 := by kernel_rfl
theorem gTabType : (Tryd.prog.globals[1]?).map (·.type) = some 116 := by kernel_rfl
/-- What the row's list gives. -/
theorem table {W : World} (h : laidMetH Tryd.prog Rows.escPointsRow.laid W) : Tb W := by
  rw [MakeChecks.laidMetH_plain _ _ _ (by kernel_rfl)] at h
  have h2 := laidMet.filter (fun x => x.1 == "internal/strconv.uint64pow10") h
  have e : Rows.escPointsRow.laid.filter (fun x => x.1 == "internal/strconv.uint64pow10") = [("internal/strconv.uint64pow10", Lib.tabData .u64 Lib.pow10Tab)] := by kernel_rfl
  rw [e] at h2
  exact Lib.tabIs_of_head (rest := []) gTab gTabType Tryd.underlying116 Tryd.underlying86 (by kernel_rfl) (by kernel_rfl) h2
theorem gErr : Tryd.prog.globalNamed "strconv.ErrSyntax" = some 2 := by kernel_rfl
theorem gErrT : (Tryd.prog.globals[2]?).map (·.type) = some 53 := by kernel_rfl
theorem starE : "*" ++ "errors.errorString" = "*errors.errorString" := by decide
theorem rowE (u : TypeId) (h : Tryd.prog.typeName? 3 u = some "*errors.errorString") : u = 124 :=
  typeName_ptr_named (nm := "errors.errorString") (by rw [starE]; kernel_rfl) (by kernel_rfl) (by decide) u (by rw [starE]; exact h)
theorem erred {W : World} (h : laidMetH Tryd.prog Rows.escPointsRow.laid W) : Ev W := by
  rw [MakeChecks.laidMetH_plain _ _ _ (by kernel_rfl)] at h
  have h2 := laidMet.filter (fun x => x.1 == "strconv.ErrSyntax") h
  have e : Rows.escPointsRow.laid.filter (fun x => x.1 == "strconv.ErrSyntax") = [("strconv.ErrSyntax", Rows.laid_strconv_ErrSyntax)] := by kernel_rfl
  rw [e] at h2
  obtain ⟨a, s, h3, _⟩ := laid_sentinel (r := []) h2 gErr gErrT Tryd.underlying53 rowE Tryd.underlying124 Tryd.underlying126 rfl rfl Tryd.underlying9 (by kernel_rfl) (by kernel_rfl)
  exact ⟨_, _, by simpa using World.var?_cell gErr h3 0⟩
theorem door_met (os : Os) (args : Array Value) : laidMetH Tryd.prog Rows.escPointsRow.laid ((World.doorLaid Tryd.prog 400 os).forCall (fun _ _ => 0) ⟨#[], args, []⟩).memory :=
  laidMetH_of_parts3 (fuel := 8) (laidMet_of_run' 8 (by kernel_rfl) (by kernel_rfl)) (by kernel_rfl) (by kernel_rfl)
set_option maxRecDepth 100000 in
theorem lifted (os : Os) (started : os.Started) (H : Type) (enc : TypeId × Value → H) :
    ReturnsInHanded {} Tryd.checked os 7 .any (fun w args => (Rows.escPointsSpec.pre enc Tryd.prog Tryd.f7 [] false w args ∧ laidMetH Tryd.prog Rows.escPointsRow.laid w) ∧ sizedMet enc Tryd.prog Tryd.f7 (OpenSpec.ofChange Rows.escPointsSpec) false w args) (Rows.escPointsSpec.post enc Tryd.prog Tryd.f7 false true false false) := by
  refine returnsInHanded_of_change_and (C := Tryd.checked) (X := fun w _ => laidMetH Tryd.prog Rows.escPointsRow.laid w) (fun _ _ _ hh h => h.of_heap hh) own started (by kernel_rfl) Tryd.func7
    (ChangeSpec.witness_shaped (enc := enc) (C := Tryd.checked) (os := os) (X := fun w _ => laidMetH Tryd.prog Rows.escPointsRow.laid w) false (World.doorLaid Tryd.prog 400 os) #[.int .i64 0, .bool false] 8 rfl (World.shaped_of_RefB (by kernel_rfl) (by kernel_rfl)) (by kernel_rfl) (by kernel_rfl) (by kernel_rfl) (door_met os _)) ?_
  intro W base args ds gs before hval0 hW _ _ hL _
  have hval : ∀ (j : Nat) t v, Tryd.f7.params[j]? = some t → args[j]? = some v → Value.okWide Tryd.prog W .any base t v := hval0
  have hW' := hW
  obtain ⟨p, q, hA0, hV, rfl, hfz, hnd⟩ := hW
  have hA : DataW.TrodAll enc Tryd.prog W 0 (fun _ => true) true Tryd.f7.params.toList args.toList ds p := hA0
  rw [Tryd.params7] at hA hval
  obtain ⟨v0, vs0, d0, ds0, p0, q0, hargs, rfl, rfl, h0, r0⟩ := trodAll_cons hA
  obtain ⟨v1, vs1, d1, ds1, p1, q1, rfl, rfl, rfl, h1, r1⟩ := trodAll_cons r0
  obtain ⟨rfl, rfl, rfl⟩ := trodAll_nil r1
  obtain rfl : args = #[v0, v1] := by cases args; simp_all
  obtain ⟨rfl, rfl⟩ := trodVars_none hV
  obtain ⟨a0, rfl, rfl, rfl, w0⟩ := open_int Tryd.underlying3 (hval 0 3 v0 rfl rfl) h0
  obtain ⟨a1, rfl, rfl, rfl⟩ := open_bool Tryd.underlying4 (hval 1 4 v1 rfl rfl) h1
  clear hA0 hval0
  refine (walk a0 a1 W w0 (table hL) (erred hL)).mono fun e W' ⟨he, bel⟩ => ?_
  subst he
  exact ⟨_, rfl, _, _, _, [], _, [], hW', trodAll_mk1 (shut_bool Tryd.underlying4 _), (trodAll_cons_mk (shut_int Tryd.underlying3 w0) (trodAll_cons_mk (shut_bool Tryd.underlying4 _) trodAll_mk0)), rfl, bel.frame _, fun h => by cases h⟩

theorem over : Rows.escPointsRow.holds Tryd.pinned (OpenSpec.ofChange Rows.escPointsSpec) :=
  OpenClaim.holds_of_wide 7 Tryd.f7 rfl rfl rfl rfl rfl rfl rfl ⟨rfl, rfl, rfl, rfl, rfl⟩ rfl rfl rfl rfl rfl (by kernel_rfl) Tryd.func7 (by kernel_rfl)
    (of_decide_eq_true (by kernel_rfl)) (by unfold Func.isWrapper; first | (rw [if_pos (by decide +kernel)]; kernel_rfl) | (rw [if_neg (by decide +kernel)]; exact ⟨rfl, rfl⟩))
    (fun os started H enc _ => lifted os started H enc)

theorem said : Rows.EscPointsSaid := over
theorem plain (f : FuncId) (fn : Func) (hf : Tryd.pinned.checked.prog.funcNamed "tidewaiter/tidewaiterlaw08.EscPoints" = some f) (hfn : Tryd.pinned.checked.prog.funcs[f]? = some fn) :
    true = Tryd.pinned.checked.prog.looks [] ∧ ∀ (j : Nat) t, fn.params[j]? = some t → Tryd.pinned.checked.prog.wantsStandIn t = false := by
  obtain rfl : f = 7 := Option.some.inj ((show Tryd.prog.funcNamed "tidewaiter/tidewaiterlaw08.EscPoints" = some 7 by kernel_rfl).symm.trans hf) |>.symm
  obtain rfl : fn = Tryd.f7 := (Option.some.inj (Tryd.func7.symm.trans hfn)).symm
  refine ⟨by kernel_rfl, fun j t ht => ?_⟩
  rw [Tryd.params7] at ht
  have hm : t ∈ [3, 4] := by simpa using Array.mem_of_getElem? ht
  have hall : ([3, 4].all fun u => !Tryd.prog.wantsStandIn u) = true := by kernel_rfl
  exact (show Tryd.prog.wantsStandIn t = false by simpa using List.all_eq_true.1 hall t hm)
theorem proved : Rows.EscPointsCardSaid :=
  Claim7.holds_tied_plain_at .later [] _ _ _ _ said (fun _ h => by cases h) (by kernel_rfl) (fun _ h => by cases h) escPoints_row_tie rfl ⟨rfl, rfl⟩ (by kernel_rfl) rfl plain (by kernel_rfl)
end Go.Proofs.YtjdeomlpipdopaaDoor.escPoints
