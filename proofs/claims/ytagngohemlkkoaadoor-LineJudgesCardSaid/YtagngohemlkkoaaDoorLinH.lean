/-
  Statuses' lines: the document's answer and the landed one.
-/
import Derived.Test.YtagngohemlkkoaaDoorLinG
import Derived.Test.YtagngohemlkkoaaDoorMapA
namespace Go.Proofs.YtagngohemlkkoaaDoor
open Go.RowKit
namespace Hx
open As Ln Nmb
set_option linter.unusedVariables false
set_option linter.unusedSimpArgs false
def stV (l : List UInt8) : Value := .agg #[.string ⟨l.toArray⟩]
def stK (c : Int) : Value := .int .i64 c
def SS : Array MapEntry := #[⟨stK 200, stV [79, 75], 0⟩, ⟨stK 400, stV [66, 97, 100, 32, 82, 101, 113, 117, 101, 115, 116], 1⟩, ⟨stK 403, stV [70, 111, 114, 98, 105, 100, 100, 101, 110], 2⟩, ⟨stK 404, stV [78, 111, 116, 32, 70, 111, 117, 110, 100], 3⟩, ⟨stK 405, stV [77, 101, 116, 104, 111, 100, 32, 78, 111, 116, 32, 65, 108, 108, 111, 119, 101, 100], 4⟩, ⟨stK 413, stV [67, 111, 110, 116, 101, 110, 116, 32, 84, 111, 111, 32, 76, 97, 114, 103, 101], 5⟩, ⟨stK 505, stV [72, 84, 84, 80, 32, 86, 101, 114, 115, 105, 111, 110, 32, 78, 111, 116, 32, 83, 117, 112, 112, 111, 114, 116, 101, 100], 6⟩]
theorem i64_key (c : Int) : MapKept.IsKey (.int .i64) (.int .i64 c) := by simp [MapKept.IsKey]
set_option maxRecDepth 100000 in
theorem sts15 (w : World) :
    Calls Tryd.prog 19 #[] w fun e w' => e = .returned (.map (some w.heap.size)) ∧ w' = w.alloc (.map SS 7) := by
  have hmm := @run_makeMap Tryd.prog
  go_enter Tryd.func19, Tryd.ntmps19
  go_wp2_with (refine wpList_ins rfl _ _ _ _ rfl rfl rfl rfl (run_ins (w := w) Tryd.underlying47 Tryd.underlying3 (i64_key _) rfl) ?_)
  go_ret
  exact ⟨rfl, rfl⟩
/-- What the map tells of a code. -/
def stF (c : Int) : Option (Nat × Value) :=
  if c = 200 then some (0, stV [79, 75]) else if c = 400 then some (1, stV [66, 97, 100, 32, 82, 101, 113, 117, 101, 115, 116]) else if c = 403 then some (2, stV [70, 111, 114, 98, 105, 100, 100, 101, 110]) else if c = 404 then some (3, stV [78, 111, 116, 32, 70, 111, 117, 110, 100]) else if c = 405 then some (4, stV [77, 101, 116, 104, 111, 100, 32, 78, 111, 116, 32, 65, 108, 108, 111, 119, 101, 100]) else if c = 413 then some (5, stV [67, 111, 110, 116, 101, 110, 116, 32, 84, 111, 111, 32, 76, 97, 114, 103, 101]) else if c = 505 then some (6, stV [72, 84, 84, 80, 32, 86, 101, 114, 115, 105, 111, 110, 32, 78, 111, 116, 32, 83, 117, 112, 112, 111, 114, 116, 101, 100]) else none
theorem st_one (c n : Int) (v : Value) (b : Nat) (l : List MapEntry) (i : Nat) :
    Instr.findNow (.int .i64) (.int .i64 c) (⟨stK n, v, b⟩ :: l) i = if c = n then some (some (i, v)) else Instr.findNow (.int .i64) (.int .i64 c) l (i + 1) := by
  rw [Instr.findNow]
  show (match (if IntKind.i64 = IntKind.i64 then some (c == n) else none) with | some true => _ | some false => _ | none => _) = _
  rw [if_pos rfl]
  by_cases h : c = n
  · rw [if_pos h, beq_iff_eq.2 h]
  · rw [if_neg h, beq_eq_false_iff_ne.2 h]
theorem st_find (c : Int) : Instr.findNow (.int .i64) (.int .i64 c) SS.toList 0 = some (stF c) := by
  show Instr.findNow (.int .i64) (.int .i64 c) [⟨stK 200, _, 0⟩, ⟨stK 400, _, 1⟩, ⟨stK 403, _, 2⟩, ⟨stK 404, _, 3⟩, ⟨stK 405, _, 4⟩, ⟨stK 413, _, 5⟩, ⟨stK 505, _, 6⟩] 0 = _
  rw [st_one c 200, st_one c 400, st_one c 403, st_one c 404, st_one c 405, st_one c 413, st_one c 505]
  unfold stF
  split
  · rfl
  split
  · rfl
  split
  · rfl
  split
  · rfl
  split
  · rfl
  split
  · rfl
  split
  · rfl
  · rfl
/-- A code that is a status. -/
def isSt (c : Int) : Bool := !(nameL c).isEmpty
theorem stF_L (c : Int) : lookV (stV []) (stF c) = .tuple #[.agg #[.string ⟨(nameL c).toArray⟩], .bool (isSt c)] := by
  unfold stF isSt nameL
  split
  · rfl
  split
  · rfl
  split
  · rfl
  split
  · rfl
  split
  · rfl
  split
  · rfl
  split
  · rfl
  · rfl
theorem zero_st (w : World) : (zeroValue 45).run Tryd.prog w = .ok (stV []) w := by kernel_rfl
theorem look15 (c : Int) (w : World) (b : Nat) (hb : w.heap[b]? = some (.map SS 7)) :
    (Instr.lookup 47 (.map (some b)) (.int .i64 c) true).run Tryd.prog w = .ok (.tuple #[.agg #[.string ⟨(nameL c).toArray⟩], .bool (isSt c)]) w := by
  rw [run_look Tryd.underlying47 Tryd.underlying3 (i64_key _) hb rfl (zero_st w) (st_find c), stF_L]
theorem st_code {c : Int} (h : isSt c = true) : 200 ≤ c ∧ c ≤ 505 ∧ (nameL c).length ≤ 30 := by
  by_cases h0 : c = 200
  · subst h0; exact ⟨by decide, by decide, by decide⟩
  by_cases h1 : c = 400
  · subst h1; exact ⟨by decide, by decide, by decide⟩
  by_cases h2 : c = 403
  · subst h2; exact ⟨by decide, by decide, by decide⟩
  by_cases h3 : c = 404
  · subst h3; exact ⟨by decide, by decide, by decide⟩
  by_cases h4 : c = 405
  · subst h4; exact ⟨by decide, by decide, by decide⟩
  by_cases h5 : c = 413
  · subst h5; exact ⟨by decide, by decide, by decide⟩
  by_cases h6 : c = 505
  · subst h6; exact ⟨by decide, by decide, by decide⟩
  unfold isSt nameL at h
  rw [if_neg h0, if_neg h1, if_neg h2, if_neg h3, if_neg h4, if_neg h5, if_neg h6] at h
  cases h
def zSt : Array Value := #[.string ⟨#[]⟩]
theorem oneSt (x : ByteArray) : (#[Value.string x] : Array Value).all (·.oneCell') = true := by simp [Value.oneCell']
theorem sizeSt : (Tryd.prog.info? 45).map (·.size) = some 1 := by kernel_rfl
theorem dg_len3 {n : Nat} (h : n ≤ 999) {d : ByteArray} (hd : d = ⟨(dg n).toArray⟩) : d.size ≤ 3 := by
  rw [hd, ← ba_len7]
  exact dg_short 2 n (by omega)
theorem look_at (n : Int) (x : ByteArray) (b : Bool) (hx : (⟨(nameL n).toArray⟩ : ByteArray) = x) (hb : isSt n = b) (W : World) (k : Nat) (hk : W.heap[k]? = some (.map SS 7)) :
    (Instr.lookup 47 (.map (some k)) (.int .i64 n) true).run Tryd.prog W = .ok (.tuple #[.agg #[.string x], .bool b]) W := by
  rw [look15 n W k hk, hx, hb]
set_option maxHeartbeats 4000000 in
set_option maxRecDepth 100000 in
theorem status15_y (n : Nat) (d : ByteArray) (x : ByteArray) (w : World) (hx : (⟨(nameL (n : Int)).toArray⟩ : ByteArray) = x) (hq : isSt (n : Int) = true) (hxs : x.size ≤ 30) (hn : n ≤ 999) (hd : d = ⟨(dg n).toArray⟩) (hT : Tb w) :
    Calls Tryd.prog 9 #[.int .i64 (n : Int)] w fun e w' => e = .returned (.tuple #[.string (((((⟨#[72, 84, 84, 80, 47, 49, 46, 49, 32]⟩ : ByteArray) ++ d) ++ ⟨#[32]⟩) ++ x) ++ ⟨#[13, 10]⟩), .int .i64 0]) ∧ Below w.heap.size w w' := by
  have hds := dg_len3 hn hd
  have l0 : ¬ 9223372036854775807 < 9 + d.size := by omega
  have l1 : ¬ 9223372036854775807 < 9 + d.size + 1 := by omega
  have l2 : ¬ 9223372036854775807 < 9 + d.size + 1 + x.size := by omega
  have l3 : ¬ 9223372036854775807 < 9 + d.size + 1 + x.size + 2 := by omega
  have HD : Hid (∀ W, Tb W → Calls Tryd.prog 20 #[.int .i64 (n : Int)] W fun e w' => e = .returned (.string d) ∧ Below W.heap.size W w') := Lib.hid fun W hW => itoa15 n (by omega) d hd W hW
  have HT := Lib.hid hT
  have HLk := Lib.hid (look_at (n : Int) x true hx hq)
  clear hx hq hxs hn hd hT hds
  go_enter Tryd.func9, Tryd.ntmps9
  go_wp2_with (first
    | (go_at_call 19; (with_reducible refine (sts15 _).mono ?_); rintro e w1 ⟨rfl, hw1⟩; have HM1 : Hid (w1.heap[w.heap.size]? = some (.map SS 7)) := Lib.hid (by rw [hw1]; exact heap_alloc_new w _); have HB1 : Hid (Below w.heap.size w w1) := Lib.hid (by rw [hw1]; exact stpA (Below.refl _ _) _); clear hw1)
    | (refine wpList_look rfl _ _ _ rfl rfl rfl (HLk.out _ _ HM1.out) ?_)
    | (refine wpList_store_row rfl _ _ _ rfl w1.heap.size #[.string x] rfl rfl 45 zSt (heap_alloc_new w1 _) sizeSt rfl (oneSt _) ?_; rw [World.setRow_alloc_new]; obtain ⟨W2, hW2, hr2, hb2⟩ := opnV w1 (.cells #[.string x] 45); rw [hW2]; have HB2 := Lib.hid (stp HB1.out hb2); have HR2 := Lib.hid hr2; clear hW2 hr2 hb2)
    | fail)
  have HK : Hid (∀ W, Below W2.heap.size W2 W → W.cell? ⟨w1.heap.size, 0, none⟩ = some (.string x)) := Lib.hid fun W h => cell_of_row _ _ 0 _ _ _ (kept_heap HR2.out h)
  have HTb : Hid (∀ W, Below W2.heap.size W2 W → Tb W) := Lib.hid fun W h => HT.out.to (stp HB2.out h)
  go_region_held3 (fun W => W.cell? ⟨w1.heap.size, 0, none⟩ = some (.string x))
    (first | exact HK.out _ (by first | exact Below.refl _ _ | exact (Below.refl _ _).drew) | exact HK.out _ K3.out)
    ((first
    | (go_at_call 20; (with_reducible refine (HD.out _ (HTb.out _ (by first | exact Below.refl _ _ | exact (Below.refl _ _).drew))).mono ?_); rintro e w3 ⟨rfl, hb3⟩; have K3 : Hid (Below W2.heap.size W2 w3) := Lib.hid (by first | exact hb3 | exact stp (Below.refl _ _).drew hb3); clear hb3)))
  go_wp2_with fail
  go_ret2
  exact ⟨rfl, stp HB2.out K3.out⟩
set_option maxHeartbeats 4000000 in
set_option maxRecDepth 100000 in
theorem status15_n (n : Int) (x : ByteArray) (w : World) (hx : (⟨(nameL n).toArray⟩ : ByteArray) = x) (hq : isSt n = false) :
    Calls Tryd.prog 9 #[.int .i64 n] w fun e w' => e = .returned (.tuple #[.string ⟨#[]⟩, .int .i64 2]) ∧ Below w.heap.size w w' := by
  have HLk := Lib.hid (look_at n x false hx hq)
  clear hx hq
  go_enter Tryd.func9, Tryd.ntmps9
  go_wp2_with (first
    | (go_at_call 19; (with_reducible refine (sts15 _).mono ?_); rintro e w1 ⟨rfl, hw1⟩; have HM1 : Hid (w1.heap[w.heap.size]? = some (.map SS 7)) := Lib.hid (by rw [hw1]; exact heap_alloc_new w _); have HB1 : Hid (Below w.heap.size w w1) := Lib.hid (by rw [hw1]; exact stpA (Below.refl _ _) _); clear hw1)
    | (refine wpList_look rfl _ _ _ rfl rfl rfl (HLk.out _ _ HM1.out) ?_)
    | (refine wpList_store_row rfl _ _ _ rfl w1.heap.size #[.string x] rfl rfl 45 zSt (heap_alloc_new w1 _) sizeSt rfl (oneSt _) ?_; rw [World.setRow_alloc_new]; obtain ⟨W2, hW2, hr2, hb2⟩ := opnV w1 (.cells #[.string x] 45); rw [hW2]; have HB2 := Lib.hid (stp HB1.out hb2); have HR2 := Lib.hid hr2; clear hW2 hr2 hb2)
    | fail)
  go_ret2
  exact ⟨rfl, HB2.out⟩
theorem cne {n c : Int} (h : n ≠ c) : (n == c) = false := by simpa using h
set_option maxHeartbeats 4000000 in
set_option maxRecDepth 100000 in
theorem rname15 (n : Int) (x : ByteArray) (w : World) (hx : (⟨(nameL n).toArray⟩ : ByteArray) = x) :
    Calls Tryd.prog 29 #[.int .i64 n] w fun e w' => e = .returned (.string x) ∧ Below w.heap.size w w' := by
  by_cases h0 : n = 200
  · subst h0
    obtain rfl : (⟨#[79, 75]⟩ : ByteArray) = x := hx
    go_enter Tryd.func29, Tryd.ntmps29
    go_wp2_with fail
    go_ret
    exact ⟨rfl, Below.refl _ _⟩
  have q0 := cne h0
  by_cases h1 : n = 400
  · subst h1
    obtain rfl : (⟨#[66, 97, 100, 32, 82, 101, 113, 117, 101, 115, 116]⟩ : ByteArray) = x := hx
    go_enter Tryd.func29, Tryd.ntmps29
    go_wp2_with fail
    go_ret
    exact ⟨rfl, Below.refl _ _⟩
  have q1 := cne h1
  by_cases h2 : n = 403
  · subst h2
    obtain rfl : (⟨#[70, 111, 114, 98, 105, 100, 100, 101, 110]⟩ : ByteArray) = x := hx
    go_enter Tryd.func29, Tryd.ntmps29
    go_wp2_with fail
    go_ret
    exact ⟨rfl, Below.refl _ _⟩
  have q2 := cne h2
  by_cases h3 : n = 404
  · subst h3
    obtain rfl : (⟨#[78, 111, 116, 32, 70, 111, 117, 110, 100]⟩ : ByteArray) = x := hx
    go_enter Tryd.func29, Tryd.ntmps29
    go_wp2_with fail
    go_ret
    exact ⟨rfl, Below.refl _ _⟩
  have q3 := cne h3
  by_cases h4 : n = 405
  · subst h4
    obtain rfl : (⟨#[77, 101, 116, 104, 111, 100, 32, 78, 111, 116, 32, 65, 108, 108, 111, 119, 101, 100]⟩ : ByteArray) = x := hx
    go_enter Tryd.func29, Tryd.ntmps29
    go_wp2_with fail
    go_ret
    exact ⟨rfl, Below.refl _ _⟩
  have q4 := cne h4
  by_cases h5 : n = 413
  · subst h5
    obtain rfl : (⟨#[67, 111, 110, 116, 101, 110, 116, 32, 84, 111, 111, 32, 76, 97, 114, 103, 101]⟩ : ByteArray) = x := hx
    go_enter Tryd.func29, Tryd.ntmps29
    go_wp2_with fail
    go_ret
    exact ⟨rfl, Below.refl _ _⟩
  have q5 := cne h5
  by_cases h6 : n = 505
  · subst h6
    obtain rfl : (⟨#[72, 84, 84, 80, 32, 86, 101, 114, 115, 105, 111, 110, 32, 78, 111, 116, 32, 83, 117, 112, 112, 111, 114, 116, 101, 100]⟩ : ByteArray) = x := hx
    go_enter Tryd.func29, Tryd.ntmps29
    go_wp2_with fail
    go_ret
    exact ⟨rfl, Below.refl _ _⟩
  have q6 := cne h6
  obtain rfl : (⟨#[]⟩ : ByteArray) = x := by rw [← hx]; unfold nameL; rw [if_neg h0, if_neg h1, if_neg h2, if_neg h3, if_neg h4, if_neg h5, if_neg h6]
  clear hx h0 h1 h2 h3 h4 h5 h6
  go_enter Tryd.func29, Tryd.ntmps29
  go_wp2_with fail
  go_ret
  exact ⟨rfl, Below.refl _ _⟩
set_option maxHeartbeats 4000000 in
set_option maxRecDepth 100000 in
theorem rfirst15 (n : Nat) (x d : ByteArray) (w : World) (hx : (⟨(nameL n).toArray⟩ : ByteArray) = x) (hxs : x.size ≤ 30) (hn : n ≤ 999) (hd : d = ⟨(dg n).toArray⟩) :
    Calls Tryd.prog 30 #[.int .i64 (n : Int)] w fun e w' => e = .returned (.string (((((⟨#[72, 84, 84, 80, 47, 49, 46, 49, 32]⟩ : ByteArray) ++ d) ++ ⟨#[32]⟩) ++ x) ++ ⟨#[13, 10]⟩)) ∧ Below w.heap.size w w' := by
  have hds := dg_len3 hn hd
  have l0 : ¬ 9223372036854775807 < 9 + d.size := by omega
  have l1 : ¬ 9223372036854775807 < 9 + d.size + 1 := by omega
  have l2 : ¬ 9223372036854775807 < 9 + d.size + 1 + x.size := by omega
  have l3 : ¬ 9223372036854775807 < 9 + d.size + 1 + x.size + 2 := by omega
  have HD := Lib.hid fun W => rdigits6 n W (by omega) d hd
  have HX := Lib.hid fun W => rname15 n x W hx
  clear hx hxs hn hd hds
  go_enter Tryd.func30, Tryd.ntmps30
  go_wp2_with (first
    | (go_at_call 43; (with_reducible refine (HD.out _).mono ?_); rintro e w1 ⟨rfl, hb1⟩; have B1 := Lib.hid hb1; clear hb1)
    | (go_at_call 29; (with_reducible refine (HX.out _).mono ?_); rintro e w2 ⟨rfl, hb2⟩; have B2 := Lib.hid (stp B1.out hb2); clear hb2)
    | fail)
  go_ret
  exact ⟨rfl, B2.out⟩
set_option maxHeartbeats 4000000 in
set_option maxRecDepth 100000 in
theorem rstatus15_y (n : Nat) (d : ByteArray) (x : ByteArray) (w : World) (hx : (⟨(nameL (n : Int)).toArray⟩ : ByteArray) = x) (hq : isSt (n : Int) = true) (hxs : x.size ≤ 30) (hn : n ≤ 999) (hd : d = ⟨(dg n).toArray⟩) :
    Calls Tryd.prog 17 #[.int .i64 (n : Int)] w fun e w' => e = .returned (.tuple #[.string (((((⟨#[72, 84, 84, 80, 47, 49, 46, 49, 32]⟩ : ByteArray) ++ d) ++ ⟨#[32]⟩) ++ x) ++ ⟨#[13, 10]⟩), .int .i64 0]) ∧ Below w.heap.size w w' := by
  have HX := Lib.hid fun W => rname15 (n : Int) x W hx
  have hz : decide (x.size = 0) = false := by
    rw [← hx]
    unfold isSt at hq
    cases hl : nameL (n : Int) with
    | nil => rw [hl] at hq; first | rfl | cases hq
    | cons a b => rw [hl] at hq; first | (cases hq; done) | exact decide_eq_false (by show ¬ (a :: b).toArray.size = 0; simp)
  have e1 : (x.toList == (⟨#[]⟩ : ByteArray).toList) = false := (empty_b x).trans hz
  have e2 : (x.toList == []) = false := (empty_b2 x).trans hz
  have HF := Lib.hid fun W => rfirst15 n x d W hx hxs hn hd
  clear hx hq hz hxs hn hd
  go_enter Tryd.func17, Tryd.ntmps17
  go_wp2_with (first
    | (go_at_call 29; (with_reducible refine (HX.out _).mono ?_); rintro e w1 ⟨rfl, hb1⟩; have B1 := Lib.hid hb1; clear hb1)
    | (go_at_call 30; (with_reducible refine (HF.out _).mono ?_); rintro e w2 ⟨rfl, hb2⟩; have B2 := Lib.hid (stp B1.out hb2); clear hb2)
    | fail)
  go_ret2
  exact ⟨rfl, B2.out⟩
set_option maxHeartbeats 4000000 in
set_option maxRecDepth 100000 in
theorem rstatus15_n (n : Int) (x : ByteArray) (w : World) (hx : (⟨(nameL n).toArray⟩ : ByteArray) = x) (hq : isSt n = false) :
    Calls Tryd.prog 17 #[.int .i64 n] w fun e w' => e = .returned (.tuple #[.string ⟨#[]⟩, .int .i64 2]) ∧ Below w.heap.size w w' := by
  have HX := Lib.hid fun W => rname15 n x W hx
  have hz : decide (x.size = 0) = true := by
    rw [← hx]
    unfold isSt at hq
    cases hl : nameL n with
    | nil => rw [hl] at hq; first | rfl | cases hq
    | cons a b => rw [hl] at hq; first | (cases hq; done) | exact decide_eq_false (by show ¬ (a :: b).toArray.size = 0; simp)
  have e1 : (x.toList == (⟨#[]⟩ : ByteArray).toList) = true := (empty_b x).trans hz
  have e2 : (x.toList == []) = true := (empty_b2 x).trans hz
  clear hx hq hz
  go_enter Tryd.func17, Tryd.ntmps17
  go_wp2_with (first
    | (go_at_call 29; (with_reducible refine (HX.out _).mono ?_); rintro e w1 ⟨rfl, hb1⟩; have B1 := Lib.hid hb1; clear hb1)
    | fail)
  go_ret2
  exact ⟨rfl, B1.out⟩
/-- A status's line, and the error. -/
def statR (n : Int) : List UInt8 × Int := if isSt n = true then ([72, 84, 84, 80, 47, 49, 46, 49, 32] ++ (dg n.toNat ++ 32 :: (nameL n ++ [13, 10])), 0) else ([], 2)
theorem status15 (n : Int) (u : ByteArray) (q : Int) (w : World) (h : statR n = (u.data.toList, q)) (hT : Tb w) :
    Calls Tryd.prog 9 #[.int .i64 n] w fun e w' => e = .returned (.tuple #[.string u, .int .i64 q]) ∧ Below w.heap.size w w' := by
  unfold statR at h
  cases hq : isSt n with
  | true =>
    rw [if_pos hq] at h
    obtain ⟨e1, rfl⟩ := (Prod.mk.injEq _ _ _ _).mp h
    obtain ⟨h1, h2, h3⟩ := st_code hq
    obtain ⟨n, rfl⟩ := Int.eq_ofNat_of_zero_le (show 0 ≤ n by omega)
    refine (status15_y n _ _ w rfl hq (by rw [← ba_len7]; exact h3) (by omega) rfl hT).mono ?_
    rintro e w' ⟨rfl, hb⟩
    refine ⟨?_, hb⟩
    congr 3
    congr 2
    refine ba_ext7 ?_
    rw [← e1]
    simp [bap]
  | false =>
    rw [if_neg (by rw [hq]; simp)] at h
    obtain ⟨e1, rfl⟩ := (Prod.mk.injEq _ _ _ _).mp h
    obtain rfl := ba_nil e1
    exact status15_n n _ w rfl hq
theorem rstatus15 (n : Int) (u : ByteArray) (q : Int) (w : World) (h : statR n = (u.data.toList, q)) :
    Calls Tryd.prog 17 #[.int .i64 n] w fun e w' => e = .returned (.tuple #[.string u, .int .i64 q]) ∧ Below w.heap.size w w' := by
  unfold statR at h
  cases hq : isSt n with
  | true =>
    rw [if_pos hq] at h
    obtain ⟨e1, rfl⟩ := (Prod.mk.injEq _ _ _ _).mp h
    obtain ⟨h1, h2, h3⟩ := st_code hq
    obtain ⟨n, rfl⟩ := Int.eq_ofNat_of_zero_le (show 0 ≤ n by omega)
    refine (rstatus15_y n _ _ w rfl hq (by rw [← ba_len7]; exact h3) (by omega) rfl).mono ?_
    rintro e w' ⟨rfl, hb⟩
    refine ⟨?_, hb⟩
    congr 3
    congr 2
    refine ba_ext7 ?_
    rw [← e1]
    simp [bap]
  | false =>
    rw [if_neg (by rw [hq]; simp)] at h
    obtain ⟨e1, rfl⟩ := (Prod.mk.injEq _ _ _ _).mp h
    obtain rfl := ba_nil e1
    exact rstatus15_n n _ w rfl hq
end Hx
end Go.Proofs.YtagngohemlkkoaaDoor
