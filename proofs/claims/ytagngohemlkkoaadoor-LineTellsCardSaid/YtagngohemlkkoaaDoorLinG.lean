/-
  Lines' texts, and how lines are judged: the document's answers and the landed ones.
-/
import Derived.Test.YtagngohemlkkoaaDoorLinF
import Derived.Test.YtagngohemlkkoaaDoorNumR
import Derived.Deep.RegionHeld3
namespace Go.Proofs.YtagngohemlkkoaaDoor
open Go.RowKit
namespace Hx
open As Ln Nmb
set_option linter.unusedVariables false
set_option linter.unusedSimpArgs false
def judgeR (x : Li) : Int × Int := if mayL x = true then (judgedL x, 0) else (0, 8)
def writeR15 (x : Li) : List UInt8 × Int := if mayL x = true then (textL x, 0) else ([], 8)
theorem bap (a b : ByteArray) : (a ++ b).data.toList = a.data.toList ++ b.data.toList := by simp
theorem dg_one {n : Nat} (h : n ≤ 9) {d : ByteArray} (hd : d = ⟨(dg n).toArray⟩) : d.size = 1 := by
  rw [hd, ← ba_len7, dg_small (by omega)]
  rfl
theorem text_of {m t d1 d2 : ByteArray} {g s : Nat} (h1 : d1 = ⟨(dg g).toArray⟩) (h2 : d2 = ⟨(dg s).toArray⟩) :
    textL (mkL m t g s) = m.data.toList ++ 32 :: (t.data.toList ++ 32 :: (http ++ (d1.data.toList ++ 46 :: d2.data.toList))) := by
  rw [h1, h2]
  rfl
/-- A line's own variable. -/
def LnAt (b : Nat) (m t : ByteArray) (g s : Int) (W : World) : Prop := W.cell? ⟨b, 0, none⟩ = some (.string m) ∧ W.cell? ⟨b, 1, none⟩ = some (.string t) ∧ W.cell? ⟨b, 2, none⟩ = some (.int .i64 g) ∧ W.cell? ⟨b, 3, none⟩ = some (.int .i64 s)
theorem ln_at {b : Nat} {m t : ByteArray} {g s : Int} {W : World} (h : W.heap[b]? = some (.cells #[.string m, .string t, .int .i64 g, .int .i64 s] 30 (0, 0))) : LnAt b m t g s W :=
  ⟨cell_of_row _ _ 0 _ _ _ h, cell_of_row _ _ 1 _ _ _ h, cell_of_row _ _ 2 _ _ _ h, cell_of_row _ _ 3 _ _ _ h⟩
set_option maxHeartbeats 4000000 in
set_option maxRecDepth 100000 in
theorem rtext15 (m t d1 d2 : ByteArray) (g s : Nat) (w : World) (hm : m.size ≤ 1000000) (ht : t.size ≤ 1000000) (hg : g ≤ 9) (hs : s ≤ 9) (h1 : d1 = ⟨(dg g).toArray⟩) (h2 : d2 = ⟨(dg s).toArray⟩) :
    Calls Tryd.prog 27 #[.agg #[.string m, .string t, .int .i64 (g : Int), .int .i64 (s : Int)]] w fun e w' => e = .returned (.string ((((((m ++ ⟨#[32]⟩) ++ t) ++ ⟨#[32, 72, 84, 84, 80, 47]⟩) ++ d1) ++ ⟨#[46]⟩) ++ d2)) ∧ Below w.heap.size w w' := by
  have z1 := dg_one hg h1
  have z2 := dg_one hs h2
  have l0 : ¬ 9223372036854775807 < m.size + 1 := by omega
  have l1 : ¬ 9223372036854775807 < m.size + 1 + t.size := by omega
  have l2 : ¬ 9223372036854775807 < m.size + 1 + t.size + 6 := by omega
  have l3 : ¬ 9223372036854775807 < m.size + 1 + t.size + 6 + d1.size := by omega
  have l4 : ¬ 9223372036854775807 < m.size + 1 + t.size + 6 + d1.size + 1 := by omega
  have l5 : ¬ 9223372036854775807 < m.size + 1 + t.size + 6 + d1.size + 1 + d2.size := by omega
  have HK : Hid (∀ W, Below (w.alloc (.cells #[.string m, .string t, .int .i64 (g : Int), .int .i64 (s : Int)] 30)).heap.size (w.alloc (.cells #[.string m, .string t, .int .i64 (g : Int), .int .i64 (s : Int)] 30)) W → LnAt w.heap.size m t g s W) := Lib.hid fun W h => ln_at (kept_heap (heap_alloc_new w _) h)
  have HB0 : Hid (∀ W, Below (w.alloc (.cells #[.string m, .string t, .int .i64 (g : Int), .int .i64 (s : Int)] 30)).heap.size (w.alloc (.cells #[.string m, .string t, .int .i64 (g : Int), .int .i64 (s : Int)] 30)) W → Below w.heap.size w W) := Lib.hid fun W h => stp (stpA (Below.refl _ _) _) h
  have HD1 := Lib.hid fun W => rdigits6 g W (by omega) d1 h1
  have HD2 := Lib.hid fun W => rdigits6 s W (by omega) d2 h2
  clear hm ht hg hs h1 h2 z1 z2
  go_enter Tryd.func27, Tryd.ntmps27
  go_wp2_with fail
  go_region_held3 (fun W => W.cell? ⟨w.heap.size, 0, none⟩ = some (.string m) ∧ W.cell? ⟨w.heap.size, 1, none⟩ = some (.string t) ∧ W.cell? ⟨w.heap.size, 2, none⟩ = some (.int .i64 (g : Int)) ∧ W.cell? ⟨w.heap.size, 3, none⟩ = some (.int .i64 (s : Int)))
    (first | exact HK.out _ (by first | exact Below.refl _ _ | exact (Below.refl _ _).drew) | exact HK.out _ K3.out | exact HK.out _ K2.out)
    ((first
    | (go_at_call 43; (with_reducible refine (HD1.out _).mono ?_); rintro e w2 ⟨rfl, hb2⟩; have K2 : Hid (Below (w.alloc (.cells #[.string m, .string t, .int .i64 (g : Int), .int .i64 (s : Int)] 30)).heap.size (w.alloc (.cells #[.string m, .string t, .int .i64 (g : Int), .int .i64 (s : Int)] 30)) w2) := Lib.hid (by first | exact hb2 | exact stp (Below.refl _ _).drew hb2); clear hb2)
    | (go_at_call 43; (with_reducible refine (HD2.out _).mono ?_); rintro e w3 ⟨rfl, hb3⟩; have K3 : Hid (Below (w.alloc (.cells #[.string m, .string t, .int .i64 (g : Int), .int .i64 (s : Int)] 30)).heap.size (w.alloc (.cells #[.string m, .string t, .int .i64 (g : Int), .int .i64 (s : Int)] 30)) w3) := Lib.hid (stp K2.out hb3); clear hb3)))
  go_wp2_with fail
  go_ret
  exact ⟨rfl, HB0.out _ K3.out⟩
set_option maxHeartbeats 4000000 in
set_option maxRecDepth 100000 in
theorem write15_y (m t d1 d2 : ByteArray) (g s : Nat) (w : World) (hm : m.size ≤ 1000000) (ht : t.size ≤ 1000000) (hg : g ≤ 9) (hs : s ≤ 9) (h1 : d1 = ⟨(dg g).toArray⟩) (h2 : d2 = ⟨(dg s).toArray⟩) (hy : mayL (mkL m t g s) = true) (hT : Tb w) :
    Calls Tryd.prog 14 #[.agg #[.string m, .string t, .int .i64 (g : Int), .int .i64 (s : Int)]] w fun e w' => e = .returned (.tuple #[.string (((((((m ++ ⟨#[32]⟩) ++ t) ++ ⟨#[32]⟩) ++ ⟨#[72, 84, 84, 80, 47]⟩) ++ d1) ++ ⟨#[46]⟩) ++ d2), .int .i64 0]) ∧ Below w.heap.size w w' := by
  have z1 := dg_one hg h1
  have z2 := dg_one hs h2
  have l0 : ¬ 9223372036854775807 < m.size + 1 := by omega
  have l1 : ¬ 9223372036854775807 < m.size + 1 + t.size := by omega
  have l2 : ¬ 9223372036854775807 < m.size + 1 + t.size + 1 := by omega
  have l3 : ¬ 9223372036854775807 < m.size + 1 + t.size + 1 + 5 := by omega
  have l4 : ¬ 9223372036854775807 < m.size + 1 + t.size + 1 + 5 + d1.size := by omega
  have l5 : ¬ 9223372036854775807 < m.size + 1 + t.size + 1 + 5 + d1.size + 1 := by omega
  have l6 : ¬ 9223372036854775807 < m.size + 1 + t.size + 1 + 5 + d1.size + 1 + d2.size := by omega
  have HY : Hid (∀ W, Calls Tryd.prog 21 #[.agg #[.string m, .string t, .int .i64 (g : Int), .int .i64 (s : Int)]] W fun e w' => e = .returned (.bool true) ∧ Below W.heap.size W w') := Lib.hid fun W => may15 m t g s true W hm ht hy
  have HD1 : Hid (∀ W, Tb W → Calls Tryd.prog 20 #[.int .i64 (g : Int)] W fun e w' => e = .returned (.string d1) ∧ Below W.heap.size W w') := Lib.hid fun W hW => itoa15 g (by omega) d1 h1 W hW
  have HD2 : Hid (∀ W, Tb W → Calls Tryd.prog 20 #[.int .i64 (s : Int)] W fun e w' => e = .returned (.string d2) ∧ Below W.heap.size W w') := Lib.hid fun W hW => itoa15 s (by omega) d2 h2 W hW
  have HT := Lib.hid hT
  clear hm ht hg hs h1 h2 z1 z2 hy hT
  go_enter Tryd.func14, Tryd.ntmps14
  go_wp2_with (first
    | (refine wpList_load_row rfl _ _ rfl w.heap.size rfl 30 #[.string m, .string t, .int .i64 (g : Int), .int .i64 (s : Int)] (0, 0) _ (heap_alloc_new w _) Tryd.underlying30 rfl sizeLn ?_)
    | (go_at_call 21; (with_reducible refine (HY.out _).mono ?_); rintro e w1 ⟨rfl, hb1⟩; have R1 := Lib.hid (kept_heap (heap_alloc_new w (.cells #[.string m, .string t, .int .i64 (g : Int), .int .i64 (s : Int)] 30)) hb1); have B1 := Lib.hid (stp (stpA (Below.refl w.heap.size w) (.cells #[.string m, .string t, .int .i64 (g : Int), .int .i64 (s : Int)] 30)) hb1); clear hb1)
    | fail)
  have HK : Hid (∀ W, Below w1.heap.size w1 W → LnAt w.heap.size m t g s W) := Lib.hid fun W h => ln_at (kept_heap R1.out h)
  have HTb : Hid (∀ W, Below w1.heap.size w1 W → Tb W) := Lib.hid fun W h => HT.out.to (stp B1.out h)
  go_region_held3 (fun W => W.cell? ⟨w.heap.size, 0, none⟩ = some (.string m) ∧ W.cell? ⟨w.heap.size, 1, none⟩ = some (.string t) ∧ W.cell? ⟨w.heap.size, 2, none⟩ = some (.int .i64 (g : Int)) ∧ W.cell? ⟨w.heap.size, 3, none⟩ = some (.int .i64 (s : Int)))
    (first | exact HK.out _ (by first | exact Below.refl _ _ | exact (Below.refl _ _).drew) | exact HK.out _ K3.out | exact HK.out _ K2.out)
    ((first
    | (go_at_call 20; (with_reducible refine (HD1.out _ (HTb.out _ (by first | exact Below.refl _ _ | exact (Below.refl _ _).drew))).mono ?_); rintro e w2 ⟨rfl, hb2⟩; have K2 : Hid (Below w1.heap.size w1 w2) := Lib.hid (by first | exact hb2 | exact stp (Below.refl _ _).drew hb2); clear hb2)
    | (go_at_call 20; (with_reducible refine (HD2.out _ (HTb.out _ K2.out)).mono ?_); rintro e w3 ⟨rfl, hb3⟩; have K3 : Hid (Below w1.heap.size w1 w3) := Lib.hid (stp K2.out hb3); clear hb3)))
  go_wp2_with fail
  go_ret2
  exact ⟨rfl, stp B1.out K3.out⟩
set_option maxHeartbeats 4000000 in
set_option maxRecDepth 100000 in
theorem write15_n (m t : ByteArray) (g s : Int) (w : World) (hm : m.size ≤ 1000000) (ht : t.size ≤ 1000000) (hy : mayL (mkL m t g s) = false) :
    Calls Tryd.prog 14 #[.agg #[.string m, .string t, .int .i64 g, .int .i64 s]] w fun e w' => e = .returned (.tuple #[.string ⟨#[]⟩, .int .i64 8]) ∧ Below w.heap.size w w' := by
  have HY : Hid (∀ W, Calls Tryd.prog 21 #[.agg #[.string m, .string t, .int .i64 g, .int .i64 s]] W fun e w' => e = .returned (.bool false) ∧ Below W.heap.size W w') := Lib.hid fun W => may15 m t g s false W hm ht hy
  clear hm ht hy
  go_enter Tryd.func14, Tryd.ntmps14
  go_wp2_with (first
    | (refine wpList_load_row rfl _ _ rfl w.heap.size rfl 30 #[.string m, .string t, .int .i64 g, .int .i64 s] (0, 0) _ (heap_alloc_new w _) Tryd.underlying30 rfl sizeLn ?_)
    | (go_at_call 21; (with_reducible refine (HY.out _).mono ?_); rintro e w1 ⟨rfl, hb1⟩; have R1 := Lib.hid (kept_heap (heap_alloc_new w (.cells #[.string m, .string t, .int .i64 g, .int .i64 s] 30)) hb1); have B1 := Lib.hid (stp (stpA (Below.refl w.heap.size w) (.cells #[.string m, .string t, .int .i64 g, .int .i64 s] 30)) hb1); clear hb1)
    | fail)
  go_ret2
  exact ⟨rfl, B1.out⟩
set_option maxHeartbeats 4000000 in
set_option maxRecDepth 100000 in
theorem rwrite15_n (m t : ByteArray) (g s : Int) (w : World) (hm : m.size ≤ 1000000) (ht : t.size ≤ 1000000) (hy : mayL (mkL m t g s) = false) :
    Calls Tryd.prog 15 #[.agg #[.string m, .string t, .int .i64 g, .int .i64 s]] w fun e w' => e = .returned (.tuple #[.string ⟨#[]⟩, .int .i64 8]) ∧ Below w.heap.size w w' := by
  have HY : Hid (∀ W, Calls Tryd.prog 26 #[.agg #[.string m, .string t, .int .i64 g, .int .i64 s]] W fun e w' => e = .returned (.bool false) ∧ Below W.heap.size W w') := Lib.hid fun W => rmay15 m t g s false W hm ht hy
  clear hm ht hy
  go_enter Tryd.func15, Tryd.ntmps15
  go_wp2_with (first
    | (refine wpList_load_row rfl _ _ rfl w.heap.size rfl 30 #[.string m, .string t, .int .i64 g, .int .i64 s] (0, 0) _ (heap_alloc_new w _) Tryd.underlying30 rfl sizeLn ?_)
    | (go_at_call 26; (with_reducible refine (HY.out _).mono ?_); rintro e w1 ⟨rfl, hb1⟩; have R1 := Lib.hid (kept_heap (heap_alloc_new w (.cells #[.string m, .string t, .int .i64 g, .int .i64 s] 30)) hb1); have B1 := Lib.hid (stp (stpA (Below.refl w.heap.size w) (.cells #[.string m, .string t, .int .i64 g, .int .i64 s] 30)) hb1); clear hb1)
    | fail)
  go_ret2
  exact ⟨rfl, B1.out⟩
set_option maxHeartbeats 4000000 in
set_option maxRecDepth 100000 in
theorem judge15_n (m t : ByteArray) (g s : Int) (w : World) (hm : m.size ≤ 1000000) (ht : t.size ≤ 1000000) (hy : mayL (mkL m t g s) = false) :
    Calls Tryd.prog 10 #[.agg #[.string m, .string t, .int .i64 g, .int .i64 s]] w fun e w' => e = .returned (.tuple #[.int .i64 0, .int .i64 8]) ∧ Below w.heap.size w w' := by
  have HY : Hid (∀ W, Calls Tryd.prog 21 #[.agg #[.string m, .string t, .int .i64 g, .int .i64 s]] W fun e w' => e = .returned (.bool false) ∧ Below W.heap.size W w') := Lib.hid fun W => may15 m t g s false W hm ht hy
  clear hm ht hy
  go_enter Tryd.func10, Tryd.ntmps10
  go_wp2_with (first
    | (refine wpList_load_row rfl _ _ rfl w.heap.size rfl 30 #[.string m, .string t, .int .i64 g, .int .i64 s] (0, 0) _ (heap_alloc_new w _) Tryd.underlying30 rfl sizeLn ?_)
    | (go_at_call 21; (with_reducible refine (HY.out _).mono ?_); rintro e w1 ⟨rfl, hb1⟩; have R1 := Lib.hid (kept_heap (heap_alloc_new w (.cells #[.string m, .string t, .int .i64 g, .int .i64 s] 30)) hb1); have B1 := Lib.hid (stp (stpA (Below.refl w.heap.size w) (.cells #[.string m, .string t, .int .i64 g, .int .i64 s] 30)) hb1); clear hb1)
    | fail)
  go_ret2
  exact ⟨rfl, B1.out⟩
set_option maxHeartbeats 4000000 in
set_option maxRecDepth 100000 in
theorem rjudge15_n (m t : ByteArray) (g s : Int) (w : World) (hm : m.size ≤ 1000000) (ht : t.size ≤ 1000000) (hy : mayL (mkL m t g s) = false) :
    Calls Tryd.prog 16 #[.agg #[.string m, .string t, .int .i64 g, .int .i64 s]] w fun e w' => e = .returned (.tuple #[.int .i64 0, .int .i64 8]) ∧ Below w.heap.size w w' := by
  have HY : Hid (∀ W, Calls Tryd.prog 26 #[.agg #[.string m, .string t, .int .i64 g, .int .i64 s]] W fun e w' => e = .returned (.bool false) ∧ Below W.heap.size W w') := Lib.hid fun W => rmay15 m t g s false W hm ht hy
  clear hm ht hy
  go_enter Tryd.func16, Tryd.ntmps16
  go_wp2_with (first
    | (refine wpList_load_row rfl _ _ rfl w.heap.size rfl 30 #[.string m, .string t, .int .i64 g, .int .i64 s] (0, 0) _ (heap_alloc_new w _) Tryd.underlying30 rfl sizeLn ?_)
    | (go_at_call 26; (with_reducible refine (HY.out _).mono ?_); rintro e w1 ⟨rfl, hb1⟩; have R1 := Lib.hid (kept_heap (heap_alloc_new w (.cells #[.string m, .string t, .int .i64 g, .int .i64 s] 30)) hb1); have B1 := Lib.hid (stp (stpA (Below.refl w.heap.size w) (.cells #[.string m, .string t, .int .i64 g, .int .i64 s] 30)) hb1); clear hb1)
    | fail)
  go_ret2
  exact ⟨rfl, B1.out⟩
set_option maxHeartbeats 4000000 in
set_option maxRecDepth 100000 in
theorem rwrite15_y (m t d1 d2 : ByteArray) (g s : Nat) (w : World) (hm : m.size ≤ 1000000) (ht : t.size ≤ 1000000) (hg : g ≤ 9) (hs : s ≤ 9) (h1 : d1 = ⟨(dg g).toArray⟩) (h2 : d2 = ⟨(dg s).toArray⟩) (hy : mayL (mkL m t g s) = true) :
    Calls Tryd.prog 15 #[.agg #[.string m, .string t, .int .i64 (g : Int), .int .i64 (s : Int)]] w fun e w' => e = .returned (.tuple #[.string ((((((m ++ ⟨#[32]⟩) ++ t) ++ ⟨#[32, 72, 84, 84, 80, 47]⟩) ++ d1) ++ ⟨#[46]⟩) ++ d2), .int .i64 0]) ∧ Below w.heap.size w w' := by
  have HY : Hid (∀ W, Calls Tryd.prog 26 #[.agg #[.string m, .string t, .int .i64 (g : Int), .int .i64 (s : Int)]] W fun e w' => e = .returned (.bool true) ∧ Below W.heap.size W w') := Lib.hid fun W => rmay15 m t g s true W hm ht hy
  have HX := Lib.hid fun W => rtext15 m t d1 d2 g s W hm ht hg hs h1 h2
  clear hm ht hg hs h1 h2 hy
  go_enter Tryd.func15, Tryd.ntmps15
  go_wp2_with (first
    | (refine wpList_load_row rfl _ _ rfl w.heap.size rfl 30 #[.string m, .string t, .int .i64 (g : Int), .int .i64 (s : Int)] (0, 0) _ (heap_alloc_new w _) Tryd.underlying30 rfl sizeLn ?_)
    | (refine wpList_load_row rfl _ _ rfl w.heap.size rfl 30 #[.string m, .string t, .int .i64 (g : Int), .int .i64 (s : Int)] (0, 0) _ R1.out Tryd.underlying30 rfl sizeLn ?_)
    | (go_at_call 26; (with_reducible refine (HY.out _).mono ?_); rintro e w1 ⟨rfl, hb1⟩; have R1 := Lib.hid (kept_heap (heap_alloc_new w (.cells #[.string m, .string t, .int .i64 (g : Int), .int .i64 (s : Int)] 30)) hb1); have B1 := Lib.hid (stp (stpA (Below.refl w.heap.size w) (.cells #[.string m, .string t, .int .i64 (g : Int), .int .i64 (s : Int)] 30)) hb1); clear hb1)
    | (go_at_call 27; (with_reducible refine (HX.out _).mono ?_); rintro e w2 ⟨rfl, hb2⟩; have B2 := Lib.hid (stp B1.out hb2); clear hb2)
    | fail)
  go_ret2
  exact ⟨rfl, B2.out⟩
set_option maxHeartbeats 4000000 in
set_option maxRecDepth 100000 in
theorem rjudge15_y (m t : ByteArray) (g s : Int) (w : World) (hm : m.size ≤ 1000000) (ht : t.size ≤ 1000000) (hy : mayL (mkL m t g s) = true) :
    Calls Tryd.prog 16 #[.agg #[.string m, .string t, .int .i64 g, .int .i64 s]] w fun e w' => e = .returned (.tuple #[.int .i64 (judgedL (mkL m t g s)), .int .i64 0]) ∧ Below w.heap.size w w' := by
  obtain ⟨n, hn⟩ : ∃ n, judgedL (mkL m t g s) = n := ⟨_, rfl⟩
  have HY : Hid (∀ W, Calls Tryd.prog 26 #[.agg #[.string m, .string t, .int .i64 g, .int .i64 s]] W fun e w' => e = .returned (.bool true) ∧ Below W.heap.size W w') := Lib.hid fun W => rmay15 m t g s true W hm ht hy
  have HX := Lib.hid fun W => rjudged15 m t g s W
  rw [hn] at HX ⊢
  clear hm ht hy hn
  go_enter Tryd.func16, Tryd.ntmps16
  go_wp2_with (first
    | (refine wpList_load_row rfl _ _ rfl w.heap.size rfl 30 #[.string m, .string t, .int .i64 g, .int .i64 s] (0, 0) _ (heap_alloc_new w _) Tryd.underlying30 rfl sizeLn ?_)
    | (refine wpList_load_row rfl _ _ rfl w.heap.size rfl 30 #[.string m, .string t, .int .i64 g, .int .i64 s] (0, 0) _ R1.out Tryd.underlying30 rfl sizeLn ?_)
    | (go_at_call 26; (with_reducible refine (HY.out _).mono ?_); rintro e w1 ⟨rfl, hb1⟩; have R1 := Lib.hid (kept_heap (heap_alloc_new w (.cells #[.string m, .string t, .int .i64 g, .int .i64 s] 30)) hb1); have B1 := Lib.hid (stp (stpA (Below.refl w.heap.size w) (.cells #[.string m, .string t, .int .i64 g, .int .i64 s] 30)) hb1); clear hb1)
    | (go_at_call 28; (with_reducible refine (HX.out _).mono ?_); rintro e w2 ⟨rfl, hb2⟩; have B2 := Lib.hid (stp B1.out hb2); clear hb2)
    | fail)
  go_ret2
  exact ⟨rfl, B2.out⟩
theorem judge15 (m t : ByteArray) (g s : Int) (n q : Int) (w : World) (hm : m.size ≤ 1000000) (ht : t.size ≤ 1000000) (h : judgeR (mkL m t g s) = (n, q)) :
    Calls Tryd.prog 10 #[.agg #[.string m, .string t, .int .i64 g, .int .i64 s]] w fun e w' => e = .returned (.tuple #[.int .i64 n, .int .i64 q]) ∧ Below w.heap.size w w' := by
  unfold judgeR at h
  by_cases hy : mayL (mkL m t g s) = true
  · rw [if_pos hy] at h
    obtain ⟨rfl, rfl⟩ := (Prod.mk.injEq _ _ _ _).mp h
    exact judge15_y m t g s w hm ht hy
  · rw [if_neg hy] at h
    obtain ⟨rfl, rfl⟩ := (Prod.mk.injEq _ _ _ _).mp h
    exact judge15_n m t g s w hm ht (by simpa using hy)
theorem rjudge15 (m t : ByteArray) (g s : Int) (n q : Int) (w : World) (hm : m.size ≤ 1000000) (ht : t.size ≤ 1000000) (h : judgeR (mkL m t g s) = (n, q)) :
    Calls Tryd.prog 16 #[.agg #[.string m, .string t, .int .i64 g, .int .i64 s]] w fun e w' => e = .returned (.tuple #[.int .i64 n, .int .i64 q]) ∧ Below w.heap.size w w' := by
  unfold judgeR at h
  by_cases hy : mayL (mkL m t g s) = true
  · rw [if_pos hy] at h
    obtain ⟨rfl, rfl⟩ := (Prod.mk.injEq _ _ _ _).mp h
    exact rjudge15_y m t g s w hm ht hy
  · rw [if_neg hy] at h
    obtain ⟨rfl, rfl⟩ := (Prod.mk.injEq _ _ _ _).mp h
    exact rjudge15_n m t g s w hm ht (by simpa using hy)
theorem write15 (m t u : ByteArray) (g s : Int) (q : Int) (w : World) (hm : m.size ≤ 1000000) (ht : t.size ≤ 1000000) (h : writeR15 (mkL m t g s) = (u.data.toList, q)) (hT : Tb w) :
    Calls Tryd.prog 14 #[.agg #[.string m, .string t, .int .i64 g, .int .i64 s]] w fun e w' => e = .returned (.tuple #[.string u, .int .i64 q]) ∧ Below w.heap.size w w' := by
  unfold writeR15 at h
  by_cases hy : mayL (mkL m t g s) = true
  · rw [if_pos hy] at h
    obtain ⟨e1, rfl⟩ := (Prod.mk.injEq _ _ _ _).mp h
    obtain ⟨_, _, h3, h4⟩ := mayL_iff.1 hy
    rw [inP_iff] at h3 h4
    obtain ⟨g, rfl⟩ := Int.eq_ofNat_of_zero_le h3.1
    obtain ⟨s, rfl⟩ := Int.eq_ofNat_of_zero_le h4.1
    have g9 : g ≤ 9 := by have := h3.2; dsimp only [mkL] at this; omega
    have s9 : s ≤ 9 := by have := h4.2; dsimp only [mkL] at this; omega
    refine (write15_y m t _ _ g s w hm ht g9 s9 rfl rfl hy hT).mono ?_
    rintro e w' ⟨rfl, hb⟩
    refine ⟨?_, hb⟩
    congr 3
    congr 2
    refine ba_ext7 ?_
    rw [← e1, text_of rfl rfl]
    simp [bap, http]
  · rw [if_neg hy] at h
    obtain ⟨e1, rfl⟩ := (Prod.mk.injEq _ _ _ _).mp h
    obtain rfl := ba_nil e1
    exact write15_n m t g s w hm ht (by simpa using hy)
theorem rwrite15 (m t u : ByteArray) (g s : Int) (q : Int) (w : World) (hm : m.size ≤ 1000000) (ht : t.size ≤ 1000000) (h : writeR15 (mkL m t g s) = (u.data.toList, q)) :
    Calls Tryd.prog 15 #[.agg #[.string m, .string t, .int .i64 g, .int .i64 s]] w fun e w' => e = .returned (.tuple #[.string u, .int .i64 q]) ∧ Below w.heap.size w w' := by
  unfold writeR15 at h
  by_cases hy : mayL (mkL m t g s) = true
  · rw [if_pos hy] at h
    obtain ⟨e1, rfl⟩ := (Prod.mk.injEq _ _ _ _).mp h
    obtain ⟨_, _, h3, h4⟩ := mayL_iff.1 hy
    rw [inP_iff] at h3 h4
    obtain ⟨g, rfl⟩ := Int.eq_ofNat_of_zero_le h3.1
    obtain ⟨s, rfl⟩ := Int.eq_ofNat_of_zero_le h4.1
    have g9 : g ≤ 9 := by have := h3.2; dsimp only [mkL] at this; omega
    have s9 : s ≤ 9 := by have := h4.2; dsimp only [mkL] at this; omega
    refine (rwrite15_y m t _ _ g s w hm ht g9 s9 rfl rfl hy).mono ?_
    rintro e w' ⟨rfl, hb⟩
    refine ⟨?_, hb⟩
    congr 3
    congr 2
    refine ba_ext7 ?_
    rw [← e1, text_of rfl rfl]
    simp [bap, http]
  · rw [if_neg hy] at h
    obtain ⟨e1, rfl⟩ := (Prod.mk.injEq _ _ _ _).mp h
    obtain rfl := ba_nil e1
    exact rwrite15_n m t g s w hm ht (by simpa using hy)
end Hx
end Go.Proofs.YtagngohemlkkoaaDoor
