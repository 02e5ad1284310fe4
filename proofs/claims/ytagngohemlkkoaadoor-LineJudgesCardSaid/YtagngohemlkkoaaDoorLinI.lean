/-
  The document's Parse.
-/
import Derived.Test.YtagngohemlkkoaaDoorLinH
import Derived.Test.YtagngohemlkkoaaDoorLinC
import Derived.BigRegion
namespace Go.Proofs.YtagngohemlkkoaaDoor
open Go.RowKit
namespace Hx
open As Ln Nmb
set_option linter.unusedVariables false
set_option linter.unusedSimpArgs false
theorem rcutn (s : ByteArray) (n : Nat) (w : World) (hm : s.size ≤ 1000000) (h : (cutB s.data.toList).length = n) :
    Calls Tryd.prog 25 #[.string s, .int .u8 32] w fun e w' => Below w.heap.size w w' ∧ ∃ A c, e = .returned (.slice A n c) := by
  refine (rcutB s w hm).mono ?_
  rintro e w' ⟨hb, A, c, he, _, _⟩
  exact ⟨hb, A, c, by rw [← h]; exact he⟩
/-- Three parts, where they lie. -/
def Cut3 (a b v : ByteArray) (w : World) (e : Ending) (w' : World) : Prop := Below w.heap.size w w' ∧ ∃ g o c, e = .returned (.slice (some ⟨g, o, none⟩) 3 c) ∧ g < w'.heap.size ∧ w'.cell? ⟨g, o, none⟩ = some (.string a) ∧ w'.cell? ⟨g, o + 1, none⟩ = some (.string b) ∧ w'.cell? ⟨g, o + 2, none⟩ = some (.string v)
theorem rcut3 (s a b v : ByteArray) (w : World) (hm : s.size ≤ 1000000) (h : cutB s.data.toList = [a.data.toList, b.data.toList, v.data.toList]) :
    Calls Tryd.prog 25 #[.string s, .int .u8 32] w (Cut3 a b v w) := by
  refine (rcutB s w hm).mono ?_
  rintro e w' ⟨hb, A, c, he, _, hr⟩
  rw [h] at he hr
  have ea : mkB a.data.toList = a := ba_ext7 rfl
  have eb : mkB b.data.toList = b := ba_ext7 rfl
  have ev : mkB v.data.toList = v := ba_ext7 rfl
  simp only [List.map_cons, List.map_nil, ea, eb, ev] at hr
  obtain ⟨g, o, rfl, hg, hc⟩ := hr (by simp)
  exact ⟨hb, g, o, c, he, hg, hc 0 (by simp), hc 1 (by simp), hc 2 (by simp)⟩
set_option maxHeartbeats 8000000 in
set_option maxRecDepth 100000 in
theorem rpar_0 (s : ByteArray) (n : Nat) (w : World) (hm : s.size ≤ 1000000) (h : (cutB s.data.toList).length = n) (h3 : n ≠ 3) :
    Calls Tryd.prog 13 #[.string s] w fun e w' => e = .returned (.tuple #[.agg #[.string ⟨#[]⟩, .string ⟨#[]⟩, .int .i64 0, .int .i64 0], .int .i64 150]) ∧ Below w.heap.size w w' := by
  have HC := Lib.hid fun W => rcutn s n W hm h
  have d1 : ((n : Int) != 3) = true := by simp; omega
  have d2 : ((n : Int) == 3) = false := by simp; omega
  have d3 : (n != 3) = true := by simpa using h3
  clear hm h h3
  go_enter Tryd.func13, Tryd.ntmps13
  go_wp2_with (first
    | (go_at_call 25; (with_reducible refine (HC.out _).mono ?_); rintro e w1 ⟨hb1, A, c, rfl⟩; have HG1 := Lib.hid (kept_heap (heap_alloc_new w (.cells zLn 30)) hb1); have HB1 := Lib.hid (stp (stpA (Below.refl w.heap.size w) (.cells zLn 30)) hb1); clear hb1)
    | (refine wpList_store_row rfl _ _ _ rfl w.heap.size #[.string ⟨#[]⟩, .string ⟨#[]⟩, .int .i64 0, .int .i64 0] rfl rfl 30 zLn HG1.out sizeLn rfl (oneLn _ _ _ _) ?_)
    | fail)
  exact bodyPost_ret (v := .tuple #[.agg #[.string ⟨#[]⟩, .string ⟨#[]⟩, .int .i64 0, .int .i64 0], .int .i64 150]) (rcell2 (p := 2) (q := 3) rfl _ _ _ _ #[.string ⟨#[]⟩, .string ⟨#[]⟩, .int .i64 0, .int .i64 0] _ _ rfl (setRow_heap _ _ _ #[.string ⟨#[]⟩, .string ⟨#[]⟩, .int .i64 0, .int .i64 0] _ _ HG1.out) Tryd.underlying30 rfl sizeLn) rfl ⟨rfl, below_setRowV HB1.out (Nat.le_refl _) _⟩
set_option maxHeartbeats 8000000 in
set_option maxRecDepth 100000 in
theorem rpar_1 (s a b v : ByteArray) (w : World) (hm : s.size ≤ 1000000) (h : cutB s.data.toList = [a.data.toList, b.data.toList, v.data.toList]) (h8 : v.size ≠ 8) :
    Calls Tryd.prog 13 #[.string s] w fun e w' => e = .returned (.tuple #[.agg #[.string ⟨#[]⟩, .string ⟨#[]⟩, .int .i64 0, .int .i64 0], .int .i64 150]) ∧ Below w.heap.size w w' := by
  have HC := Lib.hid fun W => rcut3 s a b v W hm h
  have d1 : ((v.size : Int) != 8) = true := by simp; omega
  have d2 : ((v.size : Int) == 8) = false := by simp; omega
  have d3 : (v.size != 8) = true := by simpa using h8
  clear hm h h8
  go_enter Tryd.func13, Tryd.ntmps13
  go_wp2_with (first
    | (go_at_call 25; (with_reducible refine (HC.out _).mono ?_); rintro e w1 ⟨hb1, g0, o0, c0, rfl, hg0, k0, k1, k2⟩; have HG1 := Lib.hid (kept_heap (heap_alloc_new w (.cells zLn 30)) hb1); have HB1 := Lib.hid (stp (stpA (Below.refl w.heap.size w) (.cells zLn 30)) hb1); clear hb1)
    | (refine wpList_store_row rfl _ _ _ rfl w.heap.size #[.string ⟨#[]⟩, .string ⟨#[]⟩, .int .i64 0, .int .i64 0] rfl rfl 30 zLn HG1.out sizeLn rfl (oneLn _ _ _ _) ?_)
    | fail)
  exact bodyPost_ret (v := .tuple #[.agg #[.string ⟨#[]⟩, .string ⟨#[]⟩, .int .i64 0, .int .i64 0], .int .i64 150]) (rcell2 (p := 2) (q := 3) rfl _ _ _ _ #[.string ⟨#[]⟩, .string ⟨#[]⟩, .int .i64 0, .int .i64 0] _ _ rfl (setRow_heap _ _ _ #[.string ⟨#[]⟩, .string ⟨#[]⟩, .int .i64 0, .int .i64 0] _ _ HG1.out) Tryd.underlying30 rfl sizeLn) rfl ⟨rfl, below_setRowV HB1.out (Nat.le_refl _) _⟩
set_option maxHeartbeats 8000000 in
set_option maxRecDepth 100000 in
theorem rpar_n (s a b v : ByteArray) (c5 c7 : UInt8) (G S : Int) (w : World) (hm : s.size ≤ 1000000) (ha : a.size ≤ 1000000) (hb : b.size ≤ 1000000) (h : cutB s.data.toList = [a.data.toList, b.data.toList, v.data.toList]) (h8 : v.size = 8) (h5 : ∀ h, v[5]'h = c5) (h7 : ∀ h, v[7]'h = c7) (hG : (c5.toNat : Int) - 48 = G) (hS : (c7.toNat : Int) - 48 = S) (hy : mayL (mkL a b G S) = false) :
    Calls Tryd.prog 13 #[.string s] w fun e w' => e = .returned (.tuple #[.agg #[.string ⟨#[]⟩, .string ⟨#[]⟩, .int .i64 0, .int .i64 0], .int .i64 150]) ∧ Below w.heap.size w w' := by
  have HC := Lib.hid fun W => rcut3 s a b v W hm h
  have d1_ : ((v.size : Int) != 8) = false := by simp; omega
  have d2_ : ((v.size : Int) == 8) = true := by simp; omega
  have d3_ : (v.size != 8) = false := by simpa using h8
  have b5 : (5 : Int) < (v.size : Int) := by omega
  have b7 : (7 : Int) < (v.size : Int) := by omega
  have n5 : 5 < v.size := by omega
  have n7 : 7 < v.size := by omega
  have l5 := c5.toNat_lt
  have l7 := c7.toNat_lt
  have u5 : IntKind.i64.wrap (c5.toNat : Int) = (c5.toNat : Int) := IntWalk.i64_in _ (by omega)
  have u7 : IntKind.i64.wrap (c7.toNat : Int) = (c7.toNat : Int) := IntWalk.i64_in _ (by omega)
  have v5 : IntKind.i64.wrap ((c5.toNat : Int) - 48) = G := by rw [IntWalk.i64_in _ (by omega)]; exact hG
  have v7 : IntKind.i64.wrap ((c7.toNat : Int) - 48) = S := by rw [IntWalk.i64_in _ (by omega)]; exact hS
  have HY := Lib.hid fun W => rmay15 a b G S false W ha hb hy
  clear hm ha hb h hG hS hy h8
  go_enter Tryd.func13, Tryd.ntmps13
  go_wp2_with (first
    | (go_at_call 25; (with_reducible refine (HC.out _).mono ?_); rintro e w1 ⟨hb1, g0, o0, c0, rfl, hg0, k0, k1, k2⟩; have HG1 := Lib.hid (kept_heap (heap_alloc_new w (.cells zLn 30)) hb1); have HB1 := Lib.hid (stp (stpA (Below.refl w.heap.size w) (.cells zLn 30)) hb1); clear hb1)
    | fail)
  go_region
  obtain ⟨W2, hW2, hr2, hb2⟩ : ∃ W, (w1.alloc (.cells #[.string a, .string b, .int .i64 G, .int .i64 S] 30)).drew = W ∧ W.heap[w1.heap.size]? = some (.cells #[.string a, .string b, .int .i64 G, .int .i64 S] 30 (0, 0)) ∧ Below w1.heap.size w1 W := ⟨_, rfl, heap_alloc_new w1 _, (stpA (Below.refl _ _) _).drew⟩
  rw [hW2]
  have HG2 := Lib.hid (kept_heap HG1.out hb2)
  have HB2 := Lib.hid (stp HB1.out hb2)
  have HR2 := Lib.hid hr2
  clear hW2 hr2 hb2 k0 k1 k2
  go_wp2_with (first
    | (refine wpList_load_row rfl _ _ rfl w1.heap.size rfl 30 #[.string a, .string b, .int .i64 G, .int .i64 S] (0, 0) _ HR2.out Tryd.underlying30 rfl sizeLn ?_)
    | (go_at_call 26; (with_reducible refine (HY.out _).mono ?_); rintro e w3 ⟨rfl, hb3⟩; have HG3 := Lib.hid (kept_heap HG2.out hb3); have HR3 := Lib.hid (kept_heap HR2.out hb3); have HB3 := Lib.hid (stp HB2.out hb3); clear hb3)
    | (refine wpList_store_row rfl _ _ _ rfl w.heap.size #[.string ⟨#[]⟩, .string ⟨#[]⟩, .int .i64 0, .int .i64 0] rfl rfl 30 zLn HG3.out sizeLn rfl (oneLn _ _ _ _) ?_)
    | fail)
  exact bodyPost_ret (v := .tuple #[.agg #[.string ⟨#[]⟩, .string ⟨#[]⟩, .int .i64 0, .int .i64 0], .int .i64 150]) (rcell2 (p := 2) (q := 3) rfl _ _ _ _ #[.string ⟨#[]⟩, .string ⟨#[]⟩, .int .i64 0, .int .i64 0] _ _ rfl (setRow_heap _ _ _ #[.string ⟨#[]⟩, .string ⟨#[]⟩, .int .i64 0, .int .i64 0] _ _ HG3.out) Tryd.underlying30 rfl sizeLn) rfl ⟨rfl, below_setRowV HB3.out (Nat.le_refl _) _⟩
set_option maxHeartbeats 8000000 in
set_option maxRecDepth 100000 in
theorem rpar_t (s a b v : ByteArray) (c5 c7 : UInt8) (g k : Nat) (d1 d2 u : ByteArray) (w : World) (hm : s.size ≤ 1000000) (ha : a.size ≤ 1000000) (hb : b.size ≤ 1000000) (h : cutB s.data.toList = [a.data.toList, b.data.toList, v.data.toList]) (h8 : v.size = 8) (h5 : ∀ h, v[5]'h = c5) (h7 : ∀ h, v[7]'h = c7) (hG : (c5.toNat : Int) - 48 = (g : Int)) (hS : (c7.toNat : Int) - 48 = (k : Int)) (hy : mayL (mkL a b g k) = true) (hg : g ≤ 9) (hk : k ≤ 9) (hd1 : d1 = ⟨(dg g).toArray⟩) (hd2 : d2 = ⟨(dg k).toArray⟩) (hU : ((((((a ++ ⟨#[32]⟩) ++ b) ++ ⟨#[32, 72, 84, 84, 80, 47]⟩) ++ d1) ++ ⟨#[46]⟩) ++ d2) = u) (hu : decide (u = s) = false) :
    Calls Tryd.prog 13 #[.string s] w fun e w' => e = .returned (.tuple #[.agg #[.string ⟨#[]⟩, .string ⟨#[]⟩, .int .i64 0, .int .i64 0], .int .i64 150]) ∧ Below w.heap.size w w' := by
  have HC := Lib.hid fun W => rcut3 s a b v W hm h
  have d1_ : ((v.size : Int) != 8) = false := by simp; omega
  have d2_ : ((v.size : Int) == 8) = true := by simp; omega
  have d3_ : (v.size != 8) = false := by simpa using h8
  have b5 : (5 : Int) < (v.size : Int) := by omega
  have b7 : (7 : Int) < (v.size : Int) := by omega
  have n5 : 5 < v.size := by omega
  have n7 : 7 < v.size := by omega
  have l5 := c5.toNat_lt
  have l7 := c7.toNat_lt
  have u5 : IntKind.i64.wrap (c5.toNat : Int) = (c5.toNat : Int) := IntWalk.i64_in _ (by omega)
  have u7 : IntKind.i64.wrap (c7.toNat : Int) = (c7.toNat : Int) := IntWalk.i64_in _ (by omega)
  have v5 : IntKind.i64.wrap ((c5.toNat : Int) - 48) = (g : Int) := by rw [IntWalk.i64_in _ (by omega)]; exact hG
  have v7 : IntKind.i64.wrap ((c7.toNat : Int) - 48) = (k : Int) := by rw [IntWalk.i64_in _ (by omega)]; exact hS
  have HY := Lib.hid fun W => rmay15 a b g k true W ha hb hy
  have HX := Lib.hid fun W => rtext15 a b d1 d2 g k W ha hb hg hk hd1 hd2
  rw [hU] at HX
  have e1 : (u.toList == s.toList) = false := (seq_b7 u s).trans hu
  have e2 : (u.toList != s.toList) = true := by rw [bne, e1]; rfl
  clear hU hg hk hd1 hd2 hu
  clear hm ha hb h hG hS hy h8
  go_enter Tryd.func13, Tryd.ntmps13
  go_wp2_with (first
    | (go_at_call 25; (with_reducible refine (HC.out _).mono ?_); rintro e w1 ⟨hb1, g0, o0, c0, rfl, hg0, k0, k1, k2⟩; have HG1 := Lib.hid (kept_heap (heap_alloc_new w (.cells zLn 30)) hb1); have HB1 := Lib.hid (stp (stpA (Below.refl w.heap.size w) (.cells zLn 30)) hb1); clear hb1)
    | fail)
  go_region
  obtain ⟨W2, hW2, hr2, hb2⟩ : ∃ W, (w1.alloc (.cells #[.string a, .string b, .int .i64 (g : Int), .int .i64 (k : Int)] 30)).drew = W ∧ W.heap[w1.heap.size]? = some (.cells #[.string a, .string b, .int .i64 (g : Int), .int .i64 (k : Int)] 30 (0, 0)) ∧ Below w1.heap.size w1 W := ⟨_, rfl, heap_alloc_new w1 _, (stpA (Below.refl _ _) _).drew⟩
  rw [hW2]
  have HG2 := Lib.hid (kept_heap HG1.out hb2)
  have HB2 := Lib.hid (stp HB1.out hb2)
  have HR2 := Lib.hid hr2
  clear hW2 hr2 hb2 k0 k1 k2
  go_wp2_with (first
    | (refine wpList_load_row rfl _ _ rfl w1.heap.size rfl 30 #[.string a, .string b, .int .i64 (g : Int), .int .i64 (k : Int)] (0, 0) _ HR2.out Tryd.underlying30 rfl sizeLn ?_)
    | (go_at_call 26; (with_reducible refine (HY.out _).mono ?_); rintro e w3 ⟨rfl, hb3⟩; have HG3 := Lib.hid (kept_heap HG2.out hb3); have HR3 := Lib.hid (kept_heap HR2.out hb3); have HB3 := Lib.hid (stp HB2.out hb3); clear hb3; have q0 : w3.cell? ⟨w1.heap.size, 0, none⟩ = some (.string a) := cell_of_row _ _ 0 _ _ _ HR3.out; have q1 : w3.cell? ⟨w1.heap.size, 1, none⟩ = some (.string b) := cell_of_row _ _ 1 _ _ _ HR3.out; have q2 : w3.cell? ⟨w1.heap.size, 2, none⟩ = some (.int .i64 (g : Int)) := cell_of_row _ _ 2 _ _ _ HR3.out; have q3 : w3.cell? ⟨w1.heap.size, 3, none⟩ = some (.int .i64 (k : Int)) := cell_of_row _ _ 3 _ _ _ HR3.out)
    | (go_at_call 27; (with_reducible refine (HX.out _).mono ?_); rintro e w4 ⟨rfl, hb4⟩; have HG4 := Lib.hid (kept_heap HG3.out hb4); have HR4 := Lib.hid (kept_heap HR3.out hb4); have HB4 := Lib.hid (stp HB3.out hb4); clear hb4)
    | (refine wpList_store_row rfl _ _ _ rfl w.heap.size #[.string ⟨#[]⟩, .string ⟨#[]⟩, .int .i64 0, .int .i64 0] rfl rfl 30 zLn HG4.out sizeLn rfl (oneLn _ _ _ _) ?_)
    | fail)
  exact bodyPost_ret (v := .tuple #[.agg #[.string ⟨#[]⟩, .string ⟨#[]⟩, .int .i64 0, .int .i64 0], .int .i64 150]) (rcell2 (p := 2) (q := 3) rfl _ _ _ _ #[.string ⟨#[]⟩, .string ⟨#[]⟩, .int .i64 0, .int .i64 0] _ _ rfl (setRow_heap _ _ _ #[.string ⟨#[]⟩, .string ⟨#[]⟩, .int .i64 0, .int .i64 0] _ _ HG4.out) Tryd.underlying30 rfl sizeLn) rfl ⟨rfl, below_setRowV HB4.out (Nat.le_refl _) _⟩
set_option maxHeartbeats 8000000 in
set_option maxRecDepth 100000 in
theorem rpar_y (s a b v : ByteArray) (c5 c7 : UInt8) (g k : Nat) (d1 d2 u : ByteArray) (w : World) (hm : s.size ≤ 1000000) (ha : a.size ≤ 1000000) (hb : b.size ≤ 1000000) (h : cutB s.data.toList = [a.data.toList, b.data.toList, v.data.toList]) (h8 : v.size = 8) (h5 : ∀ h, v[5]'h = c5) (h7 : ∀ h, v[7]'h = c7) (hG : (c5.toNat : Int) - 48 = (g : Int)) (hS : (c7.toNat : Int) - 48 = (k : Int)) (hy : mayL (mkL a b g k) = true) (hg : g ≤ 9) (hk : k ≤ 9) (hd1 : d1 = ⟨(dg g).toArray⟩) (hd2 : d2 = ⟨(dg k).toArray⟩) (hU : ((((((a ++ ⟨#[32]⟩) ++ b) ++ ⟨#[32, 72, 84, 84, 80, 47]⟩) ++ d1) ++ ⟨#[46]⟩) ++ d2) = u) (hu : decide (u = s) = true) :
    Calls Tryd.prog 13 #[.string s] w fun e w' => e = .returned (.tuple #[.agg #[.string a, .string b, .int .i64 (g : Int), .int .i64 (k : Int)], .int .i64 0]) ∧ Below w.heap.size w w' := by
  have HC := Lib.hid fun W => rcut3 s a b v W hm h
  have d1_ : ((v.size : Int) != 8) = false := by simp; omega
  have d2_ : ((v.size : Int) == 8) = true := by simp; omega
  have d3_ : (v.size != 8) = false := by simpa using h8
  have b5 : (5 : Int) < (v.size : Int) := by omega
  have b7 : (7 : Int) < (v.size : Int) := by omega
  have n5 : 5 < v.size := by omega
  have n7 : 7 < v.size := by omega
  have l5 := c5.toNat_lt
  have l7 := c7.toNat_lt
  have u5 : IntKind.i64.wrap (c5.toNat : Int) = (c5.toNat : Int) := IntWalk.i64_in _ (by omega)
  have u7 : IntKind.i64.wrap (c7.toNat : Int) = (c7.toNat : Int) := IntWalk.i64_in _ (by omega)
  have v5 : IntKind.i64.wrap ((c5.toNat : Int) - 48) = (g : Int) := by rw [IntWalk.i64_in _ (by omega)]; exact hG
  have v7 : IntKind.i64.wrap ((c7.toNat : Int) - 48) = (k : Int) := by rw [IntWalk.i64_in _ (by omega)]; exact hS
  have HY := Lib.hid fun W => rmay15 a b g k true W ha hb hy
  have HX := Lib.hid fun W => rtext15 a b d1 d2 g k W ha hb hg hk hd1 hd2
  rw [hU] at HX
  have e1 : (u.toList == s.toList) = true := (seq_b7 u s).trans hu
  have e2 : (u.toList != s.toList) = false := by rw [bne, e1]; rfl
  clear hU hg hk hd1 hd2 hu
  clear hm ha hb h hG hS hy h8
  go_enter Tryd.func13, Tryd.ntmps13
  go_wp2_with (first
    | (go_at_call 25; (with_reducible refine (HC.out _).mono ?_); rintro e w1 ⟨hb1, g0, o0, c0, rfl, hg0, k0, k1, k2⟩; have HG1 := Lib.hid (kept_heap (heap_alloc_new w (.cells zLn 30)) hb1); have HB1 := Lib.hid (stp (stpA (Below.refl w.heap.size w) (.cells zLn 30)) hb1); clear hb1)
    | fail)
  go_region
  obtain ⟨W2, hW2, hr2, hb2⟩ : ∃ W, (w1.alloc (.cells #[.string a, .string b, .int .i64 (g : Int), .int .i64 (k : Int)] 30)).drew = W ∧ W.heap[w1.heap.size]? = some (.cells #[.string a, .string b, .int .i64 (g : Int), .int .i64 (k : Int)] 30 (0, 0)) ∧ Below w1.heap.size w1 W := ⟨_, rfl, heap_alloc_new w1 _, (stpA (Below.refl _ _) _).drew⟩
  rw [hW2]
  have HG2 := Lib.hid (kept_heap HG1.out hb2)
  have HB2 := Lib.hid (stp HB1.out hb2)
  have HR2 := Lib.hid hr2
  clear hW2 hr2 hb2 k0 k1 k2
  go_wp2_with (first
    | (refine wpList_load_row rfl _ _ rfl w1.heap.size rfl 30 #[.string a, .string b, .int .i64 (g : Int), .int .i64 (k : Int)] (0, 0) _ HR2.out Tryd.underlying30 rfl sizeLn ?_)
    | (go_at_call 26; (with_reducible refine (HY.out _).mono ?_); rintro e w3 ⟨rfl, hb3⟩; have HG3 := Lib.hid (kept_heap HG2.out hb3); have HR3 := Lib.hid (kept_heap HR2.out hb3); have HB3 := Lib.hid (stp HB2.out hb3); clear hb3; have q0 : w3.cell? ⟨w1.heap.size, 0, none⟩ = some (.string a) := cell_of_row _ _ 0 _ _ _ HR3.out; have q1 : w3.cell? ⟨w1.heap.size, 1, none⟩ = some (.string b) := cell_of_row _ _ 1 _ _ _ HR3.out; have q2 : w3.cell? ⟨w1.heap.size, 2, none⟩ = some (.int .i64 (g : Int)) := cell_of_row _ _ 2 _ _ _ HR3.out; have q3 : w3.cell? ⟨w1.heap.size, 3, none⟩ = some (.int .i64 (k : Int)) := cell_of_row _ _ 3 _ _ _ HR3.out)
    | (go_at_call 27; (with_reducible refine (HX.out _).mono ?_); rintro e w4 ⟨rfl, hb4⟩; have HG4 := Lib.hid (kept_heap HG3.out hb4); have HR4 := Lib.hid (kept_heap HR3.out hb4); have HB4 := Lib.hid (stp HB3.out hb4); clear hb4)
    | (refine wpList_load_row rfl _ _ rfl w1.heap.size rfl 30 #[.string a, .string b, .int .i64 (g : Int), .int .i64 (k : Int)] (0, 0) _ HR4.out Tryd.underlying30 rfl sizeLn ?_)
    | (refine wpList_store_row rfl _ _ _ rfl w.heap.size #[.string a, .string b, .int .i64 (g : Int), .int .i64 (k : Int)] rfl rfl 30 zLn HG4.out sizeLn rfl (oneLn _ _ _ _) ?_)
    | fail)
  exact bodyPost_ret (v := .tuple #[.agg #[.string a, .string b, .int .i64 (g : Int), .int .i64 (k : Int)], .int .i64 0]) (rcell2 (p := 2) (q := 3) rfl _ _ _ _ #[.string a, .string b, .int .i64 (g : Int), .int .i64 (k : Int)] _ _ rfl (setRow_heap _ _ _ #[.string a, .string b, .int .i64 (g : Int), .int .i64 (k : Int)] _ _ HG4.out) Tryd.underlying30 rfl sizeLn) rfl ⟨rfl, below_setRowV HB4.out (Nat.le_refl _) _⟩
theorem may_nat {m t : ByteArray} {g s : Int} (h : mayL (mkL m t g s) = true) : ∃ a b : Nat, g = a ∧ s = b ∧ a ≤ 9 ∧ b ≤ 9 := by
  obtain ⟨_, _, h3, h4⟩ := mayL_iff.1 h
  rw [inP_iff] at h3 h4
  dsimp only [mkL] at h3 h4
  exact ⟨g.toNat, s.toNat, by omega, by omega, by omega, by omega⟩
theorem byte_of {v : ByteArray} {k : Nat} (h : k < v.size) : ∃ c, (∀ h, v[k]'h = c) ∧ v.data.toList.getD k 0 = c := by
  obtain ⟨c, hc, hat⟩ := byte_at v k h
  exact ⟨c, hat, by rw [List.getD_eq_getElem?_getD, hc]; rfl⟩
theorem cutG_mem (l : List UInt8) : ∀ cur, ∀ p ∈ cutG cur l, p.length ≤ cur.length + l.length := by
  induction l with
  | nil => intro cur p hp; simp [cutG] at hp; subst hp; simp
  | cons c l ih =>
    intro cur p hp
    rw [cutG] at hp
    split at hp
    · rcases List.mem_cons.1 hp with rfl | hp
      · simp
      · have := ih [] p hp
        simp only [List.length_nil, List.length_cons] at this ⊢
        omega
    · have := ih _ p hp
      simp only [List.length_append, List.length_cons, List.length_nil] at this ⊢
      omega
theorem rpar15 (s m t : ByteArray) (g k : Nat) (q : Int) (w : World) (hm : s.size ≤ 1000000) (h : parR s.data.toList = (m.data.toList, t.data.toList, g, k, q)) :
    Calls Tryd.prog 13 #[.string s] w fun e w' => e = .returned (.tuple #[.agg #[.string m, .string t, .int .i64 g, .int .i64 k], .int .i64 q]) ∧ Below w.heap.size w w' := by
  unfold parR at h
  rw [← rparse_eq] at h
  have none : rparseL s.data.toList = none → (m = ⟨#[]⟩ ∧ t = ⟨#[]⟩ ∧ g = 0 ∧ k = 0 ∧ q = 150) := by
    intro hn
    rw [hn] at h
    obtain ⟨h1, h⟩ := (Prod.mk.injEq _ _ _ _).mp h
    obtain ⟨h2, h⟩ := (Prod.mk.injEq _ _ _ _).mp h
    cases h
    exact ⟨(ba_nil h1).symm, (ba_nil h2).symm, rfl, rfl, rfl⟩
  by_cases h3 : (cutB s.data.toList).length = 3
  · match hc : cutB s.data.toList, h3 with
    | [x, y, z], _ =>
      have hin : ∀ p ∈ [x, y, z], p.length ≤ 1000000 := by
        intro p hp
        have := cutG_mem s.data.toList [] p (by rw [← hc] at hp; exact hp)
        rw [ba_len7, List.length_nil] at this
        omega
      obtain ⟨a, rfl⟩ := ba_ex x
      obtain ⟨b, rfl⟩ := ba_ex y
      obtain ⟨v, rfl⟩ := ba_ex z
      have ha : a.size ≤ 1000000 := by rw [← ba_len7]; exact hin _ (by simp)
      have hb : b.size ≤ 1000000 := by rw [← ba_len7]; exact hin _ (by simp)
      have hr : rparseL s.data.toList = fromB s.data.toList a.data.toList b.data.toList v.data.toList := by unfold rparseL; rw [hc]
      by_cases h8 : v.size = 8
      · obtain ⟨c5, h5, g5⟩ := byte_of (v := v) (k := 5) (by omega)
        obtain ⟨c7, h7, g7⟩ := byte_of (v := v) (k := 7) (by omega)
        unfold fromB at hr
        rw [if_pos (by rw [ba_len7]; exact h8), g5, g7] at hr
        cases hy : mayL (mkL a b ((c5.toNat : Int) - 48) ((c7.toNat : Int) - 48)) with
        | false =>
          rw [if_neg (fun e => by have := e.1; rw [show (Li.mk a.data.toList b.data.toList ((c5.toNat : Int) - 48) ((c7.toNat : Int) - 48)) = mkL a b ((c5.toNat : Int) - 48) ((c7.toNat : Int) - 48) from rfl, hy] at this; cases this)] at hr
          obtain ⟨rfl, rfl, rfl, rfl, rfl⟩ := none hr
          exact rpar_n s a b v c5 c7 _ _ w hm ha hb hc h8 h5 h7 rfl rfl hy
        | true =>
          obtain ⟨n1, n2, e1, e2, l1, l2⟩ := may_nat hy
          have ht := text_of (m := a) (t := b) (g := n1) (s := n2) rfl rfl
          rw [e1, e2] at hy
          by_cases hu : textL (mkL a b n1 n2) = s.data.toList
          · rw [if_pos ⟨by rw [e1, e2]; exact hy, by rw [e1, e2]; exact hu⟩, e1, e2] at hr
            rw [hr] at h
            obtain ⟨h1, h⟩ := (Prod.mk.injEq _ _ _ _).mp h
            obtain ⟨h2, h⟩ := (Prod.mk.injEq _ _ _ _).mp h
            obtain ⟨h3, h⟩ := (Prod.mk.injEq _ _ _ _).mp h
            obtain ⟨h4, h5'⟩ := (Prod.mk.injEq _ _ _ _).mp h
            dsimp only at h1 h2 h3 h4
            rw [Int.toNat_natCast] at h3 h4
            obtain rfl : a = m := ba_ext7 h1
            obtain rfl : b = t := ba_ext7 h2
            subst h3 h4 h5'
            refine rpar_y s a b v c5 c7 n1 n2 _ _ _ w hm ha hb hc h8 h5 h7 e1 e2 hy l1 l2 rfl rfl rfl (decide_eq_true (ba_ext7 ?_))
            rw [← hu, ht]
            simp [bap, http]
          · rw [if_neg (fun e => hu (by have := e.2; rw [e1, e2] at this; exact this))] at hr
            obtain ⟨rfl, rfl, rfl, rfl, rfl⟩ := none hr
            refine rpar_t s a b v c5 c7 n1 n2 _ _ _ w hm ha hb hc h8 h5 h7 e1 e2 hy l1 l2 rfl rfl rfl (decide_eq_false fun e => hu ?_)
            rw [ht, ← e]
            simp [bap, http]
      · unfold fromB at hr
        rw [if_neg (by rw [ba_len7]; exact h8)] at hr
        obtain ⟨rfl, rfl, rfl, rfl, rfl⟩ := none hr
        exact rpar_1 s a b v w hm hc h8
  · have hr : rparseL s.data.toList = Option.none := by
      unfold rparseL
      split
      · rename_i e; rw [e] at h3; exact absurd rfl h3
      · rfl
    obtain ⟨rfl, rfl, rfl, rfl, rfl⟩ := none hr
    exact rpar_0 s _ w hm rfl h3
end Hx
end Go.Proofs.YtagngohemlkkoaaDoor
