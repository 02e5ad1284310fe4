/-
  Package line as it landed: what a text tells.
-/
import Derived.Test.YtagngohemlkkoaaDoorLinD
namespace Go.Proofs.YtagngohemlkkoaaDoor
open Go.RowKit
namespace Hx
open As Ln Nmb
set_option linter.unusedVariables false
def numsR (l : List UInt8) : Nat × Nat × Int := match numsL l with
  | some (g, k) => (g, k, 0)
  | none => (0, 0, 150)
def verQ (l : List UInt8) : Nat × Nat × Int := match verL l with
  | some (g, k) => (g, k, 0)
  | none => (0, 0, 150)
def behR (l : List UInt8) : List UInt8 × Nat × Nat × Int := match behindL l with
  | some (t, g, k) => (t, g, k, 0)
  | none => ([], 0, 0, 150)
def parR (l : List UInt8) : List UInt8 × List UInt8 × Nat × Nat × Int := match parseL l with
  | some x => (x.meth, x.targ, x.great.toNat, x.small.toNat, 0)
  | none => ([], [], 0, 0, 150)
theorem ba_ex (a : List UInt8) : ∃ p : ByteArray, p.data.toList = a := ⟨⟨a.toArray⟩, rfl⟩
theorem ba_nil {t : ByteArray} (h : [] = t.data.toList) : ⟨#[]⟩ = t := ba_ext7 h
theorem cut_sz {c : UInt8} {s p r : ByteArray} (h : cutAt c s.data.toList = some (p.data.toList, r.data.toList)) : p.size ≤ s.size ∧ r.size ≤ s.size := by
  have h1 := congrArg List.length (cutAt_some h).1
  rw [List.length_append, List.length_cons, ba_len7, ba_len7, ba_len7] at h1
  omega
theorem digB (s : ByteArray) (n : Nat) (q : Int) (hm : s.size ≤ 1000000) (h : digR s.data.toList = (n, q)) (w : World) :
    Calls Tryd.prog 51 #[.string s] w fun e w' => e = .returned (.tuple #[.int .i64 n, .int .i64 q]) ∧ Below w.heap.size w w' :=
  (dig15 s n q w hm h).mono fun e w' ⟨h1, h2⟩ => ⟨h1, h2 ▸ Below.refl _ _⟩
theorem bothI (s : ByteArray) (g k : Nat) (q : Int) (w : World) (hm : s.size ≤ 1000000) (h : numsR s.data.toList = (g, k, q)) :
    Calls Tryd.prog 50 #[.string s, .string ⟨#[46]⟩, .func (.func 51) #[] #[], .func (.func 51) #[] #[]] w fun e w' => e = .returned (.tuple #[.int .i64 g, .int .i64 k, .int .i64 q]) ∧ Below w.heap.size w w' := by
  unfold numsR numsL at h
  cases hc : cutAt 46 s.data.toList with
  | none =>
    rw [hc] at h
    cases h
    exact none_ii s w hc
  | some ab =>
    obtain ⟨a, b⟩ := ab
    obtain ⟨p, rfl⟩ := ba_ex a
    obtain ⟨r, rfl⟩ := ba_ex b
    have hz := cut_sz hc
    rw [hc] at h
    dsimp only at h
    cases hp : digL p.data.toList with
    | none =>
      rw [hp] at h
      cases h
      exact first_ii s p r 0 w hm hc (digB p 0 150 (by omega) (by unfold digR; rw [hp]))
    | some n =>
      rw [hp] at h
      dsimp only at h
      cases hr : digL r.data.toList with
      | none =>
        rw [hr] at h
        cases h
        exact second_ii s p r n 0 w hm hc (digB p n 0 (by omega) (by unfold digR; rw [hp])) (digB r 0 150 (by omega) (by unfold digR; rw [hr]))
      | some m =>
        rw [hr] at h
        cases h
        exact both_ii s p r g k w hm hc (digB p g 0 (by omega) (by unfold digR; rw [hp])) (digB r k 0 (by omega) (by unfold digR; rw [hr]))
theorem hpre_yes (p t : List UInt8) : Lib.hasPrefix (p ++ t) p = true ∧ Lib.trimPrefix (p ++ t) p = t := by
  refine ⟨?_, ?_⟩
  · simp [Lib.hasPrefix]
  · simp [Lib.trimPrefix, Lib.hasPrefix]
theorem hpre_no {l p : List UInt8} (h : ¬ p <+: l) : Lib.hasPrefix l p = false ∧ Lib.trimPrefix l p = l := by
  have h1 : Lib.hasPrefix l p = false := by
    unfold Lib.hasPrefix
    rw [← Bool.not_eq_true]
    intro h2
    exact h (List.isPrefixOf_iff_prefix.1 h2)
  exact ⟨h1, by unfold Lib.trimPrefix; rw [h1]; rfl⟩
theorem http_no {l : List UInt8} (h : ¬ l.take 5 = http) : ¬ http <+: l := by
  rintro ⟨t, rfl⟩
  exact h rfl
theorem http_lit : (⟨#[72, 84, 84, 80, 47]⟩ : ByteArray).data.toList = http := rfl
theorem cutp_yes (s t : ByteArray) (w : World) (h : s.data.toList = http ++ t.data.toList) :
    Calls Tryd.prog 49 #[.string s, .string ⟨#[72, 84, 84, 80, 47]⟩] w fun e w' => e = .returned (.tuple #[.string t, .bool true]) ∧ w' = w := by
  have := Tryd.strings_CutPrefix s ⟨#[72, 84, 84, 80, 47]⟩ w
  rw [http_lit, h, (hpre_yes _ _).1, (hpre_yes _ _).2] at this
  exact this
theorem cutp_no (s : ByteArray) (w : World) (h : ¬ s.data.toList.take 5 = http) :
    Calls Tryd.prog 49 #[.string s, .string ⟨#[72, 84, 84, 80, 47]⟩] w fun e w' => e = .returned (.tuple #[.string s, .bool false]) ∧ w' = w := by
  have := Tryd.strings_CutPrefix s ⟨#[72, 84, 84, 80, 47]⟩ w
  rw [http_lit, (hpre_no (http_no h)).1, (hpre_no (http_no h)).2] at this
  exact this
def zVs : Array Value := #[.int .i64 0, .int .i64 0]
theorem oneVs (a b : Int) : (#[Value.int .i64 a, Value.int .i64 b] : Array Value).all (·.oneCell') = true := by simp [Value.oneCell']
def zLn : Array Value := #[.string ⟨#[]⟩, .string ⟨#[]⟩, .int .i64 0, .int .i64 0]
theorem oneLn (x y : ByteArray) (a b : Int) : (#[Value.string x, Value.string y, Value.int .i64 a, Value.int .i64 b] : Array Value).all (·.oneCell') = true := by simp [Value.oneCell']
theorem sizeLn : (Tryd.prog.info? 30).map (·.size) = some 4 := by kernel_rfl
theorem sizeVs : (Tryd.prog.info? 67).map (·.size) = some 2 := by kernel_rfl
set_option maxHeartbeats 4000000 in
set_option maxRecDepth 100000 in
theorem ver15_no (s : ByteArray) (w : World) (h : ¬ s.data.toList.take 5 = http) :
    Calls Tryd.prog 40 #[.string s] w fun e w' => e = .returned (.tuple #[.agg #[.int .i64 0, .int .i64 0], .int .i64 150]) ∧ Below w.heap.size w w' := by
  have HC : Hid (∀ W, Calls Tryd.prog 49 #[.string s, .string ⟨#[72, 84, 84, 80, 47]⟩] W fun e w' => e = .returned (.tuple #[.string s, .bool false]) ∧ w' = W) := Lib.hid fun W => cutp_no s W h
  clear h
  go_enter Tryd.func40, Tryd.ntmps40
  go_wp2_with (first
    | (go_at_call 49; (with_reducible refine (HC.out _).mono ?_); rintro e w1 ⟨rfl, rfl⟩)
    | (refine wpList_store_row rfl _ _ _ rfl w.heap.size #[.int .i64 0, .int .i64 0] rfl rfl 67 zVs (heap_alloc_new w _) sizeVs rfl (oneVs _ _) ?_)
    | fail)
  exact bodyPost_ret (v := .tuple #[.agg #[.int .i64 0, .int .i64 0], .int .i64 150]) (rcell2 (p := 2) (q := 3) rfl _ _ _ _ #[.int .i64 0, .int .i64 0] _ _ rfl (setRow_heap _ _ _ #[.int .i64 0, .int .i64 0] _ _ (heap_alloc_new w _)) Tryd.underlying67 rfl sizeVs) rfl ⟨rfl, below_setRowV (stpA (Below.refl _ _) _) (Nat.le_refl _) _⟩
set_option maxHeartbeats 4000000 in
set_option maxRecDepth 100000 in
theorem ver15_yes (s t : ByteArray) (g k : Nat) (q : Int) (w : World) (hm : t.size ≤ 1000000) (h : s.data.toList = http ++ t.data.toList) (hn : numsR t.data.toList = (g, k, q)) :
    Calls Tryd.prog 40 #[.string s] w fun e w' => e = .returned (.tuple #[.agg #[.int .i64 g, .int .i64 k], .int .i64 q]) ∧ Below w.heap.size w w' := by
  have HC : Hid (∀ W, Calls Tryd.prog 49 #[.string s, .string ⟨#[72, 84, 84, 80, 47]⟩] W fun e w' => e = .returned (.tuple #[.string t, .bool true]) ∧ w' = W) := Lib.hid fun W => cutp_yes s t W h
  have HB := Lib.hid fun W => bothI t g k q W hm hn
  clear h hm hn
  go_enter Tryd.func40, Tryd.ntmps40
  go_wp2_with (first
    | (go_at_call 49; (with_reducible refine (HC.out _).mono ?_); rintro e w1 ⟨rfl, rfl⟩)
    | (go_at_call 50; (with_reducible refine (HB.out _).mono ?_); rintro e w2 ⟨rfl, hb2⟩; have HG2 := Lib.hid (kept_heap (heap_alloc_new w (.cells zVs 67)) hb2); have HB2 := Lib.hid (stp (stpA (Below.refl w.heap.size w) (.cells zVs 67)) hb2); clear hb2)
    | (refine wpList_store_row rfl _ _ _ rfl w.heap.size #[.int .i64 g, .int .i64 k] rfl rfl 67 zVs HG2.out sizeVs rfl (oneVs _ _) ?_)
    | fail)
  exact bodyPost_ret (v := .tuple #[.agg #[.int .i64 g, .int .i64 k], .int .i64 q]) (rcell2 (p := 2) (q := 3) rfl _ _ _ _ #[.int .i64 g, .int .i64 k] _ _ rfl (setRow_heap _ _ _ #[.int .i64 g, .int .i64 k] _ _ HG2.out) Tryd.underlying67 rfl sizeVs) rfl ⟨rfl, below_setRowV HB2.out (Nat.le_refl _) _⟩
theorem ver15 (s : ByteArray) (g k : Nat) (q : Int) (hm : s.size ≤ 1000000) (h : verQ s.data.toList = (g, k, q)) (w : World) :
    Calls Tryd.prog 40 #[.string s] w fun e w' => e = .returned (.tuple #[.agg #[.int .i64 g, .int .i64 k], .int .i64 q]) ∧ Below w.heap.size w w' := by
  by_cases hp : s.data.toList.take 5 = http
  · obtain ⟨t, ht⟩ := ba_ex (s.data.toList.drop 5)
    have hs : s.data.toList = http ++ t.data.toList := by rw [ht, ← hp, List.take_append_drop]
    refine ver15_yes s t g k q w ?_ hs ?_
    · have := congrArg List.length hs
      rw [List.length_append, ba_len7, ba_len7] at this
      omega
    · rw [← h, ht]
      unfold numsR verQ verL
      rw [if_pos hp]
  · unfold verQ verL at h
    rw [if_neg hp] at h
    cases h
    exact ver15_no s w hp

theorem bothV (s t : ByteArray) (g k : Nat) (q : Int) (hm : s.size ≤ 1000000) (h : behR s.data.toList = (t.data.toList, g, k, q)) (w : World) :
    Calls Tryd.prog 38 #[.string s, .string ⟨#[32]⟩, .func (.func 39) #[] #[], .func (.func 40) #[] #[]] w fun e w' => e = .returned (.tuple #[.string t, .agg #[.int .i64 g, .int .i64 k], .int .i64 q]) ∧ Below w.heap.size w w' := by
  unfold behR behindL at h
  cases hc : cutAt 32 s.data.toList with
  | none =>
    rw [hc] at h
    obtain ⟨h1, h⟩ := (Prod.mk.injEq _ _ _ _).mp h
    obtain rfl := ba_nil h1
    cases h
    exact none_sv s w hc
  | some ab =>
    obtain ⟨a, b⟩ := ab
    obtain ⟨p, rfl⟩ := ba_ex a
    obtain ⟨r, rfl⟩ := ba_ex b
    have hz := cut_sz hc
    rw [hc] at h
    dsimp only at h
    by_cases hp : isTgt p.data.toList = true
    · rw [if_pos hp] at h
      cases hr : verL r.data.toList with
      | none =>
        rw [hr] at h
        obtain ⟨h1, h⟩ := (Prod.mk.injEq _ _ _ _).mp h
        obtain rfl := ba_nil h1
        cases h
        exact second_sv s p r p 0 0 w hm hc (fun W => tgt15 p p 0 W (by omega) (by rw [if_pos hp])) (ver15 r 0 0 150 (by omega) (by unfold verQ; rw [hr]))
      | some m =>
        obtain ⟨g', k'⟩ := m
        rw [hr] at h
        obtain ⟨h1, h⟩ := (Prod.mk.injEq _ _ _ _).mp h
        obtain rfl : p = t := ba_ext7 h1
        cases h
        exact both_sv s p r p g k w hm hc (fun W => tgt15 p p 0 W (by omega) (by rw [if_pos hp])) (ver15 r g k 0 (by omega) (by unfold verQ; rw [hr]))
    · rw [if_neg hp] at h
      obtain ⟨h1, h⟩ := (Prod.mk.injEq _ _ _ _).mp h
      obtain rfl := ba_nil h1
      cases h
      exact first_sv s p r ⟨#[]⟩ w hm hc (fun W => tgt15 p ⟨#[]⟩ 150 W (by omega) (by rw [if_neg hp]))
set_option maxHeartbeats 4000000 in
set_option maxRecDepth 100000 in
theorem beh15 (s t : ByteArray) (g k : Nat) (q : Int) (hm : s.size ≤ 1000000) (h : behR s.data.toList = (t.data.toList, g, k, q)) (w : World) :
    Calls Tryd.prog 24 #[.string s] w fun e w' => e = .returned (.tuple #[.agg #[.string ⟨#[]⟩, .string t, .int .i64 g, .int .i64 k], .int .i64 q]) ∧ Below w.heap.size w w' := by
  have HV := Lib.hid fun W => bothV s t g k q hm h W
  clear hm h
  go_enter Tryd.func24, Tryd.ntmps24
  go_wp2_with (first
    | (go_at_call 38; (with_reducible refine (HV.out _).mono ?_); rintro e w1 ⟨rfl, hb1⟩; have HG1 := Lib.hid (kept_heap (heap_alloc_new w (.cells zLn 30)) hb1); have HB1 := Lib.hid (stp (stpA (Below.refl w.heap.size w) (.cells zLn 30)) hb1); clear hb1)
    | (refine wpList_store_row rfl _ _ _ rfl w1.heap.size #[.int .i64 g, .int .i64 k] rfl rfl 67 zVs (heap_alloc_new w1 _) sizeVs rfl (oneVs _ _) ?_; rw [World.setRow_alloc_new]; obtain ⟨W2, hW2, hr2, hb2⟩ := opnV w1 (.cells #[.int .i64 g, .int .i64 k] 67); rw [hW2]; have HG2 := Lib.hid (kept_heap HG1.out hb2); have HB2 := Lib.hid (stp HB1.out hb2); have c0 : W2.cell? ⟨w1.heap.size, 0, none⟩ = some (.int .i64 g) := cell_of_row _ _ 0 _ _ _ hr2; have c1 : W2.cell? ⟨w1.heap.size, 1, none⟩ = some (.int .i64 k) := cell_of_row _ _ 1 _ _ _ hr2; clear hW2 hr2 hb2)
    | (refine wpList_store_row rfl _ _ _ rfl w.heap.size #[.string ⟨#[]⟩, .string t, .int .i64 g, .int .i64 k] rfl rfl 30 zLn HG2.out sizeLn rfl (oneLn _ _ _ _) ?_)
    | fail)
  exact bodyPost_ret (v := .tuple #[.agg #[.string ⟨#[]⟩, .string t, .int .i64 g, .int .i64 k], .int .i64 q]) (rcell2 (p := 2) (q := 3) rfl _ _ _ _ #[.string ⟨#[]⟩, .string t, .int .i64 g, .int .i64 k] _ _ rfl (setRow_heap _ _ _ #[.string ⟨#[]⟩, .string t, .int .i64 g, .int .i64 k] _ _ HG2.out) Tryd.underlying30 rfl sizeLn) rfl ⟨rfl, below_setRowV HB2.out (Nat.le_refl _) _⟩
theorem bothL (s m t : ByteArray) (g k : Nat) (q : Int) (hm : s.size ≤ 1000000) (h : parR s.data.toList = (m.data.toList, t.data.toList, g, k, q)) (w : World) :
    Calls Tryd.prog 22 #[.string s, .string ⟨#[32]⟩, .func (.func 23) #[] #[], .func (.func 24) #[] #[]] w fun e w' => e = .returned (.tuple #[.string m, .agg #[.string ⟨#[]⟩, .string t, .int .i64 g, .int .i64 k], .int .i64 q]) ∧ Below w.heap.size w w' := by
  unfold parR parseL at h
  cases hc : cutAt 32 s.data.toList with
  | none =>
    rw [hc] at h
    obtain ⟨h1, h⟩ := (Prod.mk.injEq _ _ _ _).mp h
    obtain ⟨h2, h⟩ := (Prod.mk.injEq _ _ _ _).mp h
    obtain rfl := ba_nil h1
    obtain rfl := ba_nil h2
    cases h
    exact none_sl s w hc
  | some ab =>
    obtain ⟨a, b⟩ := ab
    obtain ⟨p, rfl⟩ := ba_ex a
    obtain ⟨r, rfl⟩ := ba_ex b
    have hz := cut_sz hc
    rw [hc] at h
    dsimp only at h
    by_cases hp : isTok p.data.toList = true
    · rw [if_pos hp] at h
      cases hr : behindL r.data.toList with
      | none =>
        rw [hr] at h
        obtain ⟨h1, h⟩ := (Prod.mk.injEq _ _ _ _).mp h
        obtain ⟨h2, h⟩ := (Prod.mk.injEq _ _ _ _).mp h
        obtain rfl := ba_nil h1
        obtain rfl := ba_nil h2
        cases h
        exact second_sl s p r p ⟨#[]⟩ 0 0 w hm hc (fun W => method15 p p 0 W (by omega) (by rw [if_pos hp])) (beh15 r ⟨#[]⟩ 0 0 150 (by omega) (by unfold behR; rw [hr]))
      | some x =>
        obtain ⟨t', g', k'⟩ := x
        rw [hr] at h
        obtain ⟨h1, h⟩ := (Prod.mk.injEq _ _ _ _).mp h
        obtain ⟨h2, h⟩ := (Prod.mk.injEq _ _ _ _).mp h
        obtain ⟨h3, h⟩ := (Prod.mk.injEq _ _ _ _).mp h
        obtain ⟨h4, h5⟩ := (Prod.mk.injEq _ _ _ _).mp h
        obtain rfl : p = m := ba_ext7 h1
        dsimp only at h2 h3 h4
        rw [Int.toNat_natCast] at h3 h4
        subst h2 h3 h4 h5
        exact both_sl s p r p t g' k' w hm hc (fun W => method15 p p 0 W (by omega) (by rw [if_pos hp])) (beh15 r t g' k' 0 (by omega) (by unfold behR; rw [hr]))
    · rw [if_neg hp] at h
      obtain ⟨h1, h⟩ := (Prod.mk.injEq _ _ _ _).mp h
      obtain ⟨h2, h⟩ := (Prod.mk.injEq _ _ _ _).mp h
      obtain rfl := ba_nil h1
      obtain rfl := ba_nil h2
      cases h
      exact first_sl s p r ⟨#[]⟩ w hm hc (fun W => method15 p ⟨#[]⟩ 150 W (by omega) (by rw [if_neg hp]))
set_option maxHeartbeats 4000000 in
set_option maxRecDepth 100000 in
theorem par15 (s m t : ByteArray) (g k : Nat) (q : Int) (hm : s.size ≤ 1000000) (h : parR s.data.toList = (m.data.toList, t.data.toList, g, k, q)) (w : World) :
    Calls Tryd.prog 12 #[.string s] w fun e w' => e = .returned (.tuple #[.agg #[.string m, .string t, .int .i64 g, .int .i64 k], .int .i64 q]) ∧ Below w.heap.size w w' := by
  have HV := Lib.hid fun W => bothL s m t g k q hm h W
  clear hm h
  go_enter Tryd.func12, Tryd.ntmps12
  go_wp2_with (first
    | (go_at_call 22; (with_reducible refine (HV.out _).mono ?_); rintro e w1 ⟨rfl, hb1⟩; have HG1 := Lib.hid (kept_heap (heap_alloc_new w (.cells zLn 30)) hb1); have HB1 := Lib.hid (stp (stpA (Below.refl w.heap.size w) (.cells zLn 30)) hb1); clear hb1)
    | (refine wpList_store_row rfl _ _ _ rfl w1.heap.size #[.string ⟨#[]⟩, .string t, .int .i64 g, .int .i64 k] rfl rfl 30 zLn (heap_alloc_new w1 _) sizeLn rfl (oneLn _ _ _ _) ?_; rw [World.setRow_alloc_new]; obtain ⟨W2, hW2, hr2, hb2⟩ := opnV w1 (.cells #[.string ⟨#[]⟩, .string t, .int .i64 g, .int .i64 k] 30); rw [hW2]; have HG2 := Lib.hid (kept_heap HG1.out hb2); have HB2 := Lib.hid (stp HB1.out hb2); have HR2 := Lib.hid hr2; have hle : w.heap.size < w1.heap.size := lt_heap HG1.out; have c0 : W2.cell? ⟨w1.heap.size, 0, none⟩ = some (.string ⟨#[]⟩) := cell_of_row _ _ 0 _ _ _ hr2; have c1 : W2.frozen? ⟨w1.heap.size, 0, none⟩ = false := frozen_of_row _ _ 0 _ _ hr2; have HG3 : Hid ((W2.setCell ⟨w1.heap.size, 0, none⟩ (.string m)).heap[w.heap.size]? = some (.cells zLn 30 (0, 0))) := Lib.hid ((heap_setCell_other _ _ _ _ (by simp; omega)).trans HG2.out); have HR3 : Hid ((W2.setCell ⟨w1.heap.size, 0, none⟩ (.string m)).heap[w1.heap.size]? = some (.cells #[.string m, .string t, .int .i64 g, .int .i64 k] 30 (0, 0))) := Lib.hid (by simpa using heap_setCell_same W2 w1.heap.size 0 _ _ (.string m) hr2); have HB3 : Hid (Below w.heap.size w (W2.setCell ⟨w1.heap.size, 0, none⟩ (.string m))) := Lib.hid (HB2.out.setCell (p := ⟨w1.heap.size, 0, none⟩) (by simp; omega) _); clear hW2 hr2 hb2)
    | (refine wpList_load_row rfl _ _ rfl w1.heap.size rfl 30 #[.string m, .string t, .int .i64 g, .int .i64 k] (0, 0) _ HR3.out Tryd.underlying30 rfl sizeLn ?_)
    | (refine wpList_store_row rfl _ _ _ rfl w.heap.size #[.string m, .string t, .int .i64 g, .int .i64 k] rfl rfl 30 zLn HG3.out sizeLn rfl (oneLn _ _ _ _) ?_)
    | fail)
  exact bodyPost_ret (v := .tuple #[.agg #[.string m, .string t, .int .i64 g, .int .i64 k], .int .i64 q]) (rcell2 (p := 2) (q := 3) rfl _ _ _ _ #[.string m, .string t, .int .i64 g, .int .i64 k] _ _ rfl (setRow_heap _ _ _ #[.string m, .string t, .int .i64 g, .int .i64 k] _ _ HG3.out) Tryd.underlying30 rfl sizeLn) rfl ⟨rfl, below_setRowV HB3.out (Nat.le_refl _) _⟩
end Hx
end Go.Proofs.YtagngohemlkkoaaDoor
