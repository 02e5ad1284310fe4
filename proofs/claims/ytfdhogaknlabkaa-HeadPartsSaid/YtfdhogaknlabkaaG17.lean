/-
  Texts of one seat, put together: HedL, HedN, HedP, HedQ.
-/
import Derived.Test.YtfdhogaknlabkaaG16
import Derived.ScopeJumps
import Derived.Deep.QuietTactic
set_option linter.unusedSimpArgs false
set_option linter.unusedVariables false
namespace Go.Proofs.Ytfdhogaknlabkaa
open Go.RowKit
namespace Hx
open Lx Hd
set_option linter.unusedVariables false
theorem rcell3 {P : Program} {fn : Func} {p q r : Tmp} {ty : TypeId} (h : fn.results = #[.cell p ty, .tmp q, .tmp r]) (tmps : Array Value) (w : World) (g : Nat) (t : TypeId) (cs : Array Value) (fr : Nat × Nat) (d : TypeDesc)
    (hp : tmps.getD p undef = .pointer (some ⟨g, 0, none⟩)) (hg : w.heap[g]? = some (.cells cs t fr))
    (hu : P.underlying ty = some d) (hd : (match d with | .struct _ | .array _ _ => true | _ => false) = true) (hi : (P.info? ty).map (·.size) = some cs.size) :
    (results fn tmps).run P w = .ok (.tuple #[.agg cs, tmps.getD q undef, tmps.getD r undef]) w := by
  have hp' : tmps[p]?.getD undef = .pointer (some ⟨g, 0, none⟩) := by simpa using hp
  simp [results, h, hp', asAddr, run_loadVar_row w g t ty cs fr d hg hu hd hi]
theorem readR_ok (l : List UInt8) : (∃ n : Nat, Nmb.readN l = some n ∧ readR l = ((n : Int), 0)) ∨ (Nmb.readN l = none ∧ readR l = (0, 60)) := by
  unfold readR
  cases h : Nmb.readN l with
  | none => exact .inr ⟨rfl, rfl⟩
  | some n => exact .inl ⟨n, rfl, rfl⟩
set_option maxHeartbeats 8000000 in
set_option maxRecDepth 100000 in
theorem rhost_0 (s u : ByteArray) (b : Bool) (w : World) (hm : s.size ≤ 1000000) (h : cutC s.data.toList = none) (hu : lowS s = u) (ht : As.isTok s.data.toList = b) : Calls Try.prog 62 #[.string s] w (fun e w' => Below w.heap.size w w' ∧ ∃ A c, e = .returned (.tuple #[.agg #[.int .u8 0, .int .i64 0, .slice A 1 c], .bool b]) ∧ RdG encS w' w'.heap.size A [u]) := by
  have HC := Lib.hid fun W => cut_colon_none s W h
  have HX := Lib.hid hm
  have HU := Lib.hid hu
  have HT := Lib.hid ht
  clear hm h hu ht
  go_enter Try.func62, Try.ntmps62
  go_wp2_with (first
    | (go_at_call 55; (with_reducible refine (HC.out _).mono ?_); rintro e w1 ⟨rfl, hb1⟩; have HG1 := Lib.hid (kept_heap (heap_alloc_new w (.cells zTold 72)) hb1); have HB1 := Lib.hid (stp (stpA (Below.refl w.heap.size w) (.cells zTold 72)) hb1); clear hb1)
    | (go_at_call 53; (with_reducible refine (lower7 s u _ HX.out HU.out).mono ?_); rintro e w2 ⟨rfl, hb2⟩; have HG2 := Lib.hid (kept_heap HG1.out hb2); have HB2 := Lib.hid (stp HB1.out hb2); clear hb2)
    | (go_at_call 56; (with_reducible refine (token7 s b _ HX.out HT.out).mono ?_); rintro e w3 ⟨rfl, hb3⟩; have HR3 := Lib.hid ((RdG.newS (enc := encS) w2 9 [u]).on hb3); have HG3 := Lib.hid (kept_heap (kept_heap HG2.out (stpA (Below.refl _ _) (.cells #[.string u] 9))) hb3); have HB3 := Lib.hid (stp (stpA HB2.out (.cells #[.string u] 9)) hb3); clear hb3)
    | (refine wpList_store_row rfl _ _ _ rfl w.heap.size #[.int .u8 0, .int .i64 0, .slice (some ⟨w2.heap.size, 0, none⟩) 1 1] rfl rfl 72 zTold HG3.out sizeTold rfl (oneTold 0 0 _ 1 1) ?_)
    | fail)
  exact bodyPost_ret (v := .tuple #[.agg #[.int .u8 0, .int .i64 0, .slice (some ⟨w2.heap.size, 0, none⟩) 1 1], .bool b]) (rcell2 (p := 2) (q := 3) rfl _ _ _ _ #[.int .u8 0, .int .i64 0, .slice (some ⟨w2.heap.size, 0, none⟩) 1 1] _ _ rfl (setRow_heap _ _ _ #[.int .u8 0, .int .i64 0, .slice (some ⟨w2.heap.size, 0, none⟩) 1 1] _ _ HG3.out) Try.underlying72 rfl sizeTold) rfl ⟨below_setRowV HB3.out (Nat.le_refl _) _, _, 1, rfl, by rw [show (w3.setRow w.heap.size #[.int .u8 0, .int .i64 0, .slice (some ⟨w2.heap.size, 0, none⟩) 1 1]).heap.size = w3.heap.size by simp [World.setRow]]; exact RdG.setTold HG3.out HR3.out⟩
set_option maxHeartbeats 8000000 in
set_option maxRecDepth 100000 in
theorem rhost_1 (s x y : ByteArray) (w : World) (hm : s.size ≤ 1000000) (h : cutC s.data.toList = some (x.data.toList, y.data.toList)) (hr : readR y.data.toList = (0, 60)) : Calls Try.prog 62 #[.string s] w fun e w' => e = .returned (.tuple #[.agg #[.int .u8 0, .int .i64 0, .slice none 0 0], .bool false]) ∧ Below w.heap.size w w' := by
  have hsz := cut_szs h
  have HC := Lib.hid fun W => cut_colon_some s x y W hm h
  have HX : Hid (x.size ≤ 1000000) := Lib.hid (by omega)
  have HY : Hid (y.size ≤ 1000000) := Lib.hid (by omega)
  have HR : Hid (∀ W, Calls Try.prog 81 #[.string y] W fun e w' => e = .returned (.tuple #[.int .i64 0, .int .i64 60]) ∧ Below W.heap.size W w') := Lib.hid fun W => read6 y W HY.out 0 60 hr
  clear hm h hr hsz
  go_enter Try.func62, Try.ntmps62
  go_wp2_with (first
    | (go_at_call 55; (with_reducible refine (HC.out _).mono ?_); rintro e w1 ⟨rfl, hb1⟩; have HG1 := Lib.hid (kept_heap (heap_alloc_new w (.cells zTold 72)) hb1); have HB1 := Lib.hid (stp (stpA (Below.refl w.heap.size w) (.cells zTold 72)) hb1); clear hb1)
    | (go_at_call 81; (with_reducible refine (HR.out _).mono ?_); rintro e w2 ⟨rfl, hb2⟩; have HG2 := Lib.hid (kept_heap HG1.out hb2); have HB2 := Lib.hid (stp HB1.out hb2); clear hb2)
    | (refine wpList_store_row rfl _ _ _ rfl w.heap.size #[.int .u8 0, .int .i64 0, .slice none 0 0] rfl rfl 72 zTold HG2.out sizeTold rfl (oneTold 0 0 none 0 0) ?_)
    | fail)
  exact bodyPost_ret (v := .tuple #[.agg #[.int .u8 0, .int .i64 0, .slice none 0 0], .bool false]) (rcell2 (p := 2) (q := 3) rfl _ _ _ _ #[.int .u8 0, .int .i64 0, .slice none 0 0] _ _ rfl (setRow_heap _ _ _ #[.int .u8 0, .int .i64 0, .slice none 0 0] _ _ HG2.out) Try.underlying72 rfl sizeTold) rfl ⟨rfl, below_setRowV HB2.out (Nat.le_refl _) _⟩
set_option maxHeartbeats 8000000 in
set_option maxRecDepth 100000 in
theorem rhost_2 (u : ByteArray) (b : Bool) (n : Nat) (s x y : ByteArray) (w : World) (hm : s.size ≤ 1000000) (h : cutC s.data.toList = some (x.data.toList, y.data.toList)) (hr : readR y.data.toList = ((n : Int), 0)) (hu : lowS x = u) (ht : As.isTok x.data.toList = b) : Calls Try.prog 62 #[.string s] w (fun e w' => Below w.heap.size w w' ∧ ∃ A c, e = .returned (.tuple #[.agg #[.int .u8 0, .int .i64 0, .slice A 1 c], .bool b]) ∧ RdG encS w' w'.heap.size A [u]) := by
  have hsz := cut_szs h
  have HC := Lib.hid fun W => cut_colon_some s x y W hm h
  have HX : Hid (x.size ≤ 1000000) := Lib.hid (by omega)
  have HY : Hid (y.size ≤ 1000000) := Lib.hid (by omega)
  have HR : Hid (∀ W, Calls Try.prog 81 #[.string y] W fun e w' => e = .returned (.tuple #[.int .i64 n, .int .i64 0]) ∧ Below W.heap.size W w') := Lib.hid fun W => read6 y W HY.out n 0 hr
  have HU := Lib.hid hu
  have HT := Lib.hid ht
  clear hm h hr hsz hu ht
  go_enter Try.func62, Try.ntmps62
  go_wp2_with (first
    | (go_at_call 55; (with_reducible refine (HC.out _).mono ?_); rintro e w1 ⟨rfl, hb1⟩; have HG1 := Lib.hid (kept_heap (heap_alloc_new w (.cells zTold 72)) hb1); have HB1 := Lib.hid (stp (stpA (Below.refl w.heap.size w) (.cells zTold 72)) hb1); clear hb1)
    | (go_at_call 81; (with_reducible refine (HR.out _).mono ?_); rintro e w2 ⟨rfl, hb2⟩; have HG2 := Lib.hid (kept_heap HG1.out hb2); have HB2 := Lib.hid (stp HB1.out hb2); clear hb2)
    | (go_at_call 53; (with_reducible refine (lower7 x u _ HX.out HU.out).mono ?_); rintro e w3 ⟨rfl, hb3⟩; have HG3 := Lib.hid (kept_heap HG2.out hb3); have HB3 := Lib.hid (stp HB2.out hb3); clear hb3)
    | (go_at_call 56; (with_reducible refine (token7 x b _ HX.out HT.out).mono ?_); rintro e w4 ⟨rfl, hb4⟩; have HR4 := Lib.hid ((RdG.newS (enc := encS) w3 9 [u]).on hb4); have HG4 := Lib.hid (kept_heap (kept_heap HG3.out (stpA (Below.refl _ _) (.cells #[.string u] 9))) hb4); have HB4 := Lib.hid (stp (stpA HB3.out (.cells #[.string u] 9)) hb4); clear hb4)
    | (refine wpList_store_row rfl _ _ _ rfl w.heap.size #[.int .u8 0, .int .i64 0, .slice (some ⟨w3.heap.size, 0, none⟩) 1 1] rfl rfl 72 zTold HG4.out sizeTold rfl (oneTold 0 0 _ 1 1) ?_)
    | fail)
  exact bodyPost_ret (v := .tuple #[.agg #[.int .u8 0, .int .i64 0, .slice (some ⟨w3.heap.size, 0, none⟩) 1 1], .bool b]) (rcell2 (p := 2) (q := 3) rfl _ _ _ _ #[.int .u8 0, .int .i64 0, .slice (some ⟨w3.heap.size, 0, none⟩) 1 1] _ _ rfl (setRow_heap _ _ _ #[.int .u8 0, .int .i64 0, .slice (some ⟨w3.heap.size, 0, none⟩) 1 1] _ _ HG4.out) Try.underlying72 rfl sizeTold) rfl ⟨below_setRowV HB4.out (Nat.le_refl _) _, _, 1, rfl, by rw [show (w4.setRow w.heap.size #[.int .u8 0, .int .i64 0, .slice (some ⟨w3.heap.size, 0, none⟩) 1 1]).heap.size = w4.heap.size by simp [World.setRow]]; exact RdG.setTold HG4.out HR4.out⟩
/-- What readHost answers. -/
def RHostTo (s : ByteArray) (w : World) (e : Ending) (w' : World) : Prop := Below w.heap.size w w' ∧
  ((hostL s.data.toList = none ∧ ∃ A n c, e = .returned (.tuple #[.agg #[.int .u8 0, .int .i64 0, .slice A n c], .bool false])) ∨
   (∃ (u : ByteArray) (A : Option Addr) (c : Nat), hostL s.data.toList = some u.data.toList ∧ e = .returned (.tuple #[.agg #[.int .u8 0, .int .i64 0, .slice A 1 c], .bool true]) ∧ RdG encS w' w'.heap.size A [u]))
theorem readHost14 (s : ByteArray) (w : World) (hm : s.size ≤ 1000000) : Calls Try.prog 62 #[.string s] w (RHostTo s w) := by
  cases hc : cutC s.data.toList with
  | none =>
    refine (rhost_0 s _ _ w hm hc rfl rfl).mono fun e w' ⟨h1, A, c, h2, h3⟩ => ?_
    have e1 : hostL s.data.toList = if As.isTok s.data.toList = true then some (As.lows s.data.toList) else none := by unfold hostL; rw [hc]
    refine ⟨h1, ?_⟩
    cases ht : As.isTok s.data.toList with
    | false => rw [ht] at e1 h2; exact .inl ⟨e1, _, _, _, h2⟩
    | true => rw [ht] at e1 h2; exact .inr ⟨lowS s, A, c, e1.trans (if_pos rfl), h2, h3⟩
  | some p =>
    obtain ⟨x, y, rfl⟩ := two_ba p
    have e1 : hostL s.data.toList = if (Nmb.readN y.data.toList).isSome = true ∧ As.isTok x.data.toList = true then some (As.lows x.data.toList) else none := by unfold hostL; rw [hc]
    rcases readR_ok y.data.toList with ⟨n, h1, h2⟩ | ⟨h1, h2⟩
    · refine (rhost_2 _ _ n s x y w hm hc h2 rfl rfl).mono fun e w' ⟨k1, A, c, k2, k3⟩ => ?_
      rw [h1] at e1
      refine ⟨k1, ?_⟩
      cases ht : As.isTok x.data.toList with
      | false => rw [ht] at e1 k2; exact .inl ⟨e1, _, _, _, k2⟩
      | true => rw [ht] at e1 k2; exact .inr ⟨lowS x, A, c, e1.trans (if_pos ⟨rfl, rfl⟩), k2, k3⟩
    · refine (rhost_1 s x y w hm hc h2).mono fun e w' ⟨k1, k2⟩ => ?_
      rw [h1] at e1
      exact ⟨k2, .inl ⟨e1, none, 0, 0, k1⟩⟩
theorem one_mem {ps : List Pr} {nm v : List UInt8} (h : oneH ps nm = (v, true, 0)) : v ∈ findH ps nm := by
  unfold oneH at h
  rcases hl : findH ps nm with _ | ⟨u, _ | ⟨u2, r⟩⟩
  · rw [hl] at h; injection h with _ h; injection h with h; cases h
  · rw [hl] at h; injection h with h _; subst h; simp
  · rw [hl] at h; injection h with _ h; injection h with h; cases h
set_option maxHeartbeats 8000000 in
set_option maxRecDepth 100000 in
theorem only0_err (A : Option Addr) (n cp : Nat) (ps : List Pr) (w : World) (hr : RdC PrC w w.heap.size A ps) (hn : ps.length = n) (hm : n ≤ 1000) (hs : SmP ps) (v : ByteArray) (b : Bool) (q : Int) (h : oneH ps (⟨#[116, 114, 97, 110, 115, 102, 101, 114, 45, 101, 110, 99, 111, 100, 105, 110, 103]⟩ : ByteArray).data.toList = (v.data.toList, b, q)) (hq : (q != 0) = true) : Calls Try.prog 37 #[.agg #[.string ⟨#[116, 114, 97, 110, 115, 102, 101, 114, 45, 101, 110, 99, 111, 100, 105, 110, 103]⟩, .func (.func 59) #[] #[]], .slice A n cp] w fun e w' => e = .returned (.tuple #[.agg #[.int .u8 0, .int .i64 0, .slice none 0 0], .bool false, .int .i64 q]) ∧ Below w.heap.size w w' := by
  have B0 : Hid (Below w.heap.size w ((w.alloc (.cells #[.string ⟨#[116, 114, 97, 110, 115, 102, 101, 114, 45, 101, 110, 99, 111, 100, 105, 110, 103]⟩, .func (.func 59) #[] #[]] 68)).alloc (.cells #[.int .u8 0, .int .i64 0, .slice none 0 0] 72))) := Lib.hid (stpA (stpA (Below.refl _ _) _) _)
  have R0 : Hid (((w.alloc (.cells #[.string ⟨#[116, 114, 97, 110, 115, 102, 101, 114, 45, 101, 110, 99, 111, 100, 105, 110, 103]⟩, .func (.func 59) #[] #[]] 68)).alloc (.cells #[.int .u8 0, .int .i64 0, .slice none 0 0] 72)).heap[w.heap.size]? = some (.cells #[.string ⟨#[116, 114, 97, 110, 115, 102, 101, 114, 45, 101, 110, 99, 111, 100, 105, 110, 103]⟩, .func (.func 59) #[] #[]] 68 (0, 0))) := Lib.hid (kept_heap (heap_alloc_new w _) (stpA (Below.refl _ _) _))
  have T0 : Hid (((w.alloc (.cells #[.string ⟨#[116, 114, 97, 110, 115, 102, 101, 114, 45, 101, 110, 99, 111, 100, 105, 110, 103]⟩, .func (.func 59) #[] #[]] 68)).alloc (.cells #[.int .u8 0, .int .i64 0, .slice none 0 0] 72)).heap[w.heap.size + 1]? = some (.cells zTold 72 (0, 0))) := Lib.hid (by have := heap_alloc_new (w.alloc (.cells #[.string ⟨#[116, 114, 97, 110, 115, 102, 101, 114, 45, 101, 110, 99, 111, 100, 105, 110, 103]⟩, .func (.func 59) #[] #[]] 68)) (.cells #[.int .u8 0, .int .i64 0, .slice none 0 0] 72); rw [World.size_alloc] at this; exact this)
  have c0 : ((w.alloc (.cells #[.string ⟨#[116, 114, 97, 110, 115, 102, 101, 114, 45, 101, 110, 99, 111, 100, 105, 110, 103]⟩, .func (.func 59) #[] #[]] 68)).alloc (.cells #[.int .u8 0, .int .i64 0, .slice none 0 0] 72)).cell? ⟨w.heap.size, 0, none⟩ = some (.string ⟨#[116, 114, 97, 110, 115, 102, 101, 114, 45, 101, 110, 99, 111, 100, 105, 110, 103]⟩) := cellV _ _ 0 _ _ _ R0.out
  have HO : Hid (∀ W, Below w.heap.size w W → Calls Try.prog 23 #[.slice A n cp, .string ⟨#[116, 114, 97, 110, 115, 102, 101, 114, 45, 101, 110, 99, 111, 100, 105, 110, 103]⟩] W fun e w' => e = .returned (.tuple #[.string v, .bool b, .int .i64 q]) ∧ Below W.heap.size W w') := Lib.hid fun W hW => one14 A n cp ps ⟨#[116, 114, 97, 110, 115, 102, 101, 114, 45, 101, 110, 99, 111, 100, 105, 110, 103]⟩ W (hr.on hW) hn hm hs (by decide) v b q h
  clear hr hn hm hs h
  go_enter Try.func37, Try.ntmps37
  go_wp2_with (first
    | (go_at_call 23; (with_reducible refine (HO.out _ B0.out).mono ?_); rintro e w1 ⟨rfl, hb1⟩; have HB1 := Lib.hid (stp B0.out hb1); have GR1 := Lib.hid (kept_heap R0.out hb1); have GT1 := Lib.hid (kept_heap T0.out hb1); have d1 : w1.cell? ⟨w.heap.size, 1, none⟩ = some (.func (.func 59) #[] #[]) := cellV _ _ 1 _ _ _ GR1.out; clear hb1)
    | (refine wpList_store_row rfl _ _ _ rfl (w.heap.size + 1) #[.int .u8 0, .int .i64 0, .slice none 0 0] rfl rfl 72 zTold GT1.out sizeTold rfl (oneTold 0 0 none 0 0) ?_)
    | fail)
  exact bodyPost_ret (v := .tuple #[.agg #[.int .u8 0, .int .i64 0, .slice none 0 0], .bool false, .int .i64 q]) (rcell3 (p := 4) (q := 5) (r := 6) rfl _ _ _ _ #[.int .u8 0, .int .i64 0, .slice none 0 0] _ _ rfl (setRow_heap _ _ _ #[.int .u8 0, .int .i64 0, .slice none 0 0] _ _ (GT1.out)) Try.underlying72 rfl sizeTold) rfl ⟨rfl, below_setRowV HB1.out (Nat.le_succ _) _⟩
set_option maxHeartbeats 8000000 in
set_option maxRecDepth 100000 in
theorem only0_no (A : Option Addr) (n cp : Nat) (ps : List Pr) (w : World) (hr : RdC PrC w w.heap.size A ps) (hn : ps.length = n) (hm : n ≤ 1000) (hs : SmP ps) (v : ByteArray) (h : oneH ps (⟨#[116, 114, 97, 110, 115, 102, 101, 114, 45, 101, 110, 99, 111, 100, 105, 110, 103]⟩ : ByteArray).data.toList = (v.data.toList, false, 0)) : Calls Try.prog 37 #[.agg #[.string ⟨#[116, 114, 97, 110, 115, 102, 101, 114, 45, 101, 110, 99, 111, 100, 105, 110, 103]⟩, .func (.func 59) #[] #[]], .slice A n cp] w fun e w' => e = .returned (.tuple #[.agg #[.int .u8 0, .int .i64 0, .slice none 0 0], .bool false, .int .i64 0]) ∧ Below w.heap.size w w' := by
  have B0 : Hid (Below w.heap.size w ((w.alloc (.cells #[.string ⟨#[116, 114, 97, 110, 115, 102, 101, 114, 45, 101, 110, 99, 111, 100, 105, 110, 103]⟩, .func (.func 59) #[] #[]] 68)).alloc (.cells #[.int .u8 0, .int .i64 0, .slice none 0 0] 72))) := Lib.hid (stpA (stpA (Below.refl _ _) _) _)
  have R0 : Hid (((w.alloc (.cells #[.string ⟨#[116, 114, 97, 110, 115, 102, 101, 114, 45, 101, 110, 99, 111, 100, 105, 110, 103]⟩, .func (.func 59) #[] #[]] 68)).alloc (.cells #[.int .u8 0, .int .i64 0, .slice none 0 0] 72)).heap[w.heap.size]? = some (.cells #[.string ⟨#[116, 114, 97, 110, 115, 102, 101, 114, 45, 101, 110, 99, 111, 100, 105, 110, 103]⟩, .func (.func 59) #[] #[]] 68 (0, 0))) := Lib.hid (kept_heap (heap_alloc_new w _) (stpA (Below.refl _ _) _))
  have T0 : Hid (((w.alloc (.cells #[.string ⟨#[116, 114, 97, 110, 115, 102, 101, 114, 45, 101, 110, 99, 111, 100, 105, 110, 103]⟩, .func (.func 59) #[] #[]] 68)).alloc (.cells #[.int .u8 0, .int .i64 0, .slice none 0 0] 72)).heap[w.heap.size + 1]? = some (.cells zTold 72 (0, 0))) := Lib.hid (by have := heap_alloc_new (w.alloc (.cells #[.string ⟨#[116, 114, 97, 110, 115, 102, 101, 114, 45, 101, 110, 99, 111, 100, 105, 110, 103]⟩, .func (.func 59) #[] #[]] 68)) (.cells #[.int .u8 0, .int .i64 0, .slice none 0 0] 72); rw [World.size_alloc] at this; exact this)
  have c0 : ((w.alloc (.cells #[.string ⟨#[116, 114, 97, 110, 115, 102, 101, 114, 45, 101, 110, 99, 111, 100, 105, 110, 103]⟩, .func (.func 59) #[] #[]] 68)).alloc (.cells #[.int .u8 0, .int .i64 0, .slice none 0 0] 72)).cell? ⟨w.heap.size, 0, none⟩ = some (.string ⟨#[116, 114, 97, 110, 115, 102, 101, 114, 45, 101, 110, 99, 111, 100, 105, 110, 103]⟩) := cellV _ _ 0 _ _ _ R0.out
  have HO : Hid (∀ W, Below w.heap.size w W → Calls Try.prog 23 #[.slice A n cp, .string ⟨#[116, 114, 97, 110, 115, 102, 101, 114, 45, 101, 110, 99, 111, 100, 105, 110, 103]⟩] W fun e w' => e = .returned (.tuple #[.string v, .bool false, .int .i64 0]) ∧ Below W.heap.size W w') := Lib.hid fun W hW => one14 A n cp ps ⟨#[116, 114, 97, 110, 115, 102, 101, 114, 45, 101, 110, 99, 111, 100, 105, 110, 103]⟩ W (hr.on hW) hn hm hs (by decide) v false 0 h
  clear hr hn hm hs h
  go_enter Try.func37, Try.ntmps37
  go_wp2_with (first
    | (go_at_call 23; (with_reducible refine (HO.out _ B0.out).mono ?_); rintro e w1 ⟨rfl, hb1⟩; have HB1 := Lib.hid (stp B0.out hb1); have GR1 := Lib.hid (kept_heap R0.out hb1); have GT1 := Lib.hid (kept_heap T0.out hb1); have d1 : w1.cell? ⟨w.heap.size, 1, none⟩ = some (.func (.func 59) #[] #[]) := cellV _ _ 1 _ _ _ GR1.out; clear hb1)
    | (refine wpList_store_row rfl _ _ _ rfl (w.heap.size + 1) #[.int .u8 0, .int .i64 0, .slice none 0 0] rfl rfl 72 zTold GT1.out sizeTold rfl (oneTold 0 0 none 0 0) ?_)
    | fail)
  exact bodyPost_ret (v := .tuple #[.agg #[.int .u8 0, .int .i64 0, .slice none 0 0], .bool false, .int .i64 0]) (rcell3 (p := 4) (q := 5) (r := 6) rfl _ _ _ _ #[.int .u8 0, .int .i64 0, .slice none 0 0] _ _ rfl (setRow_heap _ _ _ #[.int .u8 0, .int .i64 0, .slice none 0 0] _ _ (GT1.out)) Try.underlying72 rfl sizeTold) rfl ⟨rfl, below_setRowV HB1.out (Nat.le_succ _) _⟩
set_option maxHeartbeats 8000000 in
set_option maxRecDepth 100000 in
theorem only0_bad (A : Option Addr) (n cp : Nat) (ps : List Pr) (w : World) (hr : RdC PrC w w.heap.size A ps) (hn : ps.length = n) (hm : n ≤ 1000) (hs : SmP ps) (v : ByteArray) (h : oneH ps (⟨#[116, 114, 97, 110, 115, 102, 101, 114, 45, 101, 110, 99, 111, 100, 105, 110, 103]⟩ : ByteArray).data.toList = (v.data.toList, true, 0)) (hf : isChunked v.data.toList = false) : Calls Try.prog 37 #[.agg #[.string ⟨#[116, 114, 97, 110, 115, 102, 101, 114, 45, 101, 110, 99, 111, 100, 105, 110, 103]⟩, .func (.func 59) #[] #[]], .slice A n cp] w fun e w' => e = .returned (.tuple #[.agg #[.int .u8 0, .int .i64 0, .slice none 0 0], .bool false, .int .i64 140]) ∧ Below w.heap.size w w' := by
  have B0 : Hid (Below w.heap.size w ((w.alloc (.cells #[.string ⟨#[116, 114, 97, 110, 115, 102, 101, 114, 45, 101, 110, 99, 111, 100, 105, 110, 103]⟩, .func (.func 59) #[] #[]] 68)).alloc (.cells #[.int .u8 0, .int .i64 0, .slice none 0 0] 72))) := Lib.hid (stpA (stpA (Below.refl _ _) _) _)
  have R0 : Hid (((w.alloc (.cells #[.string ⟨#[116, 114, 97, 110, 115, 102, 101, 114, 45, 101, 110, 99, 111, 100, 105, 110, 103]⟩, .func (.func 59) #[] #[]] 68)).alloc (.cells #[.int .u8 0, .int .i64 0, .slice none 0 0] 72)).heap[w.heap.size]? = some (.cells #[.string ⟨#[116, 114, 97, 110, 115, 102, 101, 114, 45, 101, 110, 99, 111, 100, 105, 110, 103]⟩, .func (.func 59) #[] #[]] 68 (0, 0))) := Lib.hid (kept_heap (heap_alloc_new w _) (stpA (Below.refl _ _) _))
  have T0 : Hid (((w.alloc (.cells #[.string ⟨#[116, 114, 97, 110, 115, 102, 101, 114, 45, 101, 110, 99, 111, 100, 105, 110, 103]⟩, .func (.func 59) #[] #[]] 68)).alloc (.cells #[.int .u8 0, .int .i64 0, .slice none 0 0] 72)).heap[w.heap.size + 1]? = some (.cells zTold 72 (0, 0))) := Lib.hid (by have := heap_alloc_new (w.alloc (.cells #[.string ⟨#[116, 114, 97, 110, 115, 102, 101, 114, 45, 101, 110, 99, 111, 100, 105, 110, 103]⟩, .func (.func 59) #[] #[]] 68)) (.cells #[.int .u8 0, .int .i64 0, .slice none 0 0] 72); rw [World.size_alloc] at this; exact this)
  have c0 : ((w.alloc (.cells #[.string ⟨#[116, 114, 97, 110, 115, 102, 101, 114, 45, 101, 110, 99, 111, 100, 105, 110, 103]⟩, .func (.func 59) #[] #[]] 68)).alloc (.cells #[.int .u8 0, .int .i64 0, .slice none 0 0] 72)).cell? ⟨w.heap.size, 0, none⟩ = some (.string ⟨#[116, 114, 97, 110, 115, 102, 101, 114, 45, 101, 110, 99, 111, 100, 105, 110, 103]⟩) := cellV _ _ 0 _ _ _ R0.out
  have HO : Hid (∀ W, Below w.heap.size w W → Calls Try.prog 23 #[.slice A n cp, .string ⟨#[116, 114, 97, 110, 115, 102, 101, 114, 45, 101, 110, 99, 111, 100, 105, 110, 103]⟩] W fun e w' => e = .returned (.tuple #[.string v, .bool true, .int .i64 0]) ∧ Below W.heap.size W w') := Lib.hid fun W hW => one14 A n cp ps ⟨#[116, 114, 97, 110, 115, 102, 101, 114, 45, 101, 110, 99, 111, 100, 105, 110, 103]⟩ W (hr.on hW) hn hm hs (by decide) v true 0 h
  have hv : v.size ≤ 1000000 := by
    have h1 := one_mem h
    have h2 := find_mem h1 hs
    rw [ba_l] at h2
    omega
  have HRD : Hid (∀ W, Calls Try.prog 59 #[.string v] W fun e w' => e = .returned (.tuple #[.agg #[.int .u8 2, .int .i64 0, .slice none 0 0], .bool false]) ∧ Below W.heap.size W w') := Lib.hid fun W => readCoding14 v false W hv hf
  clear hr hn hm hs h hv hf
  go_enter Try.func37, Try.ntmps37
  go_wp2_with (first
    | (go_at_call 23; (with_reducible refine (HO.out _ B0.out).mono ?_); rintro e w1 ⟨rfl, hb1⟩; have HB1 := Lib.hid (stp B0.out hb1); have GR1 := Lib.hid (kept_heap R0.out hb1); have GT1 := Lib.hid (kept_heap T0.out hb1); have d1 : w1.cell? ⟨w.heap.size, 1, none⟩ = some (.func (.func 59) #[] #[]) := cellV _ _ 1 _ _ _ GR1.out; clear hb1)
    | (go_at_call 59; (with_reducible refine (HRD.out _).mono ?_); rintro e w2 ⟨rfl, hb2⟩; have HB2 := Lib.hid (stp HB1.out hb2); have GT2 := Lib.hid (kept_heap (kept_heap GT1.out hb2) (stpA (Below.refl _ _) (.cells #[.int .u8 2, .int .i64 0, .slice none 0 0] 72))); have GN2 := Lib.hid (heap_alloc_new w2 (.cells #[.int .u8 2, .int .i64 0, .slice none 0 0] 72)); have HB3 := Lib.hid (stpA HB2.out (.cells #[.int .u8 2, .int .i64 0, .slice none 0 0] 72)); clear hb2)
    | (refine wpList_store_row rfl _ _ _ rfl (w.heap.size + 1) #[.int .u8 0, .int .i64 0, .slice none 0 0] rfl rfl 72 zTold GT2.out sizeTold rfl (oneTold 0 0 none 0 0) ?_)
    | fail)
  exact bodyPost_ret (v := .tuple #[.agg #[.int .u8 0, .int .i64 0, .slice none 0 0], .bool false, .int .i64 140]) (rcell3 (p := 4) (q := 5) (r := 6) rfl _ _ _ _ #[.int .u8 0, .int .i64 0, .slice none 0 0] _ _ rfl (setRow_heap _ _ _ #[.int .u8 0, .int .i64 0, .slice none 0 0] _ _ (GT2.out)) Try.underlying72 rfl sizeTold) rfl ⟨rfl, below_setRowV HB3.out (Nat.le_succ _) _⟩
set_option maxHeartbeats 8000000 in
set_option maxRecDepth 100000 in
theorem only0_ok (A : Option Addr) (n cp : Nat) (ps : List Pr) (w : World) (hr : RdC PrC w w.heap.size A ps) (hn : ps.length = n) (hm : n ≤ 1000) (hs : SmP ps) (v : ByteArray) (h : oneH ps (⟨#[116, 114, 97, 110, 115, 102, 101, 114, 45, 101, 110, 99, 111, 100, 105, 110, 103]⟩ : ByteArray).data.toList = (v.data.toList, true, 0)) (hf : isChunked v.data.toList = true) : Calls Try.prog 37 #[.agg #[.string ⟨#[116, 114, 97, 110, 115, 102, 101, 114, 45, 101, 110, 99, 111, 100, 105, 110, 103]⟩, .func (.func 59) #[] #[]], .slice A n cp] w fun e w' => e = .returned (.tuple #[.agg #[.int .u8 2, .int .i64 0, .slice none 0 0], .bool true, .int .i64 0]) ∧ Below w.heap.size w w' := by
  have B0 : Hid (Below w.heap.size w ((w.alloc (.cells #[.string ⟨#[116, 114, 97, 110, 115, 102, 101, 114, 45, 101, 110, 99, 111, 100, 105, 110, 103]⟩, .func (.func 59) #[] #[]] 68)).alloc (.cells #[.int .u8 0, .int .i64 0, .slice none 0 0] 72))) := Lib.hid (stpA (stpA (Below.refl _ _) _) _)
  have R0 : Hid (((w.alloc (.cells #[.string ⟨#[116, 114, 97, 110, 115, 102, 101, 114, 45, 101, 110, 99, 111, 100, 105, 110, 103]⟩, .func (.func 59) #[] #[]] 68)).alloc (.cells #[.int .u8 0, .int .i64 0, .slice none 0 0] 72)).heap[w.heap.size]? = some (.cells #[.string ⟨#[116, 114, 97, 110, 115, 102, 101, 114, 45, 101, 110, 99, 111, 100, 105, 110, 103]⟩, .func (.func 59) #[] #[]] 68 (0, 0))) := Lib.hid (kept_heap (heap_alloc_new w _) (stpA (Below.refl _ _) _))
  have T0 : Hid (((w.alloc (.cells #[.string ⟨#[116, 114, 97, 110, 115, 102, 101, 114, 45, 101, 110, 99, 111, 100, 105, 110, 103]⟩, .func (.func 59) #[] #[]] 68)).alloc (.cells #[.int .u8 0, .int .i64 0, .slice none 0 0] 72)).heap[w.heap.size + 1]? = some (.cells zTold 72 (0, 0))) := Lib.hid (by have := heap_alloc_new (w.alloc (.cells #[.string ⟨#[116, 114, 97, 110, 115, 102, 101, 114, 45, 101, 110, 99, 111, 100, 105, 110, 103]⟩, .func (.func 59) #[] #[]] 68)) (.cells #[.int .u8 0, .int .i64 0, .slice none 0 0] 72); rw [World.size_alloc] at this; exact this)
  have c0 : ((w.alloc (.cells #[.string ⟨#[116, 114, 97, 110, 115, 102, 101, 114, 45, 101, 110, 99, 111, 100, 105, 110, 103]⟩, .func (.func 59) #[] #[]] 68)).alloc (.cells #[.int .u8 0, .int .i64 0, .slice none 0 0] 72)).cell? ⟨w.heap.size, 0, none⟩ = some (.string ⟨#[116, 114, 97, 110, 115, 102, 101, 114, 45, 101, 110, 99, 111, 100, 105, 110, 103]⟩) := cellV _ _ 0 _ _ _ R0.out
  have HO : Hid (∀ W, Below w.heap.size w W → Calls Try.prog 23 #[.slice A n cp, .string ⟨#[116, 114, 97, 110, 115, 102, 101, 114, 45, 101, 110, 99, 111, 100, 105, 110, 103]⟩] W fun e w' => e = .returned (.tuple #[.string v, .bool true, .int .i64 0]) ∧ Below W.heap.size W w') := Lib.hid fun W hW => one14 A n cp ps ⟨#[116, 114, 97, 110, 115, 102, 101, 114, 45, 101, 110, 99, 111, 100, 105, 110, 103]⟩ W (hr.on hW) hn hm hs (by decide) v true 0 h
  have hv : v.size ≤ 1000000 := by
    have h1 := one_mem h
    have h2 := find_mem h1 hs
    rw [ba_l] at h2
    omega
  have HRD : Hid (∀ W, Calls Try.prog 59 #[.string v] W fun e w' => e = .returned (.tuple #[.agg #[.int .u8 2, .int .i64 0, .slice none 0 0], .bool true]) ∧ Below W.heap.size W w') := Lib.hid fun W => readCoding14 v true W hv hf
  clear hr hn hm hs h hv hf
  go_enter Try.func37, Try.ntmps37
  go_wp2_with (first
    | (go_at_call 23; (with_reducible refine (HO.out _ B0.out).mono ?_); rintro e w1 ⟨rfl, hb1⟩; have HB1 := Lib.hid (stp B0.out hb1); have GR1 := Lib.hid (kept_heap R0.out hb1); have GT1 := Lib.hid (kept_heap T0.out hb1); have d1 : w1.cell? ⟨w.heap.size, 1, none⟩ = some (.func (.func 59) #[] #[]) := cellV _ _ 1 _ _ _ GR1.out; clear hb1)
    | (go_at_call 59; (with_reducible refine (HRD.out _).mono ?_); rintro e w2 ⟨rfl, hb2⟩; have HB2 := Lib.hid (stp HB1.out hb2); have GT2 := Lib.hid (kept_heap (kept_heap GT1.out hb2) (stpA (Below.refl _ _) (.cells #[.int .u8 2, .int .i64 0, .slice none 0 0] 72))); have GN2 := Lib.hid (heap_alloc_new w2 (.cells #[.int .u8 2, .int .i64 0, .slice none 0 0] 72)); have HB3 := Lib.hid (stpA HB2.out (.cells #[.int .u8 2, .int .i64 0, .slice none 0 0] 72)); clear hb2)
    | (refine wpList_load_row rfl _ _ rfl w2.heap.size rfl 72 #[.int .u8 2, .int .i64 0, .slice none 0 0] (0, 0) _ GN2.out Try.underlying72 rfl sizeTold ?_)
    | (refine wpList_store_row rfl _ _ _ rfl (w.heap.size + 1) #[.int .u8 2, .int .i64 0, .slice none 0 0] rfl rfl 72 zTold GT2.out sizeTold rfl (oneTold 2 0 none 0 0) ?_)
    | fail)
  exact bodyPost_ret (v := .tuple #[.agg #[.int .u8 2, .int .i64 0, .slice none 0 0], .bool true, .int .i64 0]) (rcell3 (p := 4) (q := 5) (r := 6) rfl _ _ _ _ #[.int .u8 2, .int .i64 0, .slice none 0 0] _ _ rfl (setRow_heap _ _ _ #[.int .u8 2, .int .i64 0, .slice none 0 0] _ _ (GT2.out)) Try.underlying72 rfl sizeTold) rfl ⟨rfl, below_setRowV HB3.out (Nat.le_succ _) _⟩
set_option maxHeartbeats 8000000 in
set_option maxRecDepth 100000 in
theorem only1_err (A : Option Addr) (n cp : Nat) (ps : List Pr) (w : World) (hr : RdC PrC w w.heap.size A ps) (hn : ps.length = n) (hm : n ≤ 1000) (hs : SmP ps) (v : ByteArray) (b : Bool) (q : Int) (h : oneH ps (⟨#[99, 111, 110, 116, 101, 110, 116, 45, 108, 101, 110, 103, 116, 104]⟩ : ByteArray).data.toList = (v.data.toList, b, q)) (hq : (q != 0) = true) : Calls Try.prog 37 #[.agg #[.string ⟨#[99, 111, 110, 116, 101, 110, 116, 45, 108, 101, 110, 103, 116, 104]⟩, .func (.func 60) #[] #[]], .slice A n cp] w fun e w' => e = .returned (.tuple #[.agg #[.int .u8 0, .int .i64 0, .slice none 0 0], .bool false, .int .i64 q]) ∧ Below w.heap.size w w' := by
  have B0 : Hid (Below w.heap.size w ((w.alloc (.cells #[.string ⟨#[99, 111, 110, 116, 101, 110, 116, 45, 108, 101, 110, 103, 116, 104]⟩, .func (.func 60) #[] #[]] 68)).alloc (.cells #[.int .u8 0, .int .i64 0, .slice none 0 0] 72))) := Lib.hid (stpA (stpA (Below.refl _ _) _) _)
  have R0 : Hid (((w.alloc (.cells #[.string ⟨#[99, 111, 110, 116, 101, 110, 116, 45, 108, 101, 110, 103, 116, 104]⟩, .func (.func 60) #[] #[]] 68)).alloc (.cells #[.int .u8 0, .int .i64 0, .slice none 0 0] 72)).heap[w.heap.size]? = some (.cells #[.string ⟨#[99, 111, 110, 116, 101, 110, 116, 45, 108, 101, 110, 103, 116, 104]⟩, .func (.func 60) #[] #[]] 68 (0, 0))) := Lib.hid (kept_heap (heap_alloc_new w _) (stpA (Below.refl _ _) _))
  have T0 : Hid (((w.alloc (.cells #[.string ⟨#[99, 111, 110, 116, 101, 110, 116, 45, 108, 101, 110, 103, 116, 104]⟩, .func (.func 60) #[] #[]] 68)).alloc (.cells #[.int .u8 0, .int .i64 0, .slice none 0 0] 72)).heap[w.heap.size + 1]? = some (.cells zTold 72 (0, 0))) := Lib.hid (by have := heap_alloc_new (w.alloc (.cells #[.string ⟨#[99, 111, 110, 116, 101, 110, 116, 45, 108, 101, 110, 103, 116, 104]⟩, .func (.func 60) #[] #[]] 68)) (.cells #[.int .u8 0, .int .i64 0, .slice none 0 0] 72); rw [World.size_alloc] at this; exact this)
  have c0 : ((w.alloc (.cells #[.string ⟨#[99, 111, 110, 116, 101, 110, 116, 45, 108, 101, 110, 103, 116, 104]⟩, .func (.func 60) #[] #[]] 68)).alloc (.cells #[.int .u8 0, .int .i64 0, .slice none 0 0] 72)).cell? ⟨w.heap.size, 0, none⟩ = some (.string ⟨#[99, 111, 110, 116, 101, 110, 116, 45, 108, 101, 110, 103, 116, 104]⟩) := cellV _ _ 0 _ _ _ R0.out
  have HO : Hid (∀ W, Below w.heap.size w W → Calls Try.prog 23 #[.slice A n cp, .string ⟨#[99, 111, 110, 116, 101, 110, 116, 45, 108, 101, 110, 103, 116, 104]⟩] W fun e w' => e = .returned (.tuple #[.string v, .bool b, .int .i64 q]) ∧ Below W.heap.size W w') := Lib.hid fun W hW => one14 A n cp ps ⟨#[99, 111, 110, 116, 101, 110, 116, 45, 108, 101, 110, 103, 116, 104]⟩ W (hr.on hW) hn hm hs (by decide) v b q h
  clear hr hn hm hs h
  go_enter Try.func37, Try.ntmps37
  go_wp2_with (first
    | (go_at_call 23; (with_reducible refine (HO.out _ B0.out).mono ?_); rintro e w1 ⟨rfl, hb1⟩; have HB1 := Lib.hid (stp B0.out hb1); have GR1 := Lib.hid (kept_heap R0.out hb1); have GT1 := Lib.hid (kept_heap T0.out hb1); have d1 : w1.cell? ⟨w.heap.size, 1, none⟩ = some (.func (.func 60) #[] #[]) := cellV _ _ 1 _ _ _ GR1.out; clear hb1)
    | (refine wpList_store_row rfl _ _ _ rfl (w.heap.size + 1) #[.int .u8 0, .int .i64 0, .slice none 0 0] rfl rfl 72 zTold GT1.out sizeTold rfl (oneTold 0 0 none 0 0) ?_)
    | fail)
  exact bodyPost_ret (v := .tuple #[.agg #[.int .u8 0, .int .i64 0, .slice none 0 0], .bool false, .int .i64 q]) (rcell3 (p := 4) (q := 5) (r := 6) rfl _ _ _ _ #[.int .u8 0, .int .i64 0, .slice none 0 0] _ _ rfl (setRow_heap _ _ _ #[.int .u8 0, .int .i64 0, .slice none 0 0] _ _ (GT1.out)) Try.underlying72 rfl sizeTold) rfl ⟨rfl, below_setRowV HB1.out (Nat.le_succ _) _⟩
set_option maxHeartbeats 8000000 in
set_option maxRecDepth 100000 in
theorem only1_no (A : Option Addr) (n cp : Nat) (ps : List Pr) (w : World) (hr : RdC PrC w w.heap.size A ps) (hn : ps.length = n) (hm : n ≤ 1000) (hs : SmP ps) (v : ByteArray) (h : oneH ps (⟨#[99, 111, 110, 116, 101, 110, 116, 45, 108, 101, 110, 103, 116, 104]⟩ : ByteArray).data.toList = (v.data.toList, false, 0)) : Calls Try.prog 37 #[.agg #[.string ⟨#[99, 111, 110, 116, 101, 110, 116, 45, 108, 101, 110, 103, 116, 104]⟩, .func (.func 60) #[] #[]], .slice A n cp] w fun e w' => e = .returned (.tuple #[.agg #[.int .u8 0, .int .i64 0, .slice none 0 0], .bool false, .int .i64 0]) ∧ Below w.heap.size w w' := by
  have B0 : Hid (Below w.heap.size w ((w.alloc (.cells #[.string ⟨#[99, 111, 110, 116, 101, 110, 116, 45, 108, 101, 110, 103, 116, 104]⟩, .func (.func 60) #[] #[]] 68)).alloc (.cells #[.int .u8 0, .int .i64 0, .slice none 0 0] 72))) := Lib.hid (stpA (stpA (Below.refl _ _) _) _)
  have R0 : Hid (((w.alloc (.cells #[.string ⟨#[99, 111, 110, 116, 101, 110, 116, 45, 108, 101, 110, 103, 116, 104]⟩, .func (.func 60) #[] #[]] 68)).alloc (.cells #[.int .u8 0, .int .i64 0, .slice none 0 0] 72)).heap[w.heap.size]? = some (.cells #[.string ⟨#[99, 111, 110, 116, 101, 110, 116, 45, 108, 101, 110, 103, 116, 104]⟩, .func (.func 60) #[] #[]] 68 (0, 0))) := Lib.hid (kept_heap (heap_alloc_new w _) (stpA (Below.refl _ _) _))
  have T0 : Hid (((w.alloc (.cells #[.string ⟨#[99, 111, 110, 116, 101, 110, 116, 45, 108, 101, 110, 103, 116, 104]⟩, .func (.func 60) #[] #[]] 68)).alloc (.cells #[.int .u8 0, .int .i64 0, .slice none 0 0] 72)).heap[w.heap.size + 1]? = some (.cells zTold 72 (0, 0))) := Lib.hid (by have := heap_alloc_new (w.alloc (.cells #[.string ⟨#[99, 111, 110, 116, 101, 110, 116, 45, 108, 101, 110, 103, 116, 104]⟩, .func (.func 60) #[] #[]] 68)) (.cells #[.int .u8 0, .int .i64 0, .slice none 0 0] 72); rw [World.size_alloc] at this; exact this)
  have c0 : ((w.alloc (.cells #[.string ⟨#[99, 111, 110, 116, 101, 110, 116, 45, 108, 101, 110, 103, 116, 104]⟩, .func (.func 60) #[] #[]] 68)).alloc (.cells #[.int .u8 0, .int .i64 0, .slice none 0 0] 72)).cell? ⟨w.heap.size, 0, none⟩ = some (.string ⟨#[99, 111, 110, 116, 101, 110, 116, 45, 108, 101, 110, 103, 116, 104]⟩) := cellV _ _ 0 _ _ _ R0.out
  have HO : Hid (∀ W, Below w.heap.size w W → Calls Try.prog 23 #[.slice A n cp, .string ⟨#[99, 111, 110, 116, 101, 110, 116, 45, 108, 101, 110, 103, 116, 104]⟩] W fun e w' => e = .returned (.tuple #[.string v, .bool false, .int .i64 0]) ∧ Below W.heap.size W w') := Lib.hid fun W hW => one14 A n cp ps ⟨#[99, 111, 110, 116, 101, 110, 116, 45, 108, 101, 110, 103, 116, 104]⟩ W (hr.on hW) hn hm hs (by decide) v false 0 h
  clear hr hn hm hs h
  go_enter Try.func37, Try.ntmps37
  go_wp2_with (first
    | (go_at_call 23; (with_reducible refine (HO.out _ B0.out).mono ?_); rintro e w1 ⟨rfl, hb1⟩; have HB1 := Lib.hid (stp B0.out hb1); have GR1 := Lib.hid (kept_heap R0.out hb1); have GT1 := Lib.hid (kept_heap T0.out hb1); have d1 : w1.cell? ⟨w.heap.size, 1, none⟩ = some (.func (.func 60) #[] #[]) := cellV _ _ 1 _ _ _ GR1.out; clear hb1)
    | (refine wpList_store_row rfl _ _ _ rfl (w.heap.size + 1) #[.int .u8 0, .int .i64 0, .slice none 0 0] rfl rfl 72 zTold GT1.out sizeTold rfl (oneTold 0 0 none 0 0) ?_)
    | fail)
  exact bodyPost_ret (v := .tuple #[.agg #[.int .u8 0, .int .i64 0, .slice none 0 0], .bool false, .int .i64 0]) (rcell3 (p := 4) (q := 5) (r := 6) rfl _ _ _ _ #[.int .u8 0, .int .i64 0, .slice none 0 0] _ _ rfl (setRow_heap _ _ _ #[.int .u8 0, .int .i64 0, .slice none 0 0] _ _ (GT1.out)) Try.underlying72 rfl sizeTold) rfl ⟨rfl, below_setRowV HB1.out (Nat.le_succ _) _⟩
set_option maxHeartbeats 8000000 in
set_option maxRecDepth 100000 in
theorem only1_bad (A : Option Addr) (n cp : Nat) (ps : List Pr) (w : World) (hr : RdC PrC w w.heap.size A ps) (hn : ps.length = n) (hm : n ≤ 1000) (hs : SmP ps) (v : ByteArray) (h : oneH ps (⟨#[99, 111, 110, 116, 101, 110, 116, 45, 108, 101, 110, 103, 116, 104]⟩ : ByteArray).data.toList = (v.data.toList, true, 0)) (a z : Int) (hf : readR v.data.toList = (a, z)) (hz : (z == 0) = false) : Calls Try.prog 37 #[.agg #[.string ⟨#[99, 111, 110, 116, 101, 110, 116, 45, 108, 101, 110, 103, 116, 104]⟩, .func (.func 60) #[] #[]], .slice A n cp] w fun e w' => e = .returned (.tuple #[.agg #[.int .u8 0, .int .i64 0, .slice none 0 0], .bool false, .int .i64 140]) ∧ Below w.heap.size w w' := by
  have B0 : Hid (Below w.heap.size w ((w.alloc (.cells #[.string ⟨#[99, 111, 110, 116, 101, 110, 116, 45, 108, 101, 110, 103, 116, 104]⟩, .func (.func 60) #[] #[]] 68)).alloc (.cells #[.int .u8 0, .int .i64 0, .slice none 0 0] 72))) := Lib.hid (stpA (stpA (Below.refl _ _) _) _)
  have R0 : Hid (((w.alloc (.cells #[.string ⟨#[99, 111, 110, 116, 101, 110, 116, 45, 108, 101, 110, 103, 116, 104]⟩, .func (.func 60) #[] #[]] 68)).alloc (.cells #[.int .u8 0, .int .i64 0, .slice none 0 0] 72)).heap[w.heap.size]? = some (.cells #[.string ⟨#[99, 111, 110, 116, 101, 110, 116, 45, 108, 101, 110, 103, 116, 104]⟩, .func (.func 60) #[] #[]] 68 (0, 0))) := Lib.hid (kept_heap (heap_alloc_new w _) (stpA (Below.refl _ _) _))
  have T0 : Hid (((w.alloc (.cells #[.string ⟨#[99, 111, 110, 116, 101, 110, 116, 45, 108, 101, 110, 103, 116, 104]⟩, .func (.func 60) #[] #[]] 68)).alloc (.cells #[.int .u8 0, .int .i64 0, .slice none 0 0] 72)).heap[w.heap.size + 1]? = some (.cells zTold 72 (0, 0))) := Lib.hid (by have := heap_alloc_new (w.alloc (.cells #[.string ⟨#[99, 111, 110, 116, 101, 110, 116, 45, 108, 101, 110, 103, 116, 104]⟩, .func (.func 60) #[] #[]] 68)) (.cells #[.int .u8 0, .int .i64 0, .slice none 0 0] 72); rw [World.size_alloc] at this; exact this)
  have c0 : ((w.alloc (.cells #[.string ⟨#[99, 111, 110, 116, 101, 110, 116, 45, 108, 101, 110, 103, 116, 104]⟩, .func (.func 60) #[] #[]] 68)).alloc (.cells #[.int .u8 0, .int .i64 0, .slice none 0 0] 72)).cell? ⟨w.heap.size, 0, none⟩ = some (.string ⟨#[99, 111, 110, 116, 101, 110, 116, 45, 108, 101, 110, 103, 116, 104]⟩) := cellV _ _ 0 _ _ _ R0.out
  have HO : Hid (∀ W, Below w.heap.size w W → Calls Try.prog 23 #[.slice A n cp, .string ⟨#[99, 111, 110, 116, 101, 110, 116, 45, 108, 101, 110, 103, 116, 104]⟩] W fun e w' => e = .returned (.tuple #[.string v, .bool true, .int .i64 0]) ∧ Below W.heap.size W w') := Lib.hid fun W hW => one14 A n cp ps ⟨#[99, 111, 110, 116, 101, 110, 116, 45, 108, 101, 110, 103, 116, 104]⟩ W (hr.on hW) hn hm hs (by decide) v true 0 h
  have hv : v.size ≤ 1000000 := by
    have h1 := one_mem h
    have h2 := find_mem h1 hs
    rw [ba_l] at h2
    omega
  have HRD : Hid (∀ W, Calls Try.prog 60 #[.string v] W fun e w' => e = .returned (.tuple #[.agg #[.int .u8 1, .int .i64 a, .slice none 0 0], .bool false]) ∧ Below W.heap.size W w') := Lib.hid fun W => readLength14 v a z false W hv hf hz
  clear hr hn hm hs h hv hf hz
  go_enter Try.func37, Try.ntmps37
  go_wp2_with (first
    | (go_at_call 23; (with_reducible refine (HO.out _ B0.out).mono ?_); rintro e w1 ⟨rfl, hb1⟩; have HB1 := Lib.hid (stp B0.out hb1); have GR1 := Lib.hid (kept_heap R0.out hb1); have GT1 := Lib.hid (kept_heap T0.out hb1); have d1 : w1.cell? ⟨w.heap.size, 1, none⟩ = some (.func (.func 60) #[] #[]) := cellV _ _ 1 _ _ _ GR1.out; clear hb1)
    | (go_at_call 60; (with_reducible refine (HRD.out _).mono ?_); rintro e w2 ⟨rfl, hb2⟩; have HB2 := Lib.hid (stp HB1.out hb2); have GT2 := Lib.hid (kept_heap (kept_heap GT1.out hb2) (stpA (Below.refl _ _) (.cells #[.int .u8 1, .int .i64 a, .slice none 0 0] 72))); have GN2 := Lib.hid (heap_alloc_new w2 (.cells #[.int .u8 1, .int .i64 a, .slice none 0 0] 72)); have HB3 := Lib.hid (stpA HB2.out (.cells #[.int .u8 1, .int .i64 a, .slice none 0 0] 72)); clear hb2)
    | (refine wpList_store_row rfl _ _ _ rfl (w.heap.size + 1) #[.int .u8 0, .int .i64 0, .slice none 0 0] rfl rfl 72 zTold GT2.out sizeTold rfl (oneTold 0 0 none 0 0) ?_)
    | fail)
  exact bodyPost_ret (v := .tuple #[.agg #[.int .u8 0, .int .i64 0, .slice none 0 0], .bool false, .int .i64 140]) (rcell3 (p := 4) (q := 5) (r := 6) rfl _ _ _ _ #[.int .u8 0, .int .i64 0, .slice none 0 0] _ _ rfl (setRow_heap _ _ _ #[.int .u8 0, .int .i64 0, .slice none 0 0] _ _ (GT2.out)) Try.underlying72 rfl sizeTold) rfl ⟨rfl, below_setRowV HB3.out (Nat.le_succ _) _⟩
set_option maxHeartbeats 8000000 in
set_option maxRecDepth 100000 in
theorem only1_ok (A : Option Addr) (n cp : Nat) (ps : List Pr) (w : World) (hr : RdC PrC w w.heap.size A ps) (hn : ps.length = n) (hm : n ≤ 1000) (hs : SmP ps) (v : ByteArray) (h : oneH ps (⟨#[99, 111, 110, 116, 101, 110, 116, 45, 108, 101, 110, 103, 116, 104]⟩ : ByteArray).data.toList = (v.data.toList, true, 0)) (a z : Int) (hf : readR v.data.toList = (a, z)) (hz : (z == 0) = true) : Calls Try.prog 37 #[.agg #[.string ⟨#[99, 111, 110, 116, 101, 110, 116, 45, 108, 101, 110, 103, 116, 104]⟩, .func (.func 60) #[] #[]], .slice A n cp] w fun e w' => e = .returned (.tuple #[.agg #[.int .u8 1, .int .i64 a, .slice none 0 0], .bool true, .int .i64 0]) ∧ Below w.heap.size w w' := by
  have B0 : Hid (Below w.heap.size w ((w.alloc (.cells #[.string ⟨#[99, 111, 110, 116, 101, 110, 116, 45, 108, 101, 110, 103, 116, 104]⟩, .func (.func 60) #[] #[]] 68)).alloc (.cells #[.int .u8 0, .int .i64 0, .slice none 0 0] 72))) := Lib.hid (stpA (stpA (Below.refl _ _) _) _)
  have R0 : Hid (((w.alloc (.cells #[.string ⟨#[99, 111, 110, 116, 101, 110, 116, 45, 108, 101, 110, 103, 116, 104]⟩, .func (.func 60) #[] #[]] 68)).alloc (.cells #[.int .u8 0, .int .i64 0, .slice none 0 0] 72)).heap[w.heap.size]? = some (.cells #[.string ⟨#[99, 111, 110, 116, 101, 110, 116, 45, 108, 101, 110, 103, 116, 104]⟩, .func (.func 60) #[] #[]] 68 (0, 0))) := Lib.hid (kept_heap (heap_alloc_new w _) (stpA (Below.refl _ _) _))
  have T0 : Hid (((w.alloc (.cells #[.string ⟨#[99, 111, 110, 116, 101, 110, 116, 45, 108, 101, 110, 103, 116, 104]⟩, .func (.func 60) #[] #[]] 68)).alloc (.cells #[.int .u8 0, .int .i64 0, .slice none 0 0] 72)).heap[w.heap.size + 1]? = some (.cells zTold 72 (0, 0))) := Lib.hid (by have := heap_alloc_new (w.alloc (.cells #[.string ⟨#[99, 111, 110, 116, 101, 110, 116, 45, 108, 101, 110, 103, 116, 104]⟩, .func (.func 60) #[] #[]] 68)) (.cells #[.int .u8 0, .int .i64 0, .slice none 0 0] 72); rw [World.size_alloc] at this; exact this)
  have c0 : ((w.alloc (.cells #[.string ⟨#[99, 111, 110, 116, 101, 110, 116, 45, 108, 101, 110, 103, 116, 104]⟩, .func (.func 60) #[] #[]] 68)).alloc (.cells #[.int .u8 0, .int .i64 0, .slice none 0 0] 72)).cell? ⟨w.heap.size, 0, none⟩ = some (.string ⟨#[99, 111, 110, 116, 101, 110, 116, 45, 108, 101, 110, 103, 116, 104]⟩) := cellV _ _ 0 _ _ _ R0.out
  have HO : Hid (∀ W, Below w.heap.size w W → Calls Try.prog 23 #[.slice A n cp, .string ⟨#[99, 111, 110, 116, 101, 110, 116, 45, 108, 101, 110, 103, 116, 104]⟩] W fun e w' => e = .returned (.tuple #[.string v, .bool true, .int .i64 0]) ∧ Below W.heap.size W w') := Lib.hid fun W hW => one14 A n cp ps ⟨#[99, 111, 110, 116, 101, 110, 116, 45, 108, 101, 110, 103, 116, 104]⟩ W (hr.on hW) hn hm hs (by decide) v true 0 h
  have hv : v.size ≤ 1000000 := by
    have h1 := one_mem h
    have h2 := find_mem h1 hs
    rw [ba_l] at h2
    omega
  have HRD : Hid (∀ W, Calls Try.prog 60 #[.string v] W fun e w' => e = .returned (.tuple #[.agg #[.int .u8 1, .int .i64 a, .slice none 0 0], .bool true]) ∧ Below W.heap.size W w') := Lib.hid fun W => readLength14 v a z true W hv hf hz
  clear hr hn hm hs h hv hf hz
  go_enter Try.func37, Try.ntmps37
  go_wp2_with (first
    | (go_at_call 23; (with_reducible refine (HO.out _ B0.out).mono ?_); rintro e w1 ⟨rfl, hb1⟩; have HB1 := Lib.hid (stp B0.out hb1); have GR1 := Lib.hid (kept_heap R0.out hb1); have GT1 := Lib.hid (kept_heap T0.out hb1); have d1 : w1.cell? ⟨w.heap.size, 1, none⟩ = some (.func (.func 60) #[] #[]) := cellV _ _ 1 _ _ _ GR1.out; clear hb1)
    | (go_at_call 60; (with_reducible refine (HRD.out _).mono ?_); rintro e w2 ⟨rfl, hb2⟩; have HB2 := Lib.hid (stp HB1.out hb2); have GT2 := Lib.hid (kept_heap (kept_heap GT1.out hb2) (stpA (Below.refl _ _) (.cells #[.int .u8 1, .int .i64 a, .slice none 0 0] 72))); have GN2 := Lib.hid (heap_alloc_new w2 (.cells #[.int .u8 1, .int .i64 a, .slice none 0 0] 72)); have HB3 := Lib.hid (stpA HB2.out (.cells #[.int .u8 1, .int .i64 a, .slice none 0 0] 72)); clear hb2)
    | (refine wpList_load_row rfl _ _ rfl w2.heap.size rfl 72 #[.int .u8 1, .int .i64 a, .slice none 0 0] (0, 0) _ GN2.out Try.underlying72 rfl sizeTold ?_)
    | (refine wpList_store_row rfl _ _ _ rfl (w.heap.size + 1) #[.int .u8 1, .int .i64 a, .slice none 0 0] rfl rfl 72 zTold GT2.out sizeTold rfl (oneTold 1 a none 0 0) ?_)
    | fail)
  exact bodyPost_ret (v := .tuple #[.agg #[.int .u8 1, .int .i64 a, .slice none 0 0], .bool true, .int .i64 0]) (rcell3 (p := 4) (q := 5) (r := 6) rfl _ _ _ _ #[.int .u8 1, .int .i64 a, .slice none 0 0] _ _ rfl (setRow_heap _ _ _ #[.int .u8 1, .int .i64 a, .slice none 0 0] _ _ (GT2.out)) Try.underlying72 rfl sizeTold) rfl ⟨rfl, below_setRowV HB3.out (Nat.le_succ _) _⟩
set_option maxHeartbeats 8000000 in
set_option maxRecDepth 100000 in
theorem only3_err (A : Option Addr) (n cp : Nat) (ps : List Pr) (w : World) (hr : RdC PrC w w.heap.size A ps) (hn : ps.length = n) (hm : n ≤ 1000) (hs : SmP ps) (v : ByteArray) (b : Bool) (q : Int) (h : oneH ps (⟨#[104, 111, 115, 116]⟩ : ByteArray).data.toList = (v.data.toList, b, q)) (hq : (q != 0) = true) : Calls Try.prog 37 #[.agg #[.string ⟨#[104, 111, 115, 116]⟩, .func (.func 62) #[] #[]], .slice A n cp] w fun e w' => e = .returned (.tuple #[.agg #[.int .u8 0, .int .i64 0, .slice none 0 0], .bool false, .int .i64 q]) ∧ Below w.heap.size w w' := by
  have B0 : Hid (Below w.heap.size w ((w.alloc (.cells #[.string ⟨#[104, 111, 115, 116]⟩, .func (.func 62) #[] #[]] 68)).alloc (.cells #[.int .u8 0, .int .i64 0, .slice none 0 0] 72))) := Lib.hid (stpA (stpA (Below.refl _ _) _) _)
  have R0 : Hid (((w.alloc (.cells #[.string ⟨#[104, 111, 115, 116]⟩, .func (.func 62) #[] #[]] 68)).alloc (.cells #[.int .u8 0, .int .i64 0, .slice none 0 0] 72)).heap[w.heap.size]? = some (.cells #[.string ⟨#[104, 111, 115, 116]⟩, .func (.func 62) #[] #[]] 68 (0, 0))) := Lib.hid (kept_heap (heap_alloc_new w _) (stpA (Below.refl _ _) _))
  have T0 : Hid (((w.alloc (.cells #[.string ⟨#[104, 111, 115, 116]⟩, .func (.func 62) #[] #[]] 68)).alloc (.cells #[.int .u8 0, .int .i64 0, .slice none 0 0] 72)).heap[w.heap.size + 1]? = some (.cells zTold 72 (0, 0))) := Lib.hid (by have := heap_alloc_new (w.alloc (.cells #[.string ⟨#[104, 111, 115, 116]⟩, .func (.func 62) #[] #[]] 68)) (.cells #[.int .u8 0, .int .i64 0, .slice none 0 0] 72); rw [World.size_alloc] at this; exact this)
  have c0 : ((w.alloc (.cells #[.string ⟨#[104, 111, 115, 116]⟩, .func (.func 62) #[] #[]] 68)).alloc (.cells #[.int .u8 0, .int .i64 0, .slice none 0 0] 72)).cell? ⟨w.heap.size, 0, none⟩ = some (.string ⟨#[104, 111, 115, 116]⟩) := cellV _ _ 0 _ _ _ R0.out
  have HO : Hid (∀ W, Below w.heap.size w W → Calls Try.prog 23 #[.slice A n cp, .string ⟨#[104, 111, 115, 116]⟩] W fun e w' => e = .returned (.tuple #[.string v, .bool b, .int .i64 q]) ∧ Below W.heap.size W w') := Lib.hid fun W hW => one14 A n cp ps ⟨#[104, 111, 115, 116]⟩ W (hr.on hW) hn hm hs (by decide) v b q h
  clear hr hn hm hs h
  go_enter Try.func37, Try.ntmps37
  go_wp2_with (first
    | (go_at_call 23; (with_reducible refine (HO.out _ B0.out).mono ?_); rintro e w1 ⟨rfl, hb1⟩; have HB1 := Lib.hid (stp B0.out hb1); have GR1 := Lib.hid (kept_heap R0.out hb1); have GT1 := Lib.hid (kept_heap T0.out hb1); have d1 : w1.cell? ⟨w.heap.size, 1, none⟩ = some (.func (.func 62) #[] #[]) := cellV _ _ 1 _ _ _ GR1.out; clear hb1)
    | (refine wpList_store_row rfl _ _ _ rfl (w.heap.size + 1) #[.int .u8 0, .int .i64 0, .slice none 0 0] rfl rfl 72 zTold GT1.out sizeTold rfl (oneTold 0 0 none 0 0) ?_)
    | fail)
  exact bodyPost_ret (v := .tuple #[.agg #[.int .u8 0, .int .i64 0, .slice none 0 0], .bool false, .int .i64 q]) (rcell3 (p := 4) (q := 5) (r := 6) rfl _ _ _ _ #[.int .u8 0, .int .i64 0, .slice none 0 0] _ _ rfl (setRow_heap _ _ _ #[.int .u8 0, .int .i64 0, .slice none 0 0] _ _ (GT1.out)) Try.underlying72 rfl sizeTold) rfl ⟨rfl, below_setRowV HB1.out (Nat.le_succ _) _⟩
set_option maxHeartbeats 8000000 in
set_option maxRecDepth 100000 in
theorem only3_no (A : Option Addr) (n cp : Nat) (ps : List Pr) (w : World) (hr : RdC PrC w w.heap.size A ps) (hn : ps.length = n) (hm : n ≤ 1000) (hs : SmP ps) (v : ByteArray) (h : oneH ps (⟨#[104, 111, 115, 116]⟩ : ByteArray).data.toList = (v.data.toList, false, 0)) : Calls Try.prog 37 #[.agg #[.string ⟨#[104, 111, 115, 116]⟩, .func (.func 62) #[] #[]], .slice A n cp] w fun e w' => e = .returned (.tuple #[.agg #[.int .u8 0, .int .i64 0, .slice none 0 0], .bool false, .int .i64 0]) ∧ Below w.heap.size w w' := by
  have B0 : Hid (Below w.heap.size w ((w.alloc (.cells #[.string ⟨#[104, 111, 115, 116]⟩, .func (.func 62) #[] #[]] 68)).alloc (.cells #[.int .u8 0, .int .i64 0, .slice none 0 0] 72))) := Lib.hid (stpA (stpA (Below.refl _ _) _) _)
  have R0 : Hid (((w.alloc (.cells #[.string ⟨#[104, 111, 115, 116]⟩, .func (.func 62) #[] #[]] 68)).alloc (.cells #[.int .u8 0, .int .i64 0, .slice none 0 0] 72)).heap[w.heap.size]? = some (.cells #[.string ⟨#[104, 111, 115, 116]⟩, .func (.func 62) #[] #[]] 68 (0, 0))) := Lib.hid (kept_heap (heap_alloc_new w _) (stpA (Below.refl _ _) _))
  have T0 : Hid (((w.alloc (.cells #[.string ⟨#[104, 111, 115, 116]⟩, .func (.func 62) #[] #[]] 68)).alloc (.cells #[.int .u8 0, .int .i64 0, .slice none 0 0] 72)).heap[w.heap.size + 1]? = some (.cells zTold 72 (0, 0))) := Lib.hid (by have := heap_alloc_new (w.alloc (.cells #[.string ⟨#[104, 111, 115, 116]⟩, .func (.func 62) #[] #[]] 68)) (.cells #[.int .u8 0, .int .i64 0, .slice none 0 0] 72); rw [World.size_alloc] at this; exact this)
  have c0 : ((w.alloc (.cells #[.string ⟨#[104, 111, 115, 116]⟩, .func (.func 62) #[] #[]] 68)).alloc (.cells #[.int .u8 0, .int .i64 0, .slice none 0 0] 72)).cell? ⟨w.heap.size, 0, none⟩ = some (.string ⟨#[104, 111, 115, 116]⟩) := cellV _ _ 0 _ _ _ R0.out
  have HO : Hid (∀ W, Below w.heap.size w W → Calls Try.prog 23 #[.slice A n cp, .string ⟨#[104, 111, 115, 116]⟩] W fun e w' => e = .returned (.tuple #[.string v, .bool false, .int .i64 0]) ∧ Below W.heap.size W w') := Lib.hid fun W hW => one14 A n cp ps ⟨#[104, 111, 115, 116]⟩ W (hr.on hW) hn hm hs (by decide) v false 0 h
  clear hr hn hm hs h
  go_enter Try.func37, Try.ntmps37
  go_wp2_with (first
    | (go_at_call 23; (with_reducible refine (HO.out _ B0.out).mono ?_); rintro e w1 ⟨rfl, hb1⟩; have HB1 := Lib.hid (stp B0.out hb1); have GR1 := Lib.hid (kept_heap R0.out hb1); have GT1 := Lib.hid (kept_heap T0.out hb1); have d1 : w1.cell? ⟨w.heap.size, 1, none⟩ = some (.func (.func 62) #[] #[]) := cellV _ _ 1 _ _ _ GR1.out; clear hb1)
    | (refine wpList_store_row rfl _ _ _ rfl (w.heap.size + 1) #[.int .u8 0, .int .i64 0, .slice none 0 0] rfl rfl 72 zTold GT1.out sizeTold rfl (oneTold 0 0 none 0 0) ?_)
    | fail)
  exact bodyPost_ret (v := .tuple #[.agg #[.int .u8 0, .int .i64 0, .slice none 0 0], .bool false, .int .i64 0]) (rcell3 (p := 4) (q := 5) (r := 6) rfl _ _ _ _ #[.int .u8 0, .int .i64 0, .slice none 0 0] _ _ rfl (setRow_heap _ _ _ #[.int .u8 0, .int .i64 0, .slice none 0 0] _ _ (GT1.out)) Try.underlying72 rfl sizeTold) rfl ⟨rfl, below_setRowV HB1.out (Nat.le_succ _) _⟩
set_option maxHeartbeats 8000000 in
set_option maxRecDepth 100000 in
theorem only3_bad (A : Option Addr) (n cp : Nat) (ps : List Pr) (w : World) (hr : RdC PrC w w.heap.size A ps) (hn : ps.length = n) (hm : n ≤ 1000) (hs : SmP ps) (v : ByteArray) (h : oneH ps (⟨#[104, 111, 115, 116]⟩ : ByteArray).data.toList = (v.data.toList, true, 0)) (hf : hostL v.data.toList = none) : Calls Try.prog 37 #[.agg #[.string ⟨#[104, 111, 115, 116]⟩, .func (.func 62) #[] #[]], .slice A n cp] w fun e w' => e = .returned (.tuple #[.agg #[.int .u8 0, .int .i64 0, .slice none 0 0], .bool false, .int .i64 140]) ∧ Below w.heap.size w w' := by
  have B0 : Hid (Below w.heap.size w ((w.alloc (.cells #[.string ⟨#[104, 111, 115, 116]⟩, .func (.func 62) #[] #[]] 68)).alloc (.cells #[.int .u8 0, .int .i64 0, .slice none 0 0] 72))) := Lib.hid (stpA (stpA (Below.refl _ _) _) _)
  have R0 : Hid (((w.alloc (.cells #[.string ⟨#[104, 111, 115, 116]⟩, .func (.func 62) #[] #[]] 68)).alloc (.cells #[.int .u8 0, .int .i64 0, .slice none 0 0] 72)).heap[w.heap.size]? = some (.cells #[.string ⟨#[104, 111, 115, 116]⟩, .func (.func 62) #[] #[]] 68 (0, 0))) := Lib.hid (kept_heap (heap_alloc_new w _) (stpA (Below.refl _ _) _))
  have T0 : Hid (((w.alloc (.cells #[.string ⟨#[104, 111, 115, 116]⟩, .func (.func 62) #[] #[]] 68)).alloc (.cells #[.int .u8 0, .int .i64 0, .slice none 0 0] 72)).heap[w.heap.size + 1]? = some (.cells zTold 72 (0, 0))) := Lib.hid (by have := heap_alloc_new (w.alloc (.cells #[.string ⟨#[104, 111, 115, 116]⟩, .func (.func 62) #[] #[]] 68)) (.cells #[.int .u8 0, .int .i64 0, .slice none 0 0] 72); rw [World.size_alloc] at this; exact this)
  have c0 : ((w.alloc (.cells #[.string ⟨#[104, 111, 115, 116]⟩, .func (.func 62) #[] #[]] 68)).alloc (.cells #[.int .u8 0, .int .i64 0, .slice none 0 0] 72)).cell? ⟨w.heap.size, 0, none⟩ = some (.string ⟨#[104, 111, 115, 116]⟩) := cellV _ _ 0 _ _ _ R0.out
  have HO : Hid (∀ W, Below w.heap.size w W → Calls Try.prog 23 #[.slice A n cp, .string ⟨#[104, 111, 115, 116]⟩] W fun e w' => e = .returned (.tuple #[.string v, .bool true, .int .i64 0]) ∧ Below W.heap.size W w') := Lib.hid fun W hW => one14 A n cp ps ⟨#[104, 111, 115, 116]⟩ W (hr.on hW) hn hm hs (by decide) v true 0 h
  have hv : v.size ≤ 1000000 := by
    have h1 := one_mem h
    have h2 := find_mem h1 hs
    rw [ba_l] at h2
    omega
  have HRD : Hid (∀ W, Calls Try.prog 62 #[.string v] W fun e w' => Below W.heap.size W w' ∧ ∃ A n c, e = .returned (.tuple #[.agg #[.int .u8 0, .int .i64 0, .slice A n c], .bool false])) := Lib.hid fun W => (readHost14 v W hv).mono fun e w' ⟨k1, k2⟩ => by
    rcases k2 with ⟨_, k3⟩ | ⟨u, A, c, k3, _⟩
    · exact ⟨k1, k3⟩
    · rw [hf] at k3; cases k3
  clear hr hn hm hs h hv hf
  go_enter Try.func37, Try.ntmps37
  go_wp2_with (first
    | (go_at_call 23; (with_reducible refine (HO.out _ B0.out).mono ?_); rintro e w1 ⟨rfl, hb1⟩; have HB1 := Lib.hid (stp B0.out hb1); have GR1 := Lib.hid (kept_heap R0.out hb1); have GT1 := Lib.hid (kept_heap T0.out hb1); have d1 : w1.cell? ⟨w.heap.size, 1, none⟩ = some (.func (.func 62) #[] #[]) := cellV _ _ 1 _ _ _ GR1.out; clear hb1)
    | (go_at_call 62; (with_reducible refine (HRD.out _).mono ?_); rintro e w2 ⟨hb2, A2, n2, c2, rfl⟩; have HB2 := Lib.hid (stp HB1.out hb2); have GT2 := Lib.hid (kept_heap (kept_heap GT1.out hb2) (stpA (Below.refl _ _) (.cells #[.int .u8 0, .int .i64 0, .slice A2 n2 c2] 72))); have GN2 := Lib.hid (heap_alloc_new w2 (.cells #[.int .u8 0, .int .i64 0, .slice A2 n2 c2] 72)); have HB3 := Lib.hid (stpA HB2.out (.cells #[.int .u8 0, .int .i64 0, .slice A2 n2 c2] 72)); clear hb2)
    | (refine wpList_store_row rfl _ _ _ rfl (w.heap.size + 1) #[.int .u8 0, .int .i64 0, .slice none 0 0] rfl rfl 72 zTold GT2.out sizeTold rfl (oneTold 0 0 none 0 0) ?_)
    | fail)
  exact bodyPost_ret (v := .tuple #[.agg #[.int .u8 0, .int .i64 0, .slice none 0 0], .bool false, .int .i64 140]) (rcell3 (p := 4) (q := 5) (r := 6) rfl _ _ _ _ #[.int .u8 0, .int .i64 0, .slice none 0 0] _ _ rfl (setRow_heap _ _ _ #[.int .u8 0, .int .i64 0, .slice none 0 0] _ _ (GT2.out)) Try.underlying72 rfl sizeTold) rfl ⟨rfl, below_setRowV HB3.out (Nat.le_succ _) _⟩
set_option maxHeartbeats 8000000 in
set_option maxRecDepth 100000 in
theorem only3_ok (A : Option Addr) (n cp : Nat) (ps : List Pr) (w : World) (hr : RdC PrC w w.heap.size A ps) (hn : ps.length = n) (hm : n ≤ 1000) (hs : SmP ps) (v : ByteArray) (h : oneH ps (⟨#[104, 111, 115, 116]⟩ : ByteArray).data.toList = (v.data.toList, true, 0)) (u : ByteArray) (hf : hostL v.data.toList = some u.data.toList) : Calls Try.prog 37 #[.agg #[.string ⟨#[104, 111, 115, 116]⟩, .func (.func 62) #[] #[]], .slice A n cp] w fun e w' => Below w.heap.size w w' ∧ ∃ A c, e = .returned (.tuple #[.agg #[.int .u8 0, .int .i64 0, .slice A 1 c], .bool true, .int .i64 0]) ∧ RdG encS w' w'.heap.size A [u] := by
  have B0 : Hid (Below w.heap.size w ((w.alloc (.cells #[.string ⟨#[104, 111, 115, 116]⟩, .func (.func 62) #[] #[]] 68)).alloc (.cells #[.int .u8 0, .int .i64 0, .slice none 0 0] 72))) := Lib.hid (stpA (stpA (Below.refl _ _) _) _)
  have R0 : Hid (((w.alloc (.cells #[.string ⟨#[104, 111, 115, 116]⟩, .func (.func 62) #[] #[]] 68)).alloc (.cells #[.int .u8 0, .int .i64 0, .slice none 0 0] 72)).heap[w.heap.size]? = some (.cells #[.string ⟨#[104, 111, 115, 116]⟩, .func (.func 62) #[] #[]] 68 (0, 0))) := Lib.hid (kept_heap (heap_alloc_new w _) (stpA (Below.refl _ _) _))
  have T0 : Hid (((w.alloc (.cells #[.string ⟨#[104, 111, 115, 116]⟩, .func (.func 62) #[] #[]] 68)).alloc (.cells #[.int .u8 0, .int .i64 0, .slice none 0 0] 72)).heap[w.heap.size + 1]? = some (.cells zTold 72 (0, 0))) := Lib.hid (by have := heap_alloc_new (w.alloc (.cells #[.string ⟨#[104, 111, 115, 116]⟩, .func (.func 62) #[] #[]] 68)) (.cells #[.int .u8 0, .int .i64 0, .slice none 0 0] 72); rw [World.size_alloc] at this; exact this)
  have c0 : ((w.alloc (.cells #[.string ⟨#[104, 111, 115, 116]⟩, .func (.func 62) #[] #[]] 68)).alloc (.cells #[.int .u8 0, .int .i64 0, .slice none 0 0] 72)).cell? ⟨w.heap.size, 0, none⟩ = some (.string ⟨#[104, 111, 115, 116]⟩) := cellV _ _ 0 _ _ _ R0.out
  have HO : Hid (∀ W, Below w.heap.size w W → Calls Try.prog 23 #[.slice A n cp, .string ⟨#[104, 111, 115, 116]⟩] W fun e w' => e = .returned (.tuple #[.string v, .bool true, .int .i64 0]) ∧ Below W.heap.size W w') := Lib.hid fun W hW => one14 A n cp ps ⟨#[104, 111, 115, 116]⟩ W (hr.on hW) hn hm hs (by decide) v true 0 h
  have hv : v.size ≤ 1000000 := by
    have h1 := one_mem h
    have h2 := find_mem h1 hs
    rw [ba_l] at h2
    omega
  have HRD : Hid (∀ W, Calls Try.prog 62 #[.string v] W fun e w' => Below W.heap.size W w' ∧ ∃ A c, e = .returned (.tuple #[.agg #[.int .u8 0, .int .i64 0, .slice A 1 c], .bool true]) ∧ RdG encS w' w'.heap.size A [u]) := Lib.hid fun W => (readHost14 v W hv).mono fun e w' ⟨k1, k2⟩ => by
    rcases k2 with ⟨k3, _⟩ | ⟨u', A, c, k3, k4, k5⟩
    · rw [hf] at k3; cases k3
    · rw [hf] at k3
      injection k3 with k3
      obtain rfl : u = u' := ba_x k3
      exact ⟨k1, A, c, k4, k5⟩
  clear hr hn hm hs h hv hf
  go_enter Try.func37, Try.ntmps37
  go_wp2_with (first
    | (go_at_call 23; (with_reducible refine (HO.out _ B0.out).mono ?_); rintro e w1 ⟨rfl, hb1⟩; have HB1 := Lib.hid (stp B0.out hb1); have GR1 := Lib.hid (kept_heap R0.out hb1); have GT1 := Lib.hid (kept_heap T0.out hb1); have d1 : w1.cell? ⟨w.heap.size, 1, none⟩ = some (.func (.func 62) #[] #[]) := cellV _ _ 1 _ _ _ GR1.out; clear hb1)
    | (go_at_call 62; (with_reducible refine (HRD.out _).mono ?_); rintro e w2 ⟨hb2, A2, c2, rfl, hr2⟩; have HR2 := Lib.hid (hr2.on (stpA (Below.refl _ _) (.cells #[.int .u8 0, .int .i64 0, .slice A2 1 c2] 72))); have HB2 := Lib.hid (stp HB1.out hb2); have GT2 := Lib.hid (kept_heap (kept_heap GT1.out hb2) (stpA (Below.refl _ _) (.cells #[.int .u8 0, .int .i64 0, .slice A2 1 c2] 72))); have GN2 := Lib.hid (heap_alloc_new w2 (.cells #[.int .u8 0, .int .i64 0, .slice A2 1 c2] 72)); have HB3 := Lib.hid (stpA HB2.out (.cells #[.int .u8 0, .int .i64 0, .slice A2 1 c2] 72)); clear hb2 hr2)
    | (refine wpList_load_row rfl _ _ rfl w2.heap.size rfl 72 #[.int .u8 0, .int .i64 0, .slice A2 1 c2] (0, 0) _ GN2.out Try.underlying72 rfl sizeTold ?_)
    | (refine wpList_store_row rfl _ _ _ rfl (w.heap.size + 1) #[.int .u8 0, .int .i64 0, .slice A2 1 c2] rfl rfl 72 zTold GT2.out sizeTold rfl (oneTold 0 0 _ 1 c2) ?_)
    | fail)
  exact bodyPost_ret (v := .tuple #[.agg #[.int .u8 0, .int .i64 0, .slice A2 1 c2], .bool true, .int .i64 0]) (rcell3 (p := 4) (q := 5) (r := 6) rfl _ _ _ _ #[.int .u8 0, .int .i64 0, .slice A2 1 c2] _ _ rfl (setRow_heap _ _ _ #[.int .u8 0, .int .i64 0, .slice A2 1 c2] _ _ (GT2.out)) Try.underlying72 rfl sizeTold) rfl ⟨below_setRowV HB3.out (Nat.le_succ _) _, A2, c2, rfl, by rw [show ((w2.alloc (.cells #[.int .u8 0, .int .i64 0, .slice A2 1 c2] 72)).setRow (w.heap.size + 1) #[.int .u8 0, .int .i64 0, .slice A2 1 c2]).heap.size = (w2.alloc (.cells #[.int .u8 0, .int .i64 0, .slice A2 1 c2] 72)).heap.size by simp [World.setRow]]; exact RdG.setTold GT2.out HR2.out⟩
end Hx
end Go.Proofs.Ytfdhogaknlabkaa
namespace Go.Proofs.Ytfdhogaknlabkaa
open Go.RowKit
namespace Hx
open Lx Hd
set_option linter.unusedVariables false
theorem one_cases (ps : List Pr) (nm : List UInt8) : (∃ v : ByteArray, oneH ps nm = (v.data.toList, true, 0)) ∨ (∃ v : ByteArray, oneH ps nm = (v.data.toList, false, 0)) ∨ (∃ v : ByteArray, oneH ps nm = (v.data.toList, false, 140)) := by
  unfold oneH
  rcases findH ps nm with _ | ⟨u, _ | ⟨u2, r⟩⟩
  · exact .inr (.inl ⟨⟨#[]⟩, rfl⟩)
  · exact .inl ⟨mkB u, rfl⟩
  · exact .inr (.inr ⟨⟨#[]⟩, rfl⟩)
theorem nm0 : (⟨#[116, 114, 97, 110, 115, 102, 101, 114, 45, 101, 110, 99, 111, 100, 105, 110, 103]⟩ : ByteArray).data.toList = nCoding := rfl
theorem nm1 : (⟨#[99, 111, 110, 116, 101, 110, 116, 45, 108, 101, 110, 103, 116, 104]⟩ : ByteArray).data.toList = nLength := rfl
theorem nm2 : (⟨#[99, 111, 110, 110, 101, 99, 116, 105, 111, 110]⟩ : ByteArray).data.toList = nConn := rfl
theorem nm3 : (⟨#[104, 111, 115, 116]⟩ : ByteArray).data.toList = nHost := rfl
theorem ixr_2 : ∀ W, (Instr.index 69 (.agg #[.string ⟨#[116, 114, 97, 110, 115, 102, 101, 114, 45, 101, 110, 99, 111, 100, 105, 110, 103]⟩, .func (.func 59) #[] #[], .string ⟨#[99, 111, 110, 116, 101, 110, 116, 45, 108, 101, 110, 103, 116, 104]⟩, .func (.func 60) #[] #[], .string ⟨#[99, 111, 110, 110, 101, 99, 116, 105, 111, 110]⟩, .func (.func 61) #[] #[], .string ⟨#[104, 111, 115, 116]⟩, .func (.func 62) #[] #[]]) (.int .i64 2)).run Try.prog W = .ok (.agg #[.string ⟨#[99, 111, 110, 110, 101, 99, 116, 105, 111, 110]⟩, .func (.func 61) #[] #[]]) W := by intro W; kernel_rfl
theorem ixr_3 : ∀ W, (Instr.index 69 (.agg #[.string ⟨#[116, 114, 97, 110, 115, 102, 101, 114, 45, 101, 110, 99, 111, 100, 105, 110, 103]⟩, .func (.func 59) #[] #[], .string ⟨#[99, 111, 110, 116, 101, 110, 116, 45, 108, 101, 110, 103, 116, 104]⟩, .func (.func 60) #[] #[], .string ⟨#[99, 111, 110, 110, 101, 99, 116, 105, 111, 110]⟩, .func (.func 61) #[] #[], .string ⟨#[104, 111, 115, 116]⟩, .func (.func 62) #[] #[]]) (.int .i64 3)).run Try.prog W = .ok (.agg #[.string ⟨#[104, 111, 115, 116]⟩, .func (.func 62) #[] #[]]) W := by intro W; kernel_rfl
set_option maxHeartbeats 8000000 in
set_option maxRecDepth 100000 in
theorem host_err (A : Option Addr) (n cp : Nat) (ps : List Pr) (w : World) (hr : RdC PrC w w.heap.size A ps) (hn : ps.length = n) (hm : n ≤ 1000) (hs : SmP ps) (v : ByteArray) (q : Int) (h1 : oneH ps nHost = (v.data.toList, false, q)) (hq : (q != 0) = true) : Calls Try.prog 15 #[.slice A n cp] w fun e w' => e = .returned (.tuple #[.string ⟨#[]⟩, .int .i64 140]) ∧ Below w.heap.size w w' := by
  have HC : Hid (∀ W, Below w.heap.size w W → Calls Try.prog 37 #[.agg #[.string ⟨#[104, 111, 115, 116]⟩, .func (.func 62) #[] #[]], .slice A n cp] W fun e w' => e = .returned (.tuple #[.agg #[.int .u8 0, .int .i64 0, .slice none 0 0], .bool false, .int .i64 q]) ∧ Below W.heap.size W w') := Lib.hid fun W hW => only3_err A n cp ps W (hr.on hW) hn hm hs v false q h1 hq
  have hix := ixr_3
  clear hr hn hm hs h1
  go_enter Try.func15, Try.ntmps15
  go_wp2_with (first
    | (go_at_call 35; (with_reducible refine (rules14 w).mono ?_); rintro e w1 ⟨rfl, hb1⟩; have HB1 := Lib.hid hb1; clear hb1)
    | (go_at_call 37; (with_reducible refine (HC.out _ HB1.out).mono ?_); rintro e w2 ⟨rfl, hb2⟩)
    | fail)
  go_ret2
  exact ⟨rfl, stpA (stp HB1.out hb2) _⟩
set_option maxHeartbeats 8000000 in
set_option maxRecDepth 100000 in
theorem host_no (A : Option Addr) (n cp : Nat) (ps : List Pr) (w : World) (hr : RdC PrC w w.heap.size A ps) (hn : ps.length = n) (hm : n ≤ 1000) (hs : SmP ps) (v : ByteArray) (h1 : oneH ps nHost = (v.data.toList, false, 0)) : Calls Try.prog 15 #[.slice A n cp] w fun e w' => e = .returned (.tuple #[.string ⟨#[]⟩, .int .i64 140]) ∧ Below w.heap.size w w' := by
  have HC : Hid (∀ W, Below w.heap.size w W → Calls Try.prog 37 #[.agg #[.string ⟨#[104, 111, 115, 116]⟩, .func (.func 62) #[] #[]], .slice A n cp] W fun e w' => e = .returned (.tuple #[.agg #[.int .u8 0, .int .i64 0, .slice none 0 0], .bool false, .int .i64 0]) ∧ Below W.heap.size W w') := Lib.hid fun W hW => only3_no A n cp ps W (hr.on hW) hn hm hs v h1
  have hix := ixr_3
  clear hr hn hm hs h1
  go_enter Try.func15, Try.ntmps15
  go_wp2_with (first
    | (go_at_call 35; (with_reducible refine (rules14 w).mono ?_); rintro e w1 ⟨rfl, hb1⟩; have HB1 := Lib.hid hb1; clear hb1)
    | (go_at_call 37; (with_reducible refine (HC.out _ HB1.out).mono ?_); rintro e w2 ⟨rfl, hb2⟩)
    | fail)
  go_ret2
  exact ⟨rfl, stpA (stp HB1.out hb2) _⟩
set_option maxHeartbeats 8000000 in
set_option maxRecDepth 100000 in
theorem host_bad (A : Option Addr) (n cp : Nat) (ps : List Pr) (w : World) (hr : RdC PrC w w.heap.size A ps) (hn : ps.length = n) (hm : n ≤ 1000) (hs : SmP ps) (v : ByteArray) (h1 : oneH ps nHost = (v.data.toList, true, 0)) (h2 : hostL v.data.toList = none) : Calls Try.prog 15 #[.slice A n cp] w fun e w' => e = .returned (.tuple #[.string ⟨#[]⟩, .int .i64 140]) ∧ Below w.heap.size w w' := by
  have HC : Hid (∀ W, Below w.heap.size w W → Calls Try.prog 37 #[.agg #[.string ⟨#[104, 111, 115, 116]⟩, .func (.func 62) #[] #[]], .slice A n cp] W fun e w' => e = .returned (.tuple #[.agg #[.int .u8 0, .int .i64 0, .slice none 0 0], .bool false, .int .i64 140]) ∧ Below W.heap.size W w') := Lib.hid fun W hW => only3_bad A n cp ps W (hr.on hW) hn hm hs v h1 h2
  have hix := ixr_3
  clear hr hn hm hs h1 h2
  go_enter Try.func15, Try.ntmps15
  go_wp2_with (first
    | (go_at_call 35; (with_reducible refine (rules14 w).mono ?_); rintro e w1 ⟨rfl, hb1⟩; have HB1 := Lib.hid hb1; clear hb1)
    | (go_at_call 37; (with_reducible refine (HC.out _ HB1.out).mono ?_); rintro e w2 ⟨rfl, hb2⟩)
    | fail)
  go_ret2
  exact ⟨rfl, stpA (stp HB1.out hb2) _⟩
set_option maxHeartbeats 8000000 in
set_option maxRecDepth 100000 in
theorem host_ok (A : Option Addr) (n cp : Nat) (ps : List Pr) (w : World) (hr : RdC PrC w w.heap.size A ps) (hn : ps.length = n) (hm : n ≤ 1000) (hs : SmP ps) (v u : ByteArray) (h1 : oneH ps nHost = (v.data.toList, true, 0)) (h2 : hostL v.data.toList = some u.data.toList) : Calls Try.prog 15 #[.slice A n cp] w fun e w' => e = .returned (.tuple #[.string u, .int .i64 0]) ∧ Below w.heap.size w w' := by
  have HC : Hid (∀ W, Below w.heap.size w W → Calls Try.prog 37 #[.agg #[.string ⟨#[104, 111, 115, 116]⟩, .func (.func 62) #[] #[]], .slice A n cp] W fun e w' => Below W.heap.size W w' ∧ ∃ A c, e = .returned (.tuple #[.agg #[.int .u8 0, .int .i64 0, .slice A 1 c], .bool true, .int .i64 0]) ∧ RdG encS w' w'.heap.size A [u]) := Lib.hid fun W hW => only3_ok A n cp ps W (hr.on hW) hn hm hs v h1 u h2
  have hix := ixr_3
  clear hr hn hm hs h1 h2
  go_enter Try.func15, Try.ntmps15
  go_wp2_with (first
    | (go_at_call 35; (with_reducible refine (rules14 w).mono ?_); rintro e w1 ⟨rfl, hb1⟩; have HB1 := Lib.hid hb1; clear hb1)
    | (go_at_call 37; (with_reducible refine (HC.out _ HB1.out).mono ?_); rintro e w2 ⟨hb2, A2, c2, rfl, hr2⟩; obtain ⟨b3, o3, rfl, hlt3, hc3⟩ := (hr2.on (stpA (Below.refl _ _) (.cells #[.int .u8 0, .int .i64 0, .slice A2 1 c2] 72))) (by simp); have d3 : (w2.alloc (.cells #[.int .u8 0, .int .i64 0, .slice (some ⟨b3, o3, none⟩) 1 c2] 72)).cell? ⟨b3, o3, none⟩ = some (.string u) := hc3 0 (by simp); clear hc3 hr2)
    | fail)
  go_ret2
  exact ⟨rfl, stpA (stp HB1.out hb2) _⟩
theorem host14 (A : Option Addr) (n cp : Nat) (ps : List Pr) (w : World) (hr : RdC PrC w w.heap.size A ps) (hn : ps.length = n) (hm : n ≤ 1000) (hs : SmP ps) (t : ByteArray) (q : Int) (h : hostH ps = (t.data.toList, q)) : Calls Try.prog 15 #[.slice A n cp] w fun e w' => e = .returned (.tuple #[.string t, .int .i64 q]) ∧ Below w.heap.size w w' := by
  unfold hostH at h
  rcases one_cases ps nHost with ⟨v, h1⟩ | ⟨v, h1⟩ | ⟨v, h1⟩
  · rw [h1] at h
    rw [if_pos rfl] at h
    cases h2 : hostL v.data.toList with
    | none =>
      rw [h2] at h
      obtain ⟨e1, e2⟩ := (Prod.mk.injEq _ _ _ _).mp h
      obtain rfl : (⟨#[]⟩ : ByteArray) = t := ba_x (by rw [← e1])
      subst e2
      exact host_bad A n cp ps w hr hn hm hs v h1 h2
    | some u =>
      rw [h2] at h
      obtain ⟨e1, e2⟩ := (Prod.mk.injEq _ _ _ _).mp h
      subst e2
      exact host_ok A n cp ps w hr hn hm hs v t h1 (h2.trans (congrArg some e1))
  · rw [h1] at h
    rw [if_neg (by simp)] at h
    obtain ⟨e1, e2⟩ := (Prod.mk.injEq _ _ _ _).mp h
    obtain rfl : (⟨#[]⟩ : ByteArray) = t := ba_x (by rw [← e1])
    subst e2
    exact host_no A n cp ps w hr hn hm hs v h1
  · rw [h1] at h
    rw [if_neg (by simp)] at h
    obtain ⟨e1, e2⟩ := (Prod.mk.injEq _ _ _ _).mp h
    obtain rfl : (⟨#[]⟩ : ByteArray) = t := ba_x (by rw [← e1])
    subst e2
    exact host_err A n cp ps w hr hn hm hs v 140 h1 rfl
theorem mem_close (l : List (List UInt8)) : memB ⟨#[99, 108, 111, 115, 101]⟩ (l.map mkB) = l.contains nClose := by
  unfold memB
  rw [List.any_map]
  induction l with
  | nil => rfl
  | cons c l ih =>
    rw [List.any_cons, ih, List.contains_cons]
    congr 1
    show decide (⟨#[99, 108, 111, 115, 101]⟩ = mkB c) = (nClose == c)
    rw [Bool.eq_iff_iff, decide_eq_true_eq, beq_iff_eq]
    exact ⟨fun e => congrArg (fun x : ByteArray => x.data.toList) e, fun e => by rw [← e]; rfl⟩
def KJ (w : World) (a : Act) (V : World) : Prop := ∃ (x0 x1 x2 x3 x4 x5 x6 x7 x8 x9 x10 x11 x12 x13 x14 x15 x16 x17 x18 x19 x20 x21 x22 x23 x24 x25 x26 x27 x28 x29 x30 x31 x32 x33 x34 x35 x36 x37 x38 : Value), a = { tmps := #[x0, x1, x2, x3, x4, x5, x6, x7, x8, x9, x10, x11, x12, x13, x14, x15, x16, x17, x18, x19, x20, x21, x22, x23, x24, x25, x26, x27, x28, x29, x30, x31, x32, x33, x34, x35, x36, x37, x38], defers := [] } ∧ Below w.heap.size w V
theorem opn_rule {w w1 : World} (h : Below w.heap.size w w1) : ∃ W5, (w1.alloc (.cells #[.string ⟨#[]⟩, .nilFunc] 68)).setRow w1.heap.size #[.string ⟨#[99, 111, 110, 110, 101, 99, 116, 105, 111, 110]⟩, .func (.func 61) #[] #[]] = W5 ∧ W5.heap[w1.heap.size]? = some (.cells #[.string ⟨#[99, 111, 110, 110, 101, 99, 116, 105, 111, 110]⟩, .func (.func 61) #[] #[]] 68 (0, 0)) ∧ Below w.heap.size w W5 :=
  ⟨_, rfl, setRow_heap _ _ _ _ _ _ (heap_alloc_new w1 _), below_setRowV (stpA h _) h.size _⟩
set_option maxHeartbeats 8000000 in
set_option maxRecDepth 100000 in
theorem keep14 (A : Option Addr) (n cp : Nat) (ps : List Pr) (w : World) (hr : RdC PrC w w.heap.size A ps) (hn : ps.length = n) (hm : n ≤ 1000) (hs : SmP ps) (b : Bool) (q : Int) (h : keepH ps = (b, q)) : Calls Try.prog 14 #[.slice A n cp] w fun e w' => e = .returned (.tuple #[.bool b, .int .i64 q]) ∧ Below w.heap.size w w' := by
  obtain ⟨vs, hvs⟩ : ∃ vs, findH ps nConn = vs := ⟨_, rfl⟩
  have hvl : vs.length ≤ 1000 := by rw [← hvs]; have := find_len ps nConn; omega
  have HVM : Hid (∀ v ∈ vs, v.length ≤ 20000) := Lib.hid fun v hv => find_mem (by rw [hvs]; exact hv) hs
  have HF : Hid (∀ W, Below w.heap.size w W → Calls Try.prog 30 #[.slice A n cp, .string ⟨#[99, 111, 110, 110, 101, 99, 116, 105, 111, 110]⟩] W fun e w' => Below W.heap.size W w' ∧ ∃ A c, e = .returned (.slice A vs.length c) ∧ (A = none → c = 0) ∧ RdG encS w' w'.heap.size A (vs.map mkB)) := Lib.hid fun W hW => by
    have := find14 A n cp ps ⟨#[99, 111, 110, 110, 101, 99, 116, 105, 111, 110]⟩ W (hr.on hW) hn hm hs (by decide)
    unfold FindTo at this
    rw [nm2, hvs] at this
    exact this
  unfold keepH at h
  rw [hvs] at h
  have HQ := Lib.hid h
  obtain ⟨m, hmm⟩ : ∃ m, vs.length = m := ⟨_, rfl⟩
  rw [hmm] at HF hvl
  have HMM := Lib.hid hmm
  have HML := Lib.hid hvl
  have hix := ixr_2
  clear hr hn hm hs h hvs hmm hvl
  go_enter Try.func14, Try.ntmps14
  go_wp2_with fail
  refine wp_scope_jumps 0 (fun a V => KJ w a V ∧ b = false ∧ q = 140) (fun _ _ => 0) (by rfl) ?first ?pass
  case pass =>
    rintro a V ⟨⟨x0, x1, x2, x3, x4, x5, x6, x7, x8, x9, x10, x11, x12, x13, x14, x15, x16, x17, x18, x19, x20, x21, x22, x23, x24, x25, x26, x27, x28, x29, x30, x31, x32, x33, x34, x35, x36, x37, x38, rfl, hb⟩, rfl, rfl⟩
    have HB := Lib.hid hb
    clear hb
    go_wp2_with fail
    try refine wp_label ?_
    go_wp2_with fail
    dsimp only [Exit.jump]
    go_ret2
    exact ⟨rfl, HB.out⟩
  case first =>
    go_wp2_with (first
      | (go_at_call 35; (with_reducible refine (rules14 w).mono ?_); rintro e w1 ⟨rfl, hb1⟩; have HB1 := Lib.hid hb1; clear hb1)
      | (refine wpList_store_row rfl _ _ _ rfl w1.heap.size #[.string ⟨#[99, 111, 110, 110, 101, 99, 116, 105, 111, 110]⟩, .func (.func 61) #[] #[]] rfl rfl 68 #[.string ⟨#[]⟩, .nilFunc] (heap_alloc_new w1 _) sizeRule rfl (by simp [Value.oneCell']) ?_; obtain ⟨W5, hW5, gr5, hb5⟩ := opn_rule HB1.out; rw [hW5]; have c5 := cellV _ _ 0 _ _ _ gr5; have GR5 := Lib.hid gr5; have HB5 := Lib.hid hb5; clear hW5 gr5 hb5)
      | (go_at_call 30; (with_reducible refine (HF.out _ HB5.out).mono ?_); rintro e w2 ⟨hb2, A2, c2, rfl, _, hr2⟩; have HR2 := Lib.hid hr2; have HB2 := Lib.hid (stp HB5.out hb2); have GR2 := Lib.hid (kept_heap GR5.out hb2); clear hb2 hr2)
      | fail)
    go_loopg [4, 17] m (fun gg kp i wr => ∃ (k : Nat) (kb : Bool), k + gg = m ∧ i = .int .i64 k ∧ kp = .bool kb ∧ (vs.take k).all (fun v => decide (As.listE v = 0)) = true ∧ (vs.take k).all goesOn = kb ∧ Below w2.heap.size w2 wr)
    case atStart => exact ⟨0, true, by omega, rfl, rfl, rfl, rfl, Below.refl _ _⟩
    case round =>
      obtain ⟨k, kb, hk, rfl, rfl, hall, hgo, hbw⟩ := hrel
      have HBW := Lib.hid hbw
      have hkb : (k : Int) ≤ 1000 := by have := HML.out; omega
      have d2 : wr.cell? ⟨w1.heap.size, 1, none⟩ = some (.func (.func 61) #[] #[]) := cellV _ _ 1 _ _ _ (kept_heap GR2.out hbw)
      by_cases hlt : k < m
      · have hk1 : k < vs.length := by rw [HMM.out]; exact hlt
        have hk2 : k < (vs.map mkB).length := by rw [List.length_map]; exact hk1
        obtain ⟨b0, o0, rfl, hbB, c0⟩ := st_at (HR2.out.on hbw) hk2
        rw [List.getElem_map] at c0
        obtain ⟨v, hv⟩ : ∃ v, vs[k]'hk1 = v := ⟨_, rfl⟩
        obtain ⟨x, hx⟩ : ∃ x, mkB v = x := ⟨_, rfl⟩
        have hxl : x.data.toList = v := by rw [← hx]; rfl
        rw [hv, hx] at c0
        have hxs : x.size ≤ 1000000 := by rw [← ba_l, hxl]; have := HVM.out v (by rw [← hv]; exact List.getElem_mem hk1); omega
        have bk : (0 : Int) ≤ (k : Int) ∧ (k : Int) < (m : Int) := by omega
        obtain ⟨z, hz⟩ : ∃ z : Int, (As.listE x.data.toList : Int) = z := ⟨_, rfl⟩
        obtain ⟨wl, hwl⟩ : ∃ wl, listS x = wl := ⟨_, rfl⟩
        obtain ⟨wn, hwn⟩ : ∃ wn, wl.length = wn := ⟨_, rfl⟩
        obtain ⟨fit, hfit⟩ : ∃ fit, (z == 0) = fit := ⟨_, rfl⟩
        have HRD : Hid (∀ W, Calls Try.prog 61 #[.string x] W fun e w' => Below W.heap.size W w' ∧ ∃ A c, e = .returned (.tuple #[.agg #[.int .u8 0, .int .i64 0, .slice A wn c], .bool fit]) ∧ RdG encS w' w'.heap.size A wl) := Lib.hid fun W => readConn14 x wl wn z fit W hxs hwl hwn hz hfit
        cases fit with
        | false =>
          have hbad : vs.all (fun v => decide (As.listE v = 0)) = false := by
            rw [List.all_eq_false]
            refine ⟨v, by rw [← hv]; exact List.getElem_mem hk1, ?_⟩
            have : z ≠ 0 := by simpa using hfit
            rw [← hxl]
            simp only [decide_eq_true_eq]
            omega
          have hq := HQ.out
          rw [if_neg (by rw [hbad]; simp)] at hq
          obtain ⟨e1, e2⟩ := (Prod.mk.injEq _ _ _ _).mp hq
          have HE1 := Lib.hid e1
          have HE2 := Lib.hid e2
          clear hall hgo hbw hk1 hk2 hv hx hxl hxs hz hwl hwn hfit hbad hq e1 e2
          go_wp2_with (first
            | (go_at_call 61; (with_reducible refine (HRD.out _).mono ?_); rintro e w3 ⟨hb3, A3, c3, rfl, _⟩; have HB3 := Lib.hid (stpA (stp HB2.out (stp HBW.out hb3)) (.cells #[.int .u8 0, .int .i64 0, .slice A3 wn c3] 72)); clear hb3)
            | fail)
          refine wp_goto ?_
          refine ⟨rfl, ⟨_, _, _, _, _, _, _, _, _, _, _, _, _, _, _, _, _, _, _, _, _, _, _, _, _, _, _, _, _, _, _, _, _, _, _, _, _, _, _, rfl, HB3.out⟩, HE1.out.symm, HE2.out.symm⟩
        | true =>
          have hz0 : z = 0 := by simpa using hfit
          have he0 : As.listE x.data.toList = 0 := by omega
          have hwm : memB ⟨#[99, 108, 111, 115, 101]⟩ wl = (As.parts v).contains nClose := by
            rw [← hwl]
            unfold listS
            rw [if_pos he0, mem_close, hxl]
          have hwz : wn ≤ 1000000 := by
            rw [← hwn, ← hwl]
            unfold listS
            rw [if_pos he0, List.length_map]
            have := (As.listE_ok he0).1
            omega
          have HAN : Hid ((vs.take (k + 1)).all (fun v => decide (As.listE v = 0)) = true) := Lib.hid (by
            rw [List.take_succ_eq_append_getElem hk1, List.all_append, hall, hv, ← hxl]
            simp [he0])
          have hgn : (vs.take (k + 1)).all goesOn = (kb && !(As.parts v).contains nClose) := by
            rw [List.take_succ_eq_append_getElem hk1, List.all_append, hgo, hv]
            simp [goesOn]
          have HWN := Lib.hid hwn
          have HWZ := Lib.hid hwz
          cases kb with
          | false =>
            have HGN : Hid ((vs.take (k + 1)).all goesOn = false) := Lib.hid hgn
            clear hall hgo hbw hk1 hk2 hv hx hxl hxs hz hwl hwn hfit hz0 he0 hwm hwz hgn
            go_wp2_with (first
              | (go_at_call 61; (with_reducible refine (HRD.out _).mono ?_); rintro e w3 ⟨hb3, A3, c3, rfl, _⟩; have HB3 := Lib.hid (stpA (stp HBW.out hb3) (.cells #[.int .u8 0, .int .i64 0, .slice A3 wn c3] 72)); clear hb3)
              | fail)
            go_roundg (gk - 1)
            case rel => exact ⟨k + 1, false, by omega, by go_num, rfl, HAN.out, HGN.out, HB3.out⟩
            case measure => omega
          | true =>
            obtain ⟨mc, hmc⟩ : ∃ mc, memB ⟨#[99, 108, 111, 115, 101]⟩ wl = mc := ⟨_, rfl⟩
            have HGN : Hid ((vs.take (k + 1)).all goesOn = !mc) := Lib.hid (by rw [hgn, ← hwm, hmc]; rfl)
            have HMC := Lib.hid hmc
            clear hall hgo hbw hk1 hk2 hv hx hxl hxs hz hwl hwn hfit hz0 he0 hwm hwz hgn hmc
            go_wp2_with (first
              | (go_at_call 61; (with_reducible refine (HRD.out _).mono ?_); rintro e w3 ⟨hb3, A3, c3, rfl, hr3⟩; have HR3 := Lib.hid (hr3.on (stpA (Below.refl _ _) (.cells #[.int .u8 0, .int .i64 0, .slice A3 wn c3] 72))); have HB3 := Lib.hid (stpA (stp HBW.out hb3) (.cells #[.int .u8 0, .int .i64 0, .slice A3 wn c3] 72)); clear hb3 hr3)
              | (go_at_call 36; (with_reducible refine (scont14 A3 wn c3 wl ⟨#[99, 108, 111, 115, 101]⟩ mc _ HR3.out HWN.out HWZ.out HMC.out).mono ?_); rintro e w4 ⟨rfl, hb4⟩; have HB4 := Lib.hid (stp HB3.out hb4); clear hb4)
              | fail)
            go_roundg (gk - 1)
            case rel => exact ⟨k + 1, !mc, by omega, by go_num, rfl, HAN.out, HGN.out, HB4.out⟩
            case measure => omega
      · obtain rfl : k = m := by omega
        have hd : decide ((k : Int) < (k : Int)) = false := by simp
        rw [List.take_of_length_le (by rw [HMM.out]; exact Nat.le_refl _)] at hall hgo
        have hq := HQ.out
        rw [if_pos hall, hgo] at hq
        obtain ⟨rfl, rfl⟩ := (Prod.mk.injEq _ _ _ _).mp hq
        clear hall hgo hbw hq
        go_wp2_with fail
        dsimp only [Exit.jump]
        go_ret2
        exact ⟨rfl, stp HB2.out HBW.out⟩
end Hx
end Go.Proofs.Ytfdhogaknlabkaa
namespace Go.Proofs.Ytfdhogaknlabkaa
open Go.RowKit
namespace Hx
open Lx Hd
set_option linter.unusedVariables false
theorem fr_err0 {ps : List Pr} {v : List UInt8} (h : oneH ps nCoding = (v, false, 140)) : frameH ps = (0, 0, 140) := by
  unfold frameH
  rw [h, if_pos (.inl (by simp))]
theorem fr_err1 {ps : List Pr} {v : List UInt8} (h : oneH ps nLength = (v, false, 140)) : frameH ps = (0, 0, 140) := by
  unfold frameH
  rw [h, if_pos (.inr (.inl (by simp)))]
theorem fr_bad0 {ps : List Pr} {v : List UInt8} (h : oneH ps nCoding = (v, true, 0)) (hc : isChunked v = false) : frameH ps = (0, 0, 140) := by
  unfold frameH
  split
  · rfl
  · rw [h, if_pos rfl, if_neg (by rw [hc]; simp)]
theorem fr_both {ps : List Pr} {v u : List UInt8} (h : oneH ps nCoding = (v, true, 0)) (h1 : oneH ps nLength = (u, true, 0)) : frameH ps = (0, 0, 140) := by
  unfold frameH
  rw [h, h1, if_pos (.inr (.inr ⟨rfl, rfl⟩))]
theorem fr_bad1 {ps : List Pr} {u : List UInt8} (h1 : oneH ps nLength = (u, true, 0)) (hc : Nmb.readN u = none) : frameH ps = (0, 0, 140) := by
  unfold frameH
  split
  · rfl
  · rename_i hno
    rw [h1] at hno ⊢
    rw [if_neg (fun e => hno (.inr (.inr ⟨e, rfl⟩))), if_pos rfl, hc]
theorem fr_ok1 {ps : List Pr} {v u : List UInt8} {n : Nat} (h : oneH ps nCoding = (v, false, 0)) (h1 : oneH ps nLength = (u, true, 0)) (hc : Nmb.readN u = some n) : frameH ps = (1, (n : Int), 0) := by
  unfold frameH
  rw [h, h1, if_neg (by simp), if_neg (by simp), if_pos rfl, hc]
theorem fr_none {ps : List Pr} {v u : List UInt8} (h : oneH ps nCoding = (v, false, 0)) (h1 : oneH ps nLength = (u, false, 0)) : frameH ps = (0, 0, 0) := by
  unfold frameH
  rw [h, h1, if_neg (by simp), if_neg (by simp), if_neg (by simp)]
theorem fr_coding {ps : List Pr} {v u : List UInt8} (h : oneH ps nCoding = (v, true, 0)) (hc : isChunked v = true) (h1 : oneH ps nLength = (u, false, 0)) : frameH ps = (2, 0, 0) := by
  unfold frameH
  rw [h, h1, if_neg (by simp), if_pos rfl, if_pos hc]
/-- Between the two ways in which a length is told. -/
def FrSt (ps : List Pr) (k kd : Nat) (nn : Int) : Prop :=
  (k = 0 ∧ kd = 0 ∧ nn = 0) ∨ (k = 1 ∧ kd = 0 ∧ nn = 0 ∧ ∃ v, oneH ps nCoding = (v, false, 0)) ∨ (k = 1 ∧ kd = 2 ∧ nn = 0 ∧ ∃ v, oneH ps nCoding = (v, true, 0) ∧ isChunked v = true) ∨ (k = 2 ∧ frameH ps = (kd, nn, 0))
theorem opn_rules {w w1 : World} (h : Below w.heap.size w w1) : ∃ W5, (w1.alloc (.cells #[.string ⟨#[]⟩, .nilFunc, .string ⟨#[]⟩, .nilFunc, .string ⟨#[]⟩, .nilFunc, .string ⟨#[]⟩, .nilFunc] 69)).setRow w1.heap.size #[.string ⟨#[116, 114, 97, 110, 115, 102, 101, 114, 45, 101, 110, 99, 111, 100, 105, 110, 103]⟩, .func (.func 59) #[] #[], .string ⟨#[99, 111, 110, 116, 101, 110, 116, 45, 108, 101, 110, 103, 116, 104]⟩, .func (.func 60) #[] #[], .string ⟨#[99, 111, 110, 110, 101, 99, 116, 105, 111, 110]⟩, .func (.func 61) #[] #[], .string ⟨#[104, 111, 115, 116]⟩, .func (.func 62) #[] #[]] = W5 ∧ W5.heap[w1.heap.size]? = some (.cells #[.string ⟨#[116, 114, 97, 110, 115, 102, 101, 114, 45, 101, 110, 99, 111, 100, 105, 110, 103]⟩, .func (.func 59) #[] #[], .string ⟨#[99, 111, 110, 116, 101, 110, 116, 45, 108, 101, 110, 103, 116, 104]⟩, .func (.func 60) #[] #[], .string ⟨#[99, 111, 110, 110, 101, 99, 116, 105, 111, 110]⟩, .func (.func 61) #[] #[], .string ⟨#[104, 111, 115, 116]⟩, .func (.func 62) #[] #[]] 69 (0, 0)) ∧ Below w.heap.size w W5 :=
  ⟨_, rfl, setRow_heap _ _ _ _ _ _ (heap_alloc_new w1 _), below_setRowV (stpA h _) h.size _⟩
theorem ixa_0 : ∀ W, (Instr.index 90 (.agg #[.int .i64 0, .int .i64 1]) (.int .i64 0)).run Try.prog W = .ok (.int .i64 0) W := by intro W; kernel_rfl
theorem ixa_1 : ∀ W, (Instr.index 90 (.agg #[.int .i64 0, .int .i64 1]) (.int .i64 1)).run Try.prog W = .ok (.int .i64 1) W := by intro W; kernel_rfl
def FJ (w : World) (a : Act) (V : World) : Prop := ∃ (x0 x1 x2 x3 x4 x5 x6 x7 x8 x9 x10 x11 x12 x13 x14 x15 x16 x17 x18 x19 x20 x21 x22 x23 x24 x25 x26 x27 x28 x29 x30 x31 x32 x33 x34 x35 x36 x37 x38 x39 x40 x41 : Value), a = { tmps := #[x0, x1, x2, x3, x4, x5, x6, x7, x8, x9, x10, x11, x12, x13, x14, x15, x16, x17, x18, x19, x20, x21, x22, x23, x24, x25, x26, x27, x28, x29, x30, x31, x32, x33, x34, x35, x36, x37, x38, x39, x40, x41], defers := [] } ∧ Below w.heap.size w V
set_option maxHeartbeats 16000000 in
set_option maxRecDepth 100000 in
theorem frame14 (A : Option Addr) (n cp : Nat) (ps : List Pr) (w : World) (hr : RdC PrC w w.heap.size A ps) (hn : ps.length = n) (hm : n ≤ 1000) (hs : SmP ps) (K : Nat) (N q : Int) (h : frameH ps = (K, N, q)) : Calls Try.prog 25 #[.slice A n cp] w fun e w' => e = .returned (.tuple #[.int .u8 (K : Int), .int .i64 N, .int .i64 q]) ∧ Below w.heap.size w w' := by
  have hr0 := Lib.hid hr
  have hn0 := Lib.hid hn
  have hm0 := Lib.hid hm
  have hs0 := Lib.hid hs
  have HQ := Lib.hid h
  have frs : frameH ps = (0, 0, 140) → K = 0 ∧ N = 0 ∧ q = 140 := fun e => by
    rw [e] at h
    obtain ⟨e1, e2⟩ := (Prod.mk.injEq _ _ _ _).mp h
    obtain ⟨e2, e3⟩ := (Prod.mk.injEq _ _ _ _).mp e2
    exact ⟨e1.symm, e2.symm, e3.symm⟩
  have ia0 := ixa_0
  have ia1 := ixa_1
  clear hr hn hm hs h
  go_enter Try.func25, Try.ntmps25
  go_wp2_with fail
  refine wp_scope_jumps 0 (fun a V => FJ w a V ∧ K = 0 ∧ N = 0 ∧ q = 140) (fun _ _ => 0) (by rfl) ?first ?pass
  case pass =>
    rintro a V ⟨⟨x0, x1, x2, x3, x4, x5, x6, x7, x8, x9, x10, x11, x12, x13, x14, x15, x16, x17, x18, x19, x20, x21, x22, x23, x24, x25, x26, x27, x28, x29, x30, x31, x32, x33, x34, x35, x36, x37, x38, x39, x40, x41, rfl, hb⟩, rfl, rfl, rfl⟩
    have HB := Lib.hid hb
    clear hb frs
    go_wp2_with fail
    try refine wp_label ?_
    go_wp2_with fail
    dsimp only [Exit.jump]
    go_ret3
    exact ⟨rfl, HB.out⟩
  case first =>
    go_wp2_with (first
      | (go_at_call 35; (with_reducible refine (rules14 w).mono ?_); rintro e w1 ⟨rfl, hb1⟩; have HB1 := Lib.hid hb1; clear hb1)
      | (refine wpList_store_row rfl _ _ _ rfl w1.heap.size #[.string ⟨#[116, 114, 97, 110, 115, 102, 101, 114, 45, 101, 110, 99, 111, 100, 105, 110, 103]⟩, .func (.func 59) #[] #[], .string ⟨#[99, 111, 110, 116, 101, 110, 116, 45, 108, 101, 110, 103, 116, 104]⟩, .func (.func 60) #[] #[], .string ⟨#[99, 111, 110, 110, 101, 99, 116, 105, 111, 110]⟩, .func (.func 61) #[] #[], .string ⟨#[104, 111, 115, 116]⟩, .func (.func 62) #[] #[]] rfl rfl 69 zRules (heap_alloc_new w1 _) sizeRules rfl oneRules ?_; obtain ⟨W5, hW5, gr5, hb5⟩ := opn_rules HB1.out; rw [hW5]; have GR5 := Lib.hid gr5; have HB5 := Lib.hid hb5; clear hW5 gr5 hb5)
      | fail)
    go_loopg [2, 3, 13] 2 (fun gg kv nv iv wr => ∃ (k kd : Nat) (nn : Int), k + gg = 2 ∧ iv = .int .i64 (k : Int) ∧ kv = .int .u8 (kd : Int) ∧ nv = .int .i64 nn ∧ FrSt ps k kd nn ∧ Below W5.heap.size W5 wr)
    case atStart => exact ⟨0, 0, 0, by omega, rfl, rfl, rfl, .inl ⟨rfl, rfl, rfl⟩, Below.refl _ _⟩
    case round =>
      obtain ⟨k, kd, nn, hk, rfl, rfl, rfl, hst, hbw⟩ := hrel
      have HBW := Lib.hid hbw
      have HWR := Lib.hid (stp HB5.out hbw)
      have GRW := Lib.hid (kept_heap GR5.out hbw)
      rcases hst with ⟨rfl, rfl, rfl⟩ | ⟨rfl, rfl, rfl, v0, hv0⟩ | ⟨rfl, rfl, rfl, v0, hv0, hc0⟩ | ⟨rfl, hfr⟩
      · have d0 : wr.cell? ⟨w1.heap.size, 0, none⟩ = some (.string ⟨#[116, 114, 97, 110, 115, 102, 101, 114, 45, 101, 110, 99, 111, 100, 105, 110, 103]⟩) := cellV _ _ 0 _ _ _ GRW.out
        have d1 : wr.cell? ⟨w1.heap.size, 1, none⟩ = some (.func (.func 59) #[] #[]) := cellV _ _ 1 _ _ _ GRW.out
        rcases one_cases ps nCoding with ⟨v, h1⟩ | ⟨v, h1⟩ | ⟨v, h1⟩
        · cases hch : isChunked v.data.toList with
          | false =>
            have HE : Hid (K = 0 ∧ N = 0 ∧ q = 140) := Lib.hid (frs (fr_bad0 h1 hch))
            have HC : Hid (∀ W, Below w.heap.size w W → Calls Try.prog 37 #[.agg #[.string ⟨#[116, 114, 97, 110, 115, 102, 101, 114, 45, 101, 110, 99, 111, 100, 105, 110, 103]⟩, .func (.func 59) #[] #[]], .slice A n cp] W fun e w' => e = .returned (.tuple #[.agg #[.int .u8 0, .int .i64 0, .slice none 0 0], .bool false, .int .i64 140]) ∧ Below W.heap.size W w') := Lib.hid fun W hW => only0_bad A n cp ps W (hr0.out.on hW) hn0.out hm0.out hs0.out v h1 hch
            clear hbw h1 hch
            go_wp2_with (first
              | (go_at_call 37; (with_reducible refine (HC.out _ HWR.out).mono ?_); rintro e w3 ⟨rfl, hb3⟩; have HB3 := Lib.hid (stpA (stp HBW.out hb3) (.cells #[.int .u8 0, .int .i64 0, .slice none 0 0] 72)); have HB4 := Lib.hid (stpA (stp HWR.out hb3) (.cells #[.int .u8 0, .int .i64 0, .slice none 0 0] 72)); clear hb3)
              | fail)
            refine wp_goto ?_
            refine ⟨rfl, ⟨_, _, _, _, _, _, _, _, _, _, _, _, _, _, _, _, _, _, _, _, _, _, _, _, _, _, _, _, _, _, _, _, _, _, _, _, _, _, _, _, _, _, rfl, HB4.out⟩, HE.out⟩
          | true =>
            have HST : Hid (FrSt ps 1 2 0) := Lib.hid (.inr (.inr (.inl ⟨rfl, rfl, rfl, _, h1, hch⟩)))
            have HC : Hid (∀ W, Below w.heap.size w W → Calls Try.prog 37 #[.agg #[.string ⟨#[116, 114, 97, 110, 115, 102, 101, 114, 45, 101, 110, 99, 111, 100, 105, 110, 103]⟩, .func (.func 59) #[] #[]], .slice A n cp] W fun e w' => e = .returned (.tuple #[.agg #[.int .u8 2, .int .i64 0, .slice none 0 0], .bool true, .int .i64 0]) ∧ Below W.heap.size W w') := Lib.hid fun W hW => only0_ok A n cp ps W (hr0.out.on hW) hn0.out hm0.out hs0.out v h1 hch
            clear hbw h1 hch
            go_wp2_with (first
              | (go_at_call 37; (with_reducible refine (HC.out _ HWR.out).mono ?_); rintro e w3 ⟨rfl, hb3⟩; have HB3 := Lib.hid (stpA (stp HBW.out hb3) (.cells #[.int .u8 2, .int .i64 0, .slice none 0 0] 72)); have HB4 := Lib.hid (stpA (stp HWR.out hb3) (.cells #[.int .u8 2, .int .i64 0, .slice none 0 0] 72)); clear hb3)
              | fail)
            go_quiet (fail)
            go_wp2_with fail
            go_roundg (gk - 1)
            case rel => exact ⟨1, 2, 0, by omega, by go_num, rfl, rfl, HST.out, below_drewN HB3.out _⟩
            case measure => omega
        · have HST : Hid (FrSt ps 1 0 0) := Lib.hid (.inr (.inl ⟨rfl, rfl, rfl, _, h1⟩))
          have HC : Hid (∀ W, Below w.heap.size w W → Calls Try.prog 37 #[.agg #[.string ⟨#[116, 114, 97, 110, 115, 102, 101, 114, 45, 101, 110, 99, 111, 100, 105, 110, 103]⟩, .func (.func 59) #[] #[]], .slice A n cp] W fun e w' => e = .returned (.tuple #[.agg #[.int .u8 0, .int .i64 0, .slice none 0 0], .bool false, .int .i64 0]) ∧ Below W.heap.size W w') := Lib.hid fun W hW => only0_no A n cp ps W (hr0.out.on hW) hn0.out hm0.out hs0.out v h1
          clear hbw h1
          go_wp2_with (first
            | (go_at_call 37; (with_reducible refine (HC.out _ HWR.out).mono ?_); rintro e w3 ⟨rfl, hb3⟩; have HB3 := Lib.hid (stpA (stp HBW.out hb3) (.cells #[.int .u8 0, .int .i64 0, .slice none 0 0] 72)); have HB4 := Lib.hid (stpA (stp HWR.out hb3) (.cells #[.int .u8 0, .int .i64 0, .slice none 0 0] 72)); clear hb3)
            | fail)
          go_roundg (gk - 1)
          case rel => exact ⟨1, 0, 0, by omega, by go_num, rfl, rfl, HST.out, HB3.out⟩
          case measure => omega
        · have HE : Hid (K = 0 ∧ N = 0 ∧ q = 140) := Lib.hid (frs (fr_err0 h1))
          have HC : Hid (∀ W, Below w.heap.size w W → Calls Try.prog 37 #[.agg #[.string ⟨#[116, 114, 97, 110, 115, 102, 101, 114, 45, 101, 110, 99, 111, 100, 105, 110, 103]⟩, .func (.func 59) #[] #[]], .slice A n cp] W fun e w' => e = .returned (.tuple #[.agg #[.int .u8 0, .int .i64 0, .slice none 0 0], .bool false, .int .i64 140]) ∧ Below W.heap.size W w') := Lib.hid fun W hW => only0_err A n cp ps W (hr0.out.on hW) hn0.out hm0.out hs0.out v false 140 h1 rfl
          clear hbw h1
          go_wp2_with (first
            | (go_at_call 37; (with_reducible refine (HC.out _ HWR.out).mono ?_); rintro e w3 ⟨rfl, hb3⟩; have HB3 := Lib.hid (stpA (stp HBW.out hb3) (.cells #[.int .u8 0, .int .i64 0, .slice none 0 0] 72)); have HB4 := Lib.hid (stpA (stp HWR.out hb3) (.cells #[.int .u8 0, .int .i64 0, .slice none 0 0] 72)); clear hb3)
            | fail)
          refine wp_goto ?_
          refine ⟨rfl, ⟨_, _, _, _, _, _, _, _, _, _, _, _, _, _, _, _, _, _, _, _, _, _, _, _, _, _, _, _, _, _, _, _, _, _, _, _, _, _, _, _, _, _, rfl, HB4.out⟩, HE.out⟩
      · have d0 : wr.cell? ⟨w1.heap.size, 2, none⟩ = some (.string ⟨#[99, 111, 110, 116, 101, 110, 116, 45, 108, 101, 110, 103, 116, 104]⟩) := cellV _ _ 2 _ _ _ GRW.out
        have d1 : wr.cell? ⟨w1.heap.size, 3, none⟩ = some (.func (.func 60) #[] #[]) := cellV _ _ 3 _ _ _ GRW.out
        rcases one_cases ps nLength with ⟨v, h1⟩ | ⟨v, h1⟩ | ⟨v, h1⟩
        · rcases readR_ok v.data.toList with ⟨m, hm1, hm2⟩ | ⟨hm1, hm2⟩
          · have HST : Hid (FrSt ps 2 1 (m : Int)) := Lib.hid (.inr (.inr (.inr ⟨rfl, fr_ok1 hv0 h1 hm1⟩)))
            have HC : Hid (∀ W, Below w.heap.size w W → Calls Try.prog 37 #[.agg #[.string ⟨#[99, 111, 110, 116, 101, 110, 116, 45, 108, 101, 110, 103, 116, 104]⟩, .func (.func 60) #[] #[]], .slice A n cp] W fun e w' => e = .returned (.tuple #[.agg #[.int .u8 1, .int .i64 (m : Int), .slice none 0 0], .bool true, .int .i64 0]) ∧ Below W.heap.size W w') := Lib.hid fun W hW => only1_ok A n cp ps W (hr0.out.on hW) hn0.out hm0.out hs0.out v h1 (m : Int) 0 hm2 rfl
            clear hbw h1 hm1 hm2 hv0
            go_wp2_with (first
              | (go_at_call 37; (with_reducible refine (HC.out _ HWR.out).mono ?_); rintro e w3 ⟨rfl, hb3⟩; have HB3 := Lib.hid (stpA (stp HBW.out hb3) (.cells #[.int .u8 1, .int .i64 (m : Int), .slice none 0 0] 72)); have HB4 := Lib.hid (stpA (stp HWR.out hb3) (.cells #[.int .u8 1, .int .i64 (m : Int), .slice none 0 0] 72)); clear hb3)
              | fail)
            go_quiet (fail)
            go_wp2_with fail
            go_roundg (gk - 1)
            case rel => exact ⟨2, 1, (m : Int), by omega, by go_num, rfl, rfl, HST.out, below_drewN HB3.out _⟩
            case measure => omega
          · have HE : Hid (K = 0 ∧ N = 0 ∧ q = 140) := Lib.hid (frs (fr_bad1 h1 hm1))
            have HC : Hid (∀ W, Below w.heap.size w W → Calls Try.prog 37 #[.agg #[.string ⟨#[99, 111, 110, 116, 101, 110, 116, 45, 108, 101, 110, 103, 116, 104]⟩, .func (.func 60) #[] #[]], .slice A n cp] W fun e w' => e = .returned (.tuple #[.agg #[.int .u8 0, .int .i64 0, .slice none 0 0], .bool false, .int .i64 140]) ∧ Below W.heap.size W w') := Lib.hid fun W hW => only1_bad A n cp ps W (hr0.out.on hW) hn0.out hm0.out hs0.out v h1 0 60 hm2 rfl
            clear hbw h1 hm1 hm2 hv0
            go_wp2_with (first
              | (go_at_call 37; (with_reducible refine (HC.out _ HWR.out).mono ?_); rintro e w3 ⟨rfl, hb3⟩; have HB3 := Lib.hid (stpA (stp HBW.out hb3) (.cells #[.int .u8 0, .int .i64 0, .slice none 0 0] 72)); have HB4 := Lib.hid (stpA (stp HWR.out hb3) (.cells #[.int .u8 0, .int .i64 0, .slice none 0 0] 72)); clear hb3)
              | fail)
            refine wp_goto ?_
            refine ⟨rfl, ⟨_, _, _, _, _, _, _, _, _, _, _, _, _, _, _, _, _, _, _, _, _, _, _, _, _, _, _, _, _, _, _, _, _, _, _, _, _, _, _, _, _, _, rfl, HB4.out⟩, HE.out⟩
        · have HST : Hid (FrSt ps 2 0 0) := Lib.hid (.inr (.inr (.inr ⟨rfl, fr_none hv0 h1⟩)))
          have HC : Hid (∀ W, Below w.heap.size w W → Calls Try.prog 37 #[.agg #[.string ⟨#[99, 111, 110, 116, 101, 110, 116, 45, 108, 101, 110, 103, 116, 104]⟩, .func (.func 60) #[] #[]], .slice A n cp] W fun e w' => e = .returned (.tuple #[.agg #[.int .u8 0, .int .i64 0, .slice none 0 0], .bool false, .int .i64 0]) ∧ Below W.heap.size W w') := Lib.hid fun W hW => only1_no A n cp ps W (hr0.out.on hW) hn0.out hm0.out hs0.out v h1
          clear hbw h1 hv0
          go_wp2_with (first
            | (go_at_call 37; (with_reducible refine (HC.out _ HWR.out).mono ?_); rintro e w3 ⟨rfl, hb3⟩; have HB3 := Lib.hid (stpA (stp HBW.out hb3) (.cells #[.int .u8 0, .int .i64 0, .slice none 0 0] 72)); have HB4 := Lib.hid (stpA (stp HWR.out hb3) (.cells #[.int .u8 0, .int .i64 0, .slice none 0 0] 72)); clear hb3)
            | fail)
          go_roundg (gk - 1)
          case rel => exact ⟨2, 0, 0, by omega, by go_num, rfl, rfl, HST.out, HB3.out⟩
          case measure => omega
        · have HE : Hid (K = 0 ∧ N = 0 ∧ q = 140) := Lib.hid (frs (fr_err1 h1))
          have HC : Hid (∀ W, Below w.heap.size w W → Calls Try.prog 37 #[.agg #[.string ⟨#[99, 111, 110, 116, 101, 110, 116, 45, 108, 101, 110, 103, 116, 104]⟩, .func (.func 60) #[] #[]], .slice A n cp] W fun e w' => e = .returned (.tuple #[.agg #[.int .u8 0, .int .i64 0, .slice none 0 0], .bool false, .int .i64 140]) ∧ Below W.heap.size W w') := Lib.hid fun W hW => only1_err A n cp ps W (hr0.out.on hW) hn0.out hm0.out hs0.out v false 140 h1 rfl
          clear hbw h1 hv0
          go_wp2_with (first
            | (go_at_call 37; (with_reducible refine (HC.out _ HWR.out).mono ?_); rintro e w3 ⟨rfl, hb3⟩; have HB3 := Lib.hid (stpA (stp HBW.out hb3) (.cells #[.int .u8 0, .int .i64 0, .slice none 0 0] 72)); have HB4 := Lib.hid (stpA (stp HWR.out hb3) (.cells #[.int .u8 0, .int .i64 0, .slice none 0 0] 72)); clear hb3)
            | fail)
          refine wp_goto ?_
          refine ⟨rfl, ⟨_, _, _, _, _, _, _, _, _, _, _, _, _, _, _, _, _, _, _, _, _, _, _, _, _, _, _, _, _, _, _, _, _, _, _, _, _, _, _, _, _, _, rfl, HB4.out⟩, HE.out⟩
      · have d0 : wr.cell? ⟨w1.heap.size, 2, none⟩ = some (.string ⟨#[99, 111, 110, 116, 101, 110, 116, 45, 108, 101, 110, 103, 116, 104]⟩) := cellV _ _ 2 _ _ _ GRW.out
        have d1 : wr.cell? ⟨w1.heap.size, 3, none⟩ = some (.func (.func 60) #[] #[]) := cellV _ _ 3 _ _ _ GRW.out
        rcases one_cases ps nLength with ⟨v, h1⟩ | ⟨v, h1⟩ | ⟨v, h1⟩
        · rcases readR_ok v.data.toList with ⟨m, hm1, hm2⟩ | ⟨hm1, hm2⟩
          · have HE : Hid (K = 0 ∧ N = 0 ∧ q = 140) := Lib.hid (frs (fr_both hv0 h1))
            have HC : Hid (∀ W, Below w.heap.size w W → Calls Try.prog 37 #[.agg #[.string ⟨#[99, 111, 110, 116, 101, 110, 116, 45, 108, 101, 110, 103, 116, 104]⟩, .func (.func 60) #[] #[]], .slice A n cp] W fun e w' => e = .returned (.tuple #[.agg #[.int .u8 1, .int .i64 (m : Int), .slice none 0 0], .bool true, .int .i64 0]) ∧ Below W.heap.size W w') := Lib.hid fun W hW => only1_ok A n cp ps W (hr0.out.on hW) hn0.out hm0.out hs0.out v h1 (m : Int) 0 hm2 rfl
            clear hbw h1 hm1 hm2 hv0 hc0
            go_wp2_with (first
              | (go_at_call 37; (with_reducible refine (HC.out _ HWR.out).mono ?_); rintro e w3 ⟨rfl, hb3⟩; have HB3 := Lib.hid (stpA (stp HBW.out hb3) (.cells #[.int .u8 1, .int .i64 (m : Int), .slice none 0 0] 72)); have HB4 := Lib.hid (stpA (stp HWR.out hb3) (.cells #[.int .u8 1, .int .i64 (m : Int), .slice none 0 0] 72)); clear hb3)
              | fail)
            refine wp_goto ?_
            refine ⟨rfl, ⟨_, _, _, _, _, _, _, _, _, _, _, _, _, _, _, _, _, _, _, _, _, _, _, _, _, _, _, _, _, _, _, _, _, _, _, _, _, _, _, _, _, _, rfl, HB4.out⟩, HE.out⟩
          · have HE : Hid (K = 0 ∧ N = 0 ∧ q = 140) := Lib.hid (frs (fr_bad1 h1 hm1))
            have HC : Hid (∀ W, Below w.heap.size w W → Calls Try.prog 37 #[.agg #[.string ⟨#[99, 111, 110, 116, 101, 110, 116, 45, 108, 101, 110, 103, 116, 104]⟩, .func (.func 60) #[] #[]], .slice A n cp] W fun e w' => e = .returned (.tuple #[.agg #[.int .u8 0, .int .i64 0, .slice none 0 0], .bool false, .int .i64 140]) ∧ Below W.heap.size W w') := Lib.hid fun W hW => only1_bad A n cp ps W (hr0.out.on hW) hn0.out hm0.out hs0.out v h1 0 60 hm2 rfl
            clear hbw h1 hm1 hm2 hv0 hc0
            go_wp2_with (first
              | (go_at_call 37; (with_reducible refine (HC.out _ HWR.out).mono ?_); rintro e w3 ⟨rfl, hb3⟩; have HB3 := Lib.hid (stpA (stp HBW.out hb3) (.cells #[.int .u8 0, .int .i64 0, .slice none 0 0] 72)); have HB4 := Lib.hid (stpA (stp HWR.out hb3) (.cells #[.int .u8 0, .int .i64 0, .slice none 0 0] 72)); clear hb3)
              | fail)
            refine wp_goto ?_
            refine ⟨rfl, ⟨_, _, _, _, _, _, _, _, _, _, _, _, _, _, _, _, _, _, _, _, _, _, _, _, _, _, _, _, _, _, _, _, _, _, _, _, _, _, _, _, _, _, rfl, HB4.out⟩, HE.out⟩
        · have HST : Hid (FrSt ps 2 2 0) := Lib.hid (.inr (.inr (.inr ⟨rfl, fr_coding hv0 hc0 h1⟩)))
          have HC : Hid (∀ W, Below w.heap.size w W → Calls Try.prog 37 #[.agg #[.string ⟨#[99, 111, 110, 116, 101, 110, 116, 45, 108, 101, 110, 103, 116, 104]⟩, .func (.func 60) #[] #[]], .slice A n cp] W fun e w' => e = .returned (.tuple #[.agg #[.int .u8 0, .int .i64 0, .slice none 0 0], .bool false, .int .i64 0]) ∧ Below W.heap.size W w') := Lib.hid fun W hW => only1_no A n cp ps W (hr0.out.on hW) hn0.out hm0.out hs0.out v h1
          clear hbw h1 hv0 hc0
          go_wp2_with (first
            | (go_at_call 37; (with_reducible refine (HC.out _ HWR.out).mono ?_); rintro e w3 ⟨rfl, hb3⟩; have HB3 := Lib.hid (stpA (stp HBW.out hb3) (.cells #[.int .u8 0, .int .i64 0, .slice none 0 0] 72)); have HB4 := Lib.hid (stpA (stp HWR.out hb3) (.cells #[.int .u8 0, .int .i64 0, .slice none 0 0] 72)); clear hb3)
            | fail)
          go_roundg (gk - 1)
          case rel => exact ⟨2, 2, 0, by omega, by go_num, rfl, rfl, HST.out, HB3.out⟩
          case measure => omega
        · have HE : Hid (K = 0 ∧ N = 0 ∧ q = 140) := Lib.hid (frs (fr_err1 h1))
          have HC : Hid (∀ W, Below w.heap.size w W → Calls Try.prog 37 #[.agg #[.string ⟨#[99, 111, 110, 116, 101, 110, 116, 45, 108, 101, 110, 103, 116, 104]⟩, .func (.func 60) #[] #[]], .slice A n cp] W fun e w' => e = .returned (.tuple #[.agg #[.int .u8 0, .int .i64 0, .slice none 0 0], .bool false, .int .i64 140]) ∧ Below W.heap.size W w') := Lib.hid fun W hW => only1_err A n cp ps W (hr0.out.on hW) hn0.out hm0.out hs0.out v false 140 h1 rfl
          clear hbw h1 hv0 hc0
          go_wp2_with (first
            | (go_at_call 37; (with_reducible refine (HC.out _ HWR.out).mono ?_); rintro e w3 ⟨rfl, hb3⟩; have HB3 := Lib.hid (stpA (stp HBW.out hb3) (.cells #[.int .u8 0, .int .i64 0, .slice none 0 0] 72)); have HB4 := Lib.hid (stpA (stp HWR.out hb3) (.cells #[.int .u8 0, .int .i64 0, .slice none 0 0] 72)); clear hb3)
            | fail)
          refine wp_goto ?_
          refine ⟨rfl, ⟨_, _, _, _, _, _, _, _, _, _, _, _, _, _, _, _, _, _, _, _, _, _, _, _, _, _, _, _, _, _, _, _, _, _, _, _, _, _, _, _, _, _, rfl, HB4.out⟩, HE.out⟩
      · have hq := HQ.out
        rw [hfr] at hq
        obtain ⟨rfl, e2⟩ := (Prod.mk.injEq _ _ _ _).mp hq
        obtain ⟨rfl, rfl⟩ := (Prod.mk.injEq _ _ _ _).mp e2
        clear hbw hfr hq e2
        go_wp2_with fail
        dsimp only [Exit.jump]
        go_ret3
        exact ⟨rfl, HWR.out⟩
end Hx
end Go.Proofs.Ytfdhogaknlabkaa
namespace Go.Proofs.Ytfdhogaknlabkaa
open Go.RowKit
namespace Hx
open Lx Hd
set_option linter.unusedVariables false
def wPp (p : Pr) : Nat := min p.name.length 5000 + min p.value.length 5000
def wPps (l : List Pr) : Nat := (l.map wPp).sum
def greatH (ps : List Pr) : Bool := decide (40 < ps.length) || decide (3000 < wPps (ps.take 50))
theorem wPps_next {l : List Pr} {k : Nat} (h : k < l.length) : wPps (l.take (k + 1)) = wPps (l.take k) + wPp (l[k]'h) := by
  unfold wPps
  rw [List.take_succ_eq_append_getElem h, List.map_append, List.sum_append]
  simp only [List.map_cons, List.map_nil, List.sum_cons, List.sum_nil, Nat.add_zero]
theorem great_no14 {ps : List Pr} (h : greatH ps = false) : ps.length ≤ 40 ∧ SmP ps ∧ (linesP ps).length ≤ 3160 := by
  unfold greatH at h
  rw [Bool.or_eq_false_iff, decide_eq_false_iff_not, decide_eq_false_iff_not] at h
  obtain ⟨h1, h2⟩ := h
  rw [List.take_of_length_le (by omega)] at h2
  have key : ∀ (l : List Pr), wPps l ≤ 3000 → SmP l ∧ (linesP l).length ≤ wPps l + l.length * 4 := by
    intro l
    induction l with
    | nil => intro _; exact ⟨fun p hp => (by cases hp), by simp [linesP]⟩
    | cons p l ih =>
      intro hl
      have e : wPps (p :: l) = wPp p + wPps l := by simp [wPps]
      rw [e] at hl
      obtain ⟨k1, k2⟩ := ih (by omega)
      have hp : p.name.length ≤ 3000 ∧ p.value.length ≤ 3000 ∧ wPp p = p.name.length + p.value.length := by unfold wPp at hl ⊢; omega
      refine ⟨fun q hq => ?_, ?_⟩
      · rcases List.mem_cons.1 hq with rfl | hq
        · omega
        · exact k1 q hq
      · have e2 : (lineP p).length = p.name.length + p.value.length + 4 := by unfold lineP; simp; omega
        unfold linesP at k2 ⊢
        rw [List.flatMap_cons, List.length_append, List.length_cons, e]
        omega
  obtain ⟨k1, k2⟩ := key ps (by omega)
  exact ⟨by omega, k1, by omega⟩
set_option maxHeartbeats 8000000 in
set_option maxRecDepth 100000 in
theorem rgreat14 (A : Option Addr) (n cp : Nat) (ps : List Pr) (w : World) (hr : RdC PrC w w.heap.size A ps) (hn : ps.length = n) (hmax : n ≤ 9223372036854775807) (q : Bool) (h : greatH ps = q) :
    Calls Try.prog 20 #[.slice A n cp] w fun e w' => e = .returned (.bool q) ∧ Below w.heap.size w w' := by
  have HR := Lib.hid hr
  have HN := Lib.hid hn
  have HH := Lib.hid h
  have HMX := Lib.hid hmax
  clear hr hn h hmax
  go_enter Try.func20, Try.ntmps20
  go_wp2_with fail
  go_loopg [3, 4] n (fun gg vn vi wr => ∃ k acc : Nat, k + gg = n ∧ vi = .int .i64 k ∧ vn = .int .i64 acc ∧ k ≤ 50 ∧ acc ≤ k * 10000 ∧ Hid (acc = wPps (ps.take k)) ∧ Below w.heap.size w wr)
  case atStart => exact ⟨0, 0, by omega, rfl, rfl, by omega, by omega, Lib.hid rfl, Below.refl _ _⟩
  case round =>
    obtain ⟨k, acc, hk, rfl, rfl, hk5, hacc, hg, hbw⟩ := hrel
    have HBW := Lib.hid hbw
    by_cases hlt : k < n ∧ k < 50
    · have hk1 : k < ps.length := by rw [HN.out]; exact hlt.1
      obtain ⟨b0, off, x, y, rfl, hbB, c0, c1, he⟩ := pr_at (HR.out.on hbw) hk1
      have bk : (0 : Int) ≤ (k : Int) ∧ (k : Int) < (n : Int) := by omega
      have bk5 : (k : Int) < 50 := by omega
      obtain ⟨e1, he1⟩ : ∃ e1 : Nat, min x.size 5000 = e1 := ⟨_, rfl⟩
      obtain ⟨e2, he2⟩ : ∃ e2 : Nat, min y.size 5000 = e2 := ⟨_, rfl⟩
      have mV1 : (if (5000 : Int) < (x.size : Int) then (5000 : Int) else (x.size : Int)) = (e1 : Int) := by split <;> omega
      have mV2 : (if (5000 : Int) < (y.size : Int) then (5000 : Int) else (y.size : Int)) = (e2 : Int) := by split <;> omega
      obtain ⟨v1, hv1⟩ : ∃ v1 : Nat, acc + e1 = v1 := ⟨_, rfl⟩
      obtain ⟨v2, hv2⟩ : ∃ v2 : Nat, v1 + e2 = v2 := ⟨_, rfl⟩
      have s1 : IntKind.i64.wrap ((acc : Int) + (e1 : Int)) = (v1 : Int) := by rw [IntWalk.i64_in _ (by omega)]; omega
      have s2 : IntKind.i64.wrap ((v1 : Int) + (e2 : Int)) = (v2 : Int) := by rw [IntWalk.i64_in _ (by omega)]; omega
      have hv2m : v2 ≤ (k + 1) * 10000 := by omega
      have nV1 : min (x.size : Int) 5000 = (e1 : Int) := by omega
      have nV2 : min (y.size : Int) 5000 = (e2 : Int) := by omega
      have nV3 : (acc : Int) + (e1 : Int) + (e2 : Int) = (v2 : Int) := by omega
      have HNX : Hid (v2 = wPps (ps.take (k + 1))) := Lib.hid (by
        rw [wPps_next hk1, ← hg.out, he]
        unfold wPp
        dsimp only
        rw [ba_l, ba_l]
        omega)
      clear hbw hk1 he he1 he2 hv1 hv2
      go_wp2_with fail
      go_quiet (fail)
      go_wp2_with fail
      go_roundg (gk - 1)
      case rel => exact ⟨k + 1, v2, by omega, by go_num, by first | rfl | rw [nV1, nV2, nV3], by omega, hv2m, HNX, below_drewN HBW.out _⟩
      case measure => omega
    · have hend : Hid (acc = wPps (ps.take 50)) := Lib.hid (by
        rw [hg.out]
        rcases Nat.lt_or_ge k n with h1 | h1
        · rw [show k = 50 by omega]
        · rw [List.take_of_length_le (by rw [HN.out]; exact h1), List.take_of_length_le (by rw [HN.out]; omega)])
      have hq : (decide (40 < n) || decide (3000 < acc)) = q := by
        rw [← HH.out, hend.out]
        unfold greatH
        rw [HN.out]
      rcases Nat.lt_or_ge k n with h1 | h1
      · have b1 : ¬ ((k : Int) < 50) := by omega
        have b2 : decide ((k : Int) < 50) = false := decide_eq_false b1
        have b3 : decide ((k : Int) < (n : Int)) = true := decide_eq_true (by omega)
        have b4 : decide ((40 : Int) < (n : Int)) = true := decide_eq_true (by omega)
        obtain rfl : true = q := by rw [← hq, decide_eq_true (show 40 < n by omega)]; rfl
        clear hbw hg hlt hq
        go_wp2_with fail
        go_ret
        exact ⟨rfl, HBW.out⟩
      · have b3 : decide ((k : Int) < (n : Int)) = false := decide_eq_false (by omega)
        by_cases hn4 : 40 < n
        · have b4 : decide ((40 : Int) < (n : Int)) = true := decide_eq_true (by omega)
          obtain rfl : true = q := by rw [← hq, decide_eq_true hn4]; rfl
          clear hbw hg hlt hq
          go_wp2_with fail
          go_ret
          exact ⟨rfl, HBW.out⟩
        · have b4 : decide ((40 : Int) < (n : Int)) = false := decide_eq_false (by omega)
          have b5 : decide ((3000 : Int) < (acc : Int)) = q := by
            rw [← hq, decide_eq_false hn4, Bool.false_or]
            exact decide_eq_decide.2 (by omega)
          clear hbw hg hlt hq
          go_wp2_with fail
          go_ret
          exact ⟨rfl, HBW.out⟩
set_option maxHeartbeats 8000000 in
set_option maxRecDepth 100000 in
theorem rhostn (A : Option Addr) (n cp : Nat) (ps : List Pr) (w : World) (hr : RdC PrC w w.heap.size A ps) (hn : ps.length = n) (hm : n ≤ 1000) (hs : SmP ps) (v : ByteArray) (q : Int) (h1 : oneH ps nHost = (v.data.toList, false, q)) (hq : q = 0 ∨ q = 140) : Calls Try.prog 28 #[.slice A n cp] w fun e w' => e = .returned (.tuple #[.string ⟨#[]⟩, .int .i64 140]) ∧ Below w.heap.size w w' := by
  have HO := Lib.hid (rone14 A n cp ps ⟨#[104, 111, 115, 116]⟩ w hr hn hm hs (by decide) v false q h1)
  clear hr hn hm hs h1
  rcases hq with rfl | rfl <;>
  · go_enter Try.func28, Try.ntmps28
    go_wp2_with (first
    | (go_at_call 24; (with_reducible refine (HO.out).mono ?_); rintro e w1 ⟨rfl, hb1⟩; have HB1 := Lib.hid hb1; clear hb1)
    | fail)
    go_ret2
    exact ⟨rfl, HB1.out⟩
theorem rread6B (s : ByteArray) (w : World) (a b : Int) (h : readR s.data.toList = (a, b)) : Calls Try.prog 47 #[.string s] w fun e w' => e = .returned (.tuple #[.int .i64 a, .int .i64 b]) ∧ Below w.heap.size w w' := rread6 s w a b h
set_option maxHeartbeats 8000000 in
set_option maxRecDepth 100000 in
theorem rhost0b (A : Option Addr) (n cp : Nat) (ps : List Pr) (w : World) (hr : RdC PrC w w.heap.size A ps) (hn : ps.length = n) (hm : n ≤ 1000) (hs : SmP ps) (v : ByteArray) (h1 : oneH ps nHost = (v.data.toList, true, 0)) (hv : v.size ≤ 1000000) (hc : cutC v.data.toList = none) (ht : As.isTok v.data.toList = false) : Calls Try.prog 28 #[.slice A n cp] w fun e w' => e = .returned (.tuple #[.string ⟨#[]⟩, .int .i64 140]) ∧ Below w.heap.size w w' := by
  have HO := Lib.hid (rone14 A n cp ps ⟨#[104, 111, 115, 116]⟩ w hr hn hm hs (by decide) v true 0 h1)
  have HP := Lib.hid fun W => rparts_noneB v W hv hc
  have HR : Hid (∀ W, Calls Try.prog 47 #[.string ⟨#[48]⟩] W fun e w' => e = .returned (.tuple #[.int .i64 0, .int .i64 0]) ∧ Below W.heap.size W w') := Lib.hid fun W => rread6B ⟨#[48]⟩ W 0 0 (by decide +kernel)
  have HV := Lib.hid hv
  have HT := Lib.hid ht
  clear hr hn hm hs h1 hv hc ht
  go_enter Try.func28, Try.ntmps28
  go_wp2_with (first
    | (go_at_call 24; (with_reducible refine (HO.out).mono ?_); rintro e w1 ⟨rfl, hb1⟩; have HB1 := Lib.hid hb1; clear hb1)
    | (go_at_call 48; (with_reducible refine (HP.out _).mono ?_); rintro e w2 ⟨rfl, hb2⟩; have HB2 := Lib.hid (stp HB1.out hb2); clear hb2)
    | (go_at_call 47; (with_reducible refine (HR.out _).mono ?_); rintro e w3 ⟨rfl, hb3⟩; have HB3 := Lib.hid (stp HB2.out hb3); clear hb3)
    | (go_at_call 49; (with_reducible refine (rtoken7 v false _ HV.out HT.out).mono ?_); rintro e w4 ⟨rfl, hb4⟩; have HB4 := Lib.hid (stp HB3.out hb4); clear hb4)
    | fail)
  go_ret2
  exact ⟨rfl, HB4.out⟩
set_option maxHeartbeats 8000000 in
set_option maxRecDepth 100000 in
theorem rhost0 (A : Option Addr) (n cp : Nat) (ps : List Pr) (w : World) (hr : RdC PrC w w.heap.size A ps) (hn : ps.length = n) (hm : n ≤ 1000) (hs : SmP ps) (v : ByteArray) (h1 : oneH ps nHost = (v.data.toList, true, 0)) (hv : v.size ≤ 1000000) (hc : cutC v.data.toList = none) (ht : As.isTok v.data.toList = true) (u : ByteArray) (hu : lowS v = u) : Calls Try.prog 28 #[.slice A n cp] w fun e w' => e = .returned (.tuple #[.string u, .int .i64 0]) ∧ Below w.heap.size w w' := by
  have HO := Lib.hid (rone14 A n cp ps ⟨#[104, 111, 115, 116]⟩ w hr hn hm hs (by decide) v true 0 h1)
  have HP := Lib.hid fun W => rparts_noneB v W hv hc
  have HR : Hid (∀ W, Calls Try.prog 47 #[.string ⟨#[48]⟩] W fun e w' => e = .returned (.tuple #[.int .i64 0, .int .i64 0]) ∧ Below W.heap.size W w') := Lib.hid fun W => rread6B ⟨#[48]⟩ W 0 0 (by decide +kernel)
  have HV := Lib.hid hv
  have HT := Lib.hid ht
  have HU := Lib.hid hu
  clear hr hn hm hs h1 hv hc ht hu
  go_enter Try.func28, Try.ntmps28
  go_wp2_with (first
    | (go_at_call 24; (with_reducible refine (HO.out).mono ?_); rintro e w1 ⟨rfl, hb1⟩; have HB1 := Lib.hid hb1; clear hb1)
    | (go_at_call 48; (with_reducible refine (HP.out _).mono ?_); rintro e w2 ⟨rfl, hb2⟩; have HB2 := Lib.hid (stp HB1.out hb2); clear hb2)
    | (go_at_call 47; (with_reducible refine (HR.out _).mono ?_); rintro e w3 ⟨rfl, hb3⟩; have HB3 := Lib.hid (stp HB2.out hb3); clear hb3)
    | (go_at_call 49; (with_reducible refine (rtoken7 v true _ HV.out HT.out).mono ?_); rintro e w4 ⟨rfl, hb4⟩; have HB4 := Lib.hid (stp HB3.out hb4); clear hb4)
    | (go_at_call 50; (with_reducible refine (rlower7 v u _ HV.out HU.out).mono ?_); rintro e w5 ⟨rfl, hb5⟩; have HB5 := Lib.hid (stp HB4.out hb5); clear hb5)
    | fail)
  go_ret2
  exact ⟨rfl, HB5.out⟩
set_option maxHeartbeats 8000000 in
set_option maxRecDepth 100000 in
theorem rhost1n (A : Option Addr) (n cp : Nat) (ps : List Pr) (w : World) (hr : RdC PrC w w.heap.size A ps) (hn : ps.length = n) (hm : n ≤ 1000) (hs : SmP ps) (v : ByteArray) (h1 : oneH ps nHost = (v.data.toList, true, 0)) (hv : v.size ≤ 1000000) (x y : ByteArray) (hc : cutC v.data.toList = some (x.data.toList, y.data.toList)) (hrd : readR y.data.toList = (0, 60)) : Calls Try.prog 28 #[.slice A n cp] w fun e w' => e = .returned (.tuple #[.string ⟨#[]⟩, .int .i64 140]) ∧ Below w.heap.size w w' := by
  have HO := Lib.hid (rone14 A n cp ps ⟨#[104, 111, 115, 116]⟩ w hr hn hm hs (by decide) v true 0 h1)
  have hsz := cut_szs hc
  have HX : Hid (x.size ≤ 1000000) := Lib.hid (by omega)
  have HP := Lib.hid fun W => rparts_someB v x y W hv hc
  have HR : Hid (∀ W, Calls Try.prog 47 #[.string y] W fun e w' => e = .returned (.tuple #[.int .i64 0, .int .i64 60]) ∧ Below W.heap.size W w') := Lib.hid fun W => rread6B y W 0 60 hrd
  clear hr hn hm hs h1 hv hc hrd hsz
  go_enter Try.func28, Try.ntmps28
  go_wp2_with (first
    | (go_at_call 24; (with_reducible refine (HO.out).mono ?_); rintro e w1 ⟨rfl, hb1⟩; have HB1 := Lib.hid hb1; clear hb1)
    | (go_at_call 48; (with_reducible refine (HP.out _).mono ?_); rintro e w2 ⟨rfl, hb2⟩; have HB2 := Lib.hid (stp HB1.out hb2); clear hb2)
    | (go_at_call 47; (with_reducible refine (HR.out _).mono ?_); rintro e w3 ⟨rfl, hb3⟩; have HB3 := Lib.hid (stp HB2.out hb3); clear hb3)
    | fail)
  go_ret2
  exact ⟨rfl, HB3.out⟩
set_option maxHeartbeats 8000000 in
set_option maxRecDepth 100000 in
theorem rhost1b (A : Option Addr) (n cp : Nat) (ps : List Pr) (w : World) (hr : RdC PrC w w.heap.size A ps) (hn : ps.length = n) (hm : n ≤ 1000) (hs : SmP ps) (v : ByteArray) (h1 : oneH ps nHost = (v.data.toList, true, 0)) (hv : v.size ≤ 1000000) (x y : ByteArray) (hc : cutC v.data.toList = some (x.data.toList, y.data.toList)) (m : Nat) (hrd : readR y.data.toList = ((m : Int), 0)) (ht : As.isTok x.data.toList = false) : Calls Try.prog 28 #[.slice A n cp] w fun e w' => e = .returned (.tuple #[.string ⟨#[]⟩, .int .i64 140]) ∧ Below w.heap.size w w' := by
  have HO := Lib.hid (rone14 A n cp ps ⟨#[104, 111, 115, 116]⟩ w hr hn hm hs (by decide) v true 0 h1)
  have hsz := cut_szs hc
  have HX : Hid (x.size ≤ 1000000) := Lib.hid (by omega)
  have HP := Lib.hid fun W => rparts_someB v x y W hv hc
  have HR : Hid (∀ W, Calls Try.prog 47 #[.string y] W fun e w' => e = .returned (.tuple #[.int .i64 m, .int .i64 0]) ∧ Below W.heap.size W w') := Lib.hid fun W => rread6B y W m 0 hrd
  have HT := Lib.hid ht
  clear hr hn hm hs h1 hv hc hrd hsz ht
  go_enter Try.func28, Try.ntmps28
  go_wp2_with (first
    | (go_at_call 24; (with_reducible refine (HO.out).mono ?_); rintro e w1 ⟨rfl, hb1⟩; have HB1 := Lib.hid hb1; clear hb1)
    | (go_at_call 48; (with_reducible refine (HP.out _).mono ?_); rintro e w2 ⟨rfl, hb2⟩; have HB2 := Lib.hid (stp HB1.out hb2); clear hb2)
    | (go_at_call 47; (with_reducible refine (HR.out _).mono ?_); rintro e w3 ⟨rfl, hb3⟩; have HB3 := Lib.hid (stp HB2.out hb3); clear hb3)
    | (go_at_call 49; (with_reducible refine (rtoken7 x false _ HX.out HT.out).mono ?_); rintro e w4 ⟨rfl, hb4⟩; have HB4 := Lib.hid (stp HB3.out hb4); clear hb4)
    | fail)
  go_ret2
  exact ⟨rfl, HB4.out⟩
set_option maxHeartbeats 8000000 in
set_option maxRecDepth 100000 in
theorem rhost1 (A : Option Addr) (n cp : Nat) (ps : List Pr) (w : World) (hr : RdC PrC w w.heap.size A ps) (hn : ps.length = n) (hm : n ≤ 1000) (hs : SmP ps) (v : ByteArray) (h1 : oneH ps nHost = (v.data.toList, true, 0)) (hv : v.size ≤ 1000000) (x y : ByteArray) (hc : cutC v.data.toList = some (x.data.toList, y.data.toList)) (m : Nat) (hrd : readR y.data.toList = ((m : Int), 0)) (ht : As.isTok x.data.toList = true) (u : ByteArray) (hu : lowS x = u) : Calls Try.prog 28 #[.slice A n cp] w fun e w' => e = .returned (.tuple #[.string u, .int .i64 0]) ∧ Below w.heap.size w w' := by
  have HO := Lib.hid (rone14 A n cp ps ⟨#[104, 111, 115, 116]⟩ w hr hn hm hs (by decide) v true 0 h1)
  have hsz := cut_szs hc
  have HX : Hid (x.size ≤ 1000000) := Lib.hid (by omega)
  have HP := Lib.hid fun W => rparts_someB v x y W hv hc
  have HR : Hid (∀ W, Calls Try.prog 47 #[.string y] W fun e w' => e = .returned (.tuple #[.int .i64 m, .int .i64 0]) ∧ Below W.heap.size W w') := Lib.hid fun W => rread6B y W m 0 hrd
  have HT := Lib.hid ht
  have HU := Lib.hid hu
  clear hr hn hm hs h1 hv hc hrd hsz ht hu
  go_enter Try.func28, Try.ntmps28
  go_wp2_with (first
    | (go_at_call 24; (with_reducible refine (HO.out).mono ?_); rintro e w1 ⟨rfl, hb1⟩; have HB1 := Lib.hid hb1; clear hb1)
    | (go_at_call 48; (with_reducible refine (HP.out _).mono ?_); rintro e w2 ⟨rfl, hb2⟩; have HB2 := Lib.hid (stp HB1.out hb2); clear hb2)
    | (go_at_call 47; (with_reducible refine (HR.out _).mono ?_); rintro e w3 ⟨rfl, hb3⟩; have HB3 := Lib.hid (stp HB2.out hb3); clear hb3)
    | (go_at_call 49; (with_reducible refine (rtoken7 x true _ HX.out HT.out).mono ?_); rintro e w4 ⟨rfl, hb4⟩; have HB4 := Lib.hid (stp HB3.out hb4); clear hb4)
    | (go_at_call 50; (with_reducible refine (rlower7 x u _ HX.out HU.out).mono ?_); rintro e w5 ⟨rfl, hb5⟩; have HB5 := Lib.hid (stp HB4.out hb5); clear hb5)
    | fail)
  go_ret2
  exact ⟨rfl, HB5.out⟩
theorem rhost14 (A : Option Addr) (n cp : Nat) (ps : List Pr) (w : World) (hr : RdC PrC w w.heap.size A ps) (hn : ps.length = n) (hm : n ≤ 1000) (hs : SmP ps) (t : ByteArray) (q : Int) (h : hostH ps = (t.data.toList, q)) : Calls Try.prog 28 #[.slice A n cp] w fun e w' => e = .returned (.tuple #[.string t, .int .i64 q]) ∧ Below w.heap.size w w' := by
  unfold hostH at h
  rcases one_cases ps nHost with ⟨v, h1⟩ | ⟨v, h1⟩ | ⟨v, h1⟩
  · rw [h1] at h
    rw [if_pos rfl] at h
    have hv : v.size ≤ 1000000 := by
      have h2 := find_mem (one_mem h1) hs
      rw [ba_l] at h2
      omega
    have bad : hostL v.data.toList = none → (⟨#[]⟩ : ByteArray) = t ∧ q = 140 := fun e => by
      rw [e] at h
      obtain ⟨e1, e2⟩ := (Prod.mk.injEq _ _ _ _).mp h
      exact ⟨ba_x (by rw [← e1]), e2.symm⟩
    have good : ∀ u, hostL v.data.toList = some u → u = t.data.toList ∧ q = 0 := fun u e => by
      rw [e] at h
      obtain ⟨e1, e2⟩ := (Prod.mk.injEq _ _ _ _).mp h
      exact ⟨e1, e2.symm⟩
    cases hc : cutC v.data.toList with
    | none =>
      have e1 : hostL v.data.toList = if As.isTok v.data.toList = true then some (As.lows v.data.toList) else none := by unfold hostL; rw [hc]
      cases ht : As.isTok v.data.toList with
      | false =>
        obtain ⟨rfl, rfl⟩ := bad (e1.trans (if_neg (by rw [ht]; simp)))
        exact rhost0b A n cp ps w hr hn hm hs v h1 hv hc ht
      | true =>
        obtain ⟨e2, rfl⟩ := good _ (e1.trans (if_pos ht))
        exact rhost0 A n cp ps w hr hn hm hs v h1 hv hc ht t (ba_x e2)
    | some p =>
      obtain ⟨x, y, rfl⟩ := two_ba p
      have e1 : hostL v.data.toList = if (Nmb.readN y.data.toList).isSome = true ∧ As.isTok x.data.toList = true then some (As.lows x.data.toList) else none := by unfold hostL; rw [hc]
      rcases readR_ok y.data.toList with ⟨m, k1, k2⟩ | ⟨k1, k2⟩
      · cases ht : As.isTok x.data.toList with
        | false =>
          obtain ⟨rfl, rfl⟩ := bad (e1.trans (if_neg (by rw [ht]; simp)))
          exact rhost1b A n cp ps w hr hn hm hs v h1 hv x y hc m k2 ht
        | true =>
          obtain ⟨e2, rfl⟩ := good _ (e1.trans (if_pos ⟨by rw [k1]; rfl, ht⟩))
          exact rhost1 A n cp ps w hr hn hm hs v h1 hv x y hc m k2 ht t (ba_x e2)
      · obtain ⟨rfl, rfl⟩ := bad (e1.trans (if_neg (by rw [k1]; simp)))
        exact rhost1n A n cp ps w hr hn hm hs v h1 hv x y hc k2
  · rw [h1] at h
    rw [if_neg (by simp)] at h
    obtain ⟨e1, e2⟩ := (Prod.mk.injEq _ _ _ _).mp h
    obtain rfl : (⟨#[]⟩ : ByteArray) = t := ba_x (by rw [← e1])
    subst e2
    exact rhostn A n cp ps w hr hn hm hs v 0 h1 (.inl rfl)
  · rw [h1] at h
    rw [if_neg (by simp)] at h
    obtain ⟨e1, e2⟩ := (Prod.mk.injEq _ _ _ _).mp h
    obtain rfl : (⟨#[]⟩ : ByteArray) = t := ba_x (by rw [← e1])
    subst e2
    exact rhostn A n cp ps w hr hn hm hs v 140 h1 (.inr rfl)
end Hx
end Go.Proofs.Ytfdhogaknlabkaa
