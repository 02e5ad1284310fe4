/-
  Texts of one seat, put together: LeaE.
-/
import Derived.Test.YtlhjcdkkmloamaaGreatDoorSp08
import Derived.Test.YtlhjcdkkmloamaaGreatDoorSp05
import Derived.Test.YtlhjcdkkmloamaaGreatDoorShelf
import Derived.Test.YtlhjcdkkmloamaaGreatDoorSp17
import Derived.Maps.AppendAt
set_option linter.unusedSimpArgs false
namespace Go.Proofs.YtlhjcdkkmloamaaGreatDoor
open Go.RowKit
namespace Hx
open Lx Tx Nmb Es
set_option maxRecDepth 100000
set_option maxHeartbeats 16000000
set_option linter.unusedVariables false
def Rd (b : Nat) (s : ByteArray) (w : World) : Prop := w.heap[b]? = some (.cells #[.string s] 81 (0, 0))
theorem Rd.lt {b : Nat} {s : ByteArray} {w : World} (h : Rd b s w) : b < w.heap.size := (Array.getElem?_eq_some_iff.1 h).1
theorem Rd.cell {b : Nat} {s : ByteArray} {w : World} (h : Rd b s w) : w.cell? ⟨b, 0, none⟩ = some (.string s) := by
  unfold Rd at h
  simp [World.cell?, h]
theorem Rd.free {b : Nat} {s : ByteArray} {w : World} (h : Rd b s w) : w.frozen? ⟨b, 0, none⟩ = false := by
  unfold Rd at h
  simp [World.frozen?, h]
theorem Rd.set {b : Nat} {s : ByteArray} {w : World} (h : Rd b s w) (t : ByteArray) : Rd b t (w.setCell ⟨b, 0, none⟩ (.string t)) := by
  unfold Rd at h ⊢
  simp [World.setCell, Array.getElem?_modify, h]
theorem Rd.grown {b : Nat} {s : ByteArray} {w w' : World} {row : Option Nat} (h : Rd b s w) (hg : w.grownBy w' row) (hne : some b ≠ row) : Rd b s w' := (hg.block b h.lt hne).trans h
theorem Rd.below {b : Nat} {s : ByteArray} {w w' : World} (h : Rd b s w) (hb : Below w.heap.size w w') : Rd b s w' := (hb.block b h.lt).trans h
theorem grown_below {w w' : World} (h : Below w.heap.size w w') (row : Option Nat) : w.grownBy w' row := ⟨h.os, h.tape, h.output, h.size, fun k hk _ => h.block k hk⟩
theorem grown_set (w : World) (b : Nat) (v : Value) : w.grownBy (w.setCell ⟨b, 0, none⟩ v) (some b) := ⟨rfl, rfl, rfl, by simp [World.setCell], fun k _ hne => Below.heap_setCell _ _ _ _ (fun e => hne (by rw [e]))⟩
theorem below_grown {w w' : World} {b n : Nat} (h : w.grownBy w' (some b)) (hn : n ≤ b) (hs : b < w.heap.size) : Below n w w' := ⟨h.os, h.tape, h.output, h.size, fun k hk => h.block k (by omega) (fun e => by injection e; omega)⟩
structure Went (b : Nat) (t : ByteArray) (w w' : World) : Prop where
  rd : Rd b t w'
  gr : w.grownBy w' (some b)
theorem Went.trans {b : Nat} {s t : ByteArray} {w w1 w2 : World} (h : Went b s w w1) (k : Went b t w1 w2) : Went b t w w2 := ⟨k.rd, h.gr.trans k.gr⟩
theorem Went.after {b : Nat} {t : ByteArray} {w w1 w2 : World} (h : Below w.heap.size w w1) (k : Went b t w1 w2) : Went b t w w2 := ⟨k.rd, (grown_below h _).trans k.gr⟩
theorem Went.then {b : Nat} {t : ByteArray} {w w1 w2 : World} (h : Went b t w w1) (k : Below w1.heap.size w1 w2) : Went b t w w2 := ⟨h.rd.below k, h.gr.trans (grown_below k _)⟩
theorem Went.refl {b : Nat} {t : ByteArray} {w : World} (h : Rd b t w) : Went b t w w := ⟨h, World.grownBy.refl _ _⟩
def Thrown (er : Int) : Ending := .panicked [{ v := .iface 25 (.int .i64 er), recovered := false }]
theorem take9 (b : Nat) (s t p : ByteArray) (is : Bool) (w : World) (h : Rd b s w) (h1 : Lib.hasPrefix s.data.toList p.data.toList = is) (h2 : Lib.trimPrefix s.data.toList p.data.toList = t.data.toList) :
    Calls Tryz.prog 69 #[.pointer (some ⟨b, 0, none⟩), .string p] w fun e w' => e = .returned (.bool is) ∧ Went b t w w' := by
  have HC : Hid (Calls Tryz.prog 84 #[.string s, .string p] w fun e w' => e = .returned (.tuple #[.string t, .bool is]) ∧ w = w') := Lib.hid ((Tryz.strings_CutPrefix s p w).mono fun e w' ⟨k1, k2⟩ => ⟨by rw [k1, h1, h2], k2.symm⟩)
  have hc := h.cell
  have hf := h.free
  have HR := Lib.hid h
  clear h h1 h2
  go_enter Tryz.func69, Tryz.ntmps69
  go_wp2_with (first
    | (go_at_call 84; (with_reducible refine (HC.out).mono ?_); rintro e1 w1 ⟨rfl, rfl⟩)
    | fail)
  go_ret
  exact ⟨rfl, HR.out.set _, grown_set _ _ _⟩
theorem ba_mk (l : List UInt8) : (⟨l.toArray⟩ : ByteArray).data.toList = l := by simp
theorem cut_parts (q : UInt8) (l : List UInt8) : (q ∉ l ∧ l.takeWhile (ne q) = l) ∨ ∃ y, l = l.takeWhile (ne q) ++ q :: y ∧ q ∉ l.takeWhile (ne q) := by
  obtain ⟨h1, h2, h3⟩ := tw_split (ne q) l
  have hn : q ∉ l.takeWhile (ne q) := fun hx => (ne_iff q q).1 (h2 _ hx) rfl
  cases hd : l.dropWhile (ne q) with
  | nil =>
    rw [hd, List.append_nil] at h1
    exact .inl ⟨by rw [h1]; exact hn, h1.symm⟩
  | cons d y =>
    have hdq : d = q := by have := h3 d y hd; unfold ne at this; simpa using this
    subst hdq
    rw [hd] at h1
    exact .inr ⟨y, h1, hn⟩
theorem clone9 (s : ByteArray) (w : World) (h0 : s.size ≤ 1000000) :
    Calls Tryz.prog 38 #[.string s] w fun e w' => e = .returned (.string s) ∧ Below w.heap.size w w' := by
  have H0 : Hid (s.size ≤ 281474976710656) := Lib.hid (by omega)
  clear h0
  go_enter Tryz.func38, Tryz.ntmps38
  go_wp2_with (go_at_call 53; (with_reducible refine (Tryz.stringslite_Clone s w H0.out).mono ?_); rintro e w1 ⟨rfl, hb1⟩)
  go_ret
  exact ⟨rfl, hb1⟩
theorem pre_yes (p t : List UInt8) : Lib.hasPrefix (p ++ t) p = true ∧ Lib.trimPrefix (p ++ t) p = t := by
  refine ⟨?_, ?_⟩
  · simp [Lib.hasPrefix]
  · simp [Lib.trimPrefix, Lib.hasPrefix]
theorem pre_no {l p : List UInt8} (h : ¬ p <+: l) : Lib.hasPrefix l p = false ∧ Lib.trimPrefix l p = l := by
  have h1 : Lib.hasPrefix l p = false := by
    cases hb : Lib.hasPrefix l p with
    | false => rfl
    | true => exact absurd (by simpa [Lib.hasPrefix] using hb) h
  exact ⟨h1, by simp [Lib.trimPrefix, h1]⟩
theorem take_yes (b : Nat) (s t p : ByteArray) (w : World) (h : Rd b s w) (h1 : s.data.toList = p.data.toList ++ t.data.toList) :
    Calls Tryz.prog 69 #[.pointer (some ⟨b, 0, none⟩), .string p] w fun e w' => e = .returned (.bool true) ∧ Went b t w w' :=
  take9 b s t p true w h (by rw [h1]; exact (pre_yes _ _).1) (by rw [h1]; exact (pre_yes _ _).2)
theorem take_no (b : Nat) (s p : ByteArray) (w : World) (h : Rd b s w) (h1 : ¬ p.data.toList <+: s.data.toList) :
    Calls Tryz.prog 69 #[.pointer (some ⟨b, 0, none⟩), .string p] w fun e w' => e = .returned (.bool false) ∧ Went b s w w' :=
  take9 b s s p false w h (pre_no h1).1 (pre_no h1).2
theorem must_yes (b : Nat) (s t p : ByteArray) (w : World) (h : Rd b s w) (h1 : s.data.toList = p.data.toList ++ t.data.toList) :
    Calls Tryz.prog 87 #[.pointer (some ⟨b, 0, none⟩), .string p] w fun e w' => e = .returned (.tuple #[]) ∧ Went b t w w' := by
  have HC := Lib.hid (take_yes b s t p w h h1)
  clear h h1
  go_enter Tryz.func87, Tryz.ntmps87
  go_wp2_with (first
    | (go_at_call 69; (with_reducible refine (HC.out).mono ?_); rintro e1 w1 ⟨rfl, hw1⟩)
    | fail)
  go_end0
  exact ⟨rfl, hw1⟩
theorem must_no (b : Nat) (s p : ByteArray) (w : World) (h : Rd b s w) (h1 : ¬ p.data.toList <+: s.data.toList) :
    Calls Tryz.prog 87 #[.pointer (some ⟨b, 0, none⟩), .string p] w fun e w' => e = Thrown 80 ∧ Went b s w w' := by
  have HC := Lib.hid (take_no b s p w h h1)
  unfold Thrown
  clear h h1
  go_enter Tryz.func87, Tryz.ntmps87
  go_wp2_with (first
    | (go_at_call 69; (with_reducible refine (HC.out).mono ?_); rintro e1 w1 ⟨rfl, hw1⟩)
    | fail)
  exact ⟨rfl, rfl, hw1⟩
theorem until_60 (b : Nat) (s t u : ByteArray) (w : World) (h : Rd b s w) (hm : s.size ≤ 1000000) (ht : t.data.toList = s.data.toList.takeWhile (ne 60)) (hu : u.data.toList = s.data.toList.dropWhile (ne 60)) :
    Calls Tryz.prog 73 #[.pointer (some ⟨b, 0, none⟩), .string ⟨#[60]⟩] w fun e w' => e = .returned (.string t) ∧ Went b u w w' := by
  obtain ⟨h1, h2, h3⟩ := tw_split (ne 60) s.data.toList
  have hc := h.cell
  have hf := h.free
  have HR := Lib.hid h
  have hl := congrArg List.length h1
  rw [List.length_append, ← ht, ← hu, ba_l, ba_l, ba_l] at hl
  have HC : Hid (∃ (r : ByteArray) (f : Bool), Calls Tryz.prog 33 #[.string s, .string ⟨#[60]⟩] w (XCutAt t r f w)) := Lib.hid (by
    rcases cut_parts 60 s.data.toList with ⟨k1, k2⟩ | ⟨y, k1, k2⟩
    · have e : t = s := ba_x (ht.trans k2)
      exact ⟨⟨#[]⟩, false, by rw [e]; exact xcut_60_none s w k1⟩
    · exact ⟨⟨y.toArray⟩, true, xcut_60_some s t ⟨y.toArray⟩ w hm (by rw [ht, ba_mk]; exact k1) (by rw [ht]; exact k2)⟩)
  obtain ⟨k, hk⟩ : ∃ k, t.size = k := ⟨_, rfl⟩
  have hex : s.extract k s.size = u := ba_x (by
    rw [extract_l s k s.size (Nat.le_refl _), hu, ← (tw_len (ne 60) s.data.toList).1, ← ht, ba_l, hk, List.take_of_length_le (by rw [List.length_drop, ba_l]; omega)])
  have bk : (0 : Int) ≤ (k : Int) ∧ (k : Int) ≤ (s.size : Int) := by omega
  obtain ⟨r, f, hcut⟩ := HC.out
  have HCUT := Lib.hid hcut
  clear h hm ht hu h1 h2 h3 hl hcut HC
  go_enter Tryz.func73, Tryz.ntmps73
  go_wp2_with (first
    | (go_at_call 33; (with_reducible refine (HCUT.out).mono ?_); rintro e1 w1 ⟨rfl, hb1⟩; have HR1 := Lib.hid (HR.out.below hb1); have hc1 := HR1.out.cell; have hf1 := HR1.out.free)
    | fail)
  go_ret
  exact ⟨rfl, Went.after hb1 ⟨HR1.out.set _, grown_set _ _ _⟩⟩
theorem until_34 (b : Nat) (s t u : ByteArray) (w : World) (h : Rd b s w) (hm : s.size ≤ 1000000) (ht : t.data.toList = s.data.toList.takeWhile (ne 34)) (hu : u.data.toList = s.data.toList.dropWhile (ne 34)) :
    Calls Tryz.prog 73 #[.pointer (some ⟨b, 0, none⟩), .string ⟨#[34]⟩] w fun e w' => e = .returned (.string t) ∧ Went b u w w' := by
  obtain ⟨h1, h2, h3⟩ := tw_split (ne 34) s.data.toList
  have hc := h.cell
  have hf := h.free
  have HR := Lib.hid h
  have hl := congrArg List.length h1
  rw [List.length_append, ← ht, ← hu, ba_l, ba_l, ba_l] at hl
  have HC : Hid (∃ (r : ByteArray) (f : Bool), Calls Tryz.prog 33 #[.string s, .string ⟨#[34]⟩] w (XCutAt t r f w)) := Lib.hid (by
    rcases cut_parts 34 s.data.toList with ⟨k1, k2⟩ | ⟨y, k1, k2⟩
    · have e : t = s := ba_x (ht.trans k2)
      exact ⟨⟨#[]⟩, false, by rw [e]; exact xcut_34_none s w k1⟩
    · exact ⟨⟨y.toArray⟩, true, xcut_34_some s t ⟨y.toArray⟩ w hm (by rw [ht, ba_mk]; exact k1) (by rw [ht]; exact k2)⟩)
  obtain ⟨k, hk⟩ : ∃ k, t.size = k := ⟨_, rfl⟩
  have hex : s.extract k s.size = u := ba_x (by
    rw [extract_l s k s.size (Nat.le_refl _), hu, ← (tw_len (ne 34) s.data.toList).1, ← ht, ba_l, hk, List.take_of_length_le (by rw [List.length_drop, ba_l]; omega)])
  have bk : (0 : Int) ≤ (k : Int) ∧ (k : Int) ≤ (s.size : Int) := by omega
  obtain ⟨r, f, hcut⟩ := HC.out
  have HCUT := Lib.hid hcut
  clear h hm ht hu h1 h2 h3 hl hcut HC
  go_enter Tryz.func73, Tryz.ntmps73
  go_wp2_with (first
    | (go_at_call 33; (with_reducible refine (HCUT.out).mono ?_); rintro e1 w1 ⟨rfl, hb1⟩; have HR1 := Lib.hid (HR.out.below hb1); have hc1 := HR1.out.cell; have hf1 := HR1.out.free)
    | fail)
  go_ret
  exact ⟨rfl, Went.after hb1 ⟨HR1.out.set _, grown_set _ _ _⟩⟩
theorem until_39 (b : Nat) (s t u : ByteArray) (w : World) (h : Rd b s w) (hm : s.size ≤ 1000000) (ht : t.data.toList = s.data.toList.takeWhile (ne 39)) (hu : u.data.toList = s.data.toList.dropWhile (ne 39)) :
    Calls Tryz.prog 73 #[.pointer (some ⟨b, 0, none⟩), .string ⟨#[39]⟩] w fun e w' => e = .returned (.string t) ∧ Went b u w w' := by
  obtain ⟨h1, h2, h3⟩ := tw_split (ne 39) s.data.toList
  have hc := h.cell
  have hf := h.free
  have HR := Lib.hid h
  have hl := congrArg List.length h1
  rw [List.length_append, ← ht, ← hu, ba_l, ba_l, ba_l] at hl
  have HC : Hid (∃ (r : ByteArray) (f : Bool), Calls Tryz.prog 33 #[.string s, .string ⟨#[39]⟩] w (XCutAt t r f w)) := Lib.hid (by
    rcases cut_parts 39 s.data.toList with ⟨k1, k2⟩ | ⟨y, k1, k2⟩
    · have e : t = s := ba_x (ht.trans k2)
      exact ⟨⟨#[]⟩, false, by rw [e]; exact xcut_39_none s w k1⟩
    · exact ⟨⟨y.toArray⟩, true, xcut_39_some s t ⟨y.toArray⟩ w hm (by rw [ht, ba_mk]; exact k1) (by rw [ht]; exact k2)⟩)
  obtain ⟨k, hk⟩ : ∃ k, t.size = k := ⟨_, rfl⟩
  have hex : s.extract k s.size = u := ba_x (by
    rw [extract_l s k s.size (Nat.le_refl _), hu, ← (tw_len (ne 39) s.data.toList).1, ← ht, ba_l, hk, List.take_of_length_le (by rw [List.length_drop, ba_l]; omega)])
  have bk : (0 : Int) ≤ (k : Int) ∧ (k : Int) ≤ (s.size : Int) := by omega
  obtain ⟨r, f, hcut⟩ := HC.out
  have HCUT := Lib.hid hcut
  clear h hm ht hu h1 h2 h3 hl hcut HC
  go_enter Tryz.func73, Tryz.ntmps73
  go_wp2_with (first
    | (go_at_call 33; (with_reducible refine (HCUT.out).mono ?_); rintro e1 w1 ⟨rfl, hb1⟩; have HR1 := Lib.hid (HR.out.below hb1); have hc1 := HR1.out.cell; have hf1 := HR1.out.free)
    | fail)
  go_ret
  exact ⟨rfl, Went.after hb1 ⟨HR1.out.set _, grown_set _ _ _⟩⟩
theorem tw_at (p : UInt8 → Bool) : ∀ {l : List UInt8} {k : Nat}, k ≤ l.length → (∀ c ∈ l.take k, p c = true) → (∀ h : k < l.length, p (l[k]'h) = false) → l.takeWhile p = l.take k ∧ l.dropWhile p = l.drop k := by
  intro l k hk h1 h2
  have := tw_app (p := p) (a := l.take k) (b := l.drop k) h1 (fun c r e => by
    have hlt : k < l.length := by
      rcases Nat.lt_or_ge k l.length with h | h
      · exact h
      · rw [List.drop_of_length_le h] at e; cases e
    rw [List.drop_eq_getElem_cons hlt] at e
    injection e with e _
    rw [← e]
    exact h2 hlt)
  rwa [List.take_append_drop] at this
theorem all_step9 (p : UInt8 → Bool) {l : List UInt8} {k : Nat} (hk : k < l.length) (h : ∀ c ∈ l.take k, p c = true) (h1 : p (l[k]'hk) = true) : ∀ c ∈ l.take (k + 1), p c = true := by
  intro c hc
  rw [List.take_succ_eq_append_getElem hk, List.mem_append, List.mem_singleton] at hc
  rcases hc with hc | rfl
  · exact h c hc
  · exact h1
theorem word1 (c : UInt8) (w : World) (q : Bool) (h : wch c = q) :
    Calls Tryz.prog 99 #[.int .u8 c.toNat] w fun e w' => e = .returned (.bool q) ∧ w = w' := by
  unfold wch at h
  by_cases h58 : c = 58
  · subst h58
    obtain rfl : true = q := by rw [← h]; decide
    clear h
    go_enter Tryz.func99, Tryz.ntmps99
    go_wp2_with fail
    go_ret
    exact ⟨rfl, rfl⟩
  · have h2 : nch c = q := by rw [← h, (by simpa using h58 : (c == 58) = false), Bool.or_false]
    have HN := Lib.hid h2
    have g58 : ((c.toNat : Int) == 58) = false := by
      have : c.toNat ≠ 58 := fun e => h58 (UInt8.toNat_inj.1 e)
      simp; omega
    clear h h2 h58
    cases q with
    | false =>
      go_enter Tryz.func99, Tryz.ntmps99
      go_wp2_with (first
        | (go_at_call 11; (with_reducible refine (goesOn9 c _ false HN.out).mono ?_); rintro e1 w1 ⟨rfl, rfl⟩)
        | fail)
      go_ret
      exact ⟨rfl, rfl⟩
    | true =>
      go_enter Tryz.func99, Tryz.ntmps99
      go_wp2_with (first
        | (go_at_call 11; (with_reducible refine (goesOn9 c _ true HN.out).mono ?_); rintro e1 w1 ⟨rfl, rfl⟩)
        | fail)
      go_ret
      exact ⟨rfl, rfl⟩
theorem blk_index (c : UInt8) : ∃ j : Int, Lib.indexByte [32, 9, 10, 13] c = j ∧ decide ((0 : Int) ≤ j) = blk c := by
  refine ⟨_, rfl, ?_⟩
  rcases xix_cases [32, 9, 10, 13] c with ⟨h1, h2⟩ | ⟨i, h1, _, h2, _⟩
  · rw [h1]
    simp only [List.mem_cons, List.not_mem_nil, or_false, not_or] at h2
    unfold blk
    simp [h2.1, h2.2.1, h2.2.2.1, h2.2.2.2]
  · rw [h1]
    have hm : c ∈ ([32, 9, 10, 13] : List UInt8) := by rw [h2]; simp
    simp only [List.mem_cons, List.not_mem_nil, or_false] at hm
    have : blk c = true := by rcases hm with rfl | rfl | rfl | rfl <;> decide
    rw [this]
    exact decide_eq_true (by omega)
theorem blank1 (c : UInt8) (w : World) (q : Bool) (h : blk c = q) :
    Calls Tryz.prog 100 #[.int .u8 c.toNat] w fun e w' => e = .returned (.bool q) ∧ w = w' := by
  obtain ⟨j, hj, hd⟩ := blk_index c
  rw [h] at hd
  have HC : Hid (Calls Tryz.prog 80 #[.string ⟨#[32, 9, 10, 13]⟩, .int .u8 c.toNat] w fun e w' => e = .returned (.int .i64 j) ∧ w = w') := Lib.hid ((Tryz.stringslite_IndexByte ⟨#[32, 9, 10, 13]⟩ _ w).mono fun e w' ⟨k1, k2⟩ => ⟨by rw [k1, ← hj]; simp, k2.symm⟩)
  clear h hj
  go_enter Tryz.func100, Tryz.ntmps100
  go_wp2_with (first
    | (go_at_call 80; (with_reducible refine (HC.out).mono ?_); rintro e1 w1 ⟨rfl, rfl⟩)
    | go_in)
  go_ret
  first
    | exact ⟨rfl, rfl⟩
    | exact ⟨ret_b hd, rfl⟩
theorem while_word (b : Nat) (s t u : ByteArray) (w : World) (h : Rd b s w) (hm : s.size ≤ 1000000) (ht : t.data.toList = s.data.toList.takeWhile wch) (hu : u.data.toList = s.data.toList.dropWhile wch) :
    Calls Tryz.prog 98 #[.pointer (some ⟨b, 0, none⟩), .func (.func 99) #[] #[]] w fun e w' => e = .returned (.string t) ∧ Went b u w w' := by
  have hc := h.cell
  have hf := h.free
  have HR := Lib.hid h
  have HM := Lib.hid hm
  have HEND : Hid (∀ k, k ≤ s.size → (∀ c ∈ s.data.toList.take k, wch c = true) → (∀ h : k < s.data.toList.length, wch (s.data.toList[k]'h) = false) → s.extract 0 k = t ∧ s.extract k s.size = u) := Lib.hid fun k hk h1 h2 => by
    obtain ⟨e1, e2⟩ := tw_at wch (by rw [ba_l]; exact hk) h1 h2
    refine ⟨ba_x ?_, ba_x ?_⟩
    · rw [extract_l s 0 k hk, ht, e1, List.drop_zero, Nat.sub_zero]
    · rw [extract_l s k s.size (Nat.le_refl _), hu, e2, List.take_of_length_le (by rw [List.length_drop, ba_l]; omega)]
  clear h ht hu hm
  go_enter Tryz.func98, Tryz.ntmps98
  go_wp2_with fail
  go_loopw [5] (fun i wr => ∃ k : Nat, k ≤ s.size ∧ i = .int .i64 k ∧ (∀ c ∈ s.data.toList.take k, wch c = true) ∧ w = wr) (fun i _ => s.size - (intOf i).toNat)
  case atStart => exact ⟨0, Nat.zero_le _, rfl, by simp, by first | rfl | trivial⟩
  case round =>
    obtain ⟨k, hk, rfl, hn, rfl⟩ := hrel
    have hs := HM.out
    by_cases hlt : k < s.size
    · obtain ⟨d, hd⟩ : ∃ d, s[k]'hlt = d := ⟨_, rfl⟩
      have hda : ∀ h, s[k]'h = d := fun _ => hd
      have hkl : k < s.data.toList.length := by rw [ba_l]; exact hlt
      have hdk : s.data.toList[k]'hkl = d := (at_l s k hlt).trans hd
      have bk : (0 : Int) ≤ (k : Int) ∧ (k : Int) < (s.size : Int) := by omega
      have bk2 : (0 : Int) ≤ (k : Int) ∧ (k : Int) ≤ (s.size : Int) := by omega
      cases hg : wch d with
      | false =>
        have HD := Lib.hid hg
        obtain ⟨e1, e2⟩ := HEND.out k hk hn (fun _ => by rw [hdk]; exact hg)
        clear hg hd hdk hn
        go_wp2_with (first
          | (go_at_call 99; (with_reducible refine (word1 d _ false HD.out).mono ?_); rintro e1 w1 ⟨rfl, rfl⟩)
          | fail)
        go_ret
        exact ⟨rfl, HR.out.set _, grown_set _ _ _⟩
      | true =>
        have HD := Lib.hid hg
        have HV := Lib.hid (all_step9 wch hkl hn (by rw [hdk]; exact hg))
        clear hg hd hdk hn
        go_wp2_with (first
          | (go_at_call 99; (with_reducible refine (word1 d _ true HD.out).mono ?_); rintro e1 w1 ⟨rfl, rfl⟩)
          | fail)
        go_roundw
        case rel => exact ⟨k + 1, hlt, by go_num, HV.out, by first | rfl | trivial⟩
        case measure => simp [intOf]; omega
    · obtain rfl : k = s.size := by omega
      obtain ⟨e1, e2⟩ := HEND.out s.size (Nat.le_refl _) hn (fun h => by rw [ba_l] at h; omega)
      obtain rfl : s = t := by rw [← e1]; exact (ba_x (by rw [extract_l s 0 s.size (Nat.le_refl _), List.drop_zero, Nat.sub_zero, List.take_of_length_le (by rw [ba_l]; exact Nat.le_refl _)])).symm
      obtain rfl : ByteArray.empty = u := by rw [← e2]; exact (ba_x (by rw [extract_l s s.size s.size (Nat.le_refl _), List.drop_of_length_le (by rw [ba_l]; exact Nat.le_refl _), List.take_nil]; rfl)).symm
      clear e1 e2
      have bk2 : (0 : Int) ≤ (s.size : Int) ∧ (s.size : Int) ≤ (s.size : Int) := by omega
      clear hn
      go_wp2_with fail
      go_ret
      exact ⟨rfl, HR.out.set _, grown_set _ _ _⟩
theorem while_blank (b : Nat) (s t u : ByteArray) (w : World) (h : Rd b s w) (hm : s.size ≤ 1000000) (ht : t.data.toList = s.data.toList.takeWhile blk) (hu : u.data.toList = s.data.toList.dropWhile blk) :
    Calls Tryz.prog 98 #[.pointer (some ⟨b, 0, none⟩), .func (.func 100) #[] #[]] w fun e w' => e = .returned (.string t) ∧ Went b u w w' := by
  have hc := h.cell
  have hf := h.free
  have HR := Lib.hid h
  have HM := Lib.hid hm
  have HEND : Hid (∀ k, k ≤ s.size → (∀ c ∈ s.data.toList.take k, blk c = true) → (∀ h : k < s.data.toList.length, blk (s.data.toList[k]'h) = false) → s.extract 0 k = t ∧ s.extract k s.size = u) := Lib.hid fun k hk h1 h2 => by
    obtain ⟨e1, e2⟩ := tw_at blk (by rw [ba_l]; exact hk) h1 h2
    refine ⟨ba_x ?_, ba_x ?_⟩
    · rw [extract_l s 0 k hk, ht, e1, List.drop_zero, Nat.sub_zero]
    · rw [extract_l s k s.size (Nat.le_refl _), hu, e2, List.take_of_length_le (by rw [List.length_drop, ba_l]; omega)]
  clear h ht hu hm
  go_enter Tryz.func98, Tryz.ntmps98
  go_wp2_with fail
  go_loopw [5] (fun i wr => ∃ k : Nat, k ≤ s.size ∧ i = .int .i64 k ∧ (∀ c ∈ s.data.toList.take k, blk c = true) ∧ w = wr) (fun i _ => s.size - (intOf i).toNat)
  case atStart => exact ⟨0, Nat.zero_le _, rfl, by simp, by first | rfl | trivial⟩
  case round =>
    obtain ⟨k, hk, rfl, hn, rfl⟩ := hrel
    have hs := HM.out
    by_cases hlt : k < s.size
    · obtain ⟨d, hd⟩ : ∃ d, s[k]'hlt = d := ⟨_, rfl⟩
      have hda : ∀ h, s[k]'h = d := fun _ => hd
      have hkl : k < s.data.toList.length := by rw [ba_l]; exact hlt
      have hdk : s.data.toList[k]'hkl = d := (at_l s k hlt).trans hd
      have bk : (0 : Int) ≤ (k : Int) ∧ (k : Int) < (s.size : Int) := by omega
      have bk2 : (0 : Int) ≤ (k : Int) ∧ (k : Int) ≤ (s.size : Int) := by omega
      cases hg : blk d with
      | false =>
        have HD := Lib.hid hg
        obtain ⟨e1, e2⟩ := HEND.out k hk hn (fun _ => by rw [hdk]; exact hg)
        clear hg hd hdk hn
        go_wp2_with (first
          | (go_at_call 100; (with_reducible refine (blank1 d _ false HD.out).mono ?_); rintro e1 w1 ⟨rfl, rfl⟩)
          | fail)
        go_ret
        exact ⟨rfl, HR.out.set _, grown_set _ _ _⟩
      | true =>
        have HD := Lib.hid hg
        have HV := Lib.hid (all_step9 blk hkl hn (by rw [hdk]; exact hg))
        clear hg hd hdk hn
        go_wp2_with (first
          | (go_at_call 100; (with_reducible refine (blank1 d _ true HD.out).mono ?_); rintro e1 w1 ⟨rfl, rfl⟩)
          | fail)
        go_roundw
        case rel => exact ⟨k + 1, hlt, by go_num, HV.out, by first | rfl | trivial⟩
        case measure => simp [intOf]; omega
    · obtain rfl : k = s.size := by omega
      obtain ⟨e1, e2⟩ := HEND.out s.size (Nat.le_refl _) hn (fun h => by rw [ba_l] at h; omega)
      obtain rfl : s = t := by rw [← e1]; exact (ba_x (by rw [extract_l s 0 s.size (Nat.le_refl _), List.drop_zero, Nat.sub_zero, List.take_of_length_le (by rw [ba_l]; exact Nat.le_refl _)])).symm
      obtain rfl : ByteArray.empty = u := by rw [← e2]; exact (ba_x (by rw [extract_l s s.size s.size (Nat.le_refl _), List.drop_of_length_le (by rw [ba_l]; exact Nat.le_refl _), List.take_nil]; rfl)).symm
      clear e1 e2
      have bk2 : (0 : Int) ≤ (s.size : Int) ∧ (s.size : Int) ≤ (s.size : Int) := by omega
      clear hn
      go_wp2_with fail
      go_ret
      exact ⟨rfl, HR.out.set _, grown_set _ _ _⟩
theorem blank9 (b : Nat) (s u : ByteArray) (q : Bool) (w : World) (h : Rd b s w) (hm : s.size ≤ 1000000) (hu : u.data.toList = s.data.toList.dropWhile blk) (hq : decide (s.size ≠ u.size) = q) :
    Calls Tryz.prog 86 #[.pointer (some ⟨b, 0, none⟩)] w fun e w' => e = .returned (.bool q) ∧ Went b u w w' := by
  obtain ⟨t, ht⟩ : ∃ t : ByteArray, t.data.toList = s.data.toList.takeWhile blk := ⟨⟨(s.data.toList.takeWhile blk).toArray⟩, by simp⟩
  have HC := Lib.hid (while_blank b s t u w h hm ht hu)
  have hl := congrArg List.length (tw_split blk s.data.toList).1
  rw [List.length_append, ← ht, ← hu, ba_l, ba_l, ba_l] at hl
  have hem : t.toList.isEmpty = !q := by
    rw [empty_l, ← hq]
    by_cases h0 : t.size = 0
    · rw [decide_eq_true h0, decide_eq_false (by omega)]; rfl
    · rw [decide_eq_false h0, decide_eq_true (by omega)]; rfl
  clear h hm hu hq ht hl
  cases q with
  | false =>
    go_enter Tryz.func86, Tryz.ntmps86
    go_wp2_with (first
      | (go_at_call 98; (with_reducible refine (HC.out).mono ?_); rintro e1 w1 ⟨rfl, hw1⟩)
      | fail)
    go_ret
    exact ⟨rfl, hw1⟩
  | true =>
    go_enter Tryz.func86, Tryz.ntmps86
    go_wp2_with (first
      | (go_at_call 98; (with_reducible refine (HC.out).mono ?_); rintro e1 w1 ⟨rfl, hw1⟩)
      | fail)
    go_ret
    exact ⟨rfl, hw1⟩
theorem blank9_ (b : Nat) (s u : ByteArray) (w : World) (h : Rd b s w) (hm : s.size ≤ 1000000) (hu : u.data.toList = s.data.toList.dropWhile blk) :
    Calls Tryz.prog 86 #[.pointer (some ⟨b, 0, none⟩)] w fun e w' => (∃ q, e = .returned (.bool q)) ∧ Went b u w w' :=
  (blank9 b s u _ w h hm hu rfl).mono fun e w' h => ⟨⟨_, h.1⟩, h.2⟩
theorem full_yes (b : Nat) (s t u : ByteArray) (w : World) (h : Rd b s w) (hm : s.size ≤ 1000000) (ht : t.data.toList = s.data.toList.takeWhile wch) (hu : u.data.toList = s.data.toList.dropWhile wch) (hf : fullL t.data.toList = true) :
    Calls Tryz.prog 85 #[.pointer (some ⟨b, 0, none⟩)] w fun e w' => e = .returned (.string t) ∧ Went b u w w' := by
  have HC := Lib.hid (while_word b s t u w h hm ht hu)
  have hl := congrArg List.length (tw_split wch s.data.toList).1
  rw [List.length_append, ← ht, ← hu, ba_l, ba_l, ba_l] at hl
  have HT : Hid (t.size ≤ 1000000) := Lib.hid (by omega)
  have HF := Lib.hid hf
  clear h hm hu ht hl hf
  go_enter Tryz.func85, Tryz.ntmps85
  go_wp2_with (first
    | (go_at_call 98; (with_reducible refine (HC.out).mono ?_); rintro e1 w1 ⟨rfl, hw1⟩; have HW1 := Lib.hid hw1; clear hw1)
    | (go_at_call 65; (with_reducible refine (full9q t _ HT.out true HF.out).mono ?_); rintro e2 w2 ⟨rfl, hb2⟩; have HW2 := Lib.hid (HW1.out.then hb2); clear hb2)
    | (go_at_call 38; (with_reducible refine (clone9 t _ HT.out).mono ?_); rintro e3 w3 ⟨rfl, hb3⟩)
    | fail)
  go_ret
  exact ⟨rfl, HW2.out.then hb3⟩
theorem full_no (b : Nat) (s : ByteArray) (w : World) (h : Rd b s w) (hm : s.size ≤ 1000000) (hf : fullL (s.data.toList.takeWhile wch) = false) :
    Calls Tryz.prog 85 #[.pointer (some ⟨b, 0, none⟩)] w fun e w' => e = Thrown 80 ∧ ∃ u, Went b u w w' := by
  obtain ⟨t, ht⟩ : ∃ t : ByteArray, t.data.toList = s.data.toList.takeWhile wch := ⟨⟨(s.data.toList.takeWhile wch).toArray⟩, by simp⟩
  obtain ⟨u, hu⟩ : ∃ u : ByteArray, u.data.toList = s.data.toList.dropWhile wch := ⟨⟨(s.data.toList.dropWhile wch).toArray⟩, by simp⟩
  rw [← ht] at hf
  have HC := Lib.hid (while_word b s t u w h hm ht hu)
  have hl := congrArg List.length (tw_split wch s.data.toList).1
  rw [List.length_append, ← ht, ← hu, ba_l, ba_l, ba_l] at hl
  have HT : Hid (t.size ≤ 1000000) := Lib.hid (by omega)
  have HF := Lib.hid hf
  unfold Thrown
  clear h hm hu ht hl hf
  go_enter Tryz.func85, Tryz.ntmps85
  go_wp2_with (first
    | (go_at_call 98; (with_reducible refine (HC.out).mono ?_); rintro e1 w1 ⟨rfl, hw1⟩; have HW1 := Lib.hid hw1; clear hw1)
    | (go_at_call 65; (with_reducible refine (full9q t _ HT.out false HF.out).mono ?_); rintro e2 w2 ⟨rfl, hb2⟩; have HW2 := Lib.hid (HW1.out.then hb2); clear hb2)
    | fail)
  exact ⟨rfl, rfl, _, HW2.out⟩
theorem getR_told {s t : ByteArray} (hp : isP s.data.toList = true) (hs : s.size ≤ 16384) (h : rd s.data.toList = some t.data.toList) : getR s = (t, 0) := by
  unfold getR
  rw [if_neg (by unfold chkE; rw [if_neg (by omega), if_pos (show (pts s.data.toList).isSome = true from hp)]; decide), h]
theorem getR_none9 {s : ByteArray} (hp : isP s.data.toList = true) (hs : s.size ≤ 16384) (h : rd s.data.toList = none) : getR s = (⟨#[]⟩, 80) := by
  unfold getR
  rw [if_neg (by unfold chkE; rw [if_neg (by omega), if_pos (show (pts s.data.toList).isSome = true from hp)]; decide), h]
theorem plain_yes (s t : ByteArray) (w : World) (hp : isP s.data.toList = true) (hs : s.size ≤ 16384) (h : rd s.data.toList = some t.data.toList) (hE : Ev w) :
    Calls Tryz.prog 72 #[.string s] w fun e w' => e = .returned (.string t) ∧ Below w.heap.size w w' := by
  have HC := Lib.hid (get8 s t 0 w (by omega) (getR_told hp hs h) hE)
  clear hp hs h hE
  go_enter Tryz.func72, Tryz.ntmps72
  go_wp2_with (first
    | (go_at_call 90; (with_reducible refine (HC.out).mono ?_); rintro e1 w1 ⟨rfl, hb1⟩)
    | fail)
  go_ret
  exact ⟨rfl, hb1⟩
theorem plain_no (s : ByteArray) (w : World) (hp : isP s.data.toList = true) (hs : s.size ≤ 16384) (h : rd s.data.toList = none) (hE : Ev w) :
    Calls Tryz.prog 72 #[.string s] w fun e w' => e = Thrown 80 ∧ Below w.heap.size w w' := by
  have HC := Lib.hid (get8 s ⟨#[]⟩ 80 w (by omega) (getR_none9 hp hs h) hE)
  unfold Thrown
  clear hp hs h hE
  go_enter Tryz.func72, Tryz.ntmps72
  go_wp2_with (first
    | (go_at_call 90; (with_reducible refine (HC.out).mono ?_); rintro e1 w1 ⟨rfl, hb1⟩)
    | fail)
  exact ⟨rfl, rfl, hb1⟩
end Hx
end Go.Proofs.YtlhjcdkkmloamaaGreatDoor
