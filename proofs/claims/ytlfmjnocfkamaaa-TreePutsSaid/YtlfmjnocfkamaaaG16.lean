/-
  Texts of one seat, put together: LeaE.
-/
import Derived.Test.YtlfmjnocfkamaaaG05
import Derived.Test.YtlfmjnocfkamaaaG09
import Derived.Test.YtlfmjnocfkamaaaShelf
import Derived.Test.YtlfmjnocfkamaaaG15
import Derived.Maps.AppendAt
namespace Go.Proofs.Ytlfmjnocfkamaaa
open Go.RowKit
namespace Hx
open Lx Tx Nmb Es
set_option linter.unusedVariables false
theorem grown_below {w w' : World} (h : Below w.heap.size w w') (row : Option Nat) : w.grownBy w' row := ⟨h.os, h.tape, h.output, h.size, fun k hk _ => h.block k hk⟩
theorem grown_set (w : World) (b : Nat) (v : Value) : w.grownBy (w.setCell ⟨b, 0, none⟩ v) (some b) := ⟨rfl, rfl, rfl, by simp [World.setCell], fun k _ hne => Below.heap_setCell _ _ _ _ (fun e => hne (by rw [e]))⟩
theorem below_grown {w w' : World} {b n : Nat} (h : w.grownBy w' (some b)) (hn : n ≤ b) (hs : b < w.heap.size) : Below n w w' := ⟨h.os, h.tape, h.output, h.size, fun k hk => h.block k (by omega) (fun e => by injection e; omega)⟩
/-- A panic with an error. -/
def Thrown (er : Int) : Ending := .panicked [{ v := .iface 26 (.int .i64 er), recovered := false }]
theorem ba_mk (l : List UInt8) : (⟨l.toArray⟩ : ByteArray).data.toList = l := by simp
theorem cut_parts (q : UInt8) (l : List UInt8) : (q ∉ l ∧ l.takeWhile (ne q) = l) ∨ ∃ y, l = l.takeWhile (ne q) ++ q :: y ∧ q ∉ l.takeWhile (ne q) := by
  obtain ⟨h1, h2, h3⟩ := tw_split (ne q) l
  have hn : q ∉ l.takeWhile (ne q) := fun hx => (ne_iff q q).1 (h2 _ hx) rfl
  cases hd : l.dropWhile (ne q) with
  | nil =>
    rw [hd, List.append_nil] at h1
    exact .inl ⟨by rw [h1]; exact hn, h1.symm⟩
  | cons d y =>
    have hdq : d = q := by have := h3 d y hd; unfold ne at this; simpa using this
    subst hdq
    rw [hd] at h1
    exact .inr ⟨y, h1, hn⟩
set_option maxRecDepth 100000 in
/-- strings.Clone. -/
theorem clone9 (s : ByteArray) (w : World) (h0 : s.size ≤ 1000000) :
    Calls Try.prog 27 #[.string s] w fun e w' => e = .returned (.string s) ∧ Below w.heap.size w w' := by
  have H0 : Hid (s.size ≤ 281474976710656) := Lib.hid (by omega)
  clear h0
  go_enter Try.func27, Try.ntmps27
  go_wp2_with (go_at_call 52; (with_reducible refine (Try.stringslite_Clone s w H0.out).mono ?_); rintro e w1 ⟨rfl, hb1⟩)
  go_ret
  exact ⟨rfl, hb1⟩
theorem pre_yes (p t : List UInt8) : Lib.hasPrefix (p ++ t) p = true ∧ Lib.trimPrefix (p ++ t) p = t := by
  refine ⟨?_, ?_⟩
  · simp [Lib.hasPrefix]
  · simp [Lib.trimPrefix, Lib.hasPrefix]
theorem pre_no {l p : List UInt8} (h : ¬ p <+: l) : Lib.hasPrefix l p = false ∧ Lib.trimPrefix l p = l := by
  have h1 : Lib.hasPrefix l p = false := by
    cases hb : Lib.hasPrefix l p with
    | false => rfl
    | true => exact absurd (by simpa [Lib.hasPrefix] using hb) h
  exact ⟨h1, by simp [Lib.trimPrefix, h1]⟩
theorem tw_at (p : UInt8 → Bool) : ∀ {l : List UInt8} {k : Nat}, k ≤ l.length → (∀ c ∈ l.take k, p c = true) → (∀ h : k < l.length, p (l[k]'h) = false) → l.takeWhile p = l.take k ∧ l.dropWhile p = l.drop k := by
  intro l k hk h1 h2
  have := tw_app (p := p) (a := l.take k) (b := l.drop k) h1 (fun c r e => by
    have hlt : k < l.length := by
      rcases Nat.lt_or_ge k l.length with h | h
      · exact h
      · rw [List.drop_of_length_le h] at e; cases e
    rw [List.drop_eq_getElem_cons hlt] at e
    injection e with e _
    rw [← e]
    exact h2 hlt)
  rwa [List.take_append_drop] at this
theorem all_step9 (p : UInt8 → Bool) {l : List UInt8} {k : Nat} (hk : k < l.length) (h : ∀ c ∈ l.take k, p c = true) (h1 : p (l[k]'hk) = true) : ∀ c ∈ l.take (k + 1), p c = true := by
  intro c hc
  rw [List.take_succ_eq_append_getElem hk, List.mem_append, List.mem_singleton] at hc
  rcases hc with hc | rfl
  · exact h c hc
  · exact h1
theorem blk_index (c : UInt8) : ∃ j : Int, Lib.indexByte [32, 9, 10, 13] c = j ∧ decide ((0 : Int) ≤ j) = blk c := by
  refine ⟨_, rfl, ?_⟩
  rcases xix_cases [32, 9, 10, 13] c with ⟨h1, h2⟩ | ⟨i, h1, _, h2, _⟩
  · rw [h1]
    simp only [List.mem_cons, List.not_mem_nil, or_false, not_or] at h2
    unfold blk
    simp [h2.1, h2.2.1, h2.2.2.1, h2.2.2.2]
  · rw [h1]
    have hm : c ∈ ([32, 9, 10, 13] : List UInt8) := by rw [h2]; simp
    simp only [List.mem_cons, List.not_mem_nil, or_false] at hm
    have : blk c = true := by rcases hm with rfl | rfl | rfl | rfl <;> decide
    rw [this]
    exact decide_eq_true (by omega)
theorem getR_told {s t : ByteArray} (hp : isP s.data.toList = true) (hs : s.size ≤ 16384) (h : rd s.data.toList = some t.data.toList) : getR s = (t, 0) := by
  unfold getR
  rw [if_neg (by unfold chkE; rw [if_neg (by omega), if_pos (show (pts s.data.toList).isSome = true from hp)]; decide), h]
theorem getR_none9 {s : ByteArray} (hp : isP s.data.toList = true) (hs : s.size ≤ 16384) (h : rd s.data.toList = none) : getR s = (⟨#[]⟩, 80) := by
  unfold getR
  rw [if_neg (by unfold chkE; rw [if_neg (by omega), if_pos (show (pts s.data.toList).isSome = true from hp)]; decide), h]
end Hx
end Go.Proofs.Ytlfmjnocfkamaaa
