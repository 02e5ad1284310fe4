/-
  Texts of one seat, put together: LeaM, LeaN, LeaO, LexB.
-/
import Derived.Test.YtlfmjnocfkamaaaG20
import Derived.Test.YtlfmjnocfkamaaaG10
import Derived.Test.YtlfmjnocfkamaaaG15
import Derived.Test.YtlfmjnocfkamaaaG09
import Derived.Deep.LoopGhost
import Derived.Test.YtlfmjnocfkamaaaG19
namespace Go.Proofs.Ytlfmjnocfkamaaa
open Go.RowKit
namespace Hx
open Lx Tx Nmb Es
set_option linter.unusedVariables false
end Hx
end Go.Proofs.Ytlfmjnocfkamaaa
namespace Go.Proofs.Ytlfmjnocfkamaaa
open Go.RowKit
namespace Hx
open Lx Tx Nmb Es
set_option linter.unusedVariables false
/-- Is what an attribute's value is written as short enough? A token's texts? -/
def fitP (p : Pr) : Bool := decide ((escL true p.value).length ≤ 16384)
def fitT (t : Tk) : Bool := if t.kind = 4 then decide ((escL false t.text).length ≤ 16384) else t.attrs.all fitP
theorem putR_ok {y : ByteArray} {q : Bool} (h : okT y.data.toList = true) : putR y q = if (escL q y.data.toList).length ≤ 16384 then (escS q y, 0) else (⟨#[]⟩, 4) := by
  unfold putR
  rw [if_neg (by rw [chk9_ok h]; decide)]
  have e : (escS q y).size = (escL q y.data.toList).length := by rw [← ba_l]; rfl
  rw [e]
  by_cases h2 : (escL q y.data.toList).length ≤ 16384
  · rw [if_neg (by omega), if_pos h2]
  · rw [if_pos (by omega), if_neg h2]
theorem escS_l (q : Bool) (y : ByteArray) : (escS q y).data.toList = escL q y.data.toList := rfl
/-- What may be known of a token that is to be written. -/
structure PutAt (t : Tk) (x u : ByteArray) (A : Option Addr) (cp : Nat) (B : Nat) (w : World) : Prop where
  name : x.data.toList = t.name
  text : u.data.toList = t.text
  attrs : RdC PrC w B A t.attrs
  le : t.attrs.length ≤ cp
  ns : x.size ≤ 1000000
  us : u.size ≤ 1000000
  sz : ∀ p ∈ t.attrs, p.name.length ≤ 1000000 ∧ p.value.length ≤ 1000000
  may : mayT t = true
theorem mayT_vals {t : Tk} (h : mayT t = true) (h4 : t.kind ≠ 4) : t.attrs.length ≤ 16 ∧ ∀ p ∈ t.attrs, okT p.value = true := by
  rcases mayT_cases h with ⟨b, _, _, h2, _⟩ | ⟨_, _, h2, _⟩ | ⟨h1, _⟩
  · rw [attrsOk_eq, Bool.and_eq_true, Bool.and_eq_true, decide_eq_true_eq] at h2
    refine ⟨h2.2, fun p hp => ?_⟩
    have := List.all_eq_true.1 h2.1.2 p hp
    unfold goodP at this
    rw [Bool.and_eq_true] at this
    exact this.2
  · rw [h2]; simp
  · exact absurd h1 h4
theorem mayT_okt {t : Tk} (h : mayT t = true) (h4 : t.kind = 4) : okT t.text = true := by
  unfold mayT at h
  rw [if_neg (by omega), if_neg (by omega), if_pos h4, Bool.and_eq_true] at h
  exact h.2
theorem flatA_fit : ∀ (l : List Pr), l.all fitP = true → (∀ p ∈ l, p.name.length ≤ 1000000 ∧ p.value.length ≤ 1000000) → (l.flatMap writeA).length ≤ l.length * 1100000
  | [], _, _ => by simp
  | p :: l, h, hs => by
    rw [List.all_cons, Bool.and_eq_true] at h
    have h2 := flatA_fit l h.2 (fun q hq => hs q (by simp [hq]))
    have h3 := (hs p (by simp)).1
    have h4 : (escL true p.value).length ≤ 16384 := by have := h.1; unfold fitP at this; simpa using this
    rw [List.flatMap_cons, List.length_append, List.length_cons]
    have h5 : (writeA p).length = p.name.length + (escL true p.value).length + 4 := by
      unfold writeA
      simp only [List.length_cons, List.length_append, List.length_nil]
      omega
    omega
end Hx
end Go.Proofs.Ytlfmjnocfkamaaa
namespace Go.Proofs.Ytlfmjnocfkamaaa
open Go.RowKit
namespace Hx
open Lx Tx Nmb Es
set_option linter.unusedVariables false
/-- Was the token ahead of place k a text? -/
def wasT (l : List Tk) : Nat → Bool
  | 0 => false
  | k + 1 => match l[k]? with | some t => decide (t.kind = 4) | none => false
theorem wasT_succ {l : List Tk} {k : Nat} (h : k < l.length) : wasT l (k + 1) = decide ((l[k]'h).kind = 4) := by
  show (match l[k]? with | some t => decide (t.kind = 4) | none => false) = _
  rw [List.getElem?_eq_getElem h]
theorem apart_on {l : List Tk} {k : Nat} (h : k < l.length) (hp : apart (l.take k) = true) (hb : (decide ((l[k]'h).kind = 4) && wasT l k) = false) : apart (l.take (k + 1)) = true := by
  cases k with
  | zero =>
    cases l with
    | nil => rfl
    | cons a r => rfl
  | succ k =>
    refine apart_next (by omega) h hp ?_
    rw [wasT_succ (by omega)] at hb
    rintro ⟨h1, h2⟩
    have h1' : (l[k]'(by omega)).kind = 4 := by simpa using h1
    simp [h1', h2] at hb
theorem apart_off {l : List Tk} {k : Nat} (h : k < l.length) (hb : (decide ((l[k]'h).kind = 4) && wasT l k) = true) : apart l = false := by
  cases k with
  | zero => simp [wasT] at hb
  | succ k =>
    rw [wasT_succ (by omega), Bool.and_eq_true, decide_eq_true_eq, decide_eq_true_eq] at hb
    exact apart_bad (by omega) h (by simpa using hb.2) hb.1
theorem flatT_le (l : List Tk) (k : Nat) : ((l.take k).flatMap writeT).length ≤ (l.flatMap writeT).length := by
  conv => rhs; rw [← List.take_append_drop k l]
  rw [List.flatMap_append, List.length_append]
  omega
theorem flatT_snoc {l : List Tk} {k : Nat} (h : k < l.length) : (l.take (k + 1)).flatMap writeT = (l.take k).flatMap writeT ++ writeT (l[k]'h) := by
  rw [List.take_succ_eq_append_getElem h, List.flatMap_append]
  simp [-List.take_append_getElem]
theorem flatA_ge : ∀ (l : List Pr), l.all fitP = false → 16384 < (l.flatMap writeA).length
  | [], h => by cases h
  | p :: l, h => by
    rw [List.flatMap_cons, List.length_append]
    rw [List.all_cons] at h
    cases hf : fitP p with
    | true =>
      rw [hf, Bool.true_and] at h
      have := flatA_ge l h
      omega
    | false =>
      have h4 : 16384 < (escL true p.value).length := by unfold fitP at hf; simpa using hf
      have h5 : (writeA p).length = p.name.length + (escL true p.value).length + 4 := by
        unfold writeA
        simp only [List.length_cons, List.length_append, List.length_nil]
        omega
      omega
theorem fitT_no {t : Tk} (hm : mayT t = true) (h : fitT t = false) : 16384 < (writeT t).length := by
  unfold fitT at h
  unfold writeT
  by_cases h4 : t.kind = 4
  · rw [if_pos h4] at h ⊢
    simpa using h
  · rw [if_neg h4] at h ⊢
    have := flatA_ge t.attrs h
    by_cases h2 : t.kind = 2
    · rcases mayT_cases hm with ⟨b, h1, _⟩ | ⟨_, _, h3, _⟩ | ⟨h1, _⟩
      · rw [h2] at h1; cases b <;> simp at h1
      · rw [h3] at h; cases h
      · exact absurd h1 h4
    · rw [if_neg h2]
      simp only [List.length_cons, List.length_append]
      omega
theorem writeT_fit {t : Tk} (hm : mayT t = true) (h : fitT t = true) (hs : Small t) : (writeT t).length ≤ 30000000 := by
  obtain ⟨s1, s2, s3, s4⟩ := hs
  unfold fitT at h
  unfold writeT
  by_cases h4 : t.kind = 4
  · rw [if_pos h4] at h ⊢
    simp at h
    omega
  · rw [if_neg h4] at h ⊢
    by_cases h2 : t.kind = 2
    · rw [if_pos h2]
      simp only [List.length_cons, List.length_append, List.length_nil]
      omega
    · rw [if_neg h2]
      have h5 := flatA_fit t.attrs h s4
      have h6 := (mayT_vals hm h4).1
      simp only [List.length_cons, List.length_append]
      split <;> simp only [List.length_cons, List.length_nil] <;> omega
theorem ba_mk9 (l : List UInt8) : (⟨l.toArray⟩ : ByteArray).data.toList = l := by simp
end Hx
end Go.Proofs.Ytlfmjnocfkamaaa
namespace Go.Proofs.Ytlfmjnocfkamaaa
open Go.RowKit
namespace Hx
open Lx Tx Nmb Es
set_option linter.unusedVariables false
theorem lexR_er {l : List UInt8} {ts : List Tk} {n er : Int} (h : lexR l = (ts, n, er)) : er = 0 ∨ er = 4 ∨ er = 50 ∨ er = 80 := by
  by_cases h0 : er = 0
  · exact .inl h0
  · exact .inr (lexR_bad h h0).2.1
theorem lexR_small {l : List UInt8} {ts : List Tk} {n er : Int} (h : lexR l = (ts, n, er)) : ts.length ≤ 512 ∧ ∀ t ∈ ts, t.attrs.length ≤ 16 := by
  by_cases h0 : er = 0
  · subst h0
    obtain ⟨_, _, _, _, h1, h2⟩ := lexR_ok h
    exact ⟨h1, h2⟩
  · rw [(lexR_bad h h0).1]
    exact ⟨by simp, by simp⟩
/-- Tokens that a call answers: where they lie. -/
def TkIn (ts : List Tk) (A : Option Addr) (c : Nat) (w : World) : Prop := RdC TkC w w.heap.size A ts ∧ ts.length ≤ c ∧ c ≤ maxLen ∧ (A = none → c = 0)
theorem TkIn.on {ts : List Tk} {A : Option Addr} {c : Nat} {w w' : World} (h : TkIn ts A c w) (hb : Below w.heap.size w w') : TkIn ts A c w' := ⟨h.1.on hb, h.2⟩
theorem name9 (s : ByteArray) (w : World) (hm : s.size ≤ 1000000) (b : Bool) (h : nameL s.data.toList = b) :
    Calls Try.prog 71 #[.string s] w fun e w' => e = .returned (.bool b) ∧ Below w.heap.size w w' :=
  (name9q s w hm b h).mono fun e w' ⟨h1, h2⟩ => ⟨h1, h2 ▸ Below.refl _ _⟩
theorem full9 (s : ByteArray) (w : World) (hm : s.size ≤ 1000000) (b : Bool) (h : fullL s.data.toList = b) :
    Calls Try.prog 64 #[.string s] w fun e w' => e = .returned (.bool b) ∧ Below w.heap.size w w' := full9q s w hm b h
end Hx
end Go.Proofs.Ytlfmjnocfkamaaa
