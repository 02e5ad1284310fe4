/-
  Contracts of package lex: Name, Full, Check, Join.
-/
import Derived.Test.YtichboamakgabaaLexQ
import Derived.Test.YtichboamakgabaaLexF
import Derived.Test.YtichboamakgabaaLexH
import Derived.Test.YtichboamakgabaaLeaO
namespace Go.Proofs.Ytichboamakgabaa
open Go.RowKit
namespace Hx
open Lx Tx Nmb Es
set_option linter.unusedVariables false
theorem lexR_er {l : List UInt8} {ts : List Tk} {n er : Int} (h : lexR l = (ts, n, er)) : er = 0 ∨ er = 4 ∨ er = 50 ∨ er = 80 := by
  by_cases h0 : er = 0
  · exact .inl h0
  · exact .inr (lexR_bad h h0).2.1
theorem lexR_small {l : List UInt8} {ts : List Tk} {n er : Int} (h : lexR l = (ts, n, er)) : ts.length ≤ 512 ∧ ∀ t ∈ ts, t.attrs.length ≤ 16 := by
  by_cases h0 : er = 0
  · subst h0
    obtain ⟨_, _, _, _, h1, h2⟩ := lexR_ok h
    exact ⟨h1, h2⟩
  · rw [(lexR_bad h h0).1]
    exact ⟨by simp, by simp⟩
/-- Tokens that a call answers: where they lie. -/
def TkIn (ts : List Tk) (A : Option Addr) (c : Nat) (w : World) : Prop := RdC TkC w w.heap.size A ts ∧ ts.length ≤ c ∧ c ≤ maxLen ∧ (A = none → c = 0)
theorem TkIn.on {ts : List Tk} {A : Option Addr} {c : Nat} {w w' : World} (h : TkIn ts A c w) (hb : Below w.heap.size w w') : TkIn ts A c w' := ⟨h.1.on hb, h.2⟩
theorem name9 (s : ByteArray) (w : World) (hm : s.size ≤ 1000000) (b : Bool) (h : nameL s.data.toList = b) :
    Calls Try.prog 27 #[.string s] w fun e w' => e = .returned (.bool b) ∧ Below w.heap.size w w' :=
  (name9q s w hm b h).mono fun e w' ⟨h1, h2⟩ => ⟨h1, h2 ▸ Below.refl _ _⟩
theorem full9 (s : ByteArray) (w : World) (hm : s.size ≤ 1000000) (b : Bool) (h : fullL s.data.toList = b) :
    Calls Try.prog 17 #[.string s] w fun e w' => e = .returned (.bool b) ∧ Below w.heap.size w w' := full9q s w hm b h
theorem check9 (t : Tk) (x u : ByteArray) (A : Option Addr) (cp : Nat) (w : World) (ht : TkAt t x u A cp w) (q : Int) (h : checkR t = q) :
    Calls Try.prog 5 #[TkV t x u A cp] w fun e w' => e = .returned (.int .i64 q) ∧ Below w.heap.size w w' := check9q t x u A cp w ht q h
theorem join9 (A : Option Addr) (n cp : Nat) (l : List Tk) (w : World) (hr : RdC TkC w w.heap.size A l) (hn : l.length = n) (hm : n ≤ 1000000) (hsz : ∀ t ∈ l, Small t) (s : ByteArray) (e : Int) (h : joinR l = (s.data.toList, e)) :
    Calls Try.prog 7 #[.slice A n cp] w fun e' w' => e' = .returned (.tuple #[.string s, .int .i64 e]) ∧ Below w.heap.size w w' := join9q A n cp l w hr hn hm hsz s e h
end Hx
end Go.Proofs.Ytichboamakgabaa
