/-
  Plain facts on the document's own way to read one code point.
-/
import Derived.Test.YtichboamakgabaaTextR
namespace Go.Proofs.Ytichboamakgabaa
open Go.RowKit
namespace Tx
open Go Hx
/-- Bits put behind bits. -/
def fd (b : Nat) (l : List UInt8) : Nat := l.foldl (fun n c => 64 * n + c.toNat % 64) b
theorem fd_snoc (b : Nat) (l : List UInt8) (c : UInt8) : fd b (l ++ [c]) = 64 * fd b l + c.toNat % 64 := by simp [fd]
theorem hd_le (c : Nat) : (hd c).1 ≤ 4 ∧ (hd c).2 ≤ 127 := by
  unfold hd
  split
  · simp; omega
  · split
    · simp; omega
    · split
      · simp; omega
      · split <;> simp; omega
/-- What is read tells so much. -/
theorem one_ref {l : List UInt8} {n k : Nat} (h : one l = some (n, k)) : ∃ a r b, l = a :: r ∧ hd a.toNat = (k, b) ∧ k ≠ 0 ∧ k ≤ l.length ∧ fd b (r.take (k - 1)) = n ∧ may n = true ∧ enc n = l.take k := by
  obtain ⟨hm, hs, rfl, r, rfl⟩ := one_sound h
  have hb := sv_le hs
  rw [List.take_left]
  unfold enc
  by_cases h1 : n < 128
  · simp only [if_pos h1]
    refine ⟨bt n, r, n, rfl, ?_, by simp, by simp, rfl, hm, trivial⟩
    rw [bt_nat _ (by omega), hd, if_pos h1]
    rfl
  · simp only [if_neg h1]
    by_cases h2 : n < 2048
    · simp only [if_pos h2]
      refine ⟨_, _, n / 64, rfl, ?_, by simp, by simp, ?_, hm, trivial⟩
      · rw [bt_nat _ (by omega), hd, if_neg (by omega), if_pos (by omega)]
        exact Prod.ext rfl (by show _ - _ = _; omega)
      · simp [fd, bt_nat (128 + n % 64) (by omega)]
        omega
    · simp only [if_neg h2]
      by_cases h3 : n < 65536
      · simp only [if_pos h3]
        refine ⟨_, _, n / 4096, rfl, ?_, by simp, by simp, ?_, hm, trivial⟩
        · rw [bt_nat _ (by omega), hd, if_neg (by omega), if_neg (by omega), if_pos (by omega)]
          exact Prod.ext rfl (by show _ - _ = _; omega)
        · simp [fd, bt_nat (128 + n % 64) (by omega), bt_nat (128 + n / 64 % 64) (by omega)]
          omega
      · simp only [if_neg h3]
        refine ⟨_, _, n / 262144, rfl, ?_, by simp, by simp, ?_, hm, trivial⟩
        · rw [bt_nat _ (by omega), hd, if_neg (by omega), if_neg (by omega), if_neg (by omega), if_pos (by omega)]
          exact Prod.ext rfl (by show _ - _ = _; omega)
        · simp [fd, bt_nat (128 + n % 64) (by omega), bt_nat (128 + n / 64 % 64) (by omega), bt_nat (128 + n / 4096 % 64) (by omega)]
          omega
theorem one_ref2 {l : List UInt8} {n k : Nat} (hm : may n = true) (hk : k ≤ l.length) (he : enc n = l.take k) : one l = some (n, k) := by
  have e : l = enc n ++ l.drop k := by rw [he, List.take_append_drop]
  have hl : k = (enc n).length := by rw [he, List.length_take]; omega
  rw [e, one_enc n hm, ← hl]
end Tx
namespace Hx
open Go
/-- One operation of a drawn region, taken first; the operation written out. -/
theorem takeD {P : Program} {ops : Array Oper} {Q : Exit → Act → World → Prop} {md : Region.Mode} {S : World → Prop} {i : Nat} {oi : Oper} {rest : List Oper} {v : Value} {fuel : Nat} {listed : Array Bool} {a : Act} {w : World} (hd : ops.toList.drop i = oi :: rest)
    (hs : Region.noSelect ops = true) (hf : Region.free md ops listed i = true) (hr : (Region.ready md ops listed).contains i = true)
    (hQ : ∀ c a w, Q (.panic c) (a.put oi.dst v) w → Q (.panic c) a w) (hy : YieldsIf P ops S oi v a) (hS : S w)
    (h : wpAnyH P md ops Q S fuel (listed.setIfInBounds i true) (a.put oi.dst v) w) : wpAnyH P md ops Q S (fuel + 1) listed a w := by
  refine wpAnyH_take (i := i) ?_ hs hf hr hQ hy hS h
  have e : (ops.toList.drop i)[0]? = some oi := by rw [hd]; rfl
  rw [List.getElem?_drop, Nat.add_zero] at e
  simpa using e
end Hx
end Go.Proofs.Ytichboamakgabaa
