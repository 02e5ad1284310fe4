/-
  Texts of one seat, put together: LexA, LexE, LexNa.
-/
import Derived.Test.YtioiifdcgdoanaaGreatDoorIn24
namespace Go.Proofs.YtioiifdcgdoanaaGreatDoor
open Go.RowKit
namespace Hx
open Lx Tx Nmb Es
set_option linter.unusedVariables false
theorem flat_mem {α : Type} (f : α → List UInt8) : ∀ (l : List α) (a : α), a ∈ l → (f a).length ≤ (l.flatMap f).length
  | [], _, h => by cases h
  | b :: l, a, h => by
    rw [List.flatMap_cons, List.length_append]
    rcases List.mem_cons.1 h with e | e
    · rw [e]; omega
    · have := flat_mem f l a e; omega
theorem writeA_ge (p : Pr) : p.name.length + p.value.length ≤ (writeA p).length := by
  have := (escL_len true p.value).1
  unfold writeA
  simp only [List.length_cons, List.length_append, List.length_nil]
  omega
theorem small_may {t : Tk} (h : mayT t = true) (hl : (writeT t).length ≤ 1000000) : Small t := by
  have ha := mayT_attrs h
  rcases mayT_cases h with ⟨b, hk, h1, h2, h3⟩ | ⟨hk, h1, h2, h3⟩ | ⟨hk, h1, h2, h3, h4⟩
  · unfold writeT at hl
    rw [if_neg (by rw [hk]; cases b <;> decide), if_neg (by rw [hk]; cases b <;> decide)] at hl
    simp only [List.length_cons, List.length_append] at hl
    refine ⟨by omega, by rw [h3]; simp, by omega, fun p hp => ?_⟩
    have k1 := flat_mem writeA _ p hp
    have k2 := writeA_ge p
    omega
  · unfold writeT at hl
    rw [if_neg (by omega), if_pos hk] at hl
    simp only [List.length_cons, List.length_append, List.length_nil] at hl
    exact ⟨by omega, by rw [h3]; simp, by omega, by rw [h2]; simp⟩
  · unfold writeT at hl
    rw [if_pos hk] at hl
    have := (escL_len false t.text).1
    exact ⟨by rw [h1]; simp, by omega, by omega, by rw [h2]; simp⟩
theorem lexR_all {l : List UInt8} {ts : List Tk} {n : Int} (h : lexR l = (ts, n, 0)) (hl : l.length ≤ 2000) :
    (∀ t ∈ ts, mayT t = true ∧ Small t) ∧ apart ts = true ∧ ts.length ≤ 512 ∧ ts.length ≤ l.length ∧ (ts.flatMap writeT).length ≤ 12000 := by
  obtain ⟨_, hI, hP, h16, h512, hat⟩ := lexR_ok h
  obtain ⟨k1, k2, k3⟩ := hI.text hP h16
  refine ⟨fun t ht => ?_, k2, h512, hI.len, by omega⟩
  have hm : mayT t = true := k1 t ht (hat t ht)
  have := flat_mem writeT ts t ht
  exact ⟨hm, small_may hm (by omega)⟩
end Hx
end Go.Proofs.YtioiifdcgdoanaaGreatDoor
