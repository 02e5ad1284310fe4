/-
  A row of bytes turned in place; letters made great, and how names count then; rows of fields put together.
-/
import Derived.Test.YtfdhogaknlabkaaG18
import Derived.Test.YtfdhogaknlabkaaG10
namespace Go.Proofs.Ytfdhogaknlabkaa
open Go.RowKit
namespace Hx
open Lx Hd
set_option linter.unusedVariables false
theorem row_plus {W : World} {base n c : Nat} {A : Option Addr} {l l2 : List Pr} (h : W.ownsRow base 25 2 (.slice A n c) n ((l.map pbOf).flatMap prCells ++ (l2.map pbOf).flatMap prCells)) : RdC PrC W W.heap.size A (l ++ l2) := by
  rw [← List.flatMap_append, ← List.map_append] at h
  have := (own_attrs h).1
  rw [map_pbOf] at this
  exact this
/-- A letter made great. -/
def up1 (c : UInt8) : UInt8 := if 97 ≤ c.toNat ∧ c.toNat ≤ 122 then c - 32 else c
theorem low_up_all : ∀ n : Fin 256, As.low (up1 (UInt8.ofNat n.1)) = As.low (UInt8.ofNat n.1) := by decide +kernel
theorem low_up (c : UInt8) : As.low (up1 c) = As.low c := by
  have h := low_up_all ⟨c.toNat, c.toNat_lt⟩
  rwa [UInt8.ofNat_toNat] at h
theorem lows_up (l : List UInt8) : As.lows (l.map up1) = As.lows l := by
  unfold As.lows
  rw [List.map_map]
  exact List.map_congr_left fun c _ => low_up c
/-- The letters, so many of them great. -/
def upk (l : List UInt8) (k : Nat) : List UInt8 := (l.take k).map up1 ++ l.drop k
theorem upk_0 (l : List UInt8) : upk l 0 = l := rfl
theorem upk_all (l : List UInt8) : upk l l.length = l.map up1 := by
  unfold upk
  rw [List.take_length, List.drop_length, List.append_nil]
theorem upk_at {l : List UInt8} {k : Nat} {c : UInt8} (h : l[k]? = some c) : (upk l k)[k]? = some c ∧ upk l (k + 1) = (upk l k).set k (up1 c) := by
  obtain ⟨hk, e⟩ := List.getElem?_eq_some_iff.1 h
  have hl : ((l.take k).map up1).length = k := by rw [List.length_map, List.length_take]; omega
  have hd := drop_step h
  have e1 : upk l k = (l.take k).map up1 ++ c :: l.drop (k + 1) := by unfold upk; rw [hd]
  refine ⟨?_, ?_⟩
  · rw [e1, List.getElem?_append_right (by omega), hl]
    simp
  · rw [e1, List.set_append_right _ _ (by omega), hl, Nat.sub_self, List.set_cons_zero]
    unfold upk
    rw [take_next h, List.map_append]
    simp
theorem upk_len (l : List UInt8) (k : Nat) : (upk l k).length = l.length := by
  unfold upk
  rw [List.length_append, List.length_map, List.length_take, List.length_drop]
  omega
theorem upk_same {l : List UInt8} {k : Nat} {c : UInt8} (h : l[k]? = some c) (hu : up1 c = c) : upk l (k + 1) = upk l k := by
  obtain ⟨h1, h2⟩ := upk_at h
  obtain ⟨hk, e⟩ := List.getElem?_eq_some_iff.1 h1
  rw [h2, hu]
  conv => lhs; rw [← e]
  all_goals simp
theorem find_up (ps : List Pr) (nm : List UInt8) : findH ps (nm.map up1) = findH ps nm := by
  unfold findH
  rw [lows_up]
theorem find_pos {ps : List Pr} {p : Pr} (h : p ∈ ps) : 1 ≤ (findH ps p.name).length := by
  unfold findH
  rw [List.length_map]
  exact List.length_pos_of_mem (List.mem_filter.2 ⟨h, decide_eq_true rfl⟩)
end Hx
end Go.Proofs.Ytfdhogaknlabkaa
