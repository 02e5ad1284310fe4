/-
  Package chunk as it landed: the machine's value, digit, put, take.
-/
import Derived.Test.YtphakhklhicolaaDoorChkT
import Derived.Test.YtphakhklhicolaaDoorChkL
import Derived.Test.YtphakhklhicolaaDoorAscR
import Derived.OneCell
namespace Go.Proofs.YtphakhklhicolaaDoor
open Go.RowKit
namespace Hx
open Ck
set_option linter.unusedVariables false
set_option linter.unusedSimpArgs false
def valR (c : UInt8) : Int × Bool := match hv c with
  | some n => (n, true)
  | none => (0, false)

set_option maxHeartbeats 8000000 in
set_option maxRecDepth 100000 in
theorem value16 (c : UInt8) (d : Int) (is : Bool) (w : World) (h : valR c = (d, is)) :
    Calls Tryd.prog 26 #[.int .u8 (c.toNat : Int)] w fun e w' => e = .returned (.tuple #[.int .i64 d, .bool is]) ∧ w = w' := by
  unfold valR hv at h
  have hcl := c.toNat_lt
  have hlim := c.toNat_lt
  rcases (show (0 ≤ c.toNat ∧ c.toNat ≤ 47) ∨ (48 ≤ c.toNat ∧ c.toNat ≤ 57) ∨ (58 ≤ c.toNat ∧ c.toNat ≤ 64) ∨ (65 ≤ c.toNat ∧ c.toNat ≤ 70) ∨ (71 ≤ c.toNat ∧ c.toNat ≤ 96) ∨ (97 ≤ c.toNat ∧ c.toNat ≤ 102) ∨ (103 ≤ c.toNat ∧ c.toNat ≤ 255) by omega) with ⟨q1, q2⟩ | ⟨q1, q2⟩ | ⟨q1, q2⟩ | ⟨q1, q2⟩ | ⟨q1, q2⟩ | ⟨q1, q2⟩ | ⟨q1, q2⟩
  · have fge48 : decide ((48 : Int) ≤ (c.toNat : Int)) = false := decide_eq_false (by omega)
    have fle57 : decide ((c.toNat : Int) ≤ 57) = true := decide_eq_true (by omega)
    have fge97 : decide ((97 : Int) ≤ (c.toNat : Int)) = false := decide_eq_false (by omega)
    have fle102 : decide ((c.toNat : Int) ≤ 102) = true := decide_eq_true (by omega)
    have fge65 : decide ((65 : Int) ≤ (c.toNat : Int)) = false := decide_eq_false (by omega)
    have fle70 : decide ((c.toNat : Int) ≤ 70) = true := decide_eq_true (by omega)
    rw [if_neg (show ¬ (48 ≤ c.toNat ∧ c.toNat ≤ 57) by omega), if_neg (show ¬ (97 ≤ c.toNat ∧ c.toNat ≤ 102) by omega), if_neg (show ¬ (65 ≤ c.toNat ∧ c.toNat ≤ 70) by omega)] at h
    dsimp only at h
    obtain ⟨z1, z2⟩ := (Prod.mk.injEq _ _ _ _).mp h
    subst z1
    subst z2
    clear q1 q2 hlim hcl h
    go_enter Tryd.func26, Tryd.ntmps26
    go_wp2_with fail
    go_ret2
    exact ⟨rfl, rfl⟩
  · have fge48 : decide ((48 : Int) ≤ (c.toNat : Int)) = true := decide_eq_true (by omega)
    have fle57 : decide ((c.toNat : Int) ≤ 57) = true := decide_eq_true (by omega)
    have fge97 : decide ((97 : Int) ≤ (c.toNat : Int)) = false := decide_eq_false (by omega)
    have fle102 : decide ((c.toNat : Int) ≤ 102) = true := decide_eq_true (by omega)
    have fge65 : decide ((65 : Int) ≤ (c.toNat : Int)) = false := decide_eq_false (by omega)
    have fle70 : decide ((c.toNat : Int) ≤ 70) = true := decide_eq_true (by omega)
    rw [if_pos (show 48 ≤ c.toNat ∧ c.toNat ≤ 57 by omega)] at h
    dsimp only at h
    obtain ⟨z1, z2⟩ := (Prod.mk.injEq _ _ _ _).mp h
    subst z1
    subst z2
    have u1 : IntKind.u8.wrap ((c.toNat : Int) - 48) = ((c.toNat - 48 : Nat) : Int) := by rw [IntWalk.u8_in _ (by omega)]; omega
    have u2 : IntKind.i64.wrap ((c.toNat - 48 : Nat) : Int) = ((c.toNat - 48 : Nat) : Int) := IntWalk.i64_in _ (by omega)
    clear q1 q2 hlim hcl h
    go_enter Tryd.func26, Tryd.ntmps26
    go_wp2_with fail
    go_ret2
    exact ⟨rfl, rfl⟩
  · have fge48 : decide ((48 : Int) ≤ (c.toNat : Int)) = true := decide_eq_true (by omega)
    have fle57 : decide ((c.toNat : Int) ≤ 57) = false := decide_eq_false (by omega)
    have fge97 : decide ((97 : Int) ≤ (c.toNat : Int)) = false := decide_eq_false (by omega)
    have fle102 : decide ((c.toNat : Int) ≤ 102) = true := decide_eq_true (by omega)
    have fge65 : decide ((65 : Int) ≤ (c.toNat : Int)) = false := decide_eq_false (by omega)
    have fle70 : decide ((c.toNat : Int) ≤ 70) = true := decide_eq_true (by omega)
    rw [if_neg (show ¬ (48 ≤ c.toNat ∧ c.toNat ≤ 57) by omega), if_neg (show ¬ (97 ≤ c.toNat ∧ c.toNat ≤ 102) by omega), if_neg (show ¬ (65 ≤ c.toNat ∧ c.toNat ≤ 70) by omega)] at h
    dsimp only at h
    obtain ⟨z1, z2⟩ := (Prod.mk.injEq _ _ _ _).mp h
    subst z1
    subst z2
    clear q1 q2 hlim hcl h
    go_enter Tryd.func26, Tryd.ntmps26
    go_wp2_with fail
    go_ret2
    exact ⟨rfl, rfl⟩
  · have fge48 : decide ((48 : Int) ≤ (c.toNat : Int)) = true := decide_eq_true (by omega)
    have fle57 : decide ((c.toNat : Int) ≤ 57) = false := decide_eq_false (by omega)
    have fge97 : decide ((97 : Int) ≤ (c.toNat : Int)) = false := decide_eq_false (by omega)
    have fle102 : decide ((c.toNat : Int) ≤ 102) = true := decide_eq_true (by omega)
    have fge65 : decide ((65 : Int) ≤ (c.toNat : Int)) = true := decide_eq_true (by omega)
    have fle70 : decide ((c.toNat : Int) ≤ 70) = true := decide_eq_true (by omega)
    rw [if_neg (show ¬ (48 ≤ c.toNat ∧ c.toNat ≤ 57) by omega), if_neg (show ¬ (97 ≤ c.toNat ∧ c.toNat ≤ 102) by omega), if_pos (show 65 ≤ c.toNat ∧ c.toNat ≤ 70 by omega)] at h
    dsimp only at h
    obtain ⟨z1, z2⟩ := (Prod.mk.injEq _ _ _ _).mp h
    subst z1
    subst z2
    have u1 : IntKind.u8.wrap ((c.toNat : Int) - 65) = ((c.toNat - 65 : Nat) : Int) := by rw [IntWalk.u8_in _ (by omega)]; omega
    have u2 : IntKind.i64.wrap ((c.toNat - 65 : Nat) : Int) = ((c.toNat - 65 : Nat) : Int) := IntWalk.i64_in _ (by omega)
    have u3 : IntKind.i64.wrap (((c.toNat - 65 : Nat) : Int) + 10) = ((c.toNat - 55 : Nat) : Int) := by rw [IntWalk.i64_in _ (by omega)]; omega
    have u4 : ((c.toNat - 65 : Nat) : Int) + 10 = ((c.toNat - 55 : Nat) : Int) := by omega
    have u5 : (0 : Int) ≤ ((c.toNat - 55 : Nat) : Int) ∧ ((c.toNat - 55 : Nat) : Int) ≤ 15 := by omega
    clear q1 q2 hlim hcl h
    go_enter Tryd.func26, Tryd.ntmps26
    go_wp2_with fail
    go_ret2
    exact ⟨rfl, rfl⟩
  · have fge48 : decide ((48 : Int) ≤ (c.toNat : Int)) = true := decide_eq_true (by omega)
    have fle57 : decide ((c.toNat : Int) ≤ 57) = false := decide_eq_false (by omega)
    have fge97 : decide ((97 : Int) ≤ (c.toNat : Int)) = false := decide_eq_false (by omega)
    have fle102 : decide ((c.toNat : Int) ≤ 102) = true := decide_eq_true (by omega)
    have fge65 : decide ((65 : Int) ≤ (c.toNat : Int)) = true := decide_eq_true (by omega)
    have fle70 : decide ((c.toNat : Int) ≤ 70) = false := decide_eq_false (by omega)
    rw [if_neg (show ¬ (48 ≤ c.toNat ∧ c.toNat ≤ 57) by omega), if_neg (show ¬ (97 ≤ c.toNat ∧ c.toNat ≤ 102) by omega), if_neg (show ¬ (65 ≤ c.toNat ∧ c.toNat ≤ 70) by omega)] at h
    dsimp only at h
    obtain ⟨z1, z2⟩ := (Prod.mk.injEq _ _ _ _).mp h
    subst z1
    subst z2
    clear q1 q2 hlim hcl h
    go_enter Tryd.func26, Tryd.ntmps26
    go_wp2_with fail
    go_ret2
    exact ⟨rfl, rfl⟩
  · have fge48 : decide ((48 : Int) ≤ (c.toNat : Int)) = true := decide_eq_true (by omega)
    have fle57 : decide ((c.toNat : Int) ≤ 57) = false := decide_eq_false (by omega)
    have fge97 : decide ((97 : Int) ≤ (c.toNat : Int)) = true := decide_eq_true (by omega)
    have fle102 : decide ((c.toNat : Int) ≤ 102) = true := decide_eq_true (by omega)
    have fge65 : decide ((65 : Int) ≤ (c.toNat : Int)) = true := decide_eq_true (by omega)
    have fle70 : decide ((c.toNat : Int) ≤ 70) = false := decide_eq_false (by omega)
    rw [if_neg (show ¬ (48 ≤ c.toNat ∧ c.toNat ≤ 57) by omega), if_pos (show 97 ≤ c.toNat ∧ c.toNat ≤ 102 by omega)] at h
    dsimp only at h
    obtain ⟨z1, z2⟩ := (Prod.mk.injEq _ _ _ _).mp h
    subst z1
    subst z2
    have u1 : IntKind.u8.wrap ((c.toNat : Int) - 97) = ((c.toNat - 97 : Nat) : Int) := by rw [IntWalk.u8_in _ (by omega)]; omega
    have u2 : IntKind.i64.wrap ((c.toNat - 97 : Nat) : Int) = ((c.toNat - 97 : Nat) : Int) := IntWalk.i64_in _ (by omega)
    have u3 : IntKind.i64.wrap (((c.toNat - 97 : Nat) : Int) + 10) = ((c.toNat - 87 : Nat) : Int) := by rw [IntWalk.i64_in _ (by omega)]; omega
    have u4 : ((c.toNat - 97 : Nat) : Int) + 10 = ((c.toNat - 87 : Nat) : Int) := by omega
    have u5 : (0 : Int) ≤ ((c.toNat - 87 : Nat) : Int) ∧ ((c.toNat - 87 : Nat) : Int) ≤ 15 := by omega
    clear q1 q2 hlim hcl h
    go_enter Tryd.func26, Tryd.ntmps26
    go_wp2_with fail
    go_ret2
    exact ⟨rfl, rfl⟩
  · have fge48 : decide ((48 : Int) ≤ (c.toNat : Int)) = true := decide_eq_true (by omega)
    have fle57 : decide ((c.toNat : Int) ≤ 57) = false := decide_eq_false (by omega)
    have fge97 : decide ((97 : Int) ≤ (c.toNat : Int)) = true := decide_eq_true (by omega)
    have fle102 : decide ((c.toNat : Int) ≤ 102) = false := decide_eq_false (by omega)
    have fge65 : decide ((65 : Int) ≤ (c.toNat : Int)) = true := decide_eq_true (by omega)
    have fle70 : decide ((c.toNat : Int) ≤ 70) = false := decide_eq_false (by omega)
    rw [if_neg (show ¬ (48 ≤ c.toNat ∧ c.toNat ≤ 57) by omega), if_neg (show ¬ (97 ≤ c.toNat ∧ c.toNat ≤ 102) by omega), if_neg (show ¬ (65 ≤ c.toNat ∧ c.toNat ≤ 70) by omega)] at h
    dsimp only at h
    obtain ⟨z1, z2⟩ := (Prod.mk.injEq _ _ _ _).mp h
    subst z1
    subst z2
    clear q1 q2 hlim hcl h
    go_enter Tryd.func26, Tryd.ntmps26
    go_wp2_with fail
    go_ret2
    exact ⟨rfl, rfl⟩

/-- The machine in block b. -/
def MB (b : Nat) (m : Mc) (w : World) : Prop := ∃ v, w.heap[b]? = some (.cells #[.int .u8 (m.now : Int), .int .i64 (m.dig : Int), .int .i64 (m.size : Int), v] 44 (0, 0)) ∧ w.ownsRow (b + 1) 5 1 v m.body.length (Lib.byteCells m.body)
section
variable {w : World} {b : Nat} {a0 a1 a2 a3 : Value} {T : TypeId}
theorem m4_0 (h : w.heap[b]? = some (.cells #[a0, a1, a2, a3] T (0, 0))) : w.cell? ⟨b, 0, none⟩ = some a0 := by simp [World.cell?, h]
theorem m4_1 (h : w.heap[b]? = some (.cells #[a0, a1, a2, a3] T (0, 0))) : w.cell? ⟨b, 1, none⟩ = some a1 := by simp [World.cell?, h]
theorem m4_2 (h : w.heap[b]? = some (.cells #[a0, a1, a2, a3] T (0, 0))) : w.cell? ⟨b, 2, none⟩ = some a2 := by simp [World.cell?, h]
theorem m4_3 (h : w.heap[b]? = some (.cells #[a0, a1, a2, a3] T (0, 0))) : w.cell? ⟨b, 3, none⟩ = some a3 := by simp [World.cell?, h]
theorem m4_f (h : w.heap[b]? = some (.cells #[a0, a1, a2, a3] T (0, 0))) (j : Nat) : w.frozen? ⟨b, j, none⟩ = false := by simp [World.frozen?, h]
theorem m4_s {cur : Array Value} (h : w.heap[b]? = some (.cells cur T (0, 0))) (j : Nat) (x : Value) : (w.setCell ⟨b, j, none⟩ x).heap[b]? = some (.cells (cur.setIfInBounds j x) T (0, 0)) := by simp [World.setCell, Array.getElem?_modify, h]
theorem m4_lt {o : Obj} (h : w.heap[b]? = some o) : b < w.heap.size := (Array.getElem?_eq_some_iff.1 h).1
end
theorem own_ne {w : World} {b n : Nat} {v : Value} {e : TypeId} {xs : List Value} (h : w.ownsRow (b + 1) e 1 v n xs) : some b ≠ v.ownBlock := by
  rcases h.2 with ⟨rfl, _⟩ | ⟨g', cap, cur, rfl, hb, hg, rest⟩
  · simp [Value.ownBlock]
  · intro k
    simp only [Value.ownBlock, Option.some.injEq] at k
    omega
theorem own_set {w : World} {b n : Nat} {v : Value} {e : TypeId} {xs : List Value} (h : w.ownsRow (b + 1) e 1 v n xs) (j : Nat) (x : Value) : (w.setCell ⟨b, j, none⟩ x).ownsRow (b + 1) e 1 v n xs := ownsRow_setCell_other h (fun k => own_ne h k.symm) _

set_option maxHeartbeats 8000000 in
set_option maxRecDepth 100000 in
theorem digit16_no (b : Nat) (m : Mc) (c : UInt8) (w : World) (h : MB b m w) (hd : m.dig ≤ 4) (h1 : hv c = none ∨ m.dig = 4) :
    Calls Tryd.prog 22 #[.pointer (some ⟨b, 0, none⟩), .int .u8 (c.toNat : Int)] w fun e w' => e = .returned (.bool false) ∧ w = w' := by
  obtain ⟨v, hg, hown⟩ := h
  have c1 := m4_1 hg
  clear hown hg
  cases hc : hv c with
  | none =>
    have hv0 : valR c = (0, false) := by unfold valR; rw [hc]
    clear h1 hc
    go_enter Tryd.func22, Tryd.ntmps22
    go_wp2_with (first
      | (go_at_call 26; (with_reducible refine (value16 c 0 false _ hv0).mono ?_); rintro e1 w1 ⟨rfl, rfl⟩)
      | fail)
    go_ret
    exact ⟨rfl, rfl⟩
  | some d =>
    have hv0 : valR c = ((d : Int), true) := by unfold valR; rw [hc]
    rw [hc] at h1
    have h4 : m.dig = 4 := h1.resolve_left (fun k => by cases k)
    rw [h4] at c1
    clear h1 hc h4 hd
    go_enter Tryd.func22, Tryd.ntmps22
    go_wp2_with (first
      | (go_at_call 26; (with_reducible refine (value16 c d true _ hv0).mono ?_); rintro e1 w1 ⟨rfl, rfl⟩)
      | fail)
    go_ret
    exact ⟨rfl, rfl⟩

set_option maxHeartbeats 8000000 in
set_option maxRecDepth 100000 in
theorem digit16_yes (b : Nat) (m : Mc) (c : UInt8) (d : Nat) (w : World) (h : MB b m w) (hd : m.dig < 4) (hs : m.size ≤ 65535) (h1 : hv c = some d) :
    Calls Tryd.prog 22 #[.pointer (some ⟨b, 0, none⟩), .int .u8 (c.toNat : Int)] w fun e w' => e = .returned (.bool true) ∧ MB b { m with now := 3, dig := m.dig + 1, size := m.size * 16 + d } w' ∧ Below b w w' := by
  obtain ⟨v, hg, hown⟩ := h
  have hv0 : valR c = ((d : Int), true) := by unfold valR; rw [h1]
  have hd16 := hv_lt h1
  have HG := Lib.hid hg
  have HO := Lib.hid hown
  obtain ⟨k, hk⟩ : ∃ k, m.dig = k := ⟨_, rfl⟩
  obtain ⟨s, hz⟩ : ∃ s, m.size = s := ⟨_, rfl⟩
  rw [hk, hz] at hg
  rw [hk] at hd
  rw [hz] at hs
  have e4 : ((k : Int) == 4) = false := by simp; omega
  obtain ⟨k1, hk1⟩ : ∃ k1, k + 1 = k1 := ⟨_, rfl⟩
  obtain ⟨s1, hs1⟩ : ∃ s1, s * 16 + d = s1 := ⟨_, rfl⟩
  have e1 : (k : Int) + 1 = (k1 : Int) := by omega
  have e2 : (s : Int) * 16 + (d : Int) = (s1 : Int) := by omega
  have hk1' := Lib.hid hk1
  have hs1' := Lib.hid hs1
  have bs : (s : Int) ≤ 65535 ∧ (0 : Int) ≤ (s : Int) := by omega
  have bd : (d : Int) ≤ 15 ∧ (0 : Int) ≤ (d : Int) := by omega
  have bk : (k : Int) ≤ 3 ∧ (0 : Int) ≤ (k : Int) := by omega
  have c0 := m4_0 hg
  have c1 := m4_1 hg
  have c2 := m4_2 hg
  have f0 := m4_f hg 0
  have f1 := m4_f hg 1
  have f2 := m4_f hg 2
  clear hown hg h1 hk1 hs1
  go_enter Tryd.func22, Tryd.ntmps22
  go_wp2_with (first
    | (go_at_call 26; (with_reducible refine (value16 c d true _ hv0).mono ?_); rintro e1 w1 ⟨rfl, rfl⟩)
    | fail)
  go_ret
  refine ⟨rfl, ⟨v, ?_, own_set (own_set (own_set HO.out 0 _) 1 _) 2 _⟩, (((Below.refl b w).setCell (Nat.le_refl _) _).setCell (Nat.le_refl _) _).setCell (Nat.le_refl _) _⟩
  have := m4_s (m4_s (m4_s HG.out 0 (.int .u8 3)) 1 (.int .i64 (k1 : Int))) 2 (.int .i64 (s1 : Int))
  rw [hk, hz, hk1'.out, hs1'.out]
  exact this

set_option maxHeartbeats 8000000 in
set_option maxRecDepth 100000 in
theorem put16_one (b : Nat) (m : Mc) (c : UInt8) (w : World) (h : MB b m w) (h1 : m.size = 1) (hl : m.body.length ≤ 8192) :
    Calls Tryd.prog 23 #[.pointer (some ⟨b, 0, none⟩), .int .u8 (c.toNat : Int)] w fun e w' => e = .returned (.tuple #[]) ∧ MB b ⟨0, 0, 0, m.body ++ [c]⟩ w' ∧ Below b w w' := by
  obtain ⟨i0, hi, hz0, hz1, hz2⟩ := info_parts infoU8c
  have HI := Lib.hid hi
  have HZ0 := Lib.hid hz0
  have HZ1 := Lib.hid hz1
  have HZ2 := Lib.hid hz2
  obtain ⟨v, hg, hown⟩ := h
  have hlt := m4_lt hg
  obtain ⟨A, k, rfl⟩ := own_form hown
  obtain ⟨n, hn⟩ : ∃ n, m.body.length = n := ⟨_, rfl⟩
  obtain ⟨z, hz⟩ : ∃ z, m.size = z := ⟨_, rfl⟩
  rw [hn] at hl hg hown
  rw [hz] at h1 hg
  subst h1
  have HN := Lib.hid hl
  have HO := Lib.hid hown
  have HG := Lib.hid hg
  have c3 := m4_3 hg
  clear hi hz0 hz1 hz2 hown hg
  go_enter Tryd.func23, Tryd.ntmps23
  go_wp2_with (first
    | (at_builtin; refine wpList_append_rd rfl (.tmp 8) (.tmp 10) 29 rfl (b + 1) 5 i0 (.int .u8 0) Tryd.underlying29 HI.out HZ0.out HZ1.out HZ2.out rfl _ n _ rfl (HO.out.alloc (.cells #[.int .u8 c.toNat] 5)) (w.heap.size + 1) (some ⟨w.heap.size, 0, none⟩) 1 1 [c] rfl (RdA.new w 5 [c]) rfl (fun h => by cases h) (by have := HN.out; omega) (by rw [World.size_alloc]; omega) ?_
       intro v4 w4 hown4 hgr4
       obtain ⟨A4, k4, rfl⟩ := own_form hown4
       have hg4 := ((hgr4.block b (by rw [World.size_alloc]; omega) (own_ne HO.out)).trans (Below.heap_alloc w _ b hlt)).trans HG.out
       have HB4 : Hid (Below b w w4) := Lib.hid (((Below.refl b w).alloc (by omega) _).grown hgr4 (by rw [World.size_alloc]; omega) (fun g hg => by have := (HO.out.lt g hg).1; omega))
       have HO4 := Lib.hid hown4
       have HG4 := Lib.hid hg4
       have c2 := m4_2 hg4
       have f0 := m4_f hg4 0
       have f1 := m4_f hg4 1
       have f2 := m4_f hg4 2
       have f3 := m4_f hg4 3
       have c0 := m4_0 hg4
       have c1 := m4_1 hg4
       have c3' := m4_3 hg4
       clear hown4 hgr4 hg4 c3)
    | fail)
  go_end0
  refine ⟨rfl, ⟨.slice A4 (n + 1) k4, ?_, ?_⟩, ((((HB4.out.setCell (Nat.le_refl _) _).setCell (Nat.le_refl _) _).setCell (Nat.le_refl _) _).setCell (Nat.le_refl _) _)⟩
  · have := (m4_s (m4_s (m4_s (m4_s HG4.out 3 (.slice A4 (n + 1) k4)) 2 (.int .i64 ((0 : Nat) : Int))) 0 (.int .u8 0)) 1 (.int .i64 0))
    exact this
  · have e : (m.body ++ [c]).length = n + 1 := by rw [List.length_append, hn]; rfl
    rw [e, Lib.byteCells_append]
    exact (own_set (own_set (own_set (own_set HO4.out 3 _) 2 _) 0 _) 1 _)
set_option maxHeartbeats 8000000 in
set_option maxRecDepth 100000 in
theorem put16_more (b : Nat) (m : Mc) (c : UInt8) (w : World) (h : MB b m w) (h1 : 1 < m.size) (h2 : m.size ≤ 65535) (hl : m.body.length ≤ 8192) :
    Calls Tryd.prog 23 #[.pointer (some ⟨b, 0, none⟩), .int .u8 (c.toNat : Int)] w fun e w' => e = .returned (.tuple #[]) ∧ MB b { m with size := m.size - 1, body := m.body ++ [c] } w' ∧ Below b w w' := by
  obtain ⟨i0, hi, hz0, hz1, hz2⟩ := info_parts infoU8c
  have HI := Lib.hid hi
  have HZ0 := Lib.hid hz0
  have HZ1 := Lib.hid hz1
  have HZ2 := Lib.hid hz2
  obtain ⟨v, hg, hown⟩ := h
  have hlt := m4_lt hg
  obtain ⟨A, k, rfl⟩ := own_form hown
  obtain ⟨n, hn⟩ : ∃ n, m.body.length = n := ⟨_, rfl⟩
  obtain ⟨z, hz⟩ : ∃ z, m.size = z := ⟨_, rfl⟩
  rw [hn] at hl hg hown
  rw [hz] at h1 h2 hg
  obtain ⟨z1, hz1'⟩ : ∃ z1, z - 1 = z1 := ⟨_, rfl⟩
  have e1 : (z : Int) - 1 = (z1 : Int) := by omega
  have e0 : ((z1 : Int) == 0) = false := by simp; omega
  have HZ := Lib.hid hz1'
  have HN := Lib.hid hl
  have HO := Lib.hid hown
  have HG := Lib.hid hg
  have c3 := m4_3 hg
  clear hi hz0 hz1 hz2 hown hg
  go_enter Tryd.func23, Tryd.ntmps23
  go_wp2_with (first
    | (at_builtin; refine wpList_append_rd rfl (.tmp 8) (.tmp 10) 29 rfl (b + 1) 5 i0 (.int .u8 0) Tryd.underlying29 HI.out HZ0.out HZ1.out HZ2.out rfl _ n _ rfl (HO.out.alloc (.cells #[.int .u8 c.toNat] 5)) (w.heap.size + 1) (some ⟨w.heap.size, 0, none⟩) 1 1 [c] rfl (RdA.new w 5 [c]) rfl (fun h => by cases h) (by have := HN.out; omega) (by rw [World.size_alloc]; omega) ?_
       intro v4 w4 hown4 hgr4
       obtain ⟨A4, k4, rfl⟩ := own_form hown4
       have hg4 := ((hgr4.block b (by rw [World.size_alloc]; omega) (own_ne HO.out)).trans (Below.heap_alloc w _ b hlt)).trans HG.out
       have HB4 : Hid (Below b w w4) := Lib.hid (((Below.refl b w).alloc (by omega) _).grown hgr4 (by rw [World.size_alloc]; omega) (fun g hg => by have := (HO.out.lt g hg).1; omega))
       have HO4 := Lib.hid hown4
       have HG4 := Lib.hid hg4
       have c2 := m4_2 hg4
       have f0 := m4_f hg4 0
       have f1 := m4_f hg4 1
       have f2 := m4_f hg4 2
       have f3 := m4_f hg4 3
       have c0 := m4_0 hg4
       have c1 := m4_1 hg4
       have c3' := m4_3 hg4
       clear hown4 hgr4 hg4 c3)
    | fail)
  go_end0
  refine ⟨rfl, ⟨.slice A4 (n + 1) k4, ?_, ?_⟩, ((HB4.out.setCell (Nat.le_refl _) _).setCell (Nat.le_refl _) _)⟩
  · have := (m4_s (m4_s HG4.out 3 (.slice A4 (n + 1) k4)) 2 (.int .i64 (z1 : Int)))
    rw [hz, HZ.out]
    exact this
  · have e : (m.body ++ [c]).length = n + 1 := by rw [List.length_append, hn]; rfl
    rw [e, Lib.byteCells_append]
    exact (own_set (own_set HO4.out 3 _) 2 _)
end Hx
end Go.Proofs.YtphakhklhicolaaDoor
