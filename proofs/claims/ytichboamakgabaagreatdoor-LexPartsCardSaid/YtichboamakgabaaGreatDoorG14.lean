/-
  Texts of one seat, put together: TextQ.
-/
import Derived.Test.YtichboamakgabaaGreatDoorG13
import Derived.Laws.RangeAny
import Derived.Lib.OthersKept
import Derived.Deep.LoopGhost
namespace Go.Proofs.YtichboamakgabaaGreatDoor
open Go.RowKit
namespace Hx
open Tx
set_option linter.unusedVariables false
theorem drop_len (s : ByteArray) (a : Nat) : (s.data.toList.drop a).length = s.size - a := by rw [List.length_drop, ba_len5]
/-- One step of a range over bytes, at a place where a code point that may be begins. -/
theorem step_some (s : ByteArray) (a p k : Nat) (ha : a < s.size) (ho : one (s.data.toList.drop a) = some (p, k)) :
    Utf8.decode s a = (p, k) ∧ runeL (s.data.toList.drop a) = p ∧ 1 ≤ k ∧ a + k ≤ s.size ∧ pts (s.data.toList.drop a) = (pts (s.data.toList.drop (a + k))).map (p :: ·) := by
  have hne : s.data.toList.drop a ≠ [] := by
    intro h
    have := drop_len s a
    rw [h] at this
    simp at this
    omega
  have hd : decL (s.data.toList.drop a) = some (p, k) := by
    unfold one at ho
    rw [Option.filter_eq_some_iff] at ho
    exact ho.1
  obtain ⟨h1, h2, _⟩ := one_le ho
  rw [drop_len] at h2
  refine ⟨?_, ?_, h1, by omega, ?_⟩
  · rw [decode_eq s a ha, hd]
  · rw [runeL, hd]
  · rw [pts_step _ hne, ho]
    show Option.map _ (pts (List.drop k (List.drop a s.data.toList))) = _
    rw [List.drop_drop]
theorem step_rune (s : ByteArray) (a : Nat) (ha : a < s.size) : (Utf8.decode s a).1 = runeL (s.data.toList.drop a) := by
  rw [decode_eq s a ha, runeL]
  cases decL (s.data.toList.drop a) <;> rfl
theorem step_none (s : ByteArray) (a : Nat) (ha : a < s.size) (ho : one (s.data.toList.drop a) = none) : pts (s.data.toList.drop a) = none := by
  have hne : s.data.toList.drop a ≠ [] := by
    intro h
    have := drop_len s a
    rw [h] at this
    simp at this
    omega
  rw [pts_step _ hne, ho]
theorem pts_end (s : ByteArray) (a : Nat) (h : ¬ a < s.size) : pts (s.data.toList.drop a) = some [] := by
  rw [List.drop_of_length_le (by rw [ba_len5]; omega)]
  rfl
theorem below_iter (w : World) (s : ByteArray) (p : Nat) : Below w.heap.size w (w.iter s p) := stpA (Below.refl _ _) _
set_option maxHeartbeats 1000000 in
set_option maxRecDepth 100000 in
/-- text.Check. -/
theorem check5 (s : ByteArray) (w : World) (hm : s.size ≤ 1000000) (q : Int) (h : chkE s = q) : Calls Tryz.prog 22 #[.string s] w fun e w' => e = .returned (.int .i64 q) ∧ Below w.heap.size w w' := by
  unfold chkE at h
  by_cases h1 : 16384 < s.size
  · rw [if_pos h1] at h
    subst h
    have d0 : decide ((16384 : Int) < (s.size : Int)) = true := by simp; omega
    clear hm
    go_enter Tryz.func22, Tryz.ntmps22
    go_wp2_with fail
    go_ret
    exact ⟨rfl, Below.refl _ _⟩
  · rw [if_neg h1] at h
    have d0 : decide ((16384 : Int) < (s.size : Int)) = false := by simp; omega
    have d1 : ¬ (16384 < s.size) := h1
    have HQ := Lib.hid h
    clear h hm
    go_enter Tryz.func22, Tryz.ntmps22
    go_wp2_with fail
    go_loopg [3, 4] s.size (fun g x y wr => ∃ pos : Nat, s.size ≤ pos + g ∧ wr = w.iter s pos ∧ (pts (s.data.toList.drop pos)).isSome = (pts s.data.toList).isSome)
    case atStart => exact ⟨0, by omega, rfl, rfl⟩
    case round =>
      obtain ⟨pos, hg, rfl, hp⟩ := hrel
      have HP := Lib.hid hp
      clear hp
      by_cases hlt : pos < s.size
      · have hnx : ∀ ty, (Instr.next (.pointer (some ⟨w.heap.size, 0, none⟩)) true ty).run Tryz.prog (w.iter s pos) = _ := fun ty => run_next_any w s pos ty hlt
        have b0 : (0 : Int) ≤ (pos : Int) ∧ (pos : Int) ≤ (s.size : Int) := by omega
        have b1 : pos ≤ s.size := by omega
        obtain ⟨c, hc⟩ : ∃ c, runeL (s.data.toList.drop pos) = c := ⟨_, rfl⟩
        have HX := Lib.hid (extract_drop s pos)
        have HC := Lib.hid hc
        rw [step_rune s pos hlt, hc] at hnx
        cases ho : one (s.data.toList.drop pos) with
        | none =>
          have hq := HQ.out
          rw [← HP.out, step_none s pos hlt ho] at hq
          obtain rfl : (50 : Int) = q := hq
          have HO : Hid ((one (s.data.toList.drop pos)).isSome = false) := by show _ = _; rw [ho]; rfl
          clear hc ho
          go_wp2_with (go_at_call 37; (with_reducible refine (begins5 (s.data.toList.drop pos) _ c false _ HX.out HC.out HO.out).mono ?_); rintro e w1 ⟨rfl, rfl⟩)
          go_ret
          exact ⟨rfl, below_iter w s _⟩
        | some x =>
          obtain ⟨p, k⟩ := x
          obtain ⟨e1, e2, e3, e4, e5⟩ := step_some s pos p k hlt ho
          have HO : Hid ((one (s.data.toList.drop pos)).isSome = true) := by show _ = _; rw [ho]; rfl
          rw [e1] at hnx
          have HN : Hid ((pts (s.data.toList.drop (pos + k))).isSome = (pts s.data.toList).isSome) := by
            show _ = _
            rw [← HP.out, e5]
            simp
          clear hc ho e1 e2 e5
          go_wp2_with (go_at_call 37; (with_reducible refine (begins5 (s.data.toList.drop pos) _ c true _ HX.out HC.out HO.out).mono ?_); rintro e w1 ⟨rfl, rfl⟩)
          go_roundg (gk - 1)
          case rel => exact ⟨pos + k, by omega, rfl, HN.out⟩
          case measure => omega
      · have hnx : ∀ ty, (Instr.next (.pointer (some ⟨w.heap.size, 0, none⟩)) true ty).run Tryz.prog (w.iter s pos) = _ := fun ty => run_next_end w s pos ty hlt
        have hq := HQ.out
        rw [← HP.out, pts_end s pos hlt] at hq
        obtain rfl : (0 : Int) = q := hq
        go_wp2_with fail
        go_ret
        exact ⟨rfl, below_iter w s _⟩
end Hx
end Go.Proofs.YtichboamakgabaaGreatDoor
