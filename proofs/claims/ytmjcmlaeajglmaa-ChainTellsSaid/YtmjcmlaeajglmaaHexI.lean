/-
  The contract of hex.Is, where the texts on digests lie beside it.
-/
import Derived.Test.YtmjcmlaeajglmaaShaE
import Derived.Deep.LoopGhost
namespace Go.Proofs.Ytmjcmlaeajglmaa
open Go.RowKit
namespace Hx
def dg (j : Nat) : Int := if j < 10 then 48 + (j : Int) else 87 + (j : Int)
def isD (c : Int) : Bool := decide ((48 ≤ c ∧ c ≤ 57) ∨ (97 ≤ c ∧ c ≤ 102))
def nm (c : Int) : Int := if 48 ≤ c ∧ c ≤ 57 then c - 48 else if 97 ≤ c ∧ c ≤ 102 then c - 87 else 0

theorem DG_at : ∀ j : Nat, (h : j < DG.size) → (((DG[j]'h).toNat : Nat) : Int) = dg j := by
  intro j h
  have all : ∀ j : Fin 16, (((DG[j.val]'(by have := j.isLt; exact this)).toNat : Nat) : Int) = dg j.val := by decide
  exact all ⟨j, h⟩
theorem DG_low (j : Nat) (h : j < DG.size) : (DG[j]'h).toNat < 128 := by
  have e := DG_at j h
  have h' : j < 16 := h
  unfold dg at e
  split at e <;> omega
theorem DG_size : DG.size = 16 := rfl
theorem hit (c : Int) (j : Nat) (h : j < 16) (e : c = dg j) : nm c = j ∧ isD c = true := by
  subst e
  unfold dg nm isD
  by_cases h1 : j < 10
  · rw [if_pos h1, if_pos (by omega)]
    exact ⟨by omega, by simp; omega⟩
  · rw [if_neg h1, if_neg (by omega), if_pos (by omega)]
    exact ⟨by omega, by simp; omega⟩
theorem miss (c : Int) (h : ∀ j, j < 16 → c ≠ dg j) : nm c = 0 ∧ isD c = false := by
  have k : ¬ ((48 ≤ c ∧ c ≤ 57) ∨ (97 ≤ c ∧ c ≤ 102)) := by
    rintro (⟨a, b⟩ | ⟨a, b⟩)
    · exact h (c - 48).toNat (by omega) (by unfold dg; rw [if_pos (by omega)]; omega)
    · exact h (c - 87).toNat (by omega) (by unfold dg; rw [if_neg (by omega)]; omega)
  unfold nm isD
  rw [if_neg (by omega), if_neg (by omega)]
  exact ⟨rfl, by simpa using k⟩

set_option maxHeartbeats 1000000 in
set_option maxRecDepth 100000 in
/-- hex.number: the number of a digit, or none. -/
theorem number_any (c : Int) (w : World) :
    Calls Try.prog 42 #[.int .i32 c] w fun e w' => e = .returned (.tuple #[.int .i64 (nm c), .bool (isD c)]) ∧ Below w.heap.size w w' := by
  go_enter Try.func42, Try.ntmps42
  go_wp2
  go_loopw [] (fun wr => ∃ pos : Nat, pos ≤ 16 ∧ wr = w.iter DG pos ∧ ∀ j, j < pos → c ≠ dg j) (fun wr => 16 - wr.iterPos w.heap.size)
  case atStart => exact ⟨0, by omega, rfl, fun j h => absurd h (by omega)⟩
  case round =>
    obtain ⟨pos, hp, rfl, hno⟩ := hrel
    by_cases hlt : pos < DG.size
    · have hnx : ∀ ty, (Instr.next (.pointer (some ⟨w.heap.size, 0, none⟩)) true ty).run Try.prog (w.iter DG pos) = _ := fun ty => run_next_ascii w DG pos ty hlt (DG_low pos hlt)
      rw [DG_at pos hlt] at hnx
      by_cases he : c = dg pos
      · have hq := hit c pos hlt he
        have hb : (c == dg pos) = true := by simpa using he
        have HQ := Lib.hid hq
        clear hq he hno
        go_wp2
        go_ret2
        exact ⟨ret_ib HQ.out.1.symm HQ.out.2.symm, (Below.refl _ _).alloc (Nat.le_refl _) _⟩
      · have hb : (c == dg pos) = false := by simpa using he
        have HN : Hid (∀ j, j < pos + 1 → c ≠ dg j) := by
          intro j hj
          by_cases e : j = pos
          · subst e; exact he
          · exact hno j (by omega)
        clear he hno
        go_wp2
        go_roundw
        case rel => exact ⟨pos + 1, hlt, rfl, HN.out⟩
        case measure =>
          rw [DG_size] at hlt
          simp
          omega
    · have hnx : ∀ ty, (Instr.next (.pointer (some ⟨w.heap.size, 0, none⟩)) true ty).run Try.prog (w.iter DG pos) = _ := fun ty => run_next_end w DG pos ty hlt
      have HQ := Lib.hid (miss c (fun j hj => hno j (by rw [DG_size] at hlt; omega)))
      clear hno
      go_wp2
      go_ret2
      exact ⟨ret_ib HQ.out.1.symm HQ.out.2.symm, (Below.refl _ _).alloc (Nat.le_refl _) _⟩

def isd (c : UInt8) : Bool := isD c.toNat
def allD (l : List UInt8) : Bool := l.all isd

theorem isD_high {c : Int} (h : 103 ≤ c) : isD c = false := by unfold isD; simp; omega
theorem nm_high {c : Int} (h : 103 ≤ c) : nm c = 0 := by unfold nm; rw [if_neg (by omega), if_neg (by omega)]

/-- What a range over a string meets at place pos: a rune that is a digit just where the byte is one, of that byte's number; then one byte wide. -/
theorem rune_at (s : ByteArray) (pos : Nat) (h : pos < s.size) : ∃ r wd : Nat, Utf8.decode s pos = (r, wd) ∧ isD r = isd (s[pos]'h) ∧ nm r = nm (s[pos]'h).toNat ∧ (isd (s[pos]'h) = true → wd = 1) := by
  by_cases ha : (s[pos]'h).toNat < 128
  · exact ⟨_, _, decode_ascii s pos h ha, rfl, rfl, fun _ => rfl⟩
  · have hh := decode_high s pos h (by omega)
    rcases hq : Utf8.decode s pos with ⟨r, wd⟩
    rw [hq] at hh
    simp only at hh
    refine ⟨r, wd, rfl, ?_, ?_, fun e => ?_⟩
    · unfold isd; rw [isD_high (by omega), isD_high (by omega)]
    · rw [nm_high (by omega), nm_high (by omega)]
    · unfold isd at e; rw [isD_high (by omega)] at e; cases e

theorem take_all (s : ByteArray) (pos : Nat) (h : pos < s.size) (a : allD (s.data.toList.take pos) = true) (b : isd (s[pos]'h) = true) : allD (s.data.toList.take (pos + 1)) = true := by
  unfold allD at *
  rw [List.take_succ_eq_append_getElem (by simpa using h), List.all_append, a]
  simp only [List.all_cons, List.all_nil, Bool.and_true, Bool.true_and]
  exact b
theorem not_all (s : ByteArray) (pos : Nat) (h : pos < s.size) (b : isd (s[pos]'h) = false) : allD s.data.toList = false := by
  unfold allD
  rw [List.all_eq_false]
  exact ⟨s[pos]'h, by simp [ByteArray.getElem_eq_getElem_data], by simp [b]⟩

set_option maxHeartbeats 1000000 in
set_option maxRecDepth 100000 in
/-- hex.Is. -/
theorem is_any (s : ByteArray) (n : Int) (w : World) :
    Calls Try.prog 28 #[.string s, .int .i64 n] w fun e w' => e = .returned (.bool (decide ((s.size : Int) = n) && allD s.data.toList)) ∧ Below w.heap.size w w' := by
  by_cases hn : (s.size : Int) = n
  · subst hn
    go_enter Try.func28, Try.ntmps28
    go_wp2
    go_loopw [] (fun wr => ∃ pos : Nat, pos ≤ s.size ∧ wr.heap[w.heap.size]? = some (.stringIter s pos) ∧ Below w.heap.size w wr ∧ allD (s.data.toList.take pos) = true) (fun wr => s.size - wr.iterPos w.heap.size)
    case atStart => exact ⟨0, Nat.zero_le _, World.iter_heap w s 0, (Below.refl _ _).alloc (Nat.le_refl _) _, rfl⟩
    case round =>
      obtain ⟨pos, hp, hit, hbw, hall⟩ := hrel
      have hsz : w.heap.size < wr.heap.size := (Array.getElem?_eq_some_iff.1 hit).1
      have HA := Lib.hid hall
      clear hall
      by_cases hlt : pos < s.size
      · obtain ⟨r, wd, hdec, hd, _, hw1⟩ := rune_at s pos hlt
        have hnx : ∀ ty, (Instr.next (.pointer (some ⟨w.heap.size, 0, none⟩)) true ty).run Try.prog wr = _ := fun ty => Lib.run_next_any_at wr w.heap.size s pos ty hit hlt
        rw [hdec] at hnx
        have HD := Lib.hid hdec
        clear hdec
        cases hdg : isd (s[pos]'hlt)
        · rw [hdg] at hd
          have HG := Lib.hid hdg
          have HR := Lib.hid hd
          have hit2 := Lib.iterAt_heap wr w.heap.size s pos (pos + wd) hit
          have hbw2 := Lib.below_iterAt hbw (k := w.heap.size) (Nat.le_refl _) s (pos + wd)
          have hsz2 : w.heap.size < (wr.iterAt w.heap.size s (pos + wd)).heap.size := by rw [Lib.iterAt_size]; exact hsz
          clear hdg hd hit hbw hw1 hsz
          go_wp2_with (go_at_call 42; refine (number_any _ _).mono ?_; rintro e w1 ⟨rfl, hb1⟩; rw [HR.out])
          have e := Lib.hid (not_all s pos hlt HG.out)
          go_wp2
          go_ret
          exact ⟨ret_b (by rw [e.out]; simp), hbw2.trans (hb1.mono (by omega))⟩
        · rw [hdg] at hd
          obtain rfl := hw1 hdg
          have HG := Lib.hid hdg
          have HR := Lib.hid hd
          have hit2 := Lib.iterAt_heap wr w.heap.size s pos (pos + 1) hit
          have hbw2 := Lib.below_iterAt hbw (k := w.heap.size) (Nat.le_refl _) s (pos + 1)
          have hsz2 : w.heap.size < (wr.iterAt w.heap.size s (pos + 1)).heap.size := by rw [Lib.iterAt_size]; exact hsz
          have HP := Lib.hid (iterPos_of hit)
          clear hdg hd hit hbw hw1 hsz
          go_wp2_with (go_at_call 42; refine (number_any _ _).mono ?_; rintro e w1 ⟨rfl, hb1⟩; rw [HR.out])
          have hit3 : w1.heap[w.heap.size]? = some (.stringIter s (pos + 1)) := (hb1.block _ hsz2).trans hit2
          go_roundw
          case rel => exact ⟨pos + 1, hlt, hit3, hbw2.trans (hb1.mono (by omega)), take_all s pos hlt HA.out HG.out⟩
          case measure =>
            rw [iterPos_of hit3, HP.out]
            omega
      · have hnx : ∀ ty, (Instr.next (.pointer (some ⟨w.heap.size, 0, none⟩)) true ty).run Try.prog wr = _ := fun ty => Lib.run_next_end_at wr w.heap.size s pos ty hit hlt
        have hpp : pos = s.size := by omega
        subst hpp
        clear hlt hp hit
        go_wp2
        go_ret
        have e := HA.out
        rw [List.take_of_length_le (by simp)] at e
        exact ⟨ret_b (by rw [e]; simp), hbw⟩
  · have e : decide ((s.size : Int) = n) = false := by simpa using hn
    have E := Lib.hid e
    clear e
    have hn2 : ((s.size : Int) == n) = false := by simpa using hn
    have hn3 : ((s.size : Int) != n) = true := by simpa using hn
    clear hn
    go_enter Try.func28, Try.ntmps28
    go_wp2
    go_ret
    exact ⟨ret_b (by rw [E.out]; rfl), Below.refl _ _⟩
end Hx
end Go.Proofs.Ytmjcmlaeajglmaa
