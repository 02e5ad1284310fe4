/-
  Contracts of hex.Is and hex.Put.
-/
import Derived.Test.YtmgdhkgkjimmoaaHexA
import Derived.Deep.LoopGhost
namespace Go.Proofs.Ytmgdhkgkjimmoaa
open Go.RowKit
namespace Hx

def dig (c : UInt8) : Bool := isD c.toNat
def allD (l : List UInt8) : Bool := l.all dig

theorem isD_high {c : Int} (h : 103 ≤ c) : isD c = false := by unfold isD; simp; omega
theorem nm_high {c : Int} (h : 103 ≤ c) : nm c = 0 := by unfold nm; rw [if_neg (by omega), if_neg (by omega)]

/-- What a range over a string meets at place pos: a rune that is a digit just where the byte is one, of that byte's number; then one byte wide. -/
theorem rune_at (s : ByteArray) (pos : Nat) (h : pos < s.size) : ∃ r wd : Nat, Utf8.decode s pos = (r, wd) ∧ isD r = dig (s[pos]'h) ∧ nm r = nm (s[pos]'h).toNat ∧ (dig (s[pos]'h) = true → wd = 1) := by
  by_cases ha : (s[pos]'h).toNat < 128
  · exact ⟨_, _, decode_ascii s pos h ha, rfl, rfl, fun _ => rfl⟩
  · have hh := decode_high s pos h (by omega)
    rcases hq : Utf8.decode s pos with ⟨r, wd⟩
    rw [hq] at hh
    simp only at hh
    refine ⟨r, wd, rfl, ?_, ?_, fun e => ?_⟩
    · unfold dig; rw [isD_high (by omega), isD_high (by omega)]
    · rw [nm_high (by omega), nm_high (by omega)]
    · unfold dig at e; rw [isD_high (by omega)] at e; cases e

theorem take_all (s : ByteArray) (pos : Nat) (h : pos < s.size) (a : allD (s.data.toList.take pos) = true) (b : dig (s[pos]'h) = true) : allD (s.data.toList.take (pos + 1)) = true := by
  unfold allD at *
  rw [List.take_succ_eq_append_getElem (by simpa using h), List.all_append, a]
  simp only [List.all_cons, List.all_nil, Bool.and_true, Bool.true_and]
  exact b
theorem not_all (s : ByteArray) (pos : Nat) (h : pos < s.size) (b : dig (s[pos]'h) = false) : allD s.data.toList = false := by
  unfold allD
  rw [List.all_eq_false]
  exact ⟨s[pos]'h, by simp [ByteArray.getElem_eq_getElem_data], by simp [b]⟩

set_option maxHeartbeats 1000000 in
set_option maxRecDepth 100000 in
/-- hex.Is. -/
theorem is_any (s : ByteArray) (n : Int) (w : World) :
    Calls Try.prog 12 #[.string s, .int .i64 n] w fun e w' => e = .returned (.bool (decide ((s.size : Int) = n) && allD s.data.toList)) ∧ Below w.heap.size w w' := by
  by_cases hn : (s.size : Int) = n
  · subst hn
    go_enter Try.func12, Try.ntmps12
    go_wp2
    go_loopw [] (fun wr => ∃ pos : Nat, pos ≤ s.size ∧ wr.heap[w.heap.size]? = some (.stringIter s pos) ∧ Below w.heap.size w wr ∧ allD (s.data.toList.take pos) = true) (fun wr => s.size - wr.iterPos w.heap.size)
    case atStart => exact ⟨0, Nat.zero_le _, World.iter_heap w s 0, (Below.refl _ _).alloc (Nat.le_refl _) _, rfl⟩
    case round =>
      obtain ⟨pos, hp, hit, hbw, hall⟩ := hrel
      have hsz : w.heap.size < wr.heap.size := (Array.getElem?_eq_some_iff.1 hit).1
      have HA := Lib.hid hall
      clear hall
      by_cases hlt : pos < s.size
      · obtain ⟨r, wd, hdec, hd, _, hw1⟩ := rune_at s pos hlt
        have hnx : ∀ ty, (Instr.next (.pointer (some ⟨w.heap.size, 0, none⟩)) true ty).run Try.prog wr = _ := fun ty => Lib.run_next_any_at wr w.heap.size s pos ty hit hlt
        rw [hdec] at hnx
        have HD := Lib.hid hdec
        clear hdec
        cases hdg : dig (s[pos]'hlt)
        · rw [hdg] at hd
          have HG := Lib.hid hdg
          have HR := Lib.hid hd
          have hit2 := Lib.iterAt_heap wr w.heap.size s pos (pos + wd) hit
          have hbw2 := Lib.below_iterAt hbw (k := w.heap.size) (Nat.le_refl _) s (pos + wd)
          have hsz2 : w.heap.size < (wr.iterAt w.heap.size s (pos + wd)).heap.size := by rw [Lib.iterAt_size]; exact hsz
          clear hdg hd hit hbw hw1 hsz
          go_wp2_with (go_at_call 17; refine (number_any _ _).mono ?_; rintro e w1 ⟨rfl, hb1⟩; rw [HR.out])
          have e := Lib.hid (not_all s pos hlt HG.out)
          go_wp2
          go_ret
          exact ⟨ret_b (by rw [e.out]; simp), hbw2.trans (hb1.mono (by omega))⟩
        · rw [hdg] at hd
          obtain rfl := hw1 hdg
          have HG := Lib.hid hdg
          have HR := Lib.hid hd
          have hit2 := Lib.iterAt_heap wr w.heap.size s pos (pos + 1) hit
          have hbw2 := Lib.below_iterAt hbw (k := w.heap.size) (Nat.le_refl _) s (pos + 1)
          have hsz2 : w.heap.size < (wr.iterAt w.heap.size s (pos + 1)).heap.size := by rw [Lib.iterAt_size]; exact hsz
          have HP := Lib.hid (iterPos_of hit)
          clear hdg hd hit hbw hw1 hsz
          go_wp2_with (go_at_call 17; refine (number_any _ _).mono ?_; rintro e w1 ⟨rfl, hb1⟩; rw [HR.out])
          have hit3 : w1.heap[w.heap.size]? = some (.stringIter s (pos + 1)) := (hb1.block _ hsz2).trans hit2
          go_roundw
          case rel => exact ⟨pos + 1, hlt, hit3, hbw2.trans (hb1.mono (by omega)), take_all s pos hlt HA.out HG.out⟩
          case measure =>
            rw [iterPos_of hit3, HP.out]
            omega
      · have hnx : ∀ ty, (Instr.next (.pointer (some ⟨w.heap.size, 0, none⟩)) true ty).run Try.prog wr = _ := fun ty => Lib.run_next_end_at wr w.heap.size s pos ty hit hlt
        have hpp : pos = s.size := by omega
        subst hpp
        clear hlt hp hit
        go_wp2
        go_ret
        have e := HA.out
        rw [List.take_of_length_le (by simp)] at e
        exact ⟨ret_b (by rw [e]; simp), hbw⟩
  · have e : decide ((s.size : Int) = n) = false := by simpa using hn
    have E := Lib.hid e
    clear e
    have hn2 : ((s.size : Int) == n) = false := by simpa using hn
    have hn3 : ((s.size : Int) != n) = true := by simpa using hn
    clear hn
    go_enter Try.func12, Try.ntmps12
    go_wp2
    go_ret
    exact ⟨ret_b (by rw [E.out]; rfl), Below.refl _ _⟩
end Hx
end Go.Proofs.Ytmgdhkgkjimmoaa
