/-
  The contract of the laws' helper 'alive' (the chapter's first example), and plain lemmas for the laws.
-/
import Derived.Test.YtmgdhkgkjimmoaaHexD
namespace Go.Proofs.Ytmgdhkgkjimmoaa
open Go.RowKit
namespace Hx

def S00ab : ByteArray := ⟨#[48, 48, 97, 98]⟩
theorem ok00ab : okS S00ab = true := by decide
theorem l00ab : getL S00ab.data.toList (S00ab.size / 2) = [0, 171] := by decide

/-- The good end of hex.Get alone. -/
def GetOk (s : ByteArray) (w : World) (e : Ending) (w' : World) : Prop :=
  Below w.heap.size w w' ∧ ∃ A c, e = .returned (.tuple #[.slice A (s.size / 2) c, .int .i64 0]) ∧ RdA w' w'.heap.size A (getL s.data.toList (s.size / 2))
theorem get_ok (s : ByteArray) (w : World) (hm : s.size ≤ 16384) (h : okS s = true) : Calls Try.prog 8 #[.string s] w (GetOk s w) :=
  (get_any s w hm).mono fun e w' ⟨hb, hh⟩ => by
    rcases hh with ⟨_, h1⟩ | ⟨h0, _⟩
    · exact ⟨hb, h1⟩
    · rw [h] at h0; cases h0
theorem get_bad (s : ByteArray) (w : World) (hm : s.size ≤ 16384) (h : okS s = false) :
    Calls Try.prog 8 #[.string s] w fun e w' => e = .returned (.tuple #[.slice none 0 0, .int .i64 10]) ∧ Below w.heap.size w w' :=
  (get_any s w hm).mono fun e w' ⟨hb, hh⟩ => by
    rcases hh with ⟨h0, _⟩ | ⟨_, h1⟩
    · rw [h] at h0; cases h0
    · exact ⟨h1, hb⟩

set_option maxHeartbeats 1000000 in
set_option maxRecDepth 100000 in
theorem alive_any (w : World) :
    Calls Try.prog 10 #[] w fun e w' => e = .returned (.bool true) ∧ Below w.heap.size w w' := by
  go_enter Try.func10, Try.ntmps10
  go_wp2_with (first
    | (go_at_call 8; refine (get_ok S00ab _ (by decide) ok00ab).mono ?_; rintro e w1 ⟨hb1, A, c, rfl, hrd⟩; rw [l00ab] at hrd; have HRD := Lib.hid hrd; clear hrd)
    | (go_at_call 11; refine (put_any (some ⟨w1.heap.size, 0, none⟩) 2 2 [0, 171] _ (RdA.newS w1 5 [0, 171]) rfl (by decide)).mono ?_; rintro e w2 ⟨rfl, hb2⟩; have hb3 := ((Below.refl w1.heap.size w1).alloc (Nat.le_refl _) _).trans (hb2.mono (by simp)); have hcv := conv_str (P := Try.prog) (c := c) (n := S00ab.size / 2) (HRD.out.below hb3) rfl Try.underlying22 Try.underlying5 Try.underlying9))
  go_ret
  exact ⟨rfl, hb1.trans (hb3.mono hb1.size)⟩

theorem nm_hx (n : Nat) (h : n < 16) : nm (hx n).toNat = n ∧ isD (hx n).toNat = true := by
  have all : ∀ j : Fin 16, nm (hx j.val).toNat = (j.val : Nat) ∧ isD (hx j.val).toNat = true := by decide
  exact all ⟨n, h⟩
theorem nm_none (c : Int) (h : isD c = false) : nm c = 0 := by
  unfold isD at h
  unfold nm
  simp only [decide_eq_false_iff_not] at h
  rw [if_neg (by omega), if_neg (by omega)]
theorem put_one (A : Option Addr) (cp : Nat) (c : UInt8) (w : World) (hr : RdA w w.heap.size A [c]) :
    Calls Try.prog 11 #[.slice A 1 cp] w fun e w' => e = .returned (.string ⟨#[hx (c.toNat / 16), hx (c.toNat % 16)]⟩) ∧ Below w.heap.size w w' := put_any A 1 cp [c] w hr rfl (by decide)
theorem digit_yes (c v : Int) (w : World) (h0 : 0 ≤ c) (h1 : c ≤ 255) (hn : nm c = v) (hd : isD c = true) :
    Calls Try.prog 9 #[.int .u8 c] w fun e w' => e = .returned (.tuple #[.int .i64 v, .bool true]) ∧ Below w.heap.size w w' := by
  have := digit_any c w h0 h1
  rw [hn, hd] at this
  exact this
theorem digit_no (c : Int) (w : World) (h0 : 0 ≤ c) (h1 : c ≤ 255) (hd : isD c = false) :
    Calls Try.prog 9 #[.int .u8 c] w fun e w' => e = .returned (.tuple #[.int .i64 0, .bool false]) ∧ Below w.heap.size w w' := by
  have := digit_any c w h0 h1
  rw [nm_none c hd, hd] at this
  exact this
theorem is_b (s : ByteArray) (n : Int) (b : Bool) (w : World) (h : (decide ((s.size : Int) = n) && allD s.data.toList) = b) :
    Calls Try.prog 12 #[.string s, .int .i64 n] w fun e w' => e = .returned (.bool b) ∧ Below w.heap.size w w' := by
  have := is_any s n w
  rw [h] at this
  exact this
theorem dig_low (n : Nat) : ((hx n).toNat : Int) ≤ 255 := by have := (hx n).toNat_lt; omega
theorem at0 (a b : UInt8) (h : 0 < (⟨#[a, b]⟩ : ByteArray).size) : (⟨#[a, b]⟩ : ByteArray)[0]'h = a := rfl
theorem at1 (a b : UInt8) (h : 1 < (⟨#[a, b]⟩ : ByteArray).size) : (⟨#[a, b]⟩ : ByteArray)[1]'h = b := rfl
end Hx
end Go.Proofs.Ytmgdhkgkjimmoaa
