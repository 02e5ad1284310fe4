/-
  Texts of one seat, put together: EscB.
-/
import Derived.Test.YtichboamakgabaaGreatDoorG13
import Derived.Test.YtichboamakgabaaGreatDoorG12
import Derived.Test.YtichboamakgabaaGreatDoorG05
import Derived.Test.YtichboamakgabaaGreatDoorG14
namespace Go.Proofs.YtichboamakgabaaGreatDoor
open Go.RowKit
namespace Hx
open Tx Nmb Es
set_option linter.unusedVariables false
theorem putR_lits {s t : ByteArray} {q : Bool} {e : Int} (h : putR s q = (t, e)) : e = 0 ∨ e = 4 ∨ e = 50 := by
  unfold putR at h
  rcases chk_lits s with k | k | k
  · rw [if_neg (by simpa using k)] at h
    split at h <;> cases h
    · exact .inr (.inl rfl)
    · exact .inl rfl
  · rw [if_pos (by rw [k]; decide), k] at h; cases h; exact .inr (.inl rfl)
  · rw [if_pos (by rw [k]; decide), k] at h; cases h; exact .inr (.inr rfl)
set_option maxHeartbeats 4000000 in
set_option maxRecDepth 100000 in
theorem put8 (s t : ByteArray) (q : Bool) (e : Int) (w : World) (hm : s.size ≤ 1000000) (h : putR s q = (t, e)) :
    Calls Tryz.prog 59 #[.string s, .bool q] w fun e' w' => e' = .returned (.tuple #[.string t, .int .i64 e]) ∧ Below w.heap.size w w' := by
  have HM := Lib.hid hm
  unfold putR at h
  by_cases h0 : chkE s = 0
  · rw [if_neg (by simpa using h0)] at h
    obtain ⟨x, hx⟩ : ∃ x, escS q s = x := ⟨_, rfl⟩
    rw [hx] at h
    have HX := Lib.hid hx
    have HH := Lib.hid h
    have HC := Lib.hid h0
    have hxm : x.size ≤ 6000000 := by rw [← hx]; have := (escS_size q s).2; omega
    have HXM := Lib.hid hxm
    clear hm h hx h0 hxm
    go_enter Tryz.func59, Tryz.ntmps59
    go_wp2_with (first
      | (go_at_call 22; (with_reducible refine (check5 s w HM.out 0 HC.out).mono ?_); rintro e1 w1 ⟨rfl, hb1⟩)
      | (go_at_call 81; (with_reducible refine (signs8 w1).mono ?_); rintro e2 w2 ⟨rfl, hw2⟩; have HMp : Hid (w2.heap[w1.heap.size]? = some (.map SG 7)) := Lib.hid (by rw [hw2]; exact heap_alloc_new w1 _); have HB2 : Hid (Below w.heap.size w w2) := Lib.hid (by rw [hw2]; exact hb1.alloc hb1.size _); have HLt : Hid (w1.heap.size < w2.heap.size) := Lib.hid (by rw [hw2]; simp); clear hw2)
      | fail)
    go_loopg [9, 10, 11, 20] s.size (fun gg x9 x10 x11 i wr => ∃ k : Nat, k + gg = s.size ∧ i = .int .i64 k ∧ Bld w2.heap.size w2.heap.size (escL q (s.data.toList.take k)) wr ∧ Below w2.heap.size w2 wr)
    case atStart => exact ⟨0, by omega, rfl, bld_new w2, (Below.refl _ _).alloc (Nat.le_refl _) _⟩
    case round =>
      obtain ⟨k, hk, rfl, hbl, hbw⟩ := hrel
      have hMM := HM.out
      have hsz := hbw.size
      have HBL := Lib.hid hbl
      have HBW := Lib.hid hbw
      by_cases hlt : k < s.size
      · obtain ⟨c, hc, hat⟩ := byte_at8 s k hlt
        have bk : (0 : Int) ≤ (k : Int) ∧ (k : Int) < (s.size : Int) := by omega
        obtain ⟨rf, qd, iss, hsg⟩ : ∃ rf qd iss, sgT c = (rf, qd, iss) := ⟨_, _, _, rfl⟩
        have HE : Hid (escL q (s.data.toList.take (k + 1)) = escL q (s.data.toList.take k) ++ if iss && (q || !qd) then rf.data.toList else [c]) := by
          show _ = _
          rw [take_next8 hc, escL_snoc, sgT_escb, hsg]
        have HRF : Hid (rf.size ≤ 6) := by
          show _ ≤ _
          have h1 : (sgT c).1.size ≤ 6 := u8_every (fun c => (sgT c).1.size ≤ 6) (by decide +kernel) c
          rw [hsg] at h1
          exact h1
        have HLen : Hid ((escL q (s.data.toList.take k)).length ≤ 6000000) := by
          show _ ≤ _
          have := (escL_len q (s.data.toList.take k)).2
          rw [List.length_take] at this
          omega
        have HLk : Hid (∀ W, Below w2.heap.size w2 W → (Instr.lookup 104 (.map (some w1.heap.size)) (.int .u8 (c.toNat : Int)) true).run Tryz.prog W = .ok (.tuple #[.agg #[.string rf, .bool qd], .bool iss]) W) := by
          intro W hW
          rw [look8 c W _ (kept_at HMp.out hW HLt.out), hsg]
        clear hbl hbw hc hsg
        cases iss <;> cases q <;> cases qd
        all_goals
          go_wp2_with (first
            | (refine wpList_look rfl _ _ _ rfl rfl rfl (HLk.out _ HBW.out) ?_)
            | (go_at_call 82; refine (bwb w2.heap.size w2.heap.size _ c _ (HBL.out.alloc _) (by have := HLen.out; omega) (by simp; omega)).mono ?_; rintro e4 w4 ⟨rfl, hbl4, hb4⟩; have HBL4 := Lib.hid hbl4; have HB4 := Lib.hid hb4; clear hbl4 hb4)
            | (go_at_call 44; refine (bws w2.heap.size w2.heap.size _ rf _ (HBL.out.alloc _) (by have := HLen.out; have := HRF.out; omega) (by simp; omega)).mono ?_; rintro e4 w4 ⟨rfl, hbl4, hb4⟩; have HBL4 := Lib.hid hbl4; have HB4 := Lib.hid hb4; clear hbl4 hb4)
            | fail)
          go_roundg (gk - 1)
          case rel =>
            refine ⟨k + 1, by omega, by go_num, ?_, ?_⟩
            · rw [HE.out]
              exact HBL4.out
            · exact (HBW.out.alloc hsz _).trans HB4.out
          case measure => omega
      · obtain rfl : s.size = k := by omega
        have htk : s.data.toList.take s.size = s.data.toList := List.take_of_length_le (by rw [ba_len5]; exact Nat.le_refl _)
        have hbl2 : Bld w2.heap.size w2.heap.size x.data.toList wr := by
          have e2 : escL q (s.data.toList.take s.size) = x.data.toList := by rw [htk, ← HX.out]; rfl
          rw [← e2]
          exact hbl
        have HBL2 := Lib.hid hbl2
        clear hbl hbw htk hbl2 HBL
        have hXM := HXM.out
        have hB : Below w.heap.size w wr := bel_in HB2.out HBW.out HB2.out.size
        by_cases h16 : 16384 < x.size
        · have hh := HH.out
          rw [if_pos h16] at hh
          obtain ⟨rfl, rfl⟩ : (⟨#[]⟩ : ByteArray) = t ∧ (4 : Int) = e := by cases hh; exact ⟨rfl, rfl⟩
          have d0 : decide ((16384 : Int) < (x.size : Int)) = true := by simp; omega
          clear hh HH h16
          go_wp2_with (first
            | (go_at_call 26; refine (bln w2.heap.size w2.heap.size x wr HBL2.out).mono ?_; rintro e4 w4 ⟨rfl, rfl⟩)
            | fail)
          go_ret2
          exact ⟨rfl, hB⟩
        · have hh := HH.out
          rw [if_neg h16] at hh
          obtain ⟨rfl, rfl⟩ : x = t ∧ (0 : Int) = e := by cases hh; exact ⟨rfl, rfl⟩
          have d0 : decide ((16384 : Int) < (x.size : Int)) = false := by simp; omega
          clear hh HH h16
          go_wp2_with (first
            | (go_at_call 26; refine (bln w2.heap.size w2.heap.size x wr HBL2.out).mono ?_; rintro e4 w4 ⟨rfl, rfl⟩)
            | (go_at_call 27; refine (bst w2.heap.size w2.heap.size x wr HBL2.out hsz).mono ?_; rintro e5 w5 ⟨rfl, hbl5, hb5⟩)
            | fail)
          go_ret2
          exact ⟨rfl, bel_in hB hb5 HB2.out.size⟩
  · rw [if_pos h0] at h
    obtain ⟨rfl, he⟩ : (⟨#[]⟩ : ByteArray) = t ∧ chkE s = e := by cases h; exact ⟨rfl, rfl⟩
    have q0 : (e == 0) = false := by rw [← he]; simpa using h0
    have q1 : (e != 0) = true := by rw [← he]; simpa using h0
    have HC := Lib.hid he
    clear h h0 hm he
    go_enter Tryz.func59, Tryz.ntmps59
    go_wp2_with (first
      | (go_at_call 22; (with_reducible refine (check5 s w HM.out e HC.out).mono ?_); rintro e1 w1 ⟨rfl, hb1⟩)
      | fail)
    go_ret2
    exact ⟨rfl, hb1⟩
end Hx
end Go.Proofs.YtichboamakgabaaGreatDoor
