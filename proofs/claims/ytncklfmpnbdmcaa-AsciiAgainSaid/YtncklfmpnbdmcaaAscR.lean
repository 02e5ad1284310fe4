/-
  Contracts of the document's own answers for layer 7 (tidewaiterref07): Lower, Same, blank, Trim, in, Token, Plain.
-/
import Derived.Test.YtncklfmpnbdmcaaAscM
import Derived.Test.YtncklfmpnbdmcaaMem
import Derived.Test.YtncklfmpnbdmcaaMemG
import Derived.IntWalk
import Derived.OwnWalk
import Derived.Deep.LoopGhost
namespace Go.Proofs.Ytncklfmpnbdmcaa
open Go.RowKit
namespace Hx
open As
set_option linter.unusedVariables false
theorem ba_len7 (s : ByteArray) : s.data.toList.length = s.size := by cases s; simp [ByteArray.size]
theorem ba_eq7 (s : ByteArray) : s = ⟨s.data.toList.toArray⟩ := by cases s; simp
theorem ba_ext7 {s t : ByteArray} (h : s.data.toList = t.data.toList) : s = t := by
  cases s; cases t
  simpa using h
theorem seq_b7 (a b : ByteArray) : (a.toList == b.toList) = decide (a = b) := by
  rw [Bool.eq_iff_iff, beq_iff_eq, decide_eq_true_eq, ByteArray.toList_eq, ByteArray.toList_eq]
  exact ⟨fun h => ba_ext7 h, fun h => by rw [h]⟩
theorem infoU8' : (Try.prog.info? 5).map (fun i => (i.zero, i.size, i.bytes)) = some (some (.int .u8 0), 1, 1) := by kernel_rfl
theorem byte_at (s : ByteArray) (k : Nat) (h : k < s.size) : ∃ c, s.data.toList[k]? = some c ∧ ∀ (h : k < s.size), s[k]'h = c := by
  refine ⟨s[k]'h, ?_, fun _ => rfl⟩
  have e : k < s.data.toList.length := by rw [ba_len7]; exact h
  rw [List.getElem?_eq_getElem e]
  rfl
theorem take_next {l : List UInt8} {k : Nat} {c : UInt8} (h : l[k]? = some c) : l.take (k + 1) = l.take k ++ [c] := by
  obtain ⟨hk, e⟩ := List.getElem?_eq_some_iff.1 h
  rw [List.take_succ_eq_append_getElem hk, e]
theorem lows_snoc (l : List UInt8) (c : UInt8) : lows (l ++ [c]) = lows l ++ [low c] := by simp [lows]
/-- A text with small letters. -/
def lowS (s : ByteArray) : ByteArray := ⟨(lows s.data.toList).toArray⟩
def trimS (s : ByteArray) : ByteArray := ⟨(trim s.data.toList).toArray⟩
set_option maxHeartbeats 4000000 in
set_option maxRecDepth 100000 in
/-- ref.Lower. -/
theorem rlower7 (s t : ByteArray) (w : World) (hm : s.size ≤ 1000000) (ht : lowS s = t) :
    Calls Try.prog 16 #[.string s] w fun e w' => e = .returned (.string t) ∧ Below w.heap.size w w' := by
  obtain ⟨i0, hi, hz0, hz1, hz2⟩ := info_parts infoU8'
  have HI := Lib.hid hi
  have HZ0 := Lib.hid hz0
  have HZ1 := Lib.hid hz1
  have HZ2 := Lib.hid hz2
  have HM := Lib.hid hm
  have HT := Lib.hid ht
  clear hi hz0 hz1 hz2 hm ht
  go_enter Try.func16, Try.ntmps16
  go_wp2_with fail
  go_loopw [3, 4] (fun v i wr => ∃ k : Nat, k ≤ s.size ∧ i = .int .i64 k ∧ wr.ownsRow w.heap.size 5 1 v k (Lib.byteCells (lows (s.data.toList.take k))) ∧ Below w.heap.size w wr) (fun _ i _ => s.size - (intOf i).toNat)
  case atStart => exact ⟨0, Nat.zero_le _, rfl, World.ownsRow_nil _ _ _ _, Below.refl _ _⟩
  case round =>
    obtain ⟨k, hk, rfl, hown, hbw⟩ := hrel
    have HO := Lib.hid hown
    have HBW := Lib.hid hbw
    have hsz := hbw.size
    have hMM := HM.out
    by_cases hlt : k < s.size
    · obtain ⟨c, hc, hat⟩ := byte_at s k hlt
      have bk : (0 : Int) ≤ (k : Int) ∧ (k : Int) < (s.size : Int) := by omega
      have hcl := c.toNat_lt
      obtain ⟨x, hx⟩ : ∃ x, low c = x := ⟨_, rfl⟩
      have hxn := low_nat c
      rw [hx] at hxn
      have HNX : Hid (Lib.byteCells (lows (s.data.toList.take (k + 1))) = Lib.byteCells (lows (s.data.toList.take k)) ++ Lib.byteCells [x]) := by
        show _ = _
        rw [take_next hc, lows_snoc, hx, Lib.byteCells_append]
      clear hown hbw hc
      by_cases h1 : 65 ≤ c.toNat ∧ c.toNat ≤ 90
      · rw [if_pos h1] at hxn
        have d1 : decide ((65 : Int) ≤ (c.toNat : Int)) = true := by simp; omega
        have d2 : decide ((c.toNat : Int) ≤ 90) = true := by simp; omega
        have d1' : 65 ≤ c.toNat := h1.1
        have d2' : c.toNat ≤ 90 := h1.2
        have g1 : IntKind.u8.wrap ((c.toNat : Int) + 32) = (x.toNat : Int) := by rw [IntWalk.u8_in _ (by omega)]; omega
        clear hx hxn h1
        go_wp2_with (first
          | (at_builtin; refine wpList_append_rd rfl (.tmp 23) (.tmp 25) 43 rfl w.heap.size 5 i0 (.int .u8 0) Try.underlying43 HI.out HZ0.out HZ1.out HZ2.out rfl _ k _ rfl (HO.out.alloc (.cells #[.int .u8 x.toNat] 5)) (wr.heap.size + 1) (some ⟨wr.heap.size, 0, none⟩) 1 1 [x] rfl (RdA.new wr 5 [x]) rfl (fun h => by cases h) (by omega) (by rw [World.size_alloc]; omega) ?_; intro v4 w4 hown4 hgr4; have HO4 := Lib.hid hown4; have HG4 := Lib.hid hgr4; clear hown4 hgr4)
          | fail)
        have hb4 : Below w.heap.size w w4 := (HBW.out.alloc hsz _).grown HG4.out (by rw [World.size_alloc]; omega) (fun g hg => (HO.out.lt g hg).1)
        go_roundw
        case rel =>
          refine ⟨k + 1, hlt, by go_num, ?_, hb4⟩
          rw [HNX.out]
          exact HO4.out
        case measure => simp [intOf]; omega
      · rw [if_neg h1] at hxn
        obtain rfl : c = x := UInt8.toNat_inj.1 hxn.symm
        clear hx hxn
        by_cases h2 : 65 ≤ c.toNat
        · have d1 : decide ((65 : Int) ≤ (c.toNat : Int)) = true := by simp; omega
          have d2 : decide ((c.toNat : Int) ≤ 90) = false := by simp; omega
          have d2' : ¬ c.toNat ≤ 90 := by omega
          clear h1
          go_wp2_with (first
            | (at_builtin; refine wpList_append_rd rfl (.tmp 23) (.tmp 25) 43 rfl w.heap.size 5 i0 (.int .u8 0) Try.underlying43 HI.out HZ0.out HZ1.out HZ2.out rfl _ k _ rfl (HO.out.alloc (.cells #[.int .u8 c.toNat] 5)) (wr.heap.size + 1) (some ⟨wr.heap.size, 0, none⟩) 1 1 [c] rfl (RdA.new wr 5 [c]) rfl (fun h => by cases h) (by omega) (by rw [World.size_alloc]; omega) ?_; intro v4 w4 hown4 hgr4; have HO4 := Lib.hid hown4; have HG4 := Lib.hid hgr4; clear hown4 hgr4)
            | fail)
          have hb4 : Below w.heap.size w w4 := (HBW.out.alloc hsz _).grown HG4.out (by rw [World.size_alloc]; omega) (fun g hg => (HO.out.lt g hg).1)
          go_roundw
          case rel =>
            refine ⟨k + 1, hlt, by go_num, ?_, hb4⟩
            rw [HNX.out]
            exact HO4.out
          case measure => simp [intOf]; omega
        · have d1 : decide ((65 : Int) ≤ (c.toNat : Int)) = false := by simp; omega
          clear h1
          go_wp2_with (first
            | (at_builtin; refine wpList_append_rd rfl (.tmp 23) (.tmp 25) 43 rfl w.heap.size 5 i0 (.int .u8 0) Try.underlying43 HI.out HZ0.out HZ1.out HZ2.out rfl _ k _ rfl (HO.out.alloc (.cells #[.int .u8 c.toNat] 5)) (wr.heap.size + 1) (some ⟨wr.heap.size, 0, none⟩) 1 1 [c] rfl (RdA.new wr 5 [c]) rfl (fun h => by cases h) (by omega) (by rw [World.size_alloc]; omega) ?_; intro v4 w4 hown4 hgr4; have HO4 := Lib.hid hown4; have HG4 := Lib.hid hgr4; clear hown4 hgr4)
            | fail)
          have hb4 : Below w.heap.size w w4 := (HBW.out.alloc hsz _).grown HG4.out (by rw [World.size_alloc]; omega) (fun g hg => (HO.out.lt g hg).1)
          go_roundw
          case rel =>
            refine ⟨k + 1, hlt, by go_num, ?_, hb4⟩
            rw [HNX.out]
            exact HO4.out
          case measure => simp [intOf]; omega
    · obtain rfl : k = s.size := by omega
      obtain ⟨A', c', rfl⟩ := own_form hown
      have hrd := (RdA.of_own hown).1
      rw [List.take_of_length_le (by rw [ba_len7]; exact Nat.le_refl _)] at hrd
      have cv := conv_str (P := Try.prog) (n := s.size) (c := c') hrd (by rw [lows_length, ba_len7]) Try.underlying43 Try.underlying5 Try.underlying9
      have ht2 : (⟨(lows s.data.toList).toArray⟩ : ByteArray) = t := HT.out
      rw [ht2] at cv
      clear hown hbw hrd HO ht2
      go_wp2_with fail
      go_ret
      exact ⟨rfl, HBW.out⟩
set_option maxRecDepth 100000 in
/-- ref.blank. -/
theorem rblank7 (c : UInt8) (b : Bool) (w : World) (h : blk c = b) :
    Calls Try.prog 29 #[.int .u8 c.toNat] w fun e w' => e = .returned (.bool b) ∧ w = w' := by
  unfold blk at h
  by_cases h1 : c.toNat = 32
  · have d1 : ((c.toNat : Int) == 32) = true := by simp; omega
    obtain rfl : true = b := by rw [← h, h1]; rfl
    clear h h1
    go_enter Try.func29, Try.ntmps29
    go_wp2_with fail
    go_ret
    exact ⟨rfl, rfl⟩
  · have d1 : ((c.toNat : Int) == 32) = false := by simp; omega
    have d2 : ((c.toNat : Int) == 9) = b := by
      rw [← h]
      simp only [h1, decide_false, Bool.false_or]
      rw [Bool.eq_iff_iff, beq_iff_eq, decide_eq_true_eq]
      omega
    clear h h1
    go_enter Try.func29, Try.ntmps29
    go_wp2_with fail
    go_ret
    exact ⟨rfl, rfl⟩
set_option maxRecDepth 100000 in
/-- ref.Same. -/
theorem rsame7 (s u : ByteArray) (b : Bool) (w : World) (hs : s.size ≤ 1000000) (hu : u.size ≤ 1000000) (h : decide (lowS s = lowS u) = b) :
    Calls Try.prog 17 #[.string s, .string u] w fun e w' => e = .returned (.bool b) ∧ Below w.heap.size w w' := by
  obtain ⟨t1, h1⟩ : ∃ t1, lowS s = t1 := ⟨_, rfl⟩
  obtain ⟨t2, h2⟩ : ∃ t2, lowS u = t2 := ⟨_, rfl⟩
  rw [h1, h2, ← seq_b7] at h
  have H1 := Lib.hid h1
  have H2 := Lib.hid h2
  have HS := Lib.hid hs
  have HU := Lib.hid hu
  clear h1 h2 hs hu
  go_enter Try.func17, Try.ntmps17
  go_wp2_with (first
    | (go_at_call 16; (with_reducible refine (rlower7 s t1 w HS.out H1.out).mono ?_); rintro e w1 ⟨rfl, hb1⟩)
    | (go_at_call 16; (with_reducible refine (rlower7 u t2 w1 HU.out H2.out).mono ?_); rintro e w2 ⟨rfl, hb2⟩)
    | fail)
  go_ret
  exact ⟨rfl, stp hb1 hb2⟩
end Hx
end Go.Proofs.Ytncklfmpnbdmcaa
