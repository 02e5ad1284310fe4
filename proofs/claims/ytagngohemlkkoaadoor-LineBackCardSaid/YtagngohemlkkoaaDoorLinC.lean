/-
  The document's Cut at a blank.
-/
import Derived.Test.YtagngohemlkkoaaDoorAscU
import Derived.Test.YtagngohemlkkoaaDoorLinM
namespace Go.Proofs.YtagngohemlkkoaaDoor
open Go.RowKit
namespace Hx
open As Ln
set_option linter.unusedVariables false
theorem cutG_step {l : List UInt8} {k : Nat} {c : UInt8} (h : l[k]? = some c) (cur : List UInt8) : cutG cur (l.drop k) = if c.toNat = 32 then cur :: cutG [] (l.drop (k + 1)) else cutG (cur ++ [c]) (l.drop (k + 1)) := by
  obtain ⟨hk, e⟩ := List.getElem?_eq_some_iff.1 h
  rw [List.drop_eq_getElem_cons hk, e]
  rfl
set_option maxHeartbeats 4000000 in
set_option maxRecDepth 100000 in
/-- ref.Cut, by blanks. -/
theorem rcutB (s : ByteArray) (w : World) (hm : s.size ≤ 1000000) :
    Calls Tryd.prog 25 #[.string s, .int .u8 32] w fun e w' => Below w.heap.size w w' ∧ ∃ A c, e = .returned (.slice A (cutB s.data.toList).length c) ∧ (A = none → c = 0) ∧ RdG encS w' w'.heap.size A ((cutB s.data.toList).map mkB) := by
  obtain ⟨i0, hi, hz0, hz1, hz2⟩ := info_parts infoS
  have HI := Lib.hid hi
  have HZ0 := Lib.hid hz0
  have HZ1 := Lib.hid hz1
  have HZ2 := Lib.hid hz2
  have HM := Lib.hid hm
  clear hi hz0 hz1 hz2 hm
  go_enter Tryd.func25, Tryd.ntmps25
  go_wp2_with fail
  go_loopg [5, 6, 7] s.size (fun gg v f i wr => ∃ (k a : Nat) (done : List (List UInt8)), k + gg = s.size ∧ a ≤ k ∧ f = .int .i64 a ∧ i = .int .i64 k ∧ wr.ownsRow w.heap.size 9 1 v done.length ((done.map mkB).map encS) ∧ Below w.heap.size w wr ∧ cutB s.data.toList = done ++ cutG ((s.data.toList.drop a).take (k - a)) (s.data.toList.drop k) ∧ done.length ≤ k)
  case atStart => exact ⟨0, 0, [], by omega, Nat.le_refl _, rfl, rfl, World.ownsRow_nil _ _ _ _, Below.refl _ _, by simp [cutB], Nat.le_refl _⟩
  case round =>
    obtain ⟨k, a, done, hk, ha, rfl, rfl, hown, hbw, hcut, hdl⟩ := hrel
    have HO := Lib.hid hown
    have HBW := Lib.hid hbw
    have HC := Lib.hid hcut
    have hsz := hbw.size
    have hMM := HM.out
    by_cases hlt : k < s.size
    · obtain ⟨c, hc, hat⟩ := byte_at s k hlt
      have bk : (0 : Int) ≤ (k : Int) ∧ (k : Int) < (s.size : Int) := by omega
      have ba : (0 : Int) ≤ (a : Int) ∧ (a : Int) ≤ (k : Int) := by omega
      have bs : (k : Int) ≤ (s.size : Int) := by omega
      have hst := cutG_step hc ((s.data.toList.drop a).take (k - a))
      by_cases h32 : c.toNat = 32
      · have d1 : ((c.toNat : Int) == 32) = true := by simp; omega
        have d2 : (c.toNat == 32) = true := by simpa using h32
        rw [if_pos h32] at hst
        obtain ⟨x, hx⟩ : ∃ x, s.extract a k = x := ⟨_, rfl⟩
        have hxm : x = mkB ((s.data.toList.drop a).take (k - a)) := by rw [← hx]; exact extract_mid s a k
        have HN : Hid (cutB s.data.toList = (done ++ [(s.data.toList.drop a).take (k - a)]) ++ cutG ((s.data.toList.drop (k + 1)).take (k + 1 - (k + 1))) (s.data.toList.drop (k + 1))) := by
          show _ = _
          rw [HC.out, hst]
          simp
        have HX := Lib.hid hxm
        clear hown hbw hcut hc hst hxm h32
        go_wp2_with (first
          | (at_builtin; refine wpList_append_rdg encS_one rfl (.tmp 19) (.tmp 24) 54 rfl w.heap.size 9 i0 (.string ByteArray.empty) 16 Tryd.underlying54 HI.out HZ0.out HZ1.out HZ2.out (by decide) rfl _ done.length _ rfl (HO.out.alloc (.cells #[.string x] 9)) (wr.heap.size + 1) (some ⟨wr.heap.size, 0, none⟩) 1 1 [x] rfl (RdG.new (enc := encS) wr 9 [x]) rfl (fun h => by cases h) (by omega) (by rw [World.size_alloc]; omega) ?_; intro v4 w4 hown4 hgr4; have HO4 := Lib.hid hown4; have HG4 := Lib.hid hgr4; clear hown4 hgr4)
          | fail)
        have hb4 : Below w.heap.size w w4 := (HBW.out.alloc hsz _).grown HG4.out (by rw [World.size_alloc]; omega) (fun g hg => (HO.out.lt g hg).1)
        go_roundg (gk - 1)
        case rel =>
          refine ⟨k + 1, k + 1, done ++ [(s.data.toList.drop a).take (k - a)], by omega, Nat.le_refl _, by go_num, by go_num, ?_, hb4, HN.out, by simp; omega⟩
          rw [List.length_append, List.map_append, List.map_append]
          have := HO4.out
          rw [HX.out] at this
          exact this
        case measure => omega
      · have d1 : ((c.toNat : Int) == 32) = false := by simp; omega
        have d2 : (c.toNat == 32) = false := by simpa using h32
        rw [if_neg h32, ← mid_snoc hc ha] at hst
        have HN : Hid (cutB s.data.toList = done ++ cutG ((s.data.toList.drop a).take (k + 1 - a)) (s.data.toList.drop (k + 1))) := by
          show _ = _
          rw [HC.out, hst]
        clear hown hbw hcut hc hst h32
        go_wp2_with fail
        go_roundg (gk - 1)
        case rel => exact ⟨k + 1, a, done, by omega, by omega, rfl, by go_num, HO.out, HBW.out, HN.out, by omega⟩
        case measure => omega
    · obtain rfl : s.size = k := by omega
      have ba : (0 : Int) ≤ (a : Int) ∧ (a : Int) ≤ (s.size : Int) := by omega
      have ba2 : a ≤ s.size := ha
      obtain ⟨x, hx⟩ : ∃ x, s.extract a s.size = x := ⟨_, rfl⟩
      have hxm : x = mkB ((s.data.toList.drop a).take (s.size - a)) := by rw [← hx]; exact extract_mid s a s.size
      have HF : Hid (cutB s.data.toList = done ++ [(s.data.toList.drop a).take (s.size - a)]) := by
        show _ = _
        have hd : s.data.toList.drop s.size = [] := List.drop_of_length_le (by rw [ba_len7]; exact Nat.le_refl _)
        rw [HC.out, hd]
        rfl
      have HX := Lib.hid hxm
      clear hown hbw hcut hxm
      go_wp2_with (first
        | (at_builtin; refine wpList_append_rdg encS_one rfl (.tmp 28) (.tmp 32) 54 rfl w.heap.size 9 i0 (.string ByteArray.empty) 16 Tryd.underlying54 HI.out HZ0.out HZ1.out HZ2.out (by decide) rfl _ done.length _ rfl (HO.out.alloc (.cells #[.string x] 9)) (wr.heap.size + 1) (some ⟨wr.heap.size, 0, none⟩) 1 1 [x] rfl (RdG.new (enc := encS) wr 9 [x]) rfl (fun h => by cases h) (by omega) (by rw [World.size_alloc]; omega) ?_; intro v4 w4 hown4 hgr4; rw [← List.map_append] at hown4; obtain ⟨A4, k4, rfl, hz4, hr4, hl4⟩ := own_any hown4; have HR4 := Lib.hid hr4; have HZ4 := Lib.hid hz4; have HG4 := Lib.hid hgr4; clear hown4 hgr4 hr4 hz4 hl4)
        | fail)
      have hb4 : Below w.heap.size w w4 := (HBW.out.alloc hsz _).grown HG4.out (by rw [World.size_alloc]; omega) (fun g hg => (HO.out.lt g hg).1)
      go_ret
      refine ⟨hb4, A4, k4, ?_, HZ4.out, ?_⟩
      · rw [HF.out, List.length_append]; rfl
      · rw [HF.out, List.map_append]
        have := HR4.out
        rw [HX.out] at this
        exact this
end Hx
end Go.Proofs.YtagngohemlkkoaaDoor
