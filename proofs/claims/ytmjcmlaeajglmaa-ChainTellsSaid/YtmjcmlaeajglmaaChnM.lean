/-
  What chain's maker of keys yields.
-/
import Derived.Test.YtmjcmlaeajglmaaChnL
namespace Go.Proofs.Ytmjcmlaeajglmaa
open Go.RowKit Go.Shelf
namespace Hx
open Go Wd Sh
set_option linter.unusedVariables false
attribute [local go_sem] Oper.semAt_some

theorem behind_any (s : ByteArray) (w : World) :
    Calls Try.prog 37 #[.string s] w fun e w' => e = .returned (.func (.func 52) #[] #[.pointer (some ⟨w.heap.size, 0, none⟩)]) ∧ w' = w.alloc (.cells #[.string s] 9) := by
  have hmf : ∀ (fn : Fn) (first cap : Array Value) (w : World), (Instr.makeFunc fn first cap).run Try.prog w = .ok (.func fn first cap) w := fun _ _ _ _ => rfl
  go_enter Try.func37, Try.ntmps37
  go_wp2
  go_ret
  exact ⟨rfl, rfl⟩

/-- Where the loop stands: at most g rounds are to come. -/
def CntRel (J : Nat → World → Prop) (s : Nat → ByteArray) (T M : Nat) (W : World) (g : Nat) : Prop := ∃ k, k + g = M ∧ J k W ∧ W.heap[T]? = some (.cells #[.string (s k)] 9 (0, 0))
theorem CntRel.less {J : Nat → World → Prop} {s : Nat → ByteArray} {T M : Nat} {W V : World} (h : CntRel J s T M W (leastOf (CntRel J s T M W))) (g' : Nat) (hv : CntRel J s T M V g') (hlt : g' < leastOf (CntRel J s T M W)) : leastOf (CntRel J s T M V) < leastOf (CntRel J s T M W) :=
  Nat.lt_of_le_of_lt ((leastOf_spec ⟨g', hv⟩).2 g' hv) hlt

set_option maxHeartbeats 4000000 in
set_option maxRecDepth 100000 in
theorem behind1_ok (m : Nat) (hm : 3 ≤ m) (s : Nat → ByteArray) (hs : ∀ k, keyB (s k) = s (k + 1)) (hz : ∀ k, (s k).size ≤ 16384) (T M B : Nat) :
    CntSeq Fence.wide m Try.prog 52 #[.pointer (some ⟨T, 0, none⟩)] (fun k => #[.string (s (k + 1)), .int .i64 0]) T M B (fun k => .string (s k)) 9 := by
  intro l J Jx W hB hJa hJb hJM hY h0 hT
  refine callsIn_of_wp Try.func52 rfl trivial ?_ rfl
  simp only [Try.ntmps52, List.size_toArray, List.length_cons, List.length_nil, Nat.reduceAdd, Nat.reduceSub, Array.replicate_succ, Array.replicate_zero, List.push_toArray, List.append_toArray, List.nil_append, List.cons_append]
  have h1 : 1 ≤ m := by omega
  have h2 : 1 ≤ m - 1 := by omega
  gi_wp2
  gi_loopw [] (fun wr => ∃ g : Nat, CntRel J s T M wr g) (fun wr => leastOf (CntRel J s T M wr))
  case atStart => exact ⟨M, 0, by omega, h0, hT⟩
  case round =>
    have hmin := (leastOf_spec hrel).1
    obtain ⟨g0, hg0⟩ : ∃ g0, leastOf (CntRel J s T M wr) = g0 := ⟨_, rfl⟩
    have HMIN := Lib.hid hmin
    rw [hg0] at hmin
    have HG := Lib.hid hg0
    obtain ⟨k, hk, hJ, ht⟩ := hmin
    obtain ⟨a, ha⟩ : ∃ a, s k = a := ⟨_, rfl⟩
    obtain ⟨b, hb⟩ : ∃ b, s (k + 1) = b := ⟨_, rfl⟩
    have hab : keyB a = b := by rw [← ha, ← hb]; exact hs k
    have haz : a.size ≤ 16384 := by rw [← ha]; exact hz k
    have hY' := hY k
    rw [ha, hb] at hY'
    rw [ha] at ht
    have hc := cell_row1 ht
    have HY := Lib.hid hY'
    have HT := Lib.hid ht
    have HJ := Lib.hid hJ
    have HK := Lib.hid hk
    have HA := Lib.hid ha
    have HB := Lib.hid hb
    have HAB := Lib.hid hab
    have HAZ := Lib.hid haz
    have HJB := Lib.hid hJb
    have HJM := Lib.hid hJM
    have HJA := Lib.hid hJa
    clear hY hY' ht hJ hk ha hb hab haz hrel hs hz h0 hT hJa hJb hJM hg0 hB
    gi_wp2_with (first
      | (refine ⟨trivial, ?_⟩; gi_at_call 21; (with_reducible refine (callsIn_wide.2 (next_ok a wr HAZ.out b HAB.out)).mono ?_); rintro e w1 ⟨rfl, hb1⟩; have HJ1 := Lib.hid (HJA.out k wr w1 HJ.out hb1); have HT1 := Lib.hid (heap_kept HT.out hb1); obtain ⟨fn, tmps, assign, body, hy, hR⟩ := HY.out w1 HJ1.out HT1.out; have HR := Lib.hid hR; clear hR)
      | fail)
    refine HR.out.mono ?_
    rintro e V (⟨rfl, hJv, htv⟩ | ⟨rfl, hxv⟩)
    · have htv' := htv.trans HT1.out
      have c3 := cell_row1 htv'
      have f3 := free_row htv'
      have HTV := Lib.hid htv'
      have HJV := Lib.hid hJv
      clear htv htv' hJv hc hy
      gi_wp2
      have hkM : k + 1 ≤ M := HJM.out _ _ HJV.out
      have hrel2 : CntRel J s T M (V.setCell ⟨T, 0, none⟩ (.string b)) (g0 - 1) := ⟨k + 1, by have := HK.out; omega, HJB.out _ _ _ HJV.out, by rw [HB.out]; exact row_set HTV.out _⟩
      go_roundw
      case rel => exact ⟨g0 - 1, hrel2⟩
      case measure => exact HMIN.out.less (g0 - 1) hrel2 (by have := HG.out; have := HK.out; omega)
    · gi_wp2
      refine bodyPost_ret (results_none rfl _ _ _) rfl ?_
      exact ⟨⟨_, rfl⟩, hxv⟩

set_option maxHeartbeats 4000000 in
set_option maxRecDepth 100000 in
theorem behind1_many (m : Nat) (hm : 3 ≤ m) (s : ByteArray) (hz : 16384 < s.size) (T B : Nat) :
    CntSeq Fence.wide m Try.prog 52 #[.pointer (some ⟨T, 0, none⟩)] (fun k => #[.string ⟨#[]⟩, .int .i64 4]) T 0 B (fun k => .string s) 9 := by
  intro l J Jx W hB hJa hJb hJM hY h0 hT
  refine callsIn_of_wp Try.func52 rfl trivial ?_ rfl
  simp only [Try.ntmps52, List.size_toArray, List.length_cons, List.length_nil, Nat.reduceAdd, Nat.reduceSub, Array.replicate_succ, Array.replicate_zero, List.push_toArray, List.append_toArray, List.nil_append, List.cons_append]
  have h1 : 1 ≤ m := by omega
  have h2 : 1 ≤ m - 1 := by omega
  have hc := cell_row1 hT
  have HY := Lib.hid (hY 0)
  have HT := Lib.hid hT
  have HJ := Lib.hid h0
  have HZ := Lib.hid hz
  have HJM := Lib.hid hJM
  have HJA := Lib.hid hJa
  clear hY hT h0 hJa hJb hJM hB hz
  gi_wp2
  gi_loopw [] (fun wr => wr = W) (fun wr => 0)
  case atStart => rfl
  case round =>
    have hw : W = wr := hrel.symm
    subst hw
    gi_wp2_with (first
      | (refine ⟨trivial, ?_⟩; gi_at_call 21; (with_reducible refine (callsIn_wide.2 (next_many s W HZ.out)).mono ?_); rintro e w1 ⟨rfl, hb1⟩; have HJ1 := Lib.hid (HJA.out 0 W w1 HJ.out hb1); have HT1 := Lib.hid (heap_kept HT.out hb1); obtain ⟨fn, tmps, assign, body, hy, hR⟩ := HY.out w1 HJ1.out HT1.out; have HR := Lib.hid hR; clear hR)
      | fail)
    refine HR.out.mono ?_
    rintro e V (⟨rfl, hJv, htv⟩ | ⟨rfl, hxv⟩)
    · exact absurd (HJM.out _ _ hJv) (by decide)
    · gi_wp2
      refine bodyPost_ret (results_none rfl _ _ _) rfl ?_
      exact ⟨⟨_, rfl⟩, hxv⟩
end Hx
end Go.Proofs.Ytmjcmlaeajglmaa
