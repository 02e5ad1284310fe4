/-
  Texts of one seat, put together: PkG.
-/
import Derived.Test.YtbjgfaflikgobaaDoorH18
import Derived.Test.YtbjgfaflikgobaaDoorH02
import Derived.Deep.RegionHeld3
namespace Go.Proofs.YtbjgfaflikgobaaDoor
open Go.RowKit
namespace Hx
open Lx Tr Tx Nmb Es
set_option linter.unusedVariables false
theorem givenN_next {l : List Pr} {j : Nat} (hj : j < l.length) {s v : ByteArray} (hs : s.data.toList = (l[j]'hj).name) (hv : v.data.toList = (l[j]'hj).value) :
    ((givenN (l.take (j + 1))).map abOf).flatMap abCells = ((givenN (l.take j)).map abOf).flatMap abCells ++ [.string ⟨#[]⟩, .string s, .string v] := by
  rw [List.take_succ_eq_append_getElem hj]
  have e1 : s = ⟨(l[j]'hj).name.toArray⟩ := ba_x (by rw [hs])
  have e2 : v = ⟨(l[j]'hj).value.toArray⟩ := ba_x (by rw [hv])
  rw [e1, e2]
  unfold givenN
  rw [List.map_append, List.map_append, List.flatMap_append]
  rfl
/-- What given answers. -/
def GivenTo (l : List Pr) (w : World) (e : Ending) (w' : World) : Prop := Below w.heap.size w w' ∧ ∃ A c, e = .returned (.slice A l.length c) ∧ w'.ownsRow w.heap.size 61 3 (.slice A l.length c) l.length (((givenN l).map abOf).flatMap abCells)
set_option maxHeartbeats 16000000 in
set_option maxRecDepth 100000 in
theorem rgiven10 (A : Option Addr) (n cp : Nat) (l : List Pr) (w : World) (hr : RdC PrC w w.heap.size A l) (hn : l.length = n) (hm : n ≤ 1000000) :
    Calls Tryd.prog 25 #[.slice A n cp] w (GivenTo l w) := by
  obtain ⟨j0, hj, hy0, hy1, hy2⟩ := info_parts infoAt
  have HJ := Lib.hid hj
  have HY0 := Lib.hid hy0
  have HY1 := Lib.hid hy1
  have HY2 := Lib.hid hy2
  have HR := Lib.hid hr
  have HN := Lib.hid hn
  have HM := Lib.hid hm
  clear hr hn hj hy0 hy1 hy2
  go_enter Tryd.func25, Tryd.ntmps25
  go_wp2_with fail
  go_loopg [3, 4] n (fun gg x3 i wr => ∃ k : Nat, k + gg = n ∧ i = .int .i64 k ∧ wr.ownsRow w.heap.size 61 3 x3 k (((givenN (l.take k)).map abOf).flatMap abCells) ∧ Below w.heap.size w wr)
  case atStart => exact ⟨0, by omega, rfl, World.ownsRow_nil _ _ _ _, Below.refl _ _⟩
  case round =>
    obtain ⟨k, hkg, rfl, hown, hbw⟩ := hrel
    obtain ⟨Aa, ca, rfl⟩ := own_form2 hown
    have HO := Lib.hid hown
    have HBW := Lib.hid hbw
    have hsz := hbw.size
    by_cases hlt : k < n
    · have hk1 : k < l.length := by rw [HN.out]; exact hlt
      obtain ⟨b0, off, y, z, rfl, hbB, c1, c2, hy, hz⟩ := pr_atP HR.out hk1
      have HBB := Lib.hid hbB
      have C1 := Lib.hid c1
      have C2 := Lib.hid c2
      have d1 := (hbw.cell (p := ⟨b0, _, none⟩) hbB).trans c1
      have d2 := (hbw.cell (p := ⟨b0, _, none⟩) hbB).trans c2
      have HK : Hid (∀ W, Below w.heap.size w W → W.cell? ⟨b0, off + k * 2, none⟩ = some (.string y) ∧ W.cell? ⟨b0, off + k * 2 + 1, none⟩ = some (.string z)) := Lib.hid fun W hW => ⟨(hW.cell (p := ⟨b0, _, none⟩) HBB.out).trans C1.out, (hW.cell (p := ⟨b0, _, none⟩) HBB.out).trans C2.out⟩
      have HNX := Lib.hid (givenN_next hk1 hy hz)
      have bk : (0 : Int) ≤ (k : Int) ∧ (k : Int) < (n : Int) := by omega
      have HK5 : Hid (k + 1 ≤ 1000000) := Lib.hid (by have := HM.out; omega)
      clear hown hbw hy hz c1 c2
      go_wp2_with fail
      clear d1 d2
      go_region_held3 (fun W => W.cell? ⟨b0, off + k * 2, none⟩ = some (.string y) ∧ W.cell? ⟨b0, off + k * 2 + 1, none⟩ = some (.string z))
        (first | exact HK.out _ HBW.out.drew | exact HK.out _ (HBW.out.alloc hsz _).drew | exact HK.out _ (HBW.out.drew.alloc hsz _) | exact HK.out _ ((HBW.out.alloc hsz _).drew.grown hgr4 (by simp; omega) (fun g hg => (HO.out.lt g hg).1)) | exact HK.out _ ((HBW.out.drew.alloc hsz _).grown hgr4 (by simp; omega) (fun g hg => (HO.out.lt g hg).1)))
        ((first
          | (refine step_append_lies _ (by rfl) (.tmp 11) (.tmp 23) 48 (by rfl) w.heap.size 61 j0 (.agg #[.string ⟨#[]⟩, .string ⟨#[]⟩, .string ⟨#[]⟩]) 3 48 Tryd.underlying48 HJ.out HY0.out HY1.out HY2.out rfl (by decide) _ k _ (by rfl) (own_belowK HO.out (stpA (Below.refl _ _) _).drew (Nat.le_refl _)) ⟨wr.heap.size, 0, none⟩ 1 1 [.string ⟨#[]⟩, .string y, .string z] (by rfl) (by rfl) (fun j u h => new_at wr [.string ⟨#[]⟩, .string y, .string z] 61 _ rfl j u h) (by simp [Value.oneCell']) (by decide) (by have := HK5.out; unfold maxLen; omega) (by have := HK5.out; omega) (by simp; omega) (wr.heap.size + 1) (by simp) ?_; intro gg cap w4 hown4 hgr4 hat4 hlt4)))
      have hb4 : Below w.heap.size w w4 := (HBW.out.alloc hsz _).drew.grown hgr4 (by simp; omega) (fun g hg => (HO.out.lt g hg).1)
      have HB4 := Lib.hid hb4
      rw [← HNX.out] at hown4
      have HO4 := Lib.hid hown4
      clear hb4 hown4 hgr4 hat4 hlt4
      go_wp2_with fail
      go_roundg (gk - 1)
      case measure => omega
      case rel => exact ⟨k + 1, by omega, by go_num, HO4.out, HB4.out⟩
    · obtain rfl : k = n := by omega
      have hjj : ¬ ((k : Int) < (k : Int)) := by omega
      have HF : Hid (GivenTo l w (.returned (.slice Aa k ca)) wr) := Lib.hid ⟨hbw, Aa, ca, by rw [HN.out], by
        rw [List.take_of_length_le (by rw [HN.out]; exact Nat.le_refl _)] at hown
        rw [HN.out]
        exact hown⟩
      clear hown hbw
      go_wp2_with fail
      go_ret
      exact HF.out
theorem blk_four {c : UInt8} (h : blk c = true) : c = 32 ∨ c = 9 ∨ c = 10 ∨ c = 13 := by
  unfold blk at h
  simp only [Bool.or_eq_true, beq_iff_eq] at h
  rcases h with ((h | h) | h) | h
  · exact .inl h
  · exact .inr (.inl h)
  · exact .inr (.inr (.inl h))
  · exact .inr (.inr (.inr h))
theorem blk_none {c : UInt8} (h : blk c = false) : c.toNat ≠ 32 ∧ c.toNat ≠ 9 ∧ c.toNat ≠ 10 ∧ c.toNat ≠ 13 := by
  unfold blk at h
  simp only [Bool.or_eq_false_iff, beq_eq_false_iff_ne, ne_eq] at h
  obtain ⟨⟨⟨h1, h2⟩, h3⟩, h4⟩ := h
  exact ⟨fun e => h1 (UInt8.toNat_inj.1 e), fun e => h2 (UInt8.toNat_inj.1 e), fun e => h3 (UInt8.toNat_inj.1 e), fun e => h4 (UInt8.toNat_inj.1 e)⟩
set_option maxHeartbeats 4000000 in
set_option maxRecDepth 100000 in
theorem rblank10 (s : ByteArray) (w : World) (hm : s.size ≤ 1000000) (q : Bool) (hq : s.data.toList.all blk = q) :
    Calls Tryd.prog 23 #[.string s] w fun e w' => e = .returned (.bool q) ∧ Below w.heap.size w w' := by
  have HM := Lib.hid hm
  have HQ := Lib.hid hq
  clear hm hq
  go_enter Tryd.func23, Tryd.ntmps23
  go_wp2_with fail
  go_loopw [3] (fun i wr => ∃ k : Nat, k ≤ s.size ∧ i = .int .i64 k ∧ (s.data.toList.take k).all blk = true ∧ Below w.heap.size w wr) (fun i _ => s.size - (intOf i).toNat)
  case atStart => exact ⟨0, Nat.zero_le _, rfl, rfl, Below.refl _ _⟩
  case round =>
    obtain ⟨k, hk, rfl, hn, hbw⟩ := hrel
    have hs := HM.out
    have HBW := Lib.hid hbw
    by_cases hlt : k < s.size
    · obtain ⟨c, hc⟩ : ∃ c, s[k]'hlt = c := ⟨_, rfl⟩
      have hca : ∀ h, s[k]'h = c := fun _ => hc
      have hkl : k < s.data.toList.length := by rw [ba_len5]; exact hlt
      have hck : s.data.toList[k]'hkl = c := (at_l s k hlt).trans hc
      have bk : (0 : Int) ≤ (k : Int) ∧ (k : Int) < (s.size : Int) := by omega
      cases hb : blk c
      · obtain rfl : q = false := by
          rw [← HQ.out, List.all_eq_false]
          exact ⟨c, by rw [← hck]; exact List.getElem_mem hkl, by rw [hb]; decide⟩
        obtain ⟨n1, n2, n3, n4⟩ := blk_none hb
        obtain ⟨m, hcm⟩ : ∃ m, c.toNat = m := ⟨_, rfl⟩
        rw [hcm] at n1 n2 n3 n4
        have g1 : ((m : Int) != 32) = true := by simp; omega
        have g2 : ((m : Int) != 9) = true := by simp; omega
        have g3 : ((m : Int) != 10) = true := by simp; omega
        have g4 : ((m : Int) != 13) = true := by simp; omega
        have e1 : ¬ (m : Int) = 32 := by omega
        have e2 : ¬ (m : Int) = 9 := by omega
        have e3 : ¬ (m : Int) = 10 := by omega
        have e4 : ¬ (m : Int) = 13 := by omega
        clear hn hc hck hb n1 n2 n3 n4
        go_wp2_with fail
        go_ret
        exact ⟨rfl, HBW.out⟩
      · have HV : Hid ((s.data.toList.take (k + 1)).all blk = true) := Lib.hid (by rw [List.take_succ_eq_append_getElem hkl, List.all_append, hn, hck]; simp [hb])
        rcases blk_four hb with rfl | rfl | rfl | rfl
        all_goals
          clear hn hc hck hb
          go_wp2_with fail
          go_roundw
          case rel => exact ⟨k + 1, by omega, by go_num, HV.out, HBW.out⟩
          case measure => simp [intOf]; omega
    · obtain rfl : q = true := by
        rw [List.take_of_length_le (by rw [ba_len5]; omega)] at hn
        rw [← HQ.out, hn]
      clear hn hbw
      go_wp2_with fail
      go_ret
      exact ⟨rfl, HBW.out⟩
end Hx
end Go.Proofs.YtbjgfaflikgobaaDoor
